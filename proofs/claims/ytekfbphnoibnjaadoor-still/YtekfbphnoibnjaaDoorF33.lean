/-
  How many bytes a film takes: frames of one colour each, and the last frame once more; plain arithmetic (for the law Still). The program's Encode.
-/
import Derived.Test.YtekfbphnoibnjaaDoorF32
import Derived.Test.YtekfbphnoibnjaaDoorF05
import Derived.Test.YtekfbphnoibnjaaDoorF30
namespace Go.Proofs.YtekfbphnoibnjaaDoor
namespace Sc
open Pk (Bts ones lowb dig num kind lighter better blockL areaL filmL IsZ)
open Flm (Px okPx spots)
theorem comb {a b c d x y z : Nat} (h1 : a * x <= b * y) (h2 : c * y <= d * z) : a * c * x <= b * d * z := by
 calc a * c * x = c * (a * x) := by ac_rfl
  _ <= c * (b * y) := Nat.mul_le_mul_left _ h1
  _ = b * (c * y) := by ac_rfl
  _ <= b * (d * z) := Nat.mul_le_mul_left _ h2
  _ = _ := by ac_rfl
theorem val_less {M : Nat} {a b : WS} (ha : Pack.Ok a) (hb : Pack.Ok b) (h : a.m < b.m) (hm : b.m <= M) : val M b <= val M a := by
 unfold val
 have h0 := ha.r0
 have h1 := hb.r1
 rw [show M - a.m = (M - b.m) + 1 + (b.m - a.m - 1) by omega, Nat.pow_add, Nat.pow_succ]
 have h2 : 0 < 256 ^ (b.m - a.m - 1) := Nat.pow_pos (by decide)
 calc b.rng.toNat * 256 ^ (M - b.m) <= (a.rng.toNat * 256) * 256 ^ (M - b.m) := Nat.mul_le_mul_right _ (by omega)
  _ = a.rng.toNat * (256 ^ (M - b.m) * 256) * 1 := by rw [Nat.mul_one]; ac_rfl
  _ <= a.rng.toNat * (256 ^ (M - b.m) * 256) * 256 ^ (b.m - a.m - 1) := Nat.mul_le_mul_left _ h2
  _ = _ := by ac_rfl
theorem val_lighter {M : Nat} {a b : WS} (ha : Pack.Ok a) (hb : Pack.Ok b) (h : lighter a b = true) (hm : b.m <= M) : val M b <= val M a := by
 unfold lighter at h
 split at h
 ·rename_i e
  have := of_decide_eq_true h
  unfold val
  rw [e]
  exact Nat.mul_le_mul_right _ (by omega)
 ·exact val_less ha hb (of_decide_eq_true h) hm
theorem val_heavier {M : Nat} {a b : WS} (ha : Pack.Ok a) (hb : Pack.Ok b) (h : ¬ lighter a b = true) (hm : a.m <= M) : val M a <= val M b := by
 unfold lighter at h
 split at h
 ·rename_i e
  have : ¬ b.rng < a.rng := fun k => h (decide_eq_true k)
  unfold val
  rw [e]
  exact Nat.mul_le_mul_right _ (by omega)
 ·rename_i e
  have : ¬ a.m < b.m := fun k => h (decide_eq_true k)
  exact val_less hb ha (by omega) hm
def May (M : Nat) (t : WS) (l : Bts) : Prop := Pack.Ok (Pack.puts t l) /\ (Pack.puts t l).m <= M
theorem May.better {M : Nat} {t : WS} {b : Bts} {c : Option Bts} (hb : May M t b) (hc : ∀ l, c = some l -> May M t l) : May M t (better t b c) := by
 rcases Pk.better_or t b c with e | ⟨l, e1, e2⟩
 ·rw [e]; exact hb
 ·rw [e2]; exact hc l e1
theorem better_old {M : Nat} {t : WS} {b : Bts} {c : Option Bts} (hb : May M t b) (hc : ∀ l, c = some l -> May M t l) : val M (Pack.puts t b) <= val M (Pack.puts t (better t b c)) := by
 unfold Pk.better
 cases c with
 | none => exact Nat.le_refl _
 | some l =>
  dsimp only
  split
  ·rename_i h
   exact val_lighter (hc l rfl).1 hb.1 h hb.2
  ·exact Nat.le_refl _
theorem better_new {M : Nat} {t : WS} {b l : Bts} (hb : May M t b) (hc : May M t l) : val M (Pack.puts t l) <= val M (Pack.puts t (better t b (some l))) := by
 unfold Pk.better
 dsimp only
 split
 ·exact Nat.le_refl _
 ·rename_i h
  exact val_heavier hc.1 hb.1 h hc.2
theorem map_one {α β : Type} {f : α -> β} {c : β} : ∀ (l : List α), (∀ q ∈ l, f q = c) -> l.map f = List.replicate l.length c
 | [], _ => rfl
 | q :: l, h => by rw [List.map_cons, List.length_cons, List.replicate_succ, h q (by simp), map_one l (fun p hp => h p (by simp [hp]))]
theorem tallies_one (c : Px) : ∀ (n : Nat) (k : Int), ∃ k', Pk.tallies (List.replicate n c) [(c, k)] = some [(c, k')]
 | 0, k => ⟨k, rfl⟩
 | n + 1, k => by
  rw [List.replicate_succ]
  have e : Pk.find c [(c, k)] = 0 := by unfold Pk.find; rw [if_pos rfl]
  unfold Pk.tallies
  rw [if_pos (.inl (by rw [e]; exact Nat.zero_lt_one))]
  have e2 : Pk.tally [(c, k)] c = [(c, k + 1)] := by unfold Pk.tally; rw [e]; rfl
  rw [e2]
  exact tallies_one c n (k + 1)
theorem colours_one {z : Nat} {T : List Px} {c : Px} {x y n : Nat} (hn : 0 < n) (h : ∀ q ∈ spots x y n, Pk.pixT z T q = c) : Pk.coloursL z T x y n = some [c] := by
 unfold Pk.coloursL
 rw [map_one _ h, Flm.spots_len]
 obtain ⟨k, hk⟩ : ∃ k, n * n = k + 1 := ⟨n * n - 1, by have := Nat.mul_pos hn hn; omega⟩
 rw [hk, List.replicate_succ]
 unfold Pk.tallies
 rw [if_pos (.inr (by decide)), show Pk.tally [] c = [(c, 1)] from rfl]
 obtain ⟨k', e⟩ := tallies_one c k 1
 rw [e]
 rfl
theorem pix_one {z : Nat} {T : List Px} {c : Px} (hT : T = List.replicate (z * z) c) {q : Nat × Nat} (h : q ∈ spots 0 0 z) : Pk.pixT z T q = c := by
 obtain ⟨⟨_, h1⟩, _, h2⟩ := Pk.spots_mem.1 h
 unfold Pk.pixT
 have : q.2 * z + q.1 < z * z := by
  calc q.2 * z + q.1 < q.2 * z + z := by omega
   _ = (q.2 + 1) * z := by rw [Nat.succ_mul]
   _ <= z * z := Nat.mul_le_mul_right _ (by omega)
 rw [hT, List.getD_eq_getElem?_getD, List.getElem?_replicate, if_pos this]
 rfl
theorem plain_one {z : Nat} {T : List Px} {c : Px} (hz : 0 < z) (hT : T = List.replicate (z * z) c) : Pk.plainB z T 0 0 z = true := by
 unfold Pk.plainB
 rw [List.all_eq_true]
 intro q hq
 rw [pix_one hT hq, pix_one hT (q := (0, 0)) (Pk.spots_mem.2 ⟨⟨Nat.le_refl _, by omega⟩, Nat.le_refl _, by omega⟩)]
 exact decide_eq_true rfl
theorem area_block {z : Nat} {F : List (List Px)} {f : Nat} {t : WS} (h : Pk.plainB z (F.getD f []) 0 0 z = true) : areaL z F f (Flm.cuts z) t 0 0 z = blockL z F f t 0 0 z := by
 cases Flm.cuts z with
 | zero => rfl
 | succ c =>
  unfold Pk.areaL
  dsimp only
  rw [if_pos h]
def few1 (z : Nat) (c : Px) : Bts := Pk.hd z 0 ++ (kind 0 1 ++ ([(200, 0)] ++ Pk.col1 c))
theorem num0 (k : Nat) : num k 0 = [(k, 0)] := by
 have e : dig 0 = 0 := by decide
 unfold Pk.num
 rw [e]
 rfl
theorem fewC_one {z : Nat} {T : List Px} {c : Px} (hz : 0 < z) (hT : T = List.replicate (z * z) c) : Pk.fewC z T 0 0 z = some (few1 z c) := by
 unfold Pk.fewC
 rw [colours_one hz (fun q hq => pix_one hT hq)]
 show some _ = _
 unfold few1 Pk.fewl
 dsimp only
 rw [show [c].length - 1 = 0 from rfl, num0, show [c].flatMap Pk.col1 = Pk.col1 c by simp]
 have e : ((spots 0 0 z).flatMap fun q => Pk.choice 0 (Pk.index (Pk.pixT z T q) [c])) = [] := by
  rw [List.flatMap_eq_nil_iff]
  intro q hq
  rw [pix_one hT hq]
  have : Pk.index c [c] = 0 := by unfold Pk.index; rw [if_pos rfl]
  rw [this]
  rfl
 rw [e, List.append_nil]
def Cand (z : Nat) (l : Bts) : Prop := ∃ a b r, l = Pk.hd z 0 ++ (kind a b ++ r) /\ a <= 1 /\ b <= 1 /\ Pack.BitsOk r /\ r.length <= 14592 /\ ∀ p ∈ r, 4 < p.1 /\ (p.1 < 200 \/ 245 <= p.1)
theorem ones_in (k : Nat) : ∀ n i, ∀ p ∈ ones k i n, k + i <= p.1 /\ p.1 < k + i + n
 | 0, _, p, hp => by cases hp
 | n + 1, i, p, hp => by
  rcases List.mem_cons.1 hp with rfl | hp
  ·exact ⟨Nat.le_refl _, by show k + i < _; omega⟩
  ·have := ones_in k n (i + 1) p hp
   omega
theorem lowb_in (c m : Nat) : ∀ n, ∀ p ∈ lowb c m n, p.1 = c
 | 0, p, hp => by cases hp
 | n + 1, p, hp => by
  rcases List.mem_cons.1 hp with rfl | hp
  ·rfl
  ·exact lowb_in c m n p hp
theorem num_in {k m : Nat} (hm : m <= 1022) : ∀ p ∈ num k m, k <= p.1 /\ p.1 < k + 22 := fun p hp => by
 have hd := Pk.dig_le hm
 unfold Pk.num at hp
 rcases List.mem_append.1 hp with hp | hp
 ·have := ones_in k _ 0 p hp
  omega
 ·rcases List.mem_cons.1 hp with rfl | hp
  ·show k <= k + dig m /\ k + dig m < k + 22; omega
  ·have := lowb_in _ _ _ p hp
   omega
theorem soft_in {T : List Px} (h : ∀ p ∈ T, okPx p) (z x y n : Nat) : ∀ p ∈ Pk.softl z T x y n, 4 < p.1 /\ (p.1 < 200 \/ 245 <= p.1) := fun p hp => by
 unfold Pk.softl at hp
 obtain ⟨q, _, hp⟩ := List.mem_flatMap.1 hp
 obtain ⟨⟨a1, a2⟩, ⟨a3, a4⟩, a5, a6⟩ := Pk.turn_bds (Pk.getD_ok h (q.2 * z + q.1))
 obtain ⟨⟨b1, b2⟩, ⟨b3, b4⟩, b5, b6⟩ := Pk.expT_bds h z q.1 q.2
 unfold Pk.soft1l Pk.turnT Pk.sgn at hp
 rcases List.mem_append.1 hp with hp | hp
 ·have := num_in (Pk.fold_le (by omega) (by omega)) p hp; omega
 ·rcases List.mem_append.1 hp with hp | hp
  ·have := num_in (Pk.fold_le (by omega) (by omega)) p hp; omega
  ·have := num_in (Pk.fold_le (by omega) (by omega)) p hp; omega
theorem soft_cand {z : Nat} {T : List Px} (h : ∀ p ∈ T, okPx p) (hz : IsZ z) : Cand z (Pk.softC z T 0 0 z) := by
 refine ⟨0, 0, _, rfl, by omega, by omega, (Pk.softl_ok h z 0 0 z).1, ?_, soft_in h z 0 0 z⟩
 have h1 := (Pk.softl_ok h z 0 0 z).2
 have h3 : z * z <= 256 := by rcases hz with rfl | rfl | rfl <;> decide
 omega
theorem near00 {z : Nat} {T : List Px} {may : Nat × Nat -> Bool} {c : List Px} {q : Nat × Nat} (h : Pk.nearL may 0 0 (Pk.placesL z T z c) = some q) : q = (0, 0) := by
 have h1 := (Pk.near_some h).1
 unfold Pk.placesL at h1
 have h2 := Pk.spots_mem.1 (List.mem_filter.1 h1).1
 rw [Nat.sub_self] at h2
 exact Prod.ext (by show q.1 = 0; omega) (by show q.2 = 0; omega)
theorem copy00' (k : Nat) : Pk.copyl k (((0 : Nat) : Int) - ((0 : Nat) : Int)) (((0 : Nat) : Int) - ((0 : Nat) : Int)) = [(k, 0), (k + 24, 0)] := by
 unfold Pk.copyl Pk.sgn
 show num k 0 ++ num (k + 24) 0 = _
 rw [num0, num0]
 rfl
theorem copy_in {k : Nat} (h : 245 <= k) (h2 : k + 24 < 400) : Pack.BitsOk [(k, 0), (k + 24, 0)] /\ ∀ p ∈ ([(k, 0), (k + 24, 0)] : Bts), 4 < p.1 /\ (p.1 < 200 \/ 245 <= p.1) := by
 refine ⟨Pk.ok_cons (by omega) (.inl rfl) (Pk.ok_cons (by omega) (.inl rfl) Pk.ok_nil), fun p hp => ?_⟩
 simp at hp
 rcases hp with rfl | rfl
 ·show 4 < k /\ (k < 200 \/ 245 <= k); omega
 ·show 4 < k + 24 /\ (k + 24 < 200 \/ 245 <= k + 24); omega
theorem copy_cand {z : Nat} {T : List Px} : ∀ l, Pk.copyC z T 0 0 z = some l -> Cand z l := fun l hl => by
 unfold Pk.copyC at hl
 cases e : Pk.nearL (Pk.mayCopy 0 0 z) 0 0 (Pk.placesL z T z (Pk.content z T z (0, 0))) with
 | none => rw [e] at hl; cases hl
 | some q =>
  rw [e] at hl
  obtain rfl := near00 e
  injection hl with hl
  dsimp only at hl
  rw [copy00'] at hl
  exact ⟨1, 0, _, hl.symm, by omega, by omega, (copy_in (by omega) (by omega)).1, by show 2 <= 14592; omega, (copy_in (by omega) (by omega)).2⟩
theorem still_form {z : Nat} {F : List (List Px)} {f : Nat} {l : Bts} (hl : Pk.stillC z F f 0 0 z = some l) : l = Pk.hd z 0 ++ (kind 1 1 ++ [(310, 0), (310 + 24, 0)]) := by
 unfold Pk.stillC at hl
 split at hl
 ·cases hl
 ·cases e : Pk.nearL (fun _ => true) 0 0 (Pk.placesL z (F.getD (f - 1) []) z (Pk.content z (F.getD f []) z (0, 0))) with
  | none => rw [e] at hl; cases hl
  | some q =>
   rw [e] at hl
   obtain rfl := near00 e
   injection hl with hl
   dsimp only at hl
   rw [copy00'] at hl
   exact hl.symm
theorem still_cand {z : Nat} {F : List (List Px)} {f : Nat} : ∀ l, Pk.stillC z F f 0 0 z = some l -> Cand z l := fun l hl =>
 ⟨1, 1, _, still_form hl, by omega, by omega, (copy_in (by omega) (by omega)).1, by show 2 <= 14592; omega, (copy_in (by omega) (by omega)).2⟩
theorem Inv.hd1 {M : Nat} {t : WS} {h q : Nat} (I : Inv t h q) (z : Nat) (hm : t.m + 1 <= M) : Inv (Pack.puts t (Pk.hd z 0)) (h + 1) q /\ 4095 * 31 ^ h * val M t <= 8192 * 32 ^ h * val M (Pack.puts t (Pk.hd z 0)) := by
 unfold Pk.hd
 split
 ·exact ⟨I.more 1 0, Nat.mul_le_mul_right _ (Nat.mul_le_mul (by decide) (Nat.pow_le_pow_left (by decide) h))⟩
 ·exact I.head (by split <;> simp) 0 hm
theorem Inv.kind1 {M : Nat} {t : WS} {h q : Nat} (I : Inv t h q) {a b : Nat} (ha : a <= 1) (hm : t.m + 2 <= M) : Inv (Pack.puts t (kind a b)) (h + 2) q /\ 4095 * 31 ^ h * (4095 * 31 ^ (h + 1)) * val M t <= 8192 * 32 ^ h * (8192 * 32 ^ (h + 1)) * val M (Pack.puts t (kind a b)) := by
 have hmm : (Pack.put t 2 (a : Int)).m <= t.m + 1 := Pack.puts_m [(2, (a : Int))] t
 obtain ⟨I1, c1⟩ := I.head (M := M) (k := 2) (by simp) (a : Int) (by omega)
 obtain ⟨I2, c2⟩ := I1.head (M := M) (k := 3 + a) (by rcases (show a = 0 \/ a = 1 by omega) with rfl | rfl <;> simp) (b : Int) (by omega)
 exact ⟨I2, comb c1 c2⟩
theorem len_hd (z : Nat) (v : Int) : (Pk.hd z v).length <= 1 := by unfold Pk.hd; split <;> simp
theorem num_len255 {k m : Nat} (hm : m <= 255) : (num k m).length <= 17 := by
 rw [Pk.num_len]
 have h1 := Pk.dig_lo m
 rcases Nat.lt_or_ge 8 (dig m) with h2 | h2
 ·have h3 : 2 ^ 9 <= 2 ^ dig m := Nat.pow_le_pow_right (by decide) h2
  omega
 ·omega
theorem D_le {t : WS} : D t <= 2048 ^ 9 := by
 have : ∀ (c : Nat -> Nat) n, Dp c n <= 2048 ^ n := by
  intro c n
  induction n with
  | zero => exact Nat.le_refl _
  | succ n ih => rw [Nat.pow_succ]; exact Nat.mul_le_mul ih (mu_le _)
 exact this _ 9
theorem Inv.col {M : Nat} {t : WS} {h q : Nat} {c : Px} (I : Inv t h q) (hc : okPx c) (hm : t.m + 51 <= M) : Inv (Pack.puts t (Pk.col1 c)) h (q + 3) /\
  4095 ^ 3 * 31 ^ (43 * q + 3) * val M t <= 13759414272 ^ 3 * 32 ^ (43 * q + 3) * val M (Pack.puts t (Pk.col1 c)) := by
 obtain ⟨⟨a1, a2⟩, ⟨a3, a4⟩, a5, a6⟩ := hc
 unfold Pk.col1
 rw [puts_two, puts_two]
 have m1 := Pack.puts_m (num 224 c.1.toNat) t
 have l1 := num_len255 (k := 224) (show c.1.toNat <= 255 by omega)
 obtain ⟨I1, c1⟩ := I.nums (M := M) (m := c.1.toNat) (by omega) (by omega)
 have m2 := Pack.puts_m (num 224 c.2.1.toNat) (Pack.puts t (num 224 c.1.toNat))
 have l2 := num_len255 (k := 224) (show c.2.1.toNat <= 255 by omega)
 obtain ⟨I2, c2⟩ := I1.nums (M := M) (m := c.2.1.toNat) (by omega) (by omega)
 obtain ⟨I3, c3⟩ := I2.nums (M := M) (m := c.2.2.toNat) (by omega) (by omega)
 refine ⟨I3, ?_⟩
 have hd := D_le (t := Pack.puts (Pack.puts (Pack.puts t (num 224 c.1.toNat)) (num 224 c.2.1.toNat)) (num 224 c.2.2.toNat))
 have hg := I.dg
 have ct := comb (comb c1 c2) c3
 generalize Pack.puts (Pack.puts (Pack.puts t (num 224 c.1.toNat)) (num 224 c.2.1.toNat)) (num 224 c.2.2.toNat) = u at *
 generalize val M t = x at *
 generalize val M u = y at *
 generalize D u = d at *
 generalize D t = d0 at *
 clear c1 c2 c3 I1 I2 I3 I m1 m2 l1 l2
 have h5 : (2048 ^ 9) ^ 5 * 31 ^ (40 * q) <= d0 ^ 5 * 32 ^ (40 * q) := by
  have := Nat.pow_le_pow_left hg 5
  rw [Nat.mul_pow, Nat.mul_pow, <- Nat.pow_mul, <- Nat.pow_mul 31, <- Nat.pow_mul 32, show 8 * q * 5 = 40 * q by omega, Nat.pow_mul] at this
  exact this
 have h6 : d ^ 5 <= (2048 ^ 9) ^ 5 := Nat.pow_le_pow_left hd 5
 have e1 : 31 ^ (43 * q + 3) = 31 ^ q * 31 ^ (q + 1) * 31 ^ (q + 2) * 31 ^ (40 * q) := by rw [<- Nat.pow_add, <- Nat.pow_add, <- Nat.pow_add]; congr 1; omega
 have e2 : 32 ^ (43 * q + 3) = 32 ^ q * 32 ^ (q + 1) * 32 ^ (q + 2) * 32 ^ (40 * q) := by rw [<- Nat.pow_add, <- Nat.pow_add, <- Nat.pow_add]; congr 1; omega
 rw [e1, e2]
 refine Nat.le_of_mul_le_mul_left (c := (2048 ^ 9) ^ 5) ?_ (Nat.pow_pos (Nat.pow_pos (by decide)))
 rw [show q + 1 + 1 = q + 2 by omega] at ct
 generalize 31 ^ (40 * q) = A at *
 generalize 32 ^ (40 * q) = B at *
 generalize (2048 ^ 9) ^ 5 = K at *
 generalize d0 ^ 5 = E0 at *
 generalize d ^ 5 = E at *
 generalize 31 ^ q = p1 at *
 generalize 31 ^ (q + 1) = p2 at *
 generalize 31 ^ (q + 2) = p3 at *
 generalize 32 ^ q = r1 at *
 generalize 32 ^ (q + 1) = r2 at *
 generalize 32 ^ (q + 2) = r3 at *
 generalize (13759414272 : Nat) = G at *
 rw [show (4095 : Nat) ^ 3 = 4095 * 4095 * 4095 from rfl, show G ^ 3 = G * G * G by rw [Nat.pow_succ, Nat.pow_succ, Nat.pow_one]]
 generalize (4095 : Nat) = U at *
 calc K * (U * U * U * (p1 * p2 * p3 * A) * x) = K * A * (U * U * U * p1 * p2 * p3 * x) := by ac_rfl
  _ <= E0 * B * (U * U * U * p1 * p2 * p3 * x) := Nat.mul_le_mul_right _ h5
  _ = B * (U * p1 * (U * p2) * (U * p3) * (E0 * x)) := by ac_rfl
  _ <= B * (G * r1 * (G * r2) * (G * r3) * (E * y)) := Nat.mul_le_mul_left _ ct
  _ = E * (B * (G * r1 * (G * r2) * (G * r3) * y)) := by ac_rfl
  _ <= K * (B * (G * r1 * (G * r2) * (G * r3) * y)) := Nat.mul_le_mul_right _ h6
  _ = _ := by ac_rfl
theorem Inv.few {M : Nat} {t : WS} {h q : Nat} {c : Px} (I : Inv t h q) (hc : okPx c) (z : Nat) (hm : t.m + 55 <= M) : Inv (Pack.puts t (few1 z c)) (h + 4) (q + 3) /\
  4095 ^ 7 * 31 ^ (4 * h + 43 * q + 9) * val M t <= 8192 ^ 4 * 13759414272 ^ 3 * 32 ^ (4 * h + 43 * q + 9) * val M (Pack.puts t (few1 z c)) := by
 unfold few1
 rw [puts_two, puts_two, puts_two]
 have m1 := Pack.puts_m (Pk.hd z 0) t
 have l1 := len_hd z 0
 obtain ⟨I1, c1⟩ := I.hd1 (M := M) z (by omega)
 have m2 := Pack.puts_m (kind 0 1) (Pack.puts t (Pk.hd z 0))
 have l2 : (kind 0 1).length = 2 := rfl
 obtain ⟨I2, c2⟩ := I1.kind1 (M := M) (a := 0) (b := 1) (by omega) (by omega)
 have m3 := Pack.puts_m [(200, 0)] (Pack.puts (Pack.puts t (Pk.hd z 0)) (kind 0 1))
 have l3 : ([(200, 0)] : Bts).length = 1 := rfl
 obtain ⟨I3, c3⟩ := I2.head (M := M) (k := 200) (by simp) 0 (by omega)
 have e3 : Pack.puts (Pack.puts (Pack.puts t (Pk.hd z 0)) (kind 0 1)) [(200, 0)] = Pack.put (Pack.puts (Pack.puts t (Pk.hd z 0)) (kind 0 1)) 200 0 := rfl
 rw [e3] at m3 ⊢
 obtain ⟨I4, c4⟩ := I3.col (M := M) hc (by omega)
 refine ⟨I4, ?_⟩
 have ct := comb (comb (comb c1 c2) c3) c4
 have e1 : 31 ^ (4 * h + 43 * q + 9) = 31 ^ h * 31 ^ (h + 1) * 31 ^ (h + 1 + 1) * 31 ^ (h + 1 + 2) * 31 ^ (43 * q + 3) := by rw [<- Nat.pow_add, <- Nat.pow_add, <- Nat.pow_add, <- Nat.pow_add]; congr 1; omega
 have e2 : 32 ^ (4 * h + 43 * q + 9) = 32 ^ h * 32 ^ (h + 1) * 32 ^ (h + 1 + 1) * 32 ^ (h + 1 + 2) * 32 ^ (43 * q + 3) := by rw [<- Nat.pow_add, <- Nat.pow_add, <- Nat.pow_add, <- Nat.pow_add]; congr 1; omega
 rw [e1, e2, show (4095 : Nat) ^ 7 = 4095 * 4095 * 4095 * 4095 * 4095 ^ 3 from rfl, show (8192 : Nat) ^ 4 = 8192 * 8192 * 8192 * 8192 from rfl]
 generalize 31 ^ (43 * q + 3) = a5 at *
 generalize 32 ^ (43 * q + 3) = b5 at *
 generalize 31 ^ (h + 1 + 2) = a4 at *
 generalize 32 ^ (h + 1 + 2) = b4 at *
 generalize 31 ^ (h + 1 + 1) = a3 at *
 generalize 32 ^ (h + 1 + 1) = b3 at *
 generalize 31 ^ (h + 1) = a2 at *
 generalize 32 ^ (h + 1) = b2 at *
 generalize 31 ^ h = a1 at *
 generalize 32 ^ h = b1 at *
 generalize (13759414272 : Nat) ^ 3 = G at *
 generalize (4095 : Nat) ^ 3 = U3 at *
 generalize (4095 : Nat) = U at *
 generalize (8192 : Nat) = V at *
 generalize val M t = x at *
 generalize val M (Pack.puts (Pack.put (Pack.puts (Pack.puts t (Pk.hd z 0)) (kind 0 1)) 200 0) (Pk.col1 c)) = y at *
 calc U * U * U * U * U3 * (a1 * a2 * a3 * a4 * a5) * x = U * a1 * (U * a2 * (U * a3)) * (U * a4) * (U3 * a5) * x := by ac_rfl
  _ <= V * b1 * (V * b2 * (V * b3)) * (V * b4) * (G * b5) * y := ct
  _ = _ := by ac_rfl
theorem Inv.cand {M : Nat} {t : WS} {h q : Nat} {z : Nat} {l : Bts} (I : Inv t h q) (hl : Cand z l) (hm : t.m + 14595 <= M) : Inv (Pack.puts t l) (h + 4) (q + 3) /\ (Pack.puts t l).m <= M := by
 obtain ⟨a, b, r, rfl, ha, hb, hr, hn, hc⟩ := hl
 have m1 := Pack.puts_m (Pk.hd z 0 ++ (kind a b ++ r)) t
 have l1 := len_hd z 0
 rw [List.length_append, List.length_append, show (kind a b).length = 2 from rfl] at m1
 refine ⟨?_, by omega⟩
 rw [puts_two, puts_two]
 have m2 := Pack.puts_m (Pk.hd z 0) t
 obtain ⟨I1, _⟩ := I.hd1 (M := M) z (by omega)
 obtain ⟨I2, _⟩ := I1.kind1 (M := M) (a := a) (b := b) ha (by omega)
 exact (I2.skip r (fun p hp => (hr p hp).1) hc).more 1 3
theorem few_len {z : Nat} {c : Px} (hc : okPx c) : (few1 z c).length <= 55 := by
 obtain ⟨⟨a1, a2⟩, ⟨a3, a4⟩, a5, a6⟩ := hc
 unfold few1 Pk.col1
 have l0 := len_hd z 0
 have l1 := num_len255 (k := 224) (show c.1.toNat <= 255 by omega)
 have l2 := num_len255 (k := 224) (show c.2.1.toNat <= 255 by omega)
 have l3 := num_len255 (k := 224) (show c.2.2.toNat <= 255 by omega)
 simp only [List.length_append, List.length_cons, List.length_nil, show (kind 0 1).length = 2 from rfl]
 omega
theorem frame_low {M z : Nat} {F : List (List Px)} {f h q : Nat} {t : WS} {c : Px} (hz : IsZ z) (hF : F.getD f [] = List.replicate (z * z) c) (hc : okPx c) (I : Inv t h q) (hm : t.m + 14595 <= M) :
  (Inv (Pack.puts t (areaL z F f (Flm.cuts z) t 0 0 z)) (h + 4) (q + 3) /\ (Pack.puts t (areaL z F f (Flm.cuts z) t 0 0 z)).m <= t.m + 14595) /\
  4095 ^ 7 * 31 ^ (4 * h + 43 * q + 9) * val M t <= 8192 ^ 4 * 13759414272 ^ 3 * 32 ^ (4 * h + 43 * q + 9) * val M (Pack.puts t (areaL z F f (Flm.cuts z) t 0 0 z)) := by
 have z0 : 0 < z := by rcases hz with rfl | rfl | rfl <;> decide
 have hT : ∀ p ∈ F.getD f [], okPx p := fun p hp => by
  rw [hF] at hp
  rw [List.eq_of_mem_replicate hp]
  exact hc
 rw [area_block (by rw [hF]; exact plain_one z0 rfl)]
 obtain ⟨If, cf⟩ := I.few (M := M) hc z (by omega)
 have lf := few_len (z := z) hc
 have mf := Pack.puts_m (few1 z c) t
 have M0 : ∀ l, Cand z l -> May M t l := fun l hl => ⟨(I.cand hl hm).1.ok, (I.cand hl hm).2⟩
 have s0 := soft_cand hT hz
 have Ms := M0 _ s0
 have ef := fewC_one z0 hF
 have Mf : May M t (few1 z c) := ⟨If.ok, by omega⟩
 have hz2 : z * z <= 256 := by rcases hz with rfl | rfl | rfl <;> decide
 have hbm := Pk.block_m (z := z) (F := F) hT t 0 0 z
 unfold Pk.blockL at hbm ⊢
 rw [ef] at hbm ⊢
 have M1 : May M t (better t (Pk.softC z (F.getD f []) 0 0 z) (some (few1 z c))) := Ms.better (fun l e => by injection e with e; rw [<- e]; exact Mf)
 have M2 := M1.better (c := Pk.copyC z (F.getD f []) 0 0 z) (fun l e => M0 l (copy_cand l e))
 have v1 := better_new Ms Mf
 have v2 := better_old M1 (c := Pk.copyC z (F.getD f []) 0 0 z) (fun l e => M0 l (copy_cand l e))
 have v3 := better_old M2 (c := Pk.stillC z F f 0 0 z) (fun l e => M0 l (still_cand l e))
 refine ⟨⟨?_, by omega⟩, Nat.le_trans cf (Nat.mul_le_mul_left _ (Nat.le_trans v1 (Nat.le_trans v2 v3)))⟩
 rcases Pk.better_or t (better t (better t (Pk.softC z (F.getD f []) 0 0 z) (some (few1 z c))) (Pk.copyC z (F.getD f []) 0 0 z)) (Pk.stillC z F f 0 0 z) with e | ⟨l, e1, e2⟩
 ·rw [e]
  rcases Pk.better_or t (better t (Pk.softC z (F.getD f []) 0 0 z) (some (few1 z c))) (Pk.copyC z (F.getD f []) 0 0 z) with e | ⟨l, e1, e2⟩
  ·rw [e]
   rcases Pk.better_or t (Pk.softC z (F.getD f []) 0 0 z) (some (few1 z c)) with e | ⟨l, e1, e2⟩
   ·rw [e]; exact (I.cand s0 hm).1
   ·rw [e2]; injection e1 with e1; rw [<- e1]; exact If
  ·rw [e2]; exact (I.cand (copy_cand l e1) hm).1
 ·rw [e2]; exact (I.cand (still_cand l e1) hm).1
theorem chn_init {k : Nat} (h : k < 400) : chn Pack.init k = 2048 := by
 unfold chn
 rw [show Pack.init.ch = ch0 from rfl, ch0_get k h]
 rfl
theorem P_init : ∀ n i, P (fun _ => 2048) i n = 2048 ^ (n + 1)
 | 0, _ => rfl
 | n + 1, i => by
  show (4096 - 2048) * P (fun _ => 2048) (i + 1) n = _
  rw [P_init n (i + 1), Nat.pow_succ 2048 (n + 1), Nat.mul_comm]
theorem inv_init : Inv Pack.init 0 0 := by
 refine ⟨Pack.init_ok, fun k hk => ?_, fun n hn => ?_, ?_⟩
 ·rw [chn_init (by simp at hk; omega)]
  decide
 ·rw [P_same (c := fun _ => 2048) n 0 (fun j _ hj => chn_init (by omega)), P_init]
  exact Nat.le_refl _
 ·have e : D Pack.init = 2048 ^ 9 := (Dp_same (c := fun _ => 2048) 9 (fun j hj => chn_init (by omega))).trans rfl
  rw [e]
  exact Nat.le_refl _
def sumE : Nat -> Nat
 | 0 => 0
 | n + 1 => sumE n + (145 * n + 9)
theorem plain_low {M z U V K : Nat} {F : List (List Px)} (hU : U = 4095 ^ 7) (hV : V = 8192 ^ 4 * 13759414272 ^ 3) (hK : K = 14595) (hz : IsZ z) (hF : ∀ f, f < F.length -> ∃ c, okPx c /\ F.getD f [] = List.replicate (z * z) c) : ∀ f, f <= F.length -> f * K <= M ->
  (Inv (Pack.puts Pack.init (filmL z F f)) (4 * f) (3 * f) /\ (Pack.puts Pack.init (filmL z F f)).m <= f * K) /\
  U ^ f * 31 ^ sumE f * val M Pack.init <= V ^ f * 32 ^ sumE f * val M (Pack.puts Pack.init (filmL z F f)) := by
 intro f
 induction f with
 | zero =>
  intro _ _
  refine ⟨⟨inv_init, Nat.zero_le _⟩, ?_⟩
  rw [Nat.pow_zero, Nat.pow_zero]
  exact Nat.le_refl _
 | succ f ih =>
  intro hf hM
  rw [show (f + 1) * K = f * K + K from Nat.succ_mul f K] at hM ⊢
  obtain ⟨⟨I, m1⟩, c1⟩ := ih (Nat.le_of_succ_le hf) (Nat.le_trans (Nat.le_add_right _ _) hM)
  obtain ⟨c, hc, e⟩ := hF f hf
  obtain ⟨⟨I2, m2⟩, c2⟩ := frame_low (M := M) hz e hc I (by rw [<- hK]; exact Nat.le_trans (Nat.add_le_add_right m1 K) hM)
  rw [<- hK] at m2
  rw [<- hU, <- hV] at c2
  unfold Pk.filmL
  rw [puts_two]
  refine ⟨⟨I2, Nat.le_trans m2 (Nat.add_le_add_right m1 K)⟩, ?_⟩
  have ct := comb c1 c2
  rw [show 4 * (4 * f) + 43 * (3 * f) + 9 = 145 * f + 9 by omega] at ct
  unfold sumE
  rw [Nat.pow_succ, Nat.pow_succ V, Nat.pow_add 31 (sumE f), Nat.pow_add 32 (sumE f)]
  generalize U ^ f = a at *
  generalize V ^ f = b at *
  generalize 31 ^ sumE f = p at *
  generalize 32 ^ sumE f = r at *
  generalize 31 ^ (145 * f + 9) = p2 at *
  generalize 32 ^ (145 * f + 9) = r2 at *
  generalize val M Pack.init = x at *
  calc a * U * (p * p2) * x = a * p * (U * p2) * x := by ac_rfl
   _ <= _ := ct
   _ = _ := by ac_rfl
theorem sums : ∀ n < 9, (8192 ^ 4 * 13759414272 ^ 3) ^ n * 32 ^ sumE n < (4095 ^ 7) ^ n * 31 ^ sumE n * 256 ^ (12 * n + 1) := by decide +kernel
theorem plain_m {z : Nat} {F : List (List Px)} (hz : IsZ z) (h8 : F.length <= 8) (hF : ∀ f, f < F.length -> ∃ c, okPx c /\ F.getD f [] = List.replicate (z * z) c) : (Pack.puts Pack.init (filmL z F F.length)).m <= 12 * F.length := by
 have hs := sums F.length (by omega)
 obtain ⟨U, hU⟩ : ∃ U, U = 4095 ^ 7 := ⟨_, rfl⟩
 obtain ⟨V, hV⟩ : ∃ V, V = 8192 ^ 4 * 13759414272 ^ 3 := ⟨_, rfl⟩
 obtain ⟨K, hK⟩ : ∃ K, K = 14595 := ⟨_, rfl⟩
 rw [<- hU, <- hV] at hs
 obtain ⟨⟨I, m1⟩, c1⟩ := plain_low (M := F.length * K) hU hV hK hz hF F.length (Nat.le_refl _) (Nat.le_refl _)
 have hr := I.ok.r1
 clear hU hV hK
 generalize Pack.puts Pack.init (filmL z F F.length) = u at *
 generalize F.length = n at *
 rcases Nat.lt_or_ge (12 * n) u.m with hlt | hge
 ·exfalso
  generalize U ^ n * 31 ^ sumE n = A at *
  generalize V ^ n * 32 ^ sumE n = B at *
  generalize n * K = M at *
  have e1 : val M Pack.init = 4294967295 * (256 ^ (M - u.m) * 256 ^ u.m) := by
   rw [<- Nat.pow_add, show M - u.m + u.m = M by omega]
   rfl
  have e2 : val M u <= 4294967295 * 256 ^ (M - u.m) := Nat.mul_le_mul_right _ (by omega)
  rw [e1] at c1
  have c2 := Nat.le_trans c1 (Nat.mul_le_mul_left B e2)
  have hp : 0 < 4294967295 * 256 ^ (M - u.m) := Nat.mul_pos (by decide) (Nat.pow_pos (by decide))
  generalize 256 ^ (M - u.m) = Q at *
  have c3 : A * 256 ^ u.m <= B := by
   refine Nat.le_of_mul_le_mul_right (c := 4294967295 * Q) ?_ hp
   calc A * 256 ^ u.m * (4294967295 * Q) = A * (4294967295 * (Q * 256 ^ u.m)) := by ac_rfl
    _ <= _ := c2
  have c4 : A * 256 ^ (12 * n + 1) <= A * 256 ^ u.m := Nat.mul_le_mul_left _ (Nat.pow_le_pow_right (by decide) hlt)
  exact absurd (Nat.lt_of_le_of_lt (Nat.le_trans c4 c3) hs) (Nat.lt_irrefl _)
 ·exact hge
theorem area_same {z : Nat} {F G : List (List Px)} {f : Nat} (h1 : F.getD f [] = G.getD f []) (h2 : f ≠ 0 -> F.getD (f - 1) [] = G.getD (f - 1) []) : ∀ (c : Nat) (t : WS) (x y n : Nat), areaL z F f c t x y n = areaL z G f c t x y n := by
 have hb : ∀ (t : WS) (x y n : Nat), blockL z F f t x y n = blockL z G f t x y n := fun t x y n => by
  unfold Pk.blockL Pk.stillC
  rw [h1]
  by_cases e : f = 0
  ·rw [if_pos e, if_pos e]
  ·rw [if_neg e, if_neg e, h2 e]
 intro c
 induction c with
 | zero => exact hb
 | succ c ih =>
  intro t x y n
  unfold Pk.areaL
  rw [h1]
  simp only [hb, ih]
theorem film_same {z : Nat} {F G : List (List Px)} : ∀ f, (∀ i, i < f -> F.getD i [] = G.getD i []) -> filmL z F f = filmL z G f
 | 0, _ => rfl
 | f + 1, h => by
  unfold Pk.filmL
  rw [film_same f (fun i hi => h i (by omega)), area_same (h f (by omega)) (fun e => h (f - 1) (by omega))]
theorem still_is {z : Nat} {F : List (List Px)} {f : Nat} (hf : f ≠ 0) (h : F.getD f [] = F.getD (f - 1) []) : Pk.stillC z F f 0 0 z = some (Pk.hd z 0 ++ (kind 1 1 ++ [(310, 0), (310 + 24, 0)])) := by
 have e : ∃ l, Pk.stillC z F f 0 0 z = some l := by
  unfold Pk.stillC
  rw [if_neg hf, h]
  have e1 : Pk.placesL z (F.getD (f - 1) []) z (Pk.content z (F.getD (f - 1) []) z (0, 0)) = [(0, 0)] := by
   unfold Pk.placesL
   rw [Nat.sub_self, show spots 0 0 (0 + 1) = [(0, 0)] from rfl, List.filter_cons_of_pos (by exact decide_eq_true rfl)]
   rfl
  rw [e1]
  exact ⟨_, rfl⟩
 obtain ⟨l, e⟩ := e
 rw [e, still_form e]
theorem still_m {z : Nat} {F : List (List Px)} {f : Nat} (hf : f ≠ 0) (h : F.getD f [] = F.getD (f - 1) []) (t : WS) : (Pack.puts t (areaL z F f (Flm.cuts z) t 0 0 z)).m <= t.m + 5 := by
 have hb : (Pack.puts t (blockL z F f t 0 0 z)).m <= t.m + 5 := by
  unfold Pk.blockL
  rw [still_is hf h]
  refine Nat.le_trans (Pk.better_m2 _ _ _) (Nat.le_trans (Pack.puts_m _ t) ?_)
  have := len_hd z 0
  rw [List.length_append, List.length_append, show (kind 1 1).length = 2 from rfl]
  show t.m + (_ + (2 + 2)) <= _
  omega
 cases Flm.cuts z with
 | zero => exact hb
 | succ c =>
  unfold Pk.areaL
  dsimp only
  split
  ·exact hb
  ·exact Nat.le_trans (Pk.better_m _ _ _) hb
theorem again_m {z : Nat} {F G : List (List Px)} {n : Nat} (hn : n ≠ 0) (h : ∀ i, i < n -> G.getD i [] = F.getD i []) (hl : G.getD n [] = F.getD (n - 1) []) : (Pack.puts Pack.init (filmL z G (n + 1))).m <= (Pack.puts Pack.init (filmL z F n)).m + 5 := by
 rw [show filmL z G (n + 1) = filmL z G n ++ areaL z G n (Flm.cuts z) (Pack.puts Pack.init (filmL z G n)) 0 0 z from rfl, puts_two, film_same n h]
 exact still_m hn (by rw [hl, h (n - 1) (by omega)]) _
end Sc
end Go.Proofs.YtekfbphnoibnjaaDoor
namespace Go.Proofs.YtekfbphnoibnjaaDoor
open Go.RowKit Go.Shelf
open Flm (Px FS okPx)
open Pk (filmL)
def encS (z N : Nat) (F : List (List Px)) : ByteArray := (⟨#[70, 66]⟩ : ByteArray) ++ strOfNums [(z : Int), (N : Int)] ++ endStr (Pack.fin (filmL z F N))
set_option maxHeartbeats 1000000 in
theorem pEncode (w : World) (fa : Option Addr) (N fc z : Nat) (F : List (List Px)) (nbs cs : Nat -> Nat) (h : FrsIn w fa N z F nbs cs) (hF : ∀ f, ∀ p ∈ F.getD f [], okPx p) (hz : z = 4 \/ z = 8 \/ z = 16) (hN : N <= 8) (hm : (Pack.fin (filmL z F N)).m <= 150000) (SG : SoftG w w.heap.size) :
  Calls Tryd.prog 10 #[.agg #[.int .i64 z, .slice fa N fc]] w fun e w' => e = .returned (.tuple #[.string (encS z N F), .int .i64 0]) /\ Below w.heap.size w w' := by
 obtain ⟨H, hH⟩ : ∃ H, H = w.heap.size := ⟨_, rfl⟩
 obtain ⟨W1, hW1⟩ : ∃ W1, W1 = w.alloc (.cells #[.int .i64 z, .slice fa N fc] 36) := ⟨_, rfl⟩
 have b1 : Below w.heap.size w W1 := by rw [hW1]; exact (Below.refl _ w).alloc (Nat.le_refl _) _
 have x0 : W1.heap[H]? = some (.cells #[.int .i64 z, .slice fa N fc] 36) := by rw [hW1, hH]; exact heap_alloc_last w _
 have hr : rightB z N (fun _ => z * z) = true := by
  unfold rightB sizeB
  rw [Bool.and_eq_true, Bool.and_eq_true, List.all_eq_true]
  exact ⟨decide_eq_true (by omega), decide_eq_true hN, fun j _ => decide_eq_true (Int.natCast_mul z z)⟩
 have h1 : RowsIn W1 fa N (fun _ => z * z) := h.imp id fun ⟨fb, off, e, hf⟩ => ⟨fb, off, e, fun j hj => ⟨_, _, (b1.cell (World.block_lt_of_cell? w _ (hf j hj).1)).trans (hf j hj).1⟩⟩
 have HC := pIsFilm W1 z fa N fc _ h1
 rw [hr] at HC
 have HWR : Hid (∀ w2, Below W1.heap.size W1 w2 -> Calls Tryd.prog 18 #[.agg #[.int .i64 z, .slice fa N fc]] w2 fun e w' => e = .returned (.string (encS z N F)) /\ Below w2.heap.size w2 w') := fun w2 b2 => by
  have b3 := b1.trans (b2.mono b1.size)
  have h2 : FrsIn w2 fa N z F nbs cs := h.imp id fun ⟨fb, off, e, hf⟩ => ⟨fb, off, e, fun j hj => ⟨(b3.cell (World.block_lt_of_cell? w _ (hf j hj).1)).trans (hf j hj).1, (hf j hj).2.below b3⟩⟩
  exact pWrite w2 fa N fc z F nbs cs h2 hF hz hN hm (SG.of (b3.block _ SG.lt) (Nat.lt_of_lt_of_le SG.lt b3.size))
 have HCL : Hid (∀ w2, Below W1.heap.size W1 w2 -> w2.cell? ⟨H, 0, none⟩ = some (.int .i64 z) /\ w2.cell? ⟨H, 1, none⟩ = some (.slice fa N fc)) := fun w2 b2 => by
  have e0 := (b2.block H (heap_lt0 x0)).trans x0
  exact ⟨cell_of_row _ _ 0 _ _ _ e0, cell_of_row _ _ 1 _ _ _ e0⟩
 obtain ⟨k0, k1⟩ := HCL.out W1 (Below.refl _ _)
 obtain ⟨S, hS⟩ : ∃ S, S = encS z N F := ⟨_, rfl⟩
 rw [<- hS] at HWR ⊢
 have HW : Hid (W1 = w.alloc (.cells #[.int .i64 z, .slice fa N fc] 36) /\ H = w.heap.size /\ Below w.heap.size w W1) := ⟨hW1, hH, b1⟩
 clear hW1 hH b1 x0 hr h1 h SG hF hz hm hS
 go_enter Tryd.func10, Tryd.ntmps10
 go_wp2_with (first
  | (rw [<- HW.out.1, <- HW.out.2.1])
  | (go_at_call 17; refine HC.mono ?_; rintro e w2 ⟨rfl, b2⟩; obtain ⟨q0, q1⟩ := HCL.out w2 b2)
  | (go_at_call 18; refine (HWR.out w2 b2).mono ?_; rintro e w3 ⟨rfl, b3⟩))
 refine bodyPost_ret (v := .tuple #[.string S, .int .i64 0]) (by simp [results, Tryd.results10, go_sem]) rfl ?_
 exact ⟨rfl, HW.out.2.2.trans ((b2.trans (b3.mono b2.size)).mono HW.out.2.2.size)⟩
end Go.Proofs.YtekfbphnoibnjaaDoor
