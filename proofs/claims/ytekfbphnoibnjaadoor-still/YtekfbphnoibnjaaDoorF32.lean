/-
  What bits cost at the most: a packer's room against the chances of its contexts, as plain arithmetic (for the law Still).
-/
import Derived.Test.YtekfbphnoibnjaaDoorF03
namespace Go.Proofs.YtekfbphnoibnjaaDoor
namespace Sc
open Pk (Bts ones lowb dig num)
def chn (t : WS) (k : Nat) : Nat := (t.ch.getD k 0).toNat
def up (c : Nat) : Nat := c + (4096 - c) / 32
def dn (c : Nat) : Nat := c - c / 32
def nx (v : Int) (c : Nat) : Nat := if v = 0 then up c else dn c
def mu (c : Nat) : Nat := min c (4096 - c)
def lv (v : Int) (c : Nat) : Nat := if v = 0 then c * 4095 else (4096 - c) * 4096
def val (M : Nat) (t : WS) : Nat := t.rng.toNat * 256 ^ (M - t.m)
theorem chn_bd {t : WS} (h : Pack.Ok t) {k : Nat} (hk : k < 400) : 31 <= chn t k /\ chn t k <= 4065 := by
 have := h.ch.2 k hk
 unfold chn
 omega
theorem norm_ch (t : WS) : (Pack.norm t).ch = t.ch := by unfold Pack.norm; split <;> rfl
theorem chn_put {t : WS} (h : Pack.Ok t) {k : Nat} (hk : k < 400) (v : Int) (j : Nat) : chn (Pack.put t k v) j = if j = k then nx v (chn t k) else chn t j := by
 have hl := h.ch.1
 have hb := h.ch.2 k hk
 unfold chn Pack.put nx
 rw [norm_ch]
 by_cases hv : v = 0
 ·rw [if_pos hv]
  unfold Pack.zero up
  rw [Rdr.getD_set, hl]
  by_cases hj : j = k
  ·subst hj; rw [if_pos ⟨rfl, hk⟩, if_pos rfl, if_pos hv]; omega
  ·rw [if_neg (fun e => hj e.1.symm), if_neg hj]
 ·rw [if_neg hv]
  unfold Pack.one dn
  rw [Rdr.getD_set, hl]
  by_cases hj : j = k
  ·subst hj; rw [if_pos ⟨rfl, hk⟩, if_pos rfl, if_neg hv]; omega
  ·rw [if_neg (fun e => hj e.1.symm), if_neg hj]
theorem val_norm {M : Nat} {t : WS} (h : t.m + 1 <= M) : val M (Pack.norm t) = val M t := by
 unfold Pack.norm
 split
 ·unfold val Pack.pull
  show (256 * t.rng).toNat * 256 ^ (M - (t.m + 1)) = t.rng.toNat * 256 ^ (M - t.m)
  rw [show M - t.m = (M - (t.m + 1)) + 1 by omega, Nat.pow_succ, show (256 * t.rng).toNat = t.rng.toNat * 256 by omega, Nat.mul_assoc, Nat.mul_comm 256]
 ·rfl
theorem cut_lo (r q c : Nat) (h1 : r <= 4096 * q + 4095) (h2 : 4096 <= q) : r * (c * 4095) <= q * c * 16777216 := by
 have h : r * 4095 <= q * 16777216 := by omega
 calc r * (c * 4095) = c * (r * 4095) := by ac_rfl
  _ <= c * (q * 16777216) := Nat.mul_le_mul_left _ h
  _ = q * c * 16777216 := by ac_rfl
theorem cut_hi (r q c : Nat) (h1 : 4096 * q <= r) : r * ((4096 - c) * 4096) <= (r - q * c) * 16777216 := by
 have h : r * (4096 - c) <= (r - q * c) * 4096 := by
  rw [Nat.mul_sub, Nat.sub_mul]
  refine Nat.sub_le_sub_left ?_ _
  rw [show q * c * 4096 = (4096 * q) * c by ac_rfl]
  exact Nat.mul_le_mul_right _ h1
 rw [<- Nat.mul_assoc, show (r - q * c) * 16777216 = (r - q * c) * 4096 * 4096 by omega]
 exact Nat.mul_le_mul_right _ h
theorem val_put {M : Nat} {t : WS} (h : Pack.Ok t) {k : Nat} (hk : k < 400) (v : Int) (hm : t.m + 1 <= M) : val M t * lv v (chn t k) <= val M (Pack.put t k v) * 16777216 := by
 have hc := h.ch.2 k hk
 have hr := h.r0
 have hr1 := h.r1
 have key : t.rng.toNat * lv v (chn t k) <= (if v = 0 then Pack.zero t k else Pack.one t k).rng.toNat * 16777216 := by
  obtain ⟨r, hr'⟩ : ∃ r : Nat, t.rng = r := ⟨t.rng.toNat, by omega⟩
  obtain ⟨c, hc'⟩ : ∃ c : Nat, t.ch.getD k 0 = c := ⟨(t.ch.getD k 0).toNat, by omega⟩
  have e : Pack.cut t k = ((r / 4096 * c : Nat) : Int) := by
   unfold Pack.cut
   rw [hr', hc']
   rfl
  unfold lv chn
  rw [hc', hr']
  by_cases hv : v = 0
  ·rw [if_pos hv, if_pos hv]
   show r * (c * 4095) <= (Pack.cut t k).toNat * 16777216
   rw [e]
   exact cut_lo r (r / 4096) c (by omega) (by omega)
  ·rw [if_neg hv, if_neg hv]
   show r * ((4096 - c) * 4096) <= (t.rng - Pack.cut t k).toNat * 16777216
   rw [e, hr', show (((r : Nat) : Int) - ((r / 4096 * c : Nat) : Int)).toNat = r - r / 4096 * c by omega]
   exact cut_hi r (r / 4096) c (by omega)
 have e2 : val M (Pack.put t k v) = val M (if v = 0 then Pack.zero t k else Pack.one t k) := by
  unfold Pack.put
  exact val_norm (by split <;> exact hm)
 have e3 : (if v = 0 then Pack.zero t k else Pack.one t k).m = t.m := by split <;> rfl
 rw [e2]
 unfold val
 rw [e3]
 calc t.rng.toNat * 256 ^ (M - t.m) * lv v (chn t k) = t.rng.toNat * lv v (chn t k) * 256 ^ (M - t.m) := by ac_rfl
  _ <= (if v = 0 then Pack.zero t k else Pack.one t k).rng.toNat * 16777216 * 256 ^ (M - t.m) := Nat.mul_le_mul_right _ key
  _ = _ := by ac_rfl
def okc (c : Nat) : Bool := decide (16777216 * mu c ^ 5 <= 3 * (c * 4095) * mu (up c) ^ 5) && decide (16777216 * mu c ^ 5 <= 3 * ((4096 - c) * 4096) * mu (dn c) ^ 5)
theorem okc_all : (List.range 4035).all (fun i => okc (31 + i)) = true := by decide +kernel
theorem mu_lv {c : Nat} (h0 : 31 <= c) (h1 : c <= 4065) (v : Int) : 16777216 * mu c ^ 5 <= 3 * lv v c * mu (nx v c) ^ 5 := by
 have h := List.all_eq_true.1 okc_all (c - 31) (List.mem_range.2 (by omega))
 rw [show 31 + (c - 31) = c by omega] at h
 unfold okc at h
 rw [Bool.and_eq_true] at h
 unfold lv nx
 by_cases hv : v = 0
 ·rw [if_pos hv, if_pos hv]; exact of_decide_eq_true h.1
 ·rw [if_neg hv, if_neg hv]; exact of_decide_eq_true h.2
theorem mu_nx {c : Nat} (h1 : c <= 4065) (v : Int) : 31 * mu c <= 32 * mu (nx v c) := by
 unfold mu nx up dn
 split <;> omega
theorem mu_le (c : Nat) : mu c <= 2048 := by unfold mu; omega
theorem mu_pos {c : Nat} (h0 : 31 <= c) (h1 : c <= 4065) : 0 < mu c := by unfold mu; omega
theorem lv_mu (c : Nat) (v : Int) : mu c * 4095 <= lv v c := by
 unfold mu lv
 split <;> omega
def P (c : Nat -> Nat) : Nat -> Nat -> Nat
 | i, 0 => c i
 | i, n + 1 => (4096 - c i) * P c (i + 1) n
theorem P_same {c d : Nat -> Nat} : ∀ (n i : Nat), (∀ j, i <= j -> j <= i + n -> d j = c j) -> P d i n = P c i n
 | 0, i, h => h i (Nat.le_refl _) (Nat.le_refl _)
 | n + 1, i, h => by
  show (4096 - d i) * P d (i + 1) n = (4096 - c i) * P c (i + 1) n
  rw [h i (Nat.le_refl _) (by omega), P_same n (i + 1) (fun j h1 h2 => h j (by omega) (by omega))]
theorem P_step {c d : Nat -> Nat} {n : Nat} (hd : ∀ i, d i = if i < n then dn (c i) else if i = n then up (c i) else c i) : ∀ (n' i : Nat), 31 * P c i n' <= 32 * P d i n'
 | 0, i => by
  show 31 * c i <= 32 * d i
  rw [hd]
  unfold dn up
  split
  ·omega
  ·split <;> omega
 | n' + 1, i => by
  show 31 * ((4096 - c i) * P c (i + 1) n') <= 32 * ((4096 - d i) * P d (i + 1) n')
  have ih := P_step hd n' (i + 1)
  rw [hd i]
  by_cases h1 : i < n
  ·rw [if_pos h1]
   have : 4096 - c i <= 4096 - dn (c i) := by unfold dn; omega
   calc 31 * ((4096 - c i) * P c (i + 1) n') = (4096 - c i) * (31 * P c (i + 1) n') := by ac_rfl
    _ <= (4096 - dn (c i)) * (32 * P d (i + 1) n') := Nat.mul_le_mul this ih
    _ = _ := by ac_rfl
  ·rw [if_neg h1]
   by_cases h2 : i = n
   ·rw [if_pos h2, P_same (c := c) (d := d) n' (i + 1) (fun j h3 _ => by rw [hd, if_neg (by omega), if_neg (by omega)])]
    have : 31 * (4096 - c i) <= 32 * (4096 - up (c i)) := by unfold up; omega
    calc 31 * ((4096 - c i) * P c (i + 1) n') = 31 * (4096 - c i) * P c (i + 1) n' := by ac_rfl
     _ <= 32 * (4096 - up (c i)) * P c (i + 1) n' := Nat.mul_le_mul_right _ this
     _ = _ := by ac_rfl
   ·rw [if_neg h2]
    calc 31 * ((4096 - c i) * P c (i + 1) n') = (4096 - c i) * (31 * P c (i + 1) n') := by ac_rfl
     _ <= (4096 - c i) * (32 * P d (i + 1) n') := Nat.mul_le_mul_left _ ih
     _ = _ := by ac_rfl
def chain (k i n : Nat) : Bts := ones k i n ++ [(k + (i + n), 0)]
theorem chain_low {M k : Nat} : ∀ (n i : Nat) (t : WS), Pack.Ok t -> k + (i + n) < 400 -> t.m + (n + 1) <= M ->
  P (fun j => chn t (k + j)) i n * 4095 * val M t <= 4096 ^ (n + 1) * 4096 * val M (Pack.puts t (chain k i n))
 | 0, i, t, h, hk, hm => by
  have h1 := val_put h hk 0 hm
  show chn t (k + i) * 4095 * val M t <= 4096 ^ 1 * 4096 * val M (Pack.put t (k + i) 0)
  unfold lv at h1
  rw [if_pos rfl] at h1
  rw [Nat.mul_comm _ (val M t), show 4096 ^ 1 * 4096 * val M (Pack.put t (k + i) 0) = val M (Pack.put t (k + i) 0) * 16777216 by omega]
  exact h1
 | n + 1, i, t, h, hk, hm => by
  have hk' : k + i < 400 := by omega
  have h1 := val_put h hk' 1 (by omega : t.m + 1 <= M)
  have h2 : val M t * (4096 - chn t (k + i)) <= val M (Pack.put t (k + i) 1) * 4096 := by
   unfold lv at h1
   rw [if_neg (by decide)] at h1
   rw [<- Nat.mul_assoc] at h1
   omega
  have hmm : (Pack.put t (k + i) 1).m <= t.m + 1 := Pack.puts_m [(k + i, 1)] t
  have ih := chain_low (M := M) (k := k) n (i + 1) (Pack.put t (k + i) 1) (h.put hk' 1) (by omega) (by omega)
  rw [P_same (c := fun j => chn t (k + j)) n (i + 1) (fun j h3 _ => by rw [chn_put h hk', if_neg (by omega)])] at ih
  have e : Pack.puts (Pack.put t (k + i) 1) (chain k (i + 1) n) = Pack.puts t (chain k i (n + 1)) := by
   unfold chain
   rw [show i + 1 + n = i + (n + 1) by omega]
   rfl
  rw [e] at ih
  show (4096 - chn t (k + i)) * P (fun j => chn t (k + j)) (i + 1) n * 4095 * val M t <= _
  calc (4096 - chn t (k + i)) * P (fun j => chn t (k + j)) (i + 1) n * 4095 * val M t = P (fun j => chn t (k + j)) (i + 1) n * 4095 * (val M t * (4096 - chn t (k + i))) := by ac_rfl
   _ <= P (fun j => chn t (k + j)) (i + 1) n * 4095 * (val M (Pack.put t (k + i) 1) * 4096) := Nat.mul_le_mul_left _ h2
   _ = 4096 * (P (fun j => chn t (k + j)) (i + 1) n * 4095 * val M (Pack.put t (k + i) 1)) := by ac_rfl
   _ <= 4096 * (4096 ^ (n + 1) * 4096 * val M (Pack.puts t (chain k i (n + 1)))) := Nat.mul_le_mul_left _ ih
   _ = _ := by rw [Nat.pow_succ 4096 (n + 1)]; ac_rfl
theorem chain_ch {k : Nat} : ∀ (n i : Nat) (t : WS), Pack.Ok t -> k + (i + n) < 400 -> ∀ j, chn (Pack.puts t (chain k i n)) j = if k + i <= j /\ j < k + (i + n) then dn (chn t j) else if j = k + (i + n) then up (chn t j) else chn t j
 | 0, i, t, h, hk, j => by
  show chn (Pack.put t (k + i) 0) j = _
  rw [chn_put h (show k + i < 400 from hk), if_neg (show ¬ (k + i <= j /\ j < k + (i + 0)) by omega)]
  by_cases e : j = k + i
  ·subst e; rw [if_pos rfl, if_pos (show k + i = k + (i + 0) from rfl)]; rfl
  ·rw [if_neg e, if_neg (show ¬ j = k + (i + 0) from e)]
 | n + 1, i, t, h, hk, j => by
  have hk' : k + i < 400 := by omega
  have ih := chain_ch (k := k) n (i + 1) (Pack.put t (k + i) 1) (h.put hk' 1) (by omega) j
  have e : Pack.puts (Pack.put t (k + i) 1) (chain k (i + 1) n) = Pack.puts t (chain k i (n + 1)) := by
   unfold chain
   rw [show i + 1 + n = i + (n + 1) by omega]
   rfl
  rw [e, chn_put h hk'] at ih
  rw [ih]
  by_cases e1 : j = k + i
  ·subst e1
   rw [if_neg (by omega), if_neg (by omega), if_pos rfl, if_pos (by omega)]
   unfold nx
   rw [if_neg (by decide)]
  ·rw [if_neg e1]
   by_cases e2 : k + (i + 1) <= j /\ j < k + (i + 1 + n)
   ·rw [if_pos e2, if_pos (by omega)]
   ·rw [if_neg e2, if_neg (show ¬ (k + i <= j /\ j < k + (i + (n + 1))) by omega), show i + 1 + n = i + (n + 1) by omega]
def Dp (c : Nat -> Nat) : Nat -> Nat
 | 0 => 1
 | n + 1 => Dp c n * mu (c n)
theorem Dp_same {c d : Nat -> Nat} : ∀ n, (∀ j, j < n -> d j = c j) -> Dp d n = Dp c n
 | 0, _ => rfl
 | n + 1, h => by show Dp d n * mu (d n) = Dp c n * mu (c n); rw [h n (by omega), Dp_same n (fun j hj => h j (by omega))]
theorem Dp_turn {c d : Nat -> Nat} {x : Nat} (hd : ∀ j, j ≠ x -> d j = c j) : ∀ n, x < n -> Dp d n * mu (c x) = Dp c n * mu (d x)
 | 0, h => absurd h (Nat.not_lt_zero _)
 | n + 1, h => by
  show Dp d n * mu (d n) * mu (c x) = Dp c n * mu (c n) * mu (d x)
  by_cases e : x = n
  ·subst e
   rw [Dp_same x (fun j hj => hd j (by omega))]
   ac_rfl
  ·have ih := Dp_turn hd n (by omega)
   rw [hd n (fun e' => e e'.symm), show Dp d n * mu (c n) * mu (c x) = Dp d n * mu (c x) * mu (c n) by ac_rfl, ih]
   ac_rfl
def D (t : WS) : Nat := Dp (fun i => chn t (236 + i)) 9
theorem D_put {M : Nat} {t : WS} (h : Pack.Ok t) {i : Nat} (hi : i < 9) (v : Int) (hm : t.m + 1 <= M) : D t ^ 5 * val M t <= 3 * (D (Pack.put t (236 + i) v) ^ 5 * val M (Pack.put t (236 + i) v)) /\ 31 * D t <= 32 * D (Pack.put t (236 + i) v) := by
 have hk : 236 + i < 400 := by omega
 obtain ⟨c0, c1⟩ := chn_bd h hk
 obtain ⟨e0, e1⟩ := chn_bd (h.put hk v) hk
 have h1 := val_put h hk v hm
 have h2 := mu_lv c0 c1 v
 have h3 := mu_nx c1 v
 have hx : chn (Pack.put t (236 + i) v) (236 + i) = nx v (chn t (236 + i)) := by rw [chn_put h hk, if_pos rfl]
 have ht := Dp_turn (c := fun j => chn t (236 + j)) (d := fun j => chn (Pack.put t (236 + i) v) (236 + j)) (x := i) (fun j hj => by rw [chn_put h hk, if_neg (by omega)]) 9 hi
 have hp := mu_pos e0 e1
 rw [<- hx] at h2 h3
 rw [show Dp (fun j => chn t (236 + j)) 9 = D t from rfl, show Dp (fun j => chn (Pack.put t (236 + i) v) (236 + j)) 9 = D (Pack.put t (236 + i) v) from rfl] at ht
 generalize D (Pack.put t (236 + i) v) = d at *
 generalize mu (chn (Pack.put t (236 + i) v) (236 + i)) = m' at *
 generalize mu (chn t (236 + i)) = m at *
 generalize val M (Pack.put t (236 + i) v) = u at *
 generalize val M t = w at *
 generalize D t = D0 at *
 generalize lv v (chn t (236 + i)) = l at *
 have hp5 : 0 < m' ^ 5 := Nat.pow_pos hp
 constructor
 ·have k1 : m ^ 5 * w <= 3 * (m' ^ 5 * u) := by
   have k0 : m ^ 5 * w * 16777216 <= 3 * (m' ^ 5 * u) * 16777216 := by
    calc m ^ 5 * w * 16777216 = 16777216 * m ^ 5 * w := by ac_rfl
     _ <= 3 * l * m' ^ 5 * w := Nat.mul_le_mul_right _ h2
     _ = 3 * m' ^ 5 * (w * l) := by ac_rfl
     _ <= 3 * m' ^ 5 * (u * 16777216) := Nat.mul_le_mul_left _ h1
     _ = _ := by ac_rfl
   exact Nat.le_of_mul_le_mul_right k0 (by decide)
  refine Nat.le_of_mul_le_mul_right (c := m' ^ 5) ?_ hp5
  calc D0 ^ 5 * w * m' ^ 5 = (D0 * m') ^ 5 * w := by rw [Nat.mul_pow]; ac_rfl
   _ = d ^ 5 * (m ^ 5 * w) := by rw [<- ht, Nat.mul_pow]; ac_rfl
   _ <= d ^ 5 * (3 * (m' ^ 5 * u)) := Nat.mul_le_mul_left _ k1
   _ = _ := by ac_rfl
 ·refine Nat.le_of_mul_le_mul_right (c := m') ?_ hp
  calc 31 * D0 * m' = 31 * (d * m) := by rw [ht]; ac_rfl
   _ = d * (31 * m) := by ac_rfl
   _ <= d * (32 * m') := Nat.mul_le_mul_left _ h3
   _ = _ := by ac_rfl
theorem D_low {M x : Nat} (hx : x < 9) (m : Nat) : ∀ (n : Nat) (t : WS), Pack.Ok t -> t.m + n <= M -> D t ^ 5 * val M t <= 3 ^ n * (D (Pack.puts t (lowb (236 + x) m n)) ^ 5 * val M (Pack.puts t (lowb (236 + x) m n))) /\ 31 ^ n * D t <= 32 ^ n * D (Pack.puts t (lowb (236 + x) m n))
 | 0, t, _, _ => by
  rw [Nat.pow_zero, Nat.one_mul, Nat.one_mul, Nat.one_mul]
  exact ⟨Nat.le_refl _, Nat.le_refl _⟩
 | n + 1, t, h, hm => by
  obtain ⟨a1, a2⟩ := D_put (M := M) h hx ((m / 2 ^ n % 2 : Nat) : Int) (by omega)
  have hmm : (Pack.put t (236 + x) ((m / 2 ^ n % 2 : Nat) : Int)).m <= t.m + 1 := Pack.puts_m [(236 + x, ((m / 2 ^ n % 2 : Nat) : Int))] t
  obtain ⟨b1, b2⟩ := D_low (M := M) hx m n (Pack.put t (236 + x) ((m / 2 ^ n % 2 : Nat) : Int)) (h.put (by omega) _) (by omega)
  have e : Pack.puts t (lowb (236 + x) m (n + 1)) = Pack.puts (Pack.put t (236 + x) ((m / 2 ^ n % 2 : Nat) : Int)) (lowb (236 + x) m n) := rfl
  rw [e]
  constructor
  ·refine Nat.le_trans a1 ?_
   rw [Nat.pow_succ 3 n, Nat.mul_comm (3 ^ n) 3, Nat.mul_assoc]
   exact Nat.mul_le_mul_left _ b1
  ·calc 31 ^ (n + 1) * D t = 31 ^ n * (31 * D t) := by rw [Nat.pow_succ]; ac_rfl
    _ <= 31 ^ n * (32 * D (Pack.put t (236 + x) ((m / 2 ^ n % 2 : Nat) : Int))) := Nat.mul_le_mul_left _ a2
    _ = 32 * (31 ^ n * D (Pack.put t (236 + x) ((m / 2 ^ n % 2 : Nat) : Int))) := by ac_rfl
    _ <= 32 * (32 ^ n * D (Pack.puts (Pack.put t (236 + x) ((m / 2 ^ n % 2 : Nat) : Int)) (lowb (236 + x) m n))) := Nat.mul_le_mul_left _ b2
    _ = _ := by rw [Nat.pow_succ 32 n]; ac_rfl
theorem puts_ch {j : Nat} : ∀ (l : Bts) (t : WS), Pack.Ok t -> (∀ p ∈ l, p.1 < 400) -> (∀ p ∈ l, p.1 ≠ j) -> chn (Pack.puts t l) j = chn t j
 | [], _, _, _, _ => rfl
 | (k, v) :: l, t, h, hl, hj => by
  have hk := hl (k, v) (by simp)
  show chn (Pack.puts (Pack.put t k v) l) j = _
  rw [puts_ch l _ (h.put hk v) (fun p hp => hl p (by simp [hp])) (fun p hp => hj p (by simp [hp])), chn_put h hk, if_neg (fun e => hj (k, v) (by simp) e.symm)]
structure Inv (t : WS) (h q : Nat) : Prop where
 ok : Pack.Ok t
 hd : ∀ k ∈ [0, 1, 2, 3, 4, 200], 2048 * 31 ^ h <= mu (chn t k) * 32 ^ h
 ch : ∀ n, n <= 8 -> 2048 ^ (n + 1) * 31 ^ q <= P (fun i => chn t (224 + i)) 0 n * 32 ^ q
 dg : 2048 ^ 9 * 31 ^ (8 * q) <= D t * 32 ^ (8 * q)
theorem pw_step {a b n : Nat} (h : a * 31 ^ n <= b * 32 ^ n) {c : Nat} (hc : 31 * b <= 32 * c) : a * 31 ^ (n + 1) <= c * 32 ^ (n + 1) := by
 calc a * 31 ^ (n + 1) = 31 * (a * 31 ^ n) := by rw [Nat.pow_succ]; ac_rfl
  _ <= 31 * (b * 32 ^ n) := Nat.mul_le_mul_left _ h
  _ = 31 * b * 32 ^ n := by ac_rfl
  _ <= 32 * c * 32 ^ n := Nat.mul_le_mul_right _ hc
  _ = c * 32 ^ (n + 1) := by rw [Nat.pow_succ]; ac_rfl
theorem pw_more {a b n : Nat} (h : a * 31 ^ n <= b * 32 ^ n) : ∀ d, a * 31 ^ (n + d) <= b * 32 ^ (n + d)
 | 0 => h
 | d + 1 => pw_step (pw_more h d) (by omega)
theorem Inv.more {t : WS} {h q : Nat} (I : Inv t h q) (h' q' : Nat) : Inv t (h + h') (q + q') := by
 refine ⟨I.ok, fun k hk => pw_more (I.hd k hk) h', fun n hn => pw_more (I.ch n hn) q', ?_⟩
 rw [Nat.mul_add]
 exact pw_more I.dg _
theorem Inv.skip {t : WS} {h q : Nat} (I : Inv t h q) (l : Bts) (hl : ∀ p ∈ l, p.1 < 400) (hs : ∀ p ∈ l, 4 < p.1 /\ (p.1 < 200 \/ 245 <= p.1)) : Inv (Pack.puts t l) h q := by
 have key : ∀ j, j <= 4 \/ (200 <= j /\ j < 245) -> chn (Pack.puts t l) j = chn t j := fun j hj => puts_ch l t I.ok hl (fun p hp e => by have := hs p hp; omega)
 refine ⟨Pack.puts_ok l t I.ok hl, fun k hk => ?_, fun n hn => ?_, ?_⟩
 ·rw [key k (by simp at hk; omega)]
  exact I.hd k hk
 ·rw [P_same (c := fun i => chn t (224 + i)) n 0 (fun j _ hj => key _ (by omega))]
  exact I.ch n hn
 ·have e : D (Pack.puts t l) = D t := Dp_same 9 (fun j hj => key _ (by omega))
  rw [e]
  exact I.dg
theorem Inv.head {M : Nat} {t : WS} {h q : Nat} (I : Inv t h q) {k : Nat} (hk : k ∈ [0, 1, 2, 3, 4, 200]) (v : Int) (hm : t.m + 1 <= M) : Inv (Pack.put t k v) (h + 1) q /\ 4095 * 31 ^ h * val M t <= 8192 * 32 ^ h * val M (Pack.put t k v) := by
 have hk4 : k <= 4 \/ k = 200 := by simp at hk; omega
 have hk' : k < 400 := by omega
 obtain ⟨c0, c1⟩ := chn_bd I.ok hk'
 refine ⟨⟨I.ok.put hk' v, fun j hj => ?_, fun n hn => ?_, ?_⟩, ?_⟩
 ·refine pw_step (I.hd j hj) ?_
  rw [chn_put I.ok hk']
  by_cases e : j = k
  ·subst e; rw [if_pos rfl]; exact mu_nx c1 v
  ·rw [if_neg e]; omega
 ·rw [P_same (c := fun i => chn t (224 + i)) n 0 (fun j _ hj => by rw [chn_put I.ok hk', if_neg (by omega)])]
  exact I.ch n hn
 ·have e : D (Pack.put t k v) = D t := Dp_same 9 (fun j hj => by rw [chn_put I.ok hk', if_neg (by omega)])
  rw [e]
  exact I.dg
 ·have h1 := val_put I.ok hk' v hm
  have h2 := lv_mu (chn t k) v
  have h3 := I.hd k hk
  refine Nat.le_of_mul_le_mul_left (c := 2048) ?_ (show 0 < 2048 by decide)
  calc 2048 * (4095 * 31 ^ h * val M t) = 2048 * 31 ^ h * (4095 * val M t) := by ac_rfl
   _ <= mu (chn t k) * 32 ^ h * (4095 * val M t) := Nat.mul_le_mul_right _ h3
   _ = mu (chn t k) * 4095 * (val M t * 32 ^ h) := by ac_rfl
   _ <= lv v (chn t k) * (val M t * 32 ^ h) := Nat.mul_le_mul_right _ h2
   _ = val M t * lv v (chn t k) * 32 ^ h := by ac_rfl
   _ <= val M (Pack.put t k v) * 16777216 * 32 ^ h := Nat.mul_le_mul_right _ h1
   _ = 2048 * (8192 * 32 ^ h * val M (Pack.put t k v)) := by
    rw [show (16777216 : Nat) = 2048 * 8192 from rfl]; ac_rfl
theorem puts_two : ∀ (l r : Bts) (t : WS), Pack.puts t (l ++ r) = Pack.puts (Pack.puts t l) r
 | [], _, _ => rfl
 | (_, _) :: l, r, _ => puts_two l r _
theorem six (n : Nat) (h : n <= 8) : 2 ^ n * 3 ^ n <= 1679616 := by
 rcases (show n = 0 \/ n = 1 \/ n = 2 \/ n = 3 \/ n = 4 \/ n = 5 \/ n = 6 \/ n = 7 \/ n = 8 by omega) with rfl | rfl | rfl | rfl | rfl | rfl | rfl | rfl | rfl <;> decide
theorem Inv.nums {M : Nat} {t : WS} {h q m : Nat} (I : Inv t h q) (hm : m <= 255) (hM : t.m + 17 <= M) : Inv (Pack.puts t (num 224 m)) h (q + 1) /\
  4095 * 31 ^ q * (D t ^ 5 * val M t) <= 13759414272 * 32 ^ q * (D (Pack.puts t (num 224 m)) ^ 5 * val M (Pack.puts t (num 224 m))) := by
 have hn : dig m <= 8 := by
  have h1 := Pk.dig_lo m
  rcases Nat.lt_or_ge 8 (dig m) with h2 | h2
  ·have h3 : 2 ^ 9 <= 2 ^ dig m := Nat.pow_le_pow_right (by decide) h2
   omega
  ·exact h2
 have e : num 224 m = chain 224 0 (dig m) ++ lowb (236 + dig m) (m + 1) (dig m) := by
  unfold Pk.num chain
  rw [List.append_assoc, Nat.zero_add]
  rfl
 rw [e, puts_two]
 generalize dig m = n at *
 have hlen : (chain 224 0 n).length = n + 1 := by unfold chain; rw [List.length_append, Pk.ones_len]; rfl
 have hm1 := Pack.puts_m (chain 224 0 n) t
 have c1 := chain_low (M := M) (k := 224) n 0 t I.ok (by omega) (by omega)
 have c2 := chain_ch (k := 224) n 0 t I.ok (by omega)
 have o1 : Pack.Ok (Pack.puts t (chain 224 0 n)) := Pack.puts_ok _ t I.ok (fun p hp => by
  unfold chain at hp
  rcases List.mem_append.1 hp with hp | hp
  ·exact (Pk.ones_ok 224 n 0 (by omega) p hp).1
  ·rw [List.mem_singleton.1 hp]; show 224 + (0 + n) < 400; omega)
 obtain ⟨d1, d2⟩ := D_low (M := M) (x := n) (by omega) (m + 1) n (Pack.puts t (chain 224 0 n)) o1 (by omega)
 have eD : D (Pack.puts t (chain 224 0 n)) = D t := Dp_same 9 (fun j hj => by rw [c2, if_neg (by omega), if_neg (by omega)])
 rw [eD] at d1 d2
 have hlow : ∀ p ∈ lowb (236 + n) (m + 1) n, p.1 < 400 := fun p hp => (Pk.lowb_ok (236 + n) (m + 1) (by omega) n p hp).1
 have hlow2 : ∀ (n' : Nat), ∀ p ∈ lowb (236 + n) (m + 1) n', p.1 = 236 + n := by
  intro n'
  induction n' with
  | zero => intro p hp; cases hp
  | succ n' ih =>
   intro p hp
   rcases List.mem_cons.1 hp with rfl | hp
   ·rfl
   ·exact ih p hp
 generalize Pack.puts t (chain 224 0 n) = u at *
 have key : ∀ j, j < 236 -> chn (Pack.puts u (lowb (236 + n) (m + 1) n)) j = chn u j := fun j hj => puts_ch _ u o1 hlow (fun p hp => by rw [hlow2 n p hp]; omega)
 refine ⟨⟨Pack.puts_ok _ u o1 hlow, fun k hk => ?_, fun n' hn' => ?_, ?_⟩, ?_⟩
 ·have : k <= 4 \/ k = 200 := by simp at hk; omega
  rw [key k (by omega), c2, if_neg (by omega), if_neg (by omega)]
  exact I.hd k hk
 ·rw [P_same (c := fun i => chn u (224 + i)) n' 0 (fun j _ hj => key _ (by omega))]
  refine pw_step (I.ch n' hn') (P_step (n := n) (fun i => ?_) n' 0)
  rw [c2]
  by_cases h1 : i < n
  ·rw [if_pos (by omega), if_pos h1]
  ·rw [if_neg (by omega), if_neg h1]
   by_cases h2 : i = n
   ·rw [if_pos (by omega), if_pos h2]
   ·rw [if_neg (by omega), if_neg h2]
 ·have k2 : 31 ^ 8 * D t <= 32 ^ 8 * D (Pack.puts u (lowb (236 + n) (m + 1) n)) := by
   obtain ⟨r, hr⟩ : ∃ r, 8 = n + r := ⟨8 - n, by omega⟩
   rw [hr, Nat.pow_add, Nat.pow_add]
   calc 31 ^ n * 31 ^ r * D t = 31 ^ r * (31 ^ n * D t) := by ac_rfl
    _ <= 32 ^ r * (32 ^ n * D (Pack.puts u (lowb (236 + n) (m + 1) n))) := Nat.mul_le_mul (Nat.pow_le_pow_left (by decide) r) d2
    _ = _ := by ac_rfl
  rw [Nat.mul_add, Nat.mul_one, Nat.pow_add, Nat.pow_add]
  calc 2048 ^ 9 * (31 ^ (8 * q) * 31 ^ 8) = 2048 ^ 9 * 31 ^ (8 * q) * 31 ^ 8 := by ac_rfl
   _ <= D t * 32 ^ (8 * q) * 31 ^ 8 := Nat.mul_le_mul_right _ I.dg
   _ = 31 ^ 8 * D t * 32 ^ (8 * q) := by ac_rfl
   _ <= 32 ^ 8 * D (Pack.puts u (lowb (236 + n) (m + 1) n)) * 32 ^ (8 * q) := Nat.mul_le_mul_right _ k2
   _ = _ := by ac_rfl
 ·have hc := I.ch n hn
  have h6 := six n hn
  generalize P (fun j => chn t (224 + j)) 0 n = p at *
  generalize D (Pack.puts u (lowb (236 + n) (m + 1) n)) ^ 5 * val M (Pack.puts u (lowb (236 + n) (m + 1) n)) = Z at *
  generalize val M u = y at *
  generalize val M t = x at *
  generalize D t ^ 5 = d at *
  have k1 : 4095 * 31 ^ q * x <= 2 ^ (n + 1) * 4096 * 32 ^ q * y := by
   refine Nat.le_of_mul_le_mul_left (c := 2048 ^ (n + 1)) ?_ (Nat.pow_pos (by decide))
   calc 2048 ^ (n + 1) * (4095 * 31 ^ q * x) = 2048 ^ (n + 1) * 31 ^ q * (4095 * x) := by ac_rfl
    _ <= p * 32 ^ q * (4095 * x) := Nat.mul_le_mul_right _ hc
    _ = p * 4095 * x * 32 ^ q := by ac_rfl
    _ <= 4096 ^ (n + 1) * 4096 * y * 32 ^ q := Nat.mul_le_mul_right _ c1
    _ = 2048 ^ (n + 1) * (2 ^ (n + 1) * 4096 * 32 ^ q * y) := by
     rw [show (4096 : Nat) ^ (n + 1) = 2048 ^ (n + 1) * 2 ^ (n + 1) by rw [<- Nat.mul_pow]]; ac_rfl
  calc 4095 * 31 ^ q * (d * x) = d * (4095 * 31 ^ q * x) := by ac_rfl
   _ <= d * (2 ^ (n + 1) * 4096 * 32 ^ q * y) := Nat.mul_le_mul_left _ k1
   _ = 2 ^ (n + 1) * 4096 * 32 ^ q * (d * y) := by ac_rfl
   _ <= 2 ^ (n + 1) * 4096 * 32 ^ q * (3 ^ n * Z) := Nat.mul_le_mul_left _ d1
   _ = 2 ^ n * 3 ^ n * (8192 * 32 ^ q * Z) := by rw [Nat.pow_succ 2 n, show (8192 : Nat) = 2 * 4096 from rfl]; ac_rfl
   _ <= 1679616 * (8192 * 32 ^ q * Z) := Nat.mul_le_mul_right _ h6
   _ = 13759414272 * 32 ^ q * Z := by rw [<- Nat.mul_assoc, <- Nat.mul_assoc]
end Sc
end Go.Proofs.YtekfbphnoibnjaaDoor
