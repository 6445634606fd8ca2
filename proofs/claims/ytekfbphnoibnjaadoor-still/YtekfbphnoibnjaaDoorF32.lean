/-
  What is put of areas: how many bits, and that they are bits. Plain arithmetic.
-/
import Derived.Test.YtekfbphnoibnjaaDoorF31
namespace Go.Proofs.YtekfbphnoibnjaaDoor
open Go.RowKit
open Flm (Px FS okPx)
open Pk (coloursL index fewl softl nearL copyl hd kind better num choice col1)
theorem nn_le {n : Nat} (h : n <= 16) : n * n <= 256 := Nat.mul_le_mul h h
theorem copyl_ok {k : Nat} {a b : Int} (hk : k + 46 <= 400) (a0 : -511 <= a) (a1 : a <= 511) (b0 : -511 <= b) (b1 : b <= 511) : Pack.BitsOk (copyl k a b) /\ (copyl k a b).length <= 38 := by
 obtain ⟨h1, h2⟩ := sgn_facts (k := k) (n := a) (by omega) a0 a1
 obtain ⟨h3, h4⟩ := sgn_facts (k := k + 24) (n := b) (by omega) b0 b1
 unfold Pk.copyl
 exact ⟨Pk.ok_app h1 h3, by rw [List.length_append]; omega⟩
theorem few_ok {cs : List Px} {ix : Nat × Nat -> Nat} {x y n : Nat} (h4 : cs.length <= 4) (hc : ∀ c ∈ cs, okPx c) (hi : ∀ q ∈ Flm.spots x y n, ix q <= 3) : Pack.BitsOk (fewl cs ix x y n) /\ (fewl cs ix x y n).length <= 19 + (228 + 4 * (n * n)) := by
 have h1 := num8_len (m := cs.length - 1) (by omega) 200
 have h2 := Pk.flat_len cs (f := col1) (m := 57) fun c h => (col1_ok (hc c h)).2
 have h3 := Pk.flat_len (Flm.spots x y n) (f := fun q => choice (cs.length - 1) (ix q)) (m := 4) fun q h => (choice_ok (hi q h)).2
 rw [Flm.spots_len] at h3
 unfold Pk.fewl
 refine ⟨Pk.ok_app (Pk.num_ok (by omega) (by decide)) (Pk.ok_app (Pk.flat_ok _ fun c h => (col1_ok (hc c h)).1) (Pk.flat_ok _ fun q h => (choice_ok (hi q h)).1)), ?_⟩
 rw [List.length_append, List.length_append]
 omega
theorem way_ok {z : Nat} {T : List Px} {T0 : Option (List Px)} {x y n : Nat} (hT : ∀ p ∈ T, okPx p) (hz : z <= 16) (hn : 4 <= n) (hx : x + n <= z) (hy : y + n <= z) {κ : Nat} {l : Pk.Bts} (h : wayC z T T0 x y n κ = some l) : Pack.BitsOk l /\ l.length <= 57 * (n * n) + 300 := by
 have hnn := nn_le (show n <= 16 by omega)
 have near : ∀ (may : Nat × Nat -> Bool) (k : Nat) (L : List (Nat × Nat)), k + 46 <= 400 -> (∀ p ∈ L, p.1 + n <= z /\ p.2 + n <= z) -> (nearL may x y L).map (fun q => copyl k ((q.1 : Int) - x) ((q.2 : Int) - y)) = some l -> Pack.BitsOk l /\ l.length <= 57 * (n * n) + 300 := fun may k L hk hL e => by
  cases e1 : nearL may x y L with
  | none => rw [e1] at e; cases e
  | some q =>
   rw [e1] at e
   obtain rfl := Option.some.inj e
   have := hL q (Pk.near_some e1).1
   obtain ⟨h1, h2⟩ := copyl_ok (k := k) (a := (q.1 : Int) - x) (b := (q.2 : Int) - y) hk (by omega) (by omega) (by omega) (by omega)
   exact ⟨h1, Nat.le_trans h2 (by omega)⟩
 match κ, h with
 | 0, h =>
  obtain rfl := Option.some.inj h
  obtain ⟨h1, h2⟩ := Pk.softl_ok hT z x y n
  exact ⟨h1, by omega⟩
 | 1, h =>
  have h : (coloursL z T x y n).map (fun cs => fewl cs (fun q => index (Pk.pixT z T q) cs) x y n) = some l := h
  cases e : coloursL z T x y n with
  | none => rw [e] at h; cases h
  | some cs =>
   rw [e] at h
   obtain rfl := Option.some.inj h
   obtain ⟨⟨c1, c2⟩, c3, c4⟩ := Pk.colours_facts hT (by omega) e
   obtain ⟨h1, h2⟩ := few_ok (ix := fun q => index (Pk.pixT z T q) cs) (x := x) (y := y) (n := n) c2 c3 fun q hq => by have := (Pk.index_lt (c4 q hq)).1; omega
   exact ⟨h1, Nat.le_trans h2 (by omega)⟩
 | 2, h => exact near _ 260 _ (by decide) (fun p hp => placesO_mem (by omega) hp) h
 | κ + 3, h => exact near _ 310 _ (by decide) (fun p hp => placesO_mem (by omega) hp) h
theorem kd_ok (n κ : Nat) (hκ : κ < 4) : Pack.BitsOk (hd n 0 ++ kind (κ / 2) (κ % 2)) /\ (hd n 0 ++ kind (κ / 2) (κ % 2)).length <= 3 /\ 0 < (hd n 0 ++ kind (κ / 2) (κ % 2)).length := by
 have h1 : (hd n 0).length <= 1 := by unfold Pk.hd; split <;> simp
 have h2 : (kind (κ / 2) (κ % 2)).length = 2 := rfl
 refine ⟨Pk.ok_app ?_ (Pk.ok_cons (by decide) (by omega) (Pk.ok_cons (by omega) (by omega) Pk.ok_nil)), by rw [List.length_append]; omega, by rw [List.length_append]; omega⟩
 unfold Pk.hd
 split
 ·exact Pk.ok_nil
 ·exact Pk.ok_cons (by split <;> decide) (.inl rfl) Pk.ok_nil
theorem best_ok {z : Nat} {T : List Px} {T0 : Option (List Px)} {t : WS} {x y n : Nat} (hT : ∀ p ∈ T, okPx p) (hz : z <= 16) (hn : 4 <= n) (hx : x + n <= z) (hy : y + n <= z) : ∀ κ, κ < 4 -> Pack.BitsOk (bestL z T T0 t x y n (κ + 1)) /\ (bestL z T T0 t x y n (κ + 1)).length <= 57 * (n * n) + 303 /\ 0 < (bestL z T T0 t x y n (κ + 1)).length
 | 0, _ => by
  obtain ⟨h1, h2, h3⟩ := kd_ok n 0 (by decide)
  obtain ⟨h4, h5⟩ := Pk.softl_ok hT z x y n
  refine ⟨Pk.ok_app h1 h4, ?_, ?_⟩
  ·show ((hd n 0 ++ kind (0 / 2) (0 % 2)) ++ softl z T x y n).length <= _
   rw [List.length_append]; omega
  ·show 0 < ((hd n 0 ++ kind (0 / 2) (0 % 2)) ++ softl z T x y n).length
   rw [List.length_append]; omega
 | κ + 1, hκ => by
  have ih := best_ok (T0 := T0) (t := t) hT hz hn hx hy κ (by omega)
  show Pack.BitsOk (better t _ (cand z T T0 x y n (κ + 1))) /\ (better t _ (cand z T T0 x y n (κ + 1))).length <= _ /\ 0 < (better t _ (cand z T T0 x y n (κ + 1))).length
  rcases Pk.better_or t (bestL z T T0 t x y n (κ + 1)) (cand z T T0 x y n (κ + 1)) with e | ⟨l, e1, e2⟩
  ·rw [e]; exact ih
  ·rw [e2]
   unfold cand at e1
   cases e3 : wayC z T T0 x y n (κ + 1) with
   | none => rw [e3] at e1; cases e1
   | some l' =>
    rw [e3] at e1
    obtain rfl := Option.some.inj e1
    obtain ⟨h1, h2, h3⟩ := kd_ok n (κ + 1) hκ
    obtain ⟨h4, h5⟩ := way_ok hT hz hn hx hy e3
    exact ⟨Pk.ok_app h1 h4, by rw [List.length_append]; omega, by rw [List.length_append]; omega⟩
def spl (A : WS -> Nat -> Nat -> Pk.Bts) (t : WS) (d0 : Pk.Bts) (x y h : Nat) : Nat -> Pk.Bts
 | 0 => d0
 | i + 1 => spl A t d0 x y h i ++ A (Pack.puts t (spl A t d0 x y h i)) (x + i % 2 * h) (y + i / 2 * h)
def ctx1 (n : Nat) : Pk.Bts := [(if n = 16 then 0 else 1, 1)]
def areaB (z : Nat) (T : List Px) (T0 : Option (List Px)) : Nat -> WS -> Nat -> Nat -> Nat -> Pk.Bts
 | 0, t, x, y, n => bestL z T T0 t x y n 4
 | c + 1, t, x, y, n => if Pk.plainB z T x y n then bestL z T T0 t x y n 4 else better t (bestL z T T0 t x y n 4) (some (spl (fun s x y => areaB z T T0 c s x y (n / 2)) t (ctx1 n) x y (n / 2) 4))
def lenB : Nat -> Nat
 | 0 => 1300
 | c + 1 => 4 * lenB c + 1
theorem lenB_ge (c : Nat) : 912 * 4 ^ c + 388 <= lenB c := by
 induction c with
 | zero => exact Nat.le_refl _
 | succ c ih => show _ <= 4 * lenB c + 1; rw [Nat.pow_succ]; omega
theorem sq_four (c : Nat) : (4 * 2 ^ c) * (4 * 2 ^ c) = 16 * 4 ^ c := by
 have : 4 ^ c = 2 ^ c * 2 ^ c := by rw [<- Nat.mul_pow]
 rw [this, Nat.mul_mul_mul_comm]
theorem best_lenB {n c : Nat} (hn : n = 4 * 2 ^ c) : 57 * (n * n) + 303 <= lenB c := by
 have h1 := lenB_ge c
 rw [hn, sq_four]
 omega
theorem spl_ok {A : WS -> Nat -> Nat -> Pk.Bts} {t : WS} {n x y h L : Nat} (hA : ∀ s i, i < 4 -> Pack.BitsOk (A s (x + i % 2 * h) (y + i / 2 * h)) /\ (A s (x + i % 2 * h) (y + i / 2 * h)).length <= L) : ∀ i, i <= 4 -> Pack.BitsOk (spl A t (ctx1 n) x y h i) /\ (spl A t (ctx1 n) x y h i).length <= i * L + 1 /\ 0 < (spl A t (ctx1 n) x y h i).length
 | 0, _ => ⟨Pk.ok_cons (by split <;> decide) (.inr rfl) Pk.ok_nil, by simp [spl, ctx1], by simp [spl, ctx1]⟩
 | i + 1, hi => by
  obtain ⟨h1, h2, h3⟩ := spl_ok (t := t) (n := n) hA i (by omega)
  obtain ⟨h4, h5⟩ := hA (Pack.puts t (spl A t (ctx1 n) x y h i)) i (by omega)
  refine ⟨Pk.ok_app h1 h4, ?_, ?_⟩
  ·show (spl A t (ctx1 n) x y h i ++ _).length <= _
   rw [List.length_append, Nat.succ_mul]; omega
  ·show 0 < (spl A t (ctx1 n) x y h i ++ _).length
   rw [List.length_append]; omega
theorem area_ok {z : Nat} {T : List Px} {T0 : Option (List Px)} (hT : ∀ p ∈ T, okPx p) (hz : z <= 16) : ∀ (c : Nat) (t : WS) (x y n : Nat), n = 4 * 2 ^ c -> x + n <= z -> y + n <= z -> Pack.BitsOk (areaB z T T0 c t x y n) /\ (areaB z T T0 c t x y n).length <= lenB c /\ 0 < (areaB z T T0 c t x y n).length
 | 0, t, x, y, n, hn, hx, hy => by
  have hb := best_ok (T0 := T0) (t := t) hT hz (n := n) (by omega) hx hy 3 (by decide)
  exact ⟨hb.1, Nat.le_trans hb.2.1 (best_lenB hn), hb.2.2⟩
 | c + 1, t, x, y, n, hn, hx, hy => by
  have h2 : n = 2 * (4 * 2 ^ c) := by rw [hn, Nat.pow_succ]; omega
  obtain ⟨h, hh⟩ : ∃ h, h = 4 * 2 ^ c := ⟨_, rfl⟩
  rw [<- hh] at h2
  have hp : 0 < 2 ^ c := Nat.two_pow_pos c
  have hb := best_ok (T0 := T0) (t := t) hT hz (n := n) (by omega) hx hy 3 (by decide)
  have hle : (bestL z T T0 t x y n 4).length <= lenB (c + 1) := Nat.le_trans hb.2.1 (best_lenB hn)
  unfold areaB
  split
  ·exact ⟨hb.1, hle, hb.2.2⟩
  ·have hd : n / 2 = h := by omega
   rw [hd]
   have hs := spl_ok (A := fun s x y => areaB z T T0 c s x y h) (t := t) (n := n) (x := x) (y := y) (h := h) (L := lenB c) (fun s i hi => by
    have h5 : i % 2 * h <= h := by rcases (by omega : i % 2 = 0 \/ i % 2 = 1) with e | e <;> rw [e] <;> omega
    have h6 : i / 2 * h <= h := by rcases (by omega : i / 2 = 0 \/ i / 2 = 1) with e | e <;> rw [e] <;> omega
    have := area_ok (T0 := T0) hT hz c s (x + i % 2 * h) (y + i / 2 * h) h hh (by omega) (by omega)
    exact ⟨this.1, this.2.1⟩) 4 (Nat.le_refl _)
   rcases Pk.better_or t (bestL z T T0 t x y n 4) (some (spl (fun s x y => areaB z T T0 c s x y h) t (ctx1 n) x y h 4)) with e | ⟨l, e1, e2⟩
   ·rw [e]; exact ⟨hb.1, hle, hb.2.2⟩
   ·rw [e2]
    obtain rfl := Option.some.inj e1
    exact ⟨hs.1, hs.2.1, hs.2.2⟩
end Go.Proofs.YtekfbphnoibnjaaDoor
