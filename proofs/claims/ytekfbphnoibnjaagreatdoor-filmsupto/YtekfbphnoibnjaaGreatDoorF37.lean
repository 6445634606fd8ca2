/-
  Where bytes are wrong, and what Decode tells. Which errors the reading of frames may meet; no program in sight. What Decode tells, against the document's reading. The law Films over a script: every step answers true. Two closed facts on the program.
-/
import Derived.Test.YtekfbphnoibnjaaGreatDoorF34
import Derived.Test.YtekfbphnoibnjaaGreatDoorF35
import Derived.Test.YtekfbphnoibnjaaGreatDoorF36
import Derived.Test.YtekfbphnoibnjaaGreatDoorF30
import Derived.Test.YtekfbphnoibnjaaGreatDoorF03
import Derived.Test.YtekfbphnoibnjaaGreatDoorF11
import Derived.Test.YtekfbphnoibnjaaGreatDoorF32
import Derived.Test.YtekfbphnoibnjaaGreatDoorF33
import Derived.Test.YtekfbphnoibnjaaGreatDoorRows
import Derived.ProofKit
import Derived.OpenShut
import Derived.ChangeOld
namespace Go.Proofs.YtekfbphnoibnjaaGreatDoor
open Go.RowKit
open Flm (Px FS)
def ErrT (w : World) : Prop := w.cell? ⟨8, 0, none⟩ = some (.iface 220 (.agg #[.pointer (some ⟨10, 62, none⟩)]))
theorem ErrT.below {w w' : World} (h : ErrT w) (b : Below w.heap.size w w') : ErrT w' := (b.cell (p := ⟨8, 0, none⟩) (World.block_lt_of_cell? w _ h)).trans h
set_option maxHeartbeats 1000000 in
set_option maxRecDepth 20000 in
theorem pPlace_plain (w : World) (a : Addr) (T : ErrT w) :
  Calls Tryz.prog 22 #[.iface 278 (.pointer (some a))] w fun e w' => e = .returned (.agg #[.int .i64 0, .int .i64 0, .int .i64 0]) /\ Below w.heap.size w w' := by
 obtain ⟨W2, hW2⟩ : ∃ W2, W2 = (w.alloc (.cells #[.int .i64 0, .int .i64 0, .int .i64 0] 33)).alloc (.cells #[.int .i64 0, .int .i64 0, .int .i64 0, .nilIface] 113) := ⟨_, rfl⟩
 have hB : Below w.heap.size w W2 := by rw [hW2]; exact ((Below.refl _ w).alloc (Nat.le_refl _) _).alloc (by simp) _
 have hp : W2.heap[w.heap.size]? = some (.cells #[.int .i64 0, .int .i64 0, .int .i64 0] 33 (0, 0)) := by rw [hW2, Below.heap_alloc _ _ _ (by simp)]; exact heap_alloc_last w _
 have HA : Hid (Calls Tryz.prog 48 #[.iface 278 (.pointer (some a)), .iface 115 (.pointer (some ⟨w.heap.size + 1, 0, none⟩))] W2 fun ev w' => ev = .returned (.bool false) /\ Below W2.heap.size W2 w') := as_miss a _ W2 (T.below hB)
 have HW2 : Hid (W2 = (w.alloc (.cells #[.int .i64 0, .int .i64 0, .int .i64 0] 33)).alloc (.cells #[.int .i64 0, .int .i64 0, .int .i64 0, .nilIface] 113)) := hW2
 have HB : Hid (Below w.heap.size w W2) := hB
 have HC : Hid (∀ w3, Below W2.heap.size W2 w3 -> w3.heap[w.heap.size]? = some (.cells #[.int .i64 0, .int .i64 0, .int .i64 0] 33 (0, 0))) := fun w3 b => (b.block _ (heap_lt hp)).trans hp
 clear hW2 hB hp T
 go_enter Tryz.func22, Tryz.ntmps22
 go_wp2_with (first
  | (rw [<- HW2.out])
  | (go_at_call 48; refine HA.out.mono ?_; rintro e w3 ⟨rfl, b3⟩; have r3 := HC.out w3 b3; have k0 : w3.cell? ⟨w.heap.size, 0, none⟩ = some (.int .i64 0) := cell_of_row _ _ 0 _ _ _ r3; have k1 : w3.cell? ⟨w.heap.size, 1, none⟩ = some (.int .i64 0) := cell_of_row _ _ 1 _ _ _ r3; have k2 : w3.cell? ⟨w.heap.size, 2, none⟩ = some (.int .i64 0) := cell_of_row _ _ 2 _ _ _ r3; have z0 := frozen_of_row _ _ 0 _ _ r3; have z1 := frozen_of_row _ _ 1 _ _ r3; have z2 := frozen_of_row _ _ 2 _ _ r3))
 obtain ⟨X, hX⟩ : ∃ X, X = ((w3.setCell ⟨w.heap.size, 0, none⟩ (.int .i64 0)).setCell ⟨w.heap.size, 1, none⟩ (.int .i64 0)).setCell ⟨w.heap.size, 2, none⟩ (.int .i64 0) := ⟨_, rfl⟩
 rw [<- hX]
 obtain ⟨q0, q1, q2, fX⟩ := three_set w3 w.heap.size _ _ _ k0 k1 k2 X hX
 refine bodyPost_ret (v := .agg #[.int .i64 0, .int .i64 0, .int .i64 0]) (by simp [results, Tryz.results22, go_sem, q0, q1, q2]) rfl ⟨rfl, ?_⟩
 exact (HB.out.trans (b3.mono HB.out.size)).trans (fX.below (by have := HB.out.size; have := b3.size; omega) (fun k e => by omega))
set_option maxHeartbeats 1000000 in
set_option maxRecDepth 20000 in
theorem pPlace_flt (w : World) (a : Addr) (f x y : Int) (T : ErrT w) :
  Calls Tryz.prog 22 #[.iface 113 (.agg #[.int .i64 f, .int .i64 x, .int .i64 y, .iface 278 (.pointer (some a))])] w fun e w' => e = .returned (.agg #[.int .i64 f, .int .i64 x, .int .i64 y]) /\ Below w.heap.size w w' := by
 obtain ⟨fv, hfv⟩ : ∃ fv : Value, fv = .agg #[.int .i64 f, .int .i64 x, .int .i64 y, .iface 278 (.pointer (some a))] := ⟨_, rfl⟩
 rw [<- hfv]
 obtain ⟨W2, hW2⟩ : ∃ W2, W2 = (w.alloc (.cells #[.int .i64 0, .int .i64 0, .int .i64 0] 33)).alloc (.cells #[.int .i64 0, .int .i64 0, .int .i64 0, .nilIface] 113) := ⟨_, rfl⟩
 have hB : Below w.heap.size w W2 := by rw [hW2]; exact ((Below.refl _ w).alloc (Nat.le_refl _) _).alloc (by simp) _
 have hp : W2.heap[w.heap.size]? = some (.cells #[.int .i64 0, .int .i64 0, .int .i64 0] 33 (0, 0)) := by rw [hW2, Below.heap_alloc _ _ _ (by simp)]; exact heap_alloc_last w _
 have hq : W2.heap[w.heap.size + 1]? = some (.cells #[.int .i64 0, .int .i64 0, .int .i64 0, .nilIface] 113 (0, 0)) := by
  have := heap_alloc_last (w.alloc (.cells #[.int .i64 0, .int .i64 0, .int .i64 0] 33)) (.cells #[.int .i64 0, .int .i64 0, .int .i64 0, .nilIface] 113)
  rw [World.size_alloc] at this
  rw [hW2]; exact this
 have HA : Hid (Calls Tryz.prog 48 #[.iface 113 fv, .iface 115 (.pointer (some ⟨w.heap.size + 1, 0, none⟩))] W2 fun ev w' => ev = .returned (.bool true) /\ w'.heap[w.heap.size + 1]? = some (.cells #[.int .i64 f, .int .i64 x, .int .i64 y, .iface 278 (.pointer (some a))] 113 (0, 0)) /\ Frm (fun k => k = w.heap.size + 1) W2 w') := by rw [hfv]; exact as_hit a f x y (w.heap.size + 1) _ W2 (T.below hB) hq rfl
 have HW2 : Hid (W2 = (w.alloc (.cells #[.int .i64 0, .int .i64 0, .int .i64 0] 33)).alloc (.cells #[.int .i64 0, .int .i64 0, .int .i64 0, .nilIface] 113)) := hW2
 have HB : Hid (Below w.heap.size w W2) := hB
 have HC : Hid (∀ w3, Frm (fun k => k = w.heap.size + 1) W2 w3 -> w3.heap[w.heap.size]? = some (.cells #[.int .i64 0, .int .i64 0, .int .i64 0] 33 (0, 0))) := fun w3 b => (b.block _ (heap_lt hp) (by omega)).trans hp
 clear hW2 hB hp hq T hfv
 go_enter Tryz.func22, Tryz.ntmps22
 go_wp2_with (first
  | (rw [<- HW2.out])
  | (go_at_call 48; refine HA.out.mono ?_; rintro e w3 ⟨rfl, r4, b3⟩; have r3 := HC.out w3 b3; have k0 : w3.cell? ⟨w.heap.size, 0, none⟩ = some (.int .i64 0) := cell_of_row _ _ 0 _ _ _ r3; have k1 : w3.cell? ⟨w.heap.size, 1, none⟩ = some (.int .i64 0) := cell_of_row _ _ 1 _ _ _ r3; have k2 : w3.cell? ⟨w.heap.size, 2, none⟩ = some (.int .i64 0) := cell_of_row _ _ 2 _ _ _ r3; have z0 := frozen_of_row _ _ 0 _ _ r3; have z1 := frozen_of_row _ _ 1 _ _ r3; have z2 := frozen_of_row _ _ 2 _ _ r3; have m0 : w3.cell? ⟨w.heap.size + 1, 0, none⟩ = some (.int .i64 f) := cell_of_row _ _ 0 _ _ _ r4; have m1 : w3.cell? ⟨w.heap.size + 1, 1, none⟩ = some (.int .i64 x) := cell_of_row _ _ 1 _ _ _ r4; have m2 : w3.cell? ⟨w.heap.size + 1, 2, none⟩ = some (.int .i64 y) := cell_of_row _ _ 2 _ _ _ r4))
 obtain ⟨X, hX⟩ : ∃ X, X = ((w3.setCell ⟨w.heap.size, 0, none⟩ (.int .i64 f)).setCell ⟨w.heap.size, 1, none⟩ (.int .i64 x)).setCell ⟨w.heap.size, 2, none⟩ (.int .i64 y) := ⟨_, rfl⟩
 rw [<- hX]
 obtain ⟨q0, q1, q2, fX⟩ := three_set w3 w.heap.size _ _ _ k0 k1 k2 X hX
 refine bodyPost_ret (v := .agg #[.int .i64 f, .int .i64 x, .int .i64 y]) (by simp [results, Tryz.results22, go_sem, q0, q1, q2]) rfl ⟨rfl, ?_⟩
 exact (HB.out.trans (b3.below (by have := HB.out.size; omega) (fun k e => by omega))).trans (fX.below (by have := HB.out.size; have := b3.size; omega) (fun k e => by omega))
end Go.Proofs.YtekfbphnoibnjaaGreatDoor
namespace Go.Proofs.YtekfbphnoibnjaaGreatDoor
def ErrIn (r : RS) : Prop := r.err = 0 \/ r.err = 2 \/ r.err = 5 \/ r.err = 8 \/ r.err = 9 \/ r.err = 10
namespace Rdr
theorem bitS_in {s : ByteArray} {r : RS} (h : ErrIn r) (k : Nat) : ErrIn (bitS s r k) := by
 by_cases he : r.err = 0
 ·rcases bitS_errs (s := s) (k := k) he with e | e
  ·exact .inl e
  ·exact .inr (.inr (.inl e))
 ·have : bitS s r k = r := by unfold bitS; rw [if_neg he]
  rw [this]; exact h
theorem fail_in {r : RS} (h : ErrIn r) {e : Int} (he : e = 0 \/ e = 2 \/ e = 8 \/ e = 9 \/ e = 10) : ErrIn (fail r e) := by
 by_cases h0 : r.err = 0
 ·have e0 : (fail r e).err = e := fail_zero h0
  unfold ErrIn
  rw [e0]
  rcases he with e | e | e | e | e <;> rw [e] <;> decide
 ·rw [fail_of h0]; exact h
theorem run_in {s : ByteArray} {k : Nat} : ∀ (f n : Nat) (r : RS), ErrIn r -> ErrIn (run s k f n r).2
 | 0, _, _, h => h
 | f + 1, n, r, h => by
  unfold run
  split
  ·split
   ·exact bitS_in h _
   ·refine run_in f (n + 1) _ ?_
    split
    ·exact fail_in (bitS_in h _) (.inr (.inr (.inl rfl)))
    ·exact bitS_in h _
  ·exact h
theorem lows_in {s : ByteArray} {k : Nat} : ∀ (f : Nat) (d u : Int) (r : RS), ErrIn r -> ErrIn (lows s k f d u r).2.2
 | 0, _, _, _, h => h
 | f + 1, d, u, r, h => by
  unfold lows
  split
  ·exact lows_in f _ _ _ (bitS_in h _)
  ·exact h
theorem number_in {s : ByteArray} {r : RS} (h : ErrIn r) (k : Nat) : ErrIn (number s r k).2 := lows_in _ _ _ _ (run_in _ _ _ h)
end Rdr
namespace Flm
theorem back_err (c : Px) : (back c).2 = 0 \/ (back c).2 = 2 := by
 unfold back
 split
 ·exact .inl rfl
 ·exact .inr rfl
theorem soft1_in {s : ByteArray} {z : Nat} {fs : FS} {i j : Nat} (h : ErrIn fs.r) : ErrIn (soft1 s z fs i j).1.r := by
 have h3 : ErrIn (Rdr.number s (Rdr.number s (Rdr.number s fs.r 100).2 124).2 148).2 := Rdr.number_in (Rdr.number_in (Rdr.number_in h _) _) _
 unfold soft1
 dsimp only
 split
 ·exact h3
 ·refine Rdr.fail_in h3 ?_
  rcases back_err (expected (near z fs ((i : Int) - 1) j).1 (near z fs i ((j : Int) - 1)).1 (near z fs ((i : Int) - 1) ((j : Int) - 1)).1 + Rdr.signed s fs.r 100, expected (near z fs ((i : Int) - 1) j).2.1 (near z fs i ((j : Int) - 1)).2.1 (near z fs ((i : Int) - 1) ((j : Int) - 1)).2.1 + Rdr.signed s (Rdr.number s fs.r 100).2 124, expected (near z fs ((i : Int) - 1) j).2.2 (near z fs i ((j : Int) - 1)).2.2 (near z fs ((i : Int) - 1) ((j : Int) - 1)).2.2 + Rdr.signed s (Rdr.number s (Rdr.number s fs.r 100).2 124).2 148) with e | e
  ·exact .inl e
  ·exact .inr (.inl e)
theorem soft_in {s : ByteArray} {z : Nat} : ∀ (ps : List (Nat × Nat)) (fs : FS), ErrIn fs.r -> ErrIn (soft s z ps fs).r
 | [], _, h => h
 | (i, j) :: ps, fs, h => by
  show ErrIn (if (soft1 s z fs i j).1.r.err = 0 then soft s z ps (put (soft1 s z fs i j).1 (j * z + i) (soft1 s z fs i j).2) else (soft1 s z fs i j).1).r
  split
  ·exact soft_in ps _ (soft1_in h)
  ·exact soft1_in h
theorem shade_in {s : ByteArray} {r : RS} (h : ErrIn r) : ErrIn (shade s r).2 := by
 unfold shade
 dsimp only
 split
 ·exact Rdr.fail_in (Rdr.number_in h _) (.inr (.inl rfl))
 ·exact Rdr.number_in h _
theorem colours_in {s : ByteArray} : ∀ (n : Nat) (r : RS), ErrIn r -> ErrIn (colours s n r).2
 | 0, _, h => h
 | n + 1, r, h => by
  unfold colours
  split
  ·exact colours_in n _ (shade_in (shade_in (shade_in h)))
  ·exact h
theorem which_in {s : ByteArray} : ∀ (f k : Nat) (r : RS), ErrIn r -> ErrIn (which s f k r).2
 | 0, _, _, h => h
 | f + 1, k, r, h => by
  unfold which
  split
  ·exact Rdr.bitS_in h _
  ·exact which_in f (k + 1) _ (Rdr.bitS_in h _)
theorem fills_in {s : ByteArray} {z n : Nat} {l : List Px} : ∀ (ps : List (Nat × Nat)) (fs : FS), ErrIn fs.r -> ErrIn (fills s z n l ps fs).r
 | [], _, h => h
 | (i, j) :: ps, fs, h => by
  show ErrIn (if fs.r.err = 0 then (if (which s n 0 fs.r).2.err = 0 then fills s z n l ps (put { fs with r := (which s n 0 fs.r).2 } (j * z + i) (l.getD (which s n 0 fs.r).1 (0, 0, 0))) else fills s z n l ps { fs with r := (which s n 0 fs.r).2 }) else fs).r
  split
  ·split
   ·exact fills_in ps _ (which_in _ _ _ h)
   ·exact fills_in ps _ (which_in _ _ _ h)
  ·exact h
theorem few_in {s : ByteArray} {z x y n : Nat} {fs : FS} (h : ErrIn fs.r) : ErrIn (few s z x y n fs).r := by
 unfold few
 dsimp only
 refine fills_in _ _ (colours_in _ _ ?_)
 split
 ·exact Rdr.fail_in (Rdr.number_in h _) (.inr (.inr (.inl rfl)))
 ·exact Rdr.number_in h _
theorem copies_in' {s : ByteArray} {z x y n k f : Nat} {fs : FS} (h : ErrIn fs.r) : ErrIn (copies s z x y n k f fs).r := by
 have h2 : ErrIn (Rdr.number s (Rdr.number s fs.r k).2 (k + 24)).2 := Rdr.number_in (Rdr.number_in h _) _
 unfold copies
 dsimp only
 split
 ·split
  ·rw [moves_r]; exact h2
  ·exact Rdr.fail_in h2 (.inr (.inr (.inr (.inl rfl))))
 ·exact h2
theorem block_in {s : ByteArray} {z x y n : Nat} {fs : FS} (h : ErrIn fs.r) : ErrIn (block s z x y n fs).r := by
 have h2 : ErrIn (Rdr.bitS s (Rdr.bitS s fs.r 2) (3 + (Rdr.bitV fs.r 2).toNat)) := Rdr.bitS_in (Rdr.bitS_in h _) _
 unfold block
 dsimp only
 split
 ·split
  ·split
   ·rw [seen_r]; exact soft_in _ _ h2
   ·rw [seen_r]; exact few_in h2
  ·split
   ·rw [seen_r]; exact copies_in' h2
   ·split
    ·exact Rdr.fail_in h2 (.inr (.inr (.inr (.inr rfl))))
    ·rw [seen_r]; exact copies_in' h2
 ·exact h2
theorem area_in {s : ByteArray} {z : Nat} : ∀ (n x y side : Nat) (fs : FS), ErrIn fs.r -> ErrIn (area s z n x y side fs).r
 | 0, x, y, side, fs, h => by
  unfold area
  split
  ·exact block_in h
  ·exact h
 | n + 1, x, y, side, fs, h => by
  obtain ⟨k, hk⟩ : ∃ k, k = if side = 16 then 0 else 1 := ⟨_, rfl⟩
  have hb : ErrIn (Rdr.bitS s fs.r k) := Rdr.bitS_in h k
  unfold area
  dsimp only
  rw [<- hk]
  split
  ·split
   ·exact area_in n _ _ _ _ (area_in n _ _ _ _ (area_in n _ _ _ _ (area_in n _ _ _ _ hb)))
   ·split
    ·exact block_in hb
    ·exact hb
  ·exact h
theorem frames_in {s : ByteArray} {z : Nat} : ∀ (n : Nat) (fs : FS), ErrIn fs.r -> ErrIn (frames s z n fs).r
 | 0, _, h => h
 | n + 1, fs, h => by
  unfold frames
  split
  ·exact frames_in n _ (area_in _ _ _ _ _ h)
  ·exact h
end Flm
end Go.Proofs.YtekfbphnoibnjaaGreatDoor
namespace Go.Proofs.YtekfbphnoibnjaaGreatDoor
open Go.RowKit
open Flm (Px FS)
set_option maxHeartbeats 1000000 in
set_option maxRecDepth 20000 in
theorem pDec_long (w : World) (s : ByteArray) (hs : 120000 < s.size) :
  Calls Tryz.prog 12 #[.string s] w fun x w' => x = .returned (noFilm 1) /\ Below w.heap.size w w' := by
 have hs' : (120000 : Int) < (s.size : Int) := by omega
 go_enter Tryz.func12, Tryz.ntmps12
 go_wp2
 refine bodyPost_ret (v := noFilm 1) ?_ rfl ⟨rfl, ((Below.refl _ w).alloc (Nat.le_refl _) _).alloc (by simp) _⟩
 simp [results, Tryz.results12, go_sem, noFilm]
set_option maxHeartbeats 1000000 in
set_option maxRecDepth 20000 in
theorem pDec_bad (w : World) (s : ByteArray) (hs : s.size <= 120000) (ty : TypeId) (ev : Value) (f x y k : Int)
  (hr : ∀ wx, Below w.heap.size w wx -> Calls Tryz.prog 21 #[.string s] wx fun e w' => e = .returned (.tuple #[.agg #[.int .i64 0, .slice none 0 0], .iface ty ev]) /\ Below wx.heap.size wx w')
  (hp : ∀ wx, Below w.heap.size w wx -> Calls Tryz.prog 22 #[.iface ty ev] wx fun e w' => e = .returned (.agg #[.int .i64 f, .int .i64 x, .int .i64 y]) /\ Below wx.heap.size wx w')
  (he : ∀ wx, Below w.heap.size w wx -> Calls Tryz.prog 23 #[.iface ty ev] wx fun e w' => e = .returned (.int .i64 k) /\ Below wx.heap.size wx w') :
  Calls Tryz.prog 12 #[.string s] w fun e w' => e = .returned (.tuple #[.agg #[.int .i64 0, .slice none 0 0], .agg #[.int .i64 f, .int .i64 x, .int .i64 y], .int .i64 k]) /\ Below w.heap.size w w' := by
 have hs' : ¬ ((120000 : Int) < (s.size : Int)) := by omega
 obtain ⟨W2, hW2⟩ : ∃ W2, W2 = (w.alloc (.cells #[.int .i64 0, .slice none 0 0] 27)).alloc (.cells #[.int .i64 0, .int .i64 0, .int .i64 0] 33) := ⟨_, rfl⟩
 have hB : Below w.heap.size w W2 := by rw [hW2]; exact ((Below.refl _ w).alloc (Nat.le_refl _) _).alloc (by simp) _
 have h0 : W2.heap[w.heap.size]? = some (.cells #[.int .i64 0, .slice none 0 0] 27 (0, 0)) := by rw [hW2, Below.heap_alloc _ _ _ (by simp)]; exact heap_alloc_last w _
 have h1 : W2.heap[w.heap.size + 1]? = some (.cells #[.int .i64 0, .int .i64 0, .int .i64 0] 33 (0, 0)) := by
  have := heap_alloc_last (w.alloc (.cells #[.int .i64 0, .slice none 0 0] 27)) (.cells #[.int .i64 0, .int .i64 0, .int .i64 0] 33)
  rw [World.size_alloc] at this
  rw [hW2]; exact this
 have hsz : W2.heap.size = w.heap.size + 2 := by rw [hW2]; simp
 have HR : Hid (Calls Tryz.prog 21 #[.string s] W2 fun e w' => e = .returned (.tuple #[.agg #[.int .i64 0, .slice none 0 0], .iface ty ev]) /\ Below W2.heap.size W2 w') := hr W2 hB
 have HP : Hid (∀ wx, Below W2.heap.size W2 wx -> Calls Tryz.prog 22 #[.iface ty ev] wx fun e w' => e = .returned (.agg #[.int .i64 f, .int .i64 x, .int .i64 y]) /\ Below wx.heap.size wx w') := fun wx b => hp wx (hB.trans (b.mono hB.size))
 have HE : Hid (∀ wx, Below W2.heap.size W2 wx -> Calls Tryz.prog 23 #[.iface ty ev] wx fun e w' => e = .returned (.int .i64 k) /\ Below wx.heap.size wx w') := fun wx b => he wx (hB.trans (b.mono hB.size))
 have HW2 : Hid (W2 = (w.alloc (.cells #[.int .i64 0, .slice none 0 0] 27)).alloc (.cells #[.int .i64 0, .int .i64 0, .int .i64 0] 33)) := hW2
 have HB : Hid (Below w.heap.size w W2) := hB
 have HC : Hid (∀ w3, Below W2.heap.size W2 w3 -> w3.heap[w.heap.size]? = some (.cells #[.int .i64 0, .slice none 0 0] 27 (0, 0)) /\ w3.heap[w.heap.size + 1]? = some (.cells #[.int .i64 0, .int .i64 0, .int .i64 0] 33 (0, 0))) := fun w3 b => ⟨(b.block _ (heap_lt h0)).trans h0, (b.block _ (heap_lt h1)).trans h1⟩
 have HSZ : Hid (W2.heap.size = w.heap.size + 2) := hsz
 clear hW2 hB h0 h1 hr hp he hsz
 go_enter Tryz.func12, Tryz.ntmps12
 go_wp2_with (first
  | (rw [<- HW2.out])
  | (go_at_call 21; refine HR.out.mono ?_; rintro e w3 ⟨rfl, b3⟩; have b4 := b3.trans ((Below.refl _ w3).alloc b3.size (.cells #[.int .i64 0, .slice none 0 0] 27)))
  | (go_at_call 22; refine (HP.out _ b4).mono ?_; rintro e w5 ⟨rfl, b5⟩; have b25 := b4.trans (b5.mono b4.size))
  | (go_at_call 23; refine (HE.out _ b25).mono ?_; rintro e w6 ⟨rfl, b6⟩; have b26 := b25.trans (b6.mono b25.size); obtain ⟨r0, r1⟩ := HC.out w6 b26; have k00 : w6.cell? ⟨w.heap.size, 0, none⟩ = some (.int .i64 0) := cell_of_row _ _ 0 _ _ _ r0; have k01 : w6.cell? ⟨w.heap.size, 1, none⟩ = some (.slice none 0 0) := cell_of_row _ _ 1 _ _ _ r0; have k10 : w6.cell? ⟨w.heap.size + 1, 0, none⟩ = some (.int .i64 0) := cell_of_row _ _ 0 _ _ _ r1; have k11 : w6.cell? ⟨w.heap.size + 1, 1, none⟩ = some (.int .i64 0) := cell_of_row _ _ 1 _ _ _ r1; have k12 : w6.cell? ⟨w.heap.size + 1, 2, none⟩ = some (.int .i64 0) := cell_of_row _ _ 2 _ _ _ r1; have z00 := frozen_of_row _ _ 0 _ _ r0; have z01 := frozen_of_row _ _ 1 _ _ r0; have z10 := frozen_of_row _ _ 0 _ _ r1; have z11 := frozen_of_row _ _ 1 _ _ r1; have z12 := frozen_of_row _ _ 2 _ _ r1))
 obtain ⟨X, hX⟩ : ∃ X, X = ((((w6.setCell ⟨w.heap.size, 0, none⟩ (.int .i64 0)).setCell ⟨w.heap.size, 1, none⟩ (.slice none 0 0)).setCell ⟨w.heap.size + 1, 0, none⟩ (.int .i64 f)).setCell ⟨w.heap.size + 1, 1, none⟩ (.int .i64 x)).setCell ⟨w.heap.size + 1, 2, none⟩ (.int .i64 y) := ⟨_, rfl⟩
 rw [<- hX]
 obtain ⟨q0, q1, q2, q3, q4, fX⟩ := five0 w6 w.heap.size (w.heap.size + 1) (by omega) _ _ _ _ _ k00 k01 k10 k11 k12 X hX
 refine bodyPost_ret (v := .tuple #[.agg #[.int .i64 0, .slice none 0 0], .agg #[.int .i64 f, .int .i64 x, .int .i64 y], .int .i64 k]) (by simp [results, Tryz.results12, go_sem, q0, q1, q2, q3, q4]) rfl ⟨rfl, ?_⟩
 exact (HB.out.trans (b26.mono HB.out.size)).trans (fX.below (by have := HB.out.size; have := b26.size; omega) (fun k e => by omega))
theorem FilmAt.frm {S : Nat -> Prop} {w w' : World} {B z : Nat} {Lv : Value} {frs : List (List Px)} (h : FilmAt w B Lv z frs) (f : Frm S w w') (hS : ∀ k, S k -> k < B) : FilmAt w' B Lv z frs := by
 obtain ⟨fbs, h1, h2, h3, h4, h5, h6⟩ := h
 refine ⟨fbs, f.owns h1 (fun k e hs => ?_), h2, fun i hi => f.pixs (h3 i hi) (fun hs => ?_), h4, h5, h6⟩
 ·have := (World.ownsRow.lt h1 k e).1
  have := hS k hs
  omega
 ·have := (h3 i hi).lt.1
  have := hS _ hs
  omega
set_option maxHeartbeats 1000000 in
set_option maxRecDepth 20000 in
theorem pDec_good (w : World) (s : ByteArray) (hs : s.size <= 120000) (z : Nat) (frs : List (List Px))
  (hr : ∀ wx, Below w.heap.size w wx -> Calls Tryz.prog 21 #[.string s] wx fun e w' => (∃ Lv B, wx.heap.size <= B /\ e = .returned (.tuple #[.agg #[.int .i64 z, Lv], .nilIface]) /\ FilmAt w' B Lv z frs) /\ Below wx.heap.size wx w') :
  Calls Tryz.prog 12 #[.string s] w fun e w' => (∃ Lv B, w.heap.size <= B /\ e = .returned (.tuple #[.agg #[.int .i64 z, Lv], .agg #[.int .i64 0, .int .i64 0, .int .i64 0], .int .i64 0]) /\ FilmAt w' B Lv z frs) /\ Below w.heap.size w w' := by
 have hs' : ¬ ((120000 : Int) < (s.size : Int)) := by omega
 obtain ⟨W2, hW2⟩ : ∃ W2, W2 = (w.alloc (.cells #[.int .i64 0, .slice none 0 0] 27)).alloc (.cells #[.int .i64 0, .int .i64 0, .int .i64 0] 33) := ⟨_, rfl⟩
 have hB : Below w.heap.size w W2 := by rw [hW2]; exact ((Below.refl _ w).alloc (Nat.le_refl _) _).alloc (by simp) _
 have h0 : W2.heap[w.heap.size]? = some (.cells #[.int .i64 0, .slice none 0 0] 27 (0, 0)) := by rw [hW2, Below.heap_alloc _ _ _ (by simp)]; exact heap_alloc_last w _
 have h1 : W2.heap[w.heap.size + 1]? = some (.cells #[.int .i64 0, .int .i64 0, .int .i64 0] 33 (0, 0)) := by
  have := heap_alloc_last (w.alloc (.cells #[.int .i64 0, .slice none 0 0] 27)) (.cells #[.int .i64 0, .int .i64 0, .int .i64 0] 33)
  rw [World.size_alloc] at this
  rw [hW2]; exact this
 have HSZ : Hid (W2.heap.size = w.heap.size + 2) := by unfold Hid; rw [hW2]; simp
 have HR : Hid (Calls Tryz.prog 21 #[.string s] W2 fun e w' => (∃ Lv B, W2.heap.size <= B /\ e = .returned (.tuple #[.agg #[.int .i64 z, Lv], .nilIface]) /\ FilmAt w' B Lv z frs) /\ Below W2.heap.size W2 w') := hr W2 hB
 have HW2 : Hid (W2 = (w.alloc (.cells #[.int .i64 0, .slice none 0 0] 27)).alloc (.cells #[.int .i64 0, .int .i64 0, .int .i64 0] 33)) := hW2
 have HB : Hid (Below w.heap.size w W2) := hB
 have HC : Hid (∀ w3, Below W2.heap.size W2 w3 -> w3.heap[w.heap.size]? = some (.cells #[.int .i64 0, .slice none 0 0] 27 (0, 0)) /\ w3.heap[w.heap.size + 1]? = some (.cells #[.int .i64 0, .int .i64 0, .int .i64 0] 33 (0, 0))) := fun w3 b => ⟨(b.block _ (heap_lt h0)).trans h0, (b.block _ (heap_lt h1)).trans h1⟩
 have HFM : Hid (∀ w3 Lv B, FilmAt w3 B Lv z frs -> ∃ da dn dc, Lv = .slice da dn dc) := fun w3 Lv B h => by
  obtain ⟨fbs, h1, _⟩ := h
  obtain ⟨a, c, e, _⟩ := owns_form h1
  exact ⟨a, _, c, e⟩
 clear hW2 hB h0 h1 hr
 go_enter Tryz.func12, Tryz.ntmps12
 go_wp2_with (first
  | (rw [<- HW2.out])
  | (go_at_call 21; refine HR.out.mono ?_; rintro e w3 ⟨⟨Lv, B, hBB, rfl, hfm⟩, b3⟩; obtain ⟨da, dn, dc, rfl⟩ := HFM.out w3 Lv B hfm; obtain ⟨r0, r1⟩ := HC.out w3 b3; have k00 : w3.cell? ⟨w.heap.size, 0, none⟩ = some (.int .i64 0) := cell_of_row _ _ 0 _ _ _ r0; have k01 : w3.cell? ⟨w.heap.size, 1, none⟩ = some (.slice none 0 0) := cell_of_row _ _ 1 _ _ _ r0; have k10 : w3.cell? ⟨w.heap.size + 1, 0, none⟩ = some (.int .i64 0) := cell_of_row _ _ 0 _ _ _ r1; have k11 : w3.cell? ⟨w.heap.size + 1, 1, none⟩ = some (.int .i64 0) := cell_of_row _ _ 1 _ _ _ r1; have k12 : w3.cell? ⟨w.heap.size + 1, 2, none⟩ = some (.int .i64 0) := cell_of_row _ _ 2 _ _ _ r1; have z00 := frozen_of_row _ _ 0 _ _ r0; have z01 := frozen_of_row _ _ 1 _ _ r0; have z10 := frozen_of_row _ _ 0 _ _ r1; have z11 := frozen_of_row _ _ 1 _ _ r1; have z12 := frozen_of_row _ _ 2 _ _ r1; have l0 : w.heap.size < w3.heap.size := heap_lt r0; have l1 : w.heap.size + 1 < w3.heap.size := heap_lt r1))
 obtain ⟨Y, hY⟩ : ∃ Y, Y = ((((w3.setCell ⟨w.heap.size, 0, none⟩ (.int .i64 z)).setCell ⟨w.heap.size, 1, none⟩ (.slice da dn dc)).setCell ⟨w.heap.size + 1, 0, none⟩ (.int .i64 0)).setCell ⟨w.heap.size + 1, 1, none⟩ (.int .i64 0)).setCell ⟨w.heap.size + 1, 2, none⟩ (.int .i64 0) := ⟨_, rfl⟩
 rw [<- hY]
 obtain ⟨q0, q1, q2, q3, q4, fY⟩ := five0 w3 w.heap.size (w.heap.size + 1) (by omega) _ _ _ _ _ k00 k01 k10 k11 k12 Y hY
 obtain ⟨X, hX⟩ : ∃ X, X = Y.alloc (.cells #[.int .i64 z, .slice da dn dc] 27) := ⟨_, rfl⟩
 rw [<- hX]
 have bX : Below Y.heap.size Y X := by rw [hX]; exact (Below.refl _ Y).alloc (Nat.le_refl _) _
 have fX : Frm (fun k => k = w.heap.size \/ k = w.heap.size + 1) w3 X := fY.trans (Frm.of_below bX)
 have lY : w3.heap.size <= Y.heap.size := fY.size
 have p0 := (bX.cell (p := ⟨w.heap.size, 0, none⟩) (by show w.heap.size < _; omega)).trans q0
 have p1 := (bX.cell (p := ⟨w.heap.size, 1, none⟩) (by show w.heap.size < _; omega)).trans q1
 have p2 := (bX.cell (p := ⟨w.heap.size + 1, 0, none⟩) (by show w.heap.size + 1 < _; omega)).trans q2
 have p3 := (bX.cell (p := ⟨w.heap.size + 1, 1, none⟩) (by show w.heap.size + 1 < _; omega)).trans q3
 have p4 := (bX.cell (p := ⟨w.heap.size + 1, 2, none⟩) (by show w.heap.size + 1 < _; omega)).trans q4
 refine bodyPost_ret (v := .tuple #[.agg #[.int .i64 z, .slice da dn dc], .agg #[.int .i64 0, .int .i64 0, .int .i64 0], .int .i64 0]) (by simp [results, Tryz.results12, go_sem, p0, p1, p2, p3, p4]) rfl ?_
 have hsz := HSZ.out
 refine ⟨⟨_, B, by omega, rfl, hfm.frm fX (fun k e => by omega)⟩, ?_⟩
 exact (HB.out.trans (b3.mono HB.out.size)).trans (fX.below (by have := HB.out.size; have := b3.size; omega) (fun k e => by omega))
theorem SoftG.low {w wx : World} (h : SoftG w w.heap.size) (b : Below w.heap.size w wx) : SoftG wx wx.heap.size := h.of (b.block _ h.lt) (Nat.lt_of_lt_of_le h.lt b.size)
theorem pDec_plain (w : World) (s : ByteArray) (hs : s.size <= 120000) (A : Nat -> Addr) (E : ErrsA w A) (T : ErrT w) (x : Nat × Nat) (hx : x ∈ sntG)
  (hr : ∀ wx, Below w.heap.size w wx -> Calls Tryz.prog 21 #[.string s] wx fun e w' => e = .returned (.tuple #[.agg #[.int .i64 0, .slice none 0 0], .iface 278 (.pointer (some (A x.1)))]) /\ Below wx.heap.size wx w') :
  Calls Tryz.prog 12 #[.string s] w fun e w' => e = .returned (.tuple #[.agg #[.int .i64 0, .slice none 0 0], .agg #[.int .i64 0, .int .i64 0, .int .i64 0], .int .i64 x.1]) /\ Below w.heap.size w w' := by
 refine pDec_bad w s hs _ _ 0 0 0 x.1 hr (fun wx b => pPlace_plain wx _ (T.below b)) (fun wx b => (pErrnoA wx A (E.below b) x hx).mono ?_)
 rintro e w' ⟨rfl, rfl⟩
 exact ⟨rfl, Below.refl _ _⟩
theorem pDecode (w : World) (s : ByteArray) (A : Nat -> Addr) (E : ErrsA w A) (SG : SoftG w w.heap.size) (T : ErrT w) :
  Calls Tryz.prog 12 #[.string s] w fun x w' => DecAns w (Flm.decode s) x w' := by
 unfold Flm.decode
 by_cases hl : 120000 < s.size
 ·rw [if_pos hl]
  exact (pDec_long w s hl).mono fun x w' h => ⟨h.1, h.2⟩
 rw [if_neg hl]
 have hs : s.size <= 120000 := by omega
 by_cases hh : HeadOk s
 ·rw [if_pos hh]
  have hh' := hh
  obtain ⟨h4, h0, h1, h2, h3⟩ := hh
  obtain ⟨t, ht⟩ : ∃ t, s.extract 4 s.size = t := ⟨_, rfl⟩
  dsimp only
  rw [ht]
  have hbd2 := Rdr.byteAt_bd s 2
  have hbd := Rdr.byteAt_bd s 3
  obtain ⟨N, hN⟩ : ∃ N : Nat, N = (Rdr.byteAt s 3).toNat := ⟨_, rfl⟩
  obtain ⟨z, hz⟩ : ∃ z : Nat, z = (Rdr.byteAt s 2).toNat := ⟨_, rfl⟩
  rw [<- hN, <- hz]
  have hN3 : Rdr.byteAt s 3 = N := by omega
  have hz2 : Rdr.byteAt s 2 = z := by omega
  have hRH : ∀ w0, Below w.heap.size w w0 -> ∀ wx, Below w0.heap.size w0 wx -> Calls Tryz.prog 44 #[.string s] wx fun e w' => e = .returned (.tuple #[.int .i64 z, .int .i64 N, .nilIface]) /\ Below wx.heap.size wx w' := fun w0 b0 wx b => by
   refine (pReadHead wx s A ((E.below b0).below b)).mono ?_
   rintro e w' ⟨e1, _, e2⟩
   refine ⟨?_, e2⟩
   rw [e1 hh', hz2, hN3]
  have hts : t.size <= maxLen := by rw [<- ht, ByteArray.size_extract]; unfold maxLen; omega
  by_cases he : (Rdr.start t ch0).err = 0
  ·rw [if_pos he]
   obtain ⟨F, hF⟩ : ∃ F, F = Flm.frames t z N ⟨Rdr.start t ch0, [], [], 0, 0, 0⟩ := ⟨_, rfl⟩
   have HRD : ∀ wx, Below w.heap.size w wx -> Calls Tryz.prog 21 #[.string s] wx (ReadPost A wx t z F) := fun wx b => by
    rw [hF]
    exact pRead_main wx s t h4 ht hts z N (by omega) (by omega) A (E.below b) (SG.low b) he (hRH wx b)
   rw [<- hF]
   unfold Flm.fin
   by_cases hFe : F.r.err = 0
   ·rw [if_pos hFe]
    by_cases hfi : (Rdr.finish t F.r).err = 0
    ·rw [if_pos hfi]
     refine (pDec_good w s hs z F.frs (fun wx b => (HRD wx b).mono ?_)).mono ?_
     ·rintro e w' ⟨_, _, h3, h4⟩
      exact ⟨h3 hFe hfi, h4⟩
     ·rintro e w' ⟨h1, h2⟩
      exact ⟨h1, h2⟩
    ·rw [if_neg hfi]
     have h6 : (Rdr.finish t F.r).err = 6 := by rcases finish_err t F.r hFe with h | h; exact absurd h hfi; exact h
     refine (pDec_plain w s hs A E T (6, 6) (by decide) (fun wx b => (HRD wx b).mono ?_)).mono ?_
     ·rintro e w' ⟨_, h2, _, h4⟩
      refine ⟨?_, h4⟩
      rw [h2 hFe hfi, h6]
      rfl
     ·rintro e w' ⟨rfl, h2⟩
      rw [h6]
      exact ⟨rfl, h2⟩
   ·rw [if_neg hFe]
    have hin : ErrIn F.r := by rw [hF]; exact Flm.frames_in _ _ (.inl he)
    obtain ⟨k, hk⟩ : ∃ k : Nat, k = F.r.err.toNat := ⟨_, rfl⟩
    have hk2 : k = 2 \/ k = 4 \/ k = 5 \/ k = 6 \/ k = 7 \/ k = 8 \/ k = 9 \/ k = 10 := by
     rcases hin with e | e | e | e | e | e
     ·exact absurd e hFe
     all_goals (rw [e] at hk; rw [hk]; decide)
    have hkF : F.r.err = k := by rcases hin with e | e | e | e | e | e <;> rw [e] at hk ⊢ <;> rw [hk] <;> rfl
    refine (pDec_bad w s hs 113 (.agg #[.int .i64 F.fr, .int .i64 F.x, .int .i64 F.y, .iface 278 (.pointer (some (A k)))]) F.fr F.x F.y k (fun wx b => (HRD wx b).mono ?_) (fun wx b => pPlace_flt wx _ _ _ _ (T.below b)) (fun wx b => pErrnoF wx A (E.below b) _ _ _ k hk2)).mono ?_
    ·rintro e w' ⟨h1, _, _, h4⟩
     refine ⟨?_, h4⟩
     rw [h1 hFe, fltV_pos A _ hFe, <- hk]
     rfl
    ·rintro e w' ⟨rfl, h2⟩
     rw [hkF]
     exact ⟨rfl, h2⟩
  ·rw [if_neg he]
   rcases start_err t ch0 with e | e | e
   ·exact absurd e he
   ·refine (pDec_plain w s hs A E T (5, 1) (by decide) (fun wx b => pRead_start wx s t h4 ht z N (A 5) (hRH wx b) (fun wy b2 => (pNewReader wy t hts (A 5) (A 6) (A 7) ((E.below b).below b2).errs).mono ?_))).mono ?_
    ·rintro x w' ⟨pv, rfl, _, b3⟩
     exact ⟨⟨pv, by rw [e, errV5]⟩, b3⟩
    ·rintro x w' ⟨rfl, h2⟩
     rw [e]
     exact ⟨rfl, h2⟩
   ·refine (pDec_plain w s hs A E T (7, 7) (by decide) (fun wx b => pRead_start wx s t h4 ht z N (A 7) (hRH wx b) (fun wy b2 => (pNewReader wy t hts (A 5) (A 6) (A 7) ((E.below b).below b2).errs).mono ?_))).mono ?_
    ·rintro x w' ⟨pv, rfl, _, b3⟩
     exact ⟨⟨pv, by rw [e, errV7]⟩, b3⟩
    ·rintro x w' ⟨rfl, h2⟩
     rw [e]
     exact ⟨rfl, h2⟩
 ·rw [if_neg hh]
  refine (pDec_plain w s hs A E T (4, 0) (by decide) (fun wx b => pRead_head wx s (A 4) (fun wy b2 => (pReadHead wy s A ((E.below b).below b2)).mono ?_))).mono ?_
  ·rintro e w' ⟨_, e1, e2⟩
   exact ⟨e1 hh, e2⟩
  ·rintro e w' ⟨rfl, h2⟩
   exact ⟨rfl, h2⟩
end Go.Proofs.YtekfbphnoibnjaaGreatDoor
namespace Go.Proofs.YtekfbphnoibnjaaGreatDoor
open Go.RowKit
open Flm (Px)
set_option maxHeartbeats 1000000 in
theorem step_five (P : World -> Prop) (p : Value) (s : ByteArray) (c0 c1 c2 r g b : Int) (vb vl : Value) (z : Int) (vf : Value) (w : World)
  (H : ∀ o, Calls Tryz.prog 28 #[p, .string s] (w.alloc o) fun e w' => e = .returned (.bool true) /\ P w') :
  Calls Tryz.prog 15 #[p, .agg #[.int .i64 5, .string s, .int .i64 c0, .int .i64 c1, .int .i64 c2, .int .u8 r, .int .u8 g, .int .u8 b, vb, vl, .int .i64 z, vf]] w fun e w' => e = .returned (.bool true) /\ P w' := by
 go_enter Tryz.func15, Tryz.ntmps15
 go_wp2_with (go_at_call 28; refine (H _).mono ?_; rintro e w1 ⟨rfl, hb1⟩)
 go_ret
 exact ⟨rfl, hb1⟩
theorem fin_none {t : ByteArray} {z : Nat} {F : Flm.FS} (h : (Flm.fin t z F).1 = none) : (Flm.fin t z F).2.2 ≠ 0 := by
 unfold Flm.fin at h ⊢
 by_cases h1 : F.r.err = 0
 ·rw [if_pos h1] at h ⊢
  by_cases h2 : (Rdr.finish t F.r).err = 0
  ·rw [if_pos h2] at h; simp at h
  ·rw [if_neg h2]; simpa using h2
 ·rw [if_neg h1]; simpa using h1
theorem decode_none {s : ByteArray} (h : (Flm.decode s).1 = none) : (Flm.decode s).2.2 ≠ 0 := by
 unfold Flm.decode at h ⊢
 by_cases hl : 120000 < s.size
 ·rw [if_pos hl]; decide
 ·rw [if_neg hl] at h ⊢
  by_cases hh : HeadOk s
  ·rw [if_pos hh] at h ⊢
   dsimp only at h ⊢
   by_cases h1 : (Rdr.start (s.extract 4 s.size) ch0).err = 0
   ·rw [if_pos h1] at h ⊢
    exact fin_none h
   ·rw [if_neg h1]; simpa using h1
  ·rw [if_neg hh]; decide
structure Vars (w : World) : Prop where
 e : ∃ A, ErrsA w A
 s : SoftG w w.heap.size
 t : ErrT w
theorem Vars.below {w w' : World} (h : Vars w) (b : Below w.heap.size w w') : Vars w' := ⟨h.e.elim fun A e => ⟨A, e.below b⟩, h.s.low b, h.t.below b⟩
structure FilI (w wH : World) (p c : Nat) (w' : World) : Prop where
 st : ∃ M own vs mk wt, GSt w wH w' p M own vs mk wt (dAt 0) /\ wt 0 = [] /\ mk 0 = [] /\ mk 1 = [] /\ M + 9 * (wt 1).length <= 18 * c /\ (wt 1).length <= 2 * c /\ ∀ i, i < 4 -> (mk i).length <= M
theorem FilI.below {w wH w' w'' : World} {p c : Nat} (h : FilI w wH p c w') (f : Below w'.heap.size w' w'') : FilI w wH p c w'' := by
 obtain ⟨M, own, vs, mk, wt, h1, h2⟩ := h.st
 exact ⟨M, own, vs, mk, wt, h1.below f, h2⟩
theorem fil_five {w wH w' : World} {p c : Nat} {o : OpV} (hc : 18 * c <= 90000000) (h : FilI w wH p c w') (V : Vars w) (hk : o.kind = 5) :
  Calls Tryz.prog 15 #[.pointer (some ⟨p, 0, none⟩), o.val] w' fun e w'' => e = .returned (.bool true) /\ FilI w wH p (c + 1) w'' := by
 obtain ⟨kd, s, c0, c1, c2, p0, p1, p2, b, bl, bc, l, ll, lc, sz, f, fl, fc⟩ := o
 simp only at hk
 subst hk
 refine step_five (FilI w wH p (c + 1)) _ s c0 c1 c2 p0 p1 p2 _ _ sz _ w' (fun ox => ?_)
 have h' := h.below ((Below.refl w'.heap.size w').alloc (Nat.le_refl _) ox)
 obtain ⟨W, hW⟩ : ∃ W, W = w'.alloc ox := ⟨_, rfl⟩
 rw [<- hW] at h' ⊢
 obtain ⟨M, own, vs, mk, wt, h1, h2, h3, h4, h5, h6, h7⟩ := h'.st
 have VW : Vars W := V.below h1.bel
 have hP : ∀ wx, Below W.heap.size W wx -> Calls Tryz.prog 12 #[.string s] wx fun x w' => DecAns wx (Flm.decode s) x w' := fun wx bx => by
  obtain ⟨⟨A, e⟩, sg, t⟩ := VW.below bx
  exact pDecode wx s A e sg t
 cases hd : (Flm.decode s).1 with
 | none =>
  have N : ∀ wx (x : Ending) (w' : World), DecAns wx (Flm.decode s) x w' -> x = .returned (.tuple #[.agg #[.int .i64 0, .slice none 0 0], .agg #[.int .i64 (Flm.decode s).2.1.1, .int .i64 (Flm.decode s).2.1.2.1, .int .i64 (Flm.decode s).2.1.2.2], .int .i64 (Flm.decode s).2.2]) /\ Below wx.heap.size wx w' := fun wx x w' hx => by
   obtain ⟨x1, x2⟩ := hx
   rw [hd] at x1
   exact ⟨x1, x2⟩
  refine (decodes_none W p s _ _ _ _ (decode_none hd) (fun wx bx => (hP wx bx).mono (N wx)) (fun wx _ => (refDecode wx s).mono (N wx))).mono ?_
  rintro e w'' ⟨rfl, g1⟩
  exact ⟨rfl, M, own, vs, mk, wt, h1.below g1, h2, h3, h4, by omega, by omega, h7⟩
 | some zf =>
  obtain ⟨z, frs⟩ := zf
  have hr6 : W.ownsRow w.heap.size 27 2 (vs.getD 6 nilV) ((wt 1).map Wg.cw).length ((wt 1).map Wg.cw).flatten := h1.row 6 (by decide)
  have hr7 : W.ownsRow w.heap.size 27 2 (vs.getD 7 nilV) ((wt 1).map Wg.ce).length ((wt 1).map Wg.ce).flatten := h1.row 7 (by decide)
  rw [List.length_map] at hr6 hr7
  obtain ⟨aw, cw, hv6, _⟩ := owns_sh hr6
  obtain ⟨ae, ce, hv7, _⟩ := owns_sh hr7
  have ro6 := h1.rol 6 (by decide)
  have ro7 := h1.rol 7 (by decide)
  have at6 := h1.at 6 (by decide)
  have at7 := h1.at 7 (by decide)
  have hop := h1.op
  rw [hv6] at hr6 ro6 at6
  rw [hv7] at hr7 ro7 at7
  refine (decodes_some W w.heap.size p M vs aw (wt 1).length cw ae (wt 1).length ce _ _ s 0 0 0 z frs h1.bk at6 at7 hr6 hr7 h1.bel.size (ro6.ne1 (by omega)) (ro7.ne1 (by omega)) (ro6.ne ro7 (by omega)) (by omega) (by omega) (fun wx bx => (hP wx bx).mono fun x w' hx => hx.good hd) (fun wx _ => (refDecode wx s).mono fun x w' hx => hx.good hd)).mono ?_
  rintro e w'' ⟨rfl, g1⟩
  rw [<- hv6, <- hv7] at g1
  obtain ⟨own', vs', x1, x2, g2⟩ := GSt.keepTwo (h1.less (fun t _ => by unfold dAt; split <;> omega)) g1
  refine ⟨rfl, M, own', vs', mk, _, g2.less (fun t _ => by unfold dAt; split <;> omega), (upd_ne wt _ (by decide)).trans h2, h3, h4, ?_, ?_, h7⟩
  ·rw [upd_same]; simp; omega
  ·rw [upd_same]; simp; omega
theorem fil_start {w wH : World} {g : Nat} {s : ByteArray} {b0 b1 b2 b3 b4 : Nat} (h : Opened (w.alloc world0) wH g s b0 b1 b2 b3 b4) : FilI w wH w.heap.size 0 wH := by
 have hsz := h.below.size
 rw [World.size_alloc] at hsz
 have k0 : Below w.heap.size w wH := ((Below.refl _ _).alloc (Nat.le_refl _) _).trans (h.below.mono (by simp))
 have bk := book0_new h.below
 have rn : ∀ (o : Nat -> Nat) (r : Nat), role o nilV r := fun o r k hk => by simp [nilV, Value.ownBlock] at hk
 have hb : BookAt wH w.heap.size 0 [nilV, nilV, nilV, nilV, nilV, nilV, nilV, nilV] := by
  refine ⟨bk.c0, fun j v hv => ?_, rfl, bk.fz, by omega⟩
  match j, hv with
  | 0, hv => simp at hv; subst hv; exact bk.c1
  | 1, hv => simp at hv; subst hv; exact bk.c2
  | 2, hv => simp at hv; subst hv; exact bk.c3
  | 3, hv => simp at hv; subst hv; exact bk.c4
  | 4, hv => simp at hv; subst hv; exact bk.c5
  | 5, hv => simp at hv; subst hv; exact bk.c6
  | 6, hv => simp at hv; subst hv; exact bk.c7
  | 7, hv => simp at hv; subst hv; exact bk.c8
  | j + 8, hv => simp at hv
 refine ⟨0, fun k => if k = w.heap.size then 0 else 1, [nilV, nilV, nilV, nilV, nilV, nilV, nilV, nilV], fun _ => [], fun _ => [], ?_, rfl, rfl, rfl, by simp, by simp, fun i _ => by simp⟩
 refine ⟨hb, fun i hi => ?_, fun i hi x hx => by simp at hx, fun i hi x hx => by simp at hx, fun t i x ht hx => by simp at hx, fun t i x ht hx => by simp at hx, fun t i x ht hx => by simp at hx, by simp, fun k _ hne => by simp [hne], Nat.le_refl _, fun _ _ _ => rfl, k0, rfl, by omega⟩
 have e1 : [nilV, nilV, nilV, nilV, nilV, nilV, nilV, nilV].getD i nilV = nilV := by
  rcases (show i = 0 \/ i = 1 \/ i = 2 \/ i = 3 \/ i = 4 \/ i = 5 \/ i = 6 \/ i = 7 by omega) with rfl | rfl | rfl | rfl | rfl | rfl | rfl | rfl <;> rfl
 have e2 : els (fun _ => []) (fun _ => []) i = [] := by unfold els; split; rfl; split <;> rfl
 rw [e1, e2]
 exact ⟨World.ownsRow_nil _ _ _ _, rn _ _⟩
theorem fil_player (w wH : World) (g : Nat) (s : ByteArray) (b0 b1 b2 b3 b4 : Nat) (len : Nat) (hl : len <= 2000000) (ops : List OpV) (V : Vars w) (h : Opened (w.alloc world0) wH g s b0 b1 b2 b3 b4) :
  PlayerN 5 5 w w.heap.size g (11 + len) (headOps s b0 b1 b2 b4) ops (FilI w wH w.heap.size) := by
 have hlo := h.lo
 rw [World.size_alloc] at hlo
 have o1 := h.o1
 have o2 := h.o2
 have o3 := h.o3
 have o4 := h.o4
 have o5 := h.o5
 refine ⟨fun c w' hw => ?_, fun c w' hw => ?_, fun c w' o hw => hw.below ((Below.refl _ _).alloc (Nat.le_refl _) _), fun c w' hw => ?_, fun c w' o hc hw ho h1 h2 => ?_, fun c w' hc hw => ?_, fun c w' hc hw => ?_⟩
 ·obtain ⟨M, own, vs, mk, wt, g1, _⟩ := hw.st
  exact g1.bel
 ·obtain ⟨M, own, vs, mk, wt, g1, _⟩ := hw.st
  exact (g1.kept g h.up (by omega)).trans h.hg
 ·obtain ⟨M, own, vs, mk, wt, g1, g2, g3, g4, g5, g6, g7⟩ := hw.st
  exact ⟨M, own, vs, mk, wt, g1, g2, g3, g4, by omega, by omega, g7⟩
 ·exact fil_five (by omega) hw V (by omega)
 ·obtain ⟨M, own, vs, mk, wt, g1, g2, g3, g4, g5, g6, g7⟩ := hw.st
  refine (settle_g w wH w' _ M own vs mk wt g1 g2 (by omega) g7).mono ?_
  rintro e w'' ⟨rfl, M', own', vs', mk', q1, q2, q3, q4, q5⟩
  exact ⟨rfl, ⟨M', own', vs', mk', _, q1, rfl, q4.trans g3, q5.trans g4, by simp; omega, by simp, q3⟩⟩
 ·obtain ⟨M, own, vs, mk, wt, g1, g2, g3, g4, g5, g6, g7⟩ := hw.st
  have k2 := g7 2 (by decide)
  have k3 := g7 3 (by decide)
  refine (looks_g w wH w' _ M own vs mk wt _ g1 g3 g4 (by omega) (by omega)).mono ?_
  rintro e w'' ⟨rfl, q1⟩
  exact ⟨rfl, hw.below q1⟩
set_option maxHeartbeats 400000 in
theorem films_any (w : World) (a : Option Addr) (len cap : Nat) (ops : List OpV) (hs : Script w a len ops) (hl : len <= 2000000) (V : Vars w) :
  Calls Tryz.prog 5 #[.slice a len cap] w fun e w' => e = .returned (.bool true) /\ Below w.heap.size w w' := by
 have H := plays_cnt 5 5 w a len cap ops hs (by unfold maxLen; omega) (fun wH g s b0 b1 b2 b3 b4 h => ⟨_, fil_start h, fil_player w wH g s b0 b1 b2 b3 b4 len hl ops V h⟩)
 go_enter Tryz.func5, Tryz.ntmps5
 go_wp2_with (go_at_call 9; refine H.mono ?_; rintro e w1 ⟨rfl, hb1⟩)
 go_ret
 exact ⟨rfl, hb1⟩
end Go.Proofs.YtekfbphnoibnjaaGreatDoor
namespace Go.Proofs.YtekfbphnoibnjaaGreatDoor
open Go.ChangeShapes Go.WideShapes Go.ChangeAt Go.RowKit
theorem own : ownKnob Tryz.prog.godebug = none := by kernel_rfl
theorem laidOut : laidOutB Tryz.prog = true := by kernel_rfl
end Go.Proofs.YtekfbphnoibnjaaGreatDoor
