/-
  The document's reading of a film's bytes, whole. The law's step, where the bytes are a film. What stands between two steps of any script: the caller's book, all that is marked, all that waits; who owns which block.
-/
import Derived.Test.YtekfbphnoibnjaaGreatDoorF27
import Derived.Test.YtekfbphnoibnjaaGreatDoorF28
import Derived.Test.YtekfbphnoibnjaaGreatDoorF29
import Derived.Test.YtekfbphnoibnjaaGreatDoorF26
import Derived.Test.YtekfbphnoibnjaaGreatDoorF02
namespace Go.Proofs.YtekfbphnoibnjaaGreatDoor
open Go.RowKit
open Flm (Px FS)
set_option maxHeartbeats 4000000 in
set_option maxRecDepth 20000 in
theorem dec_bad4 (w : World) (s t : ByteArray) (hs : s.size <= 120000) (h4 : 4 <= s.size) (h0 : ((s[0]'(by omega)).toNat : Int) = 70) (h1 : ((s[1]'(by omega)).toNat : Int) = 66) (h2 : ((s[2]'(by omega)).toNat : Int) = 4) (N : Nat) (h3 : ((s[3]'(by omega)).toNat : Int) = N) (hN : N <= 8) (ht : s.extract 4 s.size = t) (he : (Rdr.start t ch0).err ≠ 0) :
  Calls Tryz.prog 68 #[.string s] w fun x w' => x = .returned (noFilm (Rdr.start t ch0).err) /\ Below w.heap.size w w' := by
 have hs' : (s.size : Int) <= 120000 := by omega
 have h4' : (4 : Int) <= (s.size : Int) := by omega
 have hN' : (N : Int) <= 8 := by omega
 have hts : t.size <= maxLen := by rw [<- ht]; simp; unfold maxLen; omega
 obtain ⟨ER, hER⟩ : ∃ ER, ER = (Rdr.start t ch0).err := ⟨_, rfl⟩
 rw [<- hER] at he ⊢
 have he1 : (ER == 0) = false := by simpa using he
 have he2 : (ER != 0) = true := by simpa using he
 have HER : Hid (ER = (Rdr.start t ch0).err) := hER
 clear he hER
 obtain ⟨W4, hW4⟩ : ∃ W4, W4 = ((((w.alloc (Obj.cells #[.int .i64 0, .slice none 0 0] 27)).alloc (Obj.cells #[.int .i64 0, .int .i64 0, .int .i64 0] 33)).alloc (Obj.cells #[.int .i64 0, .slice none 0 0] 27)).alloc (Obj.cells #[.int .i64 0, .int .i64 0, .int .i64 0] 33)) := ⟨_, rfl⟩
 have hsz4 : W4.heap.size = w.heap.size + 4 := by rw [hW4]; simp
 have HB4 : Hid (Below w.heap.size w W4) := by rw [hW4]; exact (((((Below.refl _ w).alloc (Nat.le_refl _) _).alloc (by simp) _).alloc (by simp; omega) _).alloc (by simp; omega) _)
 have HW4 : Hid (W4 = ((((w.alloc (Obj.cells #[.int .i64 0, .slice none 0 0] 27)).alloc (Obj.cells #[.int .i64 0, .int .i64 0, .int .i64 0] 33)).alloc (Obj.cells #[.int .i64 0, .slice none 0 0] 27)).alloc (Obj.cells #[.int .i64 0, .int .i64 0, .int .i64 0] 33))) := hW4
 clear hW4
 go_enter Tryz.func68, Tryz.ntmps68
 go_wp2_with (go_at_call 100; rw [<- HW4.out]; refine (newReader _ t hts).mono ?_; rintro e wr ⟨b, rfl, hr1, hB⟩; have i5 := hr1.c5; rw [<- HER.out] at i5)
 obtain ⟨o0, o1, o2, o3⟩ := box4 w (Obj.cells #[.int .i64 0, .slice none 0 0] 27) (Obj.cells #[.int .i64 0, .int .i64 0, .int .i64 0] 33) (Obj.cells #[.int .i64 0, .slice none 0 0] 27) (Obj.cells #[.int .i64 0, .int .i64 0, .int .i64 0] 33)
 rw [<- HW4.out] at o0 o1 o2 o3
 have z0 := (hB.block w.heap.size (by omega)).trans o0
 have z1 := (hB.block (w.heap.size + 1) (by omega)).trans o1
 have z2 := (hB.block (w.heap.size + 1 + 1) (by omega)).trans o2
 have z3 := (hB.block (w.heap.size + 1 + 1 + 1) (by omega)).trans o3
 have a00 : wr.cell? ⟨w.heap.size, 0, none⟩ = some (.int .i64 0) := cell_of_row _ _ 0 _ _ _ z0
 have a01 : wr.cell? ⟨w.heap.size, 1, none⟩ = some (.slice none 0 0) := cell_of_row _ _ 1 _ _ _ z0
 have a10 : wr.cell? ⟨w.heap.size + 1, 0, none⟩ = some (.int .i64 0) := cell_of_row _ _ 0 _ _ _ z1
 have a11 : wr.cell? ⟨w.heap.size + 1, 1, none⟩ = some (.int .i64 0) := cell_of_row _ _ 1 _ _ _ z1
 have a12 : wr.cell? ⟨w.heap.size + 1, 2, none⟩ = some (.int .i64 0) := cell_of_row _ _ 2 _ _ _ z1
 have a20 : wr.cell? ⟨w.heap.size + 1 + 1, 0, none⟩ = some (.int .i64 0) := cell_of_row _ _ 0 _ _ _ z2
 have a21 : wr.cell? ⟨w.heap.size + 1 + 1, 1, none⟩ = some (.slice none 0 0) := cell_of_row _ _ 1 _ _ _ z2
 have a30 : wr.cell? ⟨w.heap.size + 1 + 1 + 1, 0, none⟩ = some (.int .i64 0) := cell_of_row _ _ 0 _ _ _ z3
 have a31 : wr.cell? ⟨w.heap.size + 1 + 1 + 1, 1, none⟩ = some (.int .i64 0) := cell_of_row _ _ 1 _ _ _ z3
 have a32 : wr.cell? ⟨w.heap.size + 1 + 1 + 1, 2, none⟩ = some (.int .i64 0) := cell_of_row _ _ 2 _ _ _ z3
 have b00 := frozen_of_row _ _ 0 _ _ z0
 have b01 := frozen_of_row _ _ 1 _ _ z0
 have b10 := frozen_of_row _ _ 0 _ _ z1
 have b11 := frozen_of_row _ _ 1 _ _ z1
 have b12 := frozen_of_row _ _ 2 _ _ z1
 clear o0 o1 o2 o3 z0 z1 z2 z3
 have HB : Hid (Below W4.heap.size W4 wr) := hB
 have hsz2 := hB.size
 clear hB hr1
 go_region
 all_goals
  go_wp2_with fail
  obtain ⟨X, hX⟩ : ∃ X, X = (((((wr.setCell ⟨w.heap.size, 0, none⟩ (.int .i64 0)).setCell ⟨w.heap.size, 1, none⟩ (.slice none 0 0)).setCell ⟨w.heap.size + 1, 0, none⟩ (.int .i64 0)).setCell ⟨w.heap.size + 1, 1, none⟩ (.int .i64 0)).setCell ⟨w.heap.size + 1, 2, none⟩ (.int .i64 0)).drew := ⟨_, rfl⟩
  rw [<- hX]
  obtain ⟨q0, q1, q2, q3, q4, hfx⟩ := five_set wr w.heap.size (w.heap.size + 1) (by omega) (.int .i64 0) (.slice none 0 0) (.int .i64 0) (.int .i64 0) (.int .i64 0) a00 a01 a10 a11 a12 X hX
  refine bodyPost_ret (v := noFilm ER) ?_ rfl ?_
  ·simp [results, Tryz.results68, go_sem, q0, q1, q2, q3, q4, noFilm]
  ·refine ⟨rfl, ?_⟩
   exact (HB4.out.trans (HB.out.mono (by omega))).trans (hfx.below (by omega) (fun k e => by rcases e with e | e <;> omega))
set_option maxHeartbeats 4000000 in
set_option maxRecDepth 20000 in
theorem dec_bad8 (w : World) (s t : ByteArray) (hs : s.size <= 120000) (h4 : 4 <= s.size) (h0 : ((s[0]'(by omega)).toNat : Int) = 70) (h1 : ((s[1]'(by omega)).toNat : Int) = 66) (h2 : ((s[2]'(by omega)).toNat : Int) = 8) (N : Nat) (h3 : ((s[3]'(by omega)).toNat : Int) = N) (hN : N <= 8) (ht : s.extract 4 s.size = t) (he : (Rdr.start t ch0).err ≠ 0) :
  Calls Tryz.prog 68 #[.string s] w fun x w' => x = .returned (noFilm (Rdr.start t ch0).err) /\ Below w.heap.size w w' := by
 have hs' : (s.size : Int) <= 120000 := by omega
 have h4' : (4 : Int) <= (s.size : Int) := by omega
 have hN' : (N : Int) <= 8 := by omega
 have hts : t.size <= maxLen := by rw [<- ht]; simp; unfold maxLen; omega
 obtain ⟨ER, hER⟩ : ∃ ER, ER = (Rdr.start t ch0).err := ⟨_, rfl⟩
 rw [<- hER] at he ⊢
 have he1 : (ER == 0) = false := by simpa using he
 have he2 : (ER != 0) = true := by simpa using he
 have HER : Hid (ER = (Rdr.start t ch0).err) := hER
 clear he hER
 obtain ⟨W4, hW4⟩ : ∃ W4, W4 = ((((w.alloc (Obj.cells #[.int .i64 0, .slice none 0 0] 27)).alloc (Obj.cells #[.int .i64 0, .int .i64 0, .int .i64 0] 33)).alloc (Obj.cells #[.int .i64 0, .slice none 0 0] 27)).alloc (Obj.cells #[.int .i64 0, .int .i64 0, .int .i64 0] 33)) := ⟨_, rfl⟩
 have hsz4 : W4.heap.size = w.heap.size + 4 := by rw [hW4]; simp
 have HB4 : Hid (Below w.heap.size w W4) := by rw [hW4]; exact (((((Below.refl _ w).alloc (Nat.le_refl _) _).alloc (by simp) _).alloc (by simp; omega) _).alloc (by simp; omega) _)
 have HW4 : Hid (W4 = ((((w.alloc (Obj.cells #[.int .i64 0, .slice none 0 0] 27)).alloc (Obj.cells #[.int .i64 0, .int .i64 0, .int .i64 0] 33)).alloc (Obj.cells #[.int .i64 0, .slice none 0 0] 27)).alloc (Obj.cells #[.int .i64 0, .int .i64 0, .int .i64 0] 33))) := hW4
 clear hW4
 go_enter Tryz.func68, Tryz.ntmps68
 go_wp2_with (go_at_call 100; rw [<- HW4.out]; refine (newReader _ t hts).mono ?_; rintro e wr ⟨b, rfl, hr1, hB⟩; have i5 := hr1.c5; rw [<- HER.out] at i5)
 obtain ⟨o0, o1, o2, o3⟩ := box4 w (Obj.cells #[.int .i64 0, .slice none 0 0] 27) (Obj.cells #[.int .i64 0, .int .i64 0, .int .i64 0] 33) (Obj.cells #[.int .i64 0, .slice none 0 0] 27) (Obj.cells #[.int .i64 0, .int .i64 0, .int .i64 0] 33)
 rw [<- HW4.out] at o0 o1 o2 o3
 have z0 := (hB.block w.heap.size (by omega)).trans o0
 have z1 := (hB.block (w.heap.size + 1) (by omega)).trans o1
 have z2 := (hB.block (w.heap.size + 1 + 1) (by omega)).trans o2
 have z3 := (hB.block (w.heap.size + 1 + 1 + 1) (by omega)).trans o3
 have a00 : wr.cell? ⟨w.heap.size, 0, none⟩ = some (.int .i64 0) := cell_of_row _ _ 0 _ _ _ z0
 have a01 : wr.cell? ⟨w.heap.size, 1, none⟩ = some (.slice none 0 0) := cell_of_row _ _ 1 _ _ _ z0
 have a10 : wr.cell? ⟨w.heap.size + 1, 0, none⟩ = some (.int .i64 0) := cell_of_row _ _ 0 _ _ _ z1
 have a11 : wr.cell? ⟨w.heap.size + 1, 1, none⟩ = some (.int .i64 0) := cell_of_row _ _ 1 _ _ _ z1
 have a12 : wr.cell? ⟨w.heap.size + 1, 2, none⟩ = some (.int .i64 0) := cell_of_row _ _ 2 _ _ _ z1
 have a20 : wr.cell? ⟨w.heap.size + 1 + 1, 0, none⟩ = some (.int .i64 0) := cell_of_row _ _ 0 _ _ _ z2
 have a21 : wr.cell? ⟨w.heap.size + 1 + 1, 1, none⟩ = some (.slice none 0 0) := cell_of_row _ _ 1 _ _ _ z2
 have a30 : wr.cell? ⟨w.heap.size + 1 + 1 + 1, 0, none⟩ = some (.int .i64 0) := cell_of_row _ _ 0 _ _ _ z3
 have a31 : wr.cell? ⟨w.heap.size + 1 + 1 + 1, 1, none⟩ = some (.int .i64 0) := cell_of_row _ _ 1 _ _ _ z3
 have a32 : wr.cell? ⟨w.heap.size + 1 + 1 + 1, 2, none⟩ = some (.int .i64 0) := cell_of_row _ _ 2 _ _ _ z3
 have b00 := frozen_of_row _ _ 0 _ _ z0
 have b01 := frozen_of_row _ _ 1 _ _ z0
 have b10 := frozen_of_row _ _ 0 _ _ z1
 have b11 := frozen_of_row _ _ 1 _ _ z1
 have b12 := frozen_of_row _ _ 2 _ _ z1
 clear o0 o1 o2 o3 z0 z1 z2 z3
 have HB : Hid (Below W4.heap.size W4 wr) := hB
 have hsz2 := hB.size
 clear hB hr1
 go_region
 all_goals
  go_wp2_with fail
  obtain ⟨X, hX⟩ : ∃ X, X = (((((wr.setCell ⟨w.heap.size, 0, none⟩ (.int .i64 0)).setCell ⟨w.heap.size, 1, none⟩ (.slice none 0 0)).setCell ⟨w.heap.size + 1, 0, none⟩ (.int .i64 0)).setCell ⟨w.heap.size + 1, 1, none⟩ (.int .i64 0)).setCell ⟨w.heap.size + 1, 2, none⟩ (.int .i64 0)).drew := ⟨_, rfl⟩
  rw [<- hX]
  obtain ⟨q0, q1, q2, q3, q4, hfx⟩ := five_set wr w.heap.size (w.heap.size + 1) (by omega) (.int .i64 0) (.slice none 0 0) (.int .i64 0) (.int .i64 0) (.int .i64 0) a00 a01 a10 a11 a12 X hX
  refine bodyPost_ret (v := noFilm ER) ?_ rfl ?_
  ·simp [results, Tryz.results68, go_sem, q0, q1, q2, q3, q4, noFilm]
  ·refine ⟨rfl, ?_⟩
   exact (HB4.out.trans (HB.out.mono (by omega))).trans (hfx.below (by omega) (fun k e => by rcases e with e | e <;> omega))
set_option maxHeartbeats 4000000 in
set_option maxRecDepth 20000 in
theorem dec_bad16 (w : World) (s t : ByteArray) (hs : s.size <= 120000) (h4 : 4 <= s.size) (h0 : ((s[0]'(by omega)).toNat : Int) = 70) (h1 : ((s[1]'(by omega)).toNat : Int) = 66) (h2 : ((s[2]'(by omega)).toNat : Int) = 16) (N : Nat) (h3 : ((s[3]'(by omega)).toNat : Int) = N) (hN : N <= 8) (ht : s.extract 4 s.size = t) (he : (Rdr.start t ch0).err ≠ 0) :
  Calls Tryz.prog 68 #[.string s] w fun x w' => x = .returned (noFilm (Rdr.start t ch0).err) /\ Below w.heap.size w w' := by
 have hs' : (s.size : Int) <= 120000 := by omega
 have h4' : (4 : Int) <= (s.size : Int) := by omega
 have hN' : (N : Int) <= 8 := by omega
 have hts : t.size <= maxLen := by rw [<- ht]; simp; unfold maxLen; omega
 obtain ⟨ER, hER⟩ : ∃ ER, ER = (Rdr.start t ch0).err := ⟨_, rfl⟩
 rw [<- hER] at he ⊢
 have he1 : (ER == 0) = false := by simpa using he
 have he2 : (ER != 0) = true := by simpa using he
 have HER : Hid (ER = (Rdr.start t ch0).err) := hER
 clear he hER
 obtain ⟨W4, hW4⟩ : ∃ W4, W4 = ((((w.alloc (Obj.cells #[.int .i64 0, .slice none 0 0] 27)).alloc (Obj.cells #[.int .i64 0, .int .i64 0, .int .i64 0] 33)).alloc (Obj.cells #[.int .i64 0, .slice none 0 0] 27)).alloc (Obj.cells #[.int .i64 0, .int .i64 0, .int .i64 0] 33)) := ⟨_, rfl⟩
 have hsz4 : W4.heap.size = w.heap.size + 4 := by rw [hW4]; simp
 have HB4 : Hid (Below w.heap.size w W4) := by rw [hW4]; exact (((((Below.refl _ w).alloc (Nat.le_refl _) _).alloc (by simp) _).alloc (by simp; omega) _).alloc (by simp; omega) _)
 have HW4 : Hid (W4 = ((((w.alloc (Obj.cells #[.int .i64 0, .slice none 0 0] 27)).alloc (Obj.cells #[.int .i64 0, .int .i64 0, .int .i64 0] 33)).alloc (Obj.cells #[.int .i64 0, .slice none 0 0] 27)).alloc (Obj.cells #[.int .i64 0, .int .i64 0, .int .i64 0] 33))) := hW4
 clear hW4
 go_enter Tryz.func68, Tryz.ntmps68
 go_wp2_with (go_at_call 100; rw [<- HW4.out]; refine (newReader _ t hts).mono ?_; rintro e wr ⟨b, rfl, hr1, hB⟩; have i5 := hr1.c5; rw [<- HER.out] at i5)
 obtain ⟨o0, o1, o2, o3⟩ := box4 w (Obj.cells #[.int .i64 0, .slice none 0 0] 27) (Obj.cells #[.int .i64 0, .int .i64 0, .int .i64 0] 33) (Obj.cells #[.int .i64 0, .slice none 0 0] 27) (Obj.cells #[.int .i64 0, .int .i64 0, .int .i64 0] 33)
 rw [<- HW4.out] at o0 o1 o2 o3
 have z0 := (hB.block w.heap.size (by omega)).trans o0
 have z1 := (hB.block (w.heap.size + 1) (by omega)).trans o1
 have z2 := (hB.block (w.heap.size + 1 + 1) (by omega)).trans o2
 have z3 := (hB.block (w.heap.size + 1 + 1 + 1) (by omega)).trans o3
 have a00 : wr.cell? ⟨w.heap.size, 0, none⟩ = some (.int .i64 0) := cell_of_row _ _ 0 _ _ _ z0
 have a01 : wr.cell? ⟨w.heap.size, 1, none⟩ = some (.slice none 0 0) := cell_of_row _ _ 1 _ _ _ z0
 have a10 : wr.cell? ⟨w.heap.size + 1, 0, none⟩ = some (.int .i64 0) := cell_of_row _ _ 0 _ _ _ z1
 have a11 : wr.cell? ⟨w.heap.size + 1, 1, none⟩ = some (.int .i64 0) := cell_of_row _ _ 1 _ _ _ z1
 have a12 : wr.cell? ⟨w.heap.size + 1, 2, none⟩ = some (.int .i64 0) := cell_of_row _ _ 2 _ _ _ z1
 have a20 : wr.cell? ⟨w.heap.size + 1 + 1, 0, none⟩ = some (.int .i64 0) := cell_of_row _ _ 0 _ _ _ z2
 have a21 : wr.cell? ⟨w.heap.size + 1 + 1, 1, none⟩ = some (.slice none 0 0) := cell_of_row _ _ 1 _ _ _ z2
 have a30 : wr.cell? ⟨w.heap.size + 1 + 1 + 1, 0, none⟩ = some (.int .i64 0) := cell_of_row _ _ 0 _ _ _ z3
 have a31 : wr.cell? ⟨w.heap.size + 1 + 1 + 1, 1, none⟩ = some (.int .i64 0) := cell_of_row _ _ 1 _ _ _ z3
 have a32 : wr.cell? ⟨w.heap.size + 1 + 1 + 1, 2, none⟩ = some (.int .i64 0) := cell_of_row _ _ 2 _ _ _ z3
 have b00 := frozen_of_row _ _ 0 _ _ z0
 have b01 := frozen_of_row _ _ 1 _ _ z0
 have b10 := frozen_of_row _ _ 0 _ _ z1
 have b11 := frozen_of_row _ _ 1 _ _ z1
 have b12 := frozen_of_row _ _ 2 _ _ z1
 clear o0 o1 o2 o3 z0 z1 z2 z3
 have HB : Hid (Below W4.heap.size W4 wr) := hB
 have hsz2 := hB.size
 clear hB hr1
 go_region
 all_goals
  go_wp2_with fail
  obtain ⟨X, hX⟩ : ∃ X, X = (((((wr.setCell ⟨w.heap.size, 0, none⟩ (.int .i64 0)).setCell ⟨w.heap.size, 1, none⟩ (.slice none 0 0)).setCell ⟨w.heap.size + 1, 0, none⟩ (.int .i64 0)).setCell ⟨w.heap.size + 1, 1, none⟩ (.int .i64 0)).setCell ⟨w.heap.size + 1, 2, none⟩ (.int .i64 0)).drew := ⟨_, rfl⟩
  rw [<- hX]
  obtain ⟨q0, q1, q2, q3, q4, hfx⟩ := five_set wr w.heap.size (w.heap.size + 1) (by omega) (.int .i64 0) (.slice none 0 0) (.int .i64 0) (.int .i64 0) (.int .i64 0) a00 a01 a10 a11 a12 X hX
  refine bodyPost_ret (v := noFilm ER) ?_ rfl ?_
  ·simp [results, Tryz.results68, go_sem, q0, q1, q2, q3, q4, noFilm]
  ·refine ⟨rfl, ?_⟩
   exact (HB4.out.trans (HB.out.mono (by omega))).trans (hfx.below (by omega) (fun k e => by rcases e with e | e <;> omega))
noncomputable def Flm.fin (t : ByteArray) (z : Nat) (F : FS) : Option (Nat × List (List Px)) × Px × Int :=
 if F.r.err = 0 then (if (Rdr.finish t F.r).err = 0 then (some (z, F.frs), (0, 0, 0), 0) else (none, (0, 0, 0), (Rdr.finish t F.r).err)) else (none, (F.fr, F.x, F.y), F.r.err)
open Classical in
noncomputable def Flm.decode (s : ByteArray) : Option (Nat × List (List Px)) × Px × Int :=
 if 120000 < s.size then (none, (0, 0, 0), 1)
 else if HeadOk s then
  let t := s.extract 4 s.size
  let z := (Rdr.byteAt s 2).toNat
  if (Rdr.start t ch0).err = 0 then Flm.fin t z (Flm.frames t z (Rdr.byteAt s 3).toNat ⟨Rdr.start t ch0, [], [], 0, 0, 0⟩) else (none, (0, 0, 0), (Rdr.start t ch0).err)
 else (none, (0, 0, 0), 4)
def DecAns (w : World) (d : Option (Nat × List (List Px)) × Px × Int) (x : Ending) (w' : World) : Prop :=
 (match d.1 with
  | some f => ∃ Lv B, w.heap.size <= B /\ x = .returned (.tuple #[.agg #[.int .i64 f.1, Lv], .agg #[.int .i64 0, .int .i64 0, .int .i64 0], .int .i64 0]) /\ FilmAt w' B Lv f.1 f.2
  | none => x = .returned (.tuple #[.agg #[.int .i64 0, .slice none 0 0], .agg #[.int .i64 d.2.1.1, .int .i64 d.2.1.2.1, .int .i64 d.2.1.2.2], .int .i64 d.2.2])) /\ Below w.heap.size w w'
theorem DecPost.ans {w : World} {t : ByteArray} {z : Nat} {F : FS} {x : Ending} {w' : World} (h : DecPost w t z F x w') : DecAns w (Flm.fin t z F) x w' := by
 obtain ⟨h1, h2, h3, h4⟩ := h
 unfold Flm.fin
 by_cases he : F.r.err = 0
 ·rw [if_pos he]
  by_cases hf : (Rdr.finish t F.r).err = 0
  ·rw [if_pos hf]
   obtain ⟨Lv, B, k1, k2, k3⟩ := h3 he hf
   exact ⟨⟨Lv, B, k1, k2, k3⟩, h4⟩
  ·rw [if_neg hf]
   exact ⟨h2 he hf, h4⟩
 ·rw [if_neg he]
  exact ⟨h1 he, h4⟩
theorem refDecode (w : World) (s : ByteArray) :
  Calls Tryz.prog 68 #[.string s] w fun x w' => DecAns w (Flm.decode s) x w' := by
 unfold Flm.decode
 by_cases hl : 120000 < s.size
 ·rw [if_pos hl]
  exact (dec_long w s hl).mono fun x w' h => ⟨h.1, h.2⟩
 rw [if_neg hl]
 by_cases hh : HeadOk s
 ·rw [if_pos hh]
  obtain ⟨h4, h0, h1, h2, h3⟩ := hh
  obtain ⟨t, ht⟩ : ∃ t, s.extract 4 s.size = t := ⟨_, rfl⟩
  dsimp only
  rw [ht]
  have b0 := byteAt_get s 0 (by omega)
  have b1 := byteAt_get s 1 (by omega)
  have b2 := byteAt_get s 2 (by omega)
  have b3 := byteAt_get s 3 (by omega)
  obtain ⟨N, hN⟩ : ∃ N : Nat, N = (Rdr.byteAt s 3).toNat := ⟨_, rfl⟩
  have hbd := Rdr.byteAt_bd s 3
  have hN3 : ((s[3]'(by omega)).toNat : Int) = N := by omega
  rw [<- hN]
  by_cases he : (Rdr.start t ch0).err = 0
  ·rw [if_pos he]
   rcases h2 with h2 | h2 | h2
   ·rw [h2]
    exact (dec_ok4 w s t (by omega) h4 (b0.symm.trans h0) (b1.symm.trans h1) (b2.symm.trans h2) N hN3 (by omega) ht he).mono fun x w' h => h.ans
   ·rw [h2]
    exact (dec_ok8 w s t (by omega) h4 (b0.symm.trans h0) (b1.symm.trans h1) (b2.symm.trans h2) N hN3 (by omega) ht he).mono fun x w' h => h.ans
   ·rw [h2]
    exact (dec_ok16 w s t (by omega) h4 (b0.symm.trans h0) (b1.symm.trans h1) (b2.symm.trans h2) N hN3 (by omega) ht he).mono fun x w' h => h.ans
  ·rw [if_neg he]
   rcases h2 with h2 | h2 | h2
   ·exact (dec_bad4 w s t (by omega) h4 (b0.symm.trans h0) (b1.symm.trans h1) (b2.symm.trans h2) N hN3 (by omega) ht he).mono fun x w' h => ⟨h.1, h.2⟩
   ·exact (dec_bad8 w s t (by omega) h4 (b0.symm.trans h0) (b1.symm.trans h1) (b2.symm.trans h2) N hN3 (by omega) ht he).mono fun x w' h => ⟨h.1, h.2⟩
   ·exact (dec_bad16 w s t (by omega) h4 (b0.symm.trans h0) (b1.symm.trans h1) (b2.symm.trans h2) N hN3 (by omega) ht he).mono fun x w' h => ⟨h.1, h.2⟩
 ·rw [if_neg hh]
  exact (dec_head w s (by omega) hh).mono fun x w' h => ⟨h.1, h.2⟩
end Go.Proofs.YtekfbphnoibnjaaGreatDoor
namespace Go.Proofs.YtekfbphnoibnjaaGreatDoor
open Go.RowKit
open Flm (Px FS)
def FilmIn (w : World) (lo hi : Nat) (Lv : Value) (z : Nat) (frs : List (List Px)) : Prop :=
 ∃ fbs : List Nat, (w.ownsRow lo 58 1 Lv frs.length (rowVals (z * z) fbs) /\ fbs.length = frs.length /\ (∀ i, i < frs.length -> Pixs w lo (fbs.getD i 0) (z * z) (frs.getD i [])) /\ fbs.Nodup /\ (∀ k, Lv.ownBlock = some k -> k ∉ fbs) /\ (z = 4 \/ z = 8 \/ z = 16) /\ frs.length <= 8 /\ (∀ i k, Flm.okPx ((frs.getD i []).getD k (0, 0, 0)))) /\ (∀ k, k ∈ fbs -> k < hi) /\ ∀ k, Lv.ownBlock = some k -> k < hi
theorem FilmIn.at {w : World} {lo hi : Nat} {Lv : Value} {z : Nat} {frs : List (List Px)} (h : FilmIn w lo hi Lv z frs) : FilmAt w lo Lv z frs := h.elim fun fbs h => ⟨fbs, h.1⟩
theorem FilmAt.toIn {w : World} {lo : Nat} {Lv : Value} {z : Nat} {frs : List (List Px)} (h : FilmAt w lo Lv z frs) : FilmIn w lo w.heap.size Lv z frs := by
 obtain ⟨fbs, h1, h2, h3, h4⟩ := h
 refine ⟨fbs, ⟨h1, h2, h3, h4⟩, fun k hk => ?_, fun k e => (World.ownsRow.lt h1 k e).2⟩
 obtain ⟨i, hi, rfl⟩ := List.getElem_of_mem hk
 have := (h3 i (by omega)).lt.2
 rw [List.getD_eq_getElem?_getD, List.getElem?_eq_getElem hi] at this
 exact this
theorem FilmIn.frm {S : Nat -> Prop} {w w' : World} {lo hi : Nat} {Lv : Value} {z : Nat} {frs : List (List Px)} (h : FilmIn w lo hi Lv z frs) (f : Frm S w w') (hS : ∀ k, S k -> k < lo \/ hi <= k) : FilmIn w' lo hi Lv z frs := by
 obtain ⟨fbs, ⟨h1, h2, h3, h4⟩, h5, h6⟩ := h
 refine ⟨fbs, ⟨f.owns h1 (fun k e hs => ?_), h2, fun i hi => f.pixs (h3 i hi) (fun hs => ?_), h4⟩, h5, h6⟩
 ·have := (World.ownsRow.lt h1 k e).1
  have := h6 k e
  have := hS k hs
  omega
 ·have := (h3 i hi).lt.1
  have := h5 (fbs.getD i 0) (by rw [List.getD_eq_getElem?_getD, List.getElem?_eq_getElem (by omega)]; exact List.getElem_mem _)
  have := hS _ hs
  omega
theorem FilmIn.below {w w' : World} {lo hi : Nat} {Lv : Value} {z : Nat} {frs : List (List Px)} (h : FilmIn w lo hi Lv z frs) (b : Below w.heap.size w w') : FilmIn w' lo hi Lv z frs := h.frm (Frm.of_below (S := fun _ => False) b) (fun _ e => e.elim)
theorem FilmIn.slice {w : World} {lo hi : Nat} {Lv : Value} {z : Nat} {frs : List (List Px)} (h : FilmIn w lo hi Lv z frs) : ∃ a n c, Lv = .slice a n c := by
 obtain ⟨a, c, e, _⟩ := h.at.row
 exact ⟨a, _, c, e⟩
def GoodAns (x0 x1 x2 : Int) (z : Nat) (frs : List (List Px)) (wx : World) (r : Ending) (w' : World) : Prop :=
 ∃ a n c lo, wx.heap.size <= lo /\ r = .returned (.tuple #[.agg #[.int .i64 z, .slice a n c], .agg #[.int .i64 x0, .int .i64 x1, .int .i64 x2], .int .i64 0]) /\ FilmIn w' lo w'.heap.size (.slice a n c) z frs /\ Below wx.heap.size wx w'
theorem DecAns.good {wx w' : World} {d : Option (Nat × List (List Px)) × Px × Int} {r : Ending} {z : Nat} {frs : List (List Px)} (h : DecAns wx d r w') (hd : d.1 = some (z, frs)) : GoodAns 0 0 0 z frs wx r w' := by
 obtain ⟨h1, h2⟩ := h
 rw [hd] at h1
 obtain ⟨Lv, B, hB, rfl, hf⟩ := h1
 obtain ⟨a, n, c, rfl⟩ := hf.toIn.slice
 exact ⟨a, n, c, B, hB, rfl, hf.toIn, h2⟩
def KeptTwo (w w' : World) (B p M : Nat) (vs : List Value) (va ve : Value) (wk ek : Nat) (wrows erows : List Value) (z : Nat) (frs : List (List Px)) : Prop :=
 ∃ (La Lc Lb : Value) (l1 h1 l2 h2 l3 h3 T gw cw ge ce : Nat), (w.heap.size <= l1 /\ w.heap.size <= l2 /\ w.heap.size <= l3 /\ h1 <= l2 /\ h1 <= l3 /\ h2 <= l3 /\ h1 <= T /\ h2 <= T /\ h3 <= T /\ T <= w'.heap.size /\ w.heap.size <= T) /\ FilmIn w' l1 h1 La z frs /\ FilmIn w' l2 h2 Lc z frs /\ FilmIn w' l3 h3 Lb z frs /\
  BookAt w' p M ((vs.set 6 (.slice (some ⟨gw, 0, none⟩) (wk + 2) cw)).set 7 (.slice (some ⟨ge, 0, none⟩) (ek + 2) ce)) /\
  w'.ownsRow B 27 2 (.slice (some ⟨gw, 0, none⟩) (wk + 2) cw) (wk + 2) (wrows ++ [.int .i64 z, La] ++ [.int .i64 z, Lc]) /\ w'.ownsRow B 27 2 (.slice (some ⟨ge, 0, none⟩) (ek + 2) ce) (ek + 2) (erows ++ [.int .i64 z, Lb] ++ [.int .i64 z, Lb]) /\
  (va.ownBlock = some gw \/ T <= gw) /\ (ve.ownBlock = some ge \/ T <= ge) /\ gw ≠ ge /\ gw ≠ p /\ ge ≠ p /\ Frm (keepFS p va ve) w w'
theorem FPB.frm {S : Nat -> Prop} {W W' : World} {H : Nat} {z v x0 x1 x2 : Value} (h : FPB W H z v x0 x1 x2) (f : Frm S W W') (h0 : ¬ S H) (h1 : ¬ S (H + 1)) : FPB W' H z v x0 x1 x2 := ⟨(f.block _ (heap_lt h.b0) h0).trans h.b0, (f.block _ (heap_lt h.b1) h1).trans h.b1⟩
theorem set_twice (vs : List Value) (a b c d : Value) : (((vs.set 6 a).set 7 b).set 6 c).set 7 d = (vs.set 6 c).set 7 d := by
 rw [List.set_comm _ _ (by decide : (7 : Nat) ≠ 6), List.set_set, List.set_set]
theorem keptTwo_mk {w w5 w6 w7 : World} {B p M : Nat} {vs : List Value} {va ve : Value} {wk ek : Nat} {wrows erows : List Value} {z : Nat} {frs : List (List Px)} {La Lc Lb : Value} {l1 h1 l2 h2 l3 h3 gw cw ge ce : Nat}
  (hb : Below w.heap.size w w5) (hlo : w.heap.size <= l1 /\ w.heap.size <= l2 /\ w.heap.size <= l3 /\ h1 <= l2 /\ h1 <= l3 /\ h2 <= l3 /\ h1 <= w5.heap.size /\ h2 <= w5.heap.size /\ h3 <= w5.heap.size) (g1 : FilmIn w5 l1 h1 La z frs) (g2 : FilmIn w5 l2 h2 Lc z frs) (g3 : FilmIn w5 l3 h3 Lb z frs)
  (hv : ∀ k, va.ownBlock = some k -> k < w.heap.size) (he : ∀ k, ve.ownBlock = some k -> k < w.heap.size) (hp : p < w.heap.size)
  (hg : va.ownBlock = some gw \/ w5.heap.size <= gw) (hge : ve.ownBlock = some ge \/ w5.heap.size <= ge) (f6 : Frm (keepFS p va ve) w5 w6)
  (k2 : KeptFilm w6 w7 B p M ((vs.set 6 (.slice (some ⟨gw, 0, none⟩) (wk + 1) cw)).set 7 (.slice (some ⟨ge, 0, none⟩) (ek + 1) ce)) (.slice (some ⟨gw, 0, none⟩) (wk + 1) cw) (.slice (some ⟨ge, 0, none⟩) (ek + 1) ce) (wk + 1) (ek + 1) (wrows ++ [.int .i64 z, La]) (erows ++ [.int .i64 z, Lb]) [.int .i64 z, Lc] [.int .i64 z, Lb]) :
  KeptTwo w w7 B p M vs va ve wk ek wrows erows z frs := by
 obtain ⟨gw2, cw2, ge2, ce2, bk, ow, oe, hg2, hge2, ne, np, nep, f7⟩ := k2
 rw [set_twice] at bk
 have hg' : gw < w.heap.size \/ w5.heap.size <= gw := hg.elim (fun e => .inl (hv _ e)) .inr
 have hge' : ge < w.heap.size \/ w5.heap.size <= ge := hge.elim (fun e => .inl (he _ e)) .inr
 have s6 : ∀ k, keepFS p va ve k -> k < w.heap.size := fun k e => by
  rcases e with e | e | e
  ·omega
  ·exact hv k e
  ·exact he k e
 have s7 : ∀ k, keepFS p (.slice (some ⟨gw, 0, none⟩) (wk + 1) cw) (.slice (some ⟨ge, 0, none⟩) (ek + 1) ce) k -> k = p \/ k = gw \/ k = ge := fun k e => by
  rcases e with e | e | e
  ·exact .inl e
  ·simp [Value.ownBlock] at e; exact .inr (.inl e.symm)
  ·simp [Value.ownBlock] at e; exact .inr (.inr e.symm)
 have z6 := f6.size
 have z7 := f7.size
 refine ⟨La, Lc, Lb, l1, h1, l2, h2, l3, h3, w5.heap.size, gw2, cw2, ge2, ce2, ⟨by omega, by omega, by omega, by omega, by omega, by omega, by omega, by omega, by omega, by omega, hb.size⟩, ?_, ?_, ?_, bk, ow, oe, ?_, ?_, ne, np, nep, ?_⟩
 ·exact (g1.frm f6 (fun k e => by have := s6 k e; omega)).frm f7 (fun k e => by have := s7 k e; omega)
 ·exact (g2.frm f6 (fun k e => by have := s6 k e; omega)).frm f7 (fun k e => by have := s7 k e; omega)
 ·exact (g3.frm f6 (fun k e => by have := s6 k e; omega)).frm f7 (fun k e => by have := s7 k e; omega)
 ·rcases hg2 with e | e
  ·simp [Value.ownBlock] at e; subst e; exact hg.imp id (fun e => by omega)
  ·exact .inr (by omega)
 ·rcases hge2 with e | e
  ·simp [Value.ownBlock] at e; subst e; exact hge.imp id (fun e => by omega)
  ·exact .inr (by omega)
 ·have t5 : Frm (fun k => keepFS p va ve k \/ w.heap.size <= k) w w5 := Frm.of_below hb
  have t6 : Frm (fun k => keepFS p va ve k \/ w.heap.size <= k) w5 w6 := f6.mono (fun _ _ e => .inl e)
  have t7 : Frm (fun k => keepFS p va ve k \/ w.heap.size <= k) w6 w7 := f7.mono (fun k _ e => by
   have hb' := hb.size
   rcases s7 k e with e | e | e
   ·exact .inl (.inl e)
   ·subst e; exact hg.elim (fun e => .inl (.inr (.inl e))) (fun e => .inr (by omega))
   ·subst e; exact hge.elim (fun e => .inl (.inr (.inr e))) (fun e => .inr (by omega)))
  exact ((t5.trans t6).trans t7).mono (fun k hk e => e.elim id (fun h => absurd hk (by omega)))
theorem HB5 {w W3 w4 w5 : World} (hb3 : Below w.heap.size w W3) (b4 : Below W3.heap.size W3 w4) (b5 : Below w4.heap.size w4 w5) : Below w.heap.size w w5 := (hb3.trans (b4.mono hb3.size)).trans (b5.mono (Nat.le_trans hb3.size b4.size))
theorem HB6 {S : Nat -> Prop} {B : Nat} {w W3 w4 w5 w6 : World} (hB : B <= w.heap.size) (hb3 : Below w.heap.size w W3) (b4 : Below W3.heap.size W3 w4) (b5 : Below w4.heap.size w4 w5) (f : Frm S w5 w6) : B <= w6.heap.size := Nat.le_trans hB (Nat.le_trans (HB5 hb3 b4 b5).size f.size)
theorem fpb_over {w w1 W W' : World} {B p A : Nat} {va ve z v x0 x1 x2 : Value} {n8 : Prop} (hl : (∀ k, va.ownBlock = some k -> k < w.heap.size) /\ (∀ k, ve.ownBlock = some k -> k < w.heap.size) /\ p < w.heap.size /\ B <= w.heap.size /\ n8) (hA : A = w1.heap.size) (h1 : w.heap.size <= w1.heap.size) (h : FPB W A z v x0 x1 x2) (f : Frm (keepFS p va ve) W W') : FPB W' A z v x0 x1 x2 := by
 have hs : ∀ k, w.heap.size <= k -> ¬ keepFS p va ve k := fun k hk e => by
  rcases e with e | e | e
  ·have := hl.2.2.1; omega
  ·have := hl.1 k e; omega
  ·have := hl.2.1 k e; omega
 exact h.frm f (hs _ (by omega)) (hs _ (by omega))
theorem set_six {vs : List Value} (h : vs.length = 8) (a b : Value) : ((vs.set 6 a).set 7 b)[6]? = some a := by
 rw [List.getElem?_set, if_neg (by decide), List.getElem?_set, if_pos rfl, if_pos (by omega)]
theorem set_seven {vs : List Value} (h : vs.length = 8) (a b : Value) : ((vs.set 6 a).set 7 b)[7]? = some b := by
 rw [List.getElem?_set, if_pos rfl, if_pos (by simp; omega)]
theorem slice_ne {g p n c : Nat} (h : g ≠ p) : (Value.slice (some ⟨g, 0, none⟩) n c).ownBlock ≠ some p := by simp [Value.ownBlock]; exact h
theorem slice_nes {g g' n c n' c' : Nat} (h : g ≠ g') : ∀ k, (Value.slice (some ⟨g, 0, none⟩) n c).ownBlock = some k -> (Value.slice (some ⟨g', 0, none⟩) n' c').ownBlock ≠ some k := fun k e e' => by
 simp [Value.ownBlock] at e e'; exact h (e.trans e'.symm)
theorem le_nine {n : Nat} (h : n <= 900000000) : n + 1 <= 1000000000 := by omega
set_option maxHeartbeats 4000000 in
set_option maxRecDepth 100000 in
theorem decodes_some (w : World) (B p M : Nat) (vs : List Value) (wa : Option Addr) (wk wc : Nat) (ea : Option Addr) (ek ec : Nat) (wrows erows : List Value) (s : ByteArray) (x0 x1 x2 : Int) (z : Nat) (frs : List (List Px))
  (hbk : BookAt w p M vs) (hv6 : vs[6]? = some (.slice wa wk wc)) (hv7 : vs[7]? = some (.slice ea ek ec)) (hrw : w.ownsRow B 27 2 (.slice wa wk wc) wk wrows) (hre : w.ownsRow B 27 2 (.slice ea ek ec) ek erows)
  (hBz : B <= w.heap.size) (n1 : (Value.slice wa wk wc).ownBlock ≠ some p) (n2 : (Value.slice ea ek ec).ownBlock ≠ some p) (n3 : ∀ k, (Value.slice wa wk wc).ownBlock = some k -> (Value.slice ea ek ec).ownBlock ≠ some k) (hwk : wk <= 900000000) (hek : ek <= 900000000)
  (hP : ∀ wx, Below w.heap.size w wx -> Calls Tryz.prog 12 #[.string s] wx (GoodAns x0 x1 x2 z frs wx)) (hR : ∀ wx, Below w.heap.size w wx -> Calls Tryz.prog 68 #[.string s] wx (GoodAns x0 x1 x2 z frs wx)) :
  Calls Tryz.prog 28 #[.pointer (some ⟨p, 0, none⟩), .string s] w fun x w' => x = .returned (.bool true) /\ KeptTwo w w' B p M vs (.slice wa wk wc) (.slice ea ek ec) wk ek wrows erows z frs := by
 have HP : Hid (∀ wx, Below w.heap.size w wx -> Calls Tryz.prog 12 #[.string s] wx (GoodAns x0 x1 x2 z frs wx)) := hP
 have HR : Hid (∀ wx, Below w.heap.size w wx -> Calls Tryz.prog 68 #[.string s] wx (GoodAns x0 x1 x2 z frs wx)) := hR
 have HK1 : Hid (∀ wx (a : Option Addr) (an ac : Nat) (b : Option Addr) (bn bc : Nat), Below w.heap.size w wx -> Calls Tryz.prog 69 #[.pointer (some ⟨p, 0, none⟩), .agg #[.int .i64 z, .slice a an ac], .agg #[.int .i64 z, .slice b bn bc]] wx fun x w' => x = .returned (.tuple #[]) /\ KeptFilm wx w' B p M vs (.slice wa wk wc) (.slice ea ek ec) wk ek wrows erows [.int .i64 z, .slice a an ac] [.int .i64 z, .slice b bn bc]) := fun wx a an ac b bn bc hb => by
  have fr := Frm.of_below (S := fun _ => False) hb
  exact keepFilm_any wx B p M vs wa wk wc ea ek ec wrows erows z z a an ac b bn bc (hbk.frm fr (fun e => e)) hv6 hv7 (fr.owns hrw (fun _ _ e => e)) (fr.owns hre (fun _ _ e => e)) (by have := hb.size; omega) n1 n2 n3 (by omega) (by omega)
 have HLT : Hid ((∀ k, (Value.slice wa wk wc).ownBlock = some k -> k < w.heap.size) /\ (∀ k, (Value.slice ea ek ec).ownBlock = some k -> k < w.heap.size) /\ p < w.heap.size /\ B <= w.heap.size /\ vs.length = 8) := ⟨fun k e => (World.ownsRow.lt hrw k e).2, fun k e => (World.ownsRow.lt hre k e).2, hbk.up, hBz, hbk.len⟩
 have heq := placeEq x0 x1 x2
 have T0 : Hid True := trivial
 have T1 : Hid True := trivial
 have S0 : Hid True := trivial
 have S1 : Hid True := trivial
 have K0 : Hid True := trivial
 clear hP hR hbk hrw hre hBz
 go_enter Tryz.func28, Tryz.ntmps28
 go_wp2_with (first
  | (clear T0; go_at_call 12; refine (HP.out w (Below.refl _ w)).mono ?_; rintro r w1 ⟨a1, m1, c1, l1, hl1, rfl, hf1, b1⟩; obtain ⟨W1, A1, hW1, hA1, hbn1, _, hb1, hx1⟩ := fpb_mk (Below.refl _ w) b1 (.int .i64 z) (.slice a1 m1 c1) (.int .i64 x0) (.int .i64 x1) (.int .i64 x2); have HW1 : Hid (W1 = _ /\ A1 = _) := ⟨hW1, hA1⟩; clear hW1 hA1)
  | (rw [<- HW1.out.1, <- HW1.out.2])
  | (clear T1; go_at_call 12; refine (HP.out W1 hb1).mono ?_; rintro r w2 ⟨a2, m2, c2, l2, hl2, rfl, hf2, b2⟩; obtain ⟨W2, A2, hW2, hA2, hbn2, hbb2, hb2, hx2⟩ := fpb_mk hb1 b2 (.int .i64 z) (.slice a2 m2 c2) (.int .i64 x0) (.int .i64 x1) (.int .i64 x2); have HW2 : Hid (W2 = _ /\ A2 = _) := ⟨hW2, hA2⟩; clear hW2 hA2)
  | (rw [<- HW2.out.1, <- HW2.out.2])
  | (go_at_call 68; refine (HR.out W2 hb2).mono ?_; rintro r w3 ⟨a3, m3, c3, l3, hl3, rfl, hf3, b3⟩; obtain ⟨W3, A3, hW3, hA3, hbn3, hbb3, hb3, hx3⟩ := fpb_mk hb2 b3 (.int .i64 z) (.slice a3 m3 c3) (.int .i64 x0) (.int .i64 x1) (.int .i64 x2); have HW3 : Hid (W3 = _ /\ A3 = _) := ⟨hW3, hA3⟩; clear hW3 hA3)
  | (rw [<- HW3.out.1, <- HW3.out.2]; have y1 := (hx1.below hbb2).below hbb3; have y2 := hx2.below hbb3; have g1 := ((hf1.below hbn1).below hbb2).below hbb3; have g2 := (hf2.below hbn2).below hbb3; have g3 := hf3.below hbn3; obtain ⟨d10, d11, d12, d13, d14⟩ := y1.cells; obtain ⟨d20, d21, d22, d23, d24⟩ := y2.cells; obtain ⟨d30, d31, d32, d33, d34⟩ := hx3.cells)
  | (clear S0; go_at_call 31; refine (sameFilm_same W3 _ _ z _ _ frs g1.at g3.at).mono ?_; rintro r w4 ⟨rfl, b4⟩; clear d10 d11 d12 d13 d14 d20 d21 d22 d23 d24 d30 d31 d32 d33 d34; have u1 := y1.below b4; have u2 := y2.below b4; have u3 := hx3.below b4; obtain ⟨d10, d11, d12, d13, d14⟩ := u1.cells; obtain ⟨d20, d21, d22, d23, d24⟩ := u2.cells; obtain ⟨d30, d31, d32, d33, d34⟩ := u3.cells)
  | (clear S1; go_at_call 31; refine (sameFilm_same w4 _ _ z _ _ frs (g2.below b4).at (g3.below b4).at).mono ?_; rintro r w5 ⟨rfl, b5⟩; clear d10 d11 d12 d13 d14 d20 d21 d22 d23 d24 d30 d31 d32 d33 d34; have t1 := u1.below b5; have t2 := u2.below b5; have t3 := u3.below b5; obtain ⟨d10, d11, d12, d13, d14⟩ := t1.cells; obtain ⟨d20, d21, d22, d23, d24⟩ := t2.cells; obtain ⟨d30, d31, d32, d33, d34⟩ := t3.cells)
  | (go_at_call 57; refine (num_any _ _).mono ?_; rintro r w6 ⟨rfl, hw⟩; rw [hw]; clear hw)
  | (clear K0; go_at_call 69; refine (HK1.out w5 a1 m1 c1 a3 m3 c3 (HB5 hb3 b4 b5)).mono ?_; rintro r w6 ⟨rfl, gw, cw, ge, ce, bk6, ow6, oe6, hgw, hge, n4, n5, n6, f6⟩; clear d10 d11 d12 d13 d14 d20 d21 d22 d23 d24 d30 d31 d32 d33 d34; have v1 := fpb_over HLT.out HW1.out.2 b1.size t1 f6; have v2 := fpb_over HLT.out HW2.out.2 (Nat.le_trans hb1.size b2.size) t2 f6; have v3 := fpb_over HLT.out HW3.out.2 (Nat.le_trans hb2.size b3.size) t3 f6; obtain ⟨d10, d11, d12, d13, d14⟩ := v1.cells; obtain ⟨d20, d21, d22, d23, d24⟩ := v2.cells; obtain ⟨d30, d31, d32, d33, d34⟩ := v3.cells)
  | (go_at_call 69; refine (keepFilm_any w6 B p M _ _ (wk + 1) cw _ (ek + 1) ce _ _ z z a2 m2 c2 a3 m3 c3 bk6 (set_six HLT.out.2.2.2.2 _ _) (set_seven HLT.out.2.2.2.2 _ _) ow6 oe6 (HB6 HLT.out.2.2.2.1 hb3 b4 b5 f6) (slice_ne n5) (slice_ne n6) (slice_nes n4) (le_nine hwk) (le_nine hek)).mono ?_; rintro r w7 ⟨rfl, k7⟩))
 go_ret
 refine ⟨rfl, keptTwo_mk (HB5 hb3 b4 b5) ?_ ((g1.below b4).below b5) ((g2.below b4).below b5) ((g3.below b4).below b5) HLT.out.1 HLT.out.2.1 HLT.out.2.2.1 hgw hge f6 k7⟩
 have := hbb2.size; have := hbb3.size; have := hbn1.size; have := hbn2.size; have := hbn3.size; have := b4.size; have := b5.size; have := b1.size; have := b2.size; have := b3.size
 omega
end Go.Proofs.YtekfbphnoibnjaaGreatDoor
namespace Go.Proofs.YtekfbphnoibnjaaGreatDoor
open Go.RowKit
open Flm (Px)
structure Loc where
 v : Value
 P : World -> Prop
 loc : ∀ {S : Nat -> Prop} {w w' : World}, Frm S w w' -> (∀ k, v.ownBlock = some k -> ¬ S k) -> P w -> P w'
 lt : ∀ {w : World}, P w -> ∀ k, v.ownBlock = some k -> k < w.heap.size
def rowLoc (B : Nat) (e : TypeId) (sz : Nat) (v : Value) (n : Nat) (cs : List Value) : Loc := ⟨v, fun w => w.ownsRow B e sz v n cs, fun f h p => f.owns p h, fun p k e => (World.ownsRow.lt p k e).2⟩
def fillLoc (f : Value × Nat × List Value) : Loc := ⟨f.1, fun w => Fill w f.1 f.2.1 f.2.2 /\ ∀ k, f.1.ownBlock = some k -> k < w.heap.size, fun fr h p => ⟨p.1.frm fr h, fun k e => Nat.lt_of_lt_of_le (p.2 k e) fr.size⟩, fun p k e => p.2 k e⟩
def Has (w : World) (own : Nat -> Nat) (r : Nat) (l : Loc) : Prop := l.P w /\ role own l.v r
structure Ev (Wr : Nat -> Prop) (own own' : Nat -> Nat) (w w' : World) : Prop where
 fr : Frm (fun k => Wr (own k)) w w'
 ow : ∀ k, k < w.heap.size -> ¬ Wr (own k) -> own' k = own k
theorem Ev.has {Wr : Nat -> Prop} {own own' : Nat -> Nat} {w w' : World} (e : Ev Wr own own' w w') {r : Nat} {l : Loc} (h : Has w own r l) (hr : ¬ Wr r) : Has w' own' r l :=
 ⟨l.loc e.fr (fun k hk hw => hr (by rw [<- h.2 k hk]; exact hw)) h.1, fun k hk => (e.ow k (l.lt h.1 k hk) (by rw [h.2 k hk]; exact hr)).trans (h.2 k hk)⟩
theorem Ev.of_below {Wr : Nat -> Prop} {own : Nat -> Nat} {w w' : World} (f : Below w.heap.size w w') : Ev Wr own own w w' := ⟨Frm.of_below f, fun _ _ _ => rfl⟩
structure En where
 cells : List Value
 fills : List (Value × Nat × List Value)
def mkEn (ms us : List Value) (n : Nat) (l g1 g2 g3 : Value) : En := ⟨ms ++ [l, g1, g2, g3], [(l, n, us), (g1, n + 1, us), (g2, n + 2, us), (g3, n + 3, us)]⟩
def shp : Nat -> En -> Prop
 | 0, x => ∃ (m : Int) (n : Nat) (l g1 g2 g3 : Value), x = mkEn [.int .i64 m] [.int .i64 m] n l g1 g2 g3 /\ n <= 900000000
 | 1, x => ∃ (m : Int) (n : Nat) (l : Value), x = ⟨[.int .i64 m, .int .i64 0, l], [(l, n, [.int .i64 m, .int .i64 0])]⟩ /\ n <= 900000000
 | 2, x => ∃ (a b c : Int) (n : Nat) (l g1 g2 g3 : Value), x = mkEn [.int .u8 a, .int .u8 b, .int .u8 c] [.int .u8 a, .int .u8 b, .int .u8 c] n l g1 g2 g3 /\ n <= 900000000
 | 3, x => ∃ (m mb mc n : Nat) (l g1 g2 g3 : Value), x = mkEn [.int .i64 (m : Int)] [.slice (some ⟨mb, 0, none⟩) m mc] n l g1 g2 g3 /\ n <= 900000000
 | _, _ => False
structure Wg where
 cw : List Value
 ce : List Value
 lw : List Loc
 le : List Loc
def filmLocs (B : Nat) (Lv : Value) (z : Nat) (frs : List (List Px)) (fbs : List Nat) : List Loc :=
 rowLoc B 58 1 Lv frs.length (rowVals (z * z) fbs) :: (List.range frs.length).map fun i => rowLoc B 50 3 (.slice (some ⟨fbs.getD i 0, 0, none⟩) (z * z) (z * z)) (z * z) (pxCells (frs.getD i []))
structure FilmC (Lv : Value) (z : Nat) (frs : List (List Px)) (fbs : List Nat) : Prop where
 ln : fbs.length = frs.length
 nd : fbs.Nodup
 nl : ∀ k, Lv.ownBlock = some k -> k ∉ fbs
 zz : z = 4 \/ z = 8 \/ z = 16
 l8 : frs.length <= 8
 ok : ∀ i k, Flm.okPx ((frs.getD i []).getD k (0, 0, 0))
def shw : Nat -> Nat -> Wg -> Prop
 | 0, B, x => ∃ (l y : Value) (zs : List Int), x = ⟨[l], [y], [rowLoc B 3 1 l zs.length (ints zs)], [rowLoc B 3 1 y zs.length (ints zs)]⟩ /\ zs.length <= 900000000
 | _, B, x => ∃ (z : Nat) (frs : List (List Px)) (Lv Lv' : Value) (fbs fbs' : List Nat), x = ⟨[.int .i64 z, Lv], [.int .i64 z, Lv'], filmLocs B Lv z frs fbs, filmLocs B Lv' z frs fbs'⟩ /\ FilmC Lv z frs fbs /\ FilmC Lv' z frs fbs'
def rho (t i f : Nat) : Nat := 100 + (2 * i + t) * 16 + f
def bty : Nat -> TypeId
 | 0 => 76
 | 1 => 79
 | 2 => 81
 | 3 => 84
 | 4 => 52
 | 5 => 52
 | _ => 27
def bsz : Nat -> Nat
 | 0 => 5
 | 1 => 3
 | 2 => 7
 | 3 => 5
 | 4 => 1
 | 5 => 1
 | _ => 2
def els (mk : Nat -> List En) (wt : Nat -> List Wg) (i : Nat) : List (List Value) :=
 if i < 4 then (mk i).map En.cells else if i % 2 = 0 then (wt (i / 2 - 2)).map Wg.cw else (wt (i / 2 - 2)).map Wg.ce
def upd {α : Type} (f : Nat -> α) (j : Nat) (v : α) : Nat -> α := fun i => if i = j then v else f i
def nilV : Value := .slice none 0 0
structure GSt (w wH wr : World) (p M : Nat) (own : Nat -> Nat) (vs : List Value) (mk : Nat -> List En) (wt : Nat -> List Wg) (d : Nat -> Nat) : Prop where
 bk : BookAt wr p M vs
 ro : ∀ i, i < 8 -> Has wr own (2 + i) (rowLoc w.heap.size (bty i) (bsz i) (vs.getD i nilV) (els mk wt i).length (els mk wt i).flatten)
 en : ∀ i, i < 4 -> ∀ x ∈ mk i, ∀ f ∈ x.fills, Has wr own 10 (fillLoc f)
 sh : ∀ i, i < 4 -> ∀ x ∈ mk i, shp i x
 ww : ∀ (t i : Nat) (x : Wg), t < 2 -> (wt t)[i]? = some x -> d t <= i -> ∀ f l, x.lw[f]? = some l -> Has wr own (rho t i f) l
 we : ∀ (t i : Nat) (x : Wg), t < 2 -> (wt t)[i]? = some x -> d t <= i -> ∀ l ∈ x.le, Has wr own 10 l
 sw : ∀ (t i : Nat) (x : Wg), t < 2 -> (wt t)[i]? = some x -> shw t w.heap.size x
 op : own p = 0
 o1 : ∀ k, k < wH.heap.size -> k ≠ p -> own k = 1
 sz : wH.heap.size <= wr.heap.size
 kept : ∀ k, k < wH.heap.size -> k ≠ p -> wr.heap[k]? = wH.heap[k]?
 bel : Below w.heap.size w wr
 hp : w.heap.size = p
 hw : w.heap.size < wH.heap.size
theorem shw_len {t B : Nat} {x : Wg} (ht : t < 2) (h : shw t B x) : x.lw.length <= 16 := by
 match t, ht, h with
 | 0, _, ⟨l, y, zs, e, _⟩ => rw [e]; simp
 | 1, _, ⟨z, frs, Lv, Lv', fbs, fbs', e, c, _⟩ => rw [e]; have := c.l8; simp [filmLocs]; omega
theorem GSt.ev {w wH wr wr' : World} {p M M' : Nat} {own own' : Nat -> Nat} {vs vs' : List Value} {mk mk' : Nat -> List En} {wt wt' : Nat -> List Wg} {d d' : Nat -> Nat} {Wr : Nat -> Prop} (h : GSt w wH wr p M own vs mk wt d) (e : Ev Wr own own' wr wr')
  (w1 : ¬ Wr 1) (w10 : ¬ Wr 10) (bk : BookAt wr' p M' vs') (op : own' p = 0)
  (ro : ∀ i, i < 8 -> (vs'.getD i nilV = vs.getD i nilV /\ els mk' wt' i = els mk wt i /\ ¬ Wr (2 + i)) \/ Has wr' own' (2 + i) (rowLoc w.heap.size (bty i) (bsz i) (vs'.getD i nilV) (els mk' wt' i).length (els mk' wt' i).flatten))
  (en : ∀ i, i < 4 -> ∀ x ∈ mk' i, x ∈ mk i \/ (shp i x /\ ∀ f ∈ x.fills, Has wr' own' 10 (fillLoc f)))
  (hwt : ∀ (t i : Nat) (x : Wg), t < 2 -> (wt' t)[i]? = some x -> ((wt t)[i]? = some x /\ (d' t <= i -> d t <= i /\ ∀ f, f < 16 -> ¬ Wr (rho t i f))) \/ ((∀ f l, x.lw[f]? = some l -> Has wr' own' (rho t i f) l) /\ (∀ l ∈ x.le, Has wr' own' 10 l) /\ shw t w.heap.size x)) : GSt w wH wr' p M' own' vs' mk' wt' d' := by
 refine ⟨bk, fun i hi => ?_, fun i hi x hx f hf => ?_, fun i hi x hx => ?_, fun t i x ht hx hd f l hl => ?_, fun t i x ht hx hd l hl => ?_, fun t i x ht hx => ?_, op, fun k hk hkp => ?_, Nat.le_trans h.sz e.fr.size, fun k hk hkp => ?_, ?_, h.hp, h.hw⟩
 ·rcases ro i hi with ⟨a, b, c⟩ | a
  ·rw [a, b]; exact e.has (h.ro i hi) c
  ·exact a
 ·rcases en i hi x hx with a | a
  ·exact e.has (h.en i hi x a f hf) w10
  ·exact a.2 f hf
 ·rcases en i hi x hx with a | a
  ·exact h.sh i hi x a
  ·exact a.1
 ·rcases hwt t i x ht hx with ⟨a, b⟩ | a
  ·have h16 := shw_len ht (h.sw t i x ht a)
   exact e.has (h.ww t i x ht a (b hd).1 f l hl) ((b hd).2 f (by have := (List.getElem?_eq_some_iff.1 hl).1; omega))
  ·exact a.1 f l hl
 ·rcases hwt t i x ht hx with ⟨a, b⟩ | a
  ·exact e.has (h.we t i x ht a (b hd).1 l hl) w10
  ·exact a.2.1 l hl
 ·rcases hwt t i x ht hx with ⟨a, b⟩ | a
  ·exact h.sw t i x ht a
  ·exact a.2.2
 ·have o := h.o1 k hk hkp
  exact (e.ow k (Nat.lt_of_lt_of_le hk h.sz) (by rw [o]; exact w1)).trans o
 ·have o := h.o1 k hk hkp
  exact (e.fr.block k (Nat.lt_of_lt_of_le hk h.sz) (by rw [o]; exact w1)).trans (h.kept k hk hkp)
 ·have f' : Frm (fun k => w.heap.size <= k) wr wr' := e.fr.mono (fun k _ hk => by
   rcases Nat.lt_or_ge k w.heap.size with h' | h'
   ·have := h.o1 k (Nat.lt_trans h' h.hw) (by have := h.hp; omega)
    rw [this] at hk
    exact absurd hk w1
   ·exact h')
  exact h.bel.trans (f'.below h.bel.size (fun k hk => hk))
theorem GSt.below {w wH wr wr' : World} {p M : Nat} {own : Nat -> Nat} {vs : List Value} {mk : Nat -> List En} {wt : Nat -> List Wg} {d : Nat -> Nat} (h : GSt w wH wr p M own vs mk wt d) (f : Below wr.heap.size wr wr') : GSt w wH wr' p M own vs mk wt d :=
 h.ev (Ev.of_below (Wr := fun _ => False) f) (fun e => e) (fun e => e) (h.bk.frm (Frm.of_below (S := fun _ => False) f) (fun e => e)) h.op (fun _ _ => .inl ⟨rfl, rfl, fun e => e⟩) (fun _ _ _ hx => .inl hx) (fun _ _ _ _ hx => .inl ⟨hx, fun hd => ⟨hd, fun _ _ e => e⟩⟩)
end Go.Proofs.YtekfbphnoibnjaaGreatDoor
