/-
  The program's packer tells its bytes: the digits of its low end.
-/
import Derived.Test.YtekfbphnoibnjaaGreatDoorLPut
import Derived.Laws.BytesArg
namespace Go.Proofs.YtekfbphnoibnjaaGreatDoor
open Go.RowKit

theorem octs_conv {w : World} {B : Nat} {v : Value} {zs : List Int} (h : Octs w B v zs) : Sem.run Tryz.prog (convert 101 9 v) w = .ok (.string (strOfNums zs)) w := by
  unfold Octs at h
  rcases h.2 with ⟨rfl, h0⟩ | ⟨g, cap, cur, rfl, _⟩
  · have : zs = [] := List.eq_nil_of_length_eq_zero h0
    subst this
    exact run_convert_bytes_nil w 101 5 Tryz.underlying101 Tryz.underlying5 0 0 9 Tryz.underlying9
  · refine run_convert_bytes_arg w 101 5 Tryz.underlying101 Tryz.underlying5 g 0 zs.length cap zs rfl (fun i hi => ?_) 9 Tryz.underlying9
    rw [Nat.zero_add, World.ownsRow.cellAt h i (by omega), octs_get _ _ hi]

theorem conv4d (w : World) (a b c d : Int) :
    Sem.run Tryz.prog (convert 101 9 (.slice (some ⟨w.heap.size, 0, none⟩) 4 4)) (w.alloc (.cells #[.int .u8 a, .int .u8 b, .int .u8 c, .int .u8 d] 5)).drew
      = .ok (.string (strOfNums [a, b, c, d])) (w.alloc (.cells #[.int .u8 a, .int .u8 b, .int .u8 c, .int .u8 d] 5)).drew := by
  refine run_convert_bytes_arg _ 101 5 Tryz.underlying101 Tryz.underlying5 w.heap.size 0 4 4 [a, b, c, d] rfl ?_ 9 Tryz.underlying9
  intro i hi
  show (w.alloc (.cells #[.int .u8 a, .int .u8 b, .int .u8 c, .int .u8 d] 5)).cell? _ = _
  rw [cell_of_row _ _ _ _ _ _ (heap_alloc_last w _)]
  match i, hi with
  | 0, _ => rfl
  | 1, _ => rfl
  | 2, _ => rfl
  | 3, _ => rfl

/-- The bytes of a packer at its end. -/
def endStr (t : WS) : ByteArray := strOfNums (Pack.digs (t.m + 4) t.n)

theorem strOfNums_app (xs ys : List Int) : strOfNums xs ++ strOfNums ys = strOfNums (xs ++ ys) := by
  apply ByteArray.ext
  simp [strOfNums]
theorem byteAt_str (zs : List Int) (i : Nat) (hi : i < zs.length) (hb : ∀ z ∈ zs, 0 ≤ z ∧ z ≤ 255) : Rdr.byteAt (strOfNums zs) i = zs.getD i 0 := by
  unfold Rdr.byteAt
  rw [strOfNums_data, List.getD_eq_getElem?_getD, List.getElem?_map, List.getElem?_eq_getElem hi, List.getD_eq_getElem?_getD, List.getElem?_eq_getElem hi]
  have := hb zs[i] (List.getElem_mem hi)
  show ((UInt8.ofNat zs[i].toNat).toNat : Int) = zs[i]
  rw [UInt8.toNat_ofNat']
  omega
theorem endStr_bytes (t : WS) : Pack.BytesOf (endStr t) t.n t.m := by
  refine ⟨by unfold endStr; rw [strOfNums_size, Pack.digs_length], fun i hi => ?_⟩
  unfold endStr
  rw [byteAt_str _ _ (by rw [Pack.digs_length]; exact hi) (Pack.digs_bd _ _), Pack.digs_get _ _ _ hi, show t.m + 4 - 1 - i = t.m + 3 - i by omega]
theorem endStr_eq (t : WS) (L : Int) (hL : L = t.n % 4294967296) : strOfNums (Pack.digs t.m (t.n / 4294967296)) ++ strOfNums [L / 16777216 % 256, L / 65536 % 256, L / 256 % 256, L % 256] = endStr t := by
  rw [strOfNums_app]
  unfold endStr
  congr 1
  show _ = (((Pack.digs t.m (t.n / 256 / 256 / 256 / 256) ++ [_]) ++ [_]) ++ [_]) ++ [_]
  rw [show t.n / 256 / 256 / 256 / 256 = t.n / 4294967296 by omega]
  simp only [List.append_assoc, List.cons_append, List.nil_append]
  congr 1
  simp only [List.cons.injEq, and_true]
  omega

set_option maxHeartbeats 2000000 in
set_option maxRecDepth 20000 in
theorem pLEnd (w : World) (B b : Nat) (v : Value) (t : WS) (h : PW w B b v t) (hm : t.m ≤ 100000) :
    Calls Tryz.prog 83 #[.pointer (some ⟨b, 0, none⟩)] w fun e w' => e = .returned (.string (endStr t)) ∧ Below w.heap.size w w' := by
  have i0 := h.c0
  have i1 := h.c1
  obtain ⟨L, hL⟩ : ∃ L, L = t.n % 4294967296 := ⟨_, rfl⟩
  rw [← hL] at i1
  have L0 : 0 ≤ L := by omega
  have L1 : L ≤ 4294967295 := by omega
  have HL : Hid (L = t.n % 4294967296) := hL
  obtain ⟨zs, hzs⟩ : ∃ zs, zs = Pack.digs t.m (t.n / 4294967296) := ⟨_, rfl⟩
  have ho := h.own
  rw [← hzs] at ho
  have hzl : zs.length ≤ 100000 := by rw [hzs, Pack.digs_length]; exact hm
  have HZ : Hid (zs = Pack.digs t.m (t.n / 4294967296)) := hzs
  have F0 := octs_conv (w := w) ho
  have F1 : Sem.run Tryz.prog (convert 101 9 v) w.drew = .ok (.string (strOfNums zs)) w.drew := octs_conv (B := B) (show Octs w.drew B v zs from ho)
  have F2 : ∀ a b c d : Int, Sem.run Tryz.prog (convert 101 9 v) (w.alloc (.cells #[.int .u8 a, .int .u8 b, .int .u8 c, .int .u8 d] 5)).drew = .ok (.string (strOfNums zs)) (w.alloc (.cells #[.int .u8 a, .int .u8 b, .int .u8 c, .int .u8 d] 5)).drew := fun a b c d => octs_conv (B := B) (show Octs (w.alloc _).drew B v zs from by unfold Octs at ho ⊢; exact (ho.alloc _).drew)
  have F3 := conv4d w
  have hsz : (strOfNums zs).size = zs.length := strOfNums_size zs
  have hsz4 : ∀ a b c d : Int, (strOfNums [a, b, c, d]).size = 4 := fun a b c d => strOfNums_size _
  have hbup := h.up
  have i0a : ∀ x y z u : Int, (w.alloc (.cells #[.int .u8 x, .int .u8 y, .int .u8 z, .int .u8 u] 5)).drew.cell? ⟨b, 401, none⟩ = some v := fun x y z u => (cell_alloc_drew hbup).trans i0
  have hlim : ¬ 9223372036854775807 < zs.length + 4 := by omega
  clear hL hzs h
  go_enter Tryz.func83, Tryz.ntmps83
  go_wp2
  go_region
  have he : strOfNums zs ++ strOfNums [L / 16777216, L / 65536 % 256, L / 256 % 256, L % 256] = endStr t := by
    rw [HZ.out, ← endStr_eq t L HL.out, show L / 16777216 % 256 = L / 16777216 by omega]
  have HEE : Hid (strOfNums zs ++ strOfNums [L / 16777216, L / 65536 % 256, L / 256 % 256, L % 256] = endStr t) := he
  clear he F0 F1 F2 F3 i0a
  go_wp2
  go_ret
  exact ⟨by rw [← HEE.out]; rfl, below_drew ((Below.refl _ w).alloc (Nat.le_refl _) _)⟩

end Go.Proofs.YtekfbphnoibnjaaGreatDoor
