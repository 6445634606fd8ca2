/-
  The opening that every script is played behind: it answers eleven steps, and writes nothing old.
-/
import Derived.Test.YtekfbphnoibnjaaGreatDoorWriter
import Derived.Laws.BytesArg
namespace Go.Proofs.YtekfbphnoibnjaaGreatDoor
open Go.RowKit

theorem cellAt_new (w : World) (xs zs : Array Value) (e : TypeId) (i : Nat) (v : Value) (h : xs[i]? = some v) : (w.alloc (.cells (xs ++ zs) e)).drew.cell? ⟨w.heap.size, i, none⟩ = some v := by
  have hi : i < xs.size := by
    rcases Nat.lt_or_ge i xs.size with h' | h'
    · exact h'
    · rw [Array.getElem?_eq_none h'] at h; cases h
  show (w.alloc (.cells (xs ++ zs) e)).cell? ⟨w.heap.size, i, none⟩ = some v
  have hg : (w.alloc (.cells (xs ++ zs) e)).heap[w.heap.size]? = some (.cells (xs ++ zs) e (0, 0)) := by
    show (w.heap.push _)[w.heap.size]? = _
    simp
  rw [cell_of_row _ _ _ _ _ _ hg, Array.getElem?_append, if_pos hi, h]

theorem conv4 (w : World) (a b c d : Int) (z : Array Value) (cap : Nat) :
    Sem.run Tryz.prog (convert 101 9 (.slice (some ⟨w.heap.size + 1, 0, none⟩) 4 cap)) ((w.alloc (.cells #[.int .u8 a, .int .u8 b, .int .u8 c, .int .u8 d] 5)).alloc (.cells (#[.int .u8 a, .int .u8 b, .int .u8 c, .int .u8 d] ++ z) 5)).drew
      = .ok (.string (strOfNums [a, b, c, d])) ((w.alloc (.cells #[.int .u8 a, .int .u8 b, .int .u8 c, .int .u8 d] 5)).alloc (.cells (#[.int .u8 a, .int .u8 b, .int .u8 c, .int .u8 d] ++ z) 5)).drew := by
  refine run_convert_bytes_arg _ 101 5 Tryz.underlying101 Tryz.underlying5 (w.heap.size + 1) 0 4 cap [a, b, c, d] rfl ?_ 9 Tryz.underlying9
  intro i hi
  have hs : w.heap.size + 1 = (w.alloc (.cells #[.int .u8 a, .int .u8 b, .int .u8 c, .int .u8 d] 5)).heap.size := by simp
  rw [hs]
  refine cellAt_new _ _ _ _ _ _ ?_
  match i, hi with
  | 0, _ => rfl
  | 1, _ => rfl
  | 2, _ => rfl
  | 3, _ => rfl

set_option maxHeartbeats 400000 in
set_option maxRecDepth 20000 in
theorem wend_any (w : World) (B b g : Nat) (L R : Int) (cs : List Int) (h : Wrt w B b g L R cs) (L0 : 0 ≤ L) (L1 : L ≤ 4294967295) :
    Calls Tryz.prog 52 #[.pointer (some ⟨b, 0, none⟩)] w fun e w' => (∃ s : ByteArray, e = .returned (.string s) ∧ s.size = 4) ∧ Below w.heap.size w w' := by
  obtain ⟨h0, h1, h2, h3, hfz, hn, hne, hlo, hup⟩ := h
  clear hn
  have hcv := conv4 w
  go_enter Tryz.func52, Tryz.ntmps52
  go_wp2
  go_ret
  refine ⟨⟨_, rfl, by rw [strOfNums_size]; rfl⟩, ?_⟩
  exact (((Below.refl _ _).alloc (Nat.le_refl _) _).alloc (by simp) _).drew

theorem getD_set_ne (l : List Int) (i j : Nat) (v : Int) (h : i ≠ j) : (l.set i v).getD j 0 = l.getD j 0 := by
  simp [List.getD_eq_getElem?_getD, List.getElem?_set_ne h]
theorem getD_set_eq (l : List Int) (i : Nat) (v : Int) (h : i < l.length) : (l.set i v).getD i 0 = v := by
  simp [List.getD_eq_getElem?_getD, h]

/-- What the opening's writer knows of its chances. -/
structure Chs (cs : List Int) (a3 a200 a224 : Int) : Prop where
  h3 : cs.getD 3 0 = a3
  h200 : cs.getD 200 0 = a200
  h224 : cs.getD 224 0 = a224

theorem bitA (w : World) (B b g : Nat) (h : Wrt w B b g 0 4294967295 ch0) :
    Calls Tryz.prog 51 #[.pointer (some ⟨b, 0, none⟩), .int .i64 2, .int .i64 0] w fun e w' => e = .returned (.tuple #[]) ∧ (∃ cs, Wrt w' B b g 0 2147481600 cs ∧ Chs cs 2048 2048 2048) ∧ Below B w w' := by
  have k := wbit0 w B b g 2 0 4294967295 2048 ch0 h (by decide) (ch0_get 2 (by decide)) (by decide) (by decide) (by decide) (by decide) (by decide) (by decide) (by decide) (by decide)
  refine k.mono ?_
  rintro e w' ⟨rfl, hw, hb⟩
  exact ⟨rfl, ⟨_, hw, by rw [getD_set_ne _ _ _ _ (by decide)]; exact ch0_get 3 (by decide), by rw [getD_set_ne _ _ _ _ (by decide)]; exact ch0_get 200 (by decide), by rw [getD_set_ne _ _ _ _ (by decide)]; exact ch0_get 224 (by decide)⟩, hb⟩
theorem bitB (w : World) (B b g : Nat) (h : ∃ cs, Wrt w B b g 0 2147481600 cs ∧ Chs cs 2048 2048 2048) :
    Calls Tryz.prog 51 #[.pointer (some ⟨b, 0, none⟩), .int .i64 3, .int .i64 1] w fun e w' => e = .returned (.tuple #[]) ∧ (∃ cs, Wrt w' B b g 1073739776 1073741824 cs ∧ Chs cs 1984 2048 2048) ∧ Below B w w' := by
  obtain ⟨cs, h, q3, q200, q224⟩ := h
  have k := wbit1 w B b g 3 0 2147481600 2048 cs h (by decide) q3 (by decide) (by decide) (by decide) (by decide) (by decide) (by decide) (by decide) (by decide) (by decide) (by decide)
  refine k.mono ?_
  rintro e w' ⟨rfl, hw, hb⟩
  exact ⟨rfl, ⟨_, hw, getD_set_eq _ _ _ (by rw [h.nums.len]; decide), by rw [getD_set_ne _ _ _ _ (by decide)]; exact q200, by rw [getD_set_ne _ _ _ _ (by decide)]; exact q224⟩, hb⟩
theorem bitC (w : World) (B b g : Nat) (h : ∃ cs, Wrt w B b g 1073739776 1073741824 cs ∧ Chs cs 1984 2048 2048) :
    Calls Tryz.prog 51 #[.pointer (some ⟨b, 0, none⟩), .int .i64 200, .int .i64 0] w fun e w' => e = .returned (.tuple #[]) ∧ (∃ cs, Wrt w' B b g 1073739776 536870912 cs ∧ Chs cs 1984 2112 2048) ∧ Below B w w' := by
  obtain ⟨cs, h, q3, q200, q224⟩ := h
  have k := wbit0 w B b g 200 1073739776 1073741824 2048 cs h (by decide) q200 (by decide) (by decide) (by decide) (by decide) (by decide) (by decide) (by decide) (by decide)
  refine k.mono ?_
  rintro e w' ⟨rfl, hw, hb⟩
  exact ⟨rfl, ⟨_, hw, by rw [getD_set_ne _ _ _ _ (by decide)]; exact q3, getD_set_eq _ _ _ (by rw [h.nums.len]; decide), by rw [getD_set_ne _ _ _ _ (by decide)]; exact q224⟩, hb⟩
theorem bitD (w : World) (B b g : Nat) (R c : Int) (h : ∃ cs, Wrt w B b g 1073739776 R cs ∧ Chs cs 1984 2112 c) (c0 : 0 ≤ c) (c1 : c ≤ 4096) (R0 : 0 ≤ R) (R1 : R ≤ 4294967295) (m0 : 16777216 ≤ R / 4096 * c) (m1 : R / 4096 * c ≤ 4294967295) :
    Calls Tryz.prog 51 #[.pointer (some ⟨b, 0, none⟩), .int .i64 224, .int .i64 0] w fun e w' => e = .returned (.tuple #[]) ∧ (∃ cs, Wrt w' B b g 1073739776 (R / 4096 * c) cs ∧ Chs cs 1984 2112 (c + (4096 - c) / 32)) ∧ Below B w w' := by
  obtain ⟨cs, h, q3, q200, q224⟩ := h
  have k := wbit0 w B b g 224 1073739776 R c cs h (by decide) q224 c0 c1 (by decide) (by decide) R0 R1 m0 m1
  refine k.mono ?_
  rintro e w' ⟨rfl, hw, hb⟩
  exact ⟨rfl, ⟨_, hw, by rw [getD_set_ne _ _ _ _ (by decide)]; exact q3, by rw [getD_set_ne _ _ _ _ (by decide)]; exact q200, getD_set_eq _ _ _ (by rw [h.nums.len]; decide)⟩, hb⟩

end Go.Proofs.YtekfbphnoibnjaaGreatDoor
