/-
  A struct that holds an array, as a composite literal builds it.
-/
import Derived.Test.YtekfbphnoibnjaaGreatDoorChances2
namespace Go.Proofs.YtekfbphnoibnjaaGreatDoor
open Go.RowKit

/-- Parts laid into cells from place o on. -/
def laidAt (cs : Array Value) (o : Nat) (xs : Array Value) : Array Value := Array.foldl (fun cs x => cs.setIfInBounds (o + x.snd) x.fst) cs xs.zipIdx 0 xs.size

theorem foldl_laid (o : Nat) : ∀ (xs : List Value) (n : Nat) (cs : Array Value), ((xs.zipIdx n).foldl (fun cs x => cs.setIfInBounds (o + x.snd) x.fst) cs).size = cs.size ∧
    ∀ j, ((xs.zipIdx n).foldl (fun cs x => cs.setIfInBounds (o + x.snd) x.fst) cs)[j]? = if o + n ≤ j ∧ j < o + n + xs.length ∧ j < cs.size then xs[j - (o + n)]? else cs[j]?
  | [], n, cs => ⟨rfl, fun j => by simp; intro h1 h2; omega⟩
  | x :: xs, n, cs => by
    obtain ⟨h1, h2⟩ := foldl_laid o xs (n + 1) (cs.setIfInBounds (o + n) x)
    rw [List.zipIdx_cons, List.foldl_cons]
    refine ⟨by rw [h1]; simp, fun j => ?_⟩
    rw [h2 j]
    by_cases e : j = o + n
    · subst e
      rw [if_neg (by omega)]
      by_cases hl : o + n < cs.size
      · rw [if_pos ⟨by omega, by simp, hl⟩, Array.getElem?_setIfInBounds_self_of_lt hl]; simp
      · rw [if_neg (fun h => hl h.2.2)]
        rw [Array.getElem?_eq_none (by simp; omega), Array.getElem?_eq_none (by omega)]
    · rw [Array.getElem?_setIfInBounds_ne (fun h => e h.symm)]
      by_cases hl : o + (n + 1) ≤ j ∧ j < o + (n + 1) + xs.length ∧ j < cs.size
      · rw [if_pos (by simpa using hl), if_pos (by simp; omega), show j - (o + n) = (j - (o + (n + 1))) + 1 by omega, List.getElem?_cons_succ]
      · rw [if_neg (by simpa using hl), if_neg (by simp; omega)]

theorem laidAt_eq (cs : Array Value) (o : Nat) (xs : Array Value) : laidAt cs o xs = (xs.toList.zipIdx 0).foldl (fun cs x => cs.setIfInBounds (o + x.snd) x.fst) cs := by
  unfold laidAt
  rw [show xs.size = xs.zipIdx.size by simp, ← Array.foldl_toList, Array.toList_zipIdx]
theorem laidAt_size (cs : Array Value) (o : Nat) (xs : Array Value) : (laidAt cs o xs).size = cs.size := by rw [laidAt_eq]; exact (foldl_laid o xs.toList 0 cs).1
theorem laidAt_get (cs : Array Value) (o : Nat) (xs : Array Value) (j : Nat) : (laidAt cs o xs)[j]? = if o ≤ j ∧ j < o + xs.size ∧ j < cs.size then xs[j - o]? else cs[j]? := by
  rw [laidAt_eq, (foldl_laid o xs.toList 0 cs).2 j]
  simp

theorem rdInfo : (Tryz.prog.info? 162).map (fun i => (i.zero, i.size)) = some (some (.agg (#[.string (ByteArray.mk #[]), .int .u32 0, .int .u32 0] ++ Array.replicate 400 (.int .u32 0))), 403) := by kernel_rfl
/-- A course at its begin: the range, the chances. -/
def crsEven : Array Value := #[Value.int .u32 4294967295] ++ chEven
theorem crsEven_size : crsEven.size = 401 := by unfold crsEven; rw [Array.size_append, show chEven.size = 400 from evens_size 400]; rfl
theorem crsInfo : (Tryz.prog.info? 147).map (fun i => (i.zero, i.size)) = some (some (.agg (#[.int .u32 0] ++ Array.replicate 400 (.int .u32 0))), 401) := by kernel_rfl
theorem lwInfo : (Tryz.prog.info? 211).map (fun i => (i.zero, i.size)) = some (some (.agg ((#[.int .u32 0] ++ Array.replicate 400 (.int .u32 0)) ++ #[.slice none 0 0, .int .u32 0])), 403) := by kernel_rfl

/-- A block that a literal of three cells and the chances was laid into. -/
theorem chAt_laid (w : World) (Z : Array Value) (t : TypeId) (hZ : Z.size = 403) : ChAt (w.alloc (.cells (laidAt Z 3 chEven) t)) w.heap.size 3 ch0 := by
  have hcs : chEven.size = 400 := evens_size 400
  refine ⟨List.length_replicate, fun k hk => ?_, fun k hk => ?_⟩
  · rw [cell_of_row _ _ (3 + k) _ t (0, 0) (heap_alloc_last w _), laidAt_get, if_pos ⟨by omega, by omega, by omega⟩, show 3 + k - 3 = k by omega, ch0_get k hk]
    exact evens_get 400 k hk
  · simp
theorem cell_laid (w : World) (Z : Array Value) (t : TypeId) (j : Nat) (hj : j < 3) : (w.alloc (.cells (laidAt Z 3 chEven) t)).cell? ⟨w.heap.size, j, none⟩ = Z[j]? := by
  rw [cell_of_row _ _ j _ t (0, 0) (heap_alloc_last w _), laidAt_get, if_neg (by omega)]

/-- A block that a course and two cells were laid into. -/
theorem crs_laid (w : World) (Z : Array Value) (t : TypeId) (hZ : Z.size = 403) : ChAt (w.alloc (.cells (laidAt Z 0 crsEven) t)) w.heap.size 1 ch0 := by
  have hcs := crsEven_size
  refine ⟨List.length_replicate, fun k hk => ?_, fun k hk => ?_⟩
  · rw [cell_of_row _ _ (1 + k) _ t (0, 0) (heap_alloc_last w _), laidAt_get, if_pos ⟨by omega, by omega, by omega⟩, ch0_get k hk]
    unfold crsEven
    rw [Array.getElem?_append_right (by simp)]
    rw [show 1 + k - 0 - (#[Value.int .u32 4294967295] : Array Value).size = k by simp]
    exact evens_get 400 k hk
  · simp
theorem crs_laid0 (w : World) (Z : Array Value) (t : TypeId) (hZ : Z.size = 403) : (w.alloc (.cells (laidAt Z 0 crsEven) t)).cell? ⟨w.heap.size, 0, none⟩ = some (.int .u32 4294967295) := by
  have hcs := crsEven_size
  rw [cell_of_row _ _ 0 _ t (0, 0) (heap_alloc_last w _), laidAt_get, if_pos ⟨by omega, by omega, by omega⟩]
  unfold crsEven
  rw [Array.getElem?_append_left (by simp)]
  rfl
theorem crs_laid2 (w : World) (Z : Array Value) (t : TypeId) (j : Nat) (hj : 401 ≤ j) : (w.alloc (.cells (laidAt Z 0 crsEven) t)).cell? ⟨w.heap.size, j, none⟩ = Z[j]? := by
  have hcs := crsEven_size
  rw [cell_of_row _ _ j _ t (0, 0) (heap_alloc_last w _), laidAt_get, if_neg (by omega)]

end Go.Proofs.YtekfbphnoibnjaaGreatDoor
