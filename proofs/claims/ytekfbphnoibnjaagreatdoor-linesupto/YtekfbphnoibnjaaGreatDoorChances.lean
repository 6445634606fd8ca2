/-
  The program's chances: all even at first; the cut; how they learn.
-/
import Derived.Test.YtekfbphnoibnjaaGreatDoorLists
import Derived.Deep.WholeRow
import Derived.Deep.MidRow
import Derived.Laws.ResultCell
namespace Go.Proofs.YtekfbphnoibnjaaGreatDoor
open Go.RowKit

/-- 400 chances from offset o of block b on. -/
structure ChAt (w : World) (b o : Nat) (ch : List Int) : Prop where
  len : ch.length = 400
  cell : ∀ k, k < 400 → w.cell? ⟨b, o + k, none⟩ = some (.int .u32 (ch.getD k 0))
  fz : ∀ k, k < 400 → w.frozen? ⟨b, o + k, none⟩ = false

theorem chInfo : (Tryz.prog.info? 145).map (fun i => (i.zero, i.size)) = some (some (.agg (Array.replicate 400 (.int .u32 0))), 400) := by kernel_rfl

/-- The row of N of which the first k are even already. -/
def chRowN (N k : Nat) : Array Value := (List.replicate k (Value.int .u32 2048) ++ List.replicate (N - k) (Value.int .u32 0)).toArray
theorem chRowN_size (N k : Nat) (h : k ≤ N) : (chRowN N k).size = N := by unfold chRowN; simp; omega
theorem chRowN_zero (N : Nat) : chRowN N 0 = Array.replicate N (.int .u32 0) := by unfold chRowN; simp
theorem chRowN_set (N k : Nat) (h : k < N) : (chRowN N k).setIfInBounds k (.int .u32 2048) = chRowN N (k + 1) := by
  unfold chRowN
  simp only [List.setIfInBounds_toArray]
  congr 1
  rw [List.set_append_right _ _ (by simp), show N - k = (N - (k + 1)) + 1 by omega, List.replicate_succ, List.length_replicate, Nat.sub_self, List.set_cons_zero, List.replicate_succ' (n := k)]
  simp
theorem chRowN_get (N k : Nat) (j : Nat) (hj : j < N) : ∃ c, (chRowN N k)[j]? = some (.int .u32 c) := by
  unfold chRowN
  simp only [List.getElem?_toArray, List.getElem?_append, List.length_replicate, List.getElem?_replicate]
  split
  · exact ⟨2048, rfl⟩
  · exact ⟨0, by rw [if_pos (by omega)]⟩
theorem chRowN_full (N : Nat) : chRowN N N = Array.replicate N (.int .u32 2048) := by unfold chRowN; simp
def chRow (k : Nat) : Array Value := chRowN 400 k
theorem chRow_size (k : Nat) (h : k ≤ 400) : (chRow k).size = 400 := chRowN_size 400 k h
theorem chRow_zero : chRow 0 = Array.replicate 400 (.int .u32 0) := chRowN_zero 400
theorem chRow_set (k : Nat) (h : k < 400) : (chRow k).setIfInBounds k (.int .u32 2048) = chRow (k + 1) := chRowN_set 400 k h
theorem chRow_get (k : Nat) (j : Nat) (hj : j < 400) : ∃ c, (chRow k)[j]? = some (.int .u32 c) := chRowN_get 400 k j hj
def evens (N : Nat) : Array Value := Array.replicate N (.int .u32 2048)
theorem evens_size (N : Nat) : (evens N).size = N := by unfold evens; simp
theorem evens_one (N : Nat) : (evens N).all (·.oneCell') = true := by
  unfold evens
  rw [Array.all_eq_true_iff_forall_mem]
  intro x hx
  simp at hx
  rw [hx.2]; rfl
theorem evens_get (N k : Nat) (h : k < N) : (evens N)[k]? = some (.int .u32 2048) := by unfold evens; simp [h]
def chEven : Array Value := evens 400
theorem chRow_full : chRow 400 = chEven := chRowN_full 400

theorem below_setCells (B b : Nat) (hb : B ≤ b) : ∀ (vs : List Value) (o : Nat) {w v : World}, Below B w v → Below B w (v.setCells b o vs)
  | [], _, _, _, h => h
  | _ :: r, o, _, _, h => below_setCells B b hb r (o + 1) (h.setCell hb _)

set_option maxHeartbeats 1000000 in
set_option maxRecDepth 20000 in
theorem newChances (w : World) :
    Calls Tryz.prog 84 #[] w fun e w' => e = .returned (.agg chEven) ∧ Below w.heap.size w w' := by
  obtain ⟨hzero, hsize⟩ := zero_of_info chInfo
  have HSZ : Hid ((Tryz.prog.info? 145).map (·.size) = some 400) := hsize
  clear hsize
  go_enter Tryz.func84, Tryz.ntmps84
  go_wp2
  rw [← chRow_zero]
  obtain ⟨w1, hw1⟩ : ∃ w1, w1 = w.alloc (Obj.cells (chRow 0) 145) := ⟨_, rfl⟩
  rw [← hw1]
  have hs1 : w1.heap.size = w.heap.size + 1 := by rw [hw1]; simp
  have HW : Hid (w1 = w.alloc (Obj.cells (chRow 0) 145)) := hw1
  clear hw1 hzero
  rw [← hs1]
  go_loopw [3] (fun i wr => ∃ k : Nat, k ≤ 400 ∧ i = .int .i64 k ∧ wr = w1.alloc (Obj.cells (chRow k) 145)) (fun i _ => 400 - (intOf i).toNat)
  case atStart => exact ⟨0, by omega, rfl, rfl⟩
  case round =>
    obtain ⟨k, hk, rfl, rfl⟩ := hrel
    by_cases hlt : k < 400
    · have hlt' : (k : Int) < 400 := by omega
      obtain ⟨c0, hc⟩ := chRow_get k k hlt
      have hset := chRow_set k hlt
      go_wp2
      go_roundw
      case rel => exact ⟨k + 1, by omega, by go_num, rfl⟩
      case measure => simp [intOf]; omega
    · obtain rfl : k = 400 := by omega
      obtain ⟨W, hW⟩ : ∃ W, W = w1.alloc (Obj.cells (chRow 400) 145) := ⟨_, rfl⟩
      rw [← hW]
      have HR : Hid (W.rangeAt w1.heap.size 0 chEven.toList) := by
        intro j v hv
        rw [← chRow_full] at hv
        rw [hW, cell_of_row _ _ (0 + j) (chRow 400) 145 (0, 0) (heap_alloc_last w1 _)]
        simpa using hv
      have HT : Hid (W.there w.heap.size 0 400) := by
        intro j hj
        have hb : w.heap.size < w1.heap.size := by omega
        obtain ⟨c, hc⟩ := chRow_get 0 j hj
        have hcell : w1.cell? ⟨w.heap.size, 0 + j, none⟩ = some (.int .u32 c) := by
          rw [HW.out, cell_of_row _ _ (0 + j) (chRow 0) 145 (0, 0) (heap_alloc_last w _)]
          simpa using hc
        rw [hW]
        refine ⟨?_, ?_⟩
        · rw [World.cell?_alloc_lt _ _ _ hb, hcell]; rfl
        · rw [World.frozen?_alloc_past _ _ _ hb, HW.out]; simp
      have HB : Hid (Below w.heap.size w W) := by
        rw [hW, HW.out]
        exact (((Below.refl _ w).alloc (Nat.le_refl _) _).alloc (by simp) _)
      clear hW
      go_wp2
      refine wp_load_mid 145 (.tmp 1) rfl w1.heap.size 0 rfl chEven.toList _ HR.out Tryz.underlying145 rfl ?hsz ?_
      case hsz => rw [HSZ.out]; simp only [Array.length_toList]; rw [chEven, evens_size]
      rename_i hK
      apply hK
      clear hK
      rw [Array.toArray_toList]
      have hcs : chEven.size = 400 := evens_size 400
      go_wp2
      have hsc := run_storeCells_cells (P := Tryz.prog) w.heap.size 0 chEven.toList 0 W (fun j hj => by simpa using (HT.out j (by rw [Array.length_toList, chEven, evens_size] at hj; exact hj)).1) (fun j hj => by simpa using (HT.out j (by rw [Array.length_toList, chEven, evens_size] at hj; exact hj)).2)
        (fun v hv => (Array.all_eq_true_iff_forall_mem.1 (evens_one 400)) v (Array.mem_toList_iff.1 hv))
      simp only [Nat.add_zero] at hsc
      simp only [hsc, Result.andThen]
      rw [Oper.upon_skip]
      go_wp2
      (try simp only [Exit.inBlock, Exit.then])
      have hld := run_loadVar_mid (P := Tryz.prog) (W.setCells w.heap.size 0 chEven.toList) w.heap.size 0 145 chEven.toList _ (World.rangeAt_setCells_same _ _ _ _ (by rw [Array.length_toList, chEven, evens_size]; exact HT.out)) Tryz.underlying145 rfl (by rw [HSZ.out]; simp only [Array.length_toList]; rw [chEven, evens_size])
      refine bodyPost_ret (v := .agg chEven) ?_ rfl ⟨rfl, below_setCells _ _ (Nat.le_refl _) _ _ HB.out⟩
      rw [Array.toArray_toList] at hld
      simp [results, Tryz.results84, Act.put, asAddr, hld]

end Go.Proofs.YtekfbphnoibnjaaGreatDoor
