/-
  A list of numbers is lent, with room behind it.
-/
import Derived.Test.YtekfbphnoibnjaaGreatDoorIntsFn
import Derived.Laws.CopyOwn
import Derived.Lib.SliceRun
namespace Go.Proofs.YtekfbphnoibnjaaGreatDoor
open Go.RowKit

theorem one_int : (Tryz.prog.info? 3).map (·.size) = some 1 := by kernel_rfl

theorem owns_heap {w : World} {B g n : Nat} {xs : List Value} {e : TypeId} (h : w.ownsRow B e 1 (.slice (some ⟨g, 0, none⟩) n n) n xs) : w.heap[g]? = some (.cells xs.toArray e (0, 0)) := by
  rcases h.2 with ⟨h', _⟩ | ⟨g', cap', cur, h', hb, hg, hnc, hcm, hcs, htake⟩
  · simp at h'
  · simp only [Value.slice.injEq, Option.some.injEq, Addr.mk.injEq, and_true, true_and] at h'
    obtain ⟨rfl, rfl⟩ := h'
    rw [List.take_of_length_le (by rw [Array.length_toList, hcs]; exact Nat.le_refl _)] at htake
    rw [← htake]
    exact hg
theorem heap_owns {w : World} {B g n : Nat} {xs : List Value} {e : TypeId} (h : w.heap[g]? = some (.cells xs.toArray e (0, 0))) (hl : xs.length = n) (hb : B ≤ g) (hm : n ≤ maxLen) : w.ownsRow B e 1 (.slice (some ⟨g, 0, none⟩) n n) n xs :=
  ⟨by omega, .inr ⟨g, n, xs.toArray, rfl, hb, h, Nat.le_refl _, hm, by simp [hl], by simp [List.take_of_length_le, hl]⟩⟩

/-- The first k of the eight behind zs are 77 already. -/
def roomRow (zs : List Int) (k : Nat) : List Int := zs ++ (List.replicate k 77 ++ List.replicate (8 - k) 0)
theorem roomRow_len (zs : List Int) (k : Nat) (h : k ≤ 8) : (roomRow zs k).length = zs.length + 8 := by simp [roomRow]; omega
theorem roomRow_set (zs : List Int) (k : Nat) (h : k < 8) : (roomRow zs k).set (zs.length + k) 77 = roomRow zs (k + 1) := by
  unfold roomRow
  rw [List.set_append_right _ _ (by omega), show zs.length + k - zs.length = k by omega, List.set_append_right _ _ (by simp), List.length_replicate, Nat.sub_self, show 8 - k = (8 - (k + 1)) + 1 by omega, List.replicate_succ, List.set_cons_zero, List.replicate_succ' (n := k)]
  simp
theorem splice_room (zs : List Int) (n : Nat) (h : zs.length = n) : splice (ints (List.replicate (n + 8) 0)) 0 (ints zs) = ints (roomRow zs 0) := by
  unfold splice roomRow
  have h1 : (ints zs).length = n := by rw [ints_length, h]
  rw [h1]
  simp [ints, List.drop_replicate]

theorem oneCell_ints (zs : List Int) : ∀ u ∈ ints zs, u.oneCell' = true := by
  intro u hu
  obtain ⟨z, _, rfl⟩ := List.mem_map.1 hu
  rfl

theorem nilInts (w : World) (a : Option Addr) (n c n' c' : Nat) : (binOp .eql 52 (.slice a n c) (.slice none n' c')).run Tryz.prog w = .ok (.bool a.isNone) w := Lib.run_eql_slice_nil w _ _ a n c n' c' Tryz.underlying52

set_option maxHeartbeats 400000 in
theorem lentInts_nil (w : World) (len cap : Nat) : Calls Tryz.prog 64 #[.slice none len cap] w fun x w' => x = .returned (.slice none 0 0) ∧ w' = w := by
  have qn := nilInts
  go_enter Tryz.func64, Tryz.ntmps64
  go_wp2
  go_ret
  exact ⟨rfl, rfl⟩

def LentPos (w1 : World) (a : Addr) (zs : List Int) (g : Nat) : Prop := 0 < (ints zs).length → (some (⟨g, 0, none⟩ : Addr)) = some ⟨g, 0, none⟩ ∧ ∃ ad, some a = some ad ∧ ∀ j v, (ints zs)[j]? = some v → w1.cell? (ad.add j) = some v
theorem lent_pos {w1 : World} {a : Addr} {n : Nat} {zs : List Int} (hz : IntsIn w1 (some a) n zs) (g : Nat) : LentPos w1 a zs g := by
  intro h0
  rw [ints_length] at h0
  refine ⟨rfl, a, rfl, fun j v hv => ?_⟩
  have hlen := hz.1
  have hj : j < zs.length := by
    rcases Nat.lt_or_ge j zs.length with h' | h'
    · exact h'
    · rw [List.getElem?_eq_none (by rw [ints_length]; exact h')] at hv; cases hv
  rw [ints_get _ _ hj] at hv
  rcases hz.2 with h2 | ⟨b, off, ha, _, hc⟩
  · omega
  · injection ha with ha
    subst ha
    have := hc j (by omega)
    rw [show (⟨b, off, none⟩ : Addr).add j = ⟨b, off + j, none⟩ by unfold Addr.add; split <;> simp_all]
    rw [this, ← hv]

set_option maxHeartbeats 400000 in
set_option maxRecDepth 20000 in
theorem lentInts_some (w : World) (a : Addr) (n cap : Nat) (zs : List Int) (hz : IntsIn w (some a) n zs) (hn : n ≤ 1000000000) :
    Calls Tryz.prog 64 #[.slice (some a) n cap] w fun x w' => x = .returned (.slice (some ⟨w.heap.size, 0, none⟩) n (n + 8)) ∧ Nums w' w.heap.size w.heap.size (n + 8) (roomRow zs 8) ∧ Below w.heap.size w w' := by
  obtain ⟨i0, hi, hz0, hz1, hz2⟩ := info_parts infoI64
  have hlen := hz.1
  have qn := nilInts
  go_enter Tryz.func64, Tryz.ntmps64
  go_wp2_with (at_make; refine wpList_make_full _ rfl _ _ 52 rfl w.heap.size 3 i0 (.int .i64 0) 1 Tryz.underlying52 hi hz0 hz1 _ _ _ _ (n + 8) rfl rfl (by omega) (by omega) (by rw [hz2]; omega) (by unfold maxLen; omega) (Nat.le_refl _) ?_)
  intro w1 hown hgrow
  have hb : Below w.heap.size w w1 := (Below.refl _ _).grown hgrow (Nat.le_refl _) (fun _ h => by cases h)
  have hz1' : IntsIn w1 (some a) n zs := hz.below hb
  rw [made_ints (n + 8)] at hown
  have hheap := owns_heap hown
  have hmin : Nat.min n (n + 8) = n := Nat.min_eq_left (by omega)
  have HP : LentPos w1 a zs w.heap.size := lent_pos hz1' w.heap.size
  have HH : Hid (w1.heap[w.heap.size]? = some (.cells (ints (List.replicate (n + 8) 0)).toArray 3 (0, 0))) := hheap
  have hil : (ints zs).length = n := by rw [ints_length, hlen]
  have HL : Hid ((ints zs).length = Nat.min n (n + 8)) := by rw [hmin]; exact hil
  clear hown hgrow hz1' hheap hmin hil hz
  go_wp2_with (refine wpList_copy_splice rfl (.tmp 13) (.tmp 14) 52 52 rfl 3 Tryz.underlying52 one_int _ _ _ _ _ _ rfl rfl w.heap.size 0 (ints (List.replicate (n + 8) 0)) 3 HH.out (ints zs) HL.out HP ?b1 (oneCell_ints zs) w.heap.size w hb (Nat.le_refl _) ?_)
  case b1 => rw [ints_length, ints_length, List.length_replicate]; omega
  intro w2 HG2 hb2
  have HN : Hid (Nums w2 w.heap.size w.heap.size (n + 8) (roomRow zs 0)) := by
    have h2 := HG2.out
    rw [splice_room zs n hlen] at h2
    exact heap_owns h2 (by rw [ints_length, roomRow_len _ _ (by decide), hlen]) (Nat.le_refl _) (by unfold maxLen; omega)
  clear HG2 HP HH HL hb
  go_wp2
  go_loopw [5] (fun i wr => ∃ k : Nat, k ≤ 8 ∧ i = .int .i64 ((n + k : Nat) : Int) ∧ Nums wr w.heap.size w.heap.size (n + 8) (roomRow zs k) ∧ Below w.heap.size w wr) (fun i _ => n + 8 - (intOf i).toNat)
  case atStart => exact ⟨0, by omega, rfl, HN.out, hb2⟩
  case round =>
    obtain ⟨k, hk, rfl, hnr, hbr⟩ := hrel
    by_cases hlt : k < 8
    · have hlt' : ((n + k : Nat) : Int) < (n : Int) + 8 := by omega
      have hlt2 : ((n + k : Nat) : Int) < ((n + 8 : Nat) : Int) := by omega
      obtain ⟨c0, hc⟩ : ∃ c, wr.cell? ⟨w.heap.size, n + k, none⟩ = some (.int .i64 c) := ⟨_, hnr.cell (n + k) (by omega)⟩
      have hf := hnr.frozen (n + k)
      have HS : Hid (Nums (wr.setCell ⟨w.heap.size, n + k, none⟩ (.int .i64 77)) w.heap.size w.heap.size (n + 8) (roomRow zs (k + 1))) := by
        have hs := hnr.store (n + k) 77
        rw [← hlen, roomRow_set zs k hlt, hlen] at hs
        exact hs
      have HNR : Hid (Nums wr w.heap.size w.heap.size (n + 8) (roomRow zs k)) := hnr
      clear hnr
      go_wp2
      go_roundw
      case rel => exact ⟨k + 1, by omega, by go_num, HS.out, hbr.setCell (Nat.le_refl _) _⟩
      case measure => simp [intOf]; omega
    · obtain rfl : k = 8 := by omega
      have hlt' : ¬ ((n + 8 : Nat) : Int) < (n : Int) + 8 := by omega
      go_wp2
      go_ret
      exact ⟨rfl, hnr, hbr⟩

end Go.Proofs.YtekfbphnoibnjaaGreatDoor
