/-
  The caller looks at all that is marked: it is as it was marked.
-/
import Derived.Test.YtbabcphjddchkaaGreatDoorSettle
import Derived.Deep.WholeRow
namespace Go.Proofs.YtbabcphjddchkaaGreatDoor
open Go.RowKit

theorem flat_get {α : Type} (f : α → List Value) (m : Nat) (hf : ∀ a, (f a).length = m) : ∀ (l : List α) (k : Nat) (a : α), l[k]? = some a → ∀ j, j < m → (l.flatMap f)[k * m + j]? = (f a)[j]?
  | [], k, a, h, _, _ => by simp at h
  | b :: l, 0, a, h, j, hj => by
    simp at h
    subst h
    rw [List.flatMap_cons, Nat.zero_mul, Nat.zero_add, List.getElem?_append_left (by rw [hf]; exact hj)]
  | b :: l, k + 1, a, h, j, hj => by
    rw [List.flatMap_cons, List.getElem?_append_right (by rw [hf]; rw [Nat.succ_mul]; omega), hf, show (k + 1) * m + j - m = k * m + j by rw [Nat.succ_mul]; omega]
    exact flat_get f m hf l k a (by simpa using h) j hj
theorem ibCells_get (l : List IntB) (k : Nat) (x : IntB) (h : l[k]? = some x) (j : Nat) (hj : j < 5) : (ibCells l)[k * 5 + j]? = x.cells[j]? := flat_get IntB.cells 5 (fun _ => rfl) l k x h j hj
theorem bbCells_get (l : List BitB) (k : Nat) (x : BitB) (h : l[k]? = some x) (j : Nat) (hj : j < 3) : (bbCells l)[k * 3 + j]? = x.cells[j]? := flat_get BitB.cells 3 (fun _ => rfl) l k x h j hj

theorem fill_below {w w' : World} {v : Value} {n : Nat} {us : List Value} (h : Fill w v n us) (f : Below w.heap.size w w') : Fill w' v n us := h.frm (Frm.of_below (S := fun _ => False) f) (fun _ _ e => e)

set_option maxHeartbeats 4000000 in
set_option maxRecDepth 20000 in
theorem looks_st (w wH wr0 : World) (p M : Nat) (own : Nat → Nat) (vi vb vw ve : Value) (ibs : List IntB) (bbs : List BitB) (wts : List Wt) (h : St w wH wr0 p M own vi vb vw ve ibs bbs wts 0) (hib : ibs.length ≤ 100000000) (hbb : bbs.length ≤ 100000000) :
    Calls Tryz.prog 9 #[.pointer (some ⟨p, 0, none⟩)] wr0 fun e w' => e = .returned (.bool true) ∧ Below wr0.heap.size wr0 w' := by
  obtain ⟨ai, ci, hvi, hgi⟩ := owns_shape h.oi
  obtain ⟨ab, cb, hvb, hgb⟩ := owns_shape h.ob
  obtain ⟨Li, hLi⟩ : ∃ L, L = ibs.length := ⟨_, rfl⟩
  obtain ⟨Lb, hLb⟩ : ∃ L, L = bbs.length := ⟨_, rfl⟩
  have i1 := h.bk.cs 0 vi rfl
  rw [hvi] at i1
  rw [← hLi] at hvi hgi hib i1
  rw [← hLb] at hvb hgb hbb
  have HST : Hid (St w wH wr0 p M own vi vb vw ve ibs bbs wts 0) := h
  have HLi : Hid (Li = ibs.length) := hLi
  have HLb : Hid (Lb = bbs.length) := hLb
  have HVI : Hid (vi = .slice ai Li ci) := hvi
  have HVB : Hid (vb = .slice ab Lb cb) := hvb
  clear h hvi hvb hLi hLb
  go_enter Tryz.func9, Tryz.ntmps9
  go_wp2
  clear i1
  go_loopw [3, 4] (fun ok i wr => ok = .bool true ∧ ∃ k : Nat, k ≤ Li ∧ i = .int .i64 k ∧ Below wr0.heap.size wr0 wr) (fun _ i _ => Li - (intOf i).toNat)
  case atStart => exact ⟨rfl, 0, by omega, rfl, Below.refl _ _⟩
  case round =>
    obtain ⟨rfl, k, hk, rfl, hbr⟩ := hrel
    have hst := HST.out.below hbr
    have i1 := hst.bk.cs 0 vi rfl
    rw [HVI.out] at i1
    by_cases hlt : k < Li
    · have hlt' : (k : Int) < (Li : Int) := by omega
      obtain ⟨g, rfl⟩ : ∃ g, ai = some ⟨g, 0, none⟩ := by
        rcases hgi with h0 | h0
        · omega
        · exact h0
      obtain ⟨x, hx⟩ : ∃ x, ibs[k]? = some x := ⟨_, List.getElem?_eq_getElem (by have := HLi.out; omega)⟩
      have hoi := hst.oi
      rw [HVI.out, ← HLi.out] at hoi
      have hc : ∀ j, j < 5 → wr.cell? ⟨g, k * 5 + j, none⟩ = x.cells[j]? := fun j hj => by
        rw [World.ownsRow.cellAt hoi (k * 5 + j) (by omega), ibCells_get ibs k x hx j hj]
      have c0 : wr.cell? ⟨g, k * 5, none⟩ = some (.int .i64 x.mark) := hc 0 (by decide)
      have c1 : wr.cell? ⟨g, k * 5 + 1, none⟩ = some x.l := hc 1 (by decide)
      have c2 : wr.cell? ⟨g, k * 5 + 2, none⟩ = some x.g1 := hc 2 (by decide)
      have c3 : wr.cell? ⟨g, k * 5 + 3, none⟩ = some x.g2 := hc 3 (by decide)
      have c4 : wr.cell? ⟨g, k * 5 + 4, none⟩ = some x.g3 := hc 4 (by decide)
      have hxo := hst.ib x (List.mem_of_getElem? hx)
      obtain ⟨a0, d0, e0, _⟩ := hxo.fl
      obtain ⟨a1, d1, e1, _⟩ := hxo.f1
      obtain ⟨a2, d2, e2, _⟩ := hxo.f2
      obtain ⟨a3, d3, e3, _⟩ := hxo.f3
      rw [e0] at c1
      rw [e1] at c2
      rw [e2] at c3
      rw [e3] at c4
      obtain ⟨wa, hwa⟩ : ∃ wa, wa = wr.alloc (.cells #[.int .i64 x.mark, .slice a0 x.n d0, .slice a1 (x.n + 1) d1, .slice a2 (x.n + 2) d2, .slice a3 (x.n + 3) d3] 59) := ⟨_, rfl⟩
      have hba : Below wr.heap.size wr wa := by rw [hwa]; exact (Below.refl _ _).alloc (Nat.le_refl _) _
      have n9 := hxo.n9
      have F0 : Hid (Fill wa (.slice a0 x.n d0) x.n [.int .i64 x.mark]) := by rw [← e0]; exact fill_below hxo.fl hba
      have F1 : Hid (Fill wa (.slice a1 (x.n + 1) d1) (x.n + 1) [.int .i64 x.mark]) := by rw [← e1]; exact fill_below hxo.f1 hba
      have F2 : Hid (Fill wa (.slice a2 (x.n + 2) d2) (x.n + 2) [.int .i64 x.mark]) := by rw [← e2]; exact fill_below hxo.f2 hba
      have F3 : Hid (Fill wa (.slice a3 (x.n + 3) d3) (x.n + 3) [.int .i64 x.mark]) := by rw [← e3]; exact fill_below hxo.f3 hba
      have HBA : Hid (Below wr0.heap.size wr0 wa) := hbr.trans (hba.mono hbr.size)
      have HWA : Hid (wa = wr.alloc (.cells #[.int .i64 x.mark, .slice a0 x.n d0, .slice a1 (x.n + 1) d1, .slice a2 (x.n + 2) d2, .slice a3 (x.n + 3) d3] 59)) := hwa
      have T1 : Hid True := trivial
      have T2 : Hid True := trivial
      have T3 : Hid True := trivial
      clear hoi hc hxo hst hx hba hwa e0 e1 e2 e3
      go_wp2_with (first
        | (clear T1; go_at_call 21; rw [← HWA.out]; refine (allInts_any wa _ x.n x.mark F0.out (by omega)).mono ?_; rintro e w2 ⟨rfl, hw⟩; rw [hw, HWA.out]; clear hw)
        | (clear T2; go_at_call 21; rw [← HWA.out]; refine (allInts_any wa _ (x.n + 1) x.mark F1.out (by omega)).mono ?_; rintro e w2 ⟨rfl, hw⟩; rw [hw, HWA.out]; clear hw)
        | (clear T3; go_at_call 21; rw [← HWA.out]; refine (allInts_any wa _ (x.n + 2) x.mark F2.out (by omega)).mono ?_; rintro e w2 ⟨rfl, hw⟩; rw [hw, HWA.out]; clear hw)
        | (go_at_call 21; rw [← HWA.out]; refine (allInts_any wa _ (x.n + 3) x.mark F3.out (by omega)).mono ?_; rintro e w2 ⟨rfl, hw⟩; rw [hw, HWA.out]; clear hw))
      go_roundw
      case rel => exact ⟨rfl, k + 1, by omega, by go_num, by rw [← HWA.out]; exact HBA.out⟩
      case measure => simp [intOf]; omega
    · have hlt' : ¬ (k : Int) < (Li : Int) := by omega
      have i2 := hst.bk.cs 1 vb rfl
      rw [HVB.out] at i2
      clear hst
      obtain ⟨W1, rfl⟩ : ∃ W1, W1 = wr := ⟨_, rfl⟩
      have HB1 : Hid (Below wr0.heap.size wr0 W1) := hbr
      clear hbr
      go_wp2
      clear i1 i2
      go_loopw [3, 10] (fun ok i wr => ok = .bool true ∧ ∃ k : Nat, k ≤ Lb ∧ i = .int .i64 k ∧ Below wr0.heap.size wr0 wr) (fun _ i _ => Lb - (intOf i).toNat)
      case atStart => exact ⟨rfl, 0, by omega, rfl, HB1.out⟩
      case round =>
        clear HB1
        obtain ⟨rfl, k2, hk2, rfl, hbr⟩ := hrel
        have hst := HST.out.below hbr
        have i2 := hst.bk.cs 1 vb rfl
        rw [HVB.out] at i2
        by_cases hlt2 : k2 < Lb
        · have hlt2' : (k2 : Int) < (Lb : Int) := by omega
          obtain ⟨g, rfl⟩ : ∃ g, ab = some ⟨g, 0, none⟩ := by
            rcases hgb with h0 | h0
            · omega
            · exact h0
          obtain ⟨x, hx⟩ : ∃ x, bbs[k2]? = some x := ⟨_, List.getElem?_eq_getElem (by have := HLb.out; omega)⟩
          have hob := hst.ob
          rw [HVB.out, ← HLb.out] at hob
          have hc : ∀ j, j < 3 → wr.cell? ⟨g, k2 * 3 + j, none⟩ = x.cells[j]? := fun j hj => by
            rw [World.ownsRow.cellAt hob (k2 * 3 + j) (by omega), bbCells_get bbs k2 x hx j hj]
          have c0 : wr.cell? ⟨g, k2 * 3, none⟩ = some (.int .i64 x.mark) := hc 0 (by decide)
          have c1 : wr.cell? ⟨g, k2 * 3 + 1, none⟩ = some (.int .i64 0) := hc 1 (by decide)
          have hxo := hst.bb x (List.mem_of_getElem? hx)
          obtain ⟨al, cl, hel, hfl⟩ := hxo.fl
          have c2 : wr.cell? ⟨g, k2 * 3 + 2, none⟩ = some (.slice al x.n cl) := by rw [← hel]; exact hc 2 (by decide)
          have n9 := hxo.n9
          have HFL : Hid (x.n = 0 ∨ ∃ b off, al = some ⟨b, off, none⟩ ∧ ∀ j, j < x.n → ∀ t u, [Value.int .i64 x.mark, .int .i64 0][t]? = some u → wr.cell? ⟨b, off + j * [Value.int .i64 x.mark, .int .i64 0].length + t, none⟩ = some u) := hfl
          obtain ⟨wa, hwa⟩ : ∃ wa, wa = wr.alloc (.cells #[.int .i64 x.mark, .int .i64 0, .slice al x.n cl] 62) := ⟨_, rfl⟩
          have hba : Below wr.heap.size wr wa := by rw [hwa]; exact (Below.refl _ _).alloc (Nat.le_refl _) _
          have HBA : Hid (Below wr0.heap.size wr0 wa) := hbr.trans (hba.mono hbr.size)
          have HWA : Hid (wa = wr.alloc (.cells #[.int .i64 x.mark, .int .i64 0, .slice al x.n cl] 62)) := hwa
          have HCA : Hid (∀ b off j v, wr.cell? ⟨b, off, none⟩ = some v → (wa.drewN j).cell? ⟨b, off, none⟩ = some v) := fun b off j v hv => (hba.cell (p := ⟨b, off, none⟩) (World.block_lt_of_cell? wr _ hv)).trans hv
          have hsw := hba.size
          have hwg : wa.heap[wr.heap.size]? = some (.cells #[.int .i64 x.mark, .int .i64 0, .slice al x.n cl] 62 (0, 0)) := by rw [hwa]; exact heap_alloc_last wr _
          obtain ⟨gb, hgbe⟩ : ∃ gb, gb = wr.heap.size := ⟨_, rfl⟩
          rw [← hgbe] at hwg
          have HGB : Hid (gb = wr.heap.size) := hgbe
          have HWG : Hid (wa.heap[gb]? = some (.cells #[.int .i64 x.mark, .int .i64 0, .slice al x.n cl] 62 (0, 0))) := hwg
          obtain ⟨N, hN⟩ : ∃ N, N = x.n := ⟨_, rfl⟩
          obtain ⟨MK, hMK⟩ : ∃ MK, MK = x.mark := ⟨_, rfl⟩
          rw [← hN, ← hMK] at HWA HWG HFL
          rw [← hN] at c2 n9
          rw [← hMK] at c0
          obtain ⟨W4, rfl⟩ : ∃ W4, W4 = wr := ⟨_, rfl⟩
          clear hob hc hxo hst hx hba hwa hwg hgbe hfl hel hN hMK
          go_wp2
          rw [← HWA.out, ← HGB.out]
          clear c0 c1 c2 i2
          go_loopw [3, 12] (fun ok i wd => ok = .bool true ∧ ∃ j : Nat, j ≤ N ∧ i = .int .i64 j ∧ ∃ m, wd = wa.drewN m) (fun _ i _ => N - (intOf i).toNat)
          case atStart => exact ⟨rfl, 0, by omega, rfl, 0, rfl⟩
          case round =>
            obtain ⟨rfl, j, hj, rfl, m, hwd⟩ := hrel
            obtain ⟨W5, rfl⟩ : ∃ W5, W5 = wr := ⟨_, rfl⟩
            have hgc : ∀ t v, #[Value.int .i64 MK, .int .i64 0, .slice al N cl][t]? = some v → W5.cell? ⟨gb, t, none⟩ = some v := fun t v hv => by
              rw [hwd]
              show wa.cell? ⟨gb, t, none⟩ = some v
              rw [cell_of_row _ _ t _ _ _ HWG.out]; exact hv
            have b0 := hgc 0 _ rfl
            have b1 := hgc 1 _ rfl
            have b2 := hgc 2 _ rfl
            clear hgc
            by_cases hjn : j < N
            · have hjn' : (j : Int) < (N : Int) := by omega
              obtain ⟨b, off, rfl, hcl⟩ : ∃ b off, al = some ⟨b, off, none⟩ ∧ ∀ j, j < N → ∀ t u, [Value.int .i64 MK, .int .i64 0][t]? = some u → W4.cell? ⟨b, off + j * [Value.int .i64 MK, .int .i64 0].length + t, none⟩ = some u := by
                rcases HFL.out with h0 | h0
                · omega
                · exact h0
              have k0 := HCA.out b (off + j * 2) m _ (hcl j hjn 0 _ rfl)
              rw [← hwd] at k0
              have k1 := HCA.out b (off + j * 2 + 1) m _ (hcl j hjn 1 _ rfl)
              rw [← hwd] at k1
              have HWD : Hid (W5 = wa.drewN m) := hwd
              clear hwd
              clear hcl
              go_wp2
              go_quiet (fail)
              go_wp2
              go_roundw
              case rel => exact ⟨rfl, j + 1, by omega, by go_num, m + nq, by rw [HWD.out, World.drewN_drewN]⟩
              case measure => simp [intOf]; omega
            · have hjn' : ¬ (j : Int) < (N : Int) := by omega
              have HWD : Hid (W5 = wa.drewN m) := hwd
              clear hwd
              go_wp2
              go_roundw
              case rel => exact ⟨rfl, k2 + 1, by omega, by go_num, by rw [HWD.out]; exact below_drewN HBA.out _⟩
              case measure => simp [intOf]; omega
        · have hlt2' : ¬ (k2 : Int) < (Lb : Int) := by omega
          have i3 := hst.bk.cs 2 (.slice none 0 0) rfl
          have i4 := hst.bk.cs 3 (.slice none 0 0) rfl
          clear hst
          obtain ⟨W2, rfl⟩ : ∃ W2, W2 = wr := ⟨_, rfl⟩
          go_wp2
          go_loop [3, 13] (fun ok i => ok = .bool true ∧ i = .int .i64 0) (fun _ _ => 0)
          case atStart => exact ⟨rfl, rfl⟩
          case round =>
            obtain ⟨rfl, rfl⟩ := hrel
            go_wp2
            go_loop [3, 19] (fun ok i => ok = .bool true ∧ i = .int .i64 0) (fun _ _ => 0)
            case atStart => exact ⟨rfl, rfl⟩
            case round =>
              obtain ⟨rfl, rfl⟩ := hrel
              go_wp2
              go_ret
              exact ⟨rfl, hbr⟩

end Go.Proofs.YtbabcphjddchkaaGreatDoor
