/-
  The number of what is wrong within a line.
-/
import Derived.Test.YtbabcphjddchkaaGreatDoorIs
namespace Go.Proofs.YtbabcphjddchkaaGreatDoor
open Go.RowKit

theorem errV5 (a0 a1 a2 : Addr) : errV a0 a1 a2 5 = .iface 169 (.pointer (some a0)) := by unfold errV; rw [if_neg (by decide), if_pos rfl]
theorem errV6 (a0 a1 a2 : Addr) : errV a0 a1 a2 6 = .iface 169 (.pointer (some a1)) := by unfold errV; rw [if_neg (by decide), if_neg (by decide), if_pos rfl]
theorem errV7 (a0 a1 a2 : Addr) : errV a0 a1 a2 7 = .iface 169 (.pointer (some a2)) := by unfold errV; rw [if_neg (by decide), if_neg (by decide), if_neg (by decide)]
theorem errV0 (a0 a1 a2 : Addr) : errV a0 a1 a2 0 = .nilIface := by unfold errV; rw [if_pos rfl]

set_option maxHeartbeats 1000000 in
theorem pErrno5 (w : World) (a0 a1 a2 : Addr) (E : Errs w a0 a1 a2) :
    Calls Tryz.prog 64 #[.iface 169 (.pointer (some a0))] w fun x w' => x = .returned (.int .i64 5) ∧ w' = w := by
  have v0 := E.v0
  clear E
  go_enter Tryz.func64, Tryz.ntmps64
  go_wp2_with (go_at_call 78; refine (is_same a0 _).mono ?_; rintro e w' ⟨rfl, rfl⟩)
  go_ret
  exact ⟨rfl, rfl⟩
set_option maxHeartbeats 1000000 in
theorem pErrno6 (w : World) (a0 a1 a2 : Addr) (E : Errs w a0 a1 a2) :
    Calls Tryz.prog 64 #[.iface 169 (.pointer (some a1))] w fun x w' => x = .returned (.int .i64 6) ∧ w' = w := by
  obtain ⟨v0, v1, v2, ⟨c0, t0, h0⟩, ⟨c1, t1, h1⟩, ⟨c2, t2, h2⟩, n01, n02, n12⟩ := E
  have H0 : Hid (w.heap[a0.block]? = some (.cells c0 t0 (0, 0))) := h0
  have H1 : Hid (w.heap[a1.block]? = some (.cells c1 t1 (0, 0))) := h1
  have HN : Hid (a1 ≠ a0) := fun h => n01 h.symm
  have T1 : Hid True := trivial
  clear v2 h0 h1 h2 n01 n02 n12
  go_enter Tryz.func64, Tryz.ntmps64
  go_wp2_with (first
    | (clear T1; go_at_call 78; refine (is_other a1 a0 c1 c0 t1 t0 w HN.out H1.out H0.out).mono ?_; rintro e w' ⟨rfl, rfl⟩)
    | (go_at_call 78; refine (is_same a1 _).mono ?_; rintro e w' ⟨rfl, rfl⟩))
  go_ret
  exact ⟨rfl, rfl⟩
set_option maxHeartbeats 1000000 in
theorem pErrno7 (w : World) (a0 a1 a2 : Addr) (E : Errs w a0 a1 a2) :
    Calls Tryz.prog 64 #[.iface 169 (.pointer (some a2))] w fun x w' => x = .returned (.int .i64 7) ∧ w' = w := by
  obtain ⟨v0, v1, v2, ⟨c0, t0, h0⟩, ⟨c1, t1, h1⟩, ⟨c2, t2, h2⟩, n01, n02, n12⟩ := E
  have H0 : Hid (w.heap[a0.block]? = some (.cells c0 t0 (0, 0))) := h0
  have H1 : Hid (w.heap[a1.block]? = some (.cells c1 t1 (0, 0))) := h1
  have H2 : Hid (w.heap[a2.block]? = some (.cells c2 t2 (0, 0))) := h2
  have HN0 : Hid (a2 ≠ a0) := fun h => n02 h.symm
  have HN1 : Hid (a2 ≠ a1) := fun h => n12 h.symm
  have T1 : Hid True := trivial
  clear v2 h0 h1 h2 n01 n02 n12
  go_enter Tryz.func64, Tryz.ntmps64
  go_wp2_with (first
    | (clear T1; go_at_call 78; refine (is_other a2 a0 c2 c0 t2 t0 w HN0.out H2.out H0.out).mono ?_; rintro e w' ⟨rfl, hw⟩; rw [hw]; clear hw)
    | (go_at_call 78; refine (is_other a2 a1 c2 c1 t2 t1 w HN1.out H2.out H1.out).mono ?_; rintro e w' ⟨rfl, hw⟩; rw [hw]; clear hw))
  go_ret
  exact ⟨rfl, rfl⟩

/-- The number of what is wrong within a line. -/
theorem pErrno (w : World) (a0 a1 a2 : Addr) (e : Int) (E : Errs w a0 a1 a2) (he : e = 5 ∨ e = 6 ∨ e = 7) :
    Calls Tryz.prog 64 #[errV a0 a1 a2 e] w fun x w' => x = .returned (.int .i64 e) ∧ w' = w := by
  rcases he with rfl | rfl | rfl
  · rw [errV5]; exact pErrno5 w a0 a1 a2 E
  · rw [errV6]; exact pErrno6 w a0 a1 a2 E
  · rw [errV7]; exact pErrno7 w a0 a1 a2 E

end Go.Proofs.YtbabcphjddchkaaGreatDoor
