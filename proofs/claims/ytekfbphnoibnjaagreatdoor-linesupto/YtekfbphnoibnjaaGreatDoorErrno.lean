/-
  The number of what is wrong with bytes.
-/
import Derived.Test.YtekfbphnoibnjaaGreatDoorIs
namespace Go.Proofs.YtekfbphnoibnjaaGreatDoor
open Go.RowKit

theorem errV5 (a0 a1 a2 : Addr) : errV a0 a1 a2 5 = .iface 278 (.pointer (some a0)) := by unfold errV; rw [if_neg (by decide), if_pos rfl]
theorem errV6 (a0 a1 a2 : Addr) : errV a0 a1 a2 6 = .iface 278 (.pointer (some a1)) := by unfold errV; rw [if_neg (by decide), if_neg (by decide), if_pos rfl]
theorem errV7 (a0 a1 a2 : Addr) : errV a0 a1 a2 7 = .iface 278 (.pointer (some a2)) := by unfold errV; rw [if_neg (by decide), if_neg (by decide), if_neg (by decide)]
theorem errV0 (a0 a1 a2 : Addr) : errV a0 a1 a2 0 = .nilIface := by unfold errV; rw [if_pos rfl]

/-- errors.Is of two sentinels. -/
theorem is_snt {w : World} {A : Nat → Addr} (E : ErrsA w A) (x y : Nat × Nat) (hx : x ∈ sntG) (hy : y ∈ sntG) (hn : x.1 ≠ y.1) :
    Calls Tryz.prog 49 #[.iface 278 (.pointer (some (A x.1))), .iface 278 (.pointer (some (A y.1)))] w fun e w' => e = .returned (.bool false) ∧ w' = w := by
  obtain ⟨c, t, h⟩ := E.h x hx
  obtain ⟨c', t', h'⟩ := E.h y hy
  exact is_other _ _ c c' t t' w (E.n x hx y hy hn) h h'

set_option maxHeartbeats 1000000 in
theorem pErrno4 (w : World) (A : Nat → Addr) (E : ErrsA w A) :
    Calls Tryz.prog 23 #[.iface 278 (.pointer (some (A 4)))] w fun x w' => x = .returned (.int .i64 4) ∧ w' = w := by
  have v0 := E.v (4, 0) (by decide)
  clear E
  dsimp only at v0
  go_enter Tryz.func23, Tryz.ntmps23
  go_wp2_with (first
    | (go_at_call 49; refine (is_same (A 4) _).mono ?_; rintro e w' ⟨rfl, hw⟩; rw [hw]; clear hw))
  go_ret
  exact ⟨rfl, rfl⟩
set_option maxHeartbeats 1000000 in
theorem pErrno5 (w : World) (A : Nat → Addr) (E : ErrsA w A) :
    Calls Tryz.prog 23 #[.iface 278 (.pointer (some (A 5)))] w fun x w' => x = .returned (.int .i64 5) ∧ w' = w := by
  have v0 := E.v (4, 0) (by decide)
  have c0 := is_snt E (5, 1) (4, 0) (by decide) (by decide) (by decide)
  have T0 : Hid True := trivial
  have v1 := E.v (5, 1) (by decide)
  clear E
  dsimp only at v0 v1 c0
  go_enter Tryz.func23, Tryz.ntmps23
  go_wp2_with (first
    | (clear T0; go_at_call 49; refine c0.mono ?_; rintro e w' ⟨rfl, hw⟩; rw [hw]; clear hw)
    | (go_at_call 49; refine (is_same (A 5) _).mono ?_; rintro e w' ⟨rfl, hw⟩; rw [hw]; clear hw))
  go_ret
  exact ⟨rfl, rfl⟩
set_option maxHeartbeats 1000000 in
theorem pErrno10 (w : World) (A : Nat → Addr) (E : ErrsA w A) :
    Calls Tryz.prog 23 #[.iface 278 (.pointer (some (A 10)))] w fun x w' => x = .returned (.int .i64 10) ∧ w' = w := by
  have v0 := E.v (4, 0) (by decide)
  have c0 := is_snt E (10, 2) (4, 0) (by decide) (by decide) (by decide)
  have T0 : Hid True := trivial
  have v1 := E.v (5, 1) (by decide)
  have c1 := is_snt E (10, 2) (5, 1) (by decide) (by decide) (by decide)
  have T1 : Hid True := trivial
  have v2 := E.v (10, 2) (by decide)
  clear E
  dsimp only at v0 v1 v2 c0 c1
  go_enter Tryz.func23, Tryz.ntmps23
  go_wp2_with (first
    | (clear T0; go_at_call 49; refine c0.mono ?_; rintro e w' ⟨rfl, hw⟩; rw [hw]; clear hw)
    | (clear T1; go_at_call 49; refine c1.mono ?_; rintro e w' ⟨rfl, hw⟩; rw [hw]; clear hw)
    | (go_at_call 49; refine (is_same (A 10) _).mono ?_; rintro e w' ⟨rfl, hw⟩; rw [hw]; clear hw))
  go_ret
  exact ⟨rfl, rfl⟩
set_option maxHeartbeats 1000000 in
theorem pErrno8 (w : World) (A : Nat → Addr) (E : ErrsA w A) :
    Calls Tryz.prog 23 #[.iface 278 (.pointer (some (A 8)))] w fun x w' => x = .returned (.int .i64 8) ∧ w' = w := by
  have v0 := E.v (4, 0) (by decide)
  have c0 := is_snt E (8, 3) (4, 0) (by decide) (by decide) (by decide)
  have T0 : Hid True := trivial
  have v1 := E.v (5, 1) (by decide)
  have c1 := is_snt E (8, 3) (5, 1) (by decide) (by decide) (by decide)
  have T1 : Hid True := trivial
  have v2 := E.v (10, 2) (by decide)
  have c2 := is_snt E (8, 3) (10, 2) (by decide) (by decide) (by decide)
  have T2 : Hid True := trivial
  have v3 := E.v (8, 3) (by decide)
  clear E
  dsimp only at v0 v1 v2 v3 c0 c1 c2
  go_enter Tryz.func23, Tryz.ntmps23
  go_wp2_with (first
    | (clear T0; go_at_call 49; refine c0.mono ?_; rintro e w' ⟨rfl, hw⟩; rw [hw]; clear hw)
    | (clear T1; go_at_call 49; refine c1.mono ?_; rintro e w' ⟨rfl, hw⟩; rw [hw]; clear hw)
    | (clear T2; go_at_call 49; refine c2.mono ?_; rintro e w' ⟨rfl, hw⟩; rw [hw]; clear hw)
    | (go_at_call 49; refine (is_same (A 8) _).mono ?_; rintro e w' ⟨rfl, hw⟩; rw [hw]; clear hw))
  go_ret
  exact ⟨rfl, rfl⟩
set_option maxHeartbeats 1000000 in
theorem pErrno9 (w : World) (A : Nat → Addr) (E : ErrsA w A) :
    Calls Tryz.prog 23 #[.iface 278 (.pointer (some (A 9)))] w fun x w' => x = .returned (.int .i64 9) ∧ w' = w := by
  have v0 := E.v (4, 0) (by decide)
  have c0 := is_snt E (9, 4) (4, 0) (by decide) (by decide) (by decide)
  have T0 : Hid True := trivial
  have v1 := E.v (5, 1) (by decide)
  have c1 := is_snt E (9, 4) (5, 1) (by decide) (by decide) (by decide)
  have T1 : Hid True := trivial
  have v2 := E.v (10, 2) (by decide)
  have c2 := is_snt E (9, 4) (10, 2) (by decide) (by decide) (by decide)
  have T2 : Hid True := trivial
  have v3 := E.v (8, 3) (by decide)
  have c3 := is_snt E (9, 4) (8, 3) (by decide) (by decide) (by decide)
  have T3 : Hid True := trivial
  have v4 := E.v (9, 4) (by decide)
  clear E
  dsimp only at v0 v1 v2 v3 v4 c0 c1 c2 c3
  go_enter Tryz.func23, Tryz.ntmps23
  go_wp2_with (first
    | (clear T0; go_at_call 49; refine c0.mono ?_; rintro e w' ⟨rfl, hw⟩; rw [hw]; clear hw)
    | (clear T1; go_at_call 49; refine c1.mono ?_; rintro e w' ⟨rfl, hw⟩; rw [hw]; clear hw)
    | (clear T2; go_at_call 49; refine c2.mono ?_; rintro e w' ⟨rfl, hw⟩; rw [hw]; clear hw)
    | (clear T3; go_at_call 49; refine c3.mono ?_; rintro e w' ⟨rfl, hw⟩; rw [hw]; clear hw)
    | (go_at_call 49; refine (is_same (A 9) _).mono ?_; rintro e w' ⟨rfl, hw⟩; rw [hw]; clear hw))
  go_ret
  exact ⟨rfl, rfl⟩
set_option maxHeartbeats 1000000 in
theorem pErrno2 (w : World) (A : Nat → Addr) (E : ErrsA w A) :
    Calls Tryz.prog 23 #[.iface 278 (.pointer (some (A 2)))] w fun x w' => x = .returned (.int .i64 2) ∧ w' = w := by
  have v0 := E.v (4, 0) (by decide)
  have c0 := is_snt E (2, 5) (4, 0) (by decide) (by decide) (by decide)
  have T0 : Hid True := trivial
  have v1 := E.v (5, 1) (by decide)
  have c1 := is_snt E (2, 5) (5, 1) (by decide) (by decide) (by decide)
  have T1 : Hid True := trivial
  have v2 := E.v (10, 2) (by decide)
  have c2 := is_snt E (2, 5) (10, 2) (by decide) (by decide) (by decide)
  have T2 : Hid True := trivial
  have v3 := E.v (8, 3) (by decide)
  have c3 := is_snt E (2, 5) (8, 3) (by decide) (by decide) (by decide)
  have T3 : Hid True := trivial
  have v4 := E.v (9, 4) (by decide)
  have c4 := is_snt E (2, 5) (9, 4) (by decide) (by decide) (by decide)
  have T4 : Hid True := trivial
  have v5 := E.v (2, 5) (by decide)
  clear E
  dsimp only at v0 v1 v2 v3 v4 v5 c0 c1 c2 c3 c4
  go_enter Tryz.func23, Tryz.ntmps23
  go_wp2_with (first
    | (clear T0; go_at_call 49; refine c0.mono ?_; rintro e w' ⟨rfl, hw⟩; rw [hw]; clear hw)
    | (clear T1; go_at_call 49; refine c1.mono ?_; rintro e w' ⟨rfl, hw⟩; rw [hw]; clear hw)
    | (clear T2; go_at_call 49; refine c2.mono ?_; rintro e w' ⟨rfl, hw⟩; rw [hw]; clear hw)
    | (clear T3; go_at_call 49; refine c3.mono ?_; rintro e w' ⟨rfl, hw⟩; rw [hw]; clear hw)
    | (clear T4; go_at_call 49; refine c4.mono ?_; rintro e w' ⟨rfl, hw⟩; rw [hw]; clear hw)
    | (go_at_call 49; refine (is_same (A 2) _).mono ?_; rintro e w' ⟨rfl, hw⟩; rw [hw]; clear hw))
  go_ret
  exact ⟨rfl, rfl⟩
set_option maxHeartbeats 1000000 in
theorem pErrno6 (w : World) (A : Nat → Addr) (E : ErrsA w A) :
    Calls Tryz.prog 23 #[.iface 278 (.pointer (some (A 6)))] w fun x w' => x = .returned (.int .i64 6) ∧ w' = w := by
  have v0 := E.v (4, 0) (by decide)
  have c0 := is_snt E (6, 6) (4, 0) (by decide) (by decide) (by decide)
  have T0 : Hid True := trivial
  have v1 := E.v (5, 1) (by decide)
  have c1 := is_snt E (6, 6) (5, 1) (by decide) (by decide) (by decide)
  have T1 : Hid True := trivial
  have v2 := E.v (10, 2) (by decide)
  have c2 := is_snt E (6, 6) (10, 2) (by decide) (by decide) (by decide)
  have T2 : Hid True := trivial
  have v3 := E.v (8, 3) (by decide)
  have c3 := is_snt E (6, 6) (8, 3) (by decide) (by decide) (by decide)
  have T3 : Hid True := trivial
  have v4 := E.v (9, 4) (by decide)
  have c4 := is_snt E (6, 6) (9, 4) (by decide) (by decide) (by decide)
  have T4 : Hid True := trivial
  have v5 := E.v (2, 5) (by decide)
  have c5 := is_snt E (6, 6) (2, 5) (by decide) (by decide) (by decide)
  have T5 : Hid True := trivial
  have v6 := E.v (6, 6) (by decide)
  clear E
  dsimp only at v0 v1 v2 v3 v4 v5 v6 c0 c1 c2 c3 c4 c5
  go_enter Tryz.func23, Tryz.ntmps23
  go_wp2_with (first
    | (clear T0; go_at_call 49; refine c0.mono ?_; rintro e w' ⟨rfl, hw⟩; rw [hw]; clear hw)
    | (clear T1; go_at_call 49; refine c1.mono ?_; rintro e w' ⟨rfl, hw⟩; rw [hw]; clear hw)
    | (clear T2; go_at_call 49; refine c2.mono ?_; rintro e w' ⟨rfl, hw⟩; rw [hw]; clear hw)
    | (clear T3; go_at_call 49; refine c3.mono ?_; rintro e w' ⟨rfl, hw⟩; rw [hw]; clear hw)
    | (clear T4; go_at_call 49; refine c4.mono ?_; rintro e w' ⟨rfl, hw⟩; rw [hw]; clear hw)
    | (clear T5; go_at_call 49; refine c5.mono ?_; rintro e w' ⟨rfl, hw⟩; rw [hw]; clear hw)
    | (go_at_call 49; refine (is_same (A 6) _).mono ?_; rintro e w' ⟨rfl, hw⟩; rw [hw]; clear hw))
  go_ret
  exact ⟨rfl, rfl⟩
set_option maxHeartbeats 1000000 in
theorem pErrno7 (w : World) (A : Nat → Addr) (E : ErrsA w A) :
    Calls Tryz.prog 23 #[.iface 278 (.pointer (some (A 7)))] w fun x w' => x = .returned (.int .i64 7) ∧ w' = w := by
  have v0 := E.v (4, 0) (by decide)
  have c0 := is_snt E (7, 7) (4, 0) (by decide) (by decide) (by decide)
  have T0 : Hid True := trivial
  have v1 := E.v (5, 1) (by decide)
  have c1 := is_snt E (7, 7) (5, 1) (by decide) (by decide) (by decide)
  have T1 : Hid True := trivial
  have v2 := E.v (10, 2) (by decide)
  have c2 := is_snt E (7, 7) (10, 2) (by decide) (by decide) (by decide)
  have T2 : Hid True := trivial
  have v3 := E.v (8, 3) (by decide)
  have c3 := is_snt E (7, 7) (8, 3) (by decide) (by decide) (by decide)
  have T3 : Hid True := trivial
  have v4 := E.v (9, 4) (by decide)
  have c4 := is_snt E (7, 7) (9, 4) (by decide) (by decide) (by decide)
  have T4 : Hid True := trivial
  have v5 := E.v (2, 5) (by decide)
  have c5 := is_snt E (7, 7) (2, 5) (by decide) (by decide) (by decide)
  have T5 : Hid True := trivial
  have v6 := E.v (6, 6) (by decide)
  have c6 := is_snt E (7, 7) (6, 6) (by decide) (by decide) (by decide)
  have T6 : Hid True := trivial
  clear E
  dsimp only at v0 v1 v2 v3 v4 v5 v6 c0 c1 c2 c3 c4 c5 c6
  go_enter Tryz.func23, Tryz.ntmps23
  go_wp2_with (first
    | (clear T0; go_at_call 49; refine c0.mono ?_; rintro e w' ⟨rfl, hw⟩; rw [hw]; clear hw)
    | (clear T1; go_at_call 49; refine c1.mono ?_; rintro e w' ⟨rfl, hw⟩; rw [hw]; clear hw)
    | (clear T2; go_at_call 49; refine c2.mono ?_; rintro e w' ⟨rfl, hw⟩; rw [hw]; clear hw)
    | (clear T3; go_at_call 49; refine c3.mono ?_; rintro e w' ⟨rfl, hw⟩; rw [hw]; clear hw)
    | (clear T4; go_at_call 49; refine c4.mono ?_; rintro e w' ⟨rfl, hw⟩; rw [hw]; clear hw)
    | (clear T5; go_at_call 49; refine c5.mono ?_; rintro e w' ⟨rfl, hw⟩; rw [hw]; clear hw)
    | (clear T6; go_at_call 49; refine c6.mono ?_; rintro e w' ⟨rfl, hw⟩; rw [hw]; clear hw))
  go_ret
  exact ⟨rfl, rfl⟩

/-- The number of what is wrong with bytes. -/
theorem pErrnoA (w : World) (A : Nat → Addr) (E : ErrsA w A) (x : Nat × Nat) (hx : x ∈ sntG) :
    Calls Tryz.prog 23 #[.iface 278 (.pointer (some (A x.1)))] w fun e w' => e = .returned (.int .i64 x.1) ∧ w' = w := by
  simp only [sntG, List.mem_cons, List.not_mem_nil, or_false] at hx
  rcases hx with rfl | rfl | rfl | rfl | rfl | rfl | rfl | rfl
  · exact pErrno5 w A E
  · exact pErrno7 w A E
  · exact pErrno6 w A E
  · exact pErrno8 w A E
  · exact pErrno4 w A E
  · exact pErrno2 w A E
  · exact pErrno9 w A E
  · exact pErrno10 w A E
/-- The number of what is wrong within a line. -/
theorem pErrno (w : World) (a0 a1 a2 : Addr) (e : Int) (E : Errs w a0 a1 a2) (he : e = 5 ∨ e = 6 ∨ e = 7) :
    Calls Tryz.prog 23 #[errV a0 a1 a2 e] w fun x w' => x = .returned (.int .i64 e) ∧ w' = w := by
  obtain ⟨A, hA, rfl, rfl, rfl⟩ := E.oth
  rcases he with rfl | rfl | rfl
  · rw [errV5]; exact pErrno5 w A hA
  · rw [errV6]; exact pErrno6 w A hA
  · rw [errV7]; exact pErrno7 w A hA

end Go.Proofs.YtekfbphnoibnjaaGreatDoor
