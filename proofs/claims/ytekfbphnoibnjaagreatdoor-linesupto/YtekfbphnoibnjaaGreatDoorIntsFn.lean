/-
  Small functions on lists of numbers: the same numbers? all of them this one? a copy to lend.
-/
import Derived.Test.YtekfbphnoibnjaaGreatDoorRefStr
import Derived.Test.YtekfbphnoibnjaaGreatDoorMark
namespace Go.Proofs.YtekfbphnoibnjaaGreatDoor
open Go.RowKit

theorem drewN_add (w : World) (a b : Nat) : (w.drewN a).drewN b = w.drewN (a + b) := by simp [World.drewN, Nat.add_assoc]

set_option maxHeartbeats 400000 in
theorem sameInts_any (w : World) (a b : Option Addr) (la ca lb cb : Nat) (xs ys : List Int) (hx : IntsIn w a la xs) (hy : IntsIn w b lb ys) (hl : la ≤ 1000000000) (hl2 : lb ≤ 1000000000) :
    Calls Tryz.prog 30 #[.slice a la ca, .slice b lb cb] w fun x w' => x = .returned (.bool (decide (xs = ys))) ∧ ∃ n, w' = w.drewN n := by
  have hlx := hx.1
  have hly := hy.1
  by_cases hlen : la = lb
  · have hne : ((la : Int) == (lb : Int)) = true := by rw [hlen]; simp
    subst hlen
    have HX : Hid (IntsIn w a la xs) := hx
    have HY : Hid (IntsIn w b la ys) := hy
    clear hx hy
    go_enter Tryz.func30, Tryz.ntmps30
    go_wp2
    go_loopw [5] (fun i wr => ∃ k : Nat, k ≤ la ∧ i = .int .i64 k ∧ (∀ j, j < k → xs.getD j 0 = ys.getD j 0) ∧ ∃ n, wr = w.drewN n) (fun i _ => la - (intOf i).toNat)
    case atStart => exact ⟨0, by omega, rfl, by omega, 0, rfl⟩
    case round =>
      obtain ⟨k, hk, rfl, hj, n0, rfl⟩ := hrel
      have HJ : Hid (∀ j, j < k → xs.getD j 0 = ys.getD j 0) := hj
      clear hj
      by_cases hlt : k < la
      · have hlt' : (k : Int) < (la : Int) := by omega
        have hk0 : (0 : Int) ≤ (k : Int) := by omega
        obtain ⟨b1, o1, rfl, _, hc1⟩ : ∃ b off, a = some ⟨b, off, none⟩ ∧ b < w.heap.size ∧ ∀ i, i < la → w.cell? ⟨b, off + i, none⟩ = some (.int .i64 (xs.getD i 0)) := by
          rcases HX.out.2 with h2 | h2
          · omega
          · exact h2
        obtain ⟨b2, o2, rfl, _, hc2⟩ : ∃ b' off, b = some ⟨b', off, none⟩ ∧ b' < w.heap.size ∧ ∀ i, i < la → w.cell? ⟨b', off + i, none⟩ = some (.int .i64 (ys.getD i 0)) := by
          rcases HY.out.2 with h2 | h2
          · omega
          · exact h2
        have d1 := hc1 k hlt
        have d2 := hc2 k hlt
        obtain ⟨x, hxk⟩ : ∃ x, x = xs.getD k 0 := ⟨_, rfl⟩
        obtain ⟨y, hyk⟩ : ∃ y, y = ys.getD k 0 := ⟨_, rfl⟩
        rw [← hxk] at d1
        rw [← hyk] at d2
        have HXK : Hid (x = xs.getD k 0) := hxk
        have HYK : Hid (y = ys.getD k 0) := hyk
        clear hc1 hc2 hxk hyk
        rcases he : (x == y) with _ | _
        · go_wp2
          go_quiet (fail)
          go_wp2
          go_ret
          refine ⟨?_, _, drewN_add _ _ _⟩
          have : xs ≠ ys := fun e => by
            have h1 := HXK.out
            have h2 := HYK.out
            rw [e] at h1
            rw [← h2] at h1
            simp [h1] at he
          rw [decide_eq_false this]
          rfl
        · go_wp2
          go_quiet (fail)
          go_wp2
          go_roundw
          case rel =>
            refine ⟨k + 1, by omega, by go_num, fun j hj => ?_, _, rfl⟩
            rcases Nat.lt_succ_iff_lt_or_eq.1 hj with hj | rfl
            · exact HJ.out j hj
            · rw [← HXK.out, ← HYK.out]; simpa using he
          case measure => simp [intOf]; omega
      · have hlt' : ¬ (k : Int) < (la : Int) := by omega
        go_wp2
        go_ret
        refine ⟨?_, n0, rfl⟩
        have : xs = ys := by
          apply List.ext_getElem?
          intro i
          by_cases hi : i < la
          · have := HJ.out i (by omega)
            rw [List.getD_eq_getElem?_getD, List.getD_eq_getElem?_getD, List.getElem?_eq_getElem (by omega), List.getElem?_eq_getElem (by omega)] at this
            rw [List.getElem?_eq_getElem (by omega), List.getElem?_eq_getElem (by omega)]
            simpa using this
          · rw [List.getElem?_eq_none (by omega), List.getElem?_eq_none (by omega)]
        rw [decide_eq_true this]
        rfl
  · have hne : ((la : Int) == (lb : Int)) = false := by simp; omega
    go_enter Tryz.func30, Tryz.ntmps30
    go_wp2
    go_ret
    refine ⟨?_, 0, rfl⟩
    have : xs ≠ ys := fun e => hlen (by rw [← hlx, ← hly, e])
    rw [decide_eq_false this]
    rfl

set_option maxHeartbeats 400000 in
theorem allInts_any (w : World) (v : Value) (n : Nat) (m : Int) (h : Fill w v n [.int .i64 m]) (hn : n ≤ 1000000000) :
    Calls Tryz.prog 35 #[v, .int .i64 m] w fun x w' => x = .returned (.bool true) ∧ w' = w := by
  obtain ⟨a, c, rfl, h⟩ := h
  have H : Hid (n = 0 ∨ ∃ b off, a = some ⟨b, off, none⟩ ∧ ∀ j, j < n → ∀ t u, [Value.int IntKind.i64 m][t]? = some u → w.cell? ⟨b, off + j * [Value.int IntKind.i64 m].length + t, none⟩ = some u) := h
  clear h
  go_enter Tryz.func35, Tryz.ntmps35
  go_wp2
  go_loop [5] (fun i => ∃ k : Nat, k ≤ n ∧ i = .int .i64 k) (fun i => n - (intOf i).toNat)
  case atStart => exact ⟨0, by omega, rfl⟩
  case round =>
    obtain ⟨k, hk, rfl⟩ := hrel
    by_cases hlt : k < n
    · have hlt' : (k : Int) < (n : Int) := by omega
      obtain ⟨b, off, rfl, hc⟩ : ∃ b off, a = some ⟨b, off, none⟩ ∧ ∀ j, j < n → ∀ t u, [Value.int IntKind.i64 m][t]? = some u → w.cell? ⟨b, off + j * [Value.int IntKind.i64 m].length + t, none⟩ = some u := by
        rcases H.out with h2 | h2
        · omega
        · exact h2
      have d : w.cell? ⟨b, off + k, none⟩ = some (.int .i64 m) := by simpa using hc k hlt 0 _ rfl
      clear hc
      go_wp2
      go_round
      case rel => exact ⟨k + 1, by omega, by go_num⟩
      case measure => simp [intOf]; omega
    · have hlt' : ¬ (k : Int) < (n : Int) := by omega
      go_wp2
      go_ret
      exact ⟨rfl, rfl⟩

end Go.Proofs.YtekfbphnoibnjaaGreatDoor
