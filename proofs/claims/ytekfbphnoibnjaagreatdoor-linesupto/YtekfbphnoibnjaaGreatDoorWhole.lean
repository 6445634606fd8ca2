/-
  A list that was lent is looked at again, then marked.
-/
import Derived.Test.YtekfbphnoibnjaaGreatDoorLent
import Derived.Test.YtekfbphnoibnjaaGreatDoorMarkInts
namespace Go.Proofs.YtekfbphnoibnjaaGreatDoor
open Go.RowKit

theorem roomRow_lo (zs : List Int) (i : Nat) (h : i < zs.length) : (roomRow zs 8).getD i 0 = zs.getD i 0 := by
  unfold roomRow
  rw [List.getD_eq_getElem?_getD, List.getD_eq_getElem?_getD, List.getElem?_append_left h]
theorem roomRow_hi (zs : List Int) (i : Nat) (h : zs.length ≤ i) (h2 : i < zs.length + 8) : (roomRow zs 8).getD i 0 = 77 := by
  unfold roomRow
  rw [List.getD_eq_getElem?_getD, List.getElem?_append_right h, List.getElem?_append_left (by simp; omega), List.getElem?_replicate, if_pos (by omega)]
  rfl

set_option maxHeartbeats 400000 in
theorem wholeInts_nil (w : World) (p : Value) (o : Value) (len cap : Nat) : Calls Tryz.prog 66 #[p, o, .slice none len cap] w fun x w' => x = .returned (.bool true) ∧ w' = w := by
  have qn := nilInts
  go_enter Tryz.func66, Tryz.ntmps66
  go_wp2
  go_ret
  exact ⟨rfl, rfl⟩

set_option maxHeartbeats 1000000 in
theorem wholeInts_some (w : World) (B p M : Nat) (vs : List Value) (ia : Option Addr) (ik ic : Nat) (rows : List Value) (g n : Nat) (a : Addr) (cap : Nat) (zs : List Int)
    (hbk : BookAt w p M vs) (hv0 : vs[0]? = some (.slice ia ik ic)) (hri : w.ownsRow B 76 5 (.slice ia ik ic) ik rows) (hrl : Nums w B g (n + 8) (roomRow zs 8)) (hz : IntsIn w (some a) n zs)
    (hBz : B ≤ w.heap.size) (n1 : (Value.slice ia ik ic).ownBlock ≠ some p) (n2 : g ≠ p) (n3 : (Value.slice ia ik ic).ownBlock ≠ some g)
    (hM : M ≤ 1000000000) (hn : n + 8 ≤ 1000000000) (hik : ik ≤ 1000000000) :
    Calls Tryz.prog 66 #[.pointer (some ⟨p, 0, none⟩), .slice (some ⟨g, 0, none⟩) n (n + 8), .slice (some a) n cap] w fun x w' => x = .returned (.bool true) ∧ MarkedInts w w' B p M vs (.slice ia ik ic) (.slice (some ⟨g, 0, none⟩) (n + 8) (n + 8)) ik (n + 8) rows := by
  have qn := nilInts
  have hlen := hz.1
  have HC := markInts_any w B p M vs ia ik ic rows (some ⟨g, 0, none⟩) (n + 8) (n + 8) (roomRow zs 8) hbk hv0 hri hrl hBz n1 (by simp [Value.ownBlock]; exact n2) (fun k hk => by simp [Value.ownBlock] at hk; subst hk; exact n3) hM hn hik
  have hcell : ∀ i, i < n + 8 → w.cell? ⟨g, i, none⟩ = some (.int .i64 ((roomRow zs 8).getD i 0)) := fun i hi => hrl.cell i hi
  have HCell : Hid (∀ i, i < n + 8 → w.cell? ⟨g, i, none⟩ = some (.int .i64 ((roomRow zs 8).getD i 0))) := hcell
  have HZ : Hid (IntsIn w (some a) n zs) := hz
  clear hbk hri hrl hcell hz n1 n2 n3
  go_enter Tryz.func66, Tryz.ntmps66
  go_wp2
  go_loop [9, 10, 11] (fun ok i _ => ok = .bool true ∧ ∃ k : Nat, k ≤ n + 8 ∧ i = .int .i64 k) (fun _ i _ => n + 8 - (intOf i).toNat)
  case atStart => exact ⟨rfl, 0, by omega, rfl⟩
  case round =>
    obtain ⟨rfl, k, hk, rfl⟩ := hrel
    by_cases hlt : k < n + 8
    · have hlt' : (k : Int) < (n : Int) + 8 := by omega
      have hlt2 : (k : Int) < ((n + 8 : Nat) : Int) := by omega
      have d1 := HCell.out k hlt
      by_cases hin : k < n
      · have hin' : (k : Int) < (n : Int) := by omega
        rw [roomRow_lo zs k (by omega)] at d1
        obtain ⟨b, off, ha, hb, hc⟩ : ∃ b off, some a = some ⟨b, off, none⟩ ∧ b < w.heap.size ∧ ∀ i, i < n → w.cell? ⟨b, off + i, none⟩ = some (.int .i64 (zs.getD i 0)) := by
          rcases HZ.out.2 with h2 | h2
          · omega
          · exact h2
        have ha' : a = ⟨b, off, none⟩ := by injection ha
        subst ha'
        have d2 := hc k hin
        obtain ⟨z, hzk⟩ : ∃ z, z = zs.getD k 0 := ⟨_, rfl⟩
        rw [← hzk] at d1 d2
        clear hc hzk ha
        go_wp2
        go_round
        case rel => exact ⟨rfl, k + 1, by omega, by go_num⟩
        case measure => simp [intOf]; omega
      · have hin' : ¬ (k : Int) < (n : Int) := by omega
        rw [roomRow_hi zs k (by omega) (by omega)] at d1
        go_wp2
        go_round
        case rel => exact ⟨rfl, k + 1, by omega, by go_num⟩
        case measure => simp [intOf]; omega
    · have hlt' : ¬ (k : Int) < (n : Int) + 8 := by omega
      go_wp2_with (go_at_call 32; refine HC.mono ?_; rintro x w' ⟨rfl, hm⟩)
      go_ret
      exact ⟨rfl, hm⟩

end Go.Proofs.YtekfbphnoibnjaaGreatDoor
