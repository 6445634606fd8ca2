/-
  The program's chances: the cut; how they learn.
-/
import Derived.Test.YtekfbphnoibnjaaGreatDoorChances
namespace Go.Proofs.YtekfbphnoibnjaaGreatDoor
open Go.RowKit

theorem ChAt.set {w : World} {b o : Nat} {ch : List Int} (h : ChAt w b o ch) (k : Nat) (v : Int) : ChAt (w.setCell ⟨b, o + k, none⟩ (.int .u32 v)) b o (ch.set k v) := by
  refine ⟨by rw [List.length_set]; exact h.len, fun j hj => ?_, fun j hj => by rw [World.frozen?_setCell]; exact h.fz j hj⟩
  rw [Rdr.getD_set]
  by_cases e : k = j
  · subst e
    rw [if_pos ⟨rfl, by rw [h.len]; exact hj⟩]
    exact World.cell?_setCell_same _ _ _ (h.cell k hj)
  · rw [if_neg (fun h' => e h'.1)]
    exact cell_off (h.cell j hj) (.inr (by omega))
theorem ChAt.off {w : World} {b o : Nat} {ch : List Int} (h : ChAt w b o ch) {b' o' : Nat} {v : Value} (hne : b' ≠ b ∨ o' < o ∨ o + 400 ≤ o') : ChAt (w.setCell ⟨b', o', none⟩ v) b o ch :=
  ⟨h.len, fun j hj => cell_off (h.cell j hj) (by omega), fun j hj => by rw [World.frozen?_setCell]; exact h.fz j hj⟩
theorem ChAt.on {w w' : World} {b o : Nat} {ch : List Int} (h : ChAt w b o ch) (hb : w'.heap[b]? = w.heap[b]?) : ChAt w' b o ch :=
  ⟨h.len, fun j hj => (World.cell?_of_block (a := ⟨b, o + j, none⟩) hb).trans (h.cell j hj), fun j hj => (World.frozen?_of_block (a := ⟨b, o + j, none⟩) hb).trans (h.fz j hj)⟩

theorem wrap_u32 {x : Int} (h0 : 0 ≤ x) (h1 : x ≤ 4294967295) : IntKind.u32.wrap x = x := by
  simp [IntKind.wrap, IntKind.bits, IntKind.signed]
  omega

set_option maxHeartbeats 1000000 in
set_option maxRecDepth 20000 in
theorem chCut (w : World) (b o : Nat) (k : Nat) (R c : Int) (hk : k < 400) (hc : w.cell? ⟨b, o + k, none⟩ = some (.int .u32 c)) (R0 : 0 ≤ R) (R1 : R ≤ 4294967295) (m1 : R / 4096 * c ≤ 4294967295) (m0 : 0 ≤ R / 4096 * c) :
    Calls Tryz.prog 143 #[.pointer (some ⟨b, o, none⟩), .int .u32 R, .int .i64 k] w fun e w' => e = .returned (.int .u32 (R / 4096 * c)) ∧ w' = w := by
  have hk' : (k : Int) < 400 := by omega
  go_enter Tryz.func143, Tryz.ntmps143
  go_wp2
  go_ret
  exact ⟨rfl, rfl⟩

set_option maxHeartbeats 1000000 in
set_option maxRecDepth 20000 in
theorem chLearn0 (w : World) (b o : Nat) (k : Nat) (c : Int) (hk : k < 400) (hc : w.cell? ⟨b, o + k, none⟩ = some (.int .u32 c)) (hf : w.frozen? ⟨b, o + k, none⟩ = false) (c0 : 31 ≤ c) (c1 : c ≤ 4065) :
    Calls Tryz.prog 144 #[.pointer (some ⟨b, o, none⟩), .int .i64 k, .int .i64 0] w fun e w' => e = .returned (.tuple #[]) ∧ w' = (w.setCell ⟨b, o + k, none⟩ (.int .u32 (c + (4096 - c) / 32))).drew := by
  have hk' : (k : Int) < 400 := by omega
  go_enter Tryz.func144, Tryz.ntmps144
  go_wp2
  go_region
  go_end0
  exact ⟨rfl, rfl⟩

set_option maxHeartbeats 1000000 in
set_option maxRecDepth 20000 in
theorem chLearn1 (w : World) (b o : Nat) (k : Nat) (c : Int) (hk : k < 400) (hc : w.cell? ⟨b, o + k, none⟩ = some (.int .u32 c)) (hf : w.frozen? ⟨b, o + k, none⟩ = false) (c0 : 31 ≤ c) (c1 : c ≤ 4065) :
    Calls Tryz.prog 144 #[.pointer (some ⟨b, o, none⟩), .int .i64 k, .int .i64 1] w fun e w' => e = .returned (.tuple #[]) ∧ w' = (w.setCell ⟨b, o + k, none⟩ (.int .u32 (c - c / 32))).drew := by
  have hk' : (k : Int) < 400 := by omega
  go_enter Tryz.func144, Tryz.ntmps144
  go_wp2
  go_region
  go_end0
  exact ⟨rfl, rfl⟩

end Go.Proofs.YtekfbphnoibnjaaGreatDoor
