/-
  Rows of numbers in memory; what a write leaves alone.
-/
import Derived.Test.YtekfbphnoibnjaaGreatDoorRows
import Derived.WalkKit
import Derived.WalkSpells
import Derived.WalkLawsBesides
import Derived.WalkSmall
import Derived.Below
import Derived.Deep.QuietTactic
import Derived.BigQuiet
namespace Go.Proofs.YtekfbphnoibnjaaGreatDoor
open Go.RowKit

theorem infoI64 : (Tryz.prog.info? 3).map (fun i => (i.zero, i.size, i.bytes)) = some (some (.int .i64 0), 1, 8) := by kernel_rfl

def ints (zs : List Int) : List Value := zs.map (Value.int .i64)
theorem ints_length (zs : List Int) : (ints zs).length = zs.length := by simp [ints]
theorem ints_set (zs : List Int) (k : Nat) (v : Int) : (ints zs).set k (.int .i64 v) = ints (zs.set k v) := by simp [ints, List.map_set]
theorem ints_get (zs : List Int) (k : Nat) (h : k < zs.length) : (ints zs)[k]? = some (.int .i64 (zs.getD k 0)) := by simp [ints, h]

/-- Block g is a row of numbers, all of its room. -/
def Nums (w : World) (B g n : Nat) (zs : List Int) : Prop := w.ownsRow B 3 1 (.slice (some ⟨g, 0, none⟩) n n) n (ints zs)
theorem Nums.len {w : World} {B g n : Nat} {zs : List Int} (h : Nums w B g n zs) : zs.length = n := by
  have := h.1; rw [ints_length] at this; omega
theorem Nums.cell {w : World} {B g n : Nat} {zs : List Int} (h : Nums w B g n zs) (k : Nat) (hk : k < n) : w.cell? ⟨g, k, none⟩ = some (.int .i64 (zs.getD k 0)) := by
  rw [World.ownsRow.cellAt h k (by omega), ints_get _ _ (by rw [h.len]; exact hk)]
theorem Nums.frozen {w : World} {B g n : Nat} {zs : List Int} (h : Nums w B g n zs) (k : Nat) : w.frozen? ⟨g, k, none⟩ = false := World.ownsRow.frozenAt h k
theorem Nums.lt {w : World} {B g n : Nat} {zs : List Int} (h : Nums w B g n zs) : B ≤ g ∧ g < w.heap.size := World.ownsRow.lt h g rfl
theorem Nums.store {w : World} {B g n : Nat} {zs : List Int} (h : Nums w B g n zs) (k : Nat) (v : Int) : Nums (w.setCell ⟨g, k, none⟩ (.int .i64 v)) B g n (zs.set k v) := by
  have := (World.ownsRow.stored h k (.int .i64 v)).1
  rw [ints_set] at this
  exact this

/-- A row of N numbers of which the first k are v already, the others 0. -/
def fillRow (N k : Nat) (v : Int) : List Int := List.replicate k v ++ List.replicate (N - k) 0
theorem fillRow_zero (N : Nat) (v : Int) : fillRow N 0 v = List.replicate N 0 := by simp [fillRow]
theorem fillRow_full (N : Nat) (v : Int) : fillRow N N v = List.replicate N v := by simp [fillRow]
theorem fillRow_set (N k : Nat) (v : Int) (h : k < N) : (fillRow N k v).set k v = fillRow N (k + 1) v := by
  unfold fillRow
  rw [List.set_append_right _ _ (by simp), show N - k = (N - (k + 1)) + 1 by omega, List.replicate_succ, List.length_replicate, Nat.sub_self, List.set_cons_zero, List.replicate_succ' (n := k)]
  simp
theorem made_ints (N : Nat) : (madeCells #[Value.int IntKind.i64 0] N).toList = ints (List.replicate N 0) := by
  rw [toList_madeCells_one]; simp [ints]
/-- All chances at first. -/
def ch0 : List Int := List.replicate 400 2048
theorem ch0_full : fillRow 400 400 2048 = ch0 := fillRow_full 400 2048
theorem ch0_get (k : Nat) (h : k < 400) : ch0.getD k 0 = 2048 := by
  unfold ch0
  rw [List.getD_eq_getElem?_getD, List.getElem?_replicate, if_pos h]; rfl

theorem grown_setCell (w : World) (b o : Nat) (v : Value) : w.grownBy (w.setCell ⟨b, o, none⟩ v) (some b) :=
  ⟨rfl, rfl, rfl, by simp, fun k _ hk => Below.heap_setCell w ⟨b, o, none⟩ v k (fun e => hk (by simp [e]))⟩
theorem Nums.other {w : World} {B g n : Nat} {zs : List Int} (h : Nums w B g n zs) {b o : Nat} {v : Value} (hne : b ≠ g) : Nums (w.setCell ⟨b, o, none⟩ v) B g n zs :=
  World.ownsRow.kept h (grown_setCell w b o v) (.inr (by simp [Value.ownBlock]; exact fun e => hne e.symm))
theorem cell_off {w : World} {b o b' o' : Nat} {v u : Value} (h : w.cell? ⟨b, o, none⟩ = some v) (hne : b' ≠ b ∨ o' ≠ o) : (w.setCell ⟨b', o', none⟩ u).cell? ⟨b, o, none⟩ = some v := by
  rw [World.cell?_setCell_other]
  · exact h
  · intro e
    simp only [Addr.mk.injEq, and_true] at e
    rcases hne with h | h
    · exact h e.1
    · exact h e.2

end Go.Proofs.YtekfbphnoibnjaaGreatDoor
