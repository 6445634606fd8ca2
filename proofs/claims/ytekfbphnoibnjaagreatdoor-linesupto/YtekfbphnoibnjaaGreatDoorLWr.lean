/-
  The program's packer: its carry.
-/
import Derived.Test.YtekfbphnoibnjaaGreatDoorPack2
import Derived.Test.YtekfbphnoibnjaaGreatDoorBuild
import Derived.Test.YtekfbphnoibnjaaGreatDoorApp
import Derived.Deep.RegionLaw
import Derived.BigRegion
import Derived.Deep.AppendLies
namespace Go.Proofs.YtekfbphnoibnjaaGreatDoor
open Go.RowKit

theorem infoU8 : (Tryz.prog.info? 5).map (fun i => (i.zero, i.size, i.bytes)) = some (some (.int .u8 0), 1, 1) := by kernel_rfl
def octs (zs : List Int) : List Value := zs.map (Value.int .u8)
theorem octs_length (zs : List Int) : (octs zs).length = zs.length := by simp [octs]
theorem octs_set (zs : List Int) (k : Nat) (v : Int) : (octs zs).set k (.int .u8 v) = octs (zs.set k v) := by simp [octs, List.map_set]
theorem octs_get (zs : List Int) (k : Nat) (h : k < zs.length) : (octs zs)[k]? = some (.int .u8 (zs.getD k 0)) := by simp [octs, h]
theorem octs_snoc (zs : List Int) (z : Int) : octs zs ++ [.int .u8 z] = octs (zs ++ [z]) := by simp [octs]
/-- The slice v holds these bytes, in memory of its own from block B on. -/
def Octs (w : World) (B : Nat) (v : Value) (zs : List Int) : Prop := w.ownsRow B 5 1 v zs.length (octs zs)

theorem digs_last (i : Nat) (y : Int) (z : List Int) : (Pack.digs (i + 1) y ++ z).getD i 0 = y % 256 := by
  rw [Pack.digs, List.append_assoc, List.getD_eq_getElem?_getD, List.getElem?_append_right (by rw [Pack.digs_length]; exact Nat.le_refl _), Pack.digs_length, Nat.sub_self]
  rfl
theorem digs_setLast (i : Nat) (y d : Int) (z : List Int) : (Pack.digs (i + 1) y ++ z).set i d = Pack.digs i (y / 256) ++ (d :: z) := by
  rw [Pack.digs, List.append_assoc, List.set_append_right _ _ (by rw [Pack.digs_length]; exact Nat.le_refl _), Pack.digs_length, Nat.sub_self]
  rfl

def ownS (v : Value) : Nat → Prop := fun k => v.ownBlock = some k

theorem u8_up (d : Int) (h0 : 0 ≤ d) (h1 : d < 255) : IntKind.u8.wrap (d + 1) = d + 1 := by rw [IntKind.wrap_u8]; omega

set_option maxHeartbeats 1000000 in
set_option maxRecDepth 20000 in
theorem pCarry (w : World) (B b m : Nat) (v : Value) (x : Int) (hm : m ≤ 1000000) (h0 : w.cell? ⟨b, 401, none⟩ = some v) (ho : Octs w B v (Pack.digs m x)) (hb : v.ownBlock ≠ some b) :
    Calls Tryz.prog 146 #[.pointer (some ⟨b, 0, none⟩)] w fun e w' => e = .returned (.tuple #[]) ∧ Octs w' B v (Pack.digs m (x + 1)) ∧ Frm (ownS v) w w' := by
  have hl : (Pack.digs m x).length = m := Pack.digs_length m x
  unfold Octs at ho
  rw [hl] at ho
  obtain ⟨a, cap, rfl, hav⟩ : ∃ a cap, v = .slice a m cap ∧ (m = 0 ∨ ∃ g, a = some ⟨g, 0, none⟩ ∧ g ≠ b) := by
    rcases ho.2 with ⟨rfl, h⟩ | ⟨g, cap, cur, rfl, _⟩
    · exact ⟨none, 0, by rw [h], .inl h⟩
    · exact ⟨_, cap, rfl, .inr ⟨g, rfl, fun e => hb (by rw [e]; rfl)⟩⟩
  have H0 : Hid (w.cell? ⟨b, 401, none⟩ = some (.slice a m cap)) := h0
  go_enter Tryz.func146, Tryz.ntmps146
  go_wp2
  go_loopw [2] (fun i wr => ∃ k : Nat, ∃ y : Int, k ≤ m ∧ i = .int .i64 ((k : Int) - 1) ∧ wr.ownsRow B 5 1 (.slice a m cap) m (octs (Pack.digs k y ++ List.replicate (m - k) 0)) ∧ Pack.digs m (x + 1) = Pack.digs k (y + 1) ++ List.replicate (m - k) 0 ∧ Frm (ownS (.slice a m cap)) w wr) (fun i _ => (intOf i + 1).toNat)
  case atStart => exact ⟨m, x, Nat.le_refl _, rfl, by simp; exact ho, by simp, Frm.refl _ _⟩
  case round =>
    obtain ⟨k, y, hk, rfl, hown, heq, hfr⟩ := hrel
    have HEQ : Hid (Pack.digs m (x + 1) = Pack.digs k (y + 1) ++ List.replicate (m - k) 0) := heq
    clear heq
    have h0 : wr.cell? ⟨b, 401, none⟩ = some (.slice a m cap) := hfr.cell H0.out (fun h => hb h)
    cases k with
    | zero =>
      go_wp2
      go_end0
      refine ⟨rfl, ?_, hfr⟩
      unfold Octs
      rw [Pack.digs_length, HEQ.out]
      exact hown
    | succ k =>
      obtain ⟨g, rfl, hgb⟩ : ∃ g, a = some ⟨g, 0, none⟩ ∧ g ≠ b := by
        rcases hav with h | h
        · omega
        · exact h
      obtain ⟨d, hd⟩ : ∃ d, d = y % 256 := ⟨_, rfl⟩
      have d0 : 0 ≤ d := by omega
      have d1 : d ≤ 255 := by omega
      have hlk : (Pack.digs (k + 1) y ++ List.replicate (m - (k + 1)) 0).length = m := by rw [List.length_append, Pack.digs_length, List.length_replicate]; omega
      have hck : wr.cell? ⟨g, k, none⟩ = some (.int .u8 d) := by
        rw [World.ownsRow.cellAt hown k (by omega), octs_get _ _ (by rw [hlk]; omega), digs_last, hd]
      have hfk : wr.frozen? ⟨g, k, none⟩ = false := World.ownsRow.frozenAt hown k
      have hst : ∀ u : Int, Hid ((wr.setCell ⟨g, k, none⟩ (.int .u8 u)).ownsRow B 5 1 (.slice (some ⟨g, 0, none⟩) m cap) m (octs (Pack.digs k (y / 256) ++ (u :: List.replicate (m - (k + 1)) 0)))) := fun u => by
        have := (World.ownsRow.stored hown k (.int .u8 u)).1
        rw [octs_set, digs_setLast] at this
        exact this
      have hfr2 : ∀ u : Int, Hid (Frm (ownS (.slice (some ⟨g, 0, none⟩) m cap)) w (wr.setCell ⟨g, k, none⟩ (.int .u8 u))) := fun u => hfr.setCell (p := ⟨g, k, none⟩) (.inl (show ownS (.slice (some ⟨g, 0, none⟩) m cap) g from rfl)) _
      have HD : Hid (d = y % 256) := hd
      have hkm : (k : Int) < (m : Int) := by omega
      have hgb' : b ≠ g := fun e => hgb e.symm
      rw [show (((k + 1 : Nat) : Int) - 1) = (k : Int) by omega]
      clear hd hown hfr hlk
      by_cases h255 : d = 255
      · subst h255
        go_wp2
        go_roundw
        case rel =>
          refine ⟨k, y / 256, by omega, by go_num, ?_, ?_, (hfr2 0).out⟩
          · have := (hst 0).out
            rw [show m - k = (m - (k + 1)) + 1 by omega, List.replicate_succ]
            exact this
          · rw [HEQ.out, show m - k = (m - (k + 1)) + 1 by omega, List.replicate_succ, Pack.digs]
            have := HD.out
            rw [show (y + 1) / 256 = y / 256 + 1 by omega, show (y + 1) % 256 = 0 by omega]
            simp
        case measure => simp [intOf]
      · have hu := u8_up d d0 (by omega)
        have hne0 : ((d + 1 : Int) == 0) = false := by simp; omega
        go_wp2
        refine bodyPost_ret (results_none rfl _ _ _) rfl ?_
        refine ⟨rfl, ?_, (hfr2 (d + 1)).out⟩
        unfold Octs
        rw [Pack.digs_length, HEQ.out, Pack.digs]
        have hdd := HD.out
        rw [show (y + 1) / 256 = y / 256 by omega, show (y + 1) % 256 = d + 1 by omega, List.append_assoc]
        exact (hst (d + 1)).out

end Go.Proofs.YtekfbphnoibnjaaGreatDoor
