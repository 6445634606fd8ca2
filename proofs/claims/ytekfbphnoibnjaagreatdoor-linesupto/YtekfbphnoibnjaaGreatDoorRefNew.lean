/-
  The document's reader at a line's begin and at its end.
-/
import Derived.Test.YtekfbphnoibnjaaGreatDoorRefBit
namespace Go.Proofs.YtekfbphnoibnjaaGreatDoor
open Go.RowKit

theorem RdAt.put3x {w : World} {B b g : Nat} {s : ByteArray} {r : RS} (h : RdAt w B b g s (Rdr.octS s r)) (n : Int) : RdAt (w.setCell ⟨b, 3, none⟩ (.int .i64 n)) B b g s { Rdr.octS s r with code := n } := h.put3 n

set_option maxHeartbeats 1000000 in
theorem newReader (w : World) (s : ByteArray) (hs : s.size ≤ maxLen) :
    Calls Tryz.prog 100 #[.string s] w fun x w' => ∃ b, x = .returned (.pointer (some ⟨b, 0, none⟩)) ∧ RdAt w' w.heap.size b w.heap.size s (Rdr.start s ch0) ∧ Below w.heap.size w w' := by
  go_enter Tryz.func100, Tryz.ntmps100
  go_wp2_with (go_at_call 94; refine (chances_any _).mono ?_; rintro e w1 ⟨rfl, hn, hb⟩)
  have hl := hn.lt
  have HR : RdAt (w1.alloc (.cells #[.string s, .int .i64 0, .int .i64 4294967295, .int .i64 0, .slice (some ⟨w.heap.size, 0, none⟩) 400 400, .int .i64 0] 188)) w.heap.size w1.heap.size w.heap.size s (Rdr.r0 ch0) :=
    ⟨by simp, by simp [Rdr.r0], by simp [Rdr.r0], by simp [Rdr.r0], by simp, by simp [Rdr.r0], fun o => by simp, World.ownsRow.alloc hn _, by omega, by omega, by simp⟩
  have HB : Below w.heap.size w (w1.alloc (.cells #[.string s, .int .i64 0, .int .i64 4294967295, .int .i64 0, .slice (some ⟨w.heap.size, 0, none⟩) 400 400, .int .i64 0] 188)) := hb.alloc hb.size _
  obtain ⟨rb, hrb⟩ : ∃ rb, rb = w1.heap.size := ⟨_, rfl⟩
  have hlo : w.heap.size ≤ rb := by rw [hrb]; exact hb.size
  rw [← hrb] at HR ⊢
  clear hrb hl hn hb
  go_loopw [4, 5] (fun i _ wr => ∃ k : Nat, k ≤ 4 ∧ i = .int .i64 k ∧ RdAt wr w.heap.size rb w.heap.size s (Rdr.four s (Rdr.r0 ch0) k) ∧ Below w.heap.size w wr) (fun i _ _ => 4 - (intOf i).toNat)
  case atStart => exact ⟨0, by omega, rfl, HR, HB⟩
  case round =>
    clear HR HB
    obtain ⟨k, hk, rfl, hr, hbr⟩ := hrel
    obtain ⟨h1, h2, h3, h4, h5, h6⟩ := Rdr.four_facts s ch0 k
    have i3 := hr.c3
    have i5 := hr.c5
    have f3 := hr.fz 3
    by_cases hlt : k < 4
    · have hlt' : (k : Int) < 4 := by omega
      have hcode : (Rdr.four s (Rdr.r0 ch0) k).code ≤ 16777215 := by
        rcases (by omega : k = 0 ∨ k = 1 ∨ k = 2 ∨ k = 3) with rfl | rfl | rfl | rfl <;> omega
      obtain ⟨q, hq⟩ : ∃ q, q = Rdr.four s (Rdr.r0 ch0) k := ⟨_, rfl⟩
      have hsucc : Hid (Rdr.four s (Rdr.r0 ch0) (k + 1) = { Rdr.octS s q with code := 256 * q.code + Rdr.octB s q }) := by rw [hq]; rfl
      rw [← hq] at hr h1 h5 hcode i3 i5
      clear hq h2 h3 h4 h6
      go_wp2_with (go_at_call 127; refine (roctet _ w.heap.size rb w.heap.size s q hr h1 hs).mono ?_; rintro x w2 ⟨rfl, g1, g2⟩; have j3 := g1.c3; rw [octS_code] at j3; have e3 := g1.fz 3; have hob := octB_bd s q)
      go_roundw
      case rel => exact ⟨k + 1, by omega, by go_num, by rw [hsucc.out]; exact g1.put3 _, (hbr.trans (g2.below hbr.size (fun j hj => by rcases hj with rfl | rfl <;> omega))).setCell hlo _⟩
      case measure => simp [intOf]; omega
    · obtain rfl : k = 4 := by omega
      by_cases he : (Rdr.four s (Rdr.r0 ch0) 4).err = 0
      · have HE : Hid ((Rdr.four s (Rdr.r0 ch0) 4).err = 0) := he
        rw [he] at i5
        clear he
        by_cases hc : 4294967295 ≤ (Rdr.four s (Rdr.r0 ch0) 4).code
        · go_wp2_with (go_at_call 128; refine (rfail _ w.heap.size rb w.heap.size s _ 7 hr).mono ?_; rintro x w2 ⟨rfl, g1, g2⟩)
          go_ret
          exact ⟨rb, rfl, by rw [Rdr.start_eq, if_pos ⟨HE.out, hc⟩]; exact g1, hbr.trans (g2.below hbr.size (fun j hj => by rcases hj with rfl | rfl <;> omega))⟩
        · go_wp2
          go_ret
          exact ⟨rb, rfl, by rw [Rdr.start_eq, if_neg (fun e => by omega)]; exact hr, hbr⟩
      · have HE : Hid (¬ (Rdr.four s (Rdr.r0 ch0) 4).err = 0) := he
        have hd : ((Rdr.four s (Rdr.r0 ch0) 4).err == 0) = false := by simpa using he
        clear he
        go_wp2
        go_ret
        exact ⟨rb, rfl, by rw [Rdr.start_eq, if_neg (fun e => HE.out e.1)]; exact hr, hbr⟩

set_option maxHeartbeats 400000 in
theorem rend (w : World) (B b g : Nat) (s : ByteArray) (r : RS) (h : RdAt w B b g s r) :
    Calls Tryz.prog 102 #[.pointer (some ⟨b, 0, none⟩)] w fun x w' => x = .returned (.tuple #[]) ∧ RdAt w' B b g s (Rdr.finish s r) ∧ Frm (rdS b g) w w' := by
  have i0 := h.c0
  have i1 := h.c1
  have i5 := h.c5
  have f5 := h.fz 5
  by_cases he : r.err = 0
  · have HE : Hid (r.err = 0) := he
    have hd : (r.err == 0) = true := by simpa using he
    rw [he] at i5
    clear he
    by_cases hl : r.pos < s.size
    · have hl' : (r.pos : Int) < (s.size : Int) := by omega
      go_enter Tryz.func102, Tryz.ntmps102
      go_wp2
      go_quiet (fail)
      go_wp2
      go_end0
      exact ⟨rfl, by unfold Rdr.finish; rw [if_pos ⟨HE.out, hl⟩]; exact (h.drewN _).put5 6, ((Frm.refl _ w).drewN _).setCell (.inl (.inl rfl)) _⟩
    · have hl' : ¬ (r.pos : Int) < (s.size : Int) := by omega
      go_enter Tryz.func102, Tryz.ntmps102
      go_wp2
      go_quiet (fail)
      go_wp2
      go_end0
      exact ⟨rfl, by unfold Rdr.finish; rw [if_neg (fun e => hl e.2)]; exact h.drewN _, (Frm.refl _ w).drewN _⟩
  · have HE : Hid (¬ r.err = 0) := he
    have hd : (r.err == 0) = false := by simpa using he
    clear he
    go_enter Tryz.func102, Tryz.ntmps102
    go_wp2
    go_quiet (fail)
    go_wp2
    go_end0
    exact ⟨rfl, by unfold Rdr.finish; rw [if_neg (fun e => HE.out e.1)]; exact h.drewN _, (Frm.refl _ w).drewN _⟩

end Go.Proofs.YtekfbphnoibnjaaGreatDoor
