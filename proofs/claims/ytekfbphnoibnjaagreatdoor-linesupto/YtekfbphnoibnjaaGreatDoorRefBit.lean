/-
  The document's reader reads one bit: against the plain one.
-/
import Derived.Test.YtekfbphnoibnjaaGreatDoorRefRd
namespace Go.Proofs.YtekfbphnoibnjaaGreatDoor
open Go.RowKit

set_option maxHeartbeats 400000 in
theorem rbit_err (w : World) (B b g : Nat) (s : ByteArray) (r : RS) (k : Int) (h : RdAt w B b g s r) (he : (r.err == 0) = false) :
    Calls Tryz.prog 101 #[.pointer (some ⟨b, 0, none⟩), .int .i64 k] w fun x w' => x = .returned (.int .i64 0) ∧ w' = w := by
  have i5 := h.c5
  go_enter Tryz.func101, Tryz.ntmps101
  go_wp2
  go_ret
  exact ⟨rfl, rfl⟩

set_option maxHeartbeats 1000000 in
set_option maxRecDepth 20000 in
theorem rbit_zero (w : World) (B b g : Nat) (s : ByteArray) (pos : Nat) (R C : Int) (ch : List Int) (k : Nat) (c : Int) (h : RdAt w B b g s ⟨pos, R, C, ch, 0⟩) (hs : s.size ≤ maxLen) (hp : pos ≤ s.size)
    (hk : k < 400) (hc : ch.getD k 0 = c) (c0 : 31 ≤ c) (c1 : c ≤ 4065) (R0 : 16777216 ≤ R) (R1 : R ≤ 4294967295) (C0 : 0 ≤ C) (C1 : C < R / 4096 * c) (m0 : 126976 ≤ R / 4096 * c) (m1 : R / 4096 * c + 126976 ≤ R) :
    Calls Tryz.prog 101 #[.pointer (some ⟨b, 0, none⟩), .int .i64 k] w fun x w' => x = .returned (.int .i64 0) ∧ RdAt w' B b g s (Rdr.norm s ⟨pos, R / 4096 * c, C, ch.set k (c + (4096 - c) / 32), 0⟩) ∧ Frm (rdS b g) w w' := by
  obtain ⟨q, hq⟩ : ∃ q : RS, q = ⟨pos, R / 4096 * c, C, ch.set k (c + (4096 - c) / 32), 0⟩ := ⟨_, rfl⟩
  have HQ : Hid (RdAt ((w.setCell ⟨b, 2, none⟩ (.int .i64 (R / 4096 * c))).setCell ⟨g, k, none⟩ (.int .i64 (c + (4096 - c) / 32))) B b g s q) := by rw [hq]; exact (h.put2 _).putC k _
  have HF : Hid (Frm (rdS b g) w ((w.setCell ⟨b, 2, none⟩ (.int .i64 (R / 4096 * c))).setCell ⟨g, k, none⟩ (.int .i64 (c + (4096 - c) / 32)))) := ((Frm.refl _ w).setCell (.inl (.inl rfl)) _).setCell (.inl (.inr rfl)) _
  have HE : Hid (q.err = 0) := by rw [hq]; rfl
  have q0 : 126976 ≤ q.rng := by rw [hq]; exact m0
  have q1 : q.rng ≤ 4294967295 := by rw [hq]; show R / 4096 * c ≤ 4294967295; omega
  have q2 : 0 ≤ q.code := by rw [hq]; exact C0
  have q3 : q.code ≤ 4294967295 := by rw [hq]; show C ≤ 4294967295; omega
  have q4 : q.pos ≤ s.size := by rw [hq]; exact hp
  have hck := h.nums.cell k hk
  rw [show (RS.ch ⟨pos, R, C, ch, 0⟩) = ch from rfl, hc] at hck
  have hfk := h.nums.frozen k
  have hne := h.ne
  have hne' : g ≠ b := fun e => hne e.symm
  have hk' : (k : Int) < 400 := by omega
  have i2 := h.c2
  have i3 := h.c3
  have i4 := h.c4
  have i5 := h.c5
  have f2 := h.fz 2
  have f3 := h.fz 3
  have HH : Hid (q = ⟨pos, R / 4096 * c, C, ch.set k (c + (4096 - c) / 32), 0⟩) := hq
  clear hq h
  go_enter Tryz.func101, Tryz.ntmps101
  go_wp2
  clear hck hfk i2 i3 i4 i5 f2 f3
  go_loopw [8] (fun _ wr => (RdAt wr B b g s q ∨ (q.rng < 16777216 ∧ RdAt wr B b g s (Rdr.pull s q))) ∧ Frm (rdS b g) w wr) (fun _ wr => 16777216 - rngOf wr b)
  case atStart => exact ⟨.inl HQ.out, HF.out⟩
  case round =>
    obtain ⟨hor, hfr⟩ := hrel
    rcases hor with hq | ⟨hlow, hq⟩
    · have i2 := hq.c2
      have i5 := hq.c5
      rw [HE.out] at i5
      by_cases hlow : q.rng < 16777216
      · go_wp2_with (go_at_call 127; refine (roctet _ B b g s q hq q4 hs).mono ?_; rintro x w1 ⟨rfl, h1, f1⟩; have j2 := h1.c2; have j3 := h1.c3; rw [octS_rng] at j2; rw [octS_code] at j3; have e2 := h1.fz 2; have e3 := h1.fz 3; have hob := octB_bd s q)
        have HN : RdAt ((w1.setCell ⟨b, 2, none⟩ (.int .i64 (256 * q.rng))).setCell ⟨b, 3, none⟩ (.int .i64 (256 * q.code + Rdr.octB s q))) B b g s (Rdr.pull s q) := (h1.put2 _).put3 _
        have m1 := rngOf_eq hq
        have m2 := rngOf_eq HN
        go_roundw
        case rel => exact ⟨.inr ⟨hlow, HN⟩, (((hfr.trans f1).setCell (.inl (.inl rfl)) _).setCell (.inl (.inl rfl)) _)⟩
        case measure =>
          rw [m1, m2]
          show 16777216 - (256 * q.rng).toNat < 16777216 - q.rng.toNat
          omega
      · go_wp2
        go_ret
        exact ⟨rfl, by rw [← HH.out]; unfold Rdr.norm; rw [if_neg (by omega)]; exact hq, hfr⟩
    · have i2 := hq.c2
      have hr : ¬ (Rdr.pull s q).rng < 16777216 := by show ¬ 256 * q.rng < 16777216; omega
      go_wp2
      go_ret
      exact ⟨rfl, by rw [← HH.out]; unfold Rdr.norm; rw [if_pos hlow]; exact hq, hfr⟩

set_option maxHeartbeats 1000000 in
set_option maxRecDepth 20000 in
theorem rbit_one (w : World) (B b g : Nat) (s : ByteArray) (pos : Nat) (R C : Int) (ch : List Int) (k : Nat) (c : Int) (h : RdAt w B b g s ⟨pos, R, C, ch, 0⟩) (hs : s.size ≤ maxLen) (hp : pos ≤ s.size)
    (hk : k < 400) (hc : ch.getD k 0 = c) (c0 : 31 ≤ c) (c1 : c ≤ 4065) (R0 : 16777216 ≤ R) (R1 : R ≤ 4294967295) (C1 : R / 4096 * c ≤ C) (C2 : C < R) (m0 : 126976 ≤ R / 4096 * c) (m1 : R / 4096 * c + 126976 ≤ R) :
    Calls Tryz.prog 101 #[.pointer (some ⟨b, 0, none⟩), .int .i64 k] w fun x w' => x = .returned (.int .i64 1) ∧ RdAt w' B b g s (Rdr.norm s ⟨pos, R - R / 4096 * c, C - R / 4096 * c, ch.set k (c - c / 32), 0⟩) ∧ Frm (rdS b g) w w' := by
  obtain ⟨q, hq⟩ : ∃ q : RS, q = ⟨pos, R - R / 4096 * c, C - R / 4096 * c, ch.set k (c - c / 32), 0⟩ := ⟨_, rfl⟩
  have HQ : Hid (RdAt (((w.setCell ⟨b, 3, none⟩ (.int .i64 (C - R / 4096 * c))).setCell ⟨b, 2, none⟩ (.int .i64 (R - R / 4096 * c))).setCell ⟨g, k, none⟩ (.int .i64 (c - c / 32))) B b g s q) := by rw [hq]; exact ((h.put3 _).put2 _).putC k _
  have HF : Hid (Frm (rdS b g) w (((w.setCell ⟨b, 3, none⟩ (.int .i64 (C - R / 4096 * c))).setCell ⟨b, 2, none⟩ (.int .i64 (R - R / 4096 * c))).setCell ⟨g, k, none⟩ (.int .i64 (c - c / 32)))) := (((Frm.refl _ w).setCell (.inl (.inl rfl)) _).setCell (.inl (.inl rfl)) _).setCell (.inl (.inr rfl)) _
  have HE : Hid (q.err = 0) := by rw [hq]; rfl
  have q0 : 126976 ≤ q.rng := by rw [hq]; show 126976 ≤ R - R / 4096 * c; omega
  have q1 : q.rng ≤ 4294967295 := by rw [hq]; show R - R / 4096 * c ≤ 4294967295; omega
  have q2 : 0 ≤ q.code := by rw [hq]; show 0 ≤ C - R / 4096 * c; omega
  have q3 : q.code ≤ 4294967295 := by rw [hq]; show C - R / 4096 * c ≤ 4294967295; omega
  have q4 : q.pos ≤ s.size := by rw [hq]; exact hp
  have hck := h.nums.cell k hk
  rw [show (RS.ch ⟨pos, R, C, ch, 0⟩) = ch from rfl, hc] at hck
  have hfk := h.nums.frozen k
  have hne := h.ne
  have hne' : g ≠ b := fun e => hne e.symm
  have hk' : (k : Int) < 400 := by omega
  have i2 := h.c2
  have i3 := h.c3
  have i4 := h.c4
  have i5 := h.c5
  have f2 := h.fz 2
  have f3 := h.fz 3
  have HH : Hid (q = ⟨pos, R - R / 4096 * c, C - R / 4096 * c, ch.set k (c - c / 32), 0⟩) := hq
  clear hq h
  go_enter Tryz.func101, Tryz.ntmps101
  go_wp2
  clear hck hfk i2 i3 i4 i5 f2 f3
  go_loopw [8] (fun _ wr => (RdAt wr B b g s q ∨ (q.rng < 16777216 ∧ RdAt wr B b g s (Rdr.pull s q))) ∧ Frm (rdS b g) w wr) (fun _ wr => 16777216 - rngOf wr b)
  case atStart => exact ⟨.inl HQ.out, HF.out⟩
  case round =>
    obtain ⟨hor, hfr⟩ := hrel
    rcases hor with hq | ⟨hlow, hq⟩
    · have i2 := hq.c2
      have i5 := hq.c5
      rw [HE.out] at i5
      by_cases hlow : q.rng < 16777216
      · go_wp2_with (go_at_call 127; refine (roctet _ B b g s q hq q4 hs).mono ?_; rintro x w1 ⟨rfl, h1, f1⟩; have j2 := h1.c2; have j3 := h1.c3; rw [octS_rng] at j2; rw [octS_code] at j3; have e2 := h1.fz 2; have e3 := h1.fz 3; have hob := octB_bd s q)
        have HN : RdAt ((w1.setCell ⟨b, 2, none⟩ (.int .i64 (256 * q.rng))).setCell ⟨b, 3, none⟩ (.int .i64 (256 * q.code + Rdr.octB s q))) B b g s (Rdr.pull s q) := (h1.put2 _).put3 _
        have m1 := rngOf_eq hq
        have m2 := rngOf_eq HN
        go_roundw
        case rel => exact ⟨.inr ⟨hlow, HN⟩, (((hfr.trans f1).setCell (.inl (.inl rfl)) _).setCell (.inl (.inl rfl)) _)⟩
        case measure =>
          rw [m1, m2]
          show 16777216 - (256 * q.rng).toNat < 16777216 - q.rng.toNat
          omega
      · go_wp2
        go_ret
        exact ⟨rfl, by rw [← HH.out]; unfold Rdr.norm; rw [if_neg (by omega)]; exact hq, hfr⟩
    · have i2 := hq.c2
      have hr : ¬ (Rdr.pull s q).rng < 16777216 := by show ¬ 256 * q.rng < 16777216; omega
      go_wp2
      go_ret
      exact ⟨rfl, by rw [← HH.out]; unfold Rdr.norm; rw [if_pos hlow]; exact hq, hfr⟩

theorem rbit (w : World) (B b g : Nat) (s : ByteArray) (r : RS) (k : Nat) (h : RdAt w B b g s r) (ok : Rdr.Ok s r) (hs : s.size ≤ maxLen) (hk : k < 400) :
    Calls Tryz.prog 101 #[.pointer (some ⟨b, 0, none⟩), .int .i64 k] w fun x w' => x = .returned (.int .i64 (Rdr.bitV r k)) ∧ RdAt w' B b g s (Rdr.bitS s r k) ∧ Frm (rdS b g) w w' := by
  by_cases he : r.err = 0
  · obtain ⟨pos, R, C, ch, e⟩ := r
    obtain rfl : e = 0 := he
    obtain ⟨g0, g1⟩ := ok.rng rfl
    obtain ⟨c0, c1⟩ := ok.code rfl
    have hb := ok.ch.2 k hk
    have hc := Rdr.cut_bd (r := ⟨pos, R, C, ch, 0⟩) hk ok.ch g0 g1
    by_cases hlt : C < R / 4096 * ch.getD k 0
    · have hcut : (RS.code ⟨pos, R, C, ch, 0⟩) < Rdr.cut ⟨pos, R, C, ch, 0⟩ k := hlt
      refine (rbit_zero w B b g s pos R C ch k _ h hs ok.pos hk rfl hb.1 hb.2 g0 g1 c0 hlt hc.1 hc.2).mono ?_
      rintro x w' ⟨rfl, h1, h2⟩
      have e1 : Rdr.bitV ⟨pos, R, C, ch, 0⟩ k = 0 := by unfold Rdr.bitV; rw [if_pos rfl, if_pos hcut]
      have e2 : Rdr.bitS s ⟨pos, R, C, ch, 0⟩ k = Rdr.norm s ⟨pos, R / 4096 * ch.getD k 0, C, ch.set k (ch.getD k 0 + (4096 - ch.getD k 0) / 32), 0⟩ := by
        unfold Rdr.bitS; rw [if_pos rfl, if_pos hcut]; rfl
      rw [e1, e2]
      exact ⟨rfl, h1, h2⟩
    · have hcut : ¬ (RS.code ⟨pos, R, C, ch, 0⟩) < Rdr.cut ⟨pos, R, C, ch, 0⟩ k := hlt
      refine (rbit_one w B b g s pos R C ch k _ h hs ok.pos hk rfl hb.1 hb.2 g0 g1 (by omega) c1 hc.1 hc.2).mono ?_
      rintro x w' ⟨rfl, h1, h2⟩
      have e1 : Rdr.bitV ⟨pos, R, C, ch, 0⟩ k = 1 := by unfold Rdr.bitV; rw [if_pos rfl, if_neg hcut]
      have e2 : Rdr.bitS s ⟨pos, R, C, ch, 0⟩ k = Rdr.norm s ⟨pos, R - R / 4096 * ch.getD k 0, C - R / 4096 * ch.getD k 0, ch.set k (ch.getD k 0 - ch.getD k 0 / 32), 0⟩ := by
        unfold Rdr.bitS; rw [if_pos rfl, if_neg hcut]; rfl
      rw [e1, e2]
      exact ⟨rfl, h1, h2⟩
  · refine (rbit_err w B b g s r k h (by simpa using he)).mono ?_
    rintro x w' ⟨rfl, rfl⟩
    have e1 : Rdr.bitV r k = 0 := by unfold Rdr.bitV; rw [if_neg he]
    have e2 : Rdr.bitS s r k = r := by unfold Rdr.bitS; rw [if_neg he]
    rw [e1, e2]
    exact ⟨rfl, h, Frm.refl _ _⟩

end Go.Proofs.YtekfbphnoibnjaaGreatDoor
