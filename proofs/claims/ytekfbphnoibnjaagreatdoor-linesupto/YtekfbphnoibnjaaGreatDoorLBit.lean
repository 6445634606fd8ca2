/-
  The program's reader reads one bit; a line's end: against the plain one.
-/
import Derived.Test.YtekfbphnoibnjaaGreatDoorLRd
namespace Go.Proofs.YtekfbphnoibnjaaGreatDoor
open Go.RowKit

/-- The range that the reader at block b has. -/
def spanOf (w : World) (b : Nat) : Nat := (intOf ((w.cell? ⟨b, 1, none⟩).getD undef)).toNat
theorem spanOf_eq {w : World} {b : Nat} {s : ByteArray} {r : RS} (h : PR w b s r) : spanOf w b = r.rng.toNat := by
  unfold spanOf; rw [h.c1]; rfl

theorem octS_nil {s : ByteArray} {r : RS} (hp : r.pos < s.size) : Rdr.octS s r = { r with pos := r.pos + 1 } := by unfold Rdr.octS; rw [if_pos hp]
theorem pull_err {s : ByteArray} {r : RS} (he : r.err = 0) (hp : ¬ r.pos < s.size) : (Rdr.pull s r).err = 5 := by
  unfold Rdr.pull
  show (Rdr.octS s r).err = 5
  unfold Rdr.octS
  rw [if_neg hp]
  show (if r.err = 0 then 5 else r.err) = 5
  rw [if_pos he]
theorem pull_ok {s : ByteArray} {r : RS} (he : r.err = 0) (hp : r.pos < s.size) : (Rdr.pull s r).err = 0 := by
  unfold Rdr.pull
  show (Rdr.octS s r).err = 0
  rw [octS_nil hp]; exact he

/-- What is left behind a bit: the loop that pulls bytes in. -/
def bitEnd (a0 a1 a2 : Addr) (w0 : World) (b : Nat) (s : ByteArray) (v : Int) (q : RS) (x : Ending) (w' : World) : Prop :=
  x = .returned (.tuple #[.int .i64 (if (Rdr.norm s q).err = 0 then v else 0), errV a0 a1 a2 (Rdr.norm s q).err]) ∧ ((Rdr.norm s q).err = 0 → PR w' b s (Rdr.norm s q)) ∧ Frm (oneS b) w0 w'

set_option maxHeartbeats 2000000 in
set_option maxRecDepth 20000 in
theorem pBit_zero (w : World) (b : Nat) (s : ByteArray) (pos : Nat) (R C : Int) (ch : List Int) (k : Nat) (c : Int) (a0 a1 a2 : Addr) (h : PR w b s ⟨pos, R, C, ch, 0⟩) (hs : s.size ≤ maxLen) (hp : pos ≤ s.size) (hE : b ≠ 1) (hv : w.cell? ⟨1, 0, none⟩ = some (.iface 278 (.pointer (some a0))))
    (hk : k < 400) (hc : ch.getD k 0 = c) (c0 : 31 ≤ c) (c1 : c ≤ 4065) (R0 : 16777216 ≤ R) (R1 : R ≤ 4294967295) (C0 : 0 ≤ C) (C1 : C < R / 4096 * c) (m0 : 126976 ≤ R / 4096 * c) (m1 : R / 4096 * c + 126976 ≤ R) :
    Calls Tryz.prog 129 #[.pointer (some ⟨b, 0, none⟩), .int .i64 k] w fun x w' => bitEnd a0 a1 a2 w b s 0 ⟨pos, R / 4096 * c, C, ch.set k (c + (4096 - c) / 32), 0⟩ x w' := by
  obtain ⟨q, hq⟩ : ∃ q : RS, q = ⟨pos, R / 4096 * c, C, ch.set k (c + (4096 - c) / 32), 0⟩ := ⟨_, rfl⟩
  have HQ : ∀ n : Nat, Hid (PR ((((w.drewN n).setCell ⟨b, 1, none⟩ (.int .u32 (R / 4096 * c))).setCell ⟨b, 3 + k, none⟩ (.int .u32 (c + (4096 - c) / 32))).drew) b s q ∧ Frm (oneS b) w ((((w.drewN n).setCell ⟨b, 1, none⟩ (.int .u32 (R / 4096 * c))).setCell ⟨b, 3 + k, none⟩ (.int .u32 (c + (4096 - c) / 32))).drew)) := fun n => by
    rw [hq]; exact ⟨(((h.drewN n).put1 (R / 4096 * c)).putC k _).drew, ((((Frm.refl (oneS b) w).drewN n).setCell (.inl (show oneS b b from rfl)) (.int .u32 (R / 4096 * c))).setCell (.inl (show oneS b b from rfl)) _).drew⟩
  have HE : Hid (q.err = 0) := by rw [hq]; rfl
  have q0 : 126976 ≤ q.rng := by rw [hq]; exact m0
  have q1 : q.rng ≤ 4294967295 := by rw [hq]; show R / 4096 * c ≤ 4294967295; omega
  have q2 : 0 ≤ q.code := by rw [hq]; exact C0
  have q3 : q.code < q.rng := by rw [hq]; exact C1
  have q4 : q.pos ≤ s.size := by rw [hq]; exact hp
  have hck := h.ch.cell k hk
  rw [show (RS.ch ⟨pos, R, C, ch, 0⟩) = ch from rfl, hc] at hck
  have hfk := h.ch.fz k hk
  have hckn : ∀ n : Nat, (w.drewN n).cell? ⟨b, 3 + k, none⟩ = some (.int .u32 c) := fun n => hck
  have hfkn : ∀ n : Nat, (w.drewN n).frozen? ⟨b, 3 + k, none⟩ = false := fun n => hfk
  have i1 := h.c1
  have i2 := h.c2
  have f1 := h.fz 1 (by decide)
  have f2 := h.fz 2 (by decide)
  have HH : Hid (q = ⟨pos, R / 4096 * c, C, ch.set k (c + (4096 - c) / 32), 0⟩) := hq
  have hk' : (k : Int) < 400 := by omega
  clear hq h
  go_enter Tryz.func129, Tryz.ntmps129
  go_wp2
  go_quiet ((go_at_call 143; exact Calls.quiet_of_same (chCut _ b 3 k R c hk (by simpa using hck) (by omega) (by omega) (by omega) (by omega))))
  go_wp2_with (go_at_call 144; refine (chLearn0 _ b 3 k c hk (by first | exact cell_off (hckn _) (.inr (by omega)) | exact cell_off (cell_off (hckn _) (.inr (by omega))) (.inr (by omega))) (by simp only [World.frozen?_setCell]; exact hfkn _) c0 c1).mono ?_; rintro e w1 ⟨rfl, rfl⟩)
  have HQn := HQ nq
  clear HQ hck hfk hckn hfkn i1 i2 f1 f2 m0 m1
  go_loopw [8] (fun _ wr => (PR wr b s q ∨ (q.rng < 16777216 ∧ q.pos < s.size ∧ PR wr b s (Rdr.pull s q))) ∧ Frm (oneS b) w wr) (fun _ wr => 16777216 - spanOf wr b)
  case atStart => exact ⟨.inl HQn.out.1, HQn.out.2⟩
  case round =>
    obtain ⟨hor, hfr⟩ := hrel
    clear HQn
    rcases hor with hq | ⟨hlow, hpp, hq⟩
    · have i1 := hq.c1
      by_cases hlow : q.rng < 16777216
      · have HN : Hid (Rdr.norm s q = Rdr.pull s q) := by unfold Hid Rdr.norm; rw [if_pos hlow]
        by_cases hpp : q.pos < s.size
        · go_wp2_with (go_at_call 85; refine (shift_next _ b s q hq hpp hs q2 (by omega)).mono ?_; rintro x w1 ⟨rfl, h1, f1⟩; have j1 := h1.c1; have e1 := h1.fz 1 (by decide))
          have HP : PR (w1.setCell ⟨b, 1, none⟩ (.int .u32 (256 * q.rng))) b s (Rdr.pull s q) := by
            have := h1.put1 (256 * q.rng)
            unfold Rdr.pull
            rw [octS_nil hpp]
            exact this
          have m1 := spanOf_eq hq
          have m2 := spanOf_eq HP
          rw [Int.mul_comm q.rng 256]
          go_roundw
          case rel => exact ⟨.inr ⟨hlow, hpp, HP⟩, (hfr.trans f1).setCell (.inl (show oneS b b from rfl)) _⟩
          case measure =>
            rw [m1, m2]
            show 16777216 - (256 * q.rng).toNat < 16777216 - q.rng.toNat
            omega
        · have hvv := hfr.cell hv (fun h => hE h.symm)
          have hpe : Hid ((Rdr.pull s q).err = 5) := pull_err HE.out hpp
          go_wp2_with (go_at_call 85; refine (shift_end _ b s q a0 hq (by omega) hvv).mono ?_; rintro x w1 ⟨rfl, rfl⟩)
          go_ret2
          rw [← HH.out]
          refine ⟨?_, fun h => absurd (by rw [HN.out, hpe.out] at h; exact h) (by decide), hfr⟩
          rw [HN.out, hpe.out]; rfl
      · have HN : Hid (Rdr.norm s q = q) := by unfold Hid Rdr.norm; rw [if_neg hlow]
        go_wp2
        go_ret2
        rw [← HH.out]
        refine ⟨?_, fun _ => by rw [HN.out]; exact hq, hfr⟩
        rw [HN.out, HE.out]; rfl
    · have HN : Hid (Rdr.norm s q = Rdr.pull s q) := by unfold Hid Rdr.norm; rw [if_pos hlow]
      have hpe : Hid ((Rdr.pull s q).err = 0) := pull_ok HE.out hpp
      have i1 := hq.c1
      have hr : ¬ (Rdr.pull s q).rng < 16777216 := by show ¬ 256 * q.rng < 16777216; omega
      go_wp2
      go_ret2
      rw [← HH.out]
      refine ⟨?_, fun _ => by rw [HN.out]; exact hq, hfr⟩
      rw [HN.out, hpe.out]; rfl

set_option maxHeartbeats 2000000 in
set_option maxRecDepth 20000 in
theorem pBit_one (w : World) (b : Nat) (s : ByteArray) (pos : Nat) (R C : Int) (ch : List Int) (k : Nat) (c : Int) (a0 a1 a2 : Addr) (h : PR w b s ⟨pos, R, C, ch, 0⟩) (hs : s.size ≤ maxLen) (hp : pos ≤ s.size) (hE : b ≠ 1) (hv : w.cell? ⟨1, 0, none⟩ = some (.iface 278 (.pointer (some a0))))
    (hk : k < 400) (hc : ch.getD k 0 = c) (c0 : 31 ≤ c) (c1 : c ≤ 4065) (R0 : 16777216 ≤ R) (R1 : R ≤ 4294967295) (C1 : R / 4096 * c ≤ C) (C2 : C < R) (m0 : 126976 ≤ R / 4096 * c) (m1 : R / 4096 * c + 126976 ≤ R) :
    Calls Tryz.prog 129 #[.pointer (some ⟨b, 0, none⟩), .int .i64 k] w fun x w' => bitEnd a0 a1 a2 w b s 1 ⟨pos, R - R / 4096 * c, C - R / 4096 * c, ch.set k (c - c / 32), 0⟩ x w' := by
  obtain ⟨q, hq⟩ : ∃ q : RS, q = ⟨pos, R - R / 4096 * c, C - R / 4096 * c, ch.set k (c - c / 32), 0⟩ := ⟨_, rfl⟩
  have HQ : ∀ n : Nat, Hid (PR (((((w.drewN n).setCell ⟨b, 2, none⟩ (.int .u32 (C - R / 4096 * c))).setCell ⟨b, 1, none⟩ (.int .u32 (R - R / 4096 * c))).setCell ⟨b, 3 + k, none⟩ (.int .u32 (c - c / 32))).drew) b s q ∧ Frm (oneS b) w (((((w.drewN n).setCell ⟨b, 2, none⟩ (.int .u32 (C - R / 4096 * c))).setCell ⟨b, 1, none⟩ (.int .u32 (R - R / 4096 * c))).setCell ⟨b, 3 + k, none⟩ (.int .u32 (c - c / 32))).drew)) := fun n => by
    rw [hq]; exact ⟨((((h.drewN n).put2 (C - R / 4096 * c)).put1 (R - R / 4096 * c)).putC k _).drew, (((((Frm.refl (oneS b) w).drewN n).setCell (.inl (show oneS b b from rfl)) (.int .u32 (C - R / 4096 * c))).setCell (.inl (show oneS b b from rfl)) (.int .u32 (R - R / 4096 * c))).setCell (.inl (show oneS b b from rfl)) _).drew⟩
  have HE : Hid (q.err = 0) := by rw [hq]; rfl
  have q0 : 126976 ≤ q.rng := by rw [hq]; show 126976 ≤ R - R / 4096 * c; omega
  have q1 : q.rng ≤ 4294967295 := by rw [hq]; show R - R / 4096 * c ≤ 4294967295; omega
  have q2 : 0 ≤ q.code := by rw [hq]; show 0 ≤ C - R / 4096 * c; omega
  have q3 : q.code < q.rng := by rw [hq]; show C - R / 4096 * c < R - R / 4096 * c; omega
  have q4 : q.pos ≤ s.size := by rw [hq]; exact hp
  have hck := h.ch.cell k hk
  rw [show (RS.ch ⟨pos, R, C, ch, 0⟩) = ch from rfl, hc] at hck
  have hfk := h.ch.fz k hk
  have hckn : ∀ n : Nat, (w.drewN n).cell? ⟨b, 3 + k, none⟩ = some (.int .u32 c) := fun n => hck
  have hfkn : ∀ n : Nat, (w.drewN n).frozen? ⟨b, 3 + k, none⟩ = false := fun n => hfk
  have i1 := h.c1
  have i2 := h.c2
  have f1 := h.fz 1 (by decide)
  have f2 := h.fz 2 (by decide)
  have HH : Hid (q = ⟨pos, R - R / 4096 * c, C - R / 4096 * c, ch.set k (c - c / 32), 0⟩) := hq
  have hk' : (k : Int) < 400 := by omega
  clear hq h
  go_enter Tryz.func129, Tryz.ntmps129
  go_wp2
  go_quiet ((go_at_call 143; exact Calls.quiet_of_same (chCut _ b 3 k R c hk (by simpa using hck) (by omega) (by omega) (by omega) (by omega))))
  go_wp2_with (go_at_call 144; refine (chLearn1 _ b 3 k c hk (by first | exact cell_off (hckn _) (.inr (by omega)) | exact cell_off (cell_off (hckn _) (.inr (by omega))) (.inr (by omega))) (by simp only [World.frozen?_setCell]; exact hfkn _) c0 c1).mono ?_; rintro e w1 ⟨rfl, rfl⟩)
  have HQn := HQ nq
  clear HQ hck hfk hckn hfkn i1 i2 f1 f2 m0 m1
  go_loopw [8] (fun _ wr => (PR wr b s q ∨ (q.rng < 16777216 ∧ q.pos < s.size ∧ PR wr b s (Rdr.pull s q))) ∧ Frm (oneS b) w wr) (fun _ wr => 16777216 - spanOf wr b)
  case atStart => exact ⟨.inl HQn.out.1, HQn.out.2⟩
  case round =>
    obtain ⟨hor, hfr⟩ := hrel
    clear HQn
    rcases hor with hq | ⟨hlow, hpp, hq⟩
    · have i1 := hq.c1
      by_cases hlow : q.rng < 16777216
      · have HN : Hid (Rdr.norm s q = Rdr.pull s q) := by unfold Hid Rdr.norm; rw [if_pos hlow]
        by_cases hpp : q.pos < s.size
        · go_wp2_with (go_at_call 85; refine (shift_next _ b s q hq hpp hs q2 (by omega)).mono ?_; rintro x w1 ⟨rfl, h1, f1⟩; have j1 := h1.c1; have e1 := h1.fz 1 (by decide))
          have HP : PR (w1.setCell ⟨b, 1, none⟩ (.int .u32 (256 * q.rng))) b s (Rdr.pull s q) := by
            have := h1.put1 (256 * q.rng)
            unfold Rdr.pull
            rw [octS_nil hpp]
            exact this
          have m1 := spanOf_eq hq
          have m2 := spanOf_eq HP
          rw [Int.mul_comm q.rng 256]
          go_roundw
          case rel => exact ⟨.inr ⟨hlow, hpp, HP⟩, (hfr.trans f1).setCell (.inl (show oneS b b from rfl)) _⟩
          case measure =>
            rw [m1, m2]
            show 16777216 - (256 * q.rng).toNat < 16777216 - q.rng.toNat
            omega
        · have hvv := hfr.cell hv (fun h => hE h.symm)
          have hpe : Hid ((Rdr.pull s q).err = 5) := pull_err HE.out hpp
          go_wp2_with (go_at_call 85; refine (shift_end _ b s q a0 hq (by omega) hvv).mono ?_; rintro x w1 ⟨rfl, rfl⟩)
          go_ret2
          rw [← HH.out]
          refine ⟨?_, fun h => absurd (by rw [HN.out, hpe.out] at h; exact h) (by decide), hfr⟩
          rw [HN.out, hpe.out]; rfl
      · have HN : Hid (Rdr.norm s q = q) := by unfold Hid Rdr.norm; rw [if_neg hlow]
        go_wp2
        go_ret2
        rw [← HH.out]
        refine ⟨?_, fun _ => by rw [HN.out]; exact hq, hfr⟩
        rw [HN.out, HE.out]; rfl
    · have HN : Hid (Rdr.norm s q = Rdr.pull s q) := by unfold Hid Rdr.norm; rw [if_pos hlow]
      have hpe : Hid ((Rdr.pull s q).err = 0) := pull_ok HE.out hpp
      have i1 := hq.c1
      have hr : ¬ (Rdr.pull s q).rng < 16777216 := by show ¬ 256 * q.rng < 16777216; omega
      go_wp2
      go_ret2
      rw [← HH.out]
      refine ⟨?_, fun _ => by rw [HN.out]; exact hq, hfr⟩
      rw [HN.out, hpe.out]; rfl

theorem bitS_err {s : ByteArray} {r : RS} {k : Nat} (he : r.err = 0) : Rdr.bitS s r k = Rdr.norm s (if r.code < Rdr.cut r k then Rdr.zero r k else Rdr.one r k) := by
  unfold Rdr.bitS
  rw [if_pos he]
  split <;> rfl

theorem pBit (w : World) (b : Nat) (s : ByteArray) (r : RS) (k : Nat) (a0 a1 a2 : Addr) (h : PR w b s r) (ok : Rdr.Ok s r) (he : r.err = 0) (hs : s.size ≤ maxLen) (hk : k < 400) (hE : b ≠ 1) (hv : w.cell? ⟨1, 0, none⟩ = some (.iface 278 (.pointer (some a0)))) :
    Calls Tryz.prog 129 #[.pointer (some ⟨b, 0, none⟩), .int .i64 k] w fun x w' => x = .returned (.tuple #[.int .i64 (if (Rdr.bitS s r k).err = 0 then Rdr.bitV r k else 0), errV a0 a1 a2 (Rdr.bitS s r k).err]) ∧ ((Rdr.bitS s r k).err = 0 → PR w' b s (Rdr.bitS s r k)) ∧ Frm (oneS b) w w' := by
  obtain ⟨pos, R, C, ch, e⟩ := r
  obtain rfl : e = 0 := he
  obtain ⟨g0, g1⟩ := ok.rng rfl
  obtain ⟨c0, c1⟩ := ok.code rfl
  have hb := ok.ch.2 k hk
  have hc := Rdr.cut_bd (r := ⟨pos, R, C, ch, 0⟩) hk ok.ch g0 g1
  rw [bitS_err rfl]
  by_cases hlt : C < R / 4096 * ch.getD k 0
  · have hcut : (RS.code ⟨pos, R, C, ch, 0⟩) < Rdr.cut ⟨pos, R, C, ch, 0⟩ k := hlt
    have e1 : Rdr.bitV ⟨pos, R, C, ch, 0⟩ k = 0 := by unfold Rdr.bitV; rw [if_pos rfl, if_pos hcut]
    rw [if_pos hcut, e1]
    exact pBit_zero w b s pos R C ch k _ a0 a1 a2 h hs ok.pos hE hv hk rfl hb.1 hb.2 g0 g1 c0 hlt hc.1 hc.2
  · have hcut : ¬ (RS.code ⟨pos, R, C, ch, 0⟩) < Rdr.cut ⟨pos, R, C, ch, 0⟩ k := hlt
    have e1 : Rdr.bitV ⟨pos, R, C, ch, 0⟩ k = 1 := by unfold Rdr.bitV; rw [if_pos rfl, if_neg hcut]
    rw [if_neg hcut, e1]
    exact pBit_one w b s pos R C ch k _ a0 a1 a2 h hs ok.pos hE hv hk rfl hb.1 hb.2 g0 g1 (Int.not_lt.1 hlt) c1 hc.1 hc.2

set_option maxHeartbeats 400000 in
theorem pEnd (w : World) (b : Nat) (s : ByteArray) (r : RS) (a0 a1 a2 : Addr) (h : PR w b s r) (he : r.err = 0) (hv : w.cell? ⟨6, 0, none⟩ = some (.iface 278 (.pointer (some a1)))) :
    Calls Tryz.prog 47 #[.pointer (some ⟨b, 0, none⟩)] w fun x w' => x = .returned (errV a0 a1 a2 (Rdr.finish s r).err) ∧ w' = w := by
  have i0 := h.c0
  by_cases hl : r.pos < s.size
  · have e6 : Hid ((Rdr.finish s r).err = 6) := by unfold Hid Rdr.finish; rw [if_pos ⟨he, hl⟩]
    obtain ⟨t, ht⟩ : ∃ t, t = s.extract r.pos s.size := ⟨_, rfl⟩
    have hem : t.toList.isEmpty = false := isEmpty_pos t (by rw [ht, rest_size]; omega)
    rw [← ht] at i0
    clear ht h he
    go_enter Tryz.func47, Tryz.ntmps47
    go_wp2
    go_ret
    exact ⟨by rw [e6.out]; rfl, rfl⟩
  · have e0 : Hid ((Rdr.finish s r).err = 0) := by unfold Hid Rdr.finish; rw [if_neg (fun h => hl h.2)]; exact he
    rw [rest_end s r.pos (by omega)] at i0
    have hem : (ByteArray.mk #[]).toList.isEmpty = true := by rw [ByteArray.toList_eq]; rfl
    clear h he
    go_enter Tryz.func47, Tryz.ntmps47
    go_wp2
    go_ret
    exact ⟨by rw [e0.out]; rfl, rfl⟩

end Go.Proofs.YtekfbphnoibnjaaGreatDoor
