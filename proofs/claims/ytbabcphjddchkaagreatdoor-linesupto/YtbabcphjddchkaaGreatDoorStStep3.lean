/-
  The step Stretch of a script, of no list at all.
-/
import Derived.Test.YtbabcphjddchkaaGreatDoorStStep2
namespace Go.Proofs.YtbabcphjddchkaaGreatDoor
open Go.RowKit

theorem strL_nil (s : ByteArray) : strL s [] = [] := by
  unfold strL
  by_cases h : strE s [] = 0
  · rw [if_pos h]
    exact List.eq_nil_of_length_eq_zero (Rdr.all_len _ _ _ _ (Nat.le_refl _))
  · rw [if_neg h]

def own7 (own : Nat → Nat) (vk vb : Value) : Nat → Nat := fun k => if vk.ownBlock = some k then 60 else if vb.ownBlock = some k then 61 else own k
theorem own7_roles (own : Nat → Nat) {s1 s2 : Nat} {vk vb : Value} (hk : ∀ k, vk.ownBlock = some k → s1 ≤ k ∧ k < s2) (hb : ∀ k, vb.ownBlock = some k → s2 ≤ k) (h12 : s1 ≤ s2) :
    role (own7 own vk vb) vk 60 ∧ role (own7 own vk vb) vb 61 ∧ ∀ k, k < s1 → own7 own vk vb k = own k := by
  refine ⟨fun k e => by unfold own7; rw [if_pos e], fun k e => ?_, fun k e => ?_⟩
  · unfold own7
    rw [if_neg (fun e' => by have := hk k e'; have := hb k e; omega), if_pos e]
  · unfold own7
    rw [if_neg (fun e' => by have := hk k e'; omega), if_neg (fun e' => by have := hb k e'; omega)]

/-- What came out is kept, twice. -/
theorem keep_two {w wH wr : World} {p M : Nat} {own : Nat → Nat} {vi vb vw ve : Value} {ibs : List IntB} {bbs : List BitB} {wts : List Wt} {VK VB : Value} (h : St w wH wr p M own vi vb vw ve ibs bbs wts 0) (ok : wr.ownsRow w.heap.size 3 1 VK ([] : List Int).length (ints [])) (okb : wr.ownsRow w.heap.size 3 1 VB ([] : List Int).length (ints [])) (rk : role own VK 60) (rb : role own VB 61) (hwl : wts.length ≤ 90000000) :
    Calls Tryz.prog 41 #[.pointer (some ⟨p, 0, none⟩), VK, .slice none 0 0] wr fun e w' => e = .returned (.tuple #[]) ∧ Calls Tryz.prog 41 #[.pointer (some ⟨p, 0, none⟩), VB, .slice none 0 0] w' fun e w'' => e = .returned (.tuple #[]) ∧ StW w wH w'' p M vb bbs ibs.length (wts.length + 2) := by
  have nl : ∀ wx : World, wx.ownsRow w.heap.size 3 1 (.slice none 0 0) ([] : List Int).length (ints []) := fun wx => World.ownsRow_nil _ _ _ _
  have rn : ∀ o : Nat → Nat, role o (.slice none 0 0) 62 := fun o k hk => by simp [Value.ownBlock] at hk
  refine (keep_st (zs := []) h rk free60 (fun i _ => by omega) ok (nl _) (fun _ => rfl) (rn _) (by simp) (by omega)).mono ?_
  rintro e w12 ⟨rfl, own12, vw12, ve12, wts12, st12, hwl12, hkey12, hfr12⟩
  refine ⟨rfl, ?_⟩
  refine (keep_st (zs := []) st12 (rb.congr (fun k hk => hkey12 k (World.ownsRow.lt okb k hk).2 (by rw [rb k hk]; decide))) free61 (fun i _ => by omega) (hfr12.owns okb (fun k hk hS => by have := rb k hk; omega)) (nl _) (fun _ => rfl) (rn _) (by simp) (by omega)).mono ?_
  rintro e w13 ⟨rfl, own13, vw13, ve13, wts13, st13, hwl13, _, _⟩
  exact ⟨rfl, ⟨_, _, _, _, _, _, st13, rfl, by omega⟩⟩

set_option maxHeartbeats 4000000 in
set_option maxRecDepth 20000 in
theorem stretches_nil (w wH wr : World) (p M : Nat) (own : Nat → Nat) (vi vb vw ve : Value) (ibs : List IntB) (bbs : List BitB) (wts : List Wt) (h : St w wH wr p M own vi vb vw ve ibs bbs wts 0) (kd : Int) (s : ByteArray) (c0 c1 c2 q0 q1 q2 : Int) (ba : Option Addr) (bl bc : Nat) (cap : Nat) (z : Int) (fa : Option Addr) (fl fc : Nat)
    (hs : s.size ≤ maxLen) (hwl : wts.length ≤ 90000000) (a0 a1 a2 : Addr) (E0 : Errs w a0 a1 a2) :
    Calls Tryz.prog 13 #[.pointer (some ⟨p, 0, none⟩), .agg #[.int .i64 kd, .string s, .int .i64 c0, .int .i64 c1, .int .i64 c2, .int .u8 q0, .int .u8 q1, .int .u8 q2, .slice ba bl bc, .slice none 0 cap, .int .i64 z, .slice fa fl fc]] wr fun e w' => e = .returned (.bool true) ∧ StW w wH w' p M vb bbs ibs.length (wts.length + 2) := by
  have HNI : ∀ (wx : World), Hid (IntsIn wx none 0 ([] : List Int)) := fun wx => ⟨rfl, .inl rfl⟩
  obtain ⟨W0, hW0⟩ : ∃ W0, W0 = wr.alloc (.cells #[.int .i64 kd, .string s, .int .i64 c0, .int .i64 c1, .int .i64 c2, .int .u8 q0, .int .u8 q1, .int .u8 q2, .slice ba bl bc, .slice none 0 cap, .int .i64 z, .slice fa fl fc] 44) := ⟨_, rfl⟩
  obtain ⟨ob, hob⟩ : ∃ ob, ob = wr.heap.size := ⟨_, rfl⟩
  have hbox : Hid (W0.heap[ob]? = some (.cells #[.int .i64 kd, .string s, .int .i64 c0, .int .i64 c1, .int .i64 c2, .int .u8 q0, .int .u8 q1, .int .u8 q2, .slice ba bl bc, .slice none 0 cap, .int .i64 z, .slice fa fl fc] 44 (0, 0))) := by rw [hW0, hob]; exact heap_alloc_last wr _
  have hst0 : St w wH W0 p M own vi vb vw ve ibs bbs wts 0 := h.below (by rw [hW0]; exact (Below.refl _ _).alloc (Nat.le_refl _) _)
  have HE0 : Hid (Errs W0 a0 a1 a2) := E0.below hst0.bel
  have HST : Hid (St w wH W0 p M own vi vb vw ve ibs bbs wts 0) := hst0
  have HW0 : Hid (W0 = wr.alloc (.cells #[.int .i64 kd, .string s, .int .i64 c0, .int .i64 c1, .int .i64 c2, .int .u8 q0, .int .u8 q1, .int .u8 q2, .slice ba bl bc, .slice none 0 cap, .int .i64 z, .slice fa fl fc] 44)) := hW0
  have HOB : Hid (ob = wr.heap.size) := hob
  have hsp : Hid (w.heap.size ≤ W0.heap.size) := hst0.bel.size
  have j1 := boxCell hbox.out 1 _ rfl
  have j9 := boxCell hbox.out 9 _ rfl
  obtain ⟨EE, hEE⟩ : ∃ EE, strE s [] = EE := ⟨_, rfl⟩
  have HEE : Hid (strE s [] = EE) := hEE
  have HLL : Hid (strL s [] = []) := strL_nil s
  have T1 : Hid True := trivial
  have T2 : Hid True := trivial
  have R1 : Hid True := trivial
  have S1 : Hid True := trivial
  have S2 : Hid True := trivial
  have K1 : Hid True := trivial
  have qn := neqNilInts
  clear h hst0 hW0 hob E0
  by_cases hE : EE = 0
  · subst hE
    clear hEE
    go_enter Tryz.func13, Tryz.ntmps13
    go_upto_region 5 with (first
    | (go_at_call 38; rw [← HW0.out]; refine (lentInts_nil W0 0 cap).mono ?_; rintro e w1 ⟨rfl, hw⟩; rw [hw, ← HOB.out]; clear hw)
    | (clear T1; go_at_call 39; refine (pStretch _ s none 0 0 [] (HNI _).out hs a0 a1 a2 HE0.out).mono ?_; rintro e w2 ⟨vk, rfl, hk1, hk2, _, hb2⟩; rw [HEE.out] at hk2 ⊢; rw [HLL.out] at hk1; obtain ⟨ak, ck, rfl, hak⟩ := shapeI (m := 0) hk1 rfl; have BB2 : Hid (w2.heap[ob]? = some (.cells #[.int .i64 kd, .string s, .int .i64 c0, .int .i64 c1, .int .i64 c2, .int .u8 q0, .int .u8 q1, .int .u8 q2, .slice ba bl bc, .slice none 0 cap, .int .i64 z, .slice fa fl fc] 44 (0, 0))) := blk_below hbox.out hb2; have k2 := boxCell BB2.out 1 _ rfl; have E2 : Hid (Errs w2 a0 a1 a2) := HE0.out.below hb2)
    | (clear T2; go_at_call 39; refine (pStretch _ s none 0 0 [] (HNI _).out hs a0 a1 a2 E2.out).mono ?_; rintro e w3 ⟨vb2, rfl, hbk1, hbk2, _, hb3⟩; rw [HEE.out] at hbk2 ⊢; rw [HLL.out] at hbk1; obtain ⟨ab, cb, rfl, hab⟩ := shapeI (m := 0) hbk1 rfl; have BB3 : Hid (w3.heap[ob]? = some (.cells #[.int .i64 kd, .string s, .int .i64 c0, .int .i64 c1, .int .i64 c2, .int .u8 q0, .int .u8 q1, .int .u8 q2, .slice ba bl bc, .slice none 0 cap, .int .i64 z, .slice fa fl fc] 44 (0, 0))) := blk_below BB2.out hb3; have k3 := boxCell BB3.out 1 _ rfl; have k39 := boxCell BB3.out 9 _ rfl; have E3 : Hid (Errs w3 a0 a1 a2) := E2.out.below hb3)
    | (clear R1; go_at_call 37; refine (refStretch _ s none 0 cap [] (HNI _).out hs).mono ?_; rintro e w4 ⟨⟨vj, rfl, hj1, hj2, _, hb4⟩, hj4⟩; obtain rfl := hj4 _ _ rfl (by rw [HLL.out]; rfl); rw [HEE.out]; have BB4 : Hid (w4.heap[ob]? = some (.cells #[.int .i64 kd, .string s, .int .i64 c0, .int .i64 c1, .int .i64 c2, .int .u8 q0, .int .u8 q1, .int .u8 q2, .slice ba bl bc, .slice none 0 cap, .int .i64 z, .slice fa fl fc] 44 (0, 0))) := blk_below BB3.out hb4; have k4 := boxCell BB4.out 1 _ rfl; have k49 := boxCell BB4.out 9 _ rfl; have E4 : Hid (Errs w4 a0 a1 a2) := E3.out.below hb4; clear hj1 hj2 hj4))
    obtain ⟨rk, rb, oold⟩ := own7_roles own (s1 := W0.heap.size) (s2 := w2.heap.size) (vk := .slice ak 0 ck) (vb := .slice ab 0 cb) (fun k hk => World.ownsRow.lt hk1 k hk) (fun k hk => (World.ownsRow.lt hbk1 k hk).1) hb2.size
    obtain ⟨O, hO⟩ : ∃ O, O = own7 own (.slice ak 0 ck) (.slice ab 0 cb) := ⟨_, rfl⟩
    rw [← hO] at rk rb oold
    have hb04 : Below W0.heap.size W0 w4 := (hb2.trans (hb3.mono hb2.size)).trans (hb4.mono (Nat.le_trans hb2.size hb3.size))
    have h4 : Hid (St w wH w4 p M O vi vb vw ve ibs bbs wts 0) := St.own (HST.out.below hb04) HST.out (fun k hk => oold k hk)
    have F24 : Frm (fun _ => False) w2 w4 := Frm.of_below (hb3.trans (hb4.mono hb3.size))
    have ok4 : Hid (w4.ownsRow w.heap.size 3 1 (.slice ak 0 ck) ([] : List Int).length (ints [])) := owns_base (F24.owns hk1 (fun _ _ e => e)) hsp.out
    have ob4 : Hid (w4.ownsRow w.heap.size 3 1 (.slice ab 0 cb) ([] : List Int).length (ints [])) := owns_base ((Frm.of_below (S := fun _ => False) hb4).owns hbk1 (fun _ _ e => e)) (Nat.le_trans hsp.out hb2.size)
    have RK : Hid (role O (.slice ak 0 ck) 60) := rk
    have RB : Hid (role O (.slice ab 0 cb) 61) := rb
    have HI4 : ∀ (wx : World) (ax : Option Addr), Hid (IntsIn wx ax 0 ([] : List Int)) := fun wx ax => ⟨rfl, .inl rfl⟩
    clear rk rb oold hO hb04 F24 hb2 hb3 hb4 hk1 hbk1 hk2 hbk2 BB2 BB3 k2 k3 k39 E2 E3 HST hbox HE0 j1 j9 HW0 HOB hak hab
    go_wp2_with (first
    | (go_at_call 40; refine (wholeInts_nil _ _ _ 0 cap).mono ?_; rintro e w5 ⟨rfl, hw⟩; rw [hw]; clear hw)
    | (clear S1; go_at_call 16; refine (sameInts_true _ ak none 0 ck 0 [] (HI4 _ _).out (HI4 _ _).out (by omega)).mono ?_; rintro e w6 ⟨rfl, hb6⟩; have BB6 : Hid (w6.heap[ob]? = some (.cells #[.int .i64 kd, .string s, .int .i64 c0, .int .i64 c1, .int .i64 c2, .int .u8 q0, .int .u8 q1, .int .u8 q2, .slice ba bl bc, .slice none 0 cap, .int .i64 z, .slice fa fl fc] 44 (0, 0))) := blk_below BB4.out hb6)
    | (clear S2; go_at_call 16; refine (sameInts_true _ ab none 0 cb 0 [] (HI4 _ _).out (HI4 _ _).out (by omega)).mono ?_; rintro e w7 ⟨rfl, hb7⟩; have BB7 : Hid (w7.heap[ob]? = some (.cells #[.int .i64 kd, .string s, .int .i64 c0, .int .i64 c1, .int .i64 c2, .int .u8 q0, .int .u8 q1, .int .u8 q2, .slice ba bl bc, .slice none 0 cap, .int .i64 z, .slice fa fl fc] 44 (0, 0))) := blk_below BB6.out hb7; have k7 := boxCell BB7.out 1 _ rfl; have E7 : Hid (Errs w7 a0 a1 a2) := (E4.out.below hb6).below hb7)
    | (go_at_call 39; refine (pStretch _ s none 0 0 [] (HNI _).out hs a0 a1 a2 E7.out).mono ?_; rintro e w9 ⟨vx, rfl, hx1, _, _, hb9⟩; rw [HEE.out]; rw [HLL.out] at hx1; obtain ⟨ax, cx, rfl, _⟩ := shapeI (m := 0) hx1 rfl; have BB9 : Hid (w9.heap[ob]? = some (.cells #[.int .i64 kd, .string s, .int .i64 c0, .int .i64 c1, .int .i64 c2, .int .u8 q0, .int .u8 q1, .int .u8 q2, .slice ba bl bc, .slice none 0 cap, .int .i64 z, .slice fa fl fc] 44 (0, 0))) := blk_below BB7.out hb9; have k9 := boxCell BB9.out 1 _ rfl; clear hx1)
    | (go_at_call 37; refine (refStretch _ s none 0 0 [] (HNI _).out hs).mono ?_; rintro e w10 ⟨⟨vy, rfl, hy1, _, _, hb10⟩, hy4⟩; obtain rfl := hy4 _ _ rfl (by rw [HLL.out]; rfl); rw [HEE.out]; clear hy1 hy4)
    | (go_at_call 16; refine (sameInts_true _ ax none 0 cx 0 [] (HI4 _ _).out (HI4 _ _).out (by omega)).mono ?_; rintro e w11 ⟨rfl, hb11⟩; have hb47 : Below w4.heap.size w4 w7 := hb6.trans (hb7.mono hb6.size); have hb49 : Below w4.heap.size w4 w9 := hb47.trans (hb9.mono hb47.size); have hb410 : Below w4.heap.size w4 w10 := hb49.trans (hb10.mono hb49.size); have hb411 : Hid (Below w4.heap.size w4 w11) := hb410.trans (hb11.mono hb410.size))
    | (go_at_call 31; refine (num_any _ _).mono ?_; rintro e w19 ⟨rfl, hw⟩; rw [hw]; clear hw)
    | (clear K1; go_at_call 41; refine (keep_two (h4.out.below hb411.out) (ownsB ok4.out hb411.out) (ownsB ob4.out hb411.out) RK.out RB.out hwl).mono ?_; rintro e w12 ⟨rfl, hkk⟩)
    | (go_at_call 41; refine hkk.mono ?_; rintro e w13 ⟨rfl, hfin⟩))
    go_ret
    exact ⟨rfl, hfin⟩
  · have HNE : Hid (EE ≠ 0) := hE
    have hEn : (EE != 0) = true := by simpa using hE
    clear hE hEE
    go_enter Tryz.func13, Tryz.ntmps13
    go_upto_region 5 with (first
    | (go_at_call 38; rw [← HW0.out]; refine (lentInts_nil W0 0 cap).mono ?_; rintro e w1 ⟨rfl, hw⟩; rw [hw, ← HOB.out]; clear hw)
    | (clear T1; go_at_call 39; refine (pStretch _ s none 0 0 [] (HNI _).out hs a0 a1 a2 HE0.out).mono ?_; rintro e w2 ⟨vk, rfl, hk1, hk2, _, hb2⟩; rw [HEE.out] at hk2 ⊢; rw [HLL.out] at hk1; obtain rfl := hk2 HNE.out; have BB2 : Hid (w2.heap[ob]? = some (.cells #[.int .i64 kd, .string s, .int .i64 c0, .int .i64 c1, .int .i64 c2, .int .u8 q0, .int .u8 q1, .int .u8 q2, .slice ba bl bc, .slice none 0 cap, .int .i64 z, .slice fa fl fc] 44 (0, 0))) := blk_below hbox.out hb2; have k2 := boxCell BB2.out 1 _ rfl; have E2 : Hid (Errs w2 a0 a1 a2) := HE0.out.below hb2)
    | (clear T2; go_at_call 39; refine (pStretch _ s none 0 0 [] (HNI _).out hs a0 a1 a2 E2.out).mono ?_; rintro e w3 ⟨vb2, rfl, hbk1, hbk2, _, hb3⟩; rw [HEE.out] at hbk2 ⊢; rw [HLL.out] at hbk1; obtain rfl := hbk2 HNE.out; have BB3 : Hid (w3.heap[ob]? = some (.cells #[.int .i64 kd, .string s, .int .i64 c0, .int .i64 c1, .int .i64 c2, .int .u8 q0, .int .u8 q1, .int .u8 q2, .slice ba bl bc, .slice none 0 cap, .int .i64 z, .slice fa fl fc] 44 (0, 0))) := blk_below BB2.out hb3; have k3 := boxCell BB3.out 1 _ rfl; have k39 := boxCell BB3.out 9 _ rfl; have E3 : Hid (Errs w3 a0 a1 a2) := E2.out.below hb3)
    | (clear R1; go_at_call 37; refine (refStretch _ s none 0 cap [] (HNI _).out hs).mono ?_; rintro e w4 ⟨⟨vj, rfl, hj1, hj2, _, hb4⟩, hj4⟩; obtain rfl := hj4 _ _ rfl (by rw [HLL.out]; rfl); rw [HEE.out]; have BB4 : Hid (w4.heap[ob]? = some (.cells #[.int .i64 kd, .string s, .int .i64 c0, .int .i64 c1, .int .i64 c2, .int .u8 q0, .int .u8 q1, .int .u8 q2, .slice ba bl bc, .slice none 0 cap, .int .i64 z, .slice fa fl fc] 44 (0, 0))) := blk_below BB3.out hb4; have k4 := boxCell BB4.out 1 _ rfl; have k49 := boxCell BB4.out 9 _ rfl; have E4 : Hid (Errs w4 a0 a1 a2) := E3.out.below hb4; clear hj1 hj2 hj4))
    obtain ⟨rk, rb, oold⟩ := own7_roles own (s1 := W0.heap.size) (s2 := w2.heap.size) (vk := .slice none 0 0) (vb := .slice none 0 0) (fun k hk => World.ownsRow.lt hk1 k hk) (fun k hk => (World.ownsRow.lt hbk1 k hk).1) hb2.size
    obtain ⟨O, hO⟩ : ∃ O, O = own7 own (.slice none 0 0) (.slice none 0 0) := ⟨_, rfl⟩
    rw [← hO] at rk rb oold
    have hb04 : Below W0.heap.size W0 w4 := (hb2.trans (hb3.mono hb2.size)).trans (hb4.mono (Nat.le_trans hb2.size hb3.size))
    have h4 : Hid (St w wH w4 p M O vi vb vw ve ibs bbs wts 0) := St.own (HST.out.below hb04) HST.out (fun k hk => oold k hk)
    have F24 : Frm (fun _ => False) w2 w4 := Frm.of_below (hb3.trans (hb4.mono hb3.size))
    have ok4 : Hid (w4.ownsRow w.heap.size 3 1 (.slice none 0 0) ([] : List Int).length (ints [])) := owns_base (F24.owns hk1 (fun _ _ e => e)) hsp.out
    have ob4 : Hid (w4.ownsRow w.heap.size 3 1 (.slice none 0 0) ([] : List Int).length (ints [])) := owns_base ((Frm.of_below (S := fun _ => False) hb4).owns hbk1 (fun _ _ e => e)) (Nat.le_trans hsp.out hb2.size)
    have RK : Hid (role O (.slice none 0 0) 60) := rk
    have RB : Hid (role O (.slice none 0 0) 61) := rb
    have HI4 : ∀ (wx : World) (ax : Option Addr), Hid (IntsIn wx ax 0 ([] : List Int)) := fun wx ax => ⟨rfl, .inl rfl⟩
    clear rk rb oold hO hb04 F24 hb2 hb3 hb4 hk1 hbk1 hk2 hbk2 BB2 BB3 k2 k3 k39 E2 E3 HST hbox HE0 j1 j9 HW0 HOB
    go_wp2_with (first
    | (go_at_call 40; refine (wholeInts_nil _ _ _ 0 cap).mono ?_; rintro e w5 ⟨rfl, hw⟩; rw [hw]; clear hw)
    | (clear S1; go_at_call 16; refine (sameInts_true _ none none 0 0 0 [] (HI4 _ _).out (HI4 _ _).out (by omega)).mono ?_; rintro e w6 ⟨rfl, hb6⟩; have BB6 : Hid (w6.heap[ob]? = some (.cells #[.int .i64 kd, .string s, .int .i64 c0, .int .i64 c1, .int .i64 c2, .int .u8 q0, .int .u8 q1, .int .u8 q2, .slice ba bl bc, .slice none 0 cap, .int .i64 z, .slice fa fl fc] 44 (0, 0))) := blk_below BB4.out hb6)
    | (clear S2; go_at_call 16; refine (sameInts_true _ none none 0 0 0 [] (HI4 _ _).out (HI4 _ _).out (by omega)).mono ?_; rintro e w7 ⟨rfl, hb7⟩; have BB7 : Hid (w7.heap[ob]? = some (.cells #[.int .i64 kd, .string s, .int .i64 c0, .int .i64 c1, .int .i64 c2, .int .u8 q0, .int .u8 q1, .int .u8 q2, .slice ba bl bc, .slice none 0 cap, .int .i64 z, .slice fa fl fc] 44 (0, 0))) := blk_below BB6.out hb7; have k7 := boxCell BB7.out 1 _ rfl; have E7 : Hid (Errs w7 a0 a1 a2) := (E4.out.below hb6).below hb7)
    | (go_at_call 39; refine (pStretch _ s none 0 0 [] (HNI _).out hs a0 a1 a2 E7.out).mono ?_; rintro e w9 ⟨vx, rfl, hx1, _, _, hb9⟩; rw [HEE.out]; rw [HLL.out] at hx1; obtain ⟨ax, cx, rfl, _⟩ := shapeI (m := 0) hx1 rfl; have BB9 : Hid (w9.heap[ob]? = some (.cells #[.int .i64 kd, .string s, .int .i64 c0, .int .i64 c1, .int .i64 c2, .int .u8 q0, .int .u8 q1, .int .u8 q2, .slice ba bl bc, .slice none 0 cap, .int .i64 z, .slice fa fl fc] 44 (0, 0))) := blk_below BB7.out hb9; have k9 := boxCell BB9.out 1 _ rfl; clear hx1)
    | (go_at_call 37; refine (refStretch _ s none 0 0 [] (HNI _).out hs).mono ?_; rintro e w10 ⟨⟨vy, rfl, hy1, _, _, hb10⟩, hy4⟩; obtain rfl := hy4 _ _ rfl (by rw [HLL.out]; rfl); rw [HEE.out]; clear hy1 hy4)
    | (go_at_call 16; refine (sameInts_true _ ax none 0 cx 0 [] (HI4 _ _).out (HI4 _ _).out (by omega)).mono ?_; rintro e w11 ⟨rfl, hb11⟩; have hb47 : Below w4.heap.size w4 w7 := hb6.trans (hb7.mono hb6.size); have hb49 : Below w4.heap.size w4 w9 := hb47.trans (hb9.mono hb47.size); have hb410 : Below w4.heap.size w4 w10 := hb49.trans (hb10.mono hb49.size); have hb411 : Hid (Below w4.heap.size w4 w11) := hb410.trans (hb11.mono hb410.size))
    | (go_at_call 31; refine (num_any _ _).mono ?_; rintro e w19 ⟨rfl, hw⟩; rw [hw]; clear hw)
    | (clear K1; go_at_call 41; refine (keep_two (h4.out.below hb411.out) (ownsB ok4.out hb411.out) (ownsB ob4.out hb411.out) RK.out RB.out hwl).mono ?_; rintro e w12 ⟨rfl, hkk⟩)
    | (go_at_call 41; refine hkk.mono ?_; rintro e w13 ⟨rfl, hfin⟩))
    go_ret
    exact ⟨rfl, hfin⟩

end Go.Proofs.YtbabcphjddchkaaGreatDoor
