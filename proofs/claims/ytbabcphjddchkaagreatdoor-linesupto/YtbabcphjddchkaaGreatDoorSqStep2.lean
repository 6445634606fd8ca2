/-
  The step Squeeze of a script, walked.
-/
import Derived.Test.YtbabcphjddchkaaGreatDoorSqStep
namespace Go.Proofs.YtbabcphjddchkaaGreatDoor
open Go.RowKit

/-- The cells of a step that lies at block ob. -/
def opArr (kd : Int) (s : ByteArray) (c0 c1 c2 p0 p1 p2 : Int) (vb vl : Value) (z : Int) (vf : Value) : Array Value := #[.int .i64 kd, .string s, .int .i64 c0, .int .i64 c1, .int .i64 c2, .int .u8 p0, .int .u8 p1, .int .u8 p2, vb, vl, .int .i64 z, vf]

theorem boxCell {w : World} {ob : Nat} {c : Array Value} (h : w.heap[ob]? = some (.cells c 44 (0, 0))) (j : Nat) (v : Value) (hv : c[j]? = some v) : w.cell? ⟨ob, j, none⟩ = some v := by
  rw [cell_of_row _ _ j _ _ _ h]; exact hv

set_option maxHeartbeats 4000000 in
set_option maxRecDepth 20000 in
theorem squeezes_some (w wH wr : World) (p M : Nat) (own : Nat → Nat) (vi vb vw ve : Value) (ibs : List IntB) (bbs : List BitB) (wts : List Wt) (h : St w wH wr p M own vi vb vw ve ibs bbs wts 0) (kd : Int) (s : ByteArray) (c0 c1 c2 q0 q1 q2 : Int) (a : Addr) (n cap : Nat) (la : Option Addr) (ll lc : Nat) (z : Int) (fa : Option Addr) (fl fc : Nat) (bs : List (Int × Int))
    (hz : BitsIn wH (some a) n bs) (ha : n ≠ 0 → a.block ≠ p) (hn : n ≤ 800000000) (hM : M ≤ 100000000) (hbl : bbs.length ≤ 100000000) :
    Calls Tryz.prog 12 #[.pointer (some ⟨p, 0, none⟩), .agg #[.int .i64 kd, .string s, .int .i64 c0, .int .i64 c1, .int .i64 c2, .int .u8 q0, .int .u8 q1, .int .u8 q2, .slice (some a) n cap, .slice la ll lc, .int .i64 z, .slice fa fl fc]] wr fun e w' => e = .returned (.bool true) ∧ SqW w wH w' p (M + 1) vi vw ve ibs (bbs.length + 1) wts := by
  have hlen := hz.1
  have HZ : Hid (BitsIn wH (some a) n bs) := hz
  have HA : Hid (n ≠ 0 → a.block ≠ p) := ha
  obtain ⟨W0, hW0⟩ : ∃ W0, W0 = wr.alloc (.cells #[.int .i64 kd, .string s, .int .i64 c0, .int .i64 c1, .int .i64 c2, .int .u8 q0, .int .u8 q1, .int .u8 q2, .slice (some a) n cap, .slice la ll lc, .int .i64 z, .slice fa fl fc] 44) := ⟨_, rfl⟩
  obtain ⟨ob, hob⟩ : ∃ ob, ob = wr.heap.size := ⟨_, rfl⟩
  have hbox : Hid (W0.heap[ob]? = some (.cells #[.int .i64 kd, .string s, .int .i64 c0, .int .i64 c1, .int .i64 c2, .int .u8 q0, .int .u8 q1, .int .u8 q2, .slice (some a) n cap, .slice la ll lc, .int .i64 z, .slice fa fl fc] 44 (0, 0))) := by rw [hW0, hob]; exact heap_alloc_last wr _
  have hst0 : St w wH W0 p M own vi vb vw ve ibs bbs wts 0 := h.below (by rw [hW0]; exact (Below.refl _ _).alloc (Nat.le_refl _) _)
  have hvlt : Hid (∀ k, vb.ownBlock = some k → k < wr.heap.size) := h.role_lt.2.1
  have hobH : wH.heap.size ≤ ob := by rw [hob]; exact h.sz
  have hobW : ob < W0.heap.size := by rw [hob, hW0]; simp
  have HST : Hid (St w wH W0 p M own vi vb vw ve ibs bbs wts 0) := hst0
  have hz0 := hst0.bitsIn hz (fun x hx hn0 => by injection hx with hx; rw [← hx]; exact ha hn0)
  have HZ0 : Hid (BitsIn W0 (some a) n bs) := hz0
  have HW0 : Hid (W0 = wr.alloc (.cells #[.int .i64 kd, .string s, .int .i64 c0, .int .i64 c1, .int .i64 c2, .int .u8 q0, .int .u8 q1, .int .u8 q2, .slice (some a) n cap, .slice la ll lc, .int .i64 z, .slice fa fl fc] 44)) := hW0
  have HOB : Hid (ob = wr.heap.size) := hob
  have hsp : w.heap.size ≤ W0.heap.size := hst0.bel.size
  have j8 := boxCell hbox.out 8 _ rfl
  clear h hz ha hst0 hz0 hW0 hob
  by_cases hsq : sqE bs = 0
  · have HSQ : Hid (sqE bs = 0) := hsq
    obtain ⟨S, hS⟩ : ∃ S, S = endStr (Pack.fin (plain bs)) := ⟨_, rfl⟩
    have HSS : Hid (sqS bs = S) := by unfold Hid sqS; rw [if_pos hsq, hS]
    have hb4k : bs.length ≤ 4000 := by
      unfold sqE at hsq
      by_cases h4 : 4000 < bs.length
      · rw [if_pos h4] at hsq; exact absurd hsq (by decide)
      · omega
    have hallb : bs.all bitOkB = true := by
      unfold sqE at hsq
      rw [if_neg (by omega)] at hsq
      by_cases hh : bs.all bitOkB = true
      · exact hh
      · rw [if_neg hh] at hsq; exact absurd hsq (by decide)
    have hok := (all_iff bs).1 hallb
    obtain ⟨b1, b2⟩ := sq_back hok hb4k hS
    obtain ⟨sz0, sz1⟩ := sq_size hS
    have HB1 : Hid (strE S (ctxOf bs) = 0) := b1
    have HB2 : Hid (strL S (ctxOf bs) = bs.map (·.2)) := b2
    have HML : Hid ((bs.map (·.2)).length = n) := by unfold Hid; simp; omega
    have HCL : Hid ((ctxOf bs).length = n) := by unfold Hid; rw [ctxOf_len]; omega
    have hSm : S.size ≤ 5000 := by omega
    have HLEN : Hid (bs.length = n) := hlen
    clear hsq hS hallb hok b1 b2 sz0 sz1 hb4k
    go_enter Tryz.func12, Tryz.ntmps12
    go_upto_block 0 with (first
    | (go_at_call 32; rw [← HW0.out]; refine (lentBits_some W0 a n cap bs HZ0.out (by omega)).mono ?_; rintro e w1 ⟨rfl, hbn1, hb1⟩; rw [← HOB.out])
    | (go_at_call 33; refine (pSqueeze _ (some ⟨W0.heap.size, 0, none⟩) n (n + 8) bs (BitsIn.of_room hbn1 hlen) (by unfold maxLen; omega)).mono ?_; rintro e w2 ⟨rfl, hb2⟩; rw [HSQ.out, HSS.out]; have hb02 : Below W0.heap.size W0 w2 := hb1.trans (hb2.mono hb1.size); have k8 := boxCell (blk_below hbox.out hb02) 8 _ rfl; have hrl : Hid (BNums w2 w.heap.size W0.heap.size (n + 8) (roomBits bs 8)) := owns_base ((Frm.of_below (S := fun _ => False) hb2).owns hbn1 (fun _ _ e => e)) hsp)
    | (go_at_call 34; refine (whole_sq HST.out hb02 rfl hrl.out HZ.out HA.out hn hM hbl).mono ?_; rintro e w3 ⟨rfl, hq3, hk3⟩; have hbox3 : Hid (w3.heap[ob]? = some (.cells #[.int .i64 kd, .string s, .int .i64 c0, .int .i64 c1, .int .i64 c2, .int .u8 q0, .int .u8 q1, .int .u8 q2, .slice (some a) n cap, .slice la ll lc, .int .i64 z, .slice fa fl fc] 44 (0, 0))) := (hk3 ob hobH (Nat.lt_of_lt_of_le hobW hb02.size) (by omega) (fun v hv e => (by rw [hv] at e; have := hvlt.out ob e; have := HOB.out; omega))).trans (blk_below hbox.out hb02); have m8 := boxCell hbox3.out 8 _ rfl; have hz3 : Hid (BitsIn w3 (some a) n bs) := hq3.bitsIn HZ.out (fun x hx hn0 => (by injection hx with hx; rw [← hx]; exact HA.out hn0)); clear hk3)
    | (go_at_call 35; refine (refSqueezes _ (some a) n cap bs hz3.out (by unfold maxLen; omega)).mono ?_; rintro e w4 ⟨rfl, hb4⟩; rw [HSQ.out]; have n8 := boxCell (blk_below hbox3.out hb4) 8 _ rfl; have hz4 : Hid (BitsIn w4 (some a) n bs) := hz3.out.below hb4; have hq4 : Hid (SqW w wH w4 p (M + 1) vi vw ve ibs (bbs.length + 1) wts) := hq3.below hb4)
    | (go_at_call 31; refine (num_any _ _).mono ?_; rintro e w9 ⟨rfl, hw⟩; rw [hw]; clear hw)
    | (go_at_call 36; refine (contexts_any _ (some a) n cap bs hz4.out (by omega)).mono ?_; rintro e w5 ⟨vc, rfl, hc5, hb5⟩; obtain ⟨ac, cc, rfl, hcin⟩ : ∃ a c, vc = .slice a n c ∧ IntsIn w5 a n (ctxOf bs) := (by have hh := IntsIn.of_own (zs := ctxOf bs) (by rw [HCL.out]; exact hc5); rw [HCL.out] at hh; exact hh); have o8 := boxCell (blk_below (blk_below hbox3.out hb4) hb5) 8 _ rfl; clear hc5)
    | (go_at_call 37; refine (refStretch _ S ac n cc (ctxOf bs) hcin (by unfold maxLen; omega)).mono ?_; rintro e w6 ⟨⟨vk, rfl, hk1, hk2, hk3, hb6⟩, _⟩; rw [HB1.out]; rw [HB2.out] at hk1; obtain ⟨ak, ck, rfl, hkin⟩ := IntsIn.of_own hk1; rw [HML.out] at hkin ⊢; have p8 := boxCell (blk_below (blk_below (blk_below hbox3.out hb4) hb5) hb6) 8 _ rfl; clear hk1 hk2 hk3))
    have hbox6 : Hid (w6.heap[ob]? = some (.cells #[.int .i64 kd, .string s, .int .i64 c0, .int .i64 c1, .int .i64 c2, .int .u8 q0, .int .u8 q1, .int .u8 q2, .slice (some a) n cap, .slice la ll lc, .int .i64 z, .slice fa fl fc] 44 (0, 0))) := blk_below (blk_below (blk_below hbox3.out hb4) hb5) hb6
    have HQ6 : Hid (SqW w wH w6 p (M + 1) vi vw ve ibs (bbs.length + 1) wts) := (hq4.out.below hb5).below hb6
    have HZ6 : Hid (BitsIn w6 (some a) n bs) := (hz4.out.below hb5).below hb6
    have HK6 : Hid (IntsIn w6 ak n (bs.map (·.2))) := hkin
    clear hkin hb6 hb5 hb4 hcin hq3 hbn1 hb1 hb2 hb02 k8 m8 n8 o8 p8 j8 hbox hbox3 hz3 hz4 hq4 hrl HST HZ0
    go_wp2_with fail
    go_loopw [13] (fun i wd => ∃ j : Nat, j ≤ n ∧ i = .int .i64 j ∧ Below w6.heap.size w6 wd) (fun i _ => n - (intOf i).toNat)
    case atStart => exact ⟨0, by omega, rfl, Below.refl _ _⟩
    case round =>
      obtain ⟨j, hj, rfl, hbr⟩ := hrel
      have b8 := boxCell (blk_below hbox6.out hbr) 8 _ rfl
      by_cases hjn : j < n
      · have hjn' : (j : Int) < (n : Int) := by omega
        obtain ⟨b, off, eb, hb, hc⟩ : ∃ b off, some a = some ⟨b, off, none⟩ ∧ b < wr.heap.size ∧ ∀ i, i < n → wr.cell? ⟨b, off + i * 2, none⟩ = some (.int .i64 (bs.getD i (0, 0)).1) ∧ wr.cell? ⟨b, off + i * 2 + 1, none⟩ = some (.int .i64 (bs.getD i (0, 0)).2) := by
          rcases (HZ6.out.below hbr).2 with h2 | h2
          · omega
          · exact h2
        have eb' : a = ⟨b, off, none⟩ := by injection eb
        subst eb'
        obtain ⟨bk, offk, rfl, hbk, hck⟩ : ∃ b off, ak = some ⟨b, off, none⟩ ∧ b < wr.heap.size ∧ ∀ i, i < n → wr.cell? ⟨b, off + i, none⟩ = some (.int .i64 ((bs.map (·.2)).getD i 0)) := by
          rcases (HK6.out.below hbr).2 with h2 | h2
          · omega
          · exact h2
        have d1 := (hc j hjn).2
        have d2 := hck j hjn
        have he : (bs.map (·.2)).getD j 0 = (bs.getD j (0, 0)).2 := by
          have := HLEN.out
          rw [List.getD_eq_getElem?_getD, List.getElem?_map, List.getD_eq_getElem?_getD, List.getElem?_eq_getElem (show j < bs.length by omega)]
          rfl
        rw [he] at d2
        obtain ⟨y, hy⟩ : ∃ y, y = (bs.getD j (0, 0)).2 := ⟨_, rfl⟩
        rw [← hy] at d1 d2
        clear hc hck he hy eb
        go_wp2
        go_quiet (fail)
        go_wp2
        go_roundw
        case rel => exact ⟨j + 1, by omega, by go_num, below_drewN hbr _⟩
        case measure => simp [intOf]; omega
      · have hjn' : ¬ (j : Int) < (n : Int) := by omega
        go_wp2
        go_ret
        exact ⟨rfl, HQ6.out.below hbr⟩
  · obtain ⟨E, hE⟩ : ∃ E, E = sqE bs := ⟨_, rfl⟩
    have HSQ : Hid (sqE bs = E) := hE.symm
    have HSS : Hid (sqS bs = ByteArray.mk #[]) := by unfold Hid sqS; rw [if_neg hsq]
    have hEn : (E != 0) = true := by rw [hE]; simpa using hsq
    have hem : (ByteArray.mk #[]).toList.isEmpty = true := by rw [ByteArray.toList_eq]; rfl
    clear hsq hE
    go_enter Tryz.func12, Tryz.ntmps12
    go_wp2_with (first
    | (go_at_call 32; rw [← HW0.out]; refine (lentBits_some W0 a n cap bs HZ0.out (by omega)).mono ?_; rintro e w1 ⟨rfl, hbn1, hb1⟩; rw [← HOB.out])
    | (go_at_call 33; refine (pSqueeze _ (some ⟨W0.heap.size, 0, none⟩) n (n + 8) bs (BitsIn.of_room hbn1 hlen) (by unfold maxLen; omega)).mono ?_; rintro e w2 ⟨rfl, hb2⟩; rw [HSQ.out, HSS.out]; have hb02 : Below W0.heap.size W0 w2 := hb1.trans (hb2.mono hb1.size); have k8 := boxCell (blk_below hbox.out hb02) 8 _ rfl; have hrl : Hid (BNums w2 w.heap.size W0.heap.size (n + 8) (roomBits bs 8)) := owns_base ((Frm.of_below (S := fun _ => False) hb2).owns hbn1 (fun _ _ e => e)) hsp)
    | (go_at_call 34; refine (whole_sq HST.out hb02 rfl hrl.out HZ.out HA.out hn hM hbl).mono ?_; rintro e w3 ⟨rfl, hq3, hk3⟩; have hbox3 : Hid (w3.heap[ob]? = some (.cells #[.int .i64 kd, .string s, .int .i64 c0, .int .i64 c1, .int .i64 c2, .int .u8 q0, .int .u8 q1, .int .u8 q2, .slice (some a) n cap, .slice la ll lc, .int .i64 z, .slice fa fl fc] 44 (0, 0))) := (hk3 ob hobH (Nat.lt_of_lt_of_le hobW hb02.size) (by omega) (fun v hv e => (by rw [hv] at e; have := hvlt.out ob e; have := HOB.out; omega))).trans (blk_below hbox.out hb02); have m8 := boxCell hbox3.out 8 _ rfl; have hz3 : Hid (BitsIn w3 (some a) n bs) := hq3.bitsIn HZ.out (fun x hx hn0 => (by injection hx with hx; rw [← hx]; exact HA.out hn0)); clear hk3)
    | (go_at_call 35; refine (refSqueezes _ (some a) n cap bs hz3.out (by unfold maxLen; omega)).mono ?_; rintro e w4 ⟨rfl, hb4⟩; rw [HSQ.out]; have n8 := boxCell (blk_below hbox3.out hb4) 8 _ rfl; have hz4 : Hid (BitsIn w4 (some a) n bs) := hz3.out.below hb4; have hq4 : Hid (SqW w wH w4 p (M + 1) vi vw ve ibs (bbs.length + 1) wts) := hq3.below hb4)
    | (go_at_call 31; refine (num_any _ _).mono ?_; rintro e w9 ⟨rfl, hw⟩; rw [hw]; clear hw))
    go_ret
    exact ⟨rfl, hq4.out⟩

end Go.Proofs.YtbabcphjddchkaaGreatDoor
