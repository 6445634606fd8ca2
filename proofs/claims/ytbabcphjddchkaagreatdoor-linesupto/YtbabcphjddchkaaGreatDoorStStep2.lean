/-
  The step Stretch of a script, walked.
-/
import Derived.Test.YtbabcphjddchkaaGreatDoorStStep
namespace Go.Proofs.YtbabcphjddchkaaGreatDoor
open Go.RowKit

theorem shapeI {w : World} {B m : Nat} {v : Value} {zs : List Int} (h : w.ownsRow B 3 1 v zs.length (ints zs)) (hm : zs.length = m) : ∃ a c, v = .slice a m c ∧ IntsIn w a m zs := by
  subst hm; exact IntsIn.of_own h
theorem strL_len (s : ByteArray) (zs : List Int) : (strL s zs).length ≤ 4000 := by
  unfold strL
  by_cases h : strE s zs = 0
  · rw [if_pos h]
    have h4 : zs.length ≤ 4000 := by
      unfold strE at h
      by_cases h' : 4000 < zs.length
      · rw [if_pos h'] at h; exact absurd h (by decide)
      · omega
    rw [Rdr.all_len _ _ _ _ (Nat.le_refl _)]
    exact h4
  · rw [if_neg h]; simp
theorem sameInts_true (w : World) (a b : Option Addr) (m ca cb : Nat) (xs : List Int) (hx : IntsIn w a m xs) (hy : IntsIn w b m xs) (hl : m ≤ 4000) :
    Calls Tryz.prog 16 #[.slice a m ca, .slice b m cb] w fun x w' => x = .returned (.bool true) ∧ Below w.heap.size w w' := by
  refine (sameInts_any w a b m ca m cb xs xs hx hy (by omega) (by omega)).mono ?_
  rintro x w' ⟨rfl, n, hw⟩
  exact ⟨by simp, below_of_drew hw⟩

/-- What stands behind a step Stretch. -/
structure StW (w wH wr : World) (p M : Nat) (vb : Value) (bbs : List BitB) (il wl : Nat) : Prop where
  st : ∃ own vi vw ve ibs wts, St w wH wr p M own vi vb vw ve ibs bbs wts 0 ∧ ibs.length = il ∧ wts.length = wl

/-- What stands ahead of the second asking. -/
structure B7 (w wH w7 : World) (p M : Nat) (own5 : Nat → Nat) (vi5 vb vw ve : Value) (ibs5 : List IntB) (bbs : List BitB) (wts : List Wt) (il ob g n : Nat) (a0 a1 a2 : Addr) (s : ByteArray) (VK VB VJ : Value) (LL zt : List Int) : Prop where
  tin : IntsIn w7 (some ⟨g, 0, none⟩) n zt
  news : ∀ j u, (ints zt)[j]? = some u → w7.cell? ((⟨g, 0, none⟩ : Addr).add j) = some u
  ztl : zt.length = n
  ztl1 : (ints zt).length = n * 1
  box : w7.cell? ⟨ob, 1, none⟩ = some (.string s)
  err : Errs w7 a0 a1 a2
  ok : w7.ownsRow w.heap.size 3 1 VK LL.length (ints LL)
  ob' : w7.ownsRow w.heap.size 3 1 VB LL.length (ints LL)
  oj : w7.ownsRow w.heap.size 3 1 VJ LL.length (ints LL)
  rk : role own5 VK 60
  rb : role own5 VB 61
  rj : role own5 VJ 62
  st : St w wH w7 p (M + 1) own5 vi5 vb vw ve ibs5 bbs wts 0
  il5 : ibs5.length = il
  jn : LL.length = 0 → VJ = .slice none 0 0
  l9 : LL.length ≤ 4000
  tl : (strL s zt).length ≤ 4000
theorem cellB {w w' : World} {b o : Nat} {v : Value} (h : w.cell? ⟨b, o, none⟩ = some v) (f : Below w.heap.size w w') : w'.cell? ⟨b, o, none⟩ = some v := (f.cell (World.block_lt_of_cell? w _ h)).trans h
theorem ownsB {w w' : World} {B : Nat} {e : TypeId} {sz : Nat} {v : Value} {n : Nat} {xs : List Value} (h : w.ownsRow B e sz v n xs) (f : Below w.heap.size w w') : w'.ownsRow B e sz v n xs := (Frm.of_below (S := fun _ => False) f).owns h (fun _ _ e => e)

/-- What came out is kept, twice. -/
theorem keep_one {w wH w7 w11 : World} {p M : Nat} {own5 : Nat → Nat} {vi5 vb vw ve : Value} {ibs5 : List IntB} {bbs : List BitB} {wts : List Wt} {il ob g n : Nat} {a0 a1 a2 : Addr} {s : ByteArray} {VK VB VJ : Value} {LL zt : List Int} (h : B7 w wH w7 p M own5 vi5 vb vw ve ibs5 bbs wts il ob g n a0 a1 a2 s VK VB VJ LL zt) (f : Below w7.heap.size w7 w11) (hwl : wts.length ≤ 90000000) :
    Calls Tryz.prog 41 #[.pointer (some ⟨p, 0, none⟩), VK, VJ] w11 fun e w' => e = .returned (.tuple #[]) ∧ Calls Tryz.prog 41 #[.pointer (some ⟨p, 0, none⟩), VB, VJ] w' fun e w'' => e = .returned (.tuple #[]) ∧ StW w wH w'' p (M + 1) vb bbs il (wts.length + 2) := by
  have l9 := h.l9
  refine (keep_st (zs := LL) (h.st.below f) h.rk free60 (fun i _ => by omega) (ownsB h.ok f) (ownsB h.oj f) h.jn h.rj (by omega) (by omega)).mono ?_
  rintro e w12 ⟨rfl, own12, vw12, ve12, wts12, st12, hwl12, hkey12, hfr12⟩
  refine ⟨rfl, ?_⟩
  have ob11 := ownsB h.ob' f
  have oj11 := ownsB h.oj f
  refine (keep_st (zs := LL) st12 (h.rb.congr (fun k hk => hkey12 k (World.ownsRow.lt ob11 k hk).2 (by rw [h.rb k hk]; decide))) free61 (fun i _ => by omega) (hfr12.owns ob11 (fun k hk hS => by have := h.rb k hk; omega)) (hfr12.owns oj11 (fun k hk hS => by have := h.rj k hk; omega)) h.jn (h.rj.congr (fun k hk => hkey12 k (World.ownsRow.lt oj11 k hk).2 (by rw [h.rj k hk]; decide))) (by omega) (by omega)).mono ?_
  rintro e w13 ⟨rfl, own13, vw13, ve13, wts13, st13, hwl13, _, _⟩
  exact ⟨rfl, ⟨_, _, _, _, _, _, st13, h.il5, by omega⟩⟩

set_option maxHeartbeats 4000000 in
set_option maxRecDepth 20000 in
theorem stretches_some (w wH wr : World) (p M : Nat) (own : Nat → Nat) (vi vb vw ve : Value) (ibs : List IntB) (bbs : List BitB) (wts : List Wt) (h : St w wH wr p M own vi vb vw ve ibs bbs wts 0) (kd : Int) (s : ByteArray) (c0 c1 c2 q0 q1 q2 : Int) (ba : Option Addr) (bl bc : Nat) (a : Addr) (n cap : Nat) (z : Int) (fa : Option Addr) (fl fc : Nat) (zs : List Int)
    (hz : IntsIn wH (some a) n zs) (ha : n ≠ 0 → a.block ≠ p) (hn : n ≤ 800000000) (hs : s.size ≤ maxLen) (hM : M ≤ 100000000) (hil : ibs.length ≤ 100000000) (hwl : wts.length ≤ 90000000) (a0 a1 a2 : Addr) (E0 : Errs w a0 a1 a2) :
    Calls Tryz.prog 13 #[.pointer (some ⟨p, 0, none⟩), .agg #[.int .i64 kd, .string s, .int .i64 c0, .int .i64 c1, .int .i64 c2, .int .u8 q0, .int .u8 q1, .int .u8 q2, .slice ba bl bc, .slice (some a) n cap, .int .i64 z, .slice fa fl fc]] wr fun e w' => e = .returned (.bool true) ∧ StW w wH w' p (M + 1) vb bbs (ibs.length + 1) (wts.length + 2) := by
  have hlen := hz.1
  have HZ : Hid (IntsIn wH (some a) n zs) := hz
  have HA : Hid (n ≠ 0 → a.block ≠ p) := ha
  obtain ⟨W0, hW0⟩ : ∃ W0, W0 = wr.alloc (.cells #[.int .i64 kd, .string s, .int .i64 c0, .int .i64 c1, .int .i64 c2, .int .u8 q0, .int .u8 q1, .int .u8 q2, .slice ba bl bc, .slice (some a) n cap, .int .i64 z, .slice fa fl fc] 44) := ⟨_, rfl⟩
  obtain ⟨ob, hob⟩ : ∃ ob, ob = wr.heap.size := ⟨_, rfl⟩
  have hbox : Hid (W0.heap[ob]? = some (.cells #[.int .i64 kd, .string s, .int .i64 c0, .int .i64 c1, .int .i64 c2, .int .u8 q0, .int .u8 q1, .int .u8 q2, .slice ba bl bc, .slice (some a) n cap, .int .i64 z, .slice fa fl fc] 44 (0, 0))) := by rw [hW0, hob]; exact heap_alloc_last wr _
  have hst0 : St w wH W0 p M own vi vb vw ve ibs bbs wts 0 := h.below (by rw [hW0]; exact (Below.refl _ _).alloc (Nat.le_refl _) _)
  have hobW : ob < W0.heap.size := by rw [hob, hW0]; simp
  have HE0 : Hid (Errs W0 a0 a1 a2) := E0.below hst0.bel
  have HST : Hid (St w wH W0 p M own vi vb vw ve ibs bbs wts 0) := hst0
  have HSTR : Hid (St w wH wr p M own vi vb vw ve ibs bbs wts 0) := h
  have HZ0 : Hid (IntsIn W0 (some a) n zs) := hst0.intsIn hz (fun x hx hn0 => by injection hx with hx; rw [← hx]; exact ha hn0)
  have HW0 : Hid (W0 = wr.alloc (.cells #[.int .i64 kd, .string s, .int .i64 c0, .int .i64 c1, .int .i64 c2, .int .u8 q0, .int .u8 q1, .int .u8 q2, .slice ba bl bc, .slice (some a) n cap, .int .i64 z, .slice fa fl fc] 44)) := hW0
  have HOB : Hid (ob = wr.heap.size) := hob
  have hsp : w.heap.size ≤ W0.heap.size := hst0.bel.size
  have j9 := boxCell hbox.out 9 _ rfl
  obtain ⟨EE, hEE⟩ : ∃ EE, strE s zs = EE := ⟨_, rfl⟩
  obtain ⟨LL, hLL⟩ : ∃ LL, strL s zs = LL := ⟨_, rfl⟩
  have hm4 : LL.length ≤ 4000 := by rw [← hLL]; exact strL_len s zs
  have HEE : Hid (strE s zs = EE) := hEE
  have HLL : Hid (strL s zs = LL) := hLL
  have HMT : Hid (∀ zt : List Int, (strL s zt).length ≤ 4000) := fun zt => strL_len s zt
  have T1 : Hid True := trivial
  have T2 : Hid True := trivial
  have R1 : Hid True := trivial
  have S1 : Hid True := trivial
  have S2 : Hid True := trivial
  have K1 : Hid True := trivial
  have qn := neqNilInts
  obtain ⟨k0, ki, kz0, kz1, kz2⟩ := info_parts infoI64
  have HEW : Hid (Errs w a0 a1 a2) := E0
  clear h hz ha hst0 hW0 hob E0 hLL
  by_cases hE : EE = 0
  · subst hE
    obtain ⟨m, hm⟩ : ∃ m, LL.length = m := ⟨_, rfl⟩
    have HM : Hid (LL.length = m) := hm
    rw [hm] at hm4
    clear hm hEE
    go_enter Tryz.func13, Tryz.ntmps13
    go_upto_region 5 with (first
    | (go_at_call 38; rw [← HW0.out]; refine (lentInts_some W0 a n cap zs HZ0.out (by omega)).mono ?_; rintro e w1 ⟨rfl, hn1, hb1⟩; rw [← HOB.out]; have k1 := boxCell (blk_below hbox.out hb1) 1 _ rfl; have E1 : Hid (Errs w1 a0 a1 a2) := HE0.out.below hb1)
    | (clear T1; go_at_call 39; refine (pStretch _ s (some ⟨W0.heap.size, 0, none⟩) n (n + 8) zs (IntsIn.of_room hn1 hlen) hs a0 a1 a2 E1.out).mono ?_; rintro e w2 ⟨vk, rfl, hk1, hk2, _, hb2⟩; rw [HEE.out] at hk2 ⊢; rw [HLL.out] at hk1; obtain ⟨ak, ck, rfl, hkin⟩ := shapeI hk1 HM.out; have k2 := boxCell (blk_below (blk_below hbox.out hb1) hb2) 1 _ rfl; have E2 : Hid (Errs w2 a0 a1 a2) := E1.out.below hb2; have hn2 : Hid (Nums w2 W0.heap.size W0.heap.size (n + 8) (roomRow zs 8)) := (Frm.of_below (S := fun _ => False) hb2).owns hn1 (fun _ _ e => e))
    | (clear T2; go_at_call 39; refine (pStretch _ s (some ⟨W0.heap.size, 0, none⟩) n (n + 8) zs (IntsIn.of_room hn2.out hlen) hs a0 a1 a2 E2.out).mono ?_; rintro e w3 ⟨vb2, rfl, hbk1, hbk2, _, hb3⟩; rw [HEE.out] at hbk2 ⊢; rw [HLL.out] at hbk1; obtain ⟨abk, cbk, rfl, hbin⟩ := shapeI hbk1 HM.out; have k3 := boxCell (blk_below (blk_below (blk_below hbox.out hb1) hb2) hb3) 1 _ rfl; have k3b := boxCell (blk_below (blk_below (blk_below hbox.out hb1) hb2) hb3) 9 _ rfl; have hb03 : Below W0.heap.size W0 w3 := (hb1.trans (hb2.mono hb1.size)).trans (hb3.mono (Nat.le_trans hb1.size hb2.size)); have hz3 : Hid (IntsIn w3 (some a) n zs) := HZ0.out.below hb03)
    | (clear R1; go_at_call 37; refine (refStretch _ s (some a) n cap zs hz3.out hs).mono ?_; rintro e w4 ⟨⟨vj, rfl, hj1, hj2, _, hb4⟩, hj4⟩; rw [HEE.out] at hj2 ⊢; rw [HLL.out] at hj1; obtain ⟨aj, cj, hej, hjin⟩ := shapeI hj1 HM.out; subst hej; have hjn : Hid (m = 0 → (Value.slice aj m cj) = .slice none 0 0) := fun h0 => hj4 _ _ rfl (by rw [HLL.out, HM.out]; exact h0); have k4 := boxCell (blk_below (blk_below (blk_below (blk_below hbox.out hb1) hb2) hb3) hb4) 9 _ rfl))
    have hg1 := hn1.lt.2
    have hz12 := hb2.size
    have hz23 := hb3.size
    have hz34 := hb4.size
    have hb04 : Below W0.heap.size W0 w4 := hb03.trans (hb4.mono hb03.size)
    have hbr4 : Below wr.heap.size wr w4 := (show Below wr.heap.size wr W0 from by rw [HW0.out]; exact (Below.refl _ _).alloc (Nat.le_refl _) _).trans (hb04.mono (by rw [← HOB.out]; omega))
    obtain ⟨o63, o50, rk, rb2, rj, oold⟩ := own6_roles own (ob := ob) (g := W0.heap.size) (s1 := w1.heap.size) (s2 := w2.heap.size) (s3 := w3.heap.size) (vk := .slice ak m ck) (vb := .slice abk m cbk) (vj := .slice aj m cj) hobW hg1 hz12 hz23 (fun k hk => World.ownsRow.lt hk1 k hk) (fun k hk => World.ownsRow.lt hbk1 k hk) (fun k hk => (World.ownsRow.lt hj1 k hk).1)
    obtain ⟨O, hO⟩ : ∃ O, O = own6 own ob W0.heap.size (.slice ak m ck) (.slice abk m cbk) (.slice aj m cj) := ⟨_, rfl⟩
    rw [← hO] at o63 o50 rk rb2 rj oold
    have h4 : St w wH w4 p M O vi vb vw ve ibs bbs wts 0 := St.own (HSTR.out.below hbr4) HSTR.out (fun k hk => oold k (by rw [HOB.out]; exact hk))
    have F24 : Frm (fun _ => False) w2 w4 := Frm.of_below (hb3.trans (hb4.mono hz23))
    have hrl4 : Nums w4 w.heap.size W0.heap.size (n + 8) (roomRow zs 8) := owns_base (F24.owns hn2.out (fun _ _ e => e)) hsp
    have hz4 : IntsIn w4 (some a) n zs := hz3.out.below hb4
    have WH := whole_st (cap := cap) h4 o50 hrl4 hz4 hn hM hil
    have HWH : Hid (Calls Tryz.prog 40 #[.pointer (some ⟨p, 0, none⟩), .slice (some ⟨W0.heap.size, 0, none⟩) n (n + 8), .slice (some a) n cap] w4 fun x w' => x = .returned (.bool true) ∧ ∃ own' vi' ibs', St w wH w' p (M + 1) own' vi' vb vw ve ibs' bbs wts 0 ∧ ibs'.length = ibs.length + 1 ∧ (∀ k, k < w4.heap.size → O k ≠ 50 → own' k = O k) ∧ Fill w' (.slice (some ⟨W0.heap.size, 0, none⟩) (n + 8) (n + 8)) (n + 8) [.int .i64 (-((M : Int) + 1))] ∧ Frm (fun k => O k = 0 ∨ O k = 50 ∨ O k = 2) w4 w') := WH
    have ok4 : Hid (w4.ownsRow w.heap.size 3 1 (.slice ak m ck) LL.length (ints LL)) := owns_base (F24.owns hk1 (fun _ _ e => e)) (by omega)
    have ob4 : Hid (w4.ownsRow w.heap.size 3 1 (.slice abk m cbk) LL.length (ints LL)) := owns_base ((Frm.of_below (S := fun _ => False) hb4).owns hbk1 (fun _ _ e => e)) (by omega)
    have oj4 : Hid (w4.ownsRow w.heap.size 3 1 (.slice aj m cj) LL.length (ints LL)) := owns_base hj1 (by omega)
    have kin4 : Hid (IntsIn w4 ak m LL) := (hkin.below hb3).below hb4
    have bin4 : Hid (IntsIn w4 abk m LL) := hbin.below hb4
    have jin4 : Hid (IntsIn w4 aj m LL) := hjin
    have RK : Hid (role O (.slice ak m ck) 60) := rk
    have RB : Hid (role O (.slice abk m cbk) 61) := rb2
    have RJ : Hid (role O (.slice aj m cj) 62) := rj
    have O63 : Hid (O ob = 63) := o63
    have HB4 : Hid (w4.heap[ob]? = some (.cells #[.int .i64 kd, .string s, .int .i64 c0, .int .i64 c1, .int .i64 c2, .int .u8 q0, .int .u8 q1, .int .u8 q2, .slice ba bl bc, .slice (some a) n cap, .int .i64 z, .slice fa fl fc] 44 (0, 0))) := blk_below (blk_below (blk_below (blk_below hbox.out hb1) hb2) hb3) hb4
    have hgw4 : Hid (W0.heap.size < w4.heap.size) := by unfold Hid; omega
    have hobw4 : Hid (ob < w4.heap.size) := by unfold Hid; omega
    obtain ⟨g, hg⟩ : ∃ g, g = W0.heap.size := ⟨_, rfl⟩
    rw [← hg] at HWH hgw4 ⊢
    have HG : Hid (g = W0.heap.size) := hg
    clear hg
    clear WH h4 F24 hrl4 hz4 rk rb2 rj o63 o50 oold hO hbr4 hb04 hg1 hz12 hz23 hz34 hn1 hb1 hb2 hb3 hb4 hb03 hk1 hbk1 hj1 hkin hbin hjin hk2 hbk2 hj2 k1 k2 k3 k3b j9 hn2 hz3 hbox HE0 HST HSTR HZ0 E1 E2
    go_upto_region 10 with (first
    | (go_at_call 40; refine HWH.out.mono ?_; rintro e w5 ⟨rfl, own5, vi5, ibs5, st5, hil5, hkey5, hfill5, hfr5⟩; have kin5 : Hid (IntsIn w5 ak m LL) := kin4.out.frm hfr5 (fun q hq hS => (by have := RK.out q.block (by rw [hq]; rfl); omega)); have bin5 : Hid (IntsIn w5 abk m LL) := bin4.out.frm hfr5 (fun q hq hS => (by have := RB.out q.block (by rw [hq]; rfl); omega)); have jin5 : Hid (IntsIn w5 aj m LL) := jin4.out.frm hfr5 (fun q hq hS => (by have := RJ.out q.block (by rw [hq]; rfl); omega)))
    | (clear S1; go_at_call 16; refine (sameInts_true _ ak aj m ck cj LL kin5.out jin5.out (by omega)).mono ?_; rintro e w6 ⟨rfl, hb6⟩)
    | (clear S2; go_at_call 16; refine (sameInts_true _ abk aj m cbk cj LL (bin5.out.below hb6) (jin5.out.below hb6) (by omega)).mono ?_; rintro e w7 ⟨rfl, hb7⟩)
    | (go_at_call 31; refine (num_any _ _).mono ?_; rintro e w19 ⟨rfl, hw⟩; rw [hw]; clear hw))
    have hb57 : Below w5.heap.size w5 w7 := hb6.trans (hb7.mono hb6.size)
    obtain ⟨zt, hzt⟩ : ∃ zt, zt = List.replicate n (-((M : Int) + 1)) := ⟨_, rfl⟩
    have hztl : zt.length = n := by rw [hzt]; exact List.length_replicate
    have hg5 : g < w5.heap.size := Nat.lt_of_lt_of_le hgw4.out hfr5.size
    have tin5 := IntsIn.of_fill (n := n) hfill5 (by omega) hg5
    rw [← hzt] at tin5
    have tin7 : Hid (IntsIn w7 (some ⟨g, 0, none⟩) n zt) := tin5.below hb57
    have HNEWS : Hid (∀ j u, (ints zt)[j]? = some u → w7.cell? ((⟨g, 0, none⟩ : Addr).add j) = some u) := fun j u hu => by
      have hj : j < zt.length := by
        rcases Nat.lt_or_ge j zt.length with h' | h'
        · exact h'
        · rw [List.getElem?_eq_none (by rw [ints_length]; exact h')] at hu; cases hu
      rw [ints_get zt j hj] at hu
      injection hu with hu
      subst hu
      rcases tin7.out.2 with h0 | ⟨b, off, e, _, hc⟩
      · omega
      · simp only [Option.some.injEq, Addr.mk.injEq, and_true] at e
        obtain ⟨rfl, rfl⟩ := e
        have := hc j (by omega)
        rw [Addr.add_mid]
        exact this
    have HLT : Hid ((ints zt).length = n * 1) := by unfold Hid; rw [ints_length]; omega
    have HZTL : Hid (zt.length = n) := hztl
    have hbox7 : Hid (w7.heap[ob]? = some (.cells #[.int .i64 kd, .string s, .int .i64 c0, .int .i64 c1, .int .i64 c2, .int .u8 q0, .int .u8 q1, .int .u8 q2, .slice ba bl bc, .slice (some a) n cap, .int .i64 z, .slice fa fl fc] 44 (0, 0))) := blk_below ((hfr5.block ob hobw4.out (fun hS => by have := O63.out; omega)).trans HB4.out) hb57
    have m1 := boxCell hbox7.out 1 _ rfl
    have E7 : Hid (Errs w7 a0 a1 a2) := (HEW.out.below st5.bel).below hb57
    have ok7 : Hid (w7.ownsRow w.heap.size 3 1 (.slice ak m ck) LL.length (ints LL)) := (Frm.of_below (S := fun _ => False) hb57).owns (hfr5.owns ok4.out (fun k hk hS => by have := RK.out k hk; omega)) (fun _ _ e => e)
    have ob7 : Hid (w7.ownsRow w.heap.size 3 1 (.slice abk m cbk) LL.length (ints LL)) := (Frm.of_below (S := fun _ => False) hb57).owns (hfr5.owns ob4.out (fun k hk hS => by have := RB.out k hk; omega)) (fun _ _ e => e)
    have oj7 : Hid (w7.ownsRow w.heap.size 3 1 (.slice aj m cj) LL.length (ints LL)) := (Frm.of_below (S := fun _ => False) hb57).owns (hfr5.owns oj4.out (fun k hk hS => by have := RJ.out k hk; omega)) (fun _ _ e => e)
    have RK5 : Hid (role own5 (.slice ak m ck) 60) := RK.out.congr (fun k hk => hkey5 k (World.ownsRow.lt ok4.out k hk).2 (by rw [RK.out k hk]; decide))
    have RB5 : Hid (role own5 (.slice abk m cbk) 61) := RB.out.congr (fun k hk => hkey5 k (World.ownsRow.lt ob4.out k hk).2 (by rw [RB.out k hk]; decide))
    have RJ5 : Hid (role own5 (.slice aj m cj) 62) := RJ.out.congr (fun k hk => hkey5 k (World.ownsRow.lt oj4.out k hk).2 (by rw [RJ.out k hk]; decide))
    have st7 : Hid (St w wH w7 p (M + 1) own5 vi5 vb vw ve ibs5 bbs wts 0) := st5.below hb57
    have HIL5 : Hid (ibs5.length = ibs.length + 1) := hil5
    have H7 : Hid (B7 w wH w7 p M own5 vi5 vb vw ve ibs5 bbs wts (ibs.length + 1) ob g n a0 a1 a2 s (.slice ak m ck) (.slice abk m cbk) (.slice aj m cj) LL zt) := ⟨tin7.out, HNEWS.out, hztl, HLT.out, boxCell hbox7.out 1 _ rfl, E7.out, ok7.out, ob7.out, oj7.out, RK5.out, RB5.out, RJ5.out, st7.out, hil5, (fun h0 => hjn.out (by rw [← HM.out]; exact h0)), by rw [HM.out]; omega, HMT.out zt⟩
    obtain ⟨ET, hET⟩ : ∃ ET, strE s zt = ET := ⟨_, rfl⟩
    obtain ⟨LT, hLT⟩ : ∃ LT, strL s zt = LT := ⟨_, rfl⟩
    obtain ⟨mt, hmt⟩ : ∃ mt, LT.length = mt := ⟨_, rfl⟩
    have hmt4 : mt ≤ 4000 := by rw [← hmt, ← hLT]; exact HMT.out zt
    have HET : Hid (strE s zt = ET ∧ strL s zt = LT ∧ LT.length = mt) := ⟨hET, hLT, hmt⟩
    clear hET hLT hmt hzt hztl hg5 tin5 hb57 hb6 hb7 hfill5 hfr5 hkey5 st5 hil5 kin4 bin4 jin4 kin5 bin5 jin5 ok4 ob4 oj4 RK RB RJ O63 HB4 HWH hgw4 hobw4 k4 ok7 ob7 oj7 RK5 RB5 RJ5 st7 HIL5 tin7 HNEWS HLT HZTL E7 hbox7 m1 HEE HLL HMT HEW HZ HA HW0 HOB HG hsp hobW HM hlen qn hjn
    have m1 := H7.out.box
    go_wp2_with (at_builtin; refine wpList_append_own _ rfl (.const (.slice none 0 0)) (.tmp 90) 39 rfl w7.heap.size 3 k0 (.int .i64 0) 1 8 Tryz.underlying39 ki kz0 kz1 kz2 rfl (by decide) (.slice none 0 0) 0 [] rfl (World.ownsRow_nil _ _ _ _) ⟨g, 0, none⟩ n (n + 8) (ints zt) rfl H7.out.ztl1 H7.out.news (oneCell_ints zt) (by unfold maxLen; omega) (by omega) (Nat.le_refl _) ?_)
    intro vt w8 how8 hgr8 _
    have hb8 : Below w7.heap.size w7 w8 := (Below.refl _ _).grown hgr8 (Nat.le_refl _) (fun k hk => by simp [Value.ownBlock] at hk)
    obtain ⟨at8, ct, rfl, htin8⟩ : ∃ a c, vt = .slice a n c ∧ IntsIn w8 a n zt := shapeI (zs := zt) (by rw [H7.out.ztl]; exact how8) H7.out.ztl
    have m2 := cellB m1 hb8
    have HTIN : Hid (IntsIn w8 at8 n zt ∧ IntsIn w8 (some ⟨g, 0, none⟩) n zt ∧ Errs w8 a0 a1 a2) := ⟨htin8, H7.out.tin.below hb8, H7.out.err.below hb8⟩
    clear how8 hgr8 htin8 m1
    go_wp2_with (first
    | (go_at_call 39; refine (pStretch _ s (some ⟨g, 0, none⟩) n (n + 8) zt HTIN.out.2.1 hs a0 a1 a2 HTIN.out.2.2).mono ?_; rintro e w9 ⟨vx, rfl, hx1, _, _, hb9⟩; rw [HET.out.1]; rw [HET.out.2.1] at hx1; obtain ⟨ax, cx, rfl, hxin⟩ := shapeI hx1 HET.out.2.2; have m3 := cellB m2 hb9; clear hx1)
    | (go_at_call 37; refine (refStretch _ s at8 n ct zt (HTIN.out.1.below hb9) hs).mono ?_; rintro e w10 ⟨⟨vy, rfl, hy1, _, _, hb10⟩, _⟩; rw [HET.out.1]; rw [HET.out.2.1] at hy1; obtain ⟨ay, cy, rfl, hyin⟩ := shapeI hy1 HET.out.2.2; clear hy1)
    | (go_at_call 16; refine (sameInts_true _ ax ay mt cx cy LT (hxin.below hb10) hyin (by omega)).mono ?_; rintro e w11 ⟨rfl, hb11⟩; have hb711 : Below w7.heap.size w7 w11 := ((hb8.trans (hb9.mono hb8.size)).trans (hb10.mono (Nat.le_trans hb8.size hb9.size))).trans (hb11.mono (Nat.le_trans (Nat.le_trans hb8.size hb9.size) hb10.size)))
    | (go_at_call 31; refine (num_any _ _).mono ?_; rintro e w19 ⟨rfl, hw⟩; rw [hw]; clear hw)
    | (clear K1; go_at_call 41; refine (keep_one H7.out hb711 hwl).mono ?_; rintro e w12 ⟨rfl, hkk⟩)
    | (go_at_call 41; refine hkk.mono ?_; rintro e w13 ⟨rfl, hfin⟩))
    go_ret
    exact ⟨rfl, hfin⟩
  · have HNE : Hid (EE ≠ 0) := hE
    have hEn : (EE != 0) = true := by simpa using hE
    have hL0 : LL = [] := by rw [← HLL.out]; unfold strL; rw [if_neg (by rw [HEE.out]; exact hE)]
    have HLI : Hid (∀ wx : World, IntsIn wx none 0 LL) := fun wx => ⟨by rw [hL0]; rfl, .inl rfl⟩
    have HM : Hid (LL.length = 0) := by unfold Hid; rw [hL0]; rfl
    clear hE hEE hm4 hL0
    go_enter Tryz.func13, Tryz.ntmps13
    go_upto_region 5 with (first
    | (go_at_call 38; rw [← HW0.out]; refine (lentInts_some W0 a n cap zs HZ0.out (by omega)).mono ?_; rintro e w1 ⟨rfl, hn1, hb1⟩; rw [← HOB.out]; have k1 := boxCell (blk_below hbox.out hb1) 1 _ rfl; have E1 : Hid (Errs w1 a0 a1 a2) := HE0.out.below hb1)
    | (clear T1; go_at_call 39; refine (pStretch _ s (some ⟨W0.heap.size, 0, none⟩) n (n + 8) zs (IntsIn.of_room hn1 hlen) hs a0 a1 a2 E1.out).mono ?_; rintro e w2 ⟨vk, rfl, hk1, hk2, _, hb2⟩; rw [HEE.out] at hk2 ⊢; rw [HLL.out] at hk1; obtain rfl := hk2 HNE.out; have hkin : IntsIn w2 none 0 LL := HLI.out w2; have k2 := boxCell (blk_below (blk_below hbox.out hb1) hb2) 1 _ rfl; have E2 : Hid (Errs w2 a0 a1 a2) := E1.out.below hb2; have hn2 : Hid (Nums w2 W0.heap.size W0.heap.size (n + 8) (roomRow zs 8)) := (Frm.of_below (S := fun _ => False) hb2).owns hn1 (fun _ _ e => e))
    | (clear T2; go_at_call 39; refine (pStretch _ s (some ⟨W0.heap.size, 0, none⟩) n (n + 8) zs (IntsIn.of_room hn2.out hlen) hs a0 a1 a2 E2.out).mono ?_; rintro e w3 ⟨vb2, rfl, hbk1, hbk2, _, hb3⟩; rw [HEE.out] at hbk2 ⊢; rw [HLL.out] at hbk1; obtain rfl := hbk2 HNE.out; have hbin : IntsIn w3 none 0 LL := HLI.out w3; have k3 := boxCell (blk_below (blk_below (blk_below hbox.out hb1) hb2) hb3) 1 _ rfl; have k3b := boxCell (blk_below (blk_below (blk_below hbox.out hb1) hb2) hb3) 9 _ rfl; have hb03 : Below W0.heap.size W0 w3 := (hb1.trans (hb2.mono hb1.size)).trans (hb3.mono (Nat.le_trans hb1.size hb2.size)); have hz3 : Hid (IntsIn w3 (some a) n zs) := HZ0.out.below hb03)
    | (clear R1; go_at_call 37; refine (refStretch _ s (some a) n cap zs hz3.out hs).mono ?_; rintro e w4 ⟨⟨vj, rfl, hj1, hj2, _, hb4⟩, hj4⟩; rw [HEE.out] at hj2 ⊢; rw [HLL.out] at hj1; obtain rfl := hj2 HNE.out; have hjin : IntsIn w4 none 0 LL := HLI.out w4; have k4 := boxCell (blk_below (blk_below (blk_below (blk_below hbox.out hb1) hb2) hb3) hb4) 9 _ rfl))
    have hg1 := hn1.lt.2
    have hz12 := hb2.size
    have hz23 := hb3.size
    have hz34 := hb4.size
    have hb04 : Below W0.heap.size W0 w4 := hb03.trans (hb4.mono hb03.size)
    have hbr4 : Below wr.heap.size wr w4 := (show Below wr.heap.size wr W0 from by rw [HW0.out]; exact (Below.refl _ _).alloc (Nat.le_refl _) _).trans (hb04.mono (by rw [← HOB.out]; omega))
    obtain ⟨o63, o50, rk, rb2, rj, oold⟩ := own6_roles own (ob := ob) (g := W0.heap.size) (s1 := w1.heap.size) (s2 := w2.heap.size) (s3 := w3.heap.size) (vk := .slice none 0 0) (vb := .slice none 0 0) (vj := .slice none 0 0) hobW hg1 hz12 hz23 (fun k hk => World.ownsRow.lt hk1 k hk) (fun k hk => World.ownsRow.lt hbk1 k hk) (fun k hk => (World.ownsRow.lt hj1 k hk).1)
    obtain ⟨O, hO⟩ : ∃ O, O = own6 own ob W0.heap.size (.slice none 0 0) (.slice none 0 0) (.slice none 0 0) := ⟨_, rfl⟩
    rw [← hO] at o63 o50 rk rb2 rj oold
    have h4 : St w wH w4 p M O vi vb vw ve ibs bbs wts 0 := St.own (HSTR.out.below hbr4) HSTR.out (fun k hk => oold k (by rw [HOB.out]; exact hk))
    have F24 : Frm (fun _ => False) w2 w4 := Frm.of_below (hb3.trans (hb4.mono hz23))
    have hrl4 : Nums w4 w.heap.size W0.heap.size (n + 8) (roomRow zs 8) := owns_base (F24.owns hn2.out (fun _ _ e => e)) hsp
    have hz4 : IntsIn w4 (some a) n zs := hz3.out.below hb4
    have WH := whole_st (cap := cap) h4 o50 hrl4 hz4 hn hM hil
    have HWH : Hid (Calls Tryz.prog 40 #[.pointer (some ⟨p, 0, none⟩), .slice (some ⟨W0.heap.size, 0, none⟩) n (n + 8), .slice (some a) n cap] w4 fun x w' => x = .returned (.bool true) ∧ ∃ own' vi' ibs', St w wH w' p (M + 1) own' vi' vb vw ve ibs' bbs wts 0 ∧ ibs'.length = ibs.length + 1 ∧ (∀ k, k < w4.heap.size → O k ≠ 50 → own' k = O k) ∧ Fill w' (.slice (some ⟨W0.heap.size, 0, none⟩) (n + 8) (n + 8)) (n + 8) [.int .i64 (-((M : Int) + 1))] ∧ Frm (fun k => O k = 0 ∨ O k = 50 ∨ O k = 2) w4 w') := WH
    have ok4 : Hid (w4.ownsRow w.heap.size 3 1 (.slice none 0 0) LL.length (ints LL)) := owns_base (F24.owns hk1 (fun _ _ e => e)) (by omega)
    have ob4 : Hid (w4.ownsRow w.heap.size 3 1 (.slice none 0 0) LL.length (ints LL)) := owns_base ((Frm.of_below (S := fun _ => False) hb4).owns hbk1 (fun _ _ e => e)) (by omega)
    have oj4 : Hid (w4.ownsRow w.heap.size 3 1 (.slice none 0 0) LL.length (ints LL)) := owns_base hj1 (by omega)
    have kin4 : Hid (IntsIn w4 none 0 LL) := (hkin.below hb3).below hb4
    have bin4 : Hid (IntsIn w4 none 0 LL) := hbin.below hb4
    have jin4 : Hid (IntsIn w4 none 0 LL) := hjin
    have RK : Hid (role O (.slice none 0 0) 60) := rk
    have RB : Hid (role O (.slice none 0 0) 61) := rb2
    have RJ : Hid (role O (.slice none 0 0) 62) := rj
    have O63 : Hid (O ob = 63) := o63
    have HB4 : Hid (w4.heap[ob]? = some (.cells #[.int .i64 kd, .string s, .int .i64 c0, .int .i64 c1, .int .i64 c2, .int .u8 q0, .int .u8 q1, .int .u8 q2, .slice ba bl bc, .slice (some a) n cap, .int .i64 z, .slice fa fl fc] 44 (0, 0))) := blk_below (blk_below (blk_below (blk_below hbox.out hb1) hb2) hb3) hb4
    have hgw4 : Hid (W0.heap.size < w4.heap.size) := by unfold Hid; omega
    have hobw4 : Hid (ob < w4.heap.size) := by unfold Hid; omega
    obtain ⟨g, hg⟩ : ∃ g, g = W0.heap.size := ⟨_, rfl⟩
    rw [← hg] at HWH hgw4 ⊢
    have HG : Hid (g = W0.heap.size) := hg
    clear hg
    clear WH h4 F24 hrl4 hz4 rk rb2 rj o63 o50 oold hO hbr4 hb04 hg1 hz12 hz23 hz34 hn1 hb1 hb2 hb3 hb4 hb03 hk1 hbk1 hj1 hkin hbin hjin hk2 hbk2 hj2 k1 k2 k3 k3b j9 hn2 hz3 hbox HE0 HST HSTR HZ0 E1 E2
    go_upto_region 10 with (first
    | (go_at_call 40; refine HWH.out.mono ?_; rintro e w5 ⟨rfl, own5, vi5, ibs5, st5, hil5, hkey5, hfill5, hfr5⟩; have kin5 : Hid (IntsIn w5 none 0 LL) := kin4.out.frm hfr5 (fun q hq hS => (by have := RK.out q.block (by rw [hq]; rfl); omega)); have bin5 : Hid (IntsIn w5 none 0 LL) := bin4.out.frm hfr5 (fun q hq hS => (by have := RB.out q.block (by rw [hq]; rfl); omega)); have jin5 : Hid (IntsIn w5 none 0 LL) := jin4.out.frm hfr5 (fun q hq hS => (by have := RJ.out q.block (by rw [hq]; rfl); omega)))
    | (clear S1; go_at_call 16; refine (sameInts_true _ none none 0 0 0 LL kin5.out jin5.out (by omega)).mono ?_; rintro e w6 ⟨rfl, hb6⟩)
    | (clear S2; go_at_call 16; refine (sameInts_true _ none none 0 0 0 LL (bin5.out.below hb6) (jin5.out.below hb6) (by omega)).mono ?_; rintro e w7 ⟨rfl, hb7⟩)
    | (go_at_call 31; refine (num_any _ _).mono ?_; rintro e w19 ⟨rfl, hw⟩; rw [hw]; clear hw))
    have hb57 : Below w5.heap.size w5 w7 := hb6.trans (hb7.mono hb6.size)
    obtain ⟨zt, hzt⟩ : ∃ zt, zt = List.replicate n (-((M : Int) + 1)) := ⟨_, rfl⟩
    have hztl : zt.length = n := by rw [hzt]; exact List.length_replicate
    have hg5 : g < w5.heap.size := Nat.lt_of_lt_of_le hgw4.out hfr5.size
    have tin5 := IntsIn.of_fill (n := n) hfill5 (by omega) hg5
    rw [← hzt] at tin5
    have tin7 : Hid (IntsIn w7 (some ⟨g, 0, none⟩) n zt) := tin5.below hb57
    have HNEWS : Hid (∀ j u, (ints zt)[j]? = some u → w7.cell? ((⟨g, 0, none⟩ : Addr).add j) = some u) := fun j u hu => by
      have hj : j < zt.length := by
        rcases Nat.lt_or_ge j zt.length with h' | h'
        · exact h'
        · rw [List.getElem?_eq_none (by rw [ints_length]; exact h')] at hu; cases hu
      rw [ints_get zt j hj] at hu
      injection hu with hu
      subst hu
      rcases tin7.out.2 with h0 | ⟨b, off, e, _, hc⟩
      · omega
      · simp only [Option.some.injEq, Addr.mk.injEq, and_true] at e
        obtain ⟨rfl, rfl⟩ := e
        have := hc j (by omega)
        rw [Addr.add_mid]
        exact this
    have HLT : Hid ((ints zt).length = n * 1) := by unfold Hid; rw [ints_length]; omega
    have HZTL : Hid (zt.length = n) := hztl
    have hbox7 : Hid (w7.heap[ob]? = some (.cells #[.int .i64 kd, .string s, .int .i64 c0, .int .i64 c1, .int .i64 c2, .int .u8 q0, .int .u8 q1, .int .u8 q2, .slice ba bl bc, .slice (some a) n cap, .int .i64 z, .slice fa fl fc] 44 (0, 0))) := blk_below ((hfr5.block ob hobw4.out (fun hS => by have := O63.out; omega)).trans HB4.out) hb57
    have m1 := boxCell hbox7.out 1 _ rfl
    have E7 : Hid (Errs w7 a0 a1 a2) := (HEW.out.below st5.bel).below hb57
    have ok7 : Hid (w7.ownsRow w.heap.size 3 1 (.slice none 0 0) LL.length (ints LL)) := (Frm.of_below (S := fun _ => False) hb57).owns (hfr5.owns ok4.out (fun k hk hS => by have := RK.out k hk; omega)) (fun _ _ e => e)
    have ob7 : Hid (w7.ownsRow w.heap.size 3 1 (.slice none 0 0) LL.length (ints LL)) := (Frm.of_below (S := fun _ => False) hb57).owns (hfr5.owns ob4.out (fun k hk hS => by have := RB.out k hk; omega)) (fun _ _ e => e)
    have oj7 : Hid (w7.ownsRow w.heap.size 3 1 (.slice none 0 0) LL.length (ints LL)) := (Frm.of_below (S := fun _ => False) hb57).owns (hfr5.owns oj4.out (fun k hk hS => by have := RJ.out k hk; omega)) (fun _ _ e => e)
    have RK5 : Hid (role own5 (.slice none 0 0) 60) := RK.out.congr (fun k hk => hkey5 k (World.ownsRow.lt ok4.out k hk).2 (by rw [RK.out k hk]; decide))
    have RB5 : Hid (role own5 (.slice none 0 0) 61) := RB.out.congr (fun k hk => hkey5 k (World.ownsRow.lt ob4.out k hk).2 (by rw [RB.out k hk]; decide))
    have RJ5 : Hid (role own5 (.slice none 0 0) 62) := RJ.out.congr (fun k hk => hkey5 k (World.ownsRow.lt oj4.out k hk).2 (by rw [RJ.out k hk]; decide))
    have st7 : Hid (St w wH w7 p (M + 1) own5 vi5 vb vw ve ibs5 bbs wts 0) := st5.below hb57
    have HIL5 : Hid (ibs5.length = ibs.length + 1) := hil5
    have H7 : Hid (B7 w wH w7 p M own5 vi5 vb vw ve ibs5 bbs wts (ibs.length + 1) ob g n a0 a1 a2 s (.slice none 0 0) (.slice none 0 0) (.slice none 0 0) LL zt) := ⟨tin7.out, HNEWS.out, hztl, HLT.out, boxCell hbox7.out 1 _ rfl, E7.out, ok7.out, ob7.out, oj7.out, RK5.out, RB5.out, RJ5.out, st7.out, hil5, (fun _ => rfl), by rw [HM.out]; omega, HMT.out zt⟩
    obtain ⟨ET, hET⟩ : ∃ ET, strE s zt = ET := ⟨_, rfl⟩
    obtain ⟨LT, hLT⟩ : ∃ LT, strL s zt = LT := ⟨_, rfl⟩
    obtain ⟨mt, hmt⟩ : ∃ mt, LT.length = mt := ⟨_, rfl⟩
    have hmt4 : mt ≤ 4000 := by rw [← hmt, ← hLT]; exact HMT.out zt
    have HET : Hid (strE s zt = ET ∧ strL s zt = LT ∧ LT.length = mt) := ⟨hET, hLT, hmt⟩
    clear hET hLT hmt hzt hztl hg5 tin5 hb57 hb6 hb7 hfill5 hfr5 hkey5 st5 hil5 kin4 bin4 jin4 kin5 bin5 jin5 ok4 ob4 oj4 RK RB RJ O63 HB4 HWH hgw4 hobw4 k4 ok7 ob7 oj7 RK5 RB5 RJ5 st7 HIL5 tin7 HNEWS HLT HZTL E7 hbox7 m1 HEE HLL HMT HEW HZ HA HW0 HOB HG hsp hobW HM hlen qn HNE HLI hEn
    have m1 := H7.out.box
    go_wp2_with (at_builtin; refine wpList_append_own _ rfl (.const (.slice none 0 0)) (.tmp 90) 39 rfl w7.heap.size 3 k0 (.int .i64 0) 1 8 Tryz.underlying39 ki kz0 kz1 kz2 rfl (by decide) (.slice none 0 0) 0 [] rfl (World.ownsRow_nil _ _ _ _) ⟨g, 0, none⟩ n (n + 8) (ints zt) rfl H7.out.ztl1 H7.out.news (oneCell_ints zt) (by unfold maxLen; omega) (by omega) (Nat.le_refl _) ?_)
    intro vt w8 how8 hgr8 _
    have hb8 : Below w7.heap.size w7 w8 := (Below.refl _ _).grown hgr8 (Nat.le_refl _) (fun k hk => by simp [Value.ownBlock] at hk)
    obtain ⟨at8, ct, rfl, htin8⟩ : ∃ a c, vt = .slice a n c ∧ IntsIn w8 a n zt := shapeI (zs := zt) (by rw [H7.out.ztl]; exact how8) H7.out.ztl
    have m2 := cellB m1 hb8
    have HTIN : Hid (IntsIn w8 at8 n zt ∧ IntsIn w8 (some ⟨g, 0, none⟩) n zt ∧ Errs w8 a0 a1 a2) := ⟨htin8, H7.out.tin.below hb8, H7.out.err.below hb8⟩
    clear how8 hgr8 htin8 m1
    go_wp2_with (first
    | (go_at_call 39; refine (pStretch _ s (some ⟨g, 0, none⟩) n (n + 8) zt HTIN.out.2.1 hs a0 a1 a2 HTIN.out.2.2).mono ?_; rintro e w9 ⟨vx, rfl, hx1, _, _, hb9⟩; rw [HET.out.1]; rw [HET.out.2.1] at hx1; obtain ⟨ax, cx, rfl, hxin⟩ := shapeI hx1 HET.out.2.2; have m3 := cellB m2 hb9; clear hx1)
    | (go_at_call 37; refine (refStretch _ s at8 n ct zt (HTIN.out.1.below hb9) hs).mono ?_; rintro e w10 ⟨⟨vy, rfl, hy1, _, _, hb10⟩, _⟩; rw [HET.out.1]; rw [HET.out.2.1] at hy1; obtain ⟨ay, cy, rfl, hyin⟩ := shapeI hy1 HET.out.2.2; clear hy1)
    | (go_at_call 16; refine (sameInts_true _ ax ay mt cx cy LT (hxin.below hb10) hyin (by omega)).mono ?_; rintro e w11 ⟨rfl, hb11⟩; have hb711 : Below w7.heap.size w7 w11 := ((hb8.trans (hb9.mono hb8.size)).trans (hb10.mono (Nat.le_trans hb8.size hb9.size))).trans (hb11.mono (Nat.le_trans (Nat.le_trans hb8.size hb9.size) hb10.size)))
    | (go_at_call 31; refine (num_any _ _).mono ?_; rintro e w19 ⟨rfl, hw⟩; rw [hw]; clear hw)
    | (clear K1; go_at_call 41; refine (keep_one H7.out hb711 hwl).mono ?_; rintro e w12 ⟨rfl, hkk⟩)
    | (go_at_call 41; refine hkk.mono ?_; rintro e w13 ⟨rfl, hfin⟩))
    go_ret
    exact ⟨rfl, hfin⟩

end Go.Proofs.YtbabcphjddchkaaGreatDoor
