/-
  The step Squeeze of a script: what the program packs is read by the document. The step Squeeze of a script, walked. The step Squeeze of a script, of no list at all. The step Stretch of a script: what is lent is looked at and marked; what came out is kept. The step Stretch of a script, walked. The step Stretch of a script, of no list at all.
-/
import Derived.Test.YtekfbphnoibnjaaGreatDoorLinAll
import Derived.Test.YtekfbphnoibnjaaGreatDoorSqd2
import Derived.Test.YtekfbphnoibnjaaGreatDoorNum
import Derived.Deep.CutBlock
import Derived.Deep.DeepCutAuto
namespace Go.Proofs.YtekfbphnoibnjaaGreatDoor
open Go.RowKit

/-- What a list of bits of a step reads as, in every world between steps. -/
theorem St.bitsIn {w wH wr : World} {p M : Nat} {own : Nat → Nat} {vi vb vw ve : Value} {ibs : List IntB} {bbs : List BitB} {wts : List Wt} {d : Nat} (h : St w wH wr p M own vi vb vw ve ibs bbs wts d) {a : Option Addr} {n : Nat} {bs : List (Int × Int)} (hz : BitsIn wH a n bs) (ha : ∀ x, a = some x → n ≠ 0 → x.block ≠ p) : BitsIn wr a n bs := by
  refine ⟨hz.1, ?_⟩
  rcases hz.2 with h0 | ⟨b, off, rfl, hb, hc⟩
  · exact .inl h0
  · by_cases hn : n = 0
    · exact .inl hn
    · have hk := h.kept b hb (ha _ rfl hn)
      exact .inr ⟨b, off, rfl, Nat.lt_of_lt_of_le hb h.sz, fun i hi => ⟨(World.cell?_of_block (a := ⟨b, off + i * 2, none⟩) hk).trans (hc i hi).1, (World.cell?_of_block (a := ⟨b, off + i * 2 + 1, none⟩) hk).trans (hc i hi).2⟩⟩
theorem St.intsIn {w wH wr : World} {p M : Nat} {own : Nat → Nat} {vi vb vw ve : Value} {ibs : List IntB} {bbs : List BitB} {wts : List Wt} {d : Nat} (h : St w wH wr p M own vi vb vw ve ibs bbs wts d) {a : Option Addr} {n : Nat} {zs : List Int} (hz : IntsIn wH a n zs) (ha : ∀ x, a = some x → n ≠ 0 → x.block ≠ p) : IntsIn wr a n zs := by
  refine ⟨hz.1, ?_⟩
  rcases hz.2 with h0 | ⟨b, off, rfl, hb, hc⟩
  · exact .inl h0
  · by_cases hn : n = 0
    · exact .inl hn
    · have hk := h.kept b hb (ha _ rfl hn)
      exact .inr ⟨b, off, rfl, Nat.lt_of_lt_of_le hb h.sz, fun i hi => (World.cell?_of_block (a := ⟨b, off + i, none⟩) hk).trans (hc i hi)⟩

theorem BitsIn.of_room {w : World} {B g n : Nat} {bs : List (Int × Int)} (h : BNums w B g (n + 8) (roomBits bs 8)) (hl : bs.length = n) : BitsIn w (some ⟨g, 0, none⟩) n bs := by
  refine ⟨hl, .inr ⟨g, 0, rfl, h.lt.2, fun i hi => ?_⟩⟩
  have hc := h.cell i (by omega)
  rw [roomBits_lo bs i (by omega)] at hc
  rw [Nat.zero_add]
  exact hc

/-- Cells of a block that a quiet call leaves alone. -/
theorem blk_below {w w' : World} {b : Nat} {c : Array Value} {t : TypeId} (h : w.heap[b]? = some (.cells c t (0, 0))) (f : Below w.heap.size w w') : w'.heap[b]? = some (.cells c t (0, 0)) := by
  have hb : b < w.heap.size := by
    rcases Nat.lt_or_ge b w.heap.size with h' | h'
    · exact h'
    · rw [Array.getElem?_eq_none h'] at h; cases h
  exact (f.block b hb).trans h

/-- The world ahead of the packed bytes' reading. -/
structure SqW (w wH wr : World) (p M : Nat) (vi vw ve : Value) (ibs : List IntB) (bn : Nat) (wts : List Wt) : Prop where
  st : ∃ own vb bbs, St w wH wr p M own vi vb vw ve ibs bbs wts 0 ∧ bbs.length = bn
theorem SqW.below {w wH wr wr' : World} {p M : Nat} {vi vw ve : Value} {ibs : List IntB} {bn : Nat} {wts : List Wt} (h : SqW w wH wr p M vi vw ve ibs bn wts) (f : Below wr.heap.size wr wr') : SqW w wH wr' p M vi vw ve ibs bn wts := by
  obtain ⟨own, vb, bbs, h1, h2⟩ := h.st
  exact ⟨own, vb, bbs, h1.below f, h2⟩
theorem SqW.bitsIn {w wH wr : World} {p M : Nat} {vi vw ve : Value} {ibs : List IntB} {bn : Nat} {wts : List Wt} (h : SqW w wH wr p M vi vw ve ibs bn wts) {a : Option Addr} {n : Nat} {bs : List (Int × Int)} (hz : BitsIn wH a n bs) (ha : ∀ x, a = some x → n ≠ 0 → x.block ≠ p) : BitsIn wr a n bs := by
  obtain ⟨own, vb, bbs, h1, _⟩ := h.st
  exact h1.bitsIn hz ha

/-- The fresh role of a list that was lent. -/
def own50 (own : Nat → Nat) (g : Nat) : Nat → Nat := fun k => if k = g then 50 else own k
theorem free50 : Free 50 := ⟨by decide, by decide, by decide, by decide, by decide, by decide, by decide⟩

/-- The list that was lent is looked at and marked. -/
theorem whole_sq {w wH W0 w2 : World} {p M : Nat} {own : Nat → Nat} {vi vb vw ve : Value} {ibs : List IntB} {bbs : List BitB} {wts : List Wt} (h : St w wH W0 p M own vi vb vw ve ibs bbs wts 0) (hb : Below W0.heap.size W0 w2) {g n cap : Nat} {a : Addr} {bs : List (Int × Int)} (hg : g = W0.heap.size)
    (hrl : BNums w2 w.heap.size g (n + 8) (roomBits bs 8)) (hz : BitsIn wH (some a) n bs) (ha : n ≠ 0 → a.block ≠ p) (hn : n ≤ 800000000) (hM : M ≤ 100000000) (hbl : bbs.length ≤ 100000000) :
    Calls Tryz.prog 60 #[.pointer (some ⟨p, 0, none⟩), .slice (some ⟨g, 0, none⟩) n (n + 8), .slice (some a) n cap] w2 fun x w' => x = .returned (.bool true) ∧ SqW w wH w' p (M + 1) vi vw ve ibs (bbs.length + 1) wts ∧ ∀ k, wH.heap.size ≤ k → k < w2.heap.size → k ≠ g → (∀ v, v = vb → v.ownBlock ≠ some k) → w'.heap[k]? = w2.heap[k]? := by
  have h2 : St w wH w2 p M (own50 own g) vi vb vw ve ibs bbs wts 0 := St.own (h.below hb) h (fun k hk => by unfold own50; rw [if_neg (by omega)])
  have hz2 := h2.bitsIn hz (fun x hx hn0 => by injection hx with hx; rw [← hx]; exact ha hn0)
  obtain ⟨ab, cb, hvb, _⟩ := owns_shape h2.ob
  have hp0 := h2.op
  have hog : own50 own g g = 50 := by unfold own50; rw [if_pos rfl]
  have hgp : g ≠ p := by have := h.bk.up; omega
  have hrb := h2.rb
  have hob := h2.ob
  rw [hvb] at hrb hob
  have hv1 : (bookVs vi vb vw ve)[1]? = some (.slice ab bbs.length cb) := by rw [← hvb]; rfl
  have hnb : ∀ k, own50 own g k ≠ 3 → (Value.slice ab bbs.length cb).ownBlock ≠ some k := fun k hk e => hk (hrb k e)
  have key := wholeBits_some w2 w.heap.size p M (bookVs vi vb vw ve) ab bbs.length cb (bbCells bbs) g n a cap bs h2.bk hv1 hob hrl hz2
    (fun hn0 hS => by
      have hab : a.block < wH.heap.size := by
        rcases hz.2 with h0 | ⟨b, off, e, hb', _⟩
        · exact absurd h0 hn0
        · injection e with e; rw [e]; exact hb'
      have h1 := h2.o1 a.block hab (ha hn0)
      rcases hS with e | e | e
      · exact ha hn0 e
      · rw [e, hog] at h1; exact absurd h1 (by decide)
      · have := hrb _ e; omega)
    (by rw [h.hp]; exact Nat.le_refl _)
    (hnb p (by rw [hp0]; decide)) hgp (hnb g (by rw [hog]; decide)) (by omega) (by omega) (by omega)
  refine key.mono ?_
  rintro x w' ⟨rfl, hm⟩
  refine ⟨rfl, ?_, ?_⟩
  · rw [← hvb] at hm
    obtain ⟨own', vb', x', hst⟩ := h2.bits hm hog free50 (fun i _ _ => by omega) (by omega) (by have := hrl.lt; omega)
    exact ⟨own', vb', _, hst, by simp⟩
  · obtain ⟨gi, ci, _, _, _, _, _, _, hfr⟩ := hm
    intro k hk1 hk2 hkg hkv
    refine hfr.block k hk2 (fun hS => ?_)
    rcases hS with e | e | e
    · have := h.hw; have := h.hp; omega
    · exact hkg e
    · exact hkv vb rfl (by rw [hvb]; exact e)

end Go.Proofs.YtekfbphnoibnjaaGreatDoor
namespace Go.Proofs.YtekfbphnoibnjaaGreatDoor
open Go.RowKit

/-- The cells of a step that lies at block ob. -/
def opArr (kd : Int) (s : ByteArray) (c0 c1 c2 p0 p1 p2 : Int) (vb vl : Value) (z : Int) (vf : Value) : Array Value := #[.int .i64 kd, .string s, .int .i64 c0, .int .i64 c1, .int .i64 c2, .int .u8 p0, .int .u8 p1, .int .u8 p2, vb, vl, .int .i64 z, vf]

theorem boxCell {w : World} {ob : Nat} {c : Array Value} (h : w.heap[ob]? = some (.cells c 54 (0, 0))) (j : Nat) (v : Value) (hv : c[j]? = some v) : w.cell? ⟨ob, j, none⟩ = some v := by
  rw [cell_of_row _ _ j _ _ _ h]; exact hv

set_option maxHeartbeats 4000000 in
set_option maxRecDepth 20000 in
theorem squeezes_some (w wH wr : World) (p M : Nat) (own : Nat → Nat) (vi vb vw ve : Value) (ibs : List IntB) (bbs : List BitB) (wts : List Wt) (h : St w wH wr p M own vi vb vw ve ibs bbs wts 0) (kd : Int) (s : ByteArray) (c0 c1 c2 q0 q1 q2 : Int) (a : Addr) (n cap : Nat) (la : Option Addr) (ll lc : Nat) (z : Int) (fa : Option Addr) (fl fc : Nat) (bs : List (Int × Int))
    (hz : BitsIn wH (some a) n bs) (ha : n ≠ 0 → a.block ≠ p) (hn : n ≤ 800000000) (hM : M ≤ 100000000) (hbl : bbs.length ≤ 100000000) :
    Calls Tryz.prog 26 #[.pointer (some ⟨p, 0, none⟩), .agg #[.int .i64 kd, .string s, .int .i64 c0, .int .i64 c1, .int .i64 c2, .int .u8 q0, .int .u8 q1, .int .u8 q2, .slice (some a) n cap, .slice la ll lc, .int .i64 z, .slice fa fl fc]] wr fun e w' => e = .returned (.bool true) ∧ SqW w wH w' p (M + 1) vi vw ve ibs (bbs.length + 1) wts := by
  have hlen := hz.1
  have HZ : Hid (BitsIn wH (some a) n bs) := hz
  have HA : Hid (n ≠ 0 → a.block ≠ p) := ha
  obtain ⟨W0, hW0⟩ : ∃ W0, W0 = wr.alloc (.cells #[.int .i64 kd, .string s, .int .i64 c0, .int .i64 c1, .int .i64 c2, .int .u8 q0, .int .u8 q1, .int .u8 q2, .slice (some a) n cap, .slice la ll lc, .int .i64 z, .slice fa fl fc] 54) := ⟨_, rfl⟩
  obtain ⟨ob, hob⟩ : ∃ ob, ob = wr.heap.size := ⟨_, rfl⟩
  have hbox : Hid (W0.heap[ob]? = some (.cells #[.int .i64 kd, .string s, .int .i64 c0, .int .i64 c1, .int .i64 c2, .int .u8 q0, .int .u8 q1, .int .u8 q2, .slice (some a) n cap, .slice la ll lc, .int .i64 z, .slice fa fl fc] 54 (0, 0))) := by rw [hW0, hob]; exact heap_alloc_last wr _
  have hst0 : St w wH W0 p M own vi vb vw ve ibs bbs wts 0 := h.below (by rw [hW0]; exact (Below.refl _ _).alloc (Nat.le_refl _) _)
  have hvlt : Hid (∀ k, vb.ownBlock = some k → k < wr.heap.size) := h.role_lt.2.1
  have hobH : wH.heap.size ≤ ob := by rw [hob]; exact h.sz
  have hobW : ob < W0.heap.size := by rw [hob, hW0]; simp
  have HST : Hid (St w wH W0 p M own vi vb vw ve ibs bbs wts 0) := hst0
  have hz0 := hst0.bitsIn hz (fun x hx hn0 => by injection hx with hx; rw [← hx]; exact ha hn0)
  have HZ0 : Hid (BitsIn W0 (some a) n bs) := hz0
  have HW0 : Hid (W0 = wr.alloc (.cells #[.int .i64 kd, .string s, .int .i64 c0, .int .i64 c1, .int .i64 c2, .int .u8 q0, .int .u8 q1, .int .u8 q2, .slice (some a) n cap, .slice la ll lc, .int .i64 z, .slice fa fl fc] 54)) := hW0
  have HOB : Hid (ob = wr.heap.size) := hob
  have hsp : w.heap.size ≤ W0.heap.size := hst0.bel.size
  have j8 := boxCell hbox.out 8 _ rfl
  clear h hz ha hst0 hz0 hW0 hob
  by_cases hsq : sqE bs = 0
  · have HSQ : Hid (sqE bs = 0) := hsq
    obtain ⟨S, hS⟩ : ∃ S, S = endStr (Pack.fin (plain bs)) := ⟨_, rfl⟩
    have HSS : Hid (sqS bs = S) := by unfold Hid sqS; rw [if_pos hsq, hS]
    have hb4k : bs.length ≤ 4000 := by
      unfold sqE at hsq
      by_cases h4 : 4000 < bs.length
      · rw [if_pos h4] at hsq; exact absurd hsq (by decide)
      · omega
    have hallb : bs.all bitOkB = true := by
      unfold sqE at hsq
      rw [if_neg (by omega)] at hsq
      by_cases hh : bs.all bitOkB = true
      · exact hh
      · rw [if_neg hh] at hsq; exact absurd hsq (by decide)
    have hok := (all_iff bs).1 hallb
    obtain ⟨b1, b2⟩ := sq_back hok hb4k hS
    obtain ⟨sz0, sz1⟩ := sq_size hS
    have HB1 : Hid (strE S (ctxOf bs) = 0) := b1
    have HB2 : Hid (strL S (ctxOf bs) = bs.map (·.2)) := b2
    have HML : Hid ((bs.map (·.2)).length = n) := by unfold Hid; simp; omega
    have HCL : Hid ((ctxOf bs).length = n) := by unfold Hid; rw [ctxOf_len]; omega
    have hSm : S.size ≤ 5000 := by omega
    have HLEN : Hid (bs.length = n) := hlen
    clear hsq hS hallb hok b1 b2 sz0 sz1 hb4k
    go_enter Tryz.func26, Tryz.ntmps26
    go_upto_block 0 with (first
    | (go_at_call 58; rw [← HW0.out]; refine (lentBits_some W0 a n cap bs HZ0.out (by omega)).mono ?_; rintro e w1 ⟨rfl, hbn1, hb1⟩; rw [← HOB.out])
    | (go_at_call 59; refine (pSqueeze _ (some ⟨W0.heap.size, 0, none⟩) n (n + 8) bs (BitsIn.of_room hbn1 hlen) (by unfold maxLen; omega)).mono ?_; rintro e w2 ⟨rfl, hb2⟩; rw [HSQ.out, HSS.out]; have hb02 : Below W0.heap.size W0 w2 := hb1.trans (hb2.mono hb1.size); have k8 := boxCell (blk_below hbox.out hb02) 8 _ rfl; have hrl : Hid (BNums w2 w.heap.size W0.heap.size (n + 8) (roomBits bs 8)) := owns_base ((Frm.of_below (S := fun _ => False) hb2).owns hbn1 (fun _ _ e => e)) hsp)
    | (go_at_call 60; refine (whole_sq HST.out hb02 rfl hrl.out HZ.out HA.out hn hM hbl).mono ?_; rintro e w3 ⟨rfl, hq3, hk3⟩; have hbox3 : Hid (w3.heap[ob]? = some (.cells #[.int .i64 kd, .string s, .int .i64 c0, .int .i64 c1, .int .i64 c2, .int .u8 q0, .int .u8 q1, .int .u8 q2, .slice (some a) n cap, .slice la ll lc, .int .i64 z, .slice fa fl fc] 54 (0, 0))) := (hk3 ob hobH (Nat.lt_of_lt_of_le hobW hb02.size) (by omega) (fun v hv e => (by rw [hv] at e; have := hvlt.out ob e; have := HOB.out; omega))).trans (blk_below hbox.out hb02); have m8 := boxCell hbox3.out 8 _ rfl; have hz3 : Hid (BitsIn w3 (some a) n bs) := hq3.bitsIn HZ.out (fun x hx hn0 => (by injection hx with hx; rw [← hx]; exact HA.out hn0)); clear hk3)
    | (go_at_call 61; refine (refSqueezes _ (some a) n cap bs hz3.out (by unfold maxLen; omega)).mono ?_; rintro e w4 ⟨rfl, hb4⟩; rw [HSQ.out]; have n8 := boxCell (blk_below hbox3.out hb4) 8 _ rfl; have hz4 : Hid (BitsIn w4 (some a) n bs) := hz3.out.below hb4; have hq4 : Hid (SqW w wH w4 p (M + 1) vi vw ve ibs (bbs.length + 1) wts) := hq3.below hb4)
    | (go_at_call 57; refine (num_any _ _).mono ?_; rintro e w9 ⟨rfl, hw⟩; rw [hw]; clear hw)
    | (go_at_call 62; refine (contexts_any _ (some a) n cap bs hz4.out (by omega)).mono ?_; rintro e w5 ⟨vc, rfl, hc5, hb5⟩; obtain ⟨ac, cc, rfl, hcin⟩ : ∃ a c, vc = .slice a n c ∧ IntsIn w5 a n (ctxOf bs) := (by have hh := IntsIn.of_own (zs := ctxOf bs) (by rw [HCL.out]; exact hc5); rw [HCL.out] at hh; exact hh); have o8 := boxCell (blk_below (blk_below hbox3.out hb4) hb5) 8 _ rfl; clear hc5)
    | (go_at_call 63; refine (refStretch _ S ac n cc (ctxOf bs) hcin (by unfold maxLen; omega)).mono ?_; rintro e w6 ⟨⟨vk, rfl, hk1, hk2, hk3, hb6⟩, _⟩; rw [HB1.out]; rw [HB2.out] at hk1; obtain ⟨ak, ck, rfl, hkin⟩ := IntsIn.of_own hk1; rw [HML.out] at hkin ⊢; have p8 := boxCell (blk_below (blk_below (blk_below hbox3.out hb4) hb5) hb6) 8 _ rfl; clear hk1 hk2 hk3))
    have hbox6 : Hid (w6.heap[ob]? = some (.cells #[.int .i64 kd, .string s, .int .i64 c0, .int .i64 c1, .int .i64 c2, .int .u8 q0, .int .u8 q1, .int .u8 q2, .slice (some a) n cap, .slice la ll lc, .int .i64 z, .slice fa fl fc] 54 (0, 0))) := blk_below (blk_below (blk_below hbox3.out hb4) hb5) hb6
    have HQ6 : Hid (SqW w wH w6 p (M + 1) vi vw ve ibs (bbs.length + 1) wts) := (hq4.out.below hb5).below hb6
    have HZ6 : Hid (BitsIn w6 (some a) n bs) := (hz4.out.below hb5).below hb6
    have HK6 : Hid (IntsIn w6 ak n (bs.map (·.2))) := hkin
    clear hkin hb6 hb5 hb4 hcin hq3 hbn1 hb1 hb2 hb02 k8 m8 n8 o8 p8 j8 hbox hbox3 hz3 hz4 hq4 hrl HST HZ0
    go_wp2_with fail
    go_loopw [13] (fun i wd => ∃ j : Nat, j ≤ n ∧ i = .int .i64 j ∧ Below w6.heap.size w6 wd) (fun i _ => n - (intOf i).toNat)
    case atStart => exact ⟨0, by omega, rfl, Below.refl _ _⟩
    case round =>
      obtain ⟨j, hj, rfl, hbr⟩ := hrel
      have b8 := boxCell (blk_below hbox6.out hbr) 8 _ rfl
      by_cases hjn : j < n
      · have hjn' : (j : Int) < (n : Int) := by omega
        obtain ⟨b, off, eb, hb, hc⟩ : ∃ b off, some a = some ⟨b, off, none⟩ ∧ b < wr.heap.size ∧ ∀ i, i < n → wr.cell? ⟨b, off + i * 2, none⟩ = some (.int .i64 (bs.getD i (0, 0)).1) ∧ wr.cell? ⟨b, off + i * 2 + 1, none⟩ = some (.int .i64 (bs.getD i (0, 0)).2) := by
          rcases (HZ6.out.below hbr).2 with h2 | h2
          · omega
          · exact h2
        have eb' : a = ⟨b, off, none⟩ := by injection eb
        subst eb'
        obtain ⟨bk, offk, rfl, hbk, hck⟩ : ∃ b off, ak = some ⟨b, off, none⟩ ∧ b < wr.heap.size ∧ ∀ i, i < n → wr.cell? ⟨b, off + i, none⟩ = some (.int .i64 ((bs.map (·.2)).getD i 0)) := by
          rcases (HK6.out.below hbr).2 with h2 | h2
          · omega
          · exact h2
        have d1 := (hc j hjn).2
        have d2 := hck j hjn
        have he : (bs.map (·.2)).getD j 0 = (bs.getD j (0, 0)).2 := by
          have := HLEN.out
          rw [List.getD_eq_getElem?_getD, List.getElem?_map, List.getD_eq_getElem?_getD, List.getElem?_eq_getElem (show j < bs.length by omega)]
          rfl
        rw [he] at d2
        obtain ⟨y, hy⟩ : ∃ y, y = (bs.getD j (0, 0)).2 := ⟨_, rfl⟩
        rw [← hy] at d1 d2
        clear hc hck he hy eb
        go_wp2
        go_quiet (fail)
        go_wp2
        go_roundw
        case rel => exact ⟨j + 1, by omega, by go_num, below_drewN hbr _⟩
        case measure => simp [intOf]; omega
      · have hjn' : ¬ (j : Int) < (n : Int) := by omega
        go_wp2
        go_ret
        exact ⟨rfl, HQ6.out.below hbr⟩
  · obtain ⟨E, hE⟩ : ∃ E, E = sqE bs := ⟨_, rfl⟩
    have HSQ : Hid (sqE bs = E) := hE.symm
    have HSS : Hid (sqS bs = ByteArray.mk #[]) := by unfold Hid sqS; rw [if_neg hsq]
    have hEn : (E != 0) = true := by rw [hE]; simpa using hsq
    have hem : (ByteArray.mk #[]).toList.isEmpty = true := by rw [ByteArray.toList_eq]; rfl
    clear hsq hE
    go_enter Tryz.func26, Tryz.ntmps26
    go_wp2_with (first
    | (go_at_call 58; rw [← HW0.out]; refine (lentBits_some W0 a n cap bs HZ0.out (by omega)).mono ?_; rintro e w1 ⟨rfl, hbn1, hb1⟩; rw [← HOB.out])
    | (go_at_call 59; refine (pSqueeze _ (some ⟨W0.heap.size, 0, none⟩) n (n + 8) bs (BitsIn.of_room hbn1 hlen) (by unfold maxLen; omega)).mono ?_; rintro e w2 ⟨rfl, hb2⟩; rw [HSQ.out, HSS.out]; have hb02 : Below W0.heap.size W0 w2 := hb1.trans (hb2.mono hb1.size); have k8 := boxCell (blk_below hbox.out hb02) 8 _ rfl; have hrl : Hid (BNums w2 w.heap.size W0.heap.size (n + 8) (roomBits bs 8)) := owns_base ((Frm.of_below (S := fun _ => False) hb2).owns hbn1 (fun _ _ e => e)) hsp)
    | (go_at_call 60; refine (whole_sq HST.out hb02 rfl hrl.out HZ.out HA.out hn hM hbl).mono ?_; rintro e w3 ⟨rfl, hq3, hk3⟩; have hbox3 : Hid (w3.heap[ob]? = some (.cells #[.int .i64 kd, .string s, .int .i64 c0, .int .i64 c1, .int .i64 c2, .int .u8 q0, .int .u8 q1, .int .u8 q2, .slice (some a) n cap, .slice la ll lc, .int .i64 z, .slice fa fl fc] 54 (0, 0))) := (hk3 ob hobH (Nat.lt_of_lt_of_le hobW hb02.size) (by omega) (fun v hv e => (by rw [hv] at e; have := hvlt.out ob e; have := HOB.out; omega))).trans (blk_below hbox.out hb02); have m8 := boxCell hbox3.out 8 _ rfl; have hz3 : Hid (BitsIn w3 (some a) n bs) := hq3.bitsIn HZ.out (fun x hx hn0 => (by injection hx with hx; rw [← hx]; exact HA.out hn0)); clear hk3)
    | (go_at_call 61; refine (refSqueezes _ (some a) n cap bs hz3.out (by unfold maxLen; omega)).mono ?_; rintro e w4 ⟨rfl, hb4⟩; rw [HSQ.out]; have n8 := boxCell (blk_below hbox3.out hb4) 8 _ rfl; have hz4 : Hid (BitsIn w4 (some a) n bs) := hz3.out.below hb4; have hq4 : Hid (SqW w wH w4 p (M + 1) vi vw ve ibs (bbs.length + 1) wts) := hq3.below hb4)
    | (go_at_call 57; refine (num_any _ _).mono ?_; rintro e w9 ⟨rfl, hw⟩; rw [hw]; clear hw))
    go_ret
    exact ⟨rfl, hq4.out⟩

end Go.Proofs.YtekfbphnoibnjaaGreatDoor
namespace Go.Proofs.YtekfbphnoibnjaaGreatDoor
open Go.RowKit

set_option maxHeartbeats 4000000 in
set_option maxRecDepth 20000 in
theorem squeezes_nil (w wH wr : World) (p M : Nat) (vi vw ve : Value) (ibs : List IntB) (bn : Nat) (wts : List Wt) (h : SqW w wH wr p M vi vw ve ibs bn wts) (kd : Int) (s : ByteArray) (c0 c1 c2 q0 q1 q2 : Int) (cap : Nat) (la : Option Addr) (ll lc : Nat) (z : Int) (fa : Option Addr) (fl fc : Nat) :
    Calls Tryz.prog 26 #[.pointer (some ⟨p, 0, none⟩), .agg #[.int .i64 kd, .string s, .int .i64 c0, .int .i64 c1, .int .i64 c2, .int .u8 q0, .int .u8 q1, .int .u8 q2, .slice none 0 cap, .slice la ll lc, .int .i64 z, .slice fa fl fc]] wr fun e w' => e = .returned (.bool true) ∧ SqW w wH w' p M vi vw ve ibs bn wts := by
  have HNI : ∀ (wx : World), Hid (BitsIn wx none 0 ([] : List (Int × Int))) := fun wx => ⟨rfl, .inl rfl⟩
  obtain ⟨W0, hW0⟩ : ∃ W0, W0 = wr.alloc (.cells #[.int .i64 kd, .string s, .int .i64 c0, .int .i64 c1, .int .i64 c2, .int .u8 q0, .int .u8 q1, .int .u8 q2, .slice none 0 cap, .slice la ll lc, .int .i64 z, .slice fa fl fc] 54) := ⟨_, rfl⟩
  obtain ⟨ob, hob⟩ : ∃ ob, ob = wr.heap.size := ⟨_, rfl⟩
  have hbox : Hid (W0.heap[ob]? = some (.cells #[.int .i64 kd, .string s, .int .i64 c0, .int .i64 c1, .int .i64 c2, .int .u8 q0, .int .u8 q1, .int .u8 q2, .slice none 0 cap, .slice la ll lc, .int .i64 z, .slice fa fl fc] 54 (0, 0))) := by rw [hW0, hob]; exact heap_alloc_last wr _
  have HST : Hid (SqW w wH W0 p M vi vw ve ibs bn wts) := h.below (by rw [hW0]; exact (Below.refl _ _).alloc (Nat.le_refl _) _)
  have HW0 : Hid (W0 = wr.alloc (.cells #[.int .i64 kd, .string s, .int .i64 c0, .int .i64 c1, .int .i64 c2, .int .u8 q0, .int .u8 q1, .int .u8 q2, .slice none 0 cap, .slice la ll lc, .int .i64 z, .slice fa fl fc] 54)) := hW0
  have HOB : Hid (ob = wr.heap.size) := hob
  have j8 := boxCell hbox.out 8 _ rfl
  obtain ⟨S, hS⟩ : ∃ S, S = endStr (Pack.fin (plain [])) := ⟨_, rfl⟩
  have HSQ : Hid (sqE [] = 0) := rfl
  have HSS : Hid (sqS [] = S) := by unfold Hid sqS; rw [if_pos HSQ.out, hS]
  have hok : ∀ i, i < ([] : List (Int × Int)).length → bitOk (([] : List (Int × Int)).getD i (0, 0)) := fun i hi => absurd hi (by simp)
  obtain ⟨b1, b2⟩ := sq_back hok (by simp) hS
  obtain ⟨sz0, sz1⟩ := sq_size hS
  have HB1 : Hid (strE S (ctxOf []) = 0) := b1
  have HB2 : Hid (strL S (ctxOf []) = []) := b2
  have hSm : S.size ≤ 4 := by simpa using sz1
  clear h hW0 hob hS hok b1 b2 sz0 sz1
  go_enter Tryz.func26, Tryz.ntmps26
  go_wp2_with (first
    | (go_at_call 58; rw [← HW0.out]; refine (lentBits_nil W0 0 cap).mono ?_; rintro e w1 ⟨rfl, hw⟩; rw [hw, ← HOB.out]; clear hw)
    | (go_at_call 59; refine (pSqueeze _ none 0 0 [] (HNI _).out (by unfold maxLen; omega)).mono ?_; rintro e w2 ⟨rfl, hb2⟩; rw [HSQ.out, HSS.out]; have k8 := boxCell (blk_below hbox.out hb2) 8 _ rfl)
    | (go_at_call 60; refine (wholeBits_nil _ _ _ 0 cap).mono ?_; rintro e w3 ⟨rfl, hw⟩; rw [hw]; clear hw)
    | (go_at_call 61; refine (refSqueezes _ none 0 cap [] (HNI _).out (by unfold maxLen; omega)).mono ?_; rintro e w4 ⟨rfl, hb4⟩; rw [HSQ.out]; have n8 := boxCell (blk_below (blk_below hbox.out hb2) hb4) 8 _ rfl)
    | (go_at_call 57; refine (num_any _ _).mono ?_; rintro e w9 ⟨rfl, hw⟩; rw [hw]; clear hw)
    | (go_at_call 62; refine (contexts_any _ none 0 cap [] (HNI _).out (by omega)).mono ?_; rintro e w5 ⟨vc, rfl, hc5, hb5⟩; obtain ⟨ac, cc, rfl, hcin⟩ : ∃ a c, vc = .slice a 0 c ∧ IntsIn w5 a 0 (ctxOf []) := (IntsIn.of_own (zs := ctxOf []) hc5); have o8 := boxCell (blk_below (blk_below (blk_below hbox.out hb2) hb4) hb5) 8 _ rfl; clear hc5)
    | (go_at_call 63; refine (refStretch _ S ac 0 cc (ctxOf []) hcin (by unfold maxLen; omega)).mono ?_; rintro e w6 ⟨⟨vk, rfl, hk1, hk2, hk3, hb6⟩, _⟩; rw [HB1.out]; rw [HB2.out] at hk1; obtain ⟨ak, ck, rfl, hkin⟩ := IntsIn.of_own (zs := []) hk1; have p8 := boxCell (blk_below (blk_below (blk_below (blk_below hbox.out hb2) hb4) hb5) hb6) 8 _ rfl; clear hk1 hk2 hk3))
  have HQ6 : Hid (SqW w wH w6 p M vi vw ve ibs bn wts) := (((HST.out.below hb2).below hb4).below hb5).below hb6
  clear hkin hb6 hb5 hb4 hb2 hcin
  go_loop [13] (fun i => i = .int .i64 0) (fun _ => 0)
  case atStart => exact rfl
  case round =>
    subst hrel
    go_wp2
    go_ret
    exact ⟨rfl, HQ6.out⟩

end Go.Proofs.YtekfbphnoibnjaaGreatDoor
namespace Go.Proofs.YtekfbphnoibnjaaGreatDoor
open Go.RowKit

theorem IntsIn.of_room {w : World} {B g n : Nat} {zs : List Int} (h : Nums w B g (n + 8) (roomRow zs 8)) (hl : zs.length = n) : IntsIn w (some ⟨g, 0, none⟩) n zs := by
  refine ⟨hl, .inr ⟨g, 0, rfl, h.lt.2, fun i hi => ?_⟩⟩
  have hc := h.cell i (by omega)
  rw [roomRow_lo zs i (by omega)] at hc
  rw [Nat.zero_add]
  exact hc
theorem IntsIn.of_fill {w : World} {g n N c : Nat} {m : Int} (h : Fill w (.slice (some ⟨g, 0, none⟩) N c) N [.int .i64 m]) (hn : n ≤ N) (hg : g < w.heap.size) : IntsIn w (some ⟨g, 0, none⟩) n (List.replicate n m) := by
  refine ⟨List.length_replicate, ?_⟩
  by_cases h0 : n = 0
  · exact .inl h0
  · obtain ⟨a, c', e, hh⟩ := h
    rcases hh with hh | ⟨b, off, rfl, hh⟩
    · omega
    · simp only [Value.slice.injEq, Option.some.injEq, Addr.mk.injEq, and_true, true_and] at e
      obtain ⟨⟨rfl, rfl⟩, rfl⟩ := e
      refine .inr ⟨g, 0, rfl, hg, fun i hi => ?_⟩
      have := hh i (by omega) 0 _ rfl
      rw [show 0 + i * [Value.int IntKind.i64 m].length + 0 = i by simp] at this
      rw [Nat.zero_add, this, List.getD_eq_getElem?_getD, List.getElem?_replicate, if_pos hi]
      rfl

/-- The list that was lent is looked at and marked. -/
theorem whole_st {w wH w4 : World} {p M : Nat} {own : Nat → Nat} {vi vb vw ve : Value} {ibs : List IntB} {bbs : List BitB} {wts : List Wt} (h : St w wH w4 p M own vi vb vw ve ibs bbs wts 0) {g n cap : Nat} {a : Addr} {zs : List Int} (hog : own g = 50)
    (hrl : Nums w4 w.heap.size g (n + 8) (roomRow zs 8)) (hz : IntsIn w4 (some a) n zs) (hn : n ≤ 800000000) (hM : M ≤ 100000000) (hil : ibs.length ≤ 100000000) :
    Calls Tryz.prog 66 #[.pointer (some ⟨p, 0, none⟩), .slice (some ⟨g, 0, none⟩) n (n + 8), .slice (some a) n cap] w4 fun x w' => x = .returned (.bool true) ∧ ∃ own' vi' ibs', St w wH w' p (M + 1) own' vi' vb vw ve ibs' bbs wts 0 ∧ ibs'.length = ibs.length + 1 ∧ (∀ k, k < w4.heap.size → own k ≠ 50 → own' k = own k) ∧ Fill w' (.slice (some ⟨g, 0, none⟩) (n + 8) (n + 8)) (n + 8) [.int .i64 (-((M : Int) + 1))] ∧ Frm (fun k => own k = 0 ∨ own k = 50 ∨ own k = 2) w4 w' := by
  obtain ⟨ai, ci, hvi, _⟩ := owns_shape h.oi
  have hri := h.ri
  have hoi := h.oi
  rw [hvi] at hri hoi
  have hv0 : (bookVs vi vb vw ve)[0]? = some (.slice ai ibs.length ci) := by rw [← hvi]; rfl
  have hgp : g ≠ p := fun e => by rw [e, h.op] at hog; exact absurd hog (by decide)
  have key := wholeInts_some w4 w.heap.size p M (bookVs vi vb vw ve) ai ibs.length ci (ibCells ibs) g n a cap zs h.bk hv0 hoi hrl hz h.bel.size (hri.ne1 (by rw [h.op]; decide)) hgp (hri.ne1 (by rw [hog]; decide)) (by omega) (by omega) (by omega)
  refine key.mono ?_
  rintro x w' ⟨rfl, hm⟩
  refine ⟨rfl, ?_⟩
  rw [← hvi] at hm
  have hrl' : role own (.slice (some ⟨g, 0, none⟩) (n + 8) (n + 8)) 50 := fun k hk => by simp [Value.ownBlock] at hk; rw [← hk]; exact hog
  obtain ⟨own', vi', x', hst, hkey, hfill, hfr⟩ := h.mark (d' := 0) hm hrl' free50 (Nat.le_refl _) (fun i _ _ => by omega) (by omega) (fun k hk => by simp [Value.ownBlock] at hk; have := hrl.lt; omega)
  refine ⟨own', vi', _, hst, by simp, hkey, hfill, hfr.mono (fun k _ hS => ?_)⟩
  rcases hS with e | e | e
  · exact .inl (by rw [e]; exact h.op)
  · exact .inr (.inl (hrl' k e))
  · exact .inr (.inr (h.ri k e))

/-- What came out is kept. -/
theorem keep_st {w wH wr : World} {p M : Nat} {own : Nat → Nat} {vi vb vw ve : Value} {ibs : List IntB} {bbs : List BitB} {wts : List Wt} (h : St w wH wr p M own vi vb vw ve ibs bbs wts 0) {r : Nat} {vl vy : Value} {zs : List Int} (hr : role own vl r) (fr : Free r) (hdr : ∀ i, i < wts.length → r ≠ 100 + i) (hol : wr.ownsRow w.heap.size 3 1 vl zs.length (ints zs))
    (hoy : wr.ownsRow w.heap.size 3 1 vy zs.length (ints zs)) (hyn : zs.length = 0 → vy = .slice none 0 0) (hry : role own vy 62) (n9 : zs.length ≤ 900000000) (hwl : wts.length ≤ 100000000) :
    Calls Tryz.prog 67 #[.pointer (some ⟨p, 0, none⟩), vl, vy] wr fun e w' => e = .returned (.tuple #[]) ∧ ∃ own' vw' ve' wts', St w wH w' p M own' vi vb vw' ve' ibs bbs wts' 0 ∧ wts'.length = wts.length + 1 ∧ (∀ k, k < wr.heap.size → own k ≠ r → own' k = own k) ∧ Frm (fun k => own k = 0 ∨ own k = 4 ∨ own k = 5) wr w' := by
  obtain ⟨aw, cw, hvw, _⟩ := owns_shape h.ow
  obtain ⟨ae, ce, hve, _⟩ := owns_shape h.oe
  obtain ⟨al, cl, hvl, _⟩ := owns_shape hol
  have hrw := h.rw'
  have hre := h.re
  have how := h.ow
  have hoe := h.oe
  rw [hvw] at hrw how
  rw [hve] at hre hoe
  have hv4 : (bookVs vi vb vw ve)[4]? = some (.slice aw wts.length cw) := by rw [← hvw]; rfl
  have hv5 : (bookVs vi vb vw ve)[5]? = some (.slice ae wts.length ce) := by rw [← hve]; rfl
  have key : Calls Tryz.prog 67 #[.pointer (some ⟨p, 0, none⟩), vl, vy] wr fun x w' => x = .returned (.tuple #[]) ∧ KeptInts wr w' w.heap.size p M (bookVs vi vb vw ve) vw ve wts.length wts.length (wts.map (·.l)) (wts.map (·.y)) vl zs.length zs := by
    by_cases h0 : zs.length = 0
    · have e0 : zs = [] := List.eq_nil_of_length_eq_zero h0
      have := keepInts_nil wr w.heap.size p M (bookVs vi vb vw ve) aw wts.length cw ae wts.length ce (wts.map (·.l)) (wts.map (·.y)) al zs.length cl h.bk hv4 hv5 how hoe h.bel.size (hrw.ne1 (by rw [h.op]; decide)) (hre.ne1 (by rw [h.op]; decide)) (hrw.ne hre (by decide)) (by omega) (by omega)
      rw [← hvl, ← hvw, ← hve, ← hyn h0] at this
      rw [e0]
      exact this
    · rcases hoy.2 with ⟨_, h1⟩ | ⟨yg, yc, cur, hy, _⟩
      · exact absurd h1 h0
      · have hoy' := hoy
        rw [hy] at hoy'
        have hog : own yg = 62 := hry yg (by rw [hy]; rfl)
        have := keepInts_some wr w.heap.size p M (bookVs vi vb vw ve) aw wts.length cw ae wts.length ce (wts.map (·.l)) (wts.map (·.y)) al zs.length cl yg zs.length yc zs h.bk hv4 hv5 how hoe hoy' (by omega) h.bel.size (hrw.ne1 (by rw [h.op]; decide)) (hre.ne1 (by rw [h.op]; decide)) (hrw.ne hre (by decide)) (hrw.ne1 (by rw [hog]; decide)) (fun e => by rw [e, h.op] at hog; exact absurd hog (by decide)) (by omega) (by omega) (by omega)
        rw [← hvl, ← hvw, ← hve, ← hy] at this
        exact this
  refine key.mono ?_
  rintro x w' ⟨rfl, hm⟩
  refine ⟨rfl, ?_⟩
  obtain ⟨own', vw', ve', x', hst, hkey, hfr⟩ := h.keep hm hr fr hdr n9 hol
  refine ⟨own', vw', ve', _, hst, by simp, hkey, hfr.mono (fun k _ hS => ?_)⟩
  rcases hS with e | e | e
  · exact .inl (by rw [e]; exact h.op)
  · exact .inr (.inl (h.rw' k e))
  · exact .inr (.inr (h.re k e))

/-- The roles of what a step Stretch makes. -/
def own6 (own : Nat → Nat) (ob g : Nat) (vk vb vj : Value) : Nat → Nat := fun k => if k = ob then 63 else if k = g then 50 else if vk.ownBlock = some k then 60 else if vb.ownBlock = some k then 61 else if vj.ownBlock = some k then 62 else own k
theorem free60 : Free 60 := ⟨by decide, by decide, by decide, by decide, by decide, by decide, by decide⟩
theorem free61 : Free 61 := ⟨by decide, by decide, by decide, by decide, by decide, by decide, by decide⟩

theorem own6_roles (own : Nat → Nat) {ob g s1 s2 s3 : Nat} {vk vb vj : Value} (hog : ob < g) (hg : g < s1) (h12 : s1 ≤ s2) (h23 : s2 ≤ s3) (hk : ∀ k, vk.ownBlock = some k → s1 ≤ k ∧ k < s2) (hb : ∀ k, vb.ownBlock = some k → s2 ≤ k ∧ k < s3) (hj : ∀ k, vj.ownBlock = some k → s3 ≤ k) :
    own6 own ob g vk vb vj ob = 63 ∧ own6 own ob g vk vb vj g = 50 ∧ role (own6 own ob g vk vb vj) vk 60 ∧ role (own6 own ob g vk vb vj) vb 61 ∧ role (own6 own ob g vk vb vj) vj 62 ∧ ∀ k, k < ob → own6 own ob g vk vb vj k = own k := by
  refine ⟨by unfold own6; rw [if_pos rfl], by unfold own6; rw [if_neg (by omega), if_pos rfl], fun k e => ?_, fun k e => ?_, fun k e => ?_, fun k e => ?_⟩
  · have := hk k e
    unfold own6
    rw [if_neg (by omega), if_neg (by omega), if_pos e]
  · have := hb k e
    unfold own6
    rw [if_neg (by omega), if_neg (by omega), if_neg (fun e' => by have := hk k e'; omega), if_pos e]
  · have := hj k e
    unfold own6
    rw [if_neg (by omega), if_neg (by omega), if_neg (fun e' => by have := hk k e'; omega), if_neg (fun e' => by have := hb k e'; omega), if_pos e]
  · unfold own6
    rw [if_neg (by omega), if_neg (by omega), if_neg (fun e' => by have := hk k e'; omega), if_neg (fun e' => by have := hb k e'; omega), if_neg (fun e' => by have := hj k e'; omega)]

theorem neqNilInts (w : World) : Sem.run Tryz.prog (binOp BinOp.neq 52 (Value.slice none 0 0) (Value.slice none 0 0)) w = .ok (.bool false) w := by kernel_rfl

end Go.Proofs.YtekfbphnoibnjaaGreatDoor
namespace Go.Proofs.YtekfbphnoibnjaaGreatDoor
open Go.RowKit

theorem shapeI {w : World} {B m : Nat} {v : Value} {zs : List Int} (h : w.ownsRow B 3 1 v zs.length (ints zs)) (hm : zs.length = m) : ∃ a c, v = .slice a m c ∧ IntsIn w a m zs := by
  subst hm; exact IntsIn.of_own h
theorem strL_len (s : ByteArray) (zs : List Int) : (strL s zs).length ≤ 4000 := by
  unfold strL
  by_cases h : strE s zs = 0
  · rw [if_pos h]
    have h4 : zs.length ≤ 4000 := by
      unfold strE at h
      by_cases h' : 4000 < zs.length
      · rw [if_pos h'] at h; exact absurd h (by decide)
      · omega
    rw [Rdr.all_len _ _ _ _ (Nat.le_refl _)]
    exact h4
  · rw [if_neg h]; simp
theorem sameInts_true (w : World) (a b : Option Addr) (m ca cb : Nat) (xs : List Int) (hx : IntsIn w a m xs) (hy : IntsIn w b m xs) (hl : m ≤ 4000) :
    Calls Tryz.prog 30 #[.slice a m ca, .slice b m cb] w fun x w' => x = .returned (.bool true) ∧ Below w.heap.size w w' := by
  refine (sameInts_any w a b m ca m cb xs xs hx hy (by omega) (by omega)).mono ?_
  rintro x w' ⟨rfl, n, hw⟩
  exact ⟨by simp, below_of_drew hw⟩

/-- What stands behind a step Stretch. -/
structure StW (w wH wr : World) (p M : Nat) (vb : Value) (bbs : List BitB) (il wl : Nat) : Prop where
  st : ∃ own vi vw ve ibs wts, St w wH wr p M own vi vb vw ve ibs bbs wts 0 ∧ ibs.length = il ∧ wts.length = wl

/-- What stands ahead of the second asking. -/
structure B7 (w wH w7 : World) (p M : Nat) (own5 : Nat → Nat) (vi5 vb vw ve : Value) (ibs5 : List IntB) (bbs : List BitB) (wts : List Wt) (il ob g n : Nat) (a0 a1 a2 : Addr) (s : ByteArray) (VK VB VJ : Value) (LL zt : List Int) : Prop where
  tin : IntsIn w7 (some ⟨g, 0, none⟩) n zt
  news : ∀ j u, (ints zt)[j]? = some u → w7.cell? ((⟨g, 0, none⟩ : Addr).add j) = some u
  ztl : zt.length = n
  ztl1 : (ints zt).length = n * 1
  box : w7.cell? ⟨ob, 1, none⟩ = some (.string s)
  err : Errs w7 a0 a1 a2
  ok : w7.ownsRow w.heap.size 3 1 VK LL.length (ints LL)
  ob' : w7.ownsRow w.heap.size 3 1 VB LL.length (ints LL)
  oj : w7.ownsRow w.heap.size 3 1 VJ LL.length (ints LL)
  rk : role own5 VK 60
  rb : role own5 VB 61
  rj : role own5 VJ 62
  st : St w wH w7 p (M + 1) own5 vi5 vb vw ve ibs5 bbs wts 0
  il5 : ibs5.length = il
  jn : LL.length = 0 → VJ = .slice none 0 0
  l9 : LL.length ≤ 4000
  tl : (strL s zt).length ≤ 4000
theorem cellB {w w' : World} {b o : Nat} {v : Value} (h : w.cell? ⟨b, o, none⟩ = some v) (f : Below w.heap.size w w') : w'.cell? ⟨b, o, none⟩ = some v := (f.cell (World.block_lt_of_cell? w _ h)).trans h
theorem ownsB {w w' : World} {B : Nat} {e : TypeId} {sz : Nat} {v : Value} {n : Nat} {xs : List Value} (h : w.ownsRow B e sz v n xs) (f : Below w.heap.size w w') : w'.ownsRow B e sz v n xs := (Frm.of_below (S := fun _ => False) f).owns h (fun _ _ e => e)

/-- What came out is kept, twice. -/
theorem keep_one {w wH w7 w11 : World} {p M : Nat} {own5 : Nat → Nat} {vi5 vb vw ve : Value} {ibs5 : List IntB} {bbs : List BitB} {wts : List Wt} {il ob g n : Nat} {a0 a1 a2 : Addr} {s : ByteArray} {VK VB VJ : Value} {LL zt : List Int} (h : B7 w wH w7 p M own5 vi5 vb vw ve ibs5 bbs wts il ob g n a0 a1 a2 s VK VB VJ LL zt) (f : Below w7.heap.size w7 w11) (hwl : wts.length ≤ 90000000) :
    Calls Tryz.prog 67 #[.pointer (some ⟨p, 0, none⟩), VK, VJ] w11 fun e w' => e = .returned (.tuple #[]) ∧ Calls Tryz.prog 67 #[.pointer (some ⟨p, 0, none⟩), VB, VJ] w' fun e w'' => e = .returned (.tuple #[]) ∧ StW w wH w'' p (M + 1) vb bbs il (wts.length + 2) := by
  have l9 := h.l9
  refine (keep_st (zs := LL) (h.st.below f) h.rk free60 (fun i _ => by omega) (ownsB h.ok f) (ownsB h.oj f) h.jn h.rj (by omega) (by omega)).mono ?_
  rintro e w12 ⟨rfl, own12, vw12, ve12, wts12, st12, hwl12, hkey12, hfr12⟩
  refine ⟨rfl, ?_⟩
  have ob11 := ownsB h.ob' f
  have oj11 := ownsB h.oj f
  refine (keep_st (zs := LL) st12 (h.rb.congr (fun k hk => hkey12 k (World.ownsRow.lt ob11 k hk).2 (by rw [h.rb k hk]; decide))) free61 (fun i _ => by omega) (hfr12.owns ob11 (fun k hk hS => by have := h.rb k hk; omega)) (hfr12.owns oj11 (fun k hk hS => by have := h.rj k hk; omega)) h.jn (h.rj.congr (fun k hk => hkey12 k (World.ownsRow.lt oj11 k hk).2 (by rw [h.rj k hk]; decide))) (by omega) (by omega)).mono ?_
  rintro e w13 ⟨rfl, own13, vw13, ve13, wts13, st13, hwl13, _, _⟩
  exact ⟨rfl, ⟨_, _, _, _, _, _, st13, h.il5, by omega⟩⟩

set_option maxHeartbeats 4000000 in
set_option maxRecDepth 20000 in
theorem stretches_some (w wH wr : World) (p M : Nat) (own : Nat → Nat) (vi vb vw ve : Value) (ibs : List IntB) (bbs : List BitB) (wts : List Wt) (h : St w wH wr p M own vi vb vw ve ibs bbs wts 0) (kd : Int) (s : ByteArray) (c0 c1 c2 q0 q1 q2 : Int) (ba : Option Addr) (bl bc : Nat) (a : Addr) (n cap : Nat) (z : Int) (fa : Option Addr) (fl fc : Nat) (zs : List Int)
    (hz : IntsIn wH (some a) n zs) (ha : n ≠ 0 → a.block ≠ p) (hn : n ≤ 800000000) (hs : s.size ≤ maxLen) (hM : M ≤ 100000000) (hil : ibs.length ≤ 100000000) (hwl : wts.length ≤ 90000000) (a0 a1 a2 : Addr) (E0 : Errs w a0 a1 a2) :
    Calls Tryz.prog 27 #[.pointer (some ⟨p, 0, none⟩), .agg #[.int .i64 kd, .string s, .int .i64 c0, .int .i64 c1, .int .i64 c2, .int .u8 q0, .int .u8 q1, .int .u8 q2, .slice ba bl bc, .slice (some a) n cap, .int .i64 z, .slice fa fl fc]] wr fun e w' => e = .returned (.bool true) ∧ StW w wH w' p (M + 1) vb bbs (ibs.length + 1) (wts.length + 2) := by
  have hlen := hz.1
  have HZ : Hid (IntsIn wH (some a) n zs) := hz
  have HA : Hid (n ≠ 0 → a.block ≠ p) := ha
  obtain ⟨W0, hW0⟩ : ∃ W0, W0 = wr.alloc (.cells #[.int .i64 kd, .string s, .int .i64 c0, .int .i64 c1, .int .i64 c2, .int .u8 q0, .int .u8 q1, .int .u8 q2, .slice ba bl bc, .slice (some a) n cap, .int .i64 z, .slice fa fl fc] 54) := ⟨_, rfl⟩
  obtain ⟨ob, hob⟩ : ∃ ob, ob = wr.heap.size := ⟨_, rfl⟩
  have hbox : Hid (W0.heap[ob]? = some (.cells #[.int .i64 kd, .string s, .int .i64 c0, .int .i64 c1, .int .i64 c2, .int .u8 q0, .int .u8 q1, .int .u8 q2, .slice ba bl bc, .slice (some a) n cap, .int .i64 z, .slice fa fl fc] 54 (0, 0))) := by rw [hW0, hob]; exact heap_alloc_last wr _
  have hst0 : St w wH W0 p M own vi vb vw ve ibs bbs wts 0 := h.below (by rw [hW0]; exact (Below.refl _ _).alloc (Nat.le_refl _) _)
  have hobW : ob < W0.heap.size := by rw [hob, hW0]; simp
  have HE0 : Hid (Errs W0 a0 a1 a2) := E0.below hst0.bel
  have HST : Hid (St w wH W0 p M own vi vb vw ve ibs bbs wts 0) := hst0
  have HSTR : Hid (St w wH wr p M own vi vb vw ve ibs bbs wts 0) := h
  have HZ0 : Hid (IntsIn W0 (some a) n zs) := hst0.intsIn hz (fun x hx hn0 => by injection hx with hx; rw [← hx]; exact ha hn0)
  have HW0 : Hid (W0 = wr.alloc (.cells #[.int .i64 kd, .string s, .int .i64 c0, .int .i64 c1, .int .i64 c2, .int .u8 q0, .int .u8 q1, .int .u8 q2, .slice ba bl bc, .slice (some a) n cap, .int .i64 z, .slice fa fl fc] 54)) := hW0
  have HOB : Hid (ob = wr.heap.size) := hob
  have hsp : w.heap.size ≤ W0.heap.size := hst0.bel.size
  have j9 := boxCell hbox.out 9 _ rfl
  obtain ⟨EE, hEE⟩ : ∃ EE, strE s zs = EE := ⟨_, rfl⟩
  obtain ⟨LL, hLL⟩ : ∃ LL, strL s zs = LL := ⟨_, rfl⟩
  have hm4 : LL.length ≤ 4000 := by rw [← hLL]; exact strL_len s zs
  have HEE : Hid (strE s zs = EE) := hEE
  have HLL : Hid (strL s zs = LL) := hLL
  have HMT : Hid (∀ zt : List Int, (strL s zt).length ≤ 4000) := fun zt => strL_len s zt
  have T1 : Hid True := trivial
  have T2 : Hid True := trivial
  have R1 : Hid True := trivial
  have S1 : Hid True := trivial
  have S2 : Hid True := trivial
  have K1 : Hid True := trivial
  have qn := neqNilInts
  obtain ⟨k0, ki, kz0, kz1, kz2⟩ := info_parts infoI64
  have HEW : Hid (Errs w a0 a1 a2) := E0
  clear h hz ha hst0 hW0 hob E0 hLL
  by_cases hE : EE = 0
  · subst hE
    obtain ⟨m, hm⟩ : ∃ m, LL.length = m := ⟨_, rfl⟩
    have HM : Hid (LL.length = m) := hm
    rw [hm] at hm4
    clear hm hEE
    go_enter Tryz.func27, Tryz.ntmps27
    go_upto_region 5 with (first
    | (go_at_call 64; rw [← HW0.out]; refine (lentInts_some W0 a n cap zs HZ0.out (by omega)).mono ?_; rintro e w1 ⟨rfl, hn1, hb1⟩; rw [← HOB.out]; have k1 := boxCell (blk_below hbox.out hb1) 1 _ rfl; have E1 : Hid (Errs w1 a0 a1 a2) := HE0.out.below hb1)
    | (clear T1; go_at_call 65; refine (pStretch _ s (some ⟨W0.heap.size, 0, none⟩) n (n + 8) zs (IntsIn.of_room hn1 hlen) hs a0 a1 a2 E1.out).mono ?_; rintro e w2 ⟨vk, rfl, hk1, hk2, _, hb2⟩; rw [HEE.out] at hk2 ⊢; rw [HLL.out] at hk1; obtain ⟨ak, ck, rfl, hkin⟩ := shapeI hk1 HM.out; have k2 := boxCell (blk_below (blk_below hbox.out hb1) hb2) 1 _ rfl; have E2 : Hid (Errs w2 a0 a1 a2) := E1.out.below hb2; have hn2 : Hid (Nums w2 W0.heap.size W0.heap.size (n + 8) (roomRow zs 8)) := (Frm.of_below (S := fun _ => False) hb2).owns hn1 (fun _ _ e => e))
    | (clear T2; go_at_call 65; refine (pStretch _ s (some ⟨W0.heap.size, 0, none⟩) n (n + 8) zs (IntsIn.of_room hn2.out hlen) hs a0 a1 a2 E2.out).mono ?_; rintro e w3 ⟨vb2, rfl, hbk1, hbk2, _, hb3⟩; rw [HEE.out] at hbk2 ⊢; rw [HLL.out] at hbk1; obtain ⟨abk, cbk, rfl, hbin⟩ := shapeI hbk1 HM.out; have k3 := boxCell (blk_below (blk_below (blk_below hbox.out hb1) hb2) hb3) 1 _ rfl; have k3b := boxCell (blk_below (blk_below (blk_below hbox.out hb1) hb2) hb3) 9 _ rfl; have hb03 : Below W0.heap.size W0 w3 := (hb1.trans (hb2.mono hb1.size)).trans (hb3.mono (Nat.le_trans hb1.size hb2.size)); have hz3 : Hid (IntsIn w3 (some a) n zs) := HZ0.out.below hb03)
    | (clear R1; go_at_call 63; refine (refStretch _ s (some a) n cap zs hz3.out hs).mono ?_; rintro e w4 ⟨⟨vj, rfl, hj1, hj2, _, hb4⟩, hj4⟩; rw [HEE.out] at hj2 ⊢; rw [HLL.out] at hj1; obtain ⟨aj, cj, hej, hjin⟩ := shapeI hj1 HM.out; subst hej; have hjn : Hid (m = 0 → (Value.slice aj m cj) = .slice none 0 0) := fun h0 => hj4 _ _ rfl (by rw [HLL.out, HM.out]; exact h0); have k4 := boxCell (blk_below (blk_below (blk_below (blk_below hbox.out hb1) hb2) hb3) hb4) 9 _ rfl))
    have hg1 := hn1.lt.2
    have hz12 := hb2.size
    have hz23 := hb3.size
    have hz34 := hb4.size
    have hb04 : Below W0.heap.size W0 w4 := hb03.trans (hb4.mono hb03.size)
    have hbr4 : Below wr.heap.size wr w4 := (show Below wr.heap.size wr W0 from by rw [HW0.out]; exact (Below.refl _ _).alloc (Nat.le_refl _) _).trans (hb04.mono (by rw [← HOB.out]; omega))
    obtain ⟨o63, o50, rk, rb2, rj, oold⟩ := own6_roles own (ob := ob) (g := W0.heap.size) (s1 := w1.heap.size) (s2 := w2.heap.size) (s3 := w3.heap.size) (vk := .slice ak m ck) (vb := .slice abk m cbk) (vj := .slice aj m cj) hobW hg1 hz12 hz23 (fun k hk => World.ownsRow.lt hk1 k hk) (fun k hk => World.ownsRow.lt hbk1 k hk) (fun k hk => (World.ownsRow.lt hj1 k hk).1)
    obtain ⟨O, hO⟩ : ∃ O, O = own6 own ob W0.heap.size (.slice ak m ck) (.slice abk m cbk) (.slice aj m cj) := ⟨_, rfl⟩
    rw [← hO] at o63 o50 rk rb2 rj oold
    have h4 : St w wH w4 p M O vi vb vw ve ibs bbs wts 0 := St.own (HSTR.out.below hbr4) HSTR.out (fun k hk => oold k (by rw [HOB.out]; exact hk))
    have F24 : Frm (fun _ => False) w2 w4 := Frm.of_below (hb3.trans (hb4.mono hz23))
    have hrl4 : Nums w4 w.heap.size W0.heap.size (n + 8) (roomRow zs 8) := owns_base (F24.owns hn2.out (fun _ _ e => e)) hsp
    have hz4 : IntsIn w4 (some a) n zs := hz3.out.below hb4
    have WH := whole_st (cap := cap) h4 o50 hrl4 hz4 hn hM hil
    have HWH : Hid (Calls Tryz.prog 66 #[.pointer (some ⟨p, 0, none⟩), .slice (some ⟨W0.heap.size, 0, none⟩) n (n + 8), .slice (some a) n cap] w4 fun x w' => x = .returned (.bool true) ∧ ∃ own' vi' ibs', St w wH w' p (M + 1) own' vi' vb vw ve ibs' bbs wts 0 ∧ ibs'.length = ibs.length + 1 ∧ (∀ k, k < w4.heap.size → O k ≠ 50 → own' k = O k) ∧ Fill w' (.slice (some ⟨W0.heap.size, 0, none⟩) (n + 8) (n + 8)) (n + 8) [.int .i64 (-((M : Int) + 1))] ∧ Frm (fun k => O k = 0 ∨ O k = 50 ∨ O k = 2) w4 w') := WH
    have ok4 : Hid (w4.ownsRow w.heap.size 3 1 (.slice ak m ck) LL.length (ints LL)) := owns_base (F24.owns hk1 (fun _ _ e => e)) (by omega)
    have ob4 : Hid (w4.ownsRow w.heap.size 3 1 (.slice abk m cbk) LL.length (ints LL)) := owns_base ((Frm.of_below (S := fun _ => False) hb4).owns hbk1 (fun _ _ e => e)) (by omega)
    have oj4 : Hid (w4.ownsRow w.heap.size 3 1 (.slice aj m cj) LL.length (ints LL)) := owns_base hj1 (by omega)
    have kin4 : Hid (IntsIn w4 ak m LL) := (hkin.below hb3).below hb4
    have bin4 : Hid (IntsIn w4 abk m LL) := hbin.below hb4
    have jin4 : Hid (IntsIn w4 aj m LL) := hjin
    have RK : Hid (role O (.slice ak m ck) 60) := rk
    have RB : Hid (role O (.slice abk m cbk) 61) := rb2
    have RJ : Hid (role O (.slice aj m cj) 62) := rj
    have O63 : Hid (O ob = 63) := o63
    have HB4 : Hid (w4.heap[ob]? = some (.cells #[.int .i64 kd, .string s, .int .i64 c0, .int .i64 c1, .int .i64 c2, .int .u8 q0, .int .u8 q1, .int .u8 q2, .slice ba bl bc, .slice (some a) n cap, .int .i64 z, .slice fa fl fc] 54 (0, 0))) := blk_below (blk_below (blk_below (blk_below hbox.out hb1) hb2) hb3) hb4
    have hgw4 : Hid (W0.heap.size < w4.heap.size) := by unfold Hid; omega
    have hobw4 : Hid (ob < w4.heap.size) := by unfold Hid; omega
    obtain ⟨g, hg⟩ : ∃ g, g = W0.heap.size := ⟨_, rfl⟩
    rw [← hg] at HWH hgw4 ⊢
    have HG : Hid (g = W0.heap.size) := hg
    clear hg
    clear WH h4 F24 hrl4 hz4 rk rb2 rj o63 o50 oold hO hbr4 hb04 hg1 hz12 hz23 hz34 hn1 hb1 hb2 hb3 hb4 hb03 hk1 hbk1 hj1 hkin hbin hjin hk2 hbk2 hj2 k1 k2 k3 k3b j9 hn2 hz3 hbox HE0 HST HSTR HZ0 E1 E2
    go_upto_region 10 with (first
    | (go_at_call 66; refine HWH.out.mono ?_; rintro e w5 ⟨rfl, own5, vi5, ibs5, st5, hil5, hkey5, hfill5, hfr5⟩; have kin5 : Hid (IntsIn w5 ak m LL) := kin4.out.frm hfr5 (fun q hq hS => (by have := RK.out q.block (by rw [hq]; rfl); omega)); have bin5 : Hid (IntsIn w5 abk m LL) := bin4.out.frm hfr5 (fun q hq hS => (by have := RB.out q.block (by rw [hq]; rfl); omega)); have jin5 : Hid (IntsIn w5 aj m LL) := jin4.out.frm hfr5 (fun q hq hS => (by have := RJ.out q.block (by rw [hq]; rfl); omega)))
    | (clear S1; go_at_call 30; refine (sameInts_true _ ak aj m ck cj LL kin5.out jin5.out (by omega)).mono ?_; rintro e w6 ⟨rfl, hb6⟩)
    | (clear S2; go_at_call 30; refine (sameInts_true _ abk aj m cbk cj LL (bin5.out.below hb6) (jin5.out.below hb6) (by omega)).mono ?_; rintro e w7 ⟨rfl, hb7⟩)
    | (go_at_call 57; refine (num_any _ _).mono ?_; rintro e w19 ⟨rfl, hw⟩; rw [hw]; clear hw))
    have hb57 : Below w5.heap.size w5 w7 := hb6.trans (hb7.mono hb6.size)
    obtain ⟨zt, hzt⟩ : ∃ zt, zt = List.replicate n (-((M : Int) + 1)) := ⟨_, rfl⟩
    have hztl : zt.length = n := by rw [hzt]; exact List.length_replicate
    have hg5 : g < w5.heap.size := Nat.lt_of_lt_of_le hgw4.out hfr5.size
    have tin5 := IntsIn.of_fill (n := n) hfill5 (by omega) hg5
    rw [← hzt] at tin5
    have tin7 : Hid (IntsIn w7 (some ⟨g, 0, none⟩) n zt) := tin5.below hb57
    have HNEWS : Hid (∀ j u, (ints zt)[j]? = some u → w7.cell? ((⟨g, 0, none⟩ : Addr).add j) = some u) := fun j u hu => by
      have hj : j < zt.length := by
        rcases Nat.lt_or_ge j zt.length with h' | h'
        · exact h'
        · rw [List.getElem?_eq_none (by rw [ints_length]; exact h')] at hu; cases hu
      rw [ints_get zt j hj] at hu
      injection hu with hu
      subst hu
      rcases tin7.out.2 with h0 | ⟨b, off, e, _, hc⟩
      · omega
      · simp only [Option.some.injEq, Addr.mk.injEq, and_true] at e
        obtain ⟨rfl, rfl⟩ := e
        have := hc j (by omega)
        rw [Addr.add_mid]
        exact this
    have HLT : Hid ((ints zt).length = n * 1) := by unfold Hid; rw [ints_length]; omega
    have HZTL : Hid (zt.length = n) := hztl
    have hbox7 : Hid (w7.heap[ob]? = some (.cells #[.int .i64 kd, .string s, .int .i64 c0, .int .i64 c1, .int .i64 c2, .int .u8 q0, .int .u8 q1, .int .u8 q2, .slice ba bl bc, .slice (some a) n cap, .int .i64 z, .slice fa fl fc] 54 (0, 0))) := blk_below ((hfr5.block ob hobw4.out (fun hS => by have := O63.out; omega)).trans HB4.out) hb57
    have m1 := boxCell hbox7.out 1 _ rfl
    have E7 : Hid (Errs w7 a0 a1 a2) := (HEW.out.below st5.bel).below hb57
    have ok7 : Hid (w7.ownsRow w.heap.size 3 1 (.slice ak m ck) LL.length (ints LL)) := (Frm.of_below (S := fun _ => False) hb57).owns (hfr5.owns ok4.out (fun k hk hS => by have := RK.out k hk; omega)) (fun _ _ e => e)
    have ob7 : Hid (w7.ownsRow w.heap.size 3 1 (.slice abk m cbk) LL.length (ints LL)) := (Frm.of_below (S := fun _ => False) hb57).owns (hfr5.owns ob4.out (fun k hk hS => by have := RB.out k hk; omega)) (fun _ _ e => e)
    have oj7 : Hid (w7.ownsRow w.heap.size 3 1 (.slice aj m cj) LL.length (ints LL)) := (Frm.of_below (S := fun _ => False) hb57).owns (hfr5.owns oj4.out (fun k hk hS => by have := RJ.out k hk; omega)) (fun _ _ e => e)
    have RK5 : Hid (role own5 (.slice ak m ck) 60) := RK.out.congr (fun k hk => hkey5 k (World.ownsRow.lt ok4.out k hk).2 (by rw [RK.out k hk]; decide))
    have RB5 : Hid (role own5 (.slice abk m cbk) 61) := RB.out.congr (fun k hk => hkey5 k (World.ownsRow.lt ob4.out k hk).2 (by rw [RB.out k hk]; decide))
    have RJ5 : Hid (role own5 (.slice aj m cj) 62) := RJ.out.congr (fun k hk => hkey5 k (World.ownsRow.lt oj4.out k hk).2 (by rw [RJ.out k hk]; decide))
    have st7 : Hid (St w wH w7 p (M + 1) own5 vi5 vb vw ve ibs5 bbs wts 0) := st5.below hb57
    have HIL5 : Hid (ibs5.length = ibs.length + 1) := hil5
    have H7 : Hid (B7 w wH w7 p M own5 vi5 vb vw ve ibs5 bbs wts (ibs.length + 1) ob g n a0 a1 a2 s (.slice ak m ck) (.slice abk m cbk) (.slice aj m cj) LL zt) := ⟨tin7.out, HNEWS.out, hztl, HLT.out, boxCell hbox7.out 1 _ rfl, E7.out, ok7.out, ob7.out, oj7.out, RK5.out, RB5.out, RJ5.out, st7.out, hil5, (fun h0 => hjn.out (by rw [← HM.out]; exact h0)), by rw [HM.out]; omega, HMT.out zt⟩
    obtain ⟨ET, hET⟩ : ∃ ET, strE s zt = ET := ⟨_, rfl⟩
    obtain ⟨LT, hLT⟩ : ∃ LT, strL s zt = LT := ⟨_, rfl⟩
    obtain ⟨mt, hmt⟩ : ∃ mt, LT.length = mt := ⟨_, rfl⟩
    have hmt4 : mt ≤ 4000 := by rw [← hmt, ← hLT]; exact HMT.out zt
    have HET : Hid (strE s zt = ET ∧ strL s zt = LT ∧ LT.length = mt) := ⟨hET, hLT, hmt⟩
    clear hET hLT hmt hzt hztl hg5 tin5 hb57 hb6 hb7 hfill5 hfr5 hkey5 st5 hil5 kin4 bin4 jin4 kin5 bin5 jin5 ok4 ob4 oj4 RK RB RJ O63 HB4 HWH hgw4 hobw4 k4 ok7 ob7 oj7 RK5 RB5 RJ5 st7 HIL5 tin7 HNEWS HLT HZTL E7 hbox7 m1 HEE HLL HMT HEW HZ HA HW0 HOB HG hsp hobW HM hlen qn hjn
    have m1 := H7.out.box
    go_wp2_with (at_builtin; refine wpList_append_own _ rfl (.const (.slice none 0 0)) (.tmp 90) 52 rfl w7.heap.size 3 k0 (.int .i64 0) 1 8 Tryz.underlying52 ki kz0 kz1 kz2 rfl (by decide) (.slice none 0 0) 0 [] rfl (World.ownsRow_nil _ _ _ _) ⟨g, 0, none⟩ n (n + 8) (ints zt) rfl H7.out.ztl1 H7.out.news (oneCell_ints zt) (by unfold maxLen; omega) (by omega) (Nat.le_refl _) ?_)
    intro vt w8 how8 hgr8 _
    have hb8 : Below w7.heap.size w7 w8 := (Below.refl _ _).grown hgr8 (Nat.le_refl _) (fun k hk => by simp [Value.ownBlock] at hk)
    obtain ⟨at8, ct, rfl, htin8⟩ : ∃ a c, vt = .slice a n c ∧ IntsIn w8 a n zt := shapeI (zs := zt) (by rw [H7.out.ztl]; exact how8) H7.out.ztl
    have m2 := cellB m1 hb8
    have HTIN : Hid (IntsIn w8 at8 n zt ∧ IntsIn w8 (some ⟨g, 0, none⟩) n zt ∧ Errs w8 a0 a1 a2) := ⟨htin8, H7.out.tin.below hb8, H7.out.err.below hb8⟩
    clear how8 hgr8 htin8 m1
    go_wp2_with (first
    | (go_at_call 65; refine (pStretch _ s (some ⟨g, 0, none⟩) n (n + 8) zt HTIN.out.2.1 hs a0 a1 a2 HTIN.out.2.2).mono ?_; rintro e w9 ⟨vx, rfl, hx1, _, _, hb9⟩; rw [HET.out.1]; rw [HET.out.2.1] at hx1; obtain ⟨ax, cx, rfl, hxin⟩ := shapeI hx1 HET.out.2.2; have m3 := cellB m2 hb9; clear hx1)
    | (go_at_call 63; refine (refStretch _ s at8 n ct zt (HTIN.out.1.below hb9) hs).mono ?_; rintro e w10 ⟨⟨vy, rfl, hy1, _, _, hb10⟩, _⟩; rw [HET.out.1]; rw [HET.out.2.1] at hy1; obtain ⟨ay, cy, rfl, hyin⟩ := shapeI hy1 HET.out.2.2; clear hy1)
    | (go_at_call 30; refine (sameInts_true _ ax ay mt cx cy LT (hxin.below hb10) hyin (by omega)).mono ?_; rintro e w11 ⟨rfl, hb11⟩; have hb711 : Below w7.heap.size w7 w11 := ((hb8.trans (hb9.mono hb8.size)).trans (hb10.mono (Nat.le_trans hb8.size hb9.size))).trans (hb11.mono (Nat.le_trans (Nat.le_trans hb8.size hb9.size) hb10.size)))
    | (go_at_call 57; refine (num_any _ _).mono ?_; rintro e w19 ⟨rfl, hw⟩; rw [hw]; clear hw)
    | (clear K1; go_at_call 67; refine (keep_one H7.out hb711 hwl).mono ?_; rintro e w12 ⟨rfl, hkk⟩)
    | (go_at_call 67; refine hkk.mono ?_; rintro e w13 ⟨rfl, hfin⟩))
    go_ret
    exact ⟨rfl, hfin⟩
  · have HNE : Hid (EE ≠ 0) := hE
    have hEn : (EE != 0) = true := by simpa using hE
    have hL0 : LL = [] := by rw [← HLL.out]; unfold strL; rw [if_neg (by rw [HEE.out]; exact hE)]
    have HLI : Hid (∀ wx : World, IntsIn wx none 0 LL) := fun wx => ⟨by rw [hL0]; rfl, .inl rfl⟩
    have HM : Hid (LL.length = 0) := by unfold Hid; rw [hL0]; rfl
    clear hE hEE hm4 hL0
    go_enter Tryz.func27, Tryz.ntmps27
    go_upto_region 5 with (first
    | (go_at_call 64; rw [← HW0.out]; refine (lentInts_some W0 a n cap zs HZ0.out (by omega)).mono ?_; rintro e w1 ⟨rfl, hn1, hb1⟩; rw [← HOB.out]; have k1 := boxCell (blk_below hbox.out hb1) 1 _ rfl; have E1 : Hid (Errs w1 a0 a1 a2) := HE0.out.below hb1)
    | (clear T1; go_at_call 65; refine (pStretch _ s (some ⟨W0.heap.size, 0, none⟩) n (n + 8) zs (IntsIn.of_room hn1 hlen) hs a0 a1 a2 E1.out).mono ?_; rintro e w2 ⟨vk, rfl, hk1, hk2, _, hb2⟩; rw [HEE.out] at hk2 ⊢; rw [HLL.out] at hk1; obtain rfl := hk2 HNE.out; have hkin : IntsIn w2 none 0 LL := HLI.out w2; have k2 := boxCell (blk_below (blk_below hbox.out hb1) hb2) 1 _ rfl; have E2 : Hid (Errs w2 a0 a1 a2) := E1.out.below hb2; have hn2 : Hid (Nums w2 W0.heap.size W0.heap.size (n + 8) (roomRow zs 8)) := (Frm.of_below (S := fun _ => False) hb2).owns hn1 (fun _ _ e => e))
    | (clear T2; go_at_call 65; refine (pStretch _ s (some ⟨W0.heap.size, 0, none⟩) n (n + 8) zs (IntsIn.of_room hn2.out hlen) hs a0 a1 a2 E2.out).mono ?_; rintro e w3 ⟨vb2, rfl, hbk1, hbk2, _, hb3⟩; rw [HEE.out] at hbk2 ⊢; rw [HLL.out] at hbk1; obtain rfl := hbk2 HNE.out; have hbin : IntsIn w3 none 0 LL := HLI.out w3; have k3 := boxCell (blk_below (blk_below (blk_below hbox.out hb1) hb2) hb3) 1 _ rfl; have k3b := boxCell (blk_below (blk_below (blk_below hbox.out hb1) hb2) hb3) 9 _ rfl; have hb03 : Below W0.heap.size W0 w3 := (hb1.trans (hb2.mono hb1.size)).trans (hb3.mono (Nat.le_trans hb1.size hb2.size)); have hz3 : Hid (IntsIn w3 (some a) n zs) := HZ0.out.below hb03)
    | (clear R1; go_at_call 63; refine (refStretch _ s (some a) n cap zs hz3.out hs).mono ?_; rintro e w4 ⟨⟨vj, rfl, hj1, hj2, _, hb4⟩, hj4⟩; rw [HEE.out] at hj2 ⊢; rw [HLL.out] at hj1; obtain rfl := hj2 HNE.out; have hjin : IntsIn w4 none 0 LL := HLI.out w4; have k4 := boxCell (blk_below (blk_below (blk_below (blk_below hbox.out hb1) hb2) hb3) hb4) 9 _ rfl))
    have hg1 := hn1.lt.2
    have hz12 := hb2.size
    have hz23 := hb3.size
    have hz34 := hb4.size
    have hb04 : Below W0.heap.size W0 w4 := hb03.trans (hb4.mono hb03.size)
    have hbr4 : Below wr.heap.size wr w4 := (show Below wr.heap.size wr W0 from by rw [HW0.out]; exact (Below.refl _ _).alloc (Nat.le_refl _) _).trans (hb04.mono (by rw [← HOB.out]; omega))
    obtain ⟨o63, o50, rk, rb2, rj, oold⟩ := own6_roles own (ob := ob) (g := W0.heap.size) (s1 := w1.heap.size) (s2 := w2.heap.size) (s3 := w3.heap.size) (vk := .slice none 0 0) (vb := .slice none 0 0) (vj := .slice none 0 0) hobW hg1 hz12 hz23 (fun k hk => World.ownsRow.lt hk1 k hk) (fun k hk => World.ownsRow.lt hbk1 k hk) (fun k hk => (World.ownsRow.lt hj1 k hk).1)
    obtain ⟨O, hO⟩ : ∃ O, O = own6 own ob W0.heap.size (.slice none 0 0) (.slice none 0 0) (.slice none 0 0) := ⟨_, rfl⟩
    rw [← hO] at o63 o50 rk rb2 rj oold
    have h4 : St w wH w4 p M O vi vb vw ve ibs bbs wts 0 := St.own (HSTR.out.below hbr4) HSTR.out (fun k hk => oold k (by rw [HOB.out]; exact hk))
    have F24 : Frm (fun _ => False) w2 w4 := Frm.of_below (hb3.trans (hb4.mono hz23))
    have hrl4 : Nums w4 w.heap.size W0.heap.size (n + 8) (roomRow zs 8) := owns_base (F24.owns hn2.out (fun _ _ e => e)) hsp
    have hz4 : IntsIn w4 (some a) n zs := hz3.out.below hb4
    have WH := whole_st (cap := cap) h4 o50 hrl4 hz4 hn hM hil
    have HWH : Hid (Calls Tryz.prog 66 #[.pointer (some ⟨p, 0, none⟩), .slice (some ⟨W0.heap.size, 0, none⟩) n (n + 8), .slice (some a) n cap] w4 fun x w' => x = .returned (.bool true) ∧ ∃ own' vi' ibs', St w wH w' p (M + 1) own' vi' vb vw ve ibs' bbs wts 0 ∧ ibs'.length = ibs.length + 1 ∧ (∀ k, k < w4.heap.size → O k ≠ 50 → own' k = O k) ∧ Fill w' (.slice (some ⟨W0.heap.size, 0, none⟩) (n + 8) (n + 8)) (n + 8) [.int .i64 (-((M : Int) + 1))] ∧ Frm (fun k => O k = 0 ∨ O k = 50 ∨ O k = 2) w4 w') := WH
    have ok4 : Hid (w4.ownsRow w.heap.size 3 1 (.slice none 0 0) LL.length (ints LL)) := owns_base (F24.owns hk1 (fun _ _ e => e)) (by omega)
    have ob4 : Hid (w4.ownsRow w.heap.size 3 1 (.slice none 0 0) LL.length (ints LL)) := owns_base ((Frm.of_below (S := fun _ => False) hb4).owns hbk1 (fun _ _ e => e)) (by omega)
    have oj4 : Hid (w4.ownsRow w.heap.size 3 1 (.slice none 0 0) LL.length (ints LL)) := owns_base hj1 (by omega)
    have kin4 : Hid (IntsIn w4 none 0 LL) := (hkin.below hb3).below hb4
    have bin4 : Hid (IntsIn w4 none 0 LL) := hbin.below hb4
    have jin4 : Hid (IntsIn w4 none 0 LL) := hjin
    have RK : Hid (role O (.slice none 0 0) 60) := rk
    have RB : Hid (role O (.slice none 0 0) 61) := rb2
    have RJ : Hid (role O (.slice none 0 0) 62) := rj
    have O63 : Hid (O ob = 63) := o63
    have HB4 : Hid (w4.heap[ob]? = some (.cells #[.int .i64 kd, .string s, .int .i64 c0, .int .i64 c1, .int .i64 c2, .int .u8 q0, .int .u8 q1, .int .u8 q2, .slice ba bl bc, .slice (some a) n cap, .int .i64 z, .slice fa fl fc] 54 (0, 0))) := blk_below (blk_below (blk_below (blk_below hbox.out hb1) hb2) hb3) hb4
    have hgw4 : Hid (W0.heap.size < w4.heap.size) := by unfold Hid; omega
    have hobw4 : Hid (ob < w4.heap.size) := by unfold Hid; omega
    obtain ⟨g, hg⟩ : ∃ g, g = W0.heap.size := ⟨_, rfl⟩
    rw [← hg] at HWH hgw4 ⊢
    have HG : Hid (g = W0.heap.size) := hg
    clear hg
    clear WH h4 F24 hrl4 hz4 rk rb2 rj o63 o50 oold hO hbr4 hb04 hg1 hz12 hz23 hz34 hn1 hb1 hb2 hb3 hb4 hb03 hk1 hbk1 hj1 hkin hbin hjin hk2 hbk2 hj2 k1 k2 k3 k3b j9 hn2 hz3 hbox HE0 HST HSTR HZ0 E1 E2
    go_upto_region 10 with (first
    | (go_at_call 66; refine HWH.out.mono ?_; rintro e w5 ⟨rfl, own5, vi5, ibs5, st5, hil5, hkey5, hfill5, hfr5⟩; have kin5 : Hid (IntsIn w5 none 0 LL) := kin4.out.frm hfr5 (fun q hq hS => (by have := RK.out q.block (by rw [hq]; rfl); omega)); have bin5 : Hid (IntsIn w5 none 0 LL) := bin4.out.frm hfr5 (fun q hq hS => (by have := RB.out q.block (by rw [hq]; rfl); omega)); have jin5 : Hid (IntsIn w5 none 0 LL) := jin4.out.frm hfr5 (fun q hq hS => (by have := RJ.out q.block (by rw [hq]; rfl); omega)))
    | (clear S1; go_at_call 30; refine (sameInts_true _ none none 0 0 0 LL kin5.out jin5.out (by omega)).mono ?_; rintro e w6 ⟨rfl, hb6⟩)
    | (clear S2; go_at_call 30; refine (sameInts_true _ none none 0 0 0 LL (bin5.out.below hb6) (jin5.out.below hb6) (by omega)).mono ?_; rintro e w7 ⟨rfl, hb7⟩)
    | (go_at_call 57; refine (num_any _ _).mono ?_; rintro e w19 ⟨rfl, hw⟩; rw [hw]; clear hw))
    have hb57 : Below w5.heap.size w5 w7 := hb6.trans (hb7.mono hb6.size)
    obtain ⟨zt, hzt⟩ : ∃ zt, zt = List.replicate n (-((M : Int) + 1)) := ⟨_, rfl⟩
    have hztl : zt.length = n := by rw [hzt]; exact List.length_replicate
    have hg5 : g < w5.heap.size := Nat.lt_of_lt_of_le hgw4.out hfr5.size
    have tin5 := IntsIn.of_fill (n := n) hfill5 (by omega) hg5
    rw [← hzt] at tin5
    have tin7 : Hid (IntsIn w7 (some ⟨g, 0, none⟩) n zt) := tin5.below hb57
    have HNEWS : Hid (∀ j u, (ints zt)[j]? = some u → w7.cell? ((⟨g, 0, none⟩ : Addr).add j) = some u) := fun j u hu => by
      have hj : j < zt.length := by
        rcases Nat.lt_or_ge j zt.length with h' | h'
        · exact h'
        · rw [List.getElem?_eq_none (by rw [ints_length]; exact h')] at hu; cases hu
      rw [ints_get zt j hj] at hu
      injection hu with hu
      subst hu
      rcases tin7.out.2 with h0 | ⟨b, off, e, _, hc⟩
      · omega
      · simp only [Option.some.injEq, Addr.mk.injEq, and_true] at e
        obtain ⟨rfl, rfl⟩ := e
        have := hc j (by omega)
        rw [Addr.add_mid]
        exact this
    have HLT : Hid ((ints zt).length = n * 1) := by unfold Hid; rw [ints_length]; omega
    have HZTL : Hid (zt.length = n) := hztl
    have hbox7 : Hid (w7.heap[ob]? = some (.cells #[.int .i64 kd, .string s, .int .i64 c0, .int .i64 c1, .int .i64 c2, .int .u8 q0, .int .u8 q1, .int .u8 q2, .slice ba bl bc, .slice (some a) n cap, .int .i64 z, .slice fa fl fc] 54 (0, 0))) := blk_below ((hfr5.block ob hobw4.out (fun hS => by have := O63.out; omega)).trans HB4.out) hb57
    have m1 := boxCell hbox7.out 1 _ rfl
    have E7 : Hid (Errs w7 a0 a1 a2) := (HEW.out.below st5.bel).below hb57
    have ok7 : Hid (w7.ownsRow w.heap.size 3 1 (.slice none 0 0) LL.length (ints LL)) := (Frm.of_below (S := fun _ => False) hb57).owns (hfr5.owns ok4.out (fun k hk hS => by have := RK.out k hk; omega)) (fun _ _ e => e)
    have ob7 : Hid (w7.ownsRow w.heap.size 3 1 (.slice none 0 0) LL.length (ints LL)) := (Frm.of_below (S := fun _ => False) hb57).owns (hfr5.owns ob4.out (fun k hk hS => by have := RB.out k hk; omega)) (fun _ _ e => e)
    have oj7 : Hid (w7.ownsRow w.heap.size 3 1 (.slice none 0 0) LL.length (ints LL)) := (Frm.of_below (S := fun _ => False) hb57).owns (hfr5.owns oj4.out (fun k hk hS => by have := RJ.out k hk; omega)) (fun _ _ e => e)
    have RK5 : Hid (role own5 (.slice none 0 0) 60) := RK.out.congr (fun k hk => hkey5 k (World.ownsRow.lt ok4.out k hk).2 (by rw [RK.out k hk]; decide))
    have RB5 : Hid (role own5 (.slice none 0 0) 61) := RB.out.congr (fun k hk => hkey5 k (World.ownsRow.lt ob4.out k hk).2 (by rw [RB.out k hk]; decide))
    have RJ5 : Hid (role own5 (.slice none 0 0) 62) := RJ.out.congr (fun k hk => hkey5 k (World.ownsRow.lt oj4.out k hk).2 (by rw [RJ.out k hk]; decide))
    have st7 : Hid (St w wH w7 p (M + 1) own5 vi5 vb vw ve ibs5 bbs wts 0) := st5.below hb57
    have HIL5 : Hid (ibs5.length = ibs.length + 1) := hil5
    have H7 : Hid (B7 w wH w7 p M own5 vi5 vb vw ve ibs5 bbs wts (ibs.length + 1) ob g n a0 a1 a2 s (.slice none 0 0) (.slice none 0 0) (.slice none 0 0) LL zt) := ⟨tin7.out, HNEWS.out, hztl, HLT.out, boxCell hbox7.out 1 _ rfl, E7.out, ok7.out, ob7.out, oj7.out, RK5.out, RB5.out, RJ5.out, st7.out, hil5, (fun _ => rfl), by rw [HM.out]; omega, HMT.out zt⟩
    obtain ⟨ET, hET⟩ : ∃ ET, strE s zt = ET := ⟨_, rfl⟩
    obtain ⟨LT, hLT⟩ : ∃ LT, strL s zt = LT := ⟨_, rfl⟩
    obtain ⟨mt, hmt⟩ : ∃ mt, LT.length = mt := ⟨_, rfl⟩
    have hmt4 : mt ≤ 4000 := by rw [← hmt, ← hLT]; exact HMT.out zt
    have HET : Hid (strE s zt = ET ∧ strL s zt = LT ∧ LT.length = mt) := ⟨hET, hLT, hmt⟩
    clear hET hLT hmt hzt hztl hg5 tin5 hb57 hb6 hb7 hfill5 hfr5 hkey5 st5 hil5 kin4 bin4 jin4 kin5 bin5 jin5 ok4 ob4 oj4 RK RB RJ O63 HB4 HWH hgw4 hobw4 k4 ok7 ob7 oj7 RK5 RB5 RJ5 st7 HIL5 tin7 HNEWS HLT HZTL E7 hbox7 m1 HEE HLL HMT HEW HZ HA HW0 HOB HG hsp hobW HM hlen qn HNE HLI hEn
    have m1 := H7.out.box
    go_wp2_with (at_builtin; refine wpList_append_own _ rfl (.const (.slice none 0 0)) (.tmp 90) 52 rfl w7.heap.size 3 k0 (.int .i64 0) 1 8 Tryz.underlying52 ki kz0 kz1 kz2 rfl (by decide) (.slice none 0 0) 0 [] rfl (World.ownsRow_nil _ _ _ _) ⟨g, 0, none⟩ n (n + 8) (ints zt) rfl H7.out.ztl1 H7.out.news (oneCell_ints zt) (by unfold maxLen; omega) (by omega) (Nat.le_refl _) ?_)
    intro vt w8 how8 hgr8 _
    have hb8 : Below w7.heap.size w7 w8 := (Below.refl _ _).grown hgr8 (Nat.le_refl _) (fun k hk => by simp [Value.ownBlock] at hk)
    obtain ⟨at8, ct, rfl, htin8⟩ : ∃ a c, vt = .slice a n c ∧ IntsIn w8 a n zt := shapeI (zs := zt) (by rw [H7.out.ztl]; exact how8) H7.out.ztl
    have m2 := cellB m1 hb8
    have HTIN : Hid (IntsIn w8 at8 n zt ∧ IntsIn w8 (some ⟨g, 0, none⟩) n zt ∧ Errs w8 a0 a1 a2) := ⟨htin8, H7.out.tin.below hb8, H7.out.err.below hb8⟩
    clear how8 hgr8 htin8 m1
    go_wp2_with (first
    | (go_at_call 65; refine (pStretch _ s (some ⟨g, 0, none⟩) n (n + 8) zt HTIN.out.2.1 hs a0 a1 a2 HTIN.out.2.2).mono ?_; rintro e w9 ⟨vx, rfl, hx1, _, _, hb9⟩; rw [HET.out.1]; rw [HET.out.2.1] at hx1; obtain ⟨ax, cx, rfl, hxin⟩ := shapeI hx1 HET.out.2.2; have m3 := cellB m2 hb9; clear hx1)
    | (go_at_call 63; refine (refStretch _ s at8 n ct zt (HTIN.out.1.below hb9) hs).mono ?_; rintro e w10 ⟨⟨vy, rfl, hy1, _, _, hb10⟩, _⟩; rw [HET.out.1]; rw [HET.out.2.1] at hy1; obtain ⟨ay, cy, rfl, hyin⟩ := shapeI hy1 HET.out.2.2; clear hy1)
    | (go_at_call 30; refine (sameInts_true _ ax ay mt cx cy LT (hxin.below hb10) hyin (by omega)).mono ?_; rintro e w11 ⟨rfl, hb11⟩; have hb711 : Below w7.heap.size w7 w11 := ((hb8.trans (hb9.mono hb8.size)).trans (hb10.mono (Nat.le_trans hb8.size hb9.size))).trans (hb11.mono (Nat.le_trans (Nat.le_trans hb8.size hb9.size) hb10.size)))
    | (go_at_call 57; refine (num_any _ _).mono ?_; rintro e w19 ⟨rfl, hw⟩; rw [hw]; clear hw)
    | (clear K1; go_at_call 67; refine (keep_one H7.out hb711 hwl).mono ?_; rintro e w12 ⟨rfl, hkk⟩)
    | (go_at_call 67; refine hkk.mono ?_; rintro e w13 ⟨rfl, hfin⟩))
    go_ret
    exact ⟨rfl, hfin⟩

end Go.Proofs.YtekfbphnoibnjaaGreatDoor
namespace Go.Proofs.YtekfbphnoibnjaaGreatDoor
open Go.RowKit

theorem strL_nil (s : ByteArray) : strL s [] = [] := by
  unfold strL
  by_cases h : strE s [] = 0
  · rw [if_pos h]
    exact List.eq_nil_of_length_eq_zero (Rdr.all_len _ _ _ _ (Nat.le_refl _))
  · rw [if_neg h]

def own7 (own : Nat → Nat) (vk vb : Value) : Nat → Nat := fun k => if vk.ownBlock = some k then 60 else if vb.ownBlock = some k then 61 else own k
theorem own7_roles (own : Nat → Nat) {s1 s2 : Nat} {vk vb : Value} (hk : ∀ k, vk.ownBlock = some k → s1 ≤ k ∧ k < s2) (hb : ∀ k, vb.ownBlock = some k → s2 ≤ k) (h12 : s1 ≤ s2) :
    role (own7 own vk vb) vk 60 ∧ role (own7 own vk vb) vb 61 ∧ ∀ k, k < s1 → own7 own vk vb k = own k := by
  refine ⟨fun k e => by unfold own7; rw [if_pos e], fun k e => ?_, fun k e => ?_⟩
  · unfold own7
    rw [if_neg (fun e' => by have := hk k e'; have := hb k e; omega), if_pos e]
  · unfold own7
    rw [if_neg (fun e' => by have := hk k e'; omega), if_neg (fun e' => by have := hb k e'; omega)]

/-- What came out is kept, twice. -/
theorem keep_two {w wH wr : World} {p M : Nat} {own : Nat → Nat} {vi vb vw ve : Value} {ibs : List IntB} {bbs : List BitB} {wts : List Wt} {VK VB : Value} (h : St w wH wr p M own vi vb vw ve ibs bbs wts 0) (ok : wr.ownsRow w.heap.size 3 1 VK ([] : List Int).length (ints [])) (okb : wr.ownsRow w.heap.size 3 1 VB ([] : List Int).length (ints [])) (rk : role own VK 60) (rb : role own VB 61) (hwl : wts.length ≤ 90000000) :
    Calls Tryz.prog 67 #[.pointer (some ⟨p, 0, none⟩), VK, .slice none 0 0] wr fun e w' => e = .returned (.tuple #[]) ∧ Calls Tryz.prog 67 #[.pointer (some ⟨p, 0, none⟩), VB, .slice none 0 0] w' fun e w'' => e = .returned (.tuple #[]) ∧ StW w wH w'' p M vb bbs ibs.length (wts.length + 2) := by
  have nl : ∀ wx : World, wx.ownsRow w.heap.size 3 1 (.slice none 0 0) ([] : List Int).length (ints []) := fun wx => World.ownsRow_nil _ _ _ _
  have rn : ∀ o : Nat → Nat, role o (.slice none 0 0) 62 := fun o k hk => by simp [Value.ownBlock] at hk
  refine (keep_st (zs := []) h rk free60 (fun i _ => by omega) ok (nl _) (fun _ => rfl) (rn _) (by simp) (by omega)).mono ?_
  rintro e w12 ⟨rfl, own12, vw12, ve12, wts12, st12, hwl12, hkey12, hfr12⟩
  refine ⟨rfl, ?_⟩
  refine (keep_st (zs := []) st12 (rb.congr (fun k hk => hkey12 k (World.ownsRow.lt okb k hk).2 (by rw [rb k hk]; decide))) free61 (fun i _ => by omega) (hfr12.owns okb (fun k hk hS => by have := rb k hk; omega)) (nl _) (fun _ => rfl) (rn _) (by simp) (by omega)).mono ?_
  rintro e w13 ⟨rfl, own13, vw13, ve13, wts13, st13, hwl13, _, _⟩
  exact ⟨rfl, ⟨_, _, _, _, _, _, st13, rfl, by omega⟩⟩

set_option maxHeartbeats 4000000 in
set_option maxRecDepth 20000 in
theorem stretches_nil (w wH wr : World) (p M : Nat) (own : Nat → Nat) (vi vb vw ve : Value) (ibs : List IntB) (bbs : List BitB) (wts : List Wt) (h : St w wH wr p M own vi vb vw ve ibs bbs wts 0) (kd : Int) (s : ByteArray) (c0 c1 c2 q0 q1 q2 : Int) (ba : Option Addr) (bl bc : Nat) (cap : Nat) (z : Int) (fa : Option Addr) (fl fc : Nat)
    (hs : s.size ≤ maxLen) (hwl : wts.length ≤ 90000000) (a0 a1 a2 : Addr) (E0 : Errs w a0 a1 a2) :
    Calls Tryz.prog 27 #[.pointer (some ⟨p, 0, none⟩), .agg #[.int .i64 kd, .string s, .int .i64 c0, .int .i64 c1, .int .i64 c2, .int .u8 q0, .int .u8 q1, .int .u8 q2, .slice ba bl bc, .slice none 0 cap, .int .i64 z, .slice fa fl fc]] wr fun e w' => e = .returned (.bool true) ∧ StW w wH w' p M vb bbs ibs.length (wts.length + 2) := by
  have HNI : ∀ (wx : World), Hid (IntsIn wx none 0 ([] : List Int)) := fun wx => ⟨rfl, .inl rfl⟩
  obtain ⟨W0, hW0⟩ : ∃ W0, W0 = wr.alloc (.cells #[.int .i64 kd, .string s, .int .i64 c0, .int .i64 c1, .int .i64 c2, .int .u8 q0, .int .u8 q1, .int .u8 q2, .slice ba bl bc, .slice none 0 cap, .int .i64 z, .slice fa fl fc] 54) := ⟨_, rfl⟩
  obtain ⟨ob, hob⟩ : ∃ ob, ob = wr.heap.size := ⟨_, rfl⟩
  have hbox : Hid (W0.heap[ob]? = some (.cells #[.int .i64 kd, .string s, .int .i64 c0, .int .i64 c1, .int .i64 c2, .int .u8 q0, .int .u8 q1, .int .u8 q2, .slice ba bl bc, .slice none 0 cap, .int .i64 z, .slice fa fl fc] 54 (0, 0))) := by rw [hW0, hob]; exact heap_alloc_last wr _
  have hst0 : St w wH W0 p M own vi vb vw ve ibs bbs wts 0 := h.below (by rw [hW0]; exact (Below.refl _ _).alloc (Nat.le_refl _) _)
  have HE0 : Hid (Errs W0 a0 a1 a2) := E0.below hst0.bel
  have HST : Hid (St w wH W0 p M own vi vb vw ve ibs bbs wts 0) := hst0
  have HW0 : Hid (W0 = wr.alloc (.cells #[.int .i64 kd, .string s, .int .i64 c0, .int .i64 c1, .int .i64 c2, .int .u8 q0, .int .u8 q1, .int .u8 q2, .slice ba bl bc, .slice none 0 cap, .int .i64 z, .slice fa fl fc] 54)) := hW0
  have HOB : Hid (ob = wr.heap.size) := hob
  have hsp : Hid (w.heap.size ≤ W0.heap.size) := hst0.bel.size
  have j1 := boxCell hbox.out 1 _ rfl
  have j9 := boxCell hbox.out 9 _ rfl
  obtain ⟨EE, hEE⟩ : ∃ EE, strE s [] = EE := ⟨_, rfl⟩
  have HEE : Hid (strE s [] = EE) := hEE
  have HLL : Hid (strL s [] = []) := strL_nil s
  have T1 : Hid True := trivial
  have T2 : Hid True := trivial
  have R1 : Hid True := trivial
  have S1 : Hid True := trivial
  have S2 : Hid True := trivial
  have K1 : Hid True := trivial
  have qn := neqNilInts
  clear h hst0 hW0 hob E0
  by_cases hE : EE = 0
  · subst hE
    clear hEE
    go_enter Tryz.func27, Tryz.ntmps27
    go_upto_region 5 with (first
    | (go_at_call 64; rw [← HW0.out]; refine (lentInts_nil W0 0 cap).mono ?_; rintro e w1 ⟨rfl, hw⟩; rw [hw, ← HOB.out]; clear hw)
    | (clear T1; go_at_call 65; refine (pStretch _ s none 0 0 [] (HNI _).out hs a0 a1 a2 HE0.out).mono ?_; rintro e w2 ⟨vk, rfl, hk1, hk2, _, hb2⟩; rw [HEE.out] at hk2 ⊢; rw [HLL.out] at hk1; obtain ⟨ak, ck, rfl, hak⟩ := shapeI (m := 0) hk1 rfl; have BB2 : Hid (w2.heap[ob]? = some (.cells #[.int .i64 kd, .string s, .int .i64 c0, .int .i64 c1, .int .i64 c2, .int .u8 q0, .int .u8 q1, .int .u8 q2, .slice ba bl bc, .slice none 0 cap, .int .i64 z, .slice fa fl fc] 54 (0, 0))) := blk_below hbox.out hb2; have k2 := boxCell BB2.out 1 _ rfl; have E2 : Hid (Errs w2 a0 a1 a2) := HE0.out.below hb2)
    | (clear T2; go_at_call 65; refine (pStretch _ s none 0 0 [] (HNI _).out hs a0 a1 a2 E2.out).mono ?_; rintro e w3 ⟨vb2, rfl, hbk1, hbk2, _, hb3⟩; rw [HEE.out] at hbk2 ⊢; rw [HLL.out] at hbk1; obtain ⟨ab, cb, rfl, hab⟩ := shapeI (m := 0) hbk1 rfl; have BB3 : Hid (w3.heap[ob]? = some (.cells #[.int .i64 kd, .string s, .int .i64 c0, .int .i64 c1, .int .i64 c2, .int .u8 q0, .int .u8 q1, .int .u8 q2, .slice ba bl bc, .slice none 0 cap, .int .i64 z, .slice fa fl fc] 54 (0, 0))) := blk_below BB2.out hb3; have k3 := boxCell BB3.out 1 _ rfl; have k39 := boxCell BB3.out 9 _ rfl; have E3 : Hid (Errs w3 a0 a1 a2) := E2.out.below hb3)
    | (clear R1; go_at_call 63; refine (refStretch _ s none 0 cap [] (HNI _).out hs).mono ?_; rintro e w4 ⟨⟨vj, rfl, hj1, hj2, _, hb4⟩, hj4⟩; obtain rfl := hj4 _ _ rfl (by rw [HLL.out]; rfl); rw [HEE.out]; have BB4 : Hid (w4.heap[ob]? = some (.cells #[.int .i64 kd, .string s, .int .i64 c0, .int .i64 c1, .int .i64 c2, .int .u8 q0, .int .u8 q1, .int .u8 q2, .slice ba bl bc, .slice none 0 cap, .int .i64 z, .slice fa fl fc] 54 (0, 0))) := blk_below BB3.out hb4; have k4 := boxCell BB4.out 1 _ rfl; have k49 := boxCell BB4.out 9 _ rfl; have E4 : Hid (Errs w4 a0 a1 a2) := E3.out.below hb4; clear hj1 hj2 hj4))
    obtain ⟨rk, rb, oold⟩ := own7_roles own (s1 := W0.heap.size) (s2 := w2.heap.size) (vk := .slice ak 0 ck) (vb := .slice ab 0 cb) (fun k hk => World.ownsRow.lt hk1 k hk) (fun k hk => (World.ownsRow.lt hbk1 k hk).1) hb2.size
    obtain ⟨O, hO⟩ : ∃ O, O = own7 own (.slice ak 0 ck) (.slice ab 0 cb) := ⟨_, rfl⟩
    rw [← hO] at rk rb oold
    have hb04 : Below W0.heap.size W0 w4 := (hb2.trans (hb3.mono hb2.size)).trans (hb4.mono (Nat.le_trans hb2.size hb3.size))
    have h4 : Hid (St w wH w4 p M O vi vb vw ve ibs bbs wts 0) := St.own (HST.out.below hb04) HST.out (fun k hk => oold k hk)
    have F24 : Frm (fun _ => False) w2 w4 := Frm.of_below (hb3.trans (hb4.mono hb3.size))
    have ok4 : Hid (w4.ownsRow w.heap.size 3 1 (.slice ak 0 ck) ([] : List Int).length (ints [])) := owns_base (F24.owns hk1 (fun _ _ e => e)) hsp.out
    have ob4 : Hid (w4.ownsRow w.heap.size 3 1 (.slice ab 0 cb) ([] : List Int).length (ints [])) := owns_base ((Frm.of_below (S := fun _ => False) hb4).owns hbk1 (fun _ _ e => e)) (Nat.le_trans hsp.out hb2.size)
    have RK : Hid (role O (.slice ak 0 ck) 60) := rk
    have RB : Hid (role O (.slice ab 0 cb) 61) := rb
    have HI4 : ∀ (wx : World) (ax : Option Addr), Hid (IntsIn wx ax 0 ([] : List Int)) := fun wx ax => ⟨rfl, .inl rfl⟩
    clear rk rb oold hO hb04 F24 hb2 hb3 hb4 hk1 hbk1 hk2 hbk2 BB2 BB3 k2 k3 k39 E2 E3 HST hbox HE0 j1 j9 HW0 HOB hak hab
    go_wp2_with (first
    | (go_at_call 66; refine (wholeInts_nil _ _ _ 0 cap).mono ?_; rintro e w5 ⟨rfl, hw⟩; rw [hw]; clear hw)
    | (clear S1; go_at_call 30; refine (sameInts_true _ ak none 0 ck 0 [] (HI4 _ _).out (HI4 _ _).out (by omega)).mono ?_; rintro e w6 ⟨rfl, hb6⟩; have BB6 : Hid (w6.heap[ob]? = some (.cells #[.int .i64 kd, .string s, .int .i64 c0, .int .i64 c1, .int .i64 c2, .int .u8 q0, .int .u8 q1, .int .u8 q2, .slice ba bl bc, .slice none 0 cap, .int .i64 z, .slice fa fl fc] 54 (0, 0))) := blk_below BB4.out hb6)
    | (clear S2; go_at_call 30; refine (sameInts_true _ ab none 0 cb 0 [] (HI4 _ _).out (HI4 _ _).out (by omega)).mono ?_; rintro e w7 ⟨rfl, hb7⟩; have BB7 : Hid (w7.heap[ob]? = some (.cells #[.int .i64 kd, .string s, .int .i64 c0, .int .i64 c1, .int .i64 c2, .int .u8 q0, .int .u8 q1, .int .u8 q2, .slice ba bl bc, .slice none 0 cap, .int .i64 z, .slice fa fl fc] 54 (0, 0))) := blk_below BB6.out hb7; have k7 := boxCell BB7.out 1 _ rfl; have E7 : Hid (Errs w7 a0 a1 a2) := (E4.out.below hb6).below hb7)
    | (go_at_call 65; refine (pStretch _ s none 0 0 [] (HNI _).out hs a0 a1 a2 E7.out).mono ?_; rintro e w9 ⟨vx, rfl, hx1, _, _, hb9⟩; rw [HEE.out]; rw [HLL.out] at hx1; obtain ⟨ax, cx, rfl, _⟩ := shapeI (m := 0) hx1 rfl; have BB9 : Hid (w9.heap[ob]? = some (.cells #[.int .i64 kd, .string s, .int .i64 c0, .int .i64 c1, .int .i64 c2, .int .u8 q0, .int .u8 q1, .int .u8 q2, .slice ba bl bc, .slice none 0 cap, .int .i64 z, .slice fa fl fc] 54 (0, 0))) := blk_below BB7.out hb9; have k9 := boxCell BB9.out 1 _ rfl; clear hx1)
    | (go_at_call 63; refine (refStretch _ s none 0 0 [] (HNI _).out hs).mono ?_; rintro e w10 ⟨⟨vy, rfl, hy1, _, _, hb10⟩, hy4⟩; obtain rfl := hy4 _ _ rfl (by rw [HLL.out]; rfl); rw [HEE.out]; clear hy1 hy4)
    | (go_at_call 30; refine (sameInts_true _ ax none 0 cx 0 [] (HI4 _ _).out (HI4 _ _).out (by omega)).mono ?_; rintro e w11 ⟨rfl, hb11⟩; have hb47 : Below w4.heap.size w4 w7 := hb6.trans (hb7.mono hb6.size); have hb49 : Below w4.heap.size w4 w9 := hb47.trans (hb9.mono hb47.size); have hb410 : Below w4.heap.size w4 w10 := hb49.trans (hb10.mono hb49.size); have hb411 : Hid (Below w4.heap.size w4 w11) := hb410.trans (hb11.mono hb410.size))
    | (go_at_call 57; refine (num_any _ _).mono ?_; rintro e w19 ⟨rfl, hw⟩; rw [hw]; clear hw)
    | (clear K1; go_at_call 67; refine (keep_two (h4.out.below hb411.out) (ownsB ok4.out hb411.out) (ownsB ob4.out hb411.out) RK.out RB.out hwl).mono ?_; rintro e w12 ⟨rfl, hkk⟩)
    | (go_at_call 67; refine hkk.mono ?_; rintro e w13 ⟨rfl, hfin⟩))
    go_ret
    exact ⟨rfl, hfin⟩
  · have HNE : Hid (EE ≠ 0) := hE
    have hEn : (EE != 0) = true := by simpa using hE
    clear hE hEE
    go_enter Tryz.func27, Tryz.ntmps27
    go_upto_region 5 with (first
    | (go_at_call 64; rw [← HW0.out]; refine (lentInts_nil W0 0 cap).mono ?_; rintro e w1 ⟨rfl, hw⟩; rw [hw, ← HOB.out]; clear hw)
    | (clear T1; go_at_call 65; refine (pStretch _ s none 0 0 [] (HNI _).out hs a0 a1 a2 HE0.out).mono ?_; rintro e w2 ⟨vk, rfl, hk1, hk2, _, hb2⟩; rw [HEE.out] at hk2 ⊢; rw [HLL.out] at hk1; obtain rfl := hk2 HNE.out; have BB2 : Hid (w2.heap[ob]? = some (.cells #[.int .i64 kd, .string s, .int .i64 c0, .int .i64 c1, .int .i64 c2, .int .u8 q0, .int .u8 q1, .int .u8 q2, .slice ba bl bc, .slice none 0 cap, .int .i64 z, .slice fa fl fc] 54 (0, 0))) := blk_below hbox.out hb2; have k2 := boxCell BB2.out 1 _ rfl; have E2 : Hid (Errs w2 a0 a1 a2) := HE0.out.below hb2)
    | (clear T2; go_at_call 65; refine (pStretch _ s none 0 0 [] (HNI _).out hs a0 a1 a2 E2.out).mono ?_; rintro e w3 ⟨vb2, rfl, hbk1, hbk2, _, hb3⟩; rw [HEE.out] at hbk2 ⊢; rw [HLL.out] at hbk1; obtain rfl := hbk2 HNE.out; have BB3 : Hid (w3.heap[ob]? = some (.cells #[.int .i64 kd, .string s, .int .i64 c0, .int .i64 c1, .int .i64 c2, .int .u8 q0, .int .u8 q1, .int .u8 q2, .slice ba bl bc, .slice none 0 cap, .int .i64 z, .slice fa fl fc] 54 (0, 0))) := blk_below BB2.out hb3; have k3 := boxCell BB3.out 1 _ rfl; have k39 := boxCell BB3.out 9 _ rfl; have E3 : Hid (Errs w3 a0 a1 a2) := E2.out.below hb3)
    | (clear R1; go_at_call 63; refine (refStretch _ s none 0 cap [] (HNI _).out hs).mono ?_; rintro e w4 ⟨⟨vj, rfl, hj1, hj2, _, hb4⟩, hj4⟩; obtain rfl := hj4 _ _ rfl (by rw [HLL.out]; rfl); rw [HEE.out]; have BB4 : Hid (w4.heap[ob]? = some (.cells #[.int .i64 kd, .string s, .int .i64 c0, .int .i64 c1, .int .i64 c2, .int .u8 q0, .int .u8 q1, .int .u8 q2, .slice ba bl bc, .slice none 0 cap, .int .i64 z, .slice fa fl fc] 54 (0, 0))) := blk_below BB3.out hb4; have k4 := boxCell BB4.out 1 _ rfl; have k49 := boxCell BB4.out 9 _ rfl; have E4 : Hid (Errs w4 a0 a1 a2) := E3.out.below hb4; clear hj1 hj2 hj4))
    obtain ⟨rk, rb, oold⟩ := own7_roles own (s1 := W0.heap.size) (s2 := w2.heap.size) (vk := .slice none 0 0) (vb := .slice none 0 0) (fun k hk => World.ownsRow.lt hk1 k hk) (fun k hk => (World.ownsRow.lt hbk1 k hk).1) hb2.size
    obtain ⟨O, hO⟩ : ∃ O, O = own7 own (.slice none 0 0) (.slice none 0 0) := ⟨_, rfl⟩
    rw [← hO] at rk rb oold
    have hb04 : Below W0.heap.size W0 w4 := (hb2.trans (hb3.mono hb2.size)).trans (hb4.mono (Nat.le_trans hb2.size hb3.size))
    have h4 : Hid (St w wH w4 p M O vi vb vw ve ibs bbs wts 0) := St.own (HST.out.below hb04) HST.out (fun k hk => oold k hk)
    have F24 : Frm (fun _ => False) w2 w4 := Frm.of_below (hb3.trans (hb4.mono hb3.size))
    have ok4 : Hid (w4.ownsRow w.heap.size 3 1 (.slice none 0 0) ([] : List Int).length (ints [])) := owns_base (F24.owns hk1 (fun _ _ e => e)) hsp.out
    have ob4 : Hid (w4.ownsRow w.heap.size 3 1 (.slice none 0 0) ([] : List Int).length (ints [])) := owns_base ((Frm.of_below (S := fun _ => False) hb4).owns hbk1 (fun _ _ e => e)) (Nat.le_trans hsp.out hb2.size)
    have RK : Hid (role O (.slice none 0 0) 60) := rk
    have RB : Hid (role O (.slice none 0 0) 61) := rb
    have HI4 : ∀ (wx : World) (ax : Option Addr), Hid (IntsIn wx ax 0 ([] : List Int)) := fun wx ax => ⟨rfl, .inl rfl⟩
    clear rk rb oold hO hb04 F24 hb2 hb3 hb4 hk1 hbk1 hk2 hbk2 BB2 BB3 k2 k3 k39 E2 E3 HST hbox HE0 j1 j9 HW0 HOB
    go_wp2_with (first
    | (go_at_call 66; refine (wholeInts_nil _ _ _ 0 cap).mono ?_; rintro e w5 ⟨rfl, hw⟩; rw [hw]; clear hw)
    | (clear S1; go_at_call 30; refine (sameInts_true _ none none 0 0 0 [] (HI4 _ _).out (HI4 _ _).out (by omega)).mono ?_; rintro e w6 ⟨rfl, hb6⟩; have BB6 : Hid (w6.heap[ob]? = some (.cells #[.int .i64 kd, .string s, .int .i64 c0, .int .i64 c1, .int .i64 c2, .int .u8 q0, .int .u8 q1, .int .u8 q2, .slice ba bl bc, .slice none 0 cap, .int .i64 z, .slice fa fl fc] 54 (0, 0))) := blk_below BB4.out hb6)
    | (clear S2; go_at_call 30; refine (sameInts_true _ none none 0 0 0 [] (HI4 _ _).out (HI4 _ _).out (by omega)).mono ?_; rintro e w7 ⟨rfl, hb7⟩; have BB7 : Hid (w7.heap[ob]? = some (.cells #[.int .i64 kd, .string s, .int .i64 c0, .int .i64 c1, .int .i64 c2, .int .u8 q0, .int .u8 q1, .int .u8 q2, .slice ba bl bc, .slice none 0 cap, .int .i64 z, .slice fa fl fc] 54 (0, 0))) := blk_below BB6.out hb7; have k7 := boxCell BB7.out 1 _ rfl; have E7 : Hid (Errs w7 a0 a1 a2) := (E4.out.below hb6).below hb7)
    | (go_at_call 65; refine (pStretch _ s none 0 0 [] (HNI _).out hs a0 a1 a2 E7.out).mono ?_; rintro e w9 ⟨vx, rfl, hx1, _, _, hb9⟩; rw [HEE.out]; rw [HLL.out] at hx1; obtain ⟨ax, cx, rfl, _⟩ := shapeI (m := 0) hx1 rfl; have BB9 : Hid (w9.heap[ob]? = some (.cells #[.int .i64 kd, .string s, .int .i64 c0, .int .i64 c1, .int .i64 c2, .int .u8 q0, .int .u8 q1, .int .u8 q2, .slice ba bl bc, .slice none 0 cap, .int .i64 z, .slice fa fl fc] 54 (0, 0))) := blk_below BB7.out hb9; have k9 := boxCell BB9.out 1 _ rfl; clear hx1)
    | (go_at_call 63; refine (refStretch _ s none 0 0 [] (HNI _).out hs).mono ?_; rintro e w10 ⟨⟨vy, rfl, hy1, _, _, hb10⟩, hy4⟩; obtain rfl := hy4 _ _ rfl (by rw [HLL.out]; rfl); rw [HEE.out]; clear hy1 hy4)
    | (go_at_call 30; refine (sameInts_true _ ax none 0 cx 0 [] (HI4 _ _).out (HI4 _ _).out (by omega)).mono ?_; rintro e w11 ⟨rfl, hb11⟩; have hb47 : Below w4.heap.size w4 w7 := hb6.trans (hb7.mono hb6.size); have hb49 : Below w4.heap.size w4 w9 := hb47.trans (hb9.mono hb47.size); have hb410 : Below w4.heap.size w4 w10 := hb49.trans (hb10.mono hb49.size); have hb411 : Hid (Below w4.heap.size w4 w11) := hb410.trans (hb11.mono hb410.size))
    | (go_at_call 57; refine (num_any _ _).mono ?_; rintro e w19 ⟨rfl, hw⟩; rw [hw]; clear hw)
    | (clear K1; go_at_call 67; refine (keep_two (h4.out.below hb411.out) (ownsB ok4.out hb411.out) (ownsB ob4.out hb411.out) RK.out RB.out hwl).mono ?_; rintro e w12 ⟨rfl, hkk⟩)
    | (go_at_call 67; refine hkk.mono ?_; rintro e w13 ⟨rfl, hfin⟩))
    go_ret
    exact ⟨rfl, hfin⟩

end Go.Proofs.YtekfbphnoibnjaaGreatDoor
