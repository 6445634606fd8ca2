/-
  Bits are marked, a list waits: what stands then.
-/
import Derived.Test.YtbabcphjddchkaaGreatDoorLin2
namespace Go.Proofs.YtbabcphjddchkaaGreatDoor
open Go.RowKit

theorem St.bits {w wH wr wr' : World} {p M : Nat} {own : Nat → Nat} {vi vb vw ve : Value} {ibs : List IntB} {bbs : List BitB} {wts : List Wt} {d n g r : Nat} (h : St w wH wr p M own vi vb vw ve ibs bbs wts d)
    (hm : MarkedBits wr wr' w.heap.size p M (bookVs vi vb vw ve) vb g n bbs.length (bbCells bbs)) (hr : own g = r) (fr : Free r) (hdr : ∀ i, d ≤ i → i < wts.length → r ≠ 100 + i) (n9 : n ≤ 900000000) (hg : g < wr.heap.size) :
    ∃ own' vb' x, St w wH wr' p (M + 1) own' vi vb' vw ve ibs (bbs ++ [x]) wts d := by
  obtain ⟨gi, ci, hbk, hob, fl, ai, hgp, hgg, hfr⟩ := hm
  obtain ⟨lti, ltb, ltw, lte⟩ := h.role_lt
  obtain ⟨own', hown⟩ : ∃ own' : Nat → Nat, own' = fun k => if k = g then 10 else if k = gi then 3 else own k := ⟨_, rfl⟩
  have key : ∀ k, k < wr.heap.size → own k ≠ r → own' k = own k := fun k hk hkr => by
    rw [hown]
    show (if k = g then 10 else if k = gi then 3 else own k) = own k
    rw [if_neg (fun e => hkr (by rw [e]; exact hr))]
    by_cases hk2 : k = gi
    · rw [if_pos hk2]
      rcases ai with ai | ai
      · rw [hk2]; exact (h.rb gi ai).symm
      · omega
    · rw [if_neg hk2]
  have nS : ∀ k, own k ≠ 0 → own k ≠ r → own k ≠ 3 → ¬ (k = p ∨ k = g ∨ vb.ownBlock = some k) := fun k k0 kr k2 e => by
    rcases e with e | e | e
    · exact k0 (by rw [e]; exact h.op)
    · exact kr (by rw [e]; exact hr)
    · exact k2 (h.rb k e)
  have s10 : ∀ k, own k = 10 → ¬ (k = p ∨ k = g ∨ vb.ownBlock = some k) := fun k e => nS k (by omega) (by have := fr.n10; omega) (by omega)
  have k10 : ∀ k, k < wr.heap.size → own k = 10 → own' k = 10 := fun k hk e => (key k hk (by have := fr.n10; omega)).trans e
  have hk0 : own p ≠ r := by rw [h.op]; exact fun e => fr.n0 e.symm
  have hsz : wr.heap.size ≤ wr'.heap.size := hfr.size
  refine ⟨own', .slice (some ⟨gi, 0, none⟩) (bbs.length + 1) ci, ⟨-((M : Int) + 1), n, .slice (some ⟨g, 0, none⟩) n n⟩, ?_⟩
  refine ⟨hbk, hfr.owns h.oi (fun k hk => nS k (by have := h.ri k hk; omega) (by have := h.ri k hk; have := fr.n2; omega) (by have := h.ri k hk; omega)), ?_, hfr.owns h.ow (fun k hk => nS k (by have := h.rw' k hk; omega) (by have := h.rw' k hk; have := fr.n4; omega) (by have := h.rw' k hk; omega)), hfr.owns h.oe (fun k hk => nS k (by have := h.re k hk; omega) (by have := h.re k hk; have := fr.n5; omega) (by have := h.re k hk; omega)), ?_, ?_, ?_, ?_, ?_, ?_, ?_, ?_, ?_, ?_, ?_, ?_, h.hp, h.hw⟩
  · rw [bbCells_snoc, List.length_append]; exact hob
  · exact h.ri.congr (fun k hk => key k (lti k hk) (by rw [h.ri k hk]; exact fun e => fr.n2 e.symm))
  · intro k hk
    simp [Value.ownBlock] at hk
    subst hk
    rw [hown]
    show (if gi = g then 10 else if gi = gi then 3 else _) = 3
    rw [if_neg hgg, if_pos rfl]
  · exact h.rw'.congr (fun k hk => key k (ltw k hk) (by rw [h.rw' k hk]; exact fun e => fr.n4 e.symm))
  · exact h.re.congr (fun k hk => key k (lte k hk) (by rw [h.re k hk]; exact fun e => fr.n5 e.symm))
  · exact fun x hx => (h.ib x hx).frm hfr s10 k10
  · intro x hx
    rw [List.mem_append] at hx
    rcases hx with hx | hx
    · exact (h.bb x hx).frm hfr s10 k10
    · simp at hx
      subst hx
      refine ⟨fl, fun k hk => ?_, n9, fun k hk => ?_⟩
      · simp [Value.ownBlock] at hk
        subst hk
        rw [hown]
        show (if g = g then 10 else _) = 10
        rw [if_pos rfl]
      · simp [Value.ownBlock] at hk
        omega
  · intro i x hx hi
    have hil : i < wts.length := (List.getElem?_eq_some_iff.1 hx).1
    have hri := hdr i hi hil
    refine (h.wt i x hx hi).frm hfr (fun k hk => ?_) (fun k hk hkk => ?_)
    · rcases hk with hk | hk
      · exact s10 k hk
      · exact nS k (by omega) (by omega) (by omega)
    · rcases hkk with hkk | hkk
      · exact key k hk (by have := fr.n10; omega)
      · exact key k hk (by omega)
  · exact (key p h.bk.up hk0).trans h.op
  · intro k hk hkp
    exact (key k (Nat.lt_of_lt_of_le hk h.sz) (by rw [h.o1 k hk hkp]; exact fun e => fr.n1 e.symm)).trans (h.o1 k hk hkp)
  · exact Nat.le_trans h.sz hsz
  · intro k hk hkp
    have o1 := h.o1 k hk hkp
    exact (hfr.block k (Nat.lt_of_lt_of_le hk h.sz) (nS k (by omega) (by have := fr.n1; omega) (by omega))).trans (h.kept k hk hkp)
  · refine h.bel.trans (hfr.below h.bel.size (fun k hk => ?_))
    rcases hk with rfl | rfl | hk
    · rw [h.hp]; exact Nat.le_refl _
    · rcases Nat.lt_or_ge k w.heap.size with h' | h'
      · have := h.o1 k (Nat.lt_trans h' h.hw) (by have := h.hp; omega)
        have := fr.n1
        omega
      · exact h'
    · exact (World.ownsRow.lt h.ob k hk).1

theorem St.keep {w wH wr wr' : World} {p M : Nat} {own : Nat → Nat} {vi vb vw ve : Value} {ibs : List IntB} {bbs : List BitB} {wts : List Wt} {r : Nat} {vl : Value} {zs : List Int} (h : St w wH wr p M own vi vb vw ve ibs bbs wts 0)
    (hm : KeptInts wr wr' w.heap.size p M (bookVs vi vb vw ve) vw ve wts.length wts.length (wts.map (·.l)) (wts.map (·.y)) vl zs.length zs) (hr : role own vl r) (fr : Free r) (hdr : ∀ i, i < wts.length → r ≠ 100 + i) (n9 : zs.length ≤ 900000000)
    (hol : wr.ownsRow w.heap.size 3 1 vl zs.length (ints zs)) :
    ∃ own' vw' ve' x, St w wH wr' p M own' vi vb vw' ve' ibs bbs (wts ++ [x]) 0 ∧ (∀ k, k < wr.heap.size → own k ≠ r → own' k = own k) ∧ Frm (keepS p vw ve) wr wr' := by
  obtain ⟨gw, cw, ge, ce, y, hbk, how, hoe, hoy, aw, ae, hwe, hwp, hep, hyw, hye, hfr⟩ := hm
  obtain ⟨lti, ltb, ltw, lte⟩ := h.role_lt
  have hvl : ∀ k, vl.ownBlock = some k → k < wr.heap.size := fun k hk => (World.ownsRow.lt hol k hk).2
  have hyl : ∀ k, y.ownBlock = some k → wr.heap.size ≤ k := fun k hk => (World.ownsRow.lt hoy k hk).1
  obtain ⟨own', hown⟩ : ∃ own' : Nat → Nat, own' = fun k => if vl.ownBlock = some k then 100 + wts.length else if k = gw then 4 else if k = ge then 5 else if y.ownBlock = some k then 10 else own k := ⟨_, rfl⟩
  have key : ∀ k, k < wr.heap.size → own k ≠ r → own' k = own k := fun k hk hkr => by
    rw [hown]
    show (if vl.ownBlock = some k then 100 + wts.length else if k = gw then 4 else if k = ge then 5 else if y.ownBlock = some k then 10 else own k) = own k
    rw [if_neg (fun e => hkr (hr k e))]
    by_cases hk2 : k = gw
    · rw [if_pos hk2]
      rcases aw with aw | aw
      · rw [hk2]; exact (h.rw' gw aw).symm
      · omega
    · rw [if_neg hk2]
      by_cases hk3 : k = ge
      · rw [if_pos hk3]
        rcases ae with ae | ae
        · rw [hk3]; exact (h.re ge ae).symm
        · omega
      · rw [if_neg hk3, if_neg (fun e => by have := hyl k e; omega)]
  have nS : ∀ k, own k ≠ 0 → own k ≠ 4 → own k ≠ 5 → ¬ keepS p vw ve k := fun k k0 k4 k5 e => by
    rcases e with e | e | e
    · exact k0 (by rw [e]; exact h.op)
    · exact k4 (h.rw' k e)
    · exact k5 (h.re k e)
  have s10 : ∀ k, own k = 10 → ¬ keepS p vw ve k := fun k e => nS k (by omega) (by omega) (by omega)
  have k10 : ∀ k, k < wr.heap.size → own k = 10 → own' k = 10 := fun k hk e => (key k hk (by have := fr.n10; omega)).trans e
  have hk0 : own p ≠ r := by rw [h.op]; exact fun e => fr.n0 e.symm
  have hsz : wr.heap.size ≤ wr'.heap.size := hfr.size
  have hnl : ∀ g s, (∀ k, vl.ownBlock = some k → own k ≠ s) → (own g = s ∨ wr.heap.size ≤ g) → vl.ownBlock ≠ some g := fun g s h1 h2 e => by
    rcases h2 with h2 | h2
    · exact h1 g e h2
    · have := hvl g e; omega
  have hlw : vl.ownBlock ≠ some gw := hnl gw 4 (fun k hk => by rw [hr k hk]; exact fr.n4) (aw.imp (fun e => h.rw' gw e) id)
  have hle : vl.ownBlock ≠ some ge := hnl ge 5 (fun k hk => by rw [hr k hk]; exact fr.n5) (ae.imp (fun e => h.re ge e) id)
  refine ⟨own', .slice (some ⟨gw, 0, none⟩) (wts.length + 1) cw, .slice (some ⟨ge, 0, none⟩) (wts.length + 1) ce, ⟨vl, y, zs⟩, ?_, key, hfr⟩
  refine ⟨hbk, hfr.owns h.oi (fun k hk => nS k (by have := h.ri k hk; omega) (by have := h.ri k hk; omega) (by have := h.ri k hk; omega)), hfr.owns h.ob (fun k hk => nS k (by have := h.rb k hk; omega) (by have := h.rb k hk; omega) (by have := h.rb k hk; omega)), ?_, ?_, ?_, ?_, ?_, ?_, ?_, ?_, ?_, ?_, ?_, ?_, ?_, ?_, h.hp, h.hw⟩
  · rw [List.length_append, List.map_append]; exact how
  · rw [List.length_append, List.map_append]; exact hoe
  · exact h.ri.congr (fun k hk => key k (lti k hk) (by rw [h.ri k hk]; exact fun e => fr.n2 e.symm))
  · exact h.rb.congr (fun k hk => key k (ltb k hk) (by rw [h.rb k hk]; exact fun e => fr.n3 e.symm))
  · intro k hk
    simp [Value.ownBlock] at hk
    subst hk
    rw [hown]
    show (if vl.ownBlock = some gw then 100 + wts.length else if gw = gw then 4 else _) = 4
    rw [if_neg hlw, if_pos rfl]
  · intro k hk
    simp [Value.ownBlock] at hk
    subst hk
    rw [hown]
    show (if vl.ownBlock = some ge then 100 + wts.length else if ge = gw then 4 else if ge = ge then 5 else _) = 5
    rw [if_neg hle, if_neg (fun e => hwe e.symm), if_pos rfl]
  · exact fun x hx => (h.ib x hx).frm hfr s10 k10
  · exact fun x hx => (h.bb x hx).frm hfr s10 k10
  · intro i x hx _
    rcases Nat.lt_or_ge i wts.length with hil | hil
    · rw [List.getElem?_append_left hil] at hx
      have hri := hdr i hil
      refine (h.wt i x hx (Nat.zero_le _)).frm hfr (fun k hk => ?_) (fun k hk hkk => ?_)
      · rcases hk with hk | hk
        · exact s10 k hk
        · exact nS k (by omega) (by omega) (by omega)
      · rcases hkk with hkk | hkk
        · exact key k hk (by have := fr.n10; omega)
        · exact key k hk (by omega)
    · rw [List.getElem?_append_right hil] at hx
      have hi0 : i - wts.length = 0 := by
        rcases Nat.eq_zero_or_pos (i - wts.length) with h' | h'
        · exact h'
        · rw [List.getElem?_eq_none (by simp; omega)] at hx; cases hx
      rw [hi0] at hx
      simp at hx
      subst hx
      have hi : i = wts.length := by omega
      subst hi
      refine ⟨hfr.owns hol (fun k hk => nS k (by rw [hr k hk]; exact fr.n0) (by rw [hr k hk]; exact fr.n4) (by rw [hr k hk]; exact fr.n5)), owns_base hoy h.bel.size, fun k hk => ?_, fun k hk => ?_, n9⟩
      · rw [hown]
        show (if vl.ownBlock = some k then 100 + wts.length else _) = 100 + wts.length
        rw [if_pos hk]
      · rw [hown]
        have h1 := hyl k hk
        show (if vl.ownBlock = some k then 100 + wts.length else if k = gw then 4 else if k = ge then 5 else if y.ownBlock = some k then 10 else own k) = 10
        rw [if_neg (fun e => by have := hvl k e; omega), if_neg (fun e => hyw (by rw [hk, e])), if_neg (fun e => hye (by rw [hk, e])), if_pos hk]
  · exact (key p h.bk.up hk0).trans h.op
  · intro k hk hkp
    exact (key k (Nat.lt_of_lt_of_le hk h.sz) (by rw [h.o1 k hk hkp]; exact fun e => fr.n1 e.symm)).trans (h.o1 k hk hkp)
  · exact Nat.le_trans h.sz hsz
  · intro k hk hkp
    have o1 := h.o1 k hk hkp
    exact (hfr.block k (Nat.lt_of_lt_of_le hk h.sz) (nS k (by omega) (by omega) (by omega))).trans (h.kept k hk hkp)
  · refine h.bel.trans (hfr.below h.bel.size (fun k hk => ?_))
    rcases hk with rfl | hk | hk
    · rw [h.hp]; exact Nat.le_refl _
    · exact (World.ownsRow.lt h.ow k hk).1
    · exact (World.ownsRow.lt h.oe k hk).1

/-- A new role for a block that is no old one. -/
theorem St.own {w wH wr : World} {p M : Nat} {own own' : Nat → Nat} {vi vb vw ve : Value} {ibs : List IntB} {bbs : List BitB} {wts : List Wt} {d : Nat} (h : St w wH wr p M own vi vb vw ve ibs bbs wts d) {wo : World} (ho : St w wH wo p M own vi vb vw ve ibs bbs wts d) (hc : ∀ k, k < wo.heap.size → own' k = own k) : St w wH wr p M own' vi vb vw ve ibs bbs wts d := by
  obtain ⟨lti, ltb, ltw, lte⟩ := ho.role_lt
  refine ⟨h.bk, h.oi, h.ob, h.ow, h.oe, h.ri.congr (fun k hk => hc k (lti k hk)), h.rb.congr (fun k hk => hc k (ltb k hk)), h.rw'.congr (fun k hk => hc k (ltw k hk)), h.re.congr (fun k hk => hc k (lte k hk)), fun x hx => ?_, fun x hx => ?_, fun i x hx hd => ?_, (hc p ho.bk.up).trans h.op, fun k hk hkp => (hc k (Nat.lt_of_lt_of_le hk ho.sz)).trans (h.o1 k hk hkp), h.sz, h.kept, h.bel, h.hp, h.hw⟩
  · have a := h.ib x hx
    have b := ho.ib x hx
    exact ⟨a.fl, a.f1, a.f2, a.f3, a.rl.congr (fun k hk => hc k (b.bl k hk)), a.r1.congr (fun k hk => hc k (fill_lt b.f1 (Nat.succ_pos _) (List.cons_ne_nil _ _) k hk)), a.r2.congr (fun k hk => hc k (fill_lt b.f2 (Nat.succ_pos _) (List.cons_ne_nil _ _) k hk)), a.r3.congr (fun k hk => hc k (fill_lt b.f3 (Nat.succ_pos _) (List.cons_ne_nil _ _) k hk)), a.n9, a.bl⟩
  · have a := h.bb x hx
    have b := ho.bb x hx
    exact ⟨a.fl, a.rl.congr (fun k hk => hc k (b.bl k hk)), a.n9, a.bl⟩
  · have a := h.wt i x hx hd
    have b := ho.wt i x hx hd
    exact ⟨a.ol, a.oy, a.rl.congr (fun k hk => hc k (World.ownsRow.lt b.ol k hk).2), a.ry.congr (fun k hk => hc k (World.ownsRow.lt b.oy k hk).2), a.n9⟩

end Go.Proofs.YtbabcphjddchkaaGreatDoor
