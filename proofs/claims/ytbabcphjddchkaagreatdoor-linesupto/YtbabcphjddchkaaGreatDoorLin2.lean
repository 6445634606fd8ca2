/-
  A list is marked, bits are marked, a list waits: what stands then.
-/
import Derived.Test.YtbabcphjddchkaaGreatDoorLin
namespace Go.Proofs.YtbabcphjddchkaaGreatDoor
open Go.RowKit

/-- A role that none of the book's own has. -/
structure Free (r : Nat) : Prop where
  n0 : r ≠ 0
  n1 : r ≠ 1
  n2 : r ≠ 2
  n3 : r ≠ 3
  n4 : r ≠ 4
  n5 : r ≠ 5
  n10 : r ≠ 10

theorem St.mark {w wH wr wr' : World} {p M : Nat} {own : Nat → Nat} {vi vb vw ve : Value} {ibs : List IntB} {bbs : List BitB} {wts : List Wt} {d d' n r : Nat} {vl : Value} (h : St w wH wr p M own vi vb vw ve ibs bbs wts d)
    (hm : MarkedInts wr wr' w.heap.size p M (bookVs vi vb vw ve) vi vl ibs.length n (ibCells ibs)) (hr : role own vl r) (fr : Free r) (hd : d ≤ d') (hdr : ∀ i, d' ≤ i → i < wts.length → r ≠ 100 + i) (n9 : n ≤ 900000000) (hvl : ∀ k, vl.ownBlock = some k → k < wr.heap.size) :
    ∃ own' vi' x, St w wH wr' p (M + 1) own' vi' vb vw ve (ibs ++ [x]) bbs wts d' ∧ (∀ k, k < wr.heap.size → own k ≠ r → own' k = own k) ∧ Fill wr' vl n [.int .i64 (-((M : Int) + 1))] ∧ Frm (markS p vl vi) wr wr' := by
  obtain ⟨gi, ci, g1, e1, g2, e2, g3, e3, hbk, hoi, fl, f1, f2, f3, ai, a1, a2, a3, ⟨i1, i2, i3⟩, hgp, hlg, hfr⟩ := hm
  obtain ⟨lti, ltb, ltw, lte⟩ := h.role_lt
  obtain ⟨own', hown⟩ : ∃ own' : Nat → Nat, own' = fun k => if vl.ownBlock = some k then 10 else if k = gi then 2 else if k = g1 ∨ k = g2 ∨ k = g3 then 10 else own k := ⟨_, rfl⟩
  have nvl : ∀ k, own k ≠ r → vl.ownBlock ≠ some k := fun k hk e => hk (hr k e)
  have ng : ∀ g, (vl.ownBlock = some g ∨ wr.heap.size ≤ g) → ∀ k, k < wr.heap.size → own k ≠ r → k ≠ g := fun g hg k hk hkr e => by
    rcases hg with hg | hg
    · exact hkr (by rw [e]; exact hr g hg)
    · omega
  have key : ∀ k, k < wr.heap.size → own k ≠ r → own' k = own k := fun k hk hkr => by
    rw [hown]
    show (if vl.ownBlock = some k then 10 else if k = gi then 2 else if k = g1 ∨ k = g2 ∨ k = g3 then 10 else own k) = own k
    rw [if_neg (nvl k hkr)]
    by_cases hk2 : k = gi
    · rw [if_pos hk2]
      rcases ai with ai | ai
      · rw [hk2]; exact (h.ri gi ai).symm
      · omega
    · rw [if_neg hk2, if_neg (fun e => by rcases e with e | e | e; exact ng g1 a1 k hk hkr e; exact ng g2 a2 k hk hkr e; exact ng g3 a3 k hk hkr e)]
  have nS : ∀ k, own k ≠ 0 → own k ≠ r → own k ≠ 2 → ¬ markS p vl vi k := fun k k0 kr k2 e => by
    rcases e with e | e | e
    · exact k0 (by rw [e]; exact h.op)
    · exact kr (hr k e)
    · exact k2 (h.ri k e)
  have s10 : ∀ k, own k = 10 → ¬ markS p vl vi k := fun k e => nS k (by omega) (by have := fr.n10; omega) (by omega)
  have k10 : ∀ k, k < wr.heap.size → own k = 10 → own' k = 10 := fun k hk e => (key k hk (by have := fr.n10; omega)).trans e
  have hnew : ∀ g e, (vl.ownBlock = some g ∨ wr.heap.size ≤ g) → gi ≠ g → (g = g1 ∨ g = g2 ∨ g = g3) → role own' (.slice (some ⟨g, 0, none⟩) e e) 10 := fun g e hg hne h3 k hk => by
    simp [Value.ownBlock] at hk
    subst hk
    rw [hown]
    show (if vl.ownBlock = some g then 10 else if g = gi then 2 else if g = g1 ∨ g = g2 ∨ g = g3 then 10 else own g) = 10
    by_cases hv : vl.ownBlock = some g
    · rw [if_pos hv]
    · rw [if_neg hv, if_neg (fun e => hne e.symm), if_pos h3]
  have rof : ∀ (g a b a' b' : Nat), role own' (.slice (some ⟨g, 0, none⟩) a b) 10 → role own' (.slice (some ⟨g, 0, none⟩) a' b') 10 := fun g a b a' b' hh k hk => hh k (by simpa [Value.ownBlock] using hk)
  refine ⟨own', .slice (some ⟨gi, 0, none⟩) (ibs.length + 1) ci, ⟨-((M : Int) + 1), n, vl, .slice (some ⟨g1, 0, none⟩) (n + 1) e1, .slice (some ⟨g2, 0, none⟩) (n + 2) e2, .slice (some ⟨g3, 0, none⟩) (n + 3) e3⟩, ?_, key, fl, hfr⟩
  have hk0 : own p ≠ r := by rw [h.op]; exact fun e => fr.n0 e.symm
  have hsz : wr.heap.size ≤ wr'.heap.size := hfr.size
  refine ⟨hbk, ?_, hfr.owns h.ob (fun k hk => nS k (by have := h.rb k hk; omega) (by have := h.rb k hk; have := fr.n3; omega) (by have := h.rb k hk; omega)), hfr.owns h.ow (fun k hk => nS k (by have := h.rw' k hk; omega) (by have := h.rw' k hk; have := fr.n4; omega) (by have := h.rw' k hk; omega)), hfr.owns h.oe (fun k hk => nS k (by have := h.re k hk; omega) (by have := h.re k hk; have := fr.n5; omega) (by have := h.re k hk; omega)), ?_, ?_, ?_, ?_, ?_, ?_, ?_, ?_, ?_, ?_, ?_, ?_, h.hp, h.hw⟩
  · rw [ibCells_snoc, List.length_append]; exact hoi
  · intro k hk
    simp [Value.ownBlock] at hk
    subst hk
    rw [hown]
    show (if vl.ownBlock = some gi then 10 else if gi = gi then 2 else _) = 2
    rw [if_neg hlg, if_pos rfl]
  · exact h.rb.congr (fun k hk => key k (ltb k hk) (by rw [h.rb k hk]; exact fun e => fr.n3 e.symm))
  · exact h.rw'.congr (fun k hk => key k (ltw k hk) (by rw [h.rw' k hk]; exact fun e => fr.n4 e.symm))
  · exact h.re.congr (fun k hk => key k (lte k hk) (by rw [h.re k hk]; exact fun e => fr.n5 e.symm))
  · intro x hx
    rw [List.mem_append] at hx
    rcases hx with hx | hx
    · exact (h.ib x hx).frm hfr s10 k10
    · simp at hx
      subst hx
      exact ⟨fl, f1, f2, f3, fun k hk => by rw [hown]; show (if vl.ownBlock = some k then 10 else _) = 10; rw [if_pos hk], rof g1 0 0 _ _ (hnew g1 0 a1 i1 (.inl rfl)), rof g2 0 0 _ _ (hnew g2 0 a2 i2 (.inr (.inl rfl))), rof g3 0 0 _ _ (hnew g3 0 a3 i3 (.inr (.inr rfl))), n9, fun k hk => Nat.lt_of_lt_of_le (hvl k hk) hsz⟩
  · exact fun x hx => (h.bb x hx).frm hfr s10 k10
  · intro i x hx hi
    have hil : i < wts.length := (List.getElem?_eq_some_iff.1 hx).1
    have hri := hdr i hi hil
    refine (h.wt i x hx (by omega)).frm hfr (fun k hk => ?_) (fun k hk hkk => ?_)
    · rcases hk with hk | hk
      · exact s10 k hk
      · exact nS k (by omega) (by omega) (by omega)
    · rcases hkk with hkk | hkk
      · exact key k hk (by have := fr.n10; omega)
      · exact key k hk (by omega)
  · exact (key p h.bk.up hk0).trans h.op
  · intro k hk hkp
    exact (key k (Nat.lt_of_lt_of_le hk h.sz) (by rw [h.o1 k hk hkp]; exact fun e => fr.n1 e.symm)).trans (h.o1 k hk hkp)
  · exact Nat.le_trans h.sz hsz
  · intro k hk hkp
    have o1 := h.o1 k hk hkp
    exact (hfr.block k (Nat.lt_of_lt_of_le hk h.sz) (nS k (by omega) (by have := fr.n1; omega) (by omega))).trans (h.kept k hk hkp)
  · refine h.bel.trans (hfr.below h.bel.size (fun k hk => ?_))
    rcases hk with rfl | hk | hk
    · rw [h.hp]; exact Nat.le_refl _
    · rcases Nat.lt_or_ge k w.heap.size with h' | h'
      · have := hr k hk
        have := h.o1 k (Nat.lt_trans h' h.hw) (by have := h.hp; omega)
        have := fr.n1
        omega
      · exact h'
    · exact (World.ownsRow.lt h.oi k hk).1

end Go.Proofs.YtbabcphjddchkaaGreatDoor
