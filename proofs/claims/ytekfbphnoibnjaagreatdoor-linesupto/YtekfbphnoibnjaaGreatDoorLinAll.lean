/-
  What stands between two steps of a script of lines: the caller's book, all that is marked, all that waits; who owns which block. A list is marked, bits are marked, a list waits: what stands then. Bits are marked, a list waits: what stands then. The caller's book is settled: what waits is still what it was, then it is marked. The caller looks at all that is marked: it is as it was marked.
-/
import Derived.Test.YtekfbphnoibnjaaGreatDoorKeep
import Derived.Test.YtekfbphnoibnjaaGreatDoorWholeBits
import Derived.Deep.WholeRow
namespace Go.Proofs.YtekfbphnoibnjaaGreatDoor
open Go.RowKit

/-- The block of v plays the role r. -/
def role (own : Nat → Nat) (v : Value) (r : Nat) : Prop := ∀ k, v.ownBlock = some k → own k = r
theorem role.congr {own own' : Nat → Nat} {v : Value} {r : Nat} (h : role own v r) (hc : ∀ k, v.ownBlock = some k → own' k = own k) : role own' v r := fun k hk => (hc k hk).trans (h k hk)
theorem role.ne {own : Nat → Nat} {v u : Value} {r s : Nat} (h : role own v r) (g : role own u s) (hrs : r ≠ s) : ∀ k, v.ownBlock = some k → u.ownBlock ≠ some k := fun k hk hu => hrs ((h k hk).symm.trans (g k hu))
theorem role.ne1 {own : Nat → Nat} {v : Value} {r k : Nat} (h : role own v r) (hk : own k ≠ r) : v.ownBlock ≠ some k := fun e => hk (h k e)

theorem fill_lt {w : World} {v : Value} {n : Nat} {us : List Value} (h : Fill w v n us) (hn : 0 < n) (hu : us ≠ []) : ∀ k, v.ownBlock = some k → k < w.heap.size := by
  obtain ⟨a, c, rfl, h⟩ := h
  intro k hk
  rcases h with h | ⟨b, off, rfl, h⟩
  · omega
  · simp [Value.ownBlock] at hk
    subst hk
    obtain ⟨u, us', rfl⟩ := List.exists_cons_of_ne_nil hu
    exact World.block_lt_of_cell? w _ (h 0 hn 0 u rfl)

/-- A marked list of numbers, in the book. -/
structure IntB where
  mark : Int
  n : Nat
  l : Value
  g1 : Value
  g2 : Value
  g3 : Value
def IntB.cells (x : IntB) : List Value := [.int .i64 x.mark, x.l, x.g1, x.g2, x.g3]
structure IntB.Ok (w : World) (own : Nat → Nat) (x : IntB) : Prop where
  fl : Fill w x.l x.n [.int .i64 x.mark]
  f1 : Fill w x.g1 (x.n + 1) [.int .i64 x.mark]
  f2 : Fill w x.g2 (x.n + 2) [.int .i64 x.mark]
  f3 : Fill w x.g3 (x.n + 3) [.int .i64 x.mark]
  rl : role own x.l 10
  r1 : role own x.g1 10
  r2 : role own x.g2 10
  r3 : role own x.g3 10
  n9 : x.n ≤ 900000000
  bl : ∀ k, x.l.ownBlock = some k → k < w.heap.size
theorem IntB.Ok.frm {S : Nat → Prop} {w w' : World} {own own' : Nat → Nat} {x : IntB} (h : x.Ok w own) (f : Frm S w w') (hS : ∀ k, own k = 10 → ¬ S k) (ho : ∀ k, k < w.heap.size → own k = 10 → own' k = 10) : x.Ok w' own' :=
  ⟨h.fl.frm f (fun k hk => hS k (h.rl k hk)), h.f1.frm f (fun k hk => hS k (h.r1 k hk)), h.f2.frm f (fun k hk => hS k (h.r2 k hk)), h.f3.frm f (fun k hk => hS k (h.r3 k hk)),
    fun k hk => ho k (h.bl k hk) (h.rl k hk), fun k hk => ho k (fill_lt h.f1 (Nat.succ_pos _) (List.cons_ne_nil _ _) k hk) (h.r1 k hk), fun k hk => ho k (fill_lt h.f2 (Nat.succ_pos _) (List.cons_ne_nil _ _) k hk) (h.r2 k hk), fun k hk => ho k (fill_lt h.f3 (Nat.succ_pos _) (List.cons_ne_nil _ _) k hk) (h.r3 k hk), h.n9,
    fun k hk => Nat.lt_of_lt_of_le (h.bl k hk) f.size⟩

/-- A marked list of bits, in the book. -/
structure BitB where
  mark : Int
  n : Nat
  l : Value
def BitB.cells (x : BitB) : List Value := [.int .i64 x.mark, .int .i64 0, x.l]
structure BitB.Ok (w : World) (own : Nat → Nat) (x : BitB) : Prop where
  fl : Fill w x.l x.n [.int .i64 x.mark, .int .i64 0]
  rl : role own x.l 10
  n9 : x.n ≤ 900000000
  bl : ∀ k, x.l.ownBlock = some k → k < w.heap.size
theorem BitB.Ok.frm {S : Nat → Prop} {w w' : World} {own own' : Nat → Nat} {x : BitB} (h : x.Ok w own) (f : Frm S w w') (hS : ∀ k, own k = 10 → ¬ S k) (ho : ∀ k, k < w.heap.size → own k = 10 → own' k = 10) : x.Ok w' own' :=
  ⟨h.fl.frm f (fun k hk => hS k (h.rl k hk)), fun k hk => ho k (h.bl k hk) (h.rl k hk), h.n9, fun k hk => Nat.lt_of_lt_of_le (h.bl k hk) f.size⟩

/-- A list of numbers that waits, beside what it should be. -/
structure Wt where
  l : Value
  y : Value
  zs : List Int
structure Wt.Ok (w : World) (B : Nat) (own : Nat → Nat) (i : Nat) (x : Wt) : Prop where
  ol : w.ownsRow B 3 1 x.l x.zs.length (ints x.zs)
  oy : w.ownsRow B 3 1 x.y x.zs.length (ints x.zs)
  rl : role own x.l (100 + i)
  ry : role own x.y 10
  n9 : x.zs.length ≤ 900000000
theorem Wt.Ok.frm {S : Nat → Prop} {w w' : World} {B : Nat} {own own' : Nat → Nat} {i : Nat} {x : Wt} (h : x.Ok w B own i) (f : Frm S w w') (hS : ∀ k, own k = 10 ∨ own k = 100 + i → ¬ S k) (ho : ∀ k, k < w.heap.size → own k = 10 ∨ own k = 100 + i → own' k = own k) : x.Ok w' B own' i :=
  ⟨f.owns h.ol (fun k hk => hS k (.inr (h.rl k hk))), f.owns h.oy (fun k hk => hS k (.inl (h.ry k hk))), h.rl.congr (fun k hk => ho k (World.ownsRow.lt h.ol k hk).2 (.inr (h.rl k hk))), h.ry.congr (fun k hk => ho k (World.ownsRow.lt h.oy k hk).2 (.inl (h.ry k hk))), h.n9⟩

def ibCells (l : List IntB) : List Value := l.flatMap IntB.cells
def bbCells (l : List BitB) : List Value := l.flatMap BitB.cells
theorem ibCells_snoc (l : List IntB) (x : IntB) : ibCells (l ++ [x]) = ibCells l ++ x.cells := by simp [ibCells]
theorem bbCells_snoc (l : List BitB) (x : BitB) : bbCells (l ++ [x]) = bbCells l ++ x.cells := by simp [bbCells]

def bookVs (vi vb vw ve : Value) : List Value := [vi, vb, .slice none 0 0, .slice none 0 0, vw, ve, .slice none 0 0, .slice none 0 0]

/-- All that stands. d: how many of those that wait are marked already. -/
structure St (w wH wr : World) (p M : Nat) (own : Nat → Nat) (vi vb vw ve : Value) (ibs : List IntB) (bbs : List BitB) (wts : List Wt) (d : Nat) : Prop where
  bk : BookAt wr p M (bookVs vi vb vw ve)
  oi : wr.ownsRow w.heap.size 76 5 vi ibs.length (ibCells ibs)
  ob : wr.ownsRow w.heap.size 79 3 vb bbs.length (bbCells bbs)
  ow : wr.ownsRow w.heap.size 52 1 vw wts.length (wts.map (·.l))
  oe : wr.ownsRow w.heap.size 52 1 ve wts.length (wts.map (·.y))
  ri : role own vi 2
  rb : role own vb 3
  rw' : role own vw 4
  re : role own ve 5
  ib : ∀ x ∈ ibs, x.Ok wr own
  bb : ∀ x ∈ bbs, x.Ok wr own
  wt : ∀ i x, wts[i]? = some x → d ≤ i → x.Ok wr w.heap.size own i
  op : own p = 0
  o1 : ∀ k, k < wH.heap.size → k ≠ p → own k = 1
  sz : wH.heap.size ≤ wr.heap.size
  kept : ∀ k, k < wH.heap.size → k ≠ p → wr.heap[k]? = wH.heap[k]?
  bel : Below w.heap.size w wr
  hp : w.heap.size = p
  hw : w.heap.size < wH.heap.size

/-- The values of the rows are blocks that are there. -/
theorem St.role_lt {w wH wr : World} {p M : Nat} {own : Nat → Nat} {vi vb vw ve : Value} {ibs : List IntB} {bbs : List BitB} {wts : List Wt} {d : Nat} (h : St w wH wr p M own vi vb vw ve ibs bbs wts d) :
    (∀ k, vi.ownBlock = some k → k < wr.heap.size) ∧ (∀ k, vb.ownBlock = some k → k < wr.heap.size) ∧ (∀ k, vw.ownBlock = some k → k < wr.heap.size) ∧ (∀ k, ve.ownBlock = some k → k < wr.heap.size) :=
  ⟨fun k e => (World.ownsRow.lt h.oi k e).2, fun k e => (World.ownsRow.lt h.ob k e).2, fun k e => (World.ownsRow.lt h.ow k e).2, fun k e => (World.ownsRow.lt h.oe k e).2⟩

/-- A quiet call: no old block has turned. -/
theorem St.below {w wH wr wr' : World} {p M : Nat} {own : Nat → Nat} {vi vb vw ve : Value} {ibs : List IntB} {bbs : List BitB} {wts : List Wt} {d : Nat} (h : St w wH wr p M own vi vb vw ve ibs bbs wts d) (f : Below wr.heap.size wr wr') : St w wH wr' p M own vi vb vw ve ibs bbs wts d := by
  have fr : Frm (fun _ => False) wr wr' := Frm.of_below f
  exact ⟨h.bk.frm fr (fun e => e), fr.owns h.oi (fun _ _ e => e), fr.owns h.ob (fun _ _ e => e), fr.owns h.ow (fun _ _ e => e), fr.owns h.oe (fun _ _ e => e), h.ri, h.rb, h.rw', h.re,
    fun x hx => (h.ib x hx).frm fr (fun _ _ e => e) (fun _ _ e => e), fun x hx => (h.bb x hx).frm fr (fun _ _ e => e) (fun _ _ e => e), fun i x hx hd => (h.wt i x hx hd).frm fr (fun _ _ e => e) (fun _ _ _ => rfl),
    h.op, h.o1, Nat.le_trans h.sz f.size, fun k hk hp => (f.block k (Nat.lt_of_lt_of_le hk h.sz)).trans (h.kept k hk hp), h.bel.trans (f.mono h.bel.size), h.hp, h.hw⟩

end Go.Proofs.YtekfbphnoibnjaaGreatDoor
namespace Go.Proofs.YtekfbphnoibnjaaGreatDoor
open Go.RowKit

/-- A role that none of the book's own has. -/
structure Free (r : Nat) : Prop where
  n0 : r ≠ 0
  n1 : r ≠ 1
  n2 : r ≠ 2
  n3 : r ≠ 3
  n4 : r ≠ 4
  n5 : r ≠ 5
  n10 : r ≠ 10

theorem St.mark {w wH wr wr' : World} {p M : Nat} {own : Nat → Nat} {vi vb vw ve : Value} {ibs : List IntB} {bbs : List BitB} {wts : List Wt} {d d' n r : Nat} {vl : Value} (h : St w wH wr p M own vi vb vw ve ibs bbs wts d)
    (hm : MarkedInts wr wr' w.heap.size p M (bookVs vi vb vw ve) vi vl ibs.length n (ibCells ibs)) (hr : role own vl r) (fr : Free r) (hd : d ≤ d') (hdr : ∀ i, d' ≤ i → i < wts.length → r ≠ 100 + i) (n9 : n ≤ 900000000) (hvl : ∀ k, vl.ownBlock = some k → k < wr.heap.size) :
    ∃ own' vi' x, St w wH wr' p (M + 1) own' vi' vb vw ve (ibs ++ [x]) bbs wts d' ∧ (∀ k, k < wr.heap.size → own k ≠ r → own' k = own k) ∧ Fill wr' vl n [.int .i64 (-((M : Int) + 1))] ∧ Frm (markS p vl vi) wr wr' := by
  obtain ⟨gi, ci, g1, e1, g2, e2, g3, e3, hbk, hoi, fl, f1, f2, f3, ai, a1, a2, a3, ⟨i1, i2, i3⟩, hgp, hlg, hfr⟩ := hm
  obtain ⟨lti, ltb, ltw, lte⟩ := h.role_lt
  obtain ⟨own', hown⟩ : ∃ own' : Nat → Nat, own' = fun k => if vl.ownBlock = some k then 10 else if k = gi then 2 else if k = g1 ∨ k = g2 ∨ k = g3 then 10 else own k := ⟨_, rfl⟩
  have nvl : ∀ k, own k ≠ r → vl.ownBlock ≠ some k := fun k hk e => hk (hr k e)
  have ng : ∀ g, (vl.ownBlock = some g ∨ wr.heap.size ≤ g) → ∀ k, k < wr.heap.size → own k ≠ r → k ≠ g := fun g hg k hk hkr e => by
    rcases hg with hg | hg
    · exact hkr (by rw [e]; exact hr g hg)
    · omega
  have key : ∀ k, k < wr.heap.size → own k ≠ r → own' k = own k := fun k hk hkr => by
    rw [hown]
    show (if vl.ownBlock = some k then 10 else if k = gi then 2 else if k = g1 ∨ k = g2 ∨ k = g3 then 10 else own k) = own k
    rw [if_neg (nvl k hkr)]
    by_cases hk2 : k = gi
    · rw [if_pos hk2]
      rcases ai with ai | ai
      · rw [hk2]; exact (h.ri gi ai).symm
      · omega
    · rw [if_neg hk2, if_neg (fun e => by rcases e with e | e | e; exact ng g1 a1 k hk hkr e; exact ng g2 a2 k hk hkr e; exact ng g3 a3 k hk hkr e)]
  have nS : ∀ k, own k ≠ 0 → own k ≠ r → own k ≠ 2 → ¬ markS p vl vi k := fun k k0 kr k2 e => by
    rcases e with e | e | e
    · exact k0 (by rw [e]; exact h.op)
    · exact kr (hr k e)
    · exact k2 (h.ri k e)
  have s10 : ∀ k, own k = 10 → ¬ markS p vl vi k := fun k e => nS k (by omega) (by have := fr.n10; omega) (by omega)
  have k10 : ∀ k, k < wr.heap.size → own k = 10 → own' k = 10 := fun k hk e => (key k hk (by have := fr.n10; omega)).trans e
  have hnew : ∀ g e, (vl.ownBlock = some g ∨ wr.heap.size ≤ g) → gi ≠ g → (g = g1 ∨ g = g2 ∨ g = g3) → role own' (.slice (some ⟨g, 0, none⟩) e e) 10 := fun g e hg hne h3 k hk => by
    simp [Value.ownBlock] at hk
    subst hk
    rw [hown]
    show (if vl.ownBlock = some g then 10 else if g = gi then 2 else if g = g1 ∨ g = g2 ∨ g = g3 then 10 else own g) = 10
    by_cases hv : vl.ownBlock = some g
    · rw [if_pos hv]
    · rw [if_neg hv, if_neg (fun e => hne e.symm), if_pos h3]
  have rof : ∀ (g a b a' b' : Nat), role own' (.slice (some ⟨g, 0, none⟩) a b) 10 → role own' (.slice (some ⟨g, 0, none⟩) a' b') 10 := fun g a b a' b' hh k hk => hh k (by simpa [Value.ownBlock] using hk)
  refine ⟨own', .slice (some ⟨gi, 0, none⟩) (ibs.length + 1) ci, ⟨-((M : Int) + 1), n, vl, .slice (some ⟨g1, 0, none⟩) (n + 1) e1, .slice (some ⟨g2, 0, none⟩) (n + 2) e2, .slice (some ⟨g3, 0, none⟩) (n + 3) e3⟩, ?_, key, fl, hfr⟩
  have hk0 : own p ≠ r := by rw [h.op]; exact fun e => fr.n0 e.symm
  have hsz : wr.heap.size ≤ wr'.heap.size := hfr.size
  refine ⟨hbk, ?_, hfr.owns h.ob (fun k hk => nS k (by have := h.rb k hk; omega) (by have := h.rb k hk; have := fr.n3; omega) (by have := h.rb k hk; omega)), hfr.owns h.ow (fun k hk => nS k (by have := h.rw' k hk; omega) (by have := h.rw' k hk; have := fr.n4; omega) (by have := h.rw' k hk; omega)), hfr.owns h.oe (fun k hk => nS k (by have := h.re k hk; omega) (by have := h.re k hk; have := fr.n5; omega) (by have := h.re k hk; omega)), ?_, ?_, ?_, ?_, ?_, ?_, ?_, ?_, ?_, ?_, ?_, ?_, h.hp, h.hw⟩
  · rw [ibCells_snoc, List.length_append]; exact hoi
  · intro k hk
    simp [Value.ownBlock] at hk
    subst hk
    rw [hown]
    show (if vl.ownBlock = some gi then 10 else if gi = gi then 2 else _) = 2
    rw [if_neg hlg, if_pos rfl]
  · exact h.rb.congr (fun k hk => key k (ltb k hk) (by rw [h.rb k hk]; exact fun e => fr.n3 e.symm))
  · exact h.rw'.congr (fun k hk => key k (ltw k hk) (by rw [h.rw' k hk]; exact fun e => fr.n4 e.symm))
  · exact h.re.congr (fun k hk => key k (lte k hk) (by rw [h.re k hk]; exact fun e => fr.n5 e.symm))
  · intro x hx
    rw [List.mem_append] at hx
    rcases hx with hx | hx
    · exact (h.ib x hx).frm hfr s10 k10
    · simp at hx
      subst hx
      exact ⟨fl, f1, f2, f3, fun k hk => by rw [hown]; show (if vl.ownBlock = some k then 10 else _) = 10; rw [if_pos hk], rof g1 0 0 _ _ (hnew g1 0 a1 i1 (.inl rfl)), rof g2 0 0 _ _ (hnew g2 0 a2 i2 (.inr (.inl rfl))), rof g3 0 0 _ _ (hnew g3 0 a3 i3 (.inr (.inr rfl))), n9, fun k hk => Nat.lt_of_lt_of_le (hvl k hk) hsz⟩
  · exact fun x hx => (h.bb x hx).frm hfr s10 k10
  · intro i x hx hi
    have hil : i < wts.length := (List.getElem?_eq_some_iff.1 hx).1
    have hri := hdr i hi hil
    refine (h.wt i x hx (by omega)).frm hfr (fun k hk => ?_) (fun k hk hkk => ?_)
    · rcases hk with hk | hk
      · exact s10 k hk
      · exact nS k (by omega) (by omega) (by omega)
    · rcases hkk with hkk | hkk
      · exact key k hk (by have := fr.n10; omega)
      · exact key k hk (by omega)
  · exact (key p h.bk.up hk0).trans h.op
  · intro k hk hkp
    exact (key k (Nat.lt_of_lt_of_le hk h.sz) (by rw [h.o1 k hk hkp]; exact fun e => fr.n1 e.symm)).trans (h.o1 k hk hkp)
  · exact Nat.le_trans h.sz hsz
  · intro k hk hkp
    have o1 := h.o1 k hk hkp
    exact (hfr.block k (Nat.lt_of_lt_of_le hk h.sz) (nS k (by omega) (by have := fr.n1; omega) (by omega))).trans (h.kept k hk hkp)
  · refine h.bel.trans (hfr.below h.bel.size (fun k hk => ?_))
    rcases hk with rfl | hk | hk
    · rw [h.hp]; exact Nat.le_refl _
    · rcases Nat.lt_or_ge k w.heap.size with h' | h'
      · have := hr k hk
        have := h.o1 k (Nat.lt_trans h' h.hw) (by have := h.hp; omega)
        have := fr.n1
        omega
      · exact h'
    · exact (World.ownsRow.lt h.oi k hk).1

end Go.Proofs.YtekfbphnoibnjaaGreatDoor
namespace Go.Proofs.YtekfbphnoibnjaaGreatDoor
open Go.RowKit

theorem St.bits {w wH wr wr' : World} {p M : Nat} {own : Nat → Nat} {vi vb vw ve : Value} {ibs : List IntB} {bbs : List BitB} {wts : List Wt} {d n g r : Nat} (h : St w wH wr p M own vi vb vw ve ibs bbs wts d)
    (hm : MarkedBits wr wr' w.heap.size p M (bookVs vi vb vw ve) vb g n bbs.length (bbCells bbs)) (hr : own g = r) (fr : Free r) (hdr : ∀ i, d ≤ i → i < wts.length → r ≠ 100 + i) (n9 : n ≤ 900000000) (hg : g < wr.heap.size) :
    ∃ own' vb' x, St w wH wr' p (M + 1) own' vi vb' vw ve ibs (bbs ++ [x]) wts d := by
  obtain ⟨gi, ci, hbk, hob, fl, ai, hgp, hgg, hfr⟩ := hm
  obtain ⟨lti, ltb, ltw, lte⟩ := h.role_lt
  obtain ⟨own', hown⟩ : ∃ own' : Nat → Nat, own' = fun k => if k = g then 10 else if k = gi then 3 else own k := ⟨_, rfl⟩
  have key : ∀ k, k < wr.heap.size → own k ≠ r → own' k = own k := fun k hk hkr => by
    rw [hown]
    show (if k = g then 10 else if k = gi then 3 else own k) = own k
    rw [if_neg (fun e => hkr (by rw [e]; exact hr))]
    by_cases hk2 : k = gi
    · rw [if_pos hk2]
      rcases ai with ai | ai
      · rw [hk2]; exact (h.rb gi ai).symm
      · omega
    · rw [if_neg hk2]
  have nS : ∀ k, own k ≠ 0 → own k ≠ r → own k ≠ 3 → ¬ (k = p ∨ k = g ∨ vb.ownBlock = some k) := fun k k0 kr k2 e => by
    rcases e with e | e | e
    · exact k0 (by rw [e]; exact h.op)
    · exact kr (by rw [e]; exact hr)
    · exact k2 (h.rb k e)
  have s10 : ∀ k, own k = 10 → ¬ (k = p ∨ k = g ∨ vb.ownBlock = some k) := fun k e => nS k (by omega) (by have := fr.n10; omega) (by omega)
  have k10 : ∀ k, k < wr.heap.size → own k = 10 → own' k = 10 := fun k hk e => (key k hk (by have := fr.n10; omega)).trans e
  have hk0 : own p ≠ r := by rw [h.op]; exact fun e => fr.n0 e.symm
  have hsz : wr.heap.size ≤ wr'.heap.size := hfr.size
  refine ⟨own', .slice (some ⟨gi, 0, none⟩) (bbs.length + 1) ci, ⟨-((M : Int) + 1), n, .slice (some ⟨g, 0, none⟩) n n⟩, ?_⟩
  refine ⟨hbk, hfr.owns h.oi (fun k hk => nS k (by have := h.ri k hk; omega) (by have := h.ri k hk; have := fr.n2; omega) (by have := h.ri k hk; omega)), ?_, hfr.owns h.ow (fun k hk => nS k (by have := h.rw' k hk; omega) (by have := h.rw' k hk; have := fr.n4; omega) (by have := h.rw' k hk; omega)), hfr.owns h.oe (fun k hk => nS k (by have := h.re k hk; omega) (by have := h.re k hk; have := fr.n5; omega) (by have := h.re k hk; omega)), ?_, ?_, ?_, ?_, ?_, ?_, ?_, ?_, ?_, ?_, ?_, ?_, h.hp, h.hw⟩
  · rw [bbCells_snoc, List.length_append]; exact hob
  · exact h.ri.congr (fun k hk => key k (lti k hk) (by rw [h.ri k hk]; exact fun e => fr.n2 e.symm))
  · intro k hk
    simp [Value.ownBlock] at hk
    subst hk
    rw [hown]
    show (if gi = g then 10 else if gi = gi then 3 else _) = 3
    rw [if_neg hgg, if_pos rfl]
  · exact h.rw'.congr (fun k hk => key k (ltw k hk) (by rw [h.rw' k hk]; exact fun e => fr.n4 e.symm))
  · exact h.re.congr (fun k hk => key k (lte k hk) (by rw [h.re k hk]; exact fun e => fr.n5 e.symm))
  · exact fun x hx => (h.ib x hx).frm hfr s10 k10
  · intro x hx
    rw [List.mem_append] at hx
    rcases hx with hx | hx
    · exact (h.bb x hx).frm hfr s10 k10
    · simp at hx
      subst hx
      refine ⟨fl, fun k hk => ?_, n9, fun k hk => ?_⟩
      · simp [Value.ownBlock] at hk
        subst hk
        rw [hown]
        show (if g = g then 10 else _) = 10
        rw [if_pos rfl]
      · simp [Value.ownBlock] at hk
        omega
  · intro i x hx hi
    have hil : i < wts.length := (List.getElem?_eq_some_iff.1 hx).1
    have hri := hdr i hi hil
    refine (h.wt i x hx hi).frm hfr (fun k hk => ?_) (fun k hk hkk => ?_)
    · rcases hk with hk | hk
      · exact s10 k hk
      · exact nS k (by omega) (by omega) (by omega)
    · rcases hkk with hkk | hkk
      · exact key k hk (by have := fr.n10; omega)
      · exact key k hk (by omega)
  · exact (key p h.bk.up hk0).trans h.op
  · intro k hk hkp
    exact (key k (Nat.lt_of_lt_of_le hk h.sz) (by rw [h.o1 k hk hkp]; exact fun e => fr.n1 e.symm)).trans (h.o1 k hk hkp)
  · exact Nat.le_trans h.sz hsz
  · intro k hk hkp
    have o1 := h.o1 k hk hkp
    exact (hfr.block k (Nat.lt_of_lt_of_le hk h.sz) (nS k (by omega) (by have := fr.n1; omega) (by omega))).trans (h.kept k hk hkp)
  · refine h.bel.trans (hfr.below h.bel.size (fun k hk => ?_))
    rcases hk with rfl | rfl | hk
    · rw [h.hp]; exact Nat.le_refl _
    · rcases Nat.lt_or_ge k w.heap.size with h' | h'
      · have := h.o1 k (Nat.lt_trans h' h.hw) (by have := h.hp; omega)
        have := fr.n1
        omega
      · exact h'
    · exact (World.ownsRow.lt h.ob k hk).1

theorem St.keep {w wH wr wr' : World} {p M : Nat} {own : Nat → Nat} {vi vb vw ve : Value} {ibs : List IntB} {bbs : List BitB} {wts : List Wt} {r : Nat} {vl : Value} {zs : List Int} (h : St w wH wr p M own vi vb vw ve ibs bbs wts 0)
    (hm : KeptInts wr wr' w.heap.size p M (bookVs vi vb vw ve) vw ve wts.length wts.length (wts.map (·.l)) (wts.map (·.y)) vl zs.length zs) (hr : role own vl r) (fr : Free r) (hdr : ∀ i, i < wts.length → r ≠ 100 + i) (n9 : zs.length ≤ 900000000)
    (hol : wr.ownsRow w.heap.size 3 1 vl zs.length (ints zs)) :
    ∃ own' vw' ve' x, St w wH wr' p M own' vi vb vw' ve' ibs bbs (wts ++ [x]) 0 ∧ (∀ k, k < wr.heap.size → own k ≠ r → own' k = own k) ∧ Frm (keepS p vw ve) wr wr' := by
  obtain ⟨gw, cw, ge, ce, y, hbk, how, hoe, hoy, aw, ae, hwe, hwp, hep, hyw, hye, hfr⟩ := hm
  obtain ⟨lti, ltb, ltw, lte⟩ := h.role_lt
  have hvl : ∀ k, vl.ownBlock = some k → k < wr.heap.size := fun k hk => (World.ownsRow.lt hol k hk).2
  have hyl : ∀ k, y.ownBlock = some k → wr.heap.size ≤ k := fun k hk => (World.ownsRow.lt hoy k hk).1
  obtain ⟨own', hown⟩ : ∃ own' : Nat → Nat, own' = fun k => if vl.ownBlock = some k then 100 + wts.length else if k = gw then 4 else if k = ge then 5 else if y.ownBlock = some k then 10 else own k := ⟨_, rfl⟩
  have key : ∀ k, k < wr.heap.size → own k ≠ r → own' k = own k := fun k hk hkr => by
    rw [hown]
    show (if vl.ownBlock = some k then 100 + wts.length else if k = gw then 4 else if k = ge then 5 else if y.ownBlock = some k then 10 else own k) = own k
    rw [if_neg (fun e => hkr (hr k e))]
    by_cases hk2 : k = gw
    · rw [if_pos hk2]
      rcases aw with aw | aw
      · rw [hk2]; exact (h.rw' gw aw).symm
      · omega
    · rw [if_neg hk2]
      by_cases hk3 : k = ge
      · rw [if_pos hk3]
        rcases ae with ae | ae
        · rw [hk3]; exact (h.re ge ae).symm
        · omega
      · rw [if_neg hk3, if_neg (fun e => by have := hyl k e; omega)]
  have nS : ∀ k, own k ≠ 0 → own k ≠ 4 → own k ≠ 5 → ¬ keepS p vw ve k := fun k k0 k4 k5 e => by
    rcases e with e | e | e
    · exact k0 (by rw [e]; exact h.op)
    · exact k4 (h.rw' k e)
    · exact k5 (h.re k e)
  have s10 : ∀ k, own k = 10 → ¬ keepS p vw ve k := fun k e => nS k (by omega) (by omega) (by omega)
  have k10 : ∀ k, k < wr.heap.size → own k = 10 → own' k = 10 := fun k hk e => (key k hk (by have := fr.n10; omega)).trans e
  have hk0 : own p ≠ r := by rw [h.op]; exact fun e => fr.n0 e.symm
  have hsz : wr.heap.size ≤ wr'.heap.size := hfr.size
  have hnl : ∀ g s, (∀ k, vl.ownBlock = some k → own k ≠ s) → (own g = s ∨ wr.heap.size ≤ g) → vl.ownBlock ≠ some g := fun g s h1 h2 e => by
    rcases h2 with h2 | h2
    · exact h1 g e h2
    · have := hvl g e; omega
  have hlw : vl.ownBlock ≠ some gw := hnl gw 4 (fun k hk => by rw [hr k hk]; exact fr.n4) (aw.imp (fun e => h.rw' gw e) id)
  have hle : vl.ownBlock ≠ some ge := hnl ge 5 (fun k hk => by rw [hr k hk]; exact fr.n5) (ae.imp (fun e => h.re ge e) id)
  refine ⟨own', .slice (some ⟨gw, 0, none⟩) (wts.length + 1) cw, .slice (some ⟨ge, 0, none⟩) (wts.length + 1) ce, ⟨vl, y, zs⟩, ?_, key, hfr⟩
  refine ⟨hbk, hfr.owns h.oi (fun k hk => nS k (by have := h.ri k hk; omega) (by have := h.ri k hk; omega) (by have := h.ri k hk; omega)), hfr.owns h.ob (fun k hk => nS k (by have := h.rb k hk; omega) (by have := h.rb k hk; omega) (by have := h.rb k hk; omega)), ?_, ?_, ?_, ?_, ?_, ?_, ?_, ?_, ?_, ?_, ?_, ?_, ?_, ?_, h.hp, h.hw⟩
  · rw [List.length_append, List.map_append]; exact how
  · rw [List.length_append, List.map_append]; exact hoe
  · exact h.ri.congr (fun k hk => key k (lti k hk) (by rw [h.ri k hk]; exact fun e => fr.n2 e.symm))
  · exact h.rb.congr (fun k hk => key k (ltb k hk) (by rw [h.rb k hk]; exact fun e => fr.n3 e.symm))
  · intro k hk
    simp [Value.ownBlock] at hk
    subst hk
    rw [hown]
    show (if vl.ownBlock = some gw then 100 + wts.length else if gw = gw then 4 else _) = 4
    rw [if_neg hlw, if_pos rfl]
  · intro k hk
    simp [Value.ownBlock] at hk
    subst hk
    rw [hown]
    show (if vl.ownBlock = some ge then 100 + wts.length else if ge = gw then 4 else if ge = ge then 5 else _) = 5
    rw [if_neg hle, if_neg (fun e => hwe e.symm), if_pos rfl]
  · exact fun x hx => (h.ib x hx).frm hfr s10 k10
  · exact fun x hx => (h.bb x hx).frm hfr s10 k10
  · intro i x hx _
    rcases Nat.lt_or_ge i wts.length with hil | hil
    · rw [List.getElem?_append_left hil] at hx
      have hri := hdr i hil
      refine (h.wt i x hx (Nat.zero_le _)).frm hfr (fun k hk => ?_) (fun k hk hkk => ?_)
      · rcases hk with hk | hk
        · exact s10 k hk
        · exact nS k (by omega) (by omega) (by omega)
      · rcases hkk with hkk | hkk
        · exact key k hk (by have := fr.n10; omega)
        · exact key k hk (by omega)
    · rw [List.getElem?_append_right hil] at hx
      have hi0 : i - wts.length = 0 := by
        rcases Nat.eq_zero_or_pos (i - wts.length) with h' | h'
        · exact h'
        · rw [List.getElem?_eq_none (by simp; omega)] at hx; cases hx
      rw [hi0] at hx
      simp at hx
      subst hx
      have hi : i = wts.length := by omega
      subst hi
      refine ⟨hfr.owns hol (fun k hk => nS k (by rw [hr k hk]; exact fr.n0) (by rw [hr k hk]; exact fr.n4) (by rw [hr k hk]; exact fr.n5)), owns_base hoy h.bel.size, fun k hk => ?_, fun k hk => ?_, n9⟩
      · rw [hown]
        show (if vl.ownBlock = some k then 100 + wts.length else _) = 100 + wts.length
        rw [if_pos hk]
      · rw [hown]
        have h1 := hyl k hk
        show (if vl.ownBlock = some k then 100 + wts.length else if k = gw then 4 else if k = ge then 5 else if y.ownBlock = some k then 10 else own k) = 10
        rw [if_neg (fun e => by have := hvl k e; omega), if_neg (fun e => hyw (by rw [hk, e])), if_neg (fun e => hye (by rw [hk, e])), if_pos hk]
  · exact (key p h.bk.up hk0).trans h.op
  · intro k hk hkp
    exact (key k (Nat.lt_of_lt_of_le hk h.sz) (by rw [h.o1 k hk hkp]; exact fun e => fr.n1 e.symm)).trans (h.o1 k hk hkp)
  · exact Nat.le_trans h.sz hsz
  · intro k hk hkp
    have o1 := h.o1 k hk hkp
    exact (hfr.block k (Nat.lt_of_lt_of_le hk h.sz) (nS k (by omega) (by omega) (by omega))).trans (h.kept k hk hkp)
  · refine h.bel.trans (hfr.below h.bel.size (fun k hk => ?_))
    rcases hk with rfl | hk | hk
    · rw [h.hp]; exact Nat.le_refl _
    · exact (World.ownsRow.lt h.ow k hk).1
    · exact (World.ownsRow.lt h.oe k hk).1

/-- A new role for a block that is no old one. -/
theorem St.own {w wH wr : World} {p M : Nat} {own own' : Nat → Nat} {vi vb vw ve : Value} {ibs : List IntB} {bbs : List BitB} {wts : List Wt} {d : Nat} (h : St w wH wr p M own vi vb vw ve ibs bbs wts d) {wo : World} (ho : St w wH wo p M own vi vb vw ve ibs bbs wts d) (hc : ∀ k, k < wo.heap.size → own' k = own k) : St w wH wr p M own' vi vb vw ve ibs bbs wts d := by
  obtain ⟨lti, ltb, ltw, lte⟩ := ho.role_lt
  refine ⟨h.bk, h.oi, h.ob, h.ow, h.oe, h.ri.congr (fun k hk => hc k (lti k hk)), h.rb.congr (fun k hk => hc k (ltb k hk)), h.rw'.congr (fun k hk => hc k (ltw k hk)), h.re.congr (fun k hk => hc k (lte k hk)), fun x hx => ?_, fun x hx => ?_, fun i x hx hd => ?_, (hc p ho.bk.up).trans h.op, fun k hk hkp => (hc k (Nat.lt_of_lt_of_le hk ho.sz)).trans (h.o1 k hk hkp), h.sz, h.kept, h.bel, h.hp, h.hw⟩
  · have a := h.ib x hx
    have b := ho.ib x hx
    exact ⟨a.fl, a.f1, a.f2, a.f3, a.rl.congr (fun k hk => hc k (b.bl k hk)), a.r1.congr (fun k hk => hc k (fill_lt b.f1 (Nat.succ_pos _) (List.cons_ne_nil _ _) k hk)), a.r2.congr (fun k hk => hc k (fill_lt b.f2 (Nat.succ_pos _) (List.cons_ne_nil _ _) k hk)), a.r3.congr (fun k hk => hc k (fill_lt b.f3 (Nat.succ_pos _) (List.cons_ne_nil _ _) k hk)), a.n9, a.bl⟩
  · have a := h.bb x hx
    have b := ho.bb x hx
    exact ⟨a.fl, a.rl.congr (fun k hk => hc k (b.bl k hk)), a.n9, a.bl⟩
  · have a := h.wt i x hx hd
    have b := ho.wt i x hx hd
    exact ⟨a.ol, a.oy, a.rl.congr (fun k hk => hc k (World.ownsRow.lt b.ol k hk).2), a.ry.congr (fun k hk => hc k (World.ownsRow.lt b.oy k hk).2), a.n9⟩

end Go.Proofs.YtekfbphnoibnjaaGreatDoor
namespace Go.Proofs.YtekfbphnoibnjaaGreatDoor
open Go.RowKit

theorem owns_shape {w : World} {B : Nat} {e : TypeId} {size : Nat} {v : Value} {n : Nat} {xs : List Value} (h : w.ownsRow B e size v n xs) : ∃ a c, v = .slice a n c ∧ (n = 0 ∨ ∃ g, a = some ⟨g, 0, none⟩) := by
  rcases h.2 with ⟨rfl, h0⟩ | ⟨g, cap, cur, rfl, _⟩
  · exact ⟨none, 0, by rw [h0], .inl h0⟩
  · exact ⟨_, cap, rfl, .inr ⟨g, rfl⟩⟩

theorem St.row4 {w wH wr : World} {p M : Nat} {own : Nat → Nat} {vi vb vw ve : Value} {ibs : List IntB} {bbs : List BitB} {wts : List Wt} {d : Nat} (h : St w wH wr p M own vi vb vw ve ibs bbs wts d) {g k c : Nat} (hv : vw = .slice (some ⟨g, 0, none⟩) wts.length c) {x : Wt} (hx : wts[k]? = some x) : wr.cell? ⟨g, k, none⟩ = some x.l := by
  have hk : k < wts.length := (List.getElem?_eq_some_iff.1 hx).1
  have := h.ow
  rw [hv] at this
  rw [World.ownsRow.cellAt this k (by omega), List.getElem?_map, hx]
  rfl
theorem St.row5 {w wH wr : World} {p M : Nat} {own : Nat → Nat} {vi vb vw ve : Value} {ibs : List IntB} {bbs : List BitB} {wts : List Wt} {d : Nat} (h : St w wH wr p M own vi vb vw ve ibs bbs wts d) {g k c : Nat} (hv : ve = .slice (some ⟨g, 0, none⟩) wts.length c) {x : Wt} (hx : wts[k]? = some x) : wr.cell? ⟨g, k, none⟩ = some x.y := by
  have hk : k < wts.length := (List.getElem?_eq_some_iff.1 hx).1
  have := h.oe
  rw [hv] at this
  rw [World.ownsRow.cellAt this k (by omega), List.getElem?_map, hx]
  rfl

theorem below_of_drew {w wr : World} {n : Nat} (h : wr = w.drewN n) : Below w.heap.size w wr := by rw [h]; exact below_drewN (Below.refl _ _) n

theorem free100 (i : Nat) : Free (100 + i) := ⟨by omega, by omega, by omega, by omega, by omega, by omega, by omega⟩

/-- The book is emptied of what waits. -/
theorem St.clear {w wH wr : World} {p M : Nat} {own : Nat → Nat} {vi vb vw ve : Value} {ibs : List IntB} {bbs : List BitB} {wts : List Wt} (h : St w wH wr p M own vi vb vw ve ibs bbs wts wts.length) :
    St w wH ((((wr.setCell ⟨p, 5, none⟩ (.slice none 0 0)).setCell ⟨p, 6, none⟩ (.slice none 0 0)).setCell ⟨p, 7, none⟩ (.slice none 0 0)).setCell ⟨p, 8, none⟩ (.slice none 0 0)) p M own vi vb (.slice none 0 0) (.slice none 0 0) ibs bbs [] 0 := by
  obtain ⟨wz, hwz⟩ : ∃ wz, wz = (((wr.setCell ⟨p, 5, none⟩ (.slice none 0 0)).setCell ⟨p, 6, none⟩ (.slice none 0 0)).setCell ⟨p, 7, none⟩ (.slice none 0 0)).setCell ⟨p, 8, none⟩ (.slice none 0 0) := ⟨_, rfl⟩
  have hbk : BookAt wz p M (bookVs vi vb (.slice none 0 0) (.slice none 0 0)) := by
    rw [hwz]
    exact (((h.bk.put 4 (by decide) (.slice none 0 0)).put 5 (by decide) (.slice none 0 0)).put 6 (by decide) (.slice none 0 0)).put 7 (by decide) (.slice none 0 0)
  have fr : Frm (fun k => k = p) wr wz := by
    rw [hwz]
    exact ((((Frm.refl (fun k => k = p) wr).setCell (p := ⟨p, 5, none⟩) (.inl (show p = p from rfl)) _).setCell (p := ⟨p, 6, none⟩) (.inl (show p = p from rfl)) _).setCell (p := ⟨p, 7, none⟩) (.inl (show p = p from rfl)) _).setCell (p := ⟨p, 8, none⟩) (.inl (show p = p from rfl)) _
  rw [← hwz]
  have np : ∀ k, own k ≠ 0 → k ≠ p := fun k hk e => hk (by rw [e]; exact h.op)
  refine ⟨hbk, fr.owns h.oi (fun k hk => np k (by rw [h.ri k hk]; decide)), fr.owns h.ob (fun k hk => np k (by rw [h.rb k hk]; decide)), World.ownsRow_nil _ _ _ _, World.ownsRow_nil _ _ _ _, h.ri, h.rb, fun k hk => by simp [Value.ownBlock] at hk, fun k hk => by simp [Value.ownBlock] at hk,
    fun x hx => (h.ib x hx).frm fr (fun k hk => np k (by omega)) (fun _ _ e => e), fun x hx => (h.bb x hx).frm fr (fun k hk => np k (by omega)) (fun _ _ e => e), fun i x hx => by simp at hx, h.op, h.o1, Nat.le_trans h.sz fr.size, fun k hk hkp => (fr.block k (Nat.lt_of_lt_of_le hk h.sz) hkp).trans (h.kept k hk hkp), h.bel.trans (fr.below h.bel.size (fun k hk => ?_)), h.hp, h.hw⟩
  rw [show k = p from hk, h.hp]
  exact Nat.le_refl _

set_option maxHeartbeats 4000000 in
set_option maxRecDepth 20000 in
theorem settle_st (w wH wr0 : World) (p M : Nat) (own : Nat → Nat) (vi vb vw ve : Value) (ibs : List IntB) (bbs : List BitB) (wts : List Wt) (h : St w wH wr0 p M own vi vb vw ve ibs bbs wts 0) (hM : M + wts.length ≤ 100000000) (hib : ibs.length + wts.length ≤ 100000000) :
    Calls Tryz.prog 16 #[.pointer (some ⟨p, 0, none⟩)] wr0 fun e w' => e = .returned (.bool true) ∧ ∃ own' vi' ibs', St w wH w' p (M + wts.length) own' vi' vb (.slice none 0 0) (.slice none 0 0) ibs' bbs [] 0 ∧ ibs'.length = ibs.length + wts.length := by
  obtain ⟨L, hL⟩ : ∃ L, L = wts.length := ⟨_, rfl⟩
  obtain ⟨aw, cw, hvw, hgw⟩ := owns_shape h.ow
  obtain ⟨ae, ce, hve, hge⟩ := owns_shape h.oe
  have HST : Hid (St w wH wr0 p M own vi vb vw ve ibs bbs wts 0) := h
  rw [← hL] at hgw hge hM hib hvw hve ⊢
  have HL : Hid (L = wts.length) := hL
  have HVW : Hid (vw = .slice aw L cw) := hvw
  have HVE : Hid (ve = .slice ae L ce) := hve
  have i5 := h.bk.cs 4 vw rfl
  rw [hvw] at i5
  clear h hL hvw hve
  go_enter Tryz.func16, Tryz.ntmps16
  go_wp2
  clear i5
  go_loopw [3, 4] (fun ok i wr => ok = .bool true ∧ ∃ k : Nat, k ≤ L ∧ i = .int .i64 k ∧ St w wH wr p M own vi vb vw ve ibs bbs wts 0) (fun _ i _ => L - (intOf i).toNat)
  case atStart => exact ⟨rfl, 0, by omega, rfl, HST.out⟩
  case round =>
    clear HST
    obtain ⟨rfl, k, hk, rfl, hst⟩ := hrel
    have i5 := hst.bk.cs 4 vw rfl
    have i6 := hst.bk.cs 5 ve rfl
    have i7 := hst.bk.cs 6 (.slice none 0 0) rfl
    rw [HVW.out] at i5
    rw [HVE.out] at i6
    have HST : Hid (St w wH wr p M own vi vb vw ve ibs bbs wts 0) := hst
    clear hst
    by_cases hlt : k < L
    · have hlt' : (k : Int) < (L : Int) := by omega
      obtain ⟨gw, rfl⟩ : ∃ g, aw = some ⟨g, 0, none⟩ := by
        rcases hgw with h0 | h0
        · omega
        · exact h0
      obtain ⟨ge, rfl⟩ : ∃ g, ae = some ⟨g, 0, none⟩ := by
        rcases hge with h0 | h0
        · omega
        · exact h0
      obtain ⟨x, hx⟩ : ∃ x, wts[k]? = some x := ⟨_, List.getElem?_eq_getElem (by have := HL.out; omega)⟩
      have hx4 := HST.out.row4 (by rw [← HL.out]; exact HVW.out) hx
      have hx5 := HST.out.row5 (by rw [← HL.out]; exact HVE.out) hx
      have hxo := HST.out.wt k x hx (Nat.zero_le _)
      obtain ⟨al, cl, hel, hinl⟩ := IntsIn.of_own hxo.ol
      obtain ⟨ay, cy, hey, hiny⟩ := IntsIn.of_own hxo.oy
      have h9 := hxo.n9
      rw [hel] at hx4
      rw [hey] at hx5
      obtain ⟨m, hm⟩ : ∃ m, m = x.zs.length := ⟨_, rfl⟩
      rw [← hm] at hx4 hx5 hinl hiny h9
      have HS1 := fun n' => sameInts_any (wr.drewN n') al ay m cl m cy x.zs x.zs (show IntsIn (wr.drewN n') al m x.zs from hinl) (show IntsIn (wr.drewN n') ay m x.zs from hiny) (by omega) (by omega)
      have hd : decide (x.zs = x.zs) = true := by simp
      rw [hd] at HS1
      have HS2 : ∀ n', Hid (Calls Tryz.prog 30 #[.slice al m cl, .slice ay m cy] (wr.drewN n') fun x w' => x = .returned (.bool true) ∧ ∃ n, w' = (wr.drewN n').drewN n) := fun n' => HS1 n'
      clear HS1 hd hm hinl hiny hxo hel hey hx i7
      go_wp2
      go_quiet ((go_at_call 30; exact Calls.quiet_of (HS2 _).out))
      go_wp2
      go_roundw
      case rel => exact ⟨rfl, k + 1, by omega, by go_num, HST.out.below (below_drewN (Below.refl _ _) _)⟩
      case measure => simp [intOf]; omega
    · have hlt' : ¬ (k : Int) < (L : Int) := by omega
      obtain ⟨W1, rfl⟩ : ∃ W1, W1 = wr := ⟨_, rfl⟩
      go_wp2
      go_loop [3, 6] (fun ok i => ok = .bool true ∧ i = .int .i64 0) (fun _ _ => 0)
      case atStart => exact ⟨rfl, rfl⟩
      case round =>
        obtain ⟨rfl, rfl⟩ := hrel
        go_wp2
        clear i5 i6 i7
        go_loopw [8] (fun i wr => ∃ (j : Nat) (own' : Nat → Nat) (vi' : Value) (ibs' : List IntB), j ≤ L ∧ i = .int .i64 j ∧ St w wH wr p (M + j) own' vi' vb vw ve ibs' bbs wts j ∧ ibs'.length = ibs.length + j) (fun i _ => L - (intOf i).toNat)
        case atStart => exact ⟨0, own, vi, ibs, by omega, rfl, HST.out, rfl⟩
        case round =>
          clear HST
          obtain ⟨j, own', vi', ibs', hj, rfl, hst, hil⟩ := hrel
          have i5 := hst.bk.cs 4 vw rfl
          have i7 := hst.bk.cs 6 (.slice none 0 0) rfl
          rw [HVW.out] at i5
          have HST : Hid (St w wH wr p (M + j) own' vi' vb vw ve ibs' bbs wts j) := hst
          by_cases hjl : j < L
          · have hjl' : (j : Int) < (L : Int) := by omega
            obtain ⟨gw, rfl⟩ : ∃ g, aw = some ⟨g, 0, none⟩ := by
              rcases hgw with h0 | h0
              · omega
              · exact h0
            obtain ⟨x, hx⟩ : ∃ x, wts[j]? = some x := ⟨_, List.getElem?_eq_getElem (by have := HL.out; omega)⟩
            have hx4 := hst.row4 (by rw [← HL.out]; exact HVW.out) hx
            have hxo := hst.wt j x hx (Nat.le_refl _)
            obtain ⟨al, cl, hel, _⟩ := owns_shape hxo.ol
            obtain ⟨ai, ci, hei, _⟩ := owns_shape hst.oi
            have h9 := hxo.n9
            have hrl := hxo.rl
            have hol := hxo.ol
            have hoi := hst.oi
            have hri := hst.ri
            rw [hel] at hx4 hol hrl
            rw [hei] at hoi hri
            have hv0 : (bookVs vi' vb vw ve)[0]? = some (.slice ai ibs'.length ci) := by rw [← hei]; rfl
            have HC := markInts_any wr w.heap.size p (M + j) (bookVs vi' vb vw ve) ai ibs'.length ci (ibCells ibs') al x.zs.length cl x.zs hst.bk hv0 hoi hol hst.bel.size (hri.ne1 (by rw [hst.op]; decide)) (hrl.ne1 (by rw [hst.op]; omega)) (hrl.ne hri (by omega)) (by omega) (by omega) (by omega)
            rw [← hei, ← hel] at HC
            have HCC : Hid (Calls Tryz.prog 32 #[.pointer (some ⟨p, 0, none⟩), x.l] wr fun e w' => e = .returned (.tuple #[]) ∧ MarkedInts wr w' w.heap.size p (M + j) (bookVs vi' vb vw ve) vi' x.l ibs'.length x.zs.length (ibCells ibs')) := HC
            have HXO : Hid (Wt.Ok wr w.heap.size own' j x) := hxo
            rw [← hel] at hx4
            have hwl := HL.out
            clear HC hoi hol hri hrl hv0 hxo hst hx hel hei hwl
            go_wp2_with (go_at_call 32; refine HCC.out.mono ?_; rintro e w2 ⟨rfl, hmk⟩)
            obtain ⟨own2, vi2, x2, hst2, _, _, _⟩ := HST.out.mark (d' := j + 1) hmk HXO.out.rl (free100 j) (by omega) (fun i hi _ => by omega) HXO.out.n9 (fun k hk => (World.ownsRow.lt HXO.out.ol k hk).2)
            go_roundw
            case rel => exact ⟨j + 1, own2, vi2, _, by omega, by go_num, hst2, by rw [List.length_append]; simp; omega⟩
            case measure => simp [intOf]; omega
          · have hjl' : ¬ (j : Int) < (L : Int) := by omega
            obtain rfl : j = L := by omega
            have f5 := hst.bk.fz 5
            have f6 := hst.bk.fz 6
            have f7 := hst.bk.fz 7
            have f8 := hst.bk.fz 8
            have i6 := hst.bk.cs 5 ve rfl
            have i8 := hst.bk.cs 7 (.slice none 0 0) rfl
            rw [HVE.out] at i6
            clear hst
            obtain ⟨W2, rfl⟩ : ∃ W2, W2 = wr := ⟨_, rfl⟩
            go_wp2
            go_loop [9] (fun i => i = .int .i64 0) (fun _ => 0)
            case atStart => exact rfl
            case round =>
              subst hrel
              go_wp2
              go_ret
              refine ⟨rfl, own', vi', ibs', ?_, hil⟩
              have hst := HST.out
              rw [HL.out] at hst
              rw [HL.out]
              exact hst.clear

end Go.Proofs.YtekfbphnoibnjaaGreatDoor
namespace Go.Proofs.YtekfbphnoibnjaaGreatDoor
open Go.RowKit

theorem flat_get {α : Type} (f : α → List Value) (m : Nat) (hf : ∀ a, (f a).length = m) : ∀ (l : List α) (k : Nat) (a : α), l[k]? = some a → ∀ j, j < m → (l.flatMap f)[k * m + j]? = (f a)[j]?
  | [], k, a, h, _, _ => by simp at h
  | b :: l, 0, a, h, j, hj => by
    simp at h
    subst h
    rw [List.flatMap_cons, Nat.zero_mul, Nat.zero_add, List.getElem?_append_left (by rw [hf]; exact hj)]
  | b :: l, k + 1, a, h, j, hj => by
    rw [List.flatMap_cons, List.getElem?_append_right (by rw [hf]; rw [Nat.succ_mul]; omega), hf, show (k + 1) * m + j - m = k * m + j by rw [Nat.succ_mul]; omega]
    exact flat_get f m hf l k a (by simpa using h) j hj
theorem ibCells_get (l : List IntB) (k : Nat) (x : IntB) (h : l[k]? = some x) (j : Nat) (hj : j < 5) : (ibCells l)[k * 5 + j]? = x.cells[j]? := flat_get IntB.cells 5 (fun _ => rfl) l k x h j hj
theorem bbCells_get (l : List BitB) (k : Nat) (x : BitB) (h : l[k]? = some x) (j : Nat) (hj : j < 3) : (bbCells l)[k * 3 + j]? = x.cells[j]? := flat_get BitB.cells 3 (fun _ => rfl) l k x h j hj

theorem fill_below {w w' : World} {v : Value} {n : Nat} {us : List Value} (h : Fill w v n us) (f : Below w.heap.size w w') : Fill w' v n us := h.frm (Frm.of_below (S := fun _ => False) f) (fun _ _ e => e)

set_option maxHeartbeats 4000000 in
set_option maxRecDepth 20000 in
theorem looks_st (w wH wr0 : World) (p M : Nat) (own : Nat → Nat) (vi vb vw ve : Value) (ibs : List IntB) (bbs : List BitB) (wts : List Wt) (h : St w wH wr0 p M own vi vb vw ve ibs bbs wts 0) (hib : ibs.length ≤ 100000000) (hbb : bbs.length ≤ 100000000) :
    Calls Tryz.prog 17 #[.pointer (some ⟨p, 0, none⟩)] wr0 fun e w' => e = .returned (.bool true) ∧ Below wr0.heap.size wr0 w' := by
  obtain ⟨ai, ci, hvi, hgi⟩ := owns_shape h.oi
  obtain ⟨ab, cb, hvb, hgb⟩ := owns_shape h.ob
  obtain ⟨Li, hLi⟩ : ∃ L, L = ibs.length := ⟨_, rfl⟩
  obtain ⟨Lb, hLb⟩ : ∃ L, L = bbs.length := ⟨_, rfl⟩
  have i1 := h.bk.cs 0 vi rfl
  rw [hvi] at i1
  rw [← hLi] at hvi hgi hib i1
  rw [← hLb] at hvb hgb hbb
  have HST : Hid (St w wH wr0 p M own vi vb vw ve ibs bbs wts 0) := h
  have HLi : Hid (Li = ibs.length) := hLi
  have HLb : Hid (Lb = bbs.length) := hLb
  have HVI : Hid (vi = .slice ai Li ci) := hvi
  have HVB : Hid (vb = .slice ab Lb cb) := hvb
  clear h hvi hvb hLi hLb
  go_enter Tryz.func17, Tryz.ntmps17
  go_wp2
  clear i1
  go_loopw [3, 4] (fun ok i wr => ok = .bool true ∧ ∃ k : Nat, k ≤ Li ∧ i = .int .i64 k ∧ Below wr0.heap.size wr0 wr) (fun _ i _ => Li - (intOf i).toNat)
  case atStart => exact ⟨rfl, 0, by omega, rfl, Below.refl _ _⟩
  case round =>
    obtain ⟨rfl, k, hk, rfl, hbr⟩ := hrel
    have hst := HST.out.below hbr
    have i1 := hst.bk.cs 0 vi rfl
    rw [HVI.out] at i1
    by_cases hlt : k < Li
    · have hlt' : (k : Int) < (Li : Int) := by omega
      obtain ⟨g, rfl⟩ : ∃ g, ai = some ⟨g, 0, none⟩ := by
        rcases hgi with h0 | h0
        · omega
        · exact h0
      obtain ⟨x, hx⟩ : ∃ x, ibs[k]? = some x := ⟨_, List.getElem?_eq_getElem (by have := HLi.out; omega)⟩
      have hoi := hst.oi
      rw [HVI.out, ← HLi.out] at hoi
      have hc : ∀ j, j < 5 → wr.cell? ⟨g, k * 5 + j, none⟩ = x.cells[j]? := fun j hj => by
        rw [World.ownsRow.cellAt hoi (k * 5 + j) (by omega), ibCells_get ibs k x hx j hj]
      have c0 : wr.cell? ⟨g, k * 5, none⟩ = some (.int .i64 x.mark) := hc 0 (by decide)
      have c1 : wr.cell? ⟨g, k * 5 + 1, none⟩ = some x.l := hc 1 (by decide)
      have c2 : wr.cell? ⟨g, k * 5 + 2, none⟩ = some x.g1 := hc 2 (by decide)
      have c3 : wr.cell? ⟨g, k * 5 + 3, none⟩ = some x.g2 := hc 3 (by decide)
      have c4 : wr.cell? ⟨g, k * 5 + 4, none⟩ = some x.g3 := hc 4 (by decide)
      have hxo := hst.ib x (List.mem_of_getElem? hx)
      obtain ⟨a0, d0, e0, _⟩ := hxo.fl
      obtain ⟨a1, d1, e1, _⟩ := hxo.f1
      obtain ⟨a2, d2, e2, _⟩ := hxo.f2
      obtain ⟨a3, d3, e3, _⟩ := hxo.f3
      rw [e0] at c1
      rw [e1] at c2
      rw [e2] at c3
      rw [e3] at c4
      obtain ⟨wa, hwa⟩ : ∃ wa, wa = wr.alloc (.cells #[.int .i64 x.mark, .slice a0 x.n d0, .slice a1 (x.n + 1) d1, .slice a2 (x.n + 2) d2, .slice a3 (x.n + 3) d3] 76) := ⟨_, rfl⟩
      have hba : Below wr.heap.size wr wa := by rw [hwa]; exact (Below.refl _ _).alloc (Nat.le_refl _) _
      have n9 := hxo.n9
      have F0 : Hid (Fill wa (.slice a0 x.n d0) x.n [.int .i64 x.mark]) := by rw [← e0]; exact fill_below hxo.fl hba
      have F1 : Hid (Fill wa (.slice a1 (x.n + 1) d1) (x.n + 1) [.int .i64 x.mark]) := by rw [← e1]; exact fill_below hxo.f1 hba
      have F2 : Hid (Fill wa (.slice a2 (x.n + 2) d2) (x.n + 2) [.int .i64 x.mark]) := by rw [← e2]; exact fill_below hxo.f2 hba
      have F3 : Hid (Fill wa (.slice a3 (x.n + 3) d3) (x.n + 3) [.int .i64 x.mark]) := by rw [← e3]; exact fill_below hxo.f3 hba
      have HBA : Hid (Below wr0.heap.size wr0 wa) := hbr.trans (hba.mono hbr.size)
      have HWA : Hid (wa = wr.alloc (.cells #[.int .i64 x.mark, .slice a0 x.n d0, .slice a1 (x.n + 1) d1, .slice a2 (x.n + 2) d2, .slice a3 (x.n + 3) d3] 76)) := hwa
      have T1 : Hid True := trivial
      have T2 : Hid True := trivial
      have T3 : Hid True := trivial
      clear hoi hc hxo hst hx hba hwa e0 e1 e2 e3
      go_wp2_with (first
        | (clear T1; go_at_call 35; rw [← HWA.out]; refine (allInts_any wa _ x.n x.mark F0.out (by omega)).mono ?_; rintro e w2 ⟨rfl, hw⟩; rw [hw, HWA.out]; clear hw)
        | (clear T2; go_at_call 35; rw [← HWA.out]; refine (allInts_any wa _ (x.n + 1) x.mark F1.out (by omega)).mono ?_; rintro e w2 ⟨rfl, hw⟩; rw [hw, HWA.out]; clear hw)
        | (clear T3; go_at_call 35; rw [← HWA.out]; refine (allInts_any wa _ (x.n + 2) x.mark F2.out (by omega)).mono ?_; rintro e w2 ⟨rfl, hw⟩; rw [hw, HWA.out]; clear hw)
        | (go_at_call 35; rw [← HWA.out]; refine (allInts_any wa _ (x.n + 3) x.mark F3.out (by omega)).mono ?_; rintro e w2 ⟨rfl, hw⟩; rw [hw, HWA.out]; clear hw))
      go_roundw
      case rel => exact ⟨rfl, k + 1, by omega, by go_num, by rw [← HWA.out]; exact HBA.out⟩
      case measure => simp [intOf]; omega
    · have hlt' : ¬ (k : Int) < (Li : Int) := by omega
      have i2 := hst.bk.cs 1 vb rfl
      rw [HVB.out] at i2
      clear hst
      obtain ⟨W1, rfl⟩ : ∃ W1, W1 = wr := ⟨_, rfl⟩
      have HB1 : Hid (Below wr0.heap.size wr0 W1) := hbr
      clear hbr
      go_wp2
      clear i1 i2
      go_loopw [3, 10] (fun ok i wr => ok = .bool true ∧ ∃ k : Nat, k ≤ Lb ∧ i = .int .i64 k ∧ Below wr0.heap.size wr0 wr) (fun _ i _ => Lb - (intOf i).toNat)
      case atStart => exact ⟨rfl, 0, by omega, rfl, HB1.out⟩
      case round =>
        clear HB1
        obtain ⟨rfl, k2, hk2, rfl, hbr⟩ := hrel
        have hst := HST.out.below hbr
        have i2 := hst.bk.cs 1 vb rfl
        rw [HVB.out] at i2
        by_cases hlt2 : k2 < Lb
        · have hlt2' : (k2 : Int) < (Lb : Int) := by omega
          obtain ⟨g, rfl⟩ : ∃ g, ab = some ⟨g, 0, none⟩ := by
            rcases hgb with h0 | h0
            · omega
            · exact h0
          obtain ⟨x, hx⟩ : ∃ x, bbs[k2]? = some x := ⟨_, List.getElem?_eq_getElem (by have := HLb.out; omega)⟩
          have hob := hst.ob
          rw [HVB.out, ← HLb.out] at hob
          have hc : ∀ j, j < 3 → wr.cell? ⟨g, k2 * 3 + j, none⟩ = x.cells[j]? := fun j hj => by
            rw [World.ownsRow.cellAt hob (k2 * 3 + j) (by omega), bbCells_get bbs k2 x hx j hj]
          have c0 : wr.cell? ⟨g, k2 * 3, none⟩ = some (.int .i64 x.mark) := hc 0 (by decide)
          have c1 : wr.cell? ⟨g, k2 * 3 + 1, none⟩ = some (.int .i64 0) := hc 1 (by decide)
          have hxo := hst.bb x (List.mem_of_getElem? hx)
          obtain ⟨al, cl, hel, hfl⟩ := hxo.fl
          have c2 : wr.cell? ⟨g, k2 * 3 + 2, none⟩ = some (.slice al x.n cl) := by rw [← hel]; exact hc 2 (by decide)
          have n9 := hxo.n9
          have HFL : Hid (x.n = 0 ∨ ∃ b off, al = some ⟨b, off, none⟩ ∧ ∀ j, j < x.n → ∀ t u, [Value.int .i64 x.mark, .int .i64 0][t]? = some u → wr.cell? ⟨b, off + j * [Value.int .i64 x.mark, .int .i64 0].length + t, none⟩ = some u) := hfl
          obtain ⟨wa, hwa⟩ : ∃ wa, wa = wr.alloc (.cells #[.int .i64 x.mark, .int .i64 0, .slice al x.n cl] 79) := ⟨_, rfl⟩
          have hba : Below wr.heap.size wr wa := by rw [hwa]; exact (Below.refl _ _).alloc (Nat.le_refl _) _
          have HBA : Hid (Below wr0.heap.size wr0 wa) := hbr.trans (hba.mono hbr.size)
          have HWA : Hid (wa = wr.alloc (.cells #[.int .i64 x.mark, .int .i64 0, .slice al x.n cl] 79)) := hwa
          have HCA : Hid (∀ b off j v, wr.cell? ⟨b, off, none⟩ = some v → (wa.drewN j).cell? ⟨b, off, none⟩ = some v) := fun b off j v hv => (hba.cell (p := ⟨b, off, none⟩) (World.block_lt_of_cell? wr _ hv)).trans hv
          have hsw := hba.size
          have hwg : wa.heap[wr.heap.size]? = some (.cells #[.int .i64 x.mark, .int .i64 0, .slice al x.n cl] 79 (0, 0)) := by rw [hwa]; exact heap_alloc_last wr _
          obtain ⟨gb, hgbe⟩ : ∃ gb, gb = wr.heap.size := ⟨_, rfl⟩
          rw [← hgbe] at hwg
          have HGB : Hid (gb = wr.heap.size) := hgbe
          have HWG : Hid (wa.heap[gb]? = some (.cells #[.int .i64 x.mark, .int .i64 0, .slice al x.n cl] 79 (0, 0))) := hwg
          obtain ⟨N, hN⟩ : ∃ N, N = x.n := ⟨_, rfl⟩
          obtain ⟨MK, hMK⟩ : ∃ MK, MK = x.mark := ⟨_, rfl⟩
          rw [← hN, ← hMK] at HWA HWG HFL
          rw [← hN] at c2 n9
          rw [← hMK] at c0
          obtain ⟨W4, rfl⟩ : ∃ W4, W4 = wr := ⟨_, rfl⟩
          clear hob hc hxo hst hx hba hwa hwg hgbe hfl hel hN hMK
          go_wp2
          rw [← HWA.out, ← HGB.out]
          clear c0 c1 c2 i2
          go_loopw [3, 12] (fun ok i wd => ok = .bool true ∧ ∃ j : Nat, j ≤ N ∧ i = .int .i64 j ∧ ∃ m, wd = wa.drewN m) (fun _ i _ => N - (intOf i).toNat)
          case atStart => exact ⟨rfl, 0, by omega, rfl, 0, rfl⟩
          case round =>
            obtain ⟨rfl, j, hj, rfl, m, hwd⟩ := hrel
            obtain ⟨W5, rfl⟩ : ∃ W5, W5 = wr := ⟨_, rfl⟩
            have hgc : ∀ t v, #[Value.int .i64 MK, .int .i64 0, .slice al N cl][t]? = some v → W5.cell? ⟨gb, t, none⟩ = some v := fun t v hv => by
              rw [hwd]
              show wa.cell? ⟨gb, t, none⟩ = some v
              rw [cell_of_row _ _ t _ _ _ HWG.out]; exact hv
            have b0 := hgc 0 _ rfl
            have b1 := hgc 1 _ rfl
            have b2 := hgc 2 _ rfl
            clear hgc
            by_cases hjn : j < N
            · have hjn' : (j : Int) < (N : Int) := by omega
              obtain ⟨b, off, rfl, hcl⟩ : ∃ b off, al = some ⟨b, off, none⟩ ∧ ∀ j, j < N → ∀ t u, [Value.int .i64 MK, .int .i64 0][t]? = some u → W4.cell? ⟨b, off + j * [Value.int .i64 MK, .int .i64 0].length + t, none⟩ = some u := by
                rcases HFL.out with h0 | h0
                · omega
                · exact h0
              have k0 := HCA.out b (off + j * 2) m _ (hcl j hjn 0 _ rfl)
              rw [← hwd] at k0
              have k1 := HCA.out b (off + j * 2 + 1) m _ (hcl j hjn 1 _ rfl)
              rw [← hwd] at k1
              have HWD : Hid (W5 = wa.drewN m) := hwd
              clear hwd
              clear hcl
              go_wp2
              go_quiet (fail)
              go_wp2
              go_roundw
              case rel => exact ⟨rfl, j + 1, by omega, by go_num, m + nq, by rw [HWD.out, World.drewN_drewN]⟩
              case measure => simp [intOf]; omega
            · have hjn' : ¬ (j : Int) < (N : Int) := by omega
              have HWD : Hid (W5 = wa.drewN m) := hwd
              clear hwd
              go_wp2
              go_roundw
              case rel => exact ⟨rfl, k2 + 1, by omega, by go_num, by rw [HWD.out]; exact below_drewN HBA.out _⟩
              case measure => simp [intOf]; omega
        · have hlt2' : ¬ (k2 : Int) < (Lb : Int) := by omega
          have i3 := hst.bk.cs 2 (.slice none 0 0) rfl
          have i4 := hst.bk.cs 3 (.slice none 0 0) rfl
          clear hst
          obtain ⟨W2, rfl⟩ : ∃ W2, W2 = wr := ⟨_, rfl⟩
          go_wp2
          go_loop [3, 13] (fun ok i => ok = .bool true ∧ i = .int .i64 0) (fun _ _ => 0)
          case atStart => exact ⟨rfl, rfl⟩
          case round =>
            obtain ⟨rfl, rfl⟩ := hrel
            go_wp2
            go_loop [3, 19] (fun ok i => ok = .bool true ∧ i = .int .i64 0) (fun _ _ => 0)
            case atStart => exact ⟨rfl, rfl⟩
            case round =>
              obtain ⟨rfl, rfl⟩ := hrel
              go_wp2
              go_ret
              exact ⟨rfl, hbr⟩

end Go.Proofs.YtekfbphnoibnjaaGreatDoor
