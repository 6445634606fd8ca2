/-
  What stands between two steps of a script of lines: the caller's book, all that is marked, all that waits; who owns which block.
-/
import Derived.Test.YtbabcphjddchkaaGreatDoorKeep
import Derived.Test.YtbabcphjddchkaaGreatDoorWholeBits
namespace Go.Proofs.YtbabcphjddchkaaGreatDoor
open Go.RowKit

/-- The block of v plays the role r. -/
def role (own : Nat → Nat) (v : Value) (r : Nat) : Prop := ∀ k, v.ownBlock = some k → own k = r
theorem role.congr {own own' : Nat → Nat} {v : Value} {r : Nat} (h : role own v r) (hc : ∀ k, v.ownBlock = some k → own' k = own k) : role own' v r := fun k hk => (hc k hk).trans (h k hk)
theorem role.ne {own : Nat → Nat} {v u : Value} {r s : Nat} (h : role own v r) (g : role own u s) (hrs : r ≠ s) : ∀ k, v.ownBlock = some k → u.ownBlock ≠ some k := fun k hk hu => hrs ((h k hk).symm.trans (g k hu))
theorem role.ne1 {own : Nat → Nat} {v : Value} {r k : Nat} (h : role own v r) (hk : own k ≠ r) : v.ownBlock ≠ some k := fun e => hk (h k e)

theorem fill_lt {w : World} {v : Value} {n : Nat} {us : List Value} (h : Fill w v n us) (hn : 0 < n) (hu : us ≠ []) : ∀ k, v.ownBlock = some k → k < w.heap.size := by
  obtain ⟨a, c, rfl, h⟩ := h
  intro k hk
  rcases h with h | ⟨b, off, rfl, h⟩
  · omega
  · simp [Value.ownBlock] at hk
    subst hk
    obtain ⟨u, us', rfl⟩ := List.exists_cons_of_ne_nil hu
    exact World.block_lt_of_cell? w _ (h 0 hn 0 u rfl)

/-- A marked list of numbers, in the book. -/
structure IntB where
  mark : Int
  n : Nat
  l : Value
  g1 : Value
  g2 : Value
  g3 : Value
def IntB.cells (x : IntB) : List Value := [.int .i64 x.mark, x.l, x.g1, x.g2, x.g3]
structure IntB.Ok (w : World) (own : Nat → Nat) (x : IntB) : Prop where
  fl : Fill w x.l x.n [.int .i64 x.mark]
  f1 : Fill w x.g1 (x.n + 1) [.int .i64 x.mark]
  f2 : Fill w x.g2 (x.n + 2) [.int .i64 x.mark]
  f3 : Fill w x.g3 (x.n + 3) [.int .i64 x.mark]
  rl : role own x.l 10
  r1 : role own x.g1 10
  r2 : role own x.g2 10
  r3 : role own x.g3 10
  n9 : x.n ≤ 900000000
  bl : ∀ k, x.l.ownBlock = some k → k < w.heap.size
theorem IntB.Ok.frm {S : Nat → Prop} {w w' : World} {own own' : Nat → Nat} {x : IntB} (h : x.Ok w own) (f : Frm S w w') (hS : ∀ k, own k = 10 → ¬ S k) (ho : ∀ k, k < w.heap.size → own k = 10 → own' k = 10) : x.Ok w' own' :=
  ⟨h.fl.frm f (fun k hk => hS k (h.rl k hk)), h.f1.frm f (fun k hk => hS k (h.r1 k hk)), h.f2.frm f (fun k hk => hS k (h.r2 k hk)), h.f3.frm f (fun k hk => hS k (h.r3 k hk)),
    fun k hk => ho k (h.bl k hk) (h.rl k hk), fun k hk => ho k (fill_lt h.f1 (Nat.succ_pos _) (List.cons_ne_nil _ _) k hk) (h.r1 k hk), fun k hk => ho k (fill_lt h.f2 (Nat.succ_pos _) (List.cons_ne_nil _ _) k hk) (h.r2 k hk), fun k hk => ho k (fill_lt h.f3 (Nat.succ_pos _) (List.cons_ne_nil _ _) k hk) (h.r3 k hk), h.n9,
    fun k hk => Nat.lt_of_lt_of_le (h.bl k hk) f.size⟩

/-- A marked list of bits, in the book. -/
structure BitB where
  mark : Int
  n : Nat
  l : Value
def BitB.cells (x : BitB) : List Value := [.int .i64 x.mark, .int .i64 0, x.l]
structure BitB.Ok (w : World) (own : Nat → Nat) (x : BitB) : Prop where
  fl : Fill w x.l x.n [.int .i64 x.mark, .int .i64 0]
  rl : role own x.l 10
  n9 : x.n ≤ 900000000
  bl : ∀ k, x.l.ownBlock = some k → k < w.heap.size
theorem BitB.Ok.frm {S : Nat → Prop} {w w' : World} {own own' : Nat → Nat} {x : BitB} (h : x.Ok w own) (f : Frm S w w') (hS : ∀ k, own k = 10 → ¬ S k) (ho : ∀ k, k < w.heap.size → own k = 10 → own' k = 10) : x.Ok w' own' :=
  ⟨h.fl.frm f (fun k hk => hS k (h.rl k hk)), fun k hk => ho k (h.bl k hk) (h.rl k hk), h.n9, fun k hk => Nat.lt_of_lt_of_le (h.bl k hk) f.size⟩

/-- A list of numbers that waits, beside what it should be. -/
structure Wt where
  l : Value
  y : Value
  zs : List Int
structure Wt.Ok (w : World) (B : Nat) (own : Nat → Nat) (i : Nat) (x : Wt) : Prop where
  ol : w.ownsRow B 3 1 x.l x.zs.length (ints x.zs)
  oy : w.ownsRow B 3 1 x.y x.zs.length (ints x.zs)
  rl : role own x.l (100 + i)
  ry : role own x.y 10
  n9 : x.zs.length ≤ 900000000
theorem Wt.Ok.frm {S : Nat → Prop} {w w' : World} {B : Nat} {own own' : Nat → Nat} {i : Nat} {x : Wt} (h : x.Ok w B own i) (f : Frm S w w') (hS : ∀ k, own k = 10 ∨ own k = 100 + i → ¬ S k) (ho : ∀ k, k < w.heap.size → own k = 10 ∨ own k = 100 + i → own' k = own k) : x.Ok w' B own' i :=
  ⟨f.owns h.ol (fun k hk => hS k (.inr (h.rl k hk))), f.owns h.oy (fun k hk => hS k (.inl (h.ry k hk))), h.rl.congr (fun k hk => ho k (World.ownsRow.lt h.ol k hk).2 (.inr (h.rl k hk))), h.ry.congr (fun k hk => ho k (World.ownsRow.lt h.oy k hk).2 (.inl (h.ry k hk))), h.n9⟩

def ibCells (l : List IntB) : List Value := l.flatMap IntB.cells
def bbCells (l : List BitB) : List Value := l.flatMap BitB.cells
theorem ibCells_snoc (l : List IntB) (x : IntB) : ibCells (l ++ [x]) = ibCells l ++ x.cells := by simp [ibCells]
theorem bbCells_snoc (l : List BitB) (x : BitB) : bbCells (l ++ [x]) = bbCells l ++ x.cells := by simp [bbCells]

def bookVs (vi vb vw ve : Value) : List Value := [vi, vb, .slice none 0 0, .slice none 0 0, vw, ve, .slice none 0 0, .slice none 0 0]

/-- All that stands. d: how many of those that wait are marked already. -/
structure St (w wH wr : World) (p M : Nat) (own : Nat → Nat) (vi vb vw ve : Value) (ibs : List IntB) (bbs : List BitB) (wts : List Wt) (d : Nat) : Prop where
  bk : BookAt wr p M (bookVs vi vb vw ve)
  oi : wr.ownsRow w.heap.size 59 5 vi ibs.length (ibCells ibs)
  ob : wr.ownsRow w.heap.size 62 3 vb bbs.length (bbCells bbs)
  ow : wr.ownsRow w.heap.size 39 1 vw wts.length (wts.map (·.l))
  oe : wr.ownsRow w.heap.size 39 1 ve wts.length (wts.map (·.y))
  ri : role own vi 2
  rb : role own vb 3
  rw' : role own vw 4
  re : role own ve 5
  ib : ∀ x ∈ ibs, x.Ok wr own
  bb : ∀ x ∈ bbs, x.Ok wr own
  wt : ∀ i x, wts[i]? = some x → d ≤ i → x.Ok wr w.heap.size own i
  op : own p = 0
  o1 : ∀ k, k < wH.heap.size → k ≠ p → own k = 1
  sz : wH.heap.size ≤ wr.heap.size
  kept : ∀ k, k < wH.heap.size → k ≠ p → wr.heap[k]? = wH.heap[k]?
  bel : Below w.heap.size w wr
  hp : w.heap.size = p
  hw : w.heap.size < wH.heap.size

/-- The values of the rows are blocks that are there. -/
theorem St.role_lt {w wH wr : World} {p M : Nat} {own : Nat → Nat} {vi vb vw ve : Value} {ibs : List IntB} {bbs : List BitB} {wts : List Wt} {d : Nat} (h : St w wH wr p M own vi vb vw ve ibs bbs wts d) :
    (∀ k, vi.ownBlock = some k → k < wr.heap.size) ∧ (∀ k, vb.ownBlock = some k → k < wr.heap.size) ∧ (∀ k, vw.ownBlock = some k → k < wr.heap.size) ∧ (∀ k, ve.ownBlock = some k → k < wr.heap.size) :=
  ⟨fun k e => (World.ownsRow.lt h.oi k e).2, fun k e => (World.ownsRow.lt h.ob k e).2, fun k e => (World.ownsRow.lt h.ow k e).2, fun k e => (World.ownsRow.lt h.oe k e).2⟩

/-- A quiet call: no old block has turned. -/
theorem St.below {w wH wr wr' : World} {p M : Nat} {own : Nat → Nat} {vi vb vw ve : Value} {ibs : List IntB} {bbs : List BitB} {wts : List Wt} {d : Nat} (h : St w wH wr p M own vi vb vw ve ibs bbs wts d) (f : Below wr.heap.size wr wr') : St w wH wr' p M own vi vb vw ve ibs bbs wts d := by
  have fr : Frm (fun _ => False) wr wr' := Frm.of_below f
  exact ⟨h.bk.frm fr (fun e => e), fr.owns h.oi (fun _ _ e => e), fr.owns h.ob (fun _ _ e => e), fr.owns h.ow (fun _ _ e => e), fr.owns h.oe (fun _ _ e => e), h.ri, h.rb, h.rw', h.re,
    fun x hx => (h.ib x hx).frm fr (fun _ _ e => e) (fun _ _ e => e), fun x hx => (h.bb x hx).frm fr (fun _ _ e => e) (fun _ _ e => e), fun i x hx hd => (h.wt i x hx hd).frm fr (fun _ _ e => e) (fun _ _ _ => rfl),
    h.op, h.o1, Nat.le_trans h.sz f.size, fun k hk hp => (f.block k (Nat.lt_of_lt_of_le hk h.sz)).trans (h.kept k hk hp), h.bel.trans (f.mono h.bel.size), h.hp, h.hw⟩

end Go.Proofs.YtbabcphjddchkaaGreatDoor
