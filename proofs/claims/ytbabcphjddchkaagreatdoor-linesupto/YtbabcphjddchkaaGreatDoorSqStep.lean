/-
  The step Squeeze of a script: what the program packs is read by the document.
-/
import Derived.Test.YtbabcphjddchkaaGreatDoorLooks
import Derived.Test.YtbabcphjddchkaaGreatDoorSqd2
import Derived.Test.YtbabcphjddchkaaGreatDoorStep1
import Derived.Deep.CutBlock
import Derived.Deep.DeepCutAuto
namespace Go.Proofs.YtbabcphjddchkaaGreatDoor
open Go.RowKit

/-- What a list of bits of a step reads as, in every world between steps. -/
theorem St.bitsIn {w wH wr : World} {p M : Nat} {own : Nat → Nat} {vi vb vw ve : Value} {ibs : List IntB} {bbs : List BitB} {wts : List Wt} {d : Nat} (h : St w wH wr p M own vi vb vw ve ibs bbs wts d) {a : Option Addr} {n : Nat} {bs : List (Int × Int)} (hz : BitsIn wH a n bs) (ha : ∀ x, a = some x → n ≠ 0 → x.block ≠ p) : BitsIn wr a n bs := by
  refine ⟨hz.1, ?_⟩
  rcases hz.2 with h0 | ⟨b, off, rfl, hb, hc⟩
  · exact .inl h0
  · by_cases hn : n = 0
    · exact .inl hn
    · have hk := h.kept b hb (ha _ rfl hn)
      exact .inr ⟨b, off, rfl, Nat.lt_of_lt_of_le hb h.sz, fun i hi => ⟨(World.cell?_of_block (a := ⟨b, off + i * 2, none⟩) hk).trans (hc i hi).1, (World.cell?_of_block (a := ⟨b, off + i * 2 + 1, none⟩) hk).trans (hc i hi).2⟩⟩
theorem St.intsIn {w wH wr : World} {p M : Nat} {own : Nat → Nat} {vi vb vw ve : Value} {ibs : List IntB} {bbs : List BitB} {wts : List Wt} {d : Nat} (h : St w wH wr p M own vi vb vw ve ibs bbs wts d) {a : Option Addr} {n : Nat} {zs : List Int} (hz : IntsIn wH a n zs) (ha : ∀ x, a = some x → n ≠ 0 → x.block ≠ p) : IntsIn wr a n zs := by
  refine ⟨hz.1, ?_⟩
  rcases hz.2 with h0 | ⟨b, off, rfl, hb, hc⟩
  · exact .inl h0
  · by_cases hn : n = 0
    · exact .inl hn
    · have hk := h.kept b hb (ha _ rfl hn)
      exact .inr ⟨b, off, rfl, Nat.lt_of_lt_of_le hb h.sz, fun i hi => (World.cell?_of_block (a := ⟨b, off + i, none⟩) hk).trans (hc i hi)⟩

theorem BitsIn.of_room {w : World} {B g n : Nat} {bs : List (Int × Int)} (h : BNums w B g (n + 8) (roomBits bs 8)) (hl : bs.length = n) : BitsIn w (some ⟨g, 0, none⟩) n bs := by
  refine ⟨hl, .inr ⟨g, 0, rfl, h.lt.2, fun i hi => ?_⟩⟩
  have hc := h.cell i (by omega)
  rw [roomBits_lo bs i (by omega)] at hc
  rw [Nat.zero_add]
  exact hc

/-- Cells of a block that a quiet call leaves alone. -/
theorem blk_below {w w' : World} {b : Nat} {c : Array Value} {t : TypeId} (h : w.heap[b]? = some (.cells c t (0, 0))) (f : Below w.heap.size w w') : w'.heap[b]? = some (.cells c t (0, 0)) := by
  have hb : b < w.heap.size := by
    rcases Nat.lt_or_ge b w.heap.size with h' | h'
    · exact h'
    · rw [Array.getElem?_eq_none h'] at h; cases h
  exact (f.block b hb).trans h

/-- The world ahead of the packed bytes' reading. -/
structure SqW (w wH wr : World) (p M : Nat) (vi vw ve : Value) (ibs : List IntB) (bn : Nat) (wts : List Wt) : Prop where
  st : ∃ own vb bbs, St w wH wr p M own vi vb vw ve ibs bbs wts 0 ∧ bbs.length = bn
theorem SqW.below {w wH wr wr' : World} {p M : Nat} {vi vw ve : Value} {ibs : List IntB} {bn : Nat} {wts : List Wt} (h : SqW w wH wr p M vi vw ve ibs bn wts) (f : Below wr.heap.size wr wr') : SqW w wH wr' p M vi vw ve ibs bn wts := by
  obtain ⟨own, vb, bbs, h1, h2⟩ := h.st
  exact ⟨own, vb, bbs, h1.below f, h2⟩
theorem SqW.bitsIn {w wH wr : World} {p M : Nat} {vi vw ve : Value} {ibs : List IntB} {bn : Nat} {wts : List Wt} (h : SqW w wH wr p M vi vw ve ibs bn wts) {a : Option Addr} {n : Nat} {bs : List (Int × Int)} (hz : BitsIn wH a n bs) (ha : ∀ x, a = some x → n ≠ 0 → x.block ≠ p) : BitsIn wr a n bs := by
  obtain ⟨own, vb, bbs, h1, _⟩ := h.st
  exact h1.bitsIn hz ha

/-- The fresh role of a list that was lent. -/
def own50 (own : Nat → Nat) (g : Nat) : Nat → Nat := fun k => if k = g then 50 else own k
theorem free50 : Free 50 := ⟨by decide, by decide, by decide, by decide, by decide, by decide, by decide⟩

/-- The list that was lent is looked at and marked. -/
theorem whole_sq {w wH W0 w2 : World} {p M : Nat} {own : Nat → Nat} {vi vb vw ve : Value} {ibs : List IntB} {bbs : List BitB} {wts : List Wt} (h : St w wH W0 p M own vi vb vw ve ibs bbs wts 0) (hb : Below W0.heap.size W0 w2) {g n cap : Nat} {a : Addr} {bs : List (Int × Int)} (hg : g = W0.heap.size)
    (hrl : BNums w2 w.heap.size g (n + 8) (roomBits bs 8)) (hz : BitsIn wH (some a) n bs) (ha : n ≠ 0 → a.block ≠ p) (hn : n ≤ 800000000) (hM : M ≤ 100000000) (hbl : bbs.length ≤ 100000000) :
    Calls Tryz.prog 34 #[.pointer (some ⟨p, 0, none⟩), .slice (some ⟨g, 0, none⟩) n (n + 8), .slice (some a) n cap] w2 fun x w' => x = .returned (.bool true) ∧ SqW w wH w' p (M + 1) vi vw ve ibs (bbs.length + 1) wts ∧ ∀ k, wH.heap.size ≤ k → k < w2.heap.size → k ≠ g → (∀ v, v = vb → v.ownBlock ≠ some k) → w'.heap[k]? = w2.heap[k]? := by
  have h2 : St w wH w2 p M (own50 own g) vi vb vw ve ibs bbs wts 0 := St.own (h.below hb) h (fun k hk => by unfold own50; rw [if_neg (by omega)])
  have hz2 := h2.bitsIn hz (fun x hx hn0 => by injection hx with hx; rw [← hx]; exact ha hn0)
  obtain ⟨ab, cb, hvb, _⟩ := owns_shape h2.ob
  have hp0 := h2.op
  have hog : own50 own g g = 50 := by unfold own50; rw [if_pos rfl]
  have hgp : g ≠ p := by have := h.bk.up; omega
  have hrb := h2.rb
  have hob := h2.ob
  rw [hvb] at hrb hob
  have hv1 : (bookVs vi vb vw ve)[1]? = some (.slice ab bbs.length cb) := by rw [← hvb]; rfl
  have hnb : ∀ k, own50 own g k ≠ 3 → (Value.slice ab bbs.length cb).ownBlock ≠ some k := fun k hk e => hk (hrb k e)
  have key := wholeBits_some w2 w.heap.size p M (bookVs vi vb vw ve) ab bbs.length cb (bbCells bbs) g n a cap bs h2.bk hv1 hob hrl hz2
    (fun hn0 hS => by
      have hab : a.block < wH.heap.size := by
        rcases hz.2 with h0 | ⟨b, off, e, hb', _⟩
        · exact absurd h0 hn0
        · injection e with e; rw [e]; exact hb'
      have h1 := h2.o1 a.block hab (ha hn0)
      rcases hS with e | e | e
      · exact ha hn0 e
      · rw [e, hog] at h1; exact absurd h1 (by decide)
      · have := hrb _ e; omega)
    (by rw [h.hp]; exact Nat.le_refl _)
    (hnb p (by rw [hp0]; decide)) hgp (hnb g (by rw [hog]; decide)) (by omega) (by omega) (by omega)
  refine key.mono ?_
  rintro x w' ⟨rfl, hm⟩
  refine ⟨rfl, ?_, ?_⟩
  · rw [← hvb] at hm
    obtain ⟨own', vb', x', hst⟩ := h2.bits hm hog free50 (fun i _ _ => by omega) (by omega) (by have := hrl.lt; omega)
    exact ⟨own', vb', _, hst, by simp⟩
  · obtain ⟨gi, ci, _, _, _, _, _, _, hfr⟩ := hm
    intro k hk1 hk2 hkg hkv
    refine hfr.block k hk2 (fun hS => ?_)
    rcases hS with e | e | e
    · have := h.hw; have := h.hp; omega
    · exact hkg e
    · exact hkv vb rfl (by rw [hvb]; exact e)

end Go.Proofs.YtbabcphjddchkaaGreatDoor
