/-
  The step Stretch of a script: what is lent is looked at and marked; what came out is kept.
-/
import Derived.Test.YtbabcphjddchkaaGreatDoorSqStep3
namespace Go.Proofs.YtbabcphjddchkaaGreatDoor
open Go.RowKit

theorem IntsIn.of_room {w : World} {B g n : Nat} {zs : List Int} (h : Nums w B g (n + 8) (roomRow zs 8)) (hl : zs.length = n) : IntsIn w (some ⟨g, 0, none⟩) n zs := by
  refine ⟨hl, .inr ⟨g, 0, rfl, h.lt.2, fun i hi => ?_⟩⟩
  have hc := h.cell i (by omega)
  rw [roomRow_lo zs i (by omega)] at hc
  rw [Nat.zero_add]
  exact hc
theorem IntsIn.of_fill {w : World} {g n N c : Nat} {m : Int} (h : Fill w (.slice (some ⟨g, 0, none⟩) N c) N [.int .i64 m]) (hn : n ≤ N) (hg : g < w.heap.size) : IntsIn w (some ⟨g, 0, none⟩) n (List.replicate n m) := by
  refine ⟨List.length_replicate, ?_⟩
  by_cases h0 : n = 0
  · exact .inl h0
  · obtain ⟨a, c', e, hh⟩ := h
    rcases hh with hh | ⟨b, off, rfl, hh⟩
    · omega
    · simp only [Value.slice.injEq, Option.some.injEq, Addr.mk.injEq, and_true, true_and] at e
      obtain ⟨⟨rfl, rfl⟩, rfl⟩ := e
      refine .inr ⟨g, 0, rfl, hg, fun i hi => ?_⟩
      have := hh i (by omega) 0 _ rfl
      rw [show 0 + i * [Value.int IntKind.i64 m].length + 0 = i by simp] at this
      rw [Nat.zero_add, this, List.getD_eq_getElem?_getD, List.getElem?_replicate, if_pos hi]
      rfl

/-- The list that was lent is looked at and marked. -/
theorem whole_st {w wH w4 : World} {p M : Nat} {own : Nat → Nat} {vi vb vw ve : Value} {ibs : List IntB} {bbs : List BitB} {wts : List Wt} (h : St w wH w4 p M own vi vb vw ve ibs bbs wts 0) {g n cap : Nat} {a : Addr} {zs : List Int} (hog : own g = 50)
    (hrl : Nums w4 w.heap.size g (n + 8) (roomRow zs 8)) (hz : IntsIn w4 (some a) n zs) (hn : n ≤ 800000000) (hM : M ≤ 100000000) (hil : ibs.length ≤ 100000000) :
    Calls Tryz.prog 40 #[.pointer (some ⟨p, 0, none⟩), .slice (some ⟨g, 0, none⟩) n (n + 8), .slice (some a) n cap] w4 fun x w' => x = .returned (.bool true) ∧ ∃ own' vi' ibs', St w wH w' p (M + 1) own' vi' vb vw ve ibs' bbs wts 0 ∧ ibs'.length = ibs.length + 1 ∧ (∀ k, k < w4.heap.size → own k ≠ 50 → own' k = own k) ∧ Fill w' (.slice (some ⟨g, 0, none⟩) (n + 8) (n + 8)) (n + 8) [.int .i64 (-((M : Int) + 1))] ∧ Frm (fun k => own k = 0 ∨ own k = 50 ∨ own k = 2) w4 w' := by
  obtain ⟨ai, ci, hvi, _⟩ := owns_shape h.oi
  have hri := h.ri
  have hoi := h.oi
  rw [hvi] at hri hoi
  have hv0 : (bookVs vi vb vw ve)[0]? = some (.slice ai ibs.length ci) := by rw [← hvi]; rfl
  have hgp : g ≠ p := fun e => by rw [e, h.op] at hog; exact absurd hog (by decide)
  have key := wholeInts_some w4 w.heap.size p M (bookVs vi vb vw ve) ai ibs.length ci (ibCells ibs) g n a cap zs h.bk hv0 hoi hrl hz h.bel.size (hri.ne1 (by rw [h.op]; decide)) hgp (hri.ne1 (by rw [hog]; decide)) (by omega) (by omega) (by omega)
  refine key.mono ?_
  rintro x w' ⟨rfl, hm⟩
  refine ⟨rfl, ?_⟩
  rw [← hvi] at hm
  have hrl' : role own (.slice (some ⟨g, 0, none⟩) (n + 8) (n + 8)) 50 := fun k hk => by simp [Value.ownBlock] at hk; rw [← hk]; exact hog
  obtain ⟨own', vi', x', hst, hkey, hfill, hfr⟩ := h.mark (d' := 0) hm hrl' free50 (Nat.le_refl _) (fun i _ _ => by omega) (by omega) (fun k hk => by simp [Value.ownBlock] at hk; have := hrl.lt; omega)
  refine ⟨own', vi', _, hst, by simp, hkey, hfill, hfr.mono (fun k _ hS => ?_)⟩
  rcases hS with e | e | e
  · exact .inl (by rw [e]; exact h.op)
  · exact .inr (.inl (hrl' k e))
  · exact .inr (.inr (h.ri k e))

/-- What came out is kept. -/
theorem keep_st {w wH wr : World} {p M : Nat} {own : Nat → Nat} {vi vb vw ve : Value} {ibs : List IntB} {bbs : List BitB} {wts : List Wt} (h : St w wH wr p M own vi vb vw ve ibs bbs wts 0) {r : Nat} {vl vy : Value} {zs : List Int} (hr : role own vl r) (fr : Free r) (hdr : ∀ i, i < wts.length → r ≠ 100 + i) (hol : wr.ownsRow w.heap.size 3 1 vl zs.length (ints zs))
    (hoy : wr.ownsRow w.heap.size 3 1 vy zs.length (ints zs)) (hyn : zs.length = 0 → vy = .slice none 0 0) (hry : role own vy 62) (n9 : zs.length ≤ 900000000) (hwl : wts.length ≤ 100000000) :
    Calls Tryz.prog 41 #[.pointer (some ⟨p, 0, none⟩), vl, vy] wr fun e w' => e = .returned (.tuple #[]) ∧ ∃ own' vw' ve' wts', St w wH w' p M own' vi vb vw' ve' ibs bbs wts' 0 ∧ wts'.length = wts.length + 1 ∧ (∀ k, k < wr.heap.size → own k ≠ r → own' k = own k) ∧ Frm (fun k => own k = 0 ∨ own k = 4 ∨ own k = 5) wr w' := by
  obtain ⟨aw, cw, hvw, _⟩ := owns_shape h.ow
  obtain ⟨ae, ce, hve, _⟩ := owns_shape h.oe
  obtain ⟨al, cl, hvl, _⟩ := owns_shape hol
  have hrw := h.rw'
  have hre := h.re
  have how := h.ow
  have hoe := h.oe
  rw [hvw] at hrw how
  rw [hve] at hre hoe
  have hv4 : (bookVs vi vb vw ve)[4]? = some (.slice aw wts.length cw) := by rw [← hvw]; rfl
  have hv5 : (bookVs vi vb vw ve)[5]? = some (.slice ae wts.length ce) := by rw [← hve]; rfl
  have key : Calls Tryz.prog 41 #[.pointer (some ⟨p, 0, none⟩), vl, vy] wr fun x w' => x = .returned (.tuple #[]) ∧ KeptInts wr w' w.heap.size p M (bookVs vi vb vw ve) vw ve wts.length wts.length (wts.map (·.l)) (wts.map (·.y)) vl zs.length zs := by
    by_cases h0 : zs.length = 0
    · have e0 : zs = [] := List.eq_nil_of_length_eq_zero h0
      have := keepInts_nil wr w.heap.size p M (bookVs vi vb vw ve) aw wts.length cw ae wts.length ce (wts.map (·.l)) (wts.map (·.y)) al zs.length cl h.bk hv4 hv5 how hoe h.bel.size (hrw.ne1 (by rw [h.op]; decide)) (hre.ne1 (by rw [h.op]; decide)) (hrw.ne hre (by decide)) (by omega) (by omega)
      rw [← hvl, ← hvw, ← hve, ← hyn h0] at this
      rw [e0]
      exact this
    · rcases hoy.2 with ⟨_, h1⟩ | ⟨yg, yc, cur, hy, _⟩
      · exact absurd h1 h0
      · have hoy' := hoy
        rw [hy] at hoy'
        have hog : own yg = 62 := hry yg (by rw [hy]; rfl)
        have := keepInts_some wr w.heap.size p M (bookVs vi vb vw ve) aw wts.length cw ae wts.length ce (wts.map (·.l)) (wts.map (·.y)) al zs.length cl yg zs.length yc zs h.bk hv4 hv5 how hoe hoy' (by omega) h.bel.size (hrw.ne1 (by rw [h.op]; decide)) (hre.ne1 (by rw [h.op]; decide)) (hrw.ne hre (by decide)) (hrw.ne1 (by rw [hog]; decide)) (fun e => by rw [e, h.op] at hog; exact absurd hog (by decide)) (by omega) (by omega) (by omega)
        rw [← hvl, ← hvw, ← hve, ← hy] at this
        exact this
  refine key.mono ?_
  rintro x w' ⟨rfl, hm⟩
  refine ⟨rfl, ?_⟩
  obtain ⟨own', vw', ve', x', hst, hkey, hfr⟩ := h.keep hm hr fr hdr n9 hol
  refine ⟨own', vw', ve', _, hst, by simp, hkey, hfr.mono (fun k _ hS => ?_)⟩
  rcases hS with e | e | e
  · exact .inl (by rw [e]; exact h.op)
  · exact .inr (.inl (h.rw' k e))
  · exact .inr (.inr (h.re k e))

/-- The roles of what a step Stretch makes. -/
def own6 (own : Nat → Nat) (ob g : Nat) (vk vb vj : Value) : Nat → Nat := fun k => if k = ob then 63 else if k = g then 50 else if vk.ownBlock = some k then 60 else if vb.ownBlock = some k then 61 else if vj.ownBlock = some k then 62 else own k
theorem free60 : Free 60 := ⟨by decide, by decide, by decide, by decide, by decide, by decide, by decide⟩
theorem free61 : Free 61 := ⟨by decide, by decide, by decide, by decide, by decide, by decide, by decide⟩

theorem own6_roles (own : Nat → Nat) {ob g s1 s2 s3 : Nat} {vk vb vj : Value} (hog : ob < g) (hg : g < s1) (h12 : s1 ≤ s2) (h23 : s2 ≤ s3) (hk : ∀ k, vk.ownBlock = some k → s1 ≤ k ∧ k < s2) (hb : ∀ k, vb.ownBlock = some k → s2 ≤ k ∧ k < s3) (hj : ∀ k, vj.ownBlock = some k → s3 ≤ k) :
    own6 own ob g vk vb vj ob = 63 ∧ own6 own ob g vk vb vj g = 50 ∧ role (own6 own ob g vk vb vj) vk 60 ∧ role (own6 own ob g vk vb vj) vb 61 ∧ role (own6 own ob g vk vb vj) vj 62 ∧ ∀ k, k < ob → own6 own ob g vk vb vj k = own k := by
  refine ⟨by unfold own6; rw [if_pos rfl], by unfold own6; rw [if_neg (by omega), if_pos rfl], fun k e => ?_, fun k e => ?_, fun k e => ?_, fun k e => ?_⟩
  · have := hk k e
    unfold own6
    rw [if_neg (by omega), if_neg (by omega), if_pos e]
  · have := hb k e
    unfold own6
    rw [if_neg (by omega), if_neg (by omega), if_neg (fun e' => by have := hk k e'; omega), if_pos e]
  · have := hj k e
    unfold own6
    rw [if_neg (by omega), if_neg (by omega), if_neg (fun e' => by have := hk k e'; omega), if_neg (fun e' => by have := hb k e'; omega), if_pos e]
  · unfold own6
    rw [if_neg (by omega), if_neg (by omega), if_neg (fun e' => by have := hk k e'; omega), if_neg (fun e' => by have := hb k e'; omega), if_neg (fun e' => by have := hj k e'; omega)]

theorem neqNilInts (w : World) : Sem.run Tryz.prog (binOp BinOp.neq 39 (Value.slice none 0 0) (Value.slice none 0 0)) w = .ok (.bool false) w := by kernel_rfl

end Go.Proofs.YtbabcphjddchkaaGreatDoor
