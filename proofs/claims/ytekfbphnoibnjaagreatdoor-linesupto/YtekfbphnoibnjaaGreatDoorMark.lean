/-
  The caller's book: a list of numbers is written over with a mark of its own, and appended to.
-/
import Derived.Test.YtekfbphnoibnjaaGreatDoorApp
import Derived.Deep.RegionHeld3
import Derived.Deep.RegionLaw
import Derived.BigRegion
import Derived.Deep.AppendLies
namespace Go.Proofs.YtekfbphnoibnjaaGreatDoor
open Go.RowKit

/-- The book at block p: how many marks, and its eight lists. -/
structure BookAt (w : World) (p : Nat) (M : Nat) (vs : List Value) : Prop where
  c0 : w.cell? ⟨p, 0, none⟩ = some (.int .i64 M)
  cs : ∀ j v, vs[j]? = some v → w.cell? ⟨p, j + 1, none⟩ = some v
  len : vs.length = 8
  fz : ∀ o, w.frozen? ⟨p, o, none⟩ = false
  up : p < w.heap.size

theorem BookAt.of_block {w w' : World} {p M : Nat} {vs : List Value} (h : BookAt w p M vs) (hb : w'.heap[p]? = w.heap[p]?) (hz : w.heap.size ≤ w'.heap.size) : BookAt w' p M vs := by
  have hc : ∀ o, w'.cell? ⟨p, o, none⟩ = w.cell? ⟨p, o, none⟩ := fun o => World.cell?_of_block (a := ⟨p, o, none⟩) hb
  exact ⟨(hc 0).trans h.c0, fun j v hv => (hc (j + 1)).trans (h.cs j v hv), h.len, fun o => (World.frozen?_of_block (a := ⟨p, o, none⟩) hb).trans (h.fz o), Nat.lt_of_lt_of_le h.up hz⟩
theorem BookAt.frm {S : Nat → Prop} {w w' : World} {p M : Nat} {vs : List Value} (h : BookAt w p M vs) (f : Frm S w w') (hn : ¬ S p) : BookAt w' p M vs := h.of_block (f.block p h.up hn) f.size
theorem BookAt.put0 {w : World} {p M : Nat} {vs : List Value} (h : BookAt w p M vs) (M' : Nat) : BookAt (w.setCell ⟨p, 0, none⟩ (.int .i64 M')) p M' vs :=
  ⟨World.cell?_setCell_same _ _ _ h.c0, fun j v hv => cell_off (h.cs j v hv) (.inr (by omega)), h.len, fun o => by rw [World.frozen?_setCell]; exact h.fz o, by rw [World.size_setCell]; exact h.up⟩
theorem BookAt.put {w : World} {p M : Nat} {vs : List Value} (h : BookAt w p M vs) (i : Nat) (hi : i < 8) (u : Value) : BookAt (w.setCell ⟨p, i + 1, none⟩ u) p M (vs.set i u) := by
  have hl := h.len
  refine ⟨cell_off h.c0 (.inr (by omega)), fun j v hv => ?_, by simpa using hl, fun o => by rw [World.frozen?_setCell]; exact h.fz o, by rw [World.size_setCell]; exact h.up⟩
  by_cases e : i = j
  · subst e
    rw [List.getElem?_set, if_pos rfl, if_pos (by omega)] at hv
    injection hv with hv
    subst hv
    obtain ⟨x, hx⟩ : ∃ x, vs[i]? = some x := ⟨_, List.getElem?_eq_getElem (by omega)⟩
    exact World.cell?_setCell_same _ _ _ (h.cs i x hx)
  · rw [List.getElem?_set, if_neg e] at hv
    exact cell_off (h.cs j v hv) (.inr (by omega))

/-- All n elements of the slice v read as the cells us. -/
def Fill (w : World) (v : Value) (n : Nat) (us : List Value) : Prop :=
  ∃ a c, v = .slice a n c ∧ (n = 0 ∨ ∃ b off, a = some ⟨b, off, none⟩ ∧ ∀ j, j < n → ∀ t u, us[t]? = some u → w.cell? ⟨b, off + j * us.length + t, none⟩ = some u)

theorem Fill.frm {S : Nat → Prop} {w w' : World} {v : Value} {n : Nat} {us : List Value} (h : Fill w v n us) (f : Frm S w w') (hn : ∀ k, v.ownBlock = some k → ¬ S k) : Fill w' v n us := by
  obtain ⟨a, c, rfl, h⟩ := h
  refine ⟨a, c, rfl, ?_⟩
  rcases h with h | ⟨b, off, rfl, h⟩
  · exact .inl h
  · exact .inr ⟨b, off, rfl, fun j hj t u hu => f.cell (h j hj t u hu) (hn b rfl)⟩

theorem Fill.of_ints {w : World} {base : Nat} {v : Value} {n : Nat} {m : Int} (h : w.ownsRow base 3 1 v n (ints (List.replicate n m))) : Fill w v n [.int .i64 m] := by
  rcases h.2 with ⟨rfl, rfl⟩ | ⟨g, cap, cur, rfl, hb, hr⟩
  · exact ⟨_, _, rfl, .inl rfl⟩
  · refine ⟨_, _, rfl, .inr ⟨g, 0, rfl, fun j hj t u hu => ?_⟩⟩
    match t, hu with
    | 0, hu =>
      simp at hu
      subst hu
      have hc := World.ownsRow.cellAt h j (by omega)
      rw [show 0 + j * [Value.int IntKind.i64 m].length + 0 = j by simp, hc]
      simp [ints, hj]

/-- The first j of these numbers are the mark already. -/
def markRow (zs : List Int) (j : Nat) (m : Int) : List Int := List.replicate j m ++ zs.drop j
theorem markRow_zero (zs : List Int) (m : Int) : markRow zs 0 m = zs := by simp [markRow]
theorem markRow_full (zs : List Int) (m : Int) : markRow zs zs.length m = List.replicate zs.length m := by simp [markRow]
theorem markRow_set (zs : List Int) (j : Nat) (m : Int) (h : j < zs.length) : (markRow zs j m).set j m = markRow zs (j + 1) m := by
  unfold markRow
  rw [List.set_append_right _ _ (by simp), List.length_replicate, Nat.sub_self, List.drop_eq_getElem_cons h, List.set_cons_zero, List.replicate_succ' (n := j)]
  simp

theorem rep_app (n k : Nat) (m : Int) : ints (List.replicate n m) ++ ints (List.replicate k m) = ints (List.replicate (n + k) m) := by
  simp [ints]

theorem infoIB : (Tryz.prog.info? 76).map (fun i => (i.zero, i.size, i.bytes)) = some (some (.agg #[.int .i64 0, .slice none 0 0, .slice none 0 0, .slice none 0 0, .slice none 0 0]), 5, 104) := by kernel_rfl

/-- Block b holds just these cells. -/
def Blk (w : World) (b : Nat) (cs : List Value) (e : TypeId) : Prop := w.heap[b]? = some (.cells cs.toArray e (0, 0))
theorem Blk.cell {w : World} {b : Nat} {cs : List Value} {e : TypeId} (h : Blk w b cs e) (j : Nat) (v : Value) (hv : cs[j]? = some v) : w.cell? ⟨b, j, none⟩ = some v := by
  rw [cell_of_row w b j _ _ _ h]; simpa using hv
theorem Blk.frozen {w : World} {b : Nat} {cs : List Value} {e : TypeId} (h : Blk w b cs e) (j : Nat) : w.frozen? ⟨b, j, none⟩ = false := frozen_of_row w b j _ _ h
theorem Blk.lt {w : World} {b : Nat} {cs : List Value} {e : TypeId} (h : Blk w b cs e) : b < w.heap.size := by
  rcases Nat.lt_or_ge b w.heap.size with h' | h'
  · exact h'
  · unfold Blk at h; rw [Array.getElem?_eq_none h'] at h; cases h
theorem Blk.of {w w' : World} {b : Nat} {cs : List Value} {e : TypeId} (h : Blk w b cs e) (hb : w'.heap[b]? = w.heap[b]?) : Blk w' b cs e := hb.trans h
theorem Blk.alloc {w : World} {b : Nat} {cs : List Value} {e : TypeId} (h : Blk w b cs e) (o : Obj) : Blk (w.alloc o) b cs e := h.of (Below.heap_alloc w o b h.lt)
theorem Blk.grown {w w' : World} {b : Nat} {cs : List Value} {e : TypeId} {row : Option Nat} (h : Blk w b cs e) (hg : w.grownBy w' row) (hn : row ≠ some b) : Blk w' b cs e := h.of (hg.block b h.lt (fun k => hn k.symm))
theorem Blk.set {w : World} {b : Nat} {cs : List Value} {e : TypeId} (h : Blk w b cs e) (j : Nat) (v : Value) : Blk (w.setCell ⟨b, j, none⟩ v) b (cs.set j v) e := by
  unfold Blk
  rw [heap_setCell_same w b j _ e v h]
  simp
theorem Blk.new (w : World) (cs : List Value) (e : TypeId) : Blk (w.alloc (.cells cs.toArray e)) w.heap.size cs e := by
  show (w.heap.push _)[w.heap.size]? = _
  simp

def markS (p : Nat) (vl vi : Value) : Nat → Prop := fun k => k = p ∨ vl.ownBlock = some k ∨ vi.ownBlock = some k

/-- What stands while a list is being marked. -/
structure MK (w wr : World) (B p M : Nat) (vs : List Value) (vi vl : Value) (ik n : Nat) (rows : List Value) (xs : List Int) : Prop where
  bk : BookAt wr p M vs
  ri : wr.ownsRow B 76 5 vi ik rows
  rl : wr.ownsRow B 3 1 vl n (ints xs)
  fr : Frm (markS p vl vi) w wr

theorem MK.alloc {w wr : World} {B p M : Nat} {vs : List Value} {vi vl : Value} {ik n : Nat} {rows : List Value} {xs : List Int} (h : MK w wr B p M vs vi vl ik n rows xs) (o : Obj) : MK w (wr.alloc o) B p M vs vi vl ik n rows xs :=
  ⟨h.bk.of_block (Below.heap_alloc wr o p h.bk.up) (by simp), h.ri.alloc o, h.rl.alloc o, h.fr.alloc o⟩
/-- A write into a new block. -/
theorem MK.setNew {w wr : World} {B p M : Nat} {vs : List Value} {vi vl : Value} {ik n : Nat} {rows : List Value} {xs : List Int} (h : MK w wr B p M vs vi vl ik n rows xs) (b j : Nat) (v : Value) (hp : b ≠ p) (hi : vi.ownBlock ≠ some b) (hl : vl.ownBlock ≠ some b) (hb : w.heap.size ≤ b) : MK w (wr.setCell ⟨b, j, none⟩ v) B p M vs vi vl ik n rows xs :=
  ⟨h.bk.of_block (Below.heap_setCell wr ⟨b, j, none⟩ v p (fun e => hp e.symm)) (by simp), h.ri.kept (grown_setCell wr b j v) (.inr hi), h.rl.kept (grown_setCell wr b j v) (.inr hl), h.fr.setCell (.inr hb) v⟩
theorem MK.app {w wr w1 : World} {B p M : Nat} {vs : List Value} {vi vl : Value} {ik n : Nat} {rows : List Value} {xs : List Int} (h : MK w wr B p M vs vi vl ik n rows xs) (hg : wr.grownBy w1 vl.ownBlock) (hl : w1.ownsRow B 3 1 vl n (ints xs)) (n2 : vl.ownBlock ≠ some p) (n3 : ∀ k, vl.ownBlock = some k → vi.ownBlock ≠ some k) : MK w w1 B p M vs vi vl ik n rows xs :=
  ⟨h.bk.of_block (hg.block p h.bk.up (fun e => n2 e.symm)) hg.size, h.ri.kept hg (by
    cases hv : vi.ownBlock with
    | none => exact .inl rfl
    | some k => exact .inr (fun e => n3 k e.symm hv)), hl, h.fr.grown hg (fun k hk => .inl (.inr (.inl hk)))⟩

theorem fill_setOther {w : World} {g k cap b j : Nat} {us : List Value} {v : Value} (h : Fill w (.slice (some ⟨g, 0, none⟩) k cap) k us) (hne : b ≠ g) : Fill (w.setCell ⟨b, j, none⟩ v) (.slice (some ⟨g, 0, none⟩) k cap) k us := by
  obtain ⟨a, c, e, h⟩ := h
  refine ⟨a, c, e, ?_⟩
  rcases h with h | ⟨b', off, rfl, h⟩
  · exact .inl h
  · simp only [Value.slice.injEq, Option.some.injEq, Addr.mk.injEq, and_true, true_and] at e
    obtain ⟨⟨rfl, rfl⟩, rfl⟩ := e
    exact .inr ⟨g, 0, rfl, fun j' hj t u hu => cell_off (h j' hj t u hu) (.inl hne)⟩
theorem fill_alloc {w : World} {v : Value} {k : Nat} {us : List Value} (h : Fill w v k us) (o : Obj) : Fill (w.alloc o) v k us := by
  obtain ⟨a, c, rfl, h⟩ := h
  refine ⟨a, c, rfl, ?_⟩
  rcases h with h | ⟨b, off, rfl, h⟩
  · exact .inl h
  · refine .inr ⟨b, off, rfl, fun j hj t u hu => ?_⟩
    have hc := h j hj t u hu
    exact (World.cell?_of_block (Below.heap_alloc w o b (World.block_lt_of_cell? w _ hc))).trans hc
/-- A slice of marks stays one behind an append of marks. -/
theorem fill_app {X w2 : World} {B g k cap g2 N cap2 : Nat} {vb : Option Nat} {m : Int} (h : Fill X (.slice (some ⟨g, 0, none⟩) k cap) k [.int .i64 m]) (hg : X.grownBy w2 vb) (hl : vb = some g2 ∨ X.grownBy w2 none)
    (ho : w2.ownsRow B 3 1 (.slice (some ⟨g2, 0, none⟩) N cap2) N (ints (List.replicate N m))) (hk : k ≤ N) : Fill w2 (.slice (some ⟨g, 0, none⟩) k cap) k [.int .i64 m] := by
  obtain ⟨a, c, e, h⟩ := h
  refine ⟨a, c, e, ?_⟩
  rcases h with h | ⟨b', off, rfl, h⟩
  · exact .inl h
  · simp only [Value.slice.injEq, Option.some.injEq, Addr.mk.injEq, and_true, true_and] at e
    obtain ⟨⟨rfl, rfl⟩, rfl⟩ := e
    refine .inr ⟨g, 0, rfl, fun j hj t u hu => ?_⟩
    have hc := h j hj t u hu
    by_cases e : vb = some g
    · rcases hl with hl | hl
      · have : g2 = g := by rw [e] at hl; injection hl with hl; exact hl.symm
        subst this
        match t, hu with
        | 0, hu =>
          simp at hu
          subst hu
          have hc := World.ownsRow.cellAt ho j (by omega)
          rw [show 0 + j * [Value.int IntKind.i64 m].length + 0 = j by simp, hc]
          simp [ints, show j < N by omega]
      · exact hl.cell hc (by simp)
    · exact hg.cell hc (fun k => e k.symm)

theorem news_new (X : World) (cs : List Value) (e : TypeId) (H : Nat) (hH : X.heap.size = H) : ∀ j u, cs[j]? = some u → (X.alloc (.cells cs.toArray e)).cell? ((⟨H, 0, none⟩ : Addr).add j) = some u := by
  intro j u hu
  subst hH
  exact World.news_of_block (cs := cs.toArray) (t := e) (fr := (0, 0)) (Blk.new X cs e) j u (by simpa using hu)

/-- What stands behind the marking of a list of numbers. -/
def MarkedInts (w w' : World) (B p M : Nat) (vs : List Value) (vi vl : Value) (ik n : Nat) (rows : List Value) : Prop :=
  ∃ gi ci g1 e1 g2 e2 g3 e3 : Nat, BookAt w' p (M + 1) (vs.set 0 (.slice (some ⟨gi, 0, none⟩) (ik + 1) ci)) ∧
    w'.ownsRow B 76 5 (.slice (some ⟨gi, 0, none⟩) (ik + 1) ci) (ik + 1) (rows ++ [.int .i64 (-((M : Int) + 1)), vl, .slice (some ⟨g1, 0, none⟩) (n + 1) e1, .slice (some ⟨g2, 0, none⟩) (n + 2) e2, .slice (some ⟨g3, 0, none⟩) (n + 3) e3]) ∧
    Fill w' vl n [.int .i64 (-((M : Int) + 1))] ∧ Fill w' (.slice (some ⟨g1, 0, none⟩) (n + 1) e1) (n + 1) [.int .i64 (-((M : Int) + 1))] ∧ Fill w' (.slice (some ⟨g2, 0, none⟩) (n + 2) e2) (n + 2) [.int .i64 (-((M : Int) + 1))] ∧ Fill w' (.slice (some ⟨g3, 0, none⟩) (n + 3) e3) (n + 3) [.int .i64 (-((M : Int) + 1))] ∧
    (vi.ownBlock = some gi ∨ w.heap.size ≤ gi) ∧ (vl.ownBlock = some g1 ∨ w.heap.size ≤ g1) ∧ (vl.ownBlock = some g2 ∨ w.heap.size ≤ g2) ∧ (vl.ownBlock = some g3 ∨ w.heap.size ≤ g3) ∧
    (gi ≠ g1 ∧ gi ≠ g2 ∧ gi ≠ g3) ∧ gi ≠ p ∧ vl.ownBlock ≠ some gi ∧ Frm (markS p vl vi) w w'

theorem mark_done {w w4 w5 : World} {B p M : Nat} {vs : List Value} {vi vl : Value} {ik n : Nat} {rows : List Value} {g1 e1 g2 e2 g3 e3 gg cap : Nat} {o : Obj}
    (HX : MK w w4 B p (M + 1) vs vi vl ik n rows (List.replicate n (-((M : Int) + 1))))
    (F1 : Fill w4 (.slice (some ⟨g1, 0, none⟩) (n + 1) e1) (n + 1) [.int .i64 (-((M : Int) + 1))]) (F2 : Fill w4 (.slice (some ⟨g2, 0, none⟩) (n + 2) e2) (n + 2) [.int .i64 (-((M : Int) + 1))]) (F3 : Fill w4 (.slice (some ⟨g3, 0, none⟩) (n + 3) e3) (n + 3) [.int .i64 (-((M : Int) + 1))])
    (bb : Nat) (hbw : w.heap.size ≤ bb) (h1 : g1 < w4.heap.size) (h2 : g2 < w4.heap.size) (h3 : g3 < w4.heap.size) (L1 : vl.ownBlock = some g1 ∨ bb + 2 ≤ g1) (L2 : vl.ownBlock = some g2 ∨ bb + 2 ≤ g2) (L3 : vl.ownBlock = some g3 ∨ bb + 2 ≤ g3)
    (N1 : vi.ownBlock ≠ some p) (N2 : vl.ownBlock ≠ some p) (N3 : ∀ k, vl.ownBlock = some k → vi.ownBlock ≠ some k) (hlb : ∀ k, vl.ownBlock = some k → k < w.heap.size) (hib : ∀ k, vi.ownBlock = some k → k < w.heap.size) (hpw : p < w.heap.size)
    (hown : w5.ownsRow B 76 5 (.slice (some ⟨gg, 0, none⟩) (ik + 1) cap) (ik + 1) (rows ++ [.int .i64 (-((M : Int) + 1)), vl, .slice (some ⟨g1, 0, none⟩) (n + 1) e1, .slice (some ⟨g2, 0, none⟩) (n + 2) e2, .slice (some ⟨g3, 0, none⟩) (n + 3) e3]))
    (hgrow : (w4.alloc o).drew.grownBy w5 vi.ownBlock) (hat : vi.ownBlock = some gg ∨ gg = w4.heap.size + 1) :
    MarkedInts w (w5.setCell ⟨p, 1, none⟩ (.slice (some ⟨gg, 0, none⟩) (ik + 1) cap)) B p M vs vi vl ik n rows := by
  have hwz := HX.fr.size
  have fr : Frm (fun k => k = p ∨ vi.ownBlock = some k) w4 (w5.setCell ⟨p, 1, none⟩ (.slice (some ⟨gg, 0, none⟩) (ik + 1) cap)) :=
    Frm.setCell (p := ⟨p, 1, none⟩) ((((Frm.refl _ w4).alloc o).drew).grown hgrow (fun k hk => .inl (.inr hk))) (.inl (.inl rfl)) _
  have hG : ∀ g, (vl.ownBlock = some g ∨ bb + 2 ≤ g) → ¬ (g = p ∨ vi.ownBlock = some g) := fun g hL hS => by
    rcases hL with hL | hL
    · rcases hS with rfl | hS
      · exact N2 hL
      · exact N3 g hL hS
    · rcases hS with rfl | hS
      · omega
      · have := hib g hS; omega
  have hggp : gg ≠ p := by
    rcases hat with h | h
    · intro e; exact N1 (by rw [h, e])
    · omega
  have hne : ∀ g, g < w4.heap.size → (vl.ownBlock = some g ∨ bb + 2 ≤ g) → gg ≠ g := fun g hg hL e => by
    rcases hat with h | h
    · exact hG g hL (.inr (by rw [← e]; exact h))
    · omega
  have hX : (w4.alloc o).drew.heap.size = w4.heap.size + 1 := by show (w4.alloc o).heap.size = _; simp
  have hz5 : w4.heap.size ≤ w5.heap.size := by have := hgrow.size; omega
  have hpz := HX.bk.up
  have hbk5 : BookAt w5 p (M + 1) vs := HX.bk.of_block ((hgrow.block p (by omega) (fun e => N1 e.symm)).trans (Below.heap_alloc w4 o p HX.bk.up)) hz5
  refine ⟨gg, cap, g1, e1, g2, e2, g3, e3, hbk5.put 0 (by decide) _, hown.kept (grown_setCell w5 p 1 _) (.inr (by simp [Value.ownBlock]; exact hggp)), (Fill.of_ints HX.rl).frm fr (fun k hk hS => ?_), F1.frm fr (fun k hk => ?_), F2.frm fr (fun k hk => ?_), F3.frm fr (fun k hk => ?_), ?_, ?_, ?_, ?_, ⟨hne g1 h1 L1, hne g2 h2 L2, hne g3 h3 L3⟩, hggp, ?_, ?_⟩
  · rcases hS with rfl | hS
    · exact N2 hk
    · exact N3 k hk hS
  · simp [Value.ownBlock] at hk; subst hk; exact hG _ L1
  · simp [Value.ownBlock] at hk; subst hk; exact hG _ L2
  · simp [Value.ownBlock] at hk; subst hk; exact hG _ L3
  · rcases hat with h | h
    · exact .inl h
    · exact .inr (by omega)
  · rcases L1 with h | h
    · exact .inl h
    · exact .inr (by omega)
  · rcases L2 with h | h
    · exact .inl h
    · exact .inr (by omega)
  · rcases L3 with h | h
    · exact .inl h
    · exact .inr (by omega)
  · intro e
    rcases hat with h | h
    · exact N3 gg e h
    · have := hlb gg e; omega
  · exact HX.fr.trans (fr.mono (fun k _ hS => by
      rcases hS with h | h
      · exact .inl h
      · exact .inr (.inr h)))

end Go.Proofs.YtekfbphnoibnjaaGreatDoor
