/-
  The document's reading of a film's bytes: frame by frame. The law's small functions on films: a mark of pixels, all of them this one, so many in each row. The law's function: the same film? The program's chances: all even at first; the cut; how they learn. The program's chances: the cut; how they learn.
-/
import Derived.Test.YtekfbphnoibnjaaGreatDoorF09
import Derived.Deep.WholeRow
import Derived.Deep.CutBlock
import Derived.Deep.DeepCutAuto
import Derived.Deep.MidRow
import Derived.Laws.ResultCell
import Derived.Deep.RegionLaw
import Derived.BigRegion
import Derived.Deep.AppendLies
import Derived.Test.YtekfbphnoibnjaaGreatDoorF02
import Derived.Test.YtekfbphnoibnjaaGreatDoorF01
namespace Go.Proofs.YtekfbphnoibnjaaGreatDoor
open Go.RowKit
open Flm (Px FS)
structure ShL (w : World) (B p b g : Nat) (Lv Rv : Value) (fbs : List Nat) (s : ByteArray) (z : Nat) (fs : FS) : Prop where
 rd : RdAt w B b g s fs.r
 ok : Rdr.Ok s fs.r
 c0 : w.cell? ⟨p, 0, none⟩ = some (.pointer (some ⟨b, 0, none⟩))
 c1 : w.cell? ⟨p, 1, none⟩ = some (.int .i64 z)
 c2 : w.cell? ⟨p, 2, none⟩ = some Lv
 c3 : w.cell? ⟨p, 3, none⟩ = some Rv
 c4 : w.cell? ⟨p, 4, none⟩ = some (.int .i64 fs.fr)
 c5 : w.cell? ⟨p, 5, none⟩ = some (.int .i64 fs.x)
 c6 : w.cell? ⟨p, 6, none⟩ = some (.int .i64 fs.y)
 fz : ∀ o, w.frozen? ⟨p, o, none⟩ = false
 rows : w.ownsRow B 58 1 Lv fs.frs.length (rowVals (z * z) fbs)
 frs : ∀ i, i < fs.frs.length -> Pixs w B (fbs.getD i 0) (z * z) (fs.frs.getD i [])
 n1 : fbs.length = fs.frs.length
 zz : z = 4 \/ z = 8 \/ z = 16
 ne : (p :: b :: g :: fbs).Nodup
 nl : ∀ k, Lv.ownBlock = some k -> k ≠ p /\ k ≠ b /\ k ≠ g /\ k ∉ fbs
 px : ∀ i k, Flm.okPx (Flm.px fs i k)
 lo : B <= p
 up : p < w.heap.size
theorem ShAt.toL {w : World} {B p b g lg lc rg z : Nat} {fbs : List Nat} {s : ByteArray} {fs : FS} (h : ShAt w B p b g lg lc rg fbs s z fs) :
  ShL w B p b g (.slice (some ⟨lg, 0, none⟩) fs.frs.length lc) (.slice (some ⟨rg, 0, none⟩) (z * z) (z * z)) fbs s z fs := by
 obtain ⟨⟨n1, n2, n3, n4, n5⟩, ⟨n6, n7, n8, n9⟩, ⟨n10, n11, n12⟩, ⟨n13, n14⟩, n15, n16⟩ := h.nes
 refine ⟨h.rd, h.ok, h.c0, h.c1, h.c2, h.c3, h.c4, h.c5, h.c6, h.fz, h.rows, h.frs, h.n1, h.zz, ?_, ?_, h.px, h.lo, h.up⟩
 ·simp only [List.nodup_cons, List.mem_cons, not_or]
  exact ⟨⟨n1, n2, n5⟩, ⟨n6, n9⟩, n12, n16⟩
 ·intro k hk
  obtain rfl : lg = k := by simpa [Value.ownBlock] using hk
  exact ⟨Ne.symm n3, Ne.symm n7, Ne.symm n10, n14⟩
theorem infoRow : (Tryz.prog.info? 58).map (fun i => (i.zero, i.size, i.bytes)) = some (some (.slice none 0 0), 1, 24) := by kernel_rfl
theorem infoBool : (Tryz.prog.info? 4).map (fun i => (i.zero, i.size, i.bytes)) = some (some (.bool false), 1, 1) := by kernel_rfl
theorem makePx (n : Nat) (hn : n <= 1000) (w : World) : Sem.run Tryz.prog (Instr.makeSlice 58 (.int .i64 n) (.int .i64 n)) w = .ok (.slice (some ⟨w.heap.size, 0, none⟩) n n) (w.alloc (.cells (madeCells #[.int .u8 0, .int .u8 0, .int .u8 0] (n * 3)) 50)) := by
 obtain ⟨i0, hi, h0, h1, h2⟩ := info_parts infoPx
 have := run_makeSlice (P := Tryz.prog) w 58 50 i0 _ Tryz.underlying58 hi h0 .i64 .i64 n n (by omega) (Int.le_refl _) (by rw [h1]; simp; omega) (by rw [h2]; omega) (by omega)
 rw [h1] at this
 simpa [Value.cells] using this
theorem makeBool (n : Nat) (hn : n <= 1000) (w : World) : Sem.run Tryz.prog (Instr.makeSlice 108 (.int .i64 n) (.int .i64 n)) w = .ok (.slice (some ⟨w.heap.size, 0, none⟩) n n) (w.alloc (.cells (madeCells #[.bool false] n) 4)) := by
 obtain ⟨i0, hi, h0, h1, h2⟩ := info_parts infoBool
 have := run_makeSlice (P := Tryz.prog) w 108 4 i0 _ Tryz.underlying108 hi h0 .i64 .i64 n n (by omega) (Int.le_refl _) (by rw [h1]; simp; omega) (by rw [h2]; omega) (by omega)
 rw [h1] at this
 simpa [Value.cells] using this
theorem ShL.zzle {w : World} {B p b g : Nat} {Lv Rv : Value} {fbs : List Nat} {s : ByteArray} {z : Nat} {fs : FS} (h : ShL w B p b g Lv Rv fbs s z fs) : z * z <= 256 := by
 rcases h.zz with e | e | e <;> subst e <;> decide
theorem getD_snoc_lt {α : Type} (l : List α) (x d : α) (i : Nat) (h : i < l.length) : (l ++ [x]).getD i d = l.getD i d := by
 simp [List.getD_eq_getElem?_getD, List.getElem?_append, h]
theorem getD_snoc_eq {α : Type} (l : List α) (x d : α) : (l ++ [x]).getD l.length d = x := by
 simp [List.getD_eq_getElem?_getD]
def Flm.more (z : Nat) (q : FS) : FS := { q with frs := q.frs ++ [List.replicate (z * z) (0, 0, 0)] }
theorem ShL.grow {w w5 : World} {B p b g : Nat} {Lv Rv : Value} {fbs : List Nat} {s : ByteArray} {z : Nat} {q : FS} (h : ShL w B p b g Lv Rv fbs s z q) (hB : B <= w.heap.size) {V : Obj} {gg cap : Nat}
  (ho : w5.ownsRow B 58 1 (.slice (some ⟨gg, 0, none⟩) (q.frs.length + 1) cap) (q.frs.length + 1) (rowVals (z * z) fbs ++ [.slice (some ⟨w.heap.size, 0, none⟩) (z * z) (z * z)]))
  (hg : ((w.alloc (.cells (madeCells #[.int .u8 0, .int .u8 0, .int .u8 0] (z * z * 3)) 50)).alloc V).drew.grownBy w5 Lv.ownBlock) (hat : Lv.ownBlock = some gg \/ gg = w.heap.size + 2) :
  ShL (w5.setCell ⟨p, 2, none⟩ (.slice (some ⟨gg, 0, none⟩) (q.frs.length + 1) cap)) B p b g (.slice (some ⟨gg, 0, none⟩) (q.frs.length + 1) cap) Rv (fbs ++ [w.heap.size]) s z (Flm.more z q) /\
   Below B w (w5.setCell ⟨p, 2, none⟩ (.slice (some ⟨gg, 0, none⟩) (q.frs.length + 1) cap)) := by
 have hup := h.up
 have hn1 := h.n1
 obtain ⟨w2, hw2⟩ : ∃ w2, w2 = ((w.alloc (.cells (madeCells #[.int .u8 0, .int .u8 0, .int .u8 0] (z * z * 3)) 50)).alloc V).drew := ⟨_, rfl⟩
 rw [<- hw2] at hg
 have hs2 : w2.heap.size = w.heap.size + 2 := by rw [hw2]; simp
 have b2 : Below w.heap.size w w2 := by rw [hw2]; exact (((Below.refl _ w).alloc (Nat.le_refl _) _).alloc (by simp) _).trans ⟨rfl, rfl, rfl, Nat.le_refl _, fun _ _ => rfl⟩
 have f5 : Frm (fun k => Lv.ownBlock = some k) w w5 := (Frm.of_below b2).trans ((Frm.refl _ w2).grown hg (fun k e => .inl e))
 have f6 : Frm (fun k => k = p \/ Lv.ownBlock = some k) w (w5.setCell ⟨p, 2, none⟩ (.slice (some ⟨gg, 0, none⟩) (q.frs.length + 1) cap)) := (f5.mono (fun k _ e => .inr e)).setCell (p := ⟨p, 2, none⟩) (.inl (.inl rfl)) _
 have hpb : ∀ k, Lv.ownBlock = some k -> k ≠ p /\ k ≠ b /\ k ≠ g /\ k ∉ fbs := h.nl
 have hnd := h.ne
 simp only [List.nodup_cons, List.mem_cons, not_or] at hnd
 obtain ⟨⟨n1, n2, n3⟩, ⟨n4, n5⟩, n6, n7⟩ := hnd
 have hlt : ∀ k, k ∈ fbs -> k < w.heap.size := fun k hk => by
  obtain ⟨i, hi, rfl⟩ := List.getElem_of_mem hk
  have := (h.frs i (by omega)).lt.2
  rw [List.getD_eq_getElem?_getD, List.getElem?_eq_getElem hi] at this
  exact this
 have hbu := h.rd.up
 have hgu := h.rd.nums.lt.2
 have hp5 : w5.heap[p]? = w.heap[p]? := f5.block p hup (fun e => (hpb p e).1 rfl)
 have C : ∀ o, o ≠ 2 -> (w5.setCell ⟨p, 2, none⟩ (.slice (some ⟨gg, 0, none⟩) (q.frs.length + 1) cap)).cell? ⟨p, o, none⟩ = w.cell? ⟨p, o, none⟩ := fun o ho => by
  rw [World.cell?_setCell_other]
  ·exact World.cell?_of_block (a := ⟨p, o, none⟩) hp5
  ·intro e; simp only [Addr.mk.injEq, and_true, true_and] at e; exact ho e.symm
 have hgg : gg ≠ p := by
  rcases hat with e | e
  ·exact (hpb gg e).1
  ·omega
 have hnew : Pixs (w5.setCell ⟨p, 2, none⟩ (.slice (some ⟨gg, 0, none⟩) (q.frs.length + 1) cap)) B w.heap.size (z * z) (List.replicate (z * z) (0, 0, 0)) := by
  have h0 : Pixs w2 B w.heap.size (z * z) (List.replicate (z * z) (0, 0, 0)) := by
   unfold Pixs
   rw [<- made_px, hw2]
   exact ((World.ownsRow_lit w _ (z * z) hB (by have := h.zzle; unfold maxLen; omega) (size_madeCells _ _)).alloc _).drew
  refine Frm.pixs (S := fun k => k = p \/ Lv.ownBlock = some k) (((Frm.refl _ w2).grown hg (fun k e => .inl (.inr e))).setCell (p := ⟨p, 2, none⟩) (.inl (.inl rfl)) _) h0 ?_
  rintro (e | e)
  ·omega
  ·exact absurd (World.ownsRow.lt h.rows _ e).2 (Nat.lt_irrefl _)
 refine ⟨⟨h.rd.frm f6 (fun e => by rcases e with e | e; exact n1 e.symm; exact (hpb _ e).2.1 rfl) (fun e => by rcases e with e | e; exact n2 e.symm; exact (hpb _ e).2.2.1 rfl), h.ok, (C 0 (by decide)).trans h.c0, (C 1 (by decide)).trans h.c1, ?_, (C 3 (by decide)).trans h.c3, (C 4 (by decide)).trans h.c4, (C 5 (by decide)).trans h.c5, (C 6 (by decide)).trans h.c6, fun o => by rw [World.frozen?_setCell]; exact (World.frozen?_of_block (a := ⟨p, o, none⟩) hp5).trans (h.fz o), ?_, ?_, ?_, h.zz, ?_, ?_, ?_, h.lo, Nat.lt_of_lt_of_le h.up f6.size⟩, f6.below hB (fun k e => by rcases e with e | e; rw [e]; exact h.lo; exact (World.ownsRow.lt h.rows k e).1)⟩
 ·exact World.cell?_setCell_same' _ _ _ (by rw [World.cell?_of_block (a := ⟨p, 2, none⟩) hp5, h.c2]; rfl)
 ·have hl : (Flm.more z q).frs.length = q.frs.length + 1 := by unfold Flm.more; simp
  rw [hl, show rowVals (z * z) (fbs ++ [w.heap.size]) = rowVals (z * z) fbs ++ [.slice (some ⟨w.heap.size, 0, none⟩) (z * z) (z * z)] by unfold rowVals; simp]
  exact ho.kept (grown_setCell w5 p 2 _) (.inr (by simp [Value.ownBlock]; exact hgg))
 ·intro i hi
  have hl : (Flm.more z q).frs.length = q.frs.length + 1 := by unfold Flm.more; simp
  rw [hl] at hi
  by_cases he : i = q.frs.length
  ·subst he
   rw [show (fbs ++ [w.heap.size]).getD q.frs.length 0 = w.heap.size by rw [<- hn1]; exact getD_snoc_eq _ _ _, show (Flm.more z q).frs.getD q.frs.length [] = List.replicate (z * z) (0, 0, 0) by unfold Flm.more; exact getD_snoc_eq _ _ _]
   exact hnew
  ·rw [getD_snoc_lt fbs _ _ i (by omega), show (Flm.more z q).frs.getD i [] = q.frs.getD i [] by unfold Flm.more; exact getD_snoc_lt _ _ _ i (by omega)]
   refine f6.pixs (h.frs i (by omega)) ?_
   have hm : fbs.getD i 0 ∈ fbs := by rw [List.getD_eq_getElem?_getD, List.getElem?_eq_getElem (by omega)]; exact List.getElem_mem _
   rintro (e | e)
   ·exact n3 (e ▸ hm)
   ·exact (hpb _ e).2.2.2 hm
 ·unfold Flm.more; simp [hn1]
 ·simp only [List.nodup_cons, List.mem_cons, not_or, List.mem_append, List.not_mem_nil, or_false]
  refine ⟨⟨n1, n2, n3, by omega⟩, ⟨n4, n5, by omega⟩, ⟨n6, by omega⟩, ?_⟩
  rw [List.nodup_append]
  refine ⟨n7, by simp, fun a ha c hc => ?_⟩
  simp only [List.mem_cons, List.not_mem_nil, or_false] at hc
  have := hlt a ha
  omega
 ·intro k hk
  obtain rfl : gg = k := by simpa [Value.ownBlock] using hk
  rcases hat with e | e
  ·obtain ⟨a1, a2, a3, a4⟩ := hpb gg e
   have := (World.ownsRow.lt h.rows gg e).2
   refine ⟨a1, a2, a3, ?_⟩
   simp only [List.mem_append, List.mem_cons, List.not_mem_nil, or_false, not_or]
   exact ⟨a4, by omega⟩
  ·refine ⟨by omega, by omega, by omega, ?_⟩
   simp only [List.mem_append, List.mem_cons, List.not_mem_nil, or_false, not_or]
   exact ⟨fun hm => by have := hlt gg hm; omega, by omega⟩
 ·intro i k
  unfold Flm.px Flm.more
  by_cases hi : i < q.frs.length
  ·rw [getD_snoc_lt _ _ _ i hi]; exact h.px i k
  ·by_cases he : i = q.frs.length
   ·subst he
    rw [getD_snoc_eq]
    rw [List.getD_eq_getElem?_getD, List.getElem?_replicate]
    split <;> simp [Flm.okPx]
   ·rw [List.getD_eq_getElem?_getD (l := q.frs ++ _), List.getElem?_eq_none (by simp; omega)]
    simp [Flm.okPx]
theorem ShL.toAt {w : World} {B p b g gg cap : Nat} {Rv : Value} {fbs : List Nat} {s : ByteArray} {z : Nat} {q : FS} (h : ShL w B p b g (.slice (some ⟨gg, 0, none⟩) q.frs.length cap) Rv fbs s z q) (hB : B <= w.heap.size) (hn : 0 < q.frs.length /\ q.frs.length <= 8) :
  ShAt ((w.setCell ⟨p, 3, none⟩ (.slice (some ⟨w.heap.size, 0, none⟩) (z * z) (z * z))).alloc (.cells (madeCells #[.bool false] (z * z)) 4)).drew B p b g gg cap w.heap.size fbs s z { q with rd := List.replicate (z * z) false } /\
   Below B w ((w.setCell ⟨p, 3, none⟩ (.slice (some ⟨w.heap.size, 0, none⟩) (z * z) (z * z))).alloc (.cells (madeCells #[.bool false] (z * z)) 4)).drew := by
 have hup := h.up
 have hn1 := h.n1
 obtain ⟨w1, hw1⟩ : ∃ w1, w1 = w.setCell ⟨p, 3, none⟩ (.slice (some ⟨w.heap.size, 0, none⟩) (z * z) (z * z)) := ⟨_, rfl⟩
 have hs1 : w1.heap.size = w.heap.size := by rw [hw1, World.size_setCell]
 obtain ⟨w2, hw2⟩ : ∃ w2, w2 = (w1.alloc (.cells (madeCells #[.bool false] (z * z)) 4)).drew := ⟨_, rfl⟩
 have b2 : Below w.heap.size w1 w2 := by rw [hw2]; exact ((Below.refl _ w1).alloc (by omega) _).trans ⟨rfl, rfl, rfl, Nat.le_refl _, fun _ _ => rfl⟩
 rw [<- hw1, <- hw2]
 have f1 : Frm (fun k => k = p) w w1 := by rw [hw1]; exact Frm.setCell (p := ⟨p, 3, none⟩) (Frm.refl (fun k => k = p) w) (.inl rfl) _
 have f6 : Frm (fun k => k = p) w w2 := f1.trans (Frm.of_below (by rw [hs1]; exact b2))
 have hnd := h.ne
 simp only [List.nodup_cons, List.mem_cons, not_or] at hnd
 obtain ⟨⟨n1, n2, n3⟩, ⟨n4, n5⟩, n6, n7⟩ := hnd
 obtain ⟨m1, m2, m3, m4⟩ := h.nl gg rfl
 have hlt : ∀ k, k ∈ fbs -> k < w.heap.size := fun k hk => by
  obtain ⟨i, hi, rfl⟩ := List.getElem_of_mem hk
  have := (h.frs i (by omega)).lt.2
  rw [List.getD_eq_getElem?_getD, List.getElem?_eq_getElem hi] at this
  exact this
 have hbu := h.rd.up
 have hgu := h.rd.nums.lt.2
 have hggu := (World.ownsRow.lt h.rows gg rfl).2
 have hp5 : w2.heap[p]? = w1.heap[p]? := b2.block p hup
 have C : ∀ o, o ≠ 3 -> w2.cell? ⟨p, o, none⟩ = w.cell? ⟨p, o, none⟩ := fun o ho => by
  rw [World.cell?_of_block (a := ⟨p, o, none⟩) hp5, hw1, World.cell?_setCell_other]
  intro e; simp only [Addr.mk.injEq, and_true, true_and] at e; exact ho e.symm
 refine ⟨⟨h.rd.frm f6 (fun e => n1 e.symm) (fun e => n2 e.symm), h.ok, (C 0 (by decide)).trans h.c0, (C 1 (by decide)).trans h.c1, (C 2 (by decide)).trans h.c2, ?_, (C 4 (by decide)).trans h.c4, (C 5 (by decide)).trans h.c5, (C 6 (by decide)).trans h.c6, fun o => by rw [World.frozen?_of_block (a := ⟨p, o, none⟩) hp5, hw1, World.frozen?_setCell]; exact h.fz o, ?_, ?_, ?_, h.n1, hn, h.zz, ?_, h.px, h.lo, Nat.lt_of_lt_of_le h.up f6.size⟩, f6.below hB (fun k e => by rw [e]; exact h.lo)⟩
 ·rw [World.cell?_of_block (a := ⟨p, 3, none⟩) hp5, hw1]
  exact World.cell?_setCell_same _ _ _ h.c3
 ·exact f6.owns h.rows (fun k e => by simp [Value.ownBlock] at e; subst e; exact m1)
 ·intro i hi
  have hm : fbs.getD i 0 ∈ fbs := by rw [List.getD_eq_getElem?_getD, List.getElem?_eq_getElem (by rw [hn1]; exact hi)]; exact List.getElem_mem _
  exact f6.pixs (h.frs i hi) (fun e => n3 (e ▸ hm))
 ·unfold Bools
  have := (World.ownsRow_lit (base := B) (e := 4) (size := 1) w1 (madeCells #[.bool false] (z * z)) (z * z) (by omega) (by have := h.zzle; unfold maxLen; omega) (by rw [size_madeCells]; omega)).drew
  rw [hw2]
  rw [toList_madeCells_one, hs1] at this
  simpa using this
 ·simp only [List.nodup_cons, List.mem_cons, not_or]
  refine ⟨⟨n1, n2, Ne.symm m1, by omega, n3⟩, ⟨n4, Ne.symm m2, by omega, n5⟩, ⟨Ne.symm m3, by omega, n6⟩, ⟨by omega, m4⟩, fun hm => by have := hlt _ hm; omega, n7⟩
theorem cell_alloc2_drew {w : World} {a b : Obj} {p o : Nat} (h : p < w.heap.size) : ((w.alloc a).alloc b).drew.cell? ⟨p, o, none⟩ = w.cell? ⟨p, o, none⟩ :=
 World.cell?_of_block (a := ⟨p, o, none⟩) ((Below.heap_alloc (w.alloc a) b p (by simp; omega)).trans (Below.heap_alloc w a p h))
theorem frozen_alloc2_drew {w : World} {a b : Obj} {p o : Nat} (h : p < w.heap.size) : ((w.alloc a).alloc b).drew.frozen? ⟨p, o, none⟩ = w.frozen? ⟨p, o, none⟩ :=
 World.frozen?_of_block (a := ⟨p, o, none⟩) ((Below.heap_alloc (w.alloc a) b p (by simp; omega)).trans (Below.heap_alloc w a p h))
theorem ShAt.frmB {w w' : World} {B p b g lg lc rg z : Nat} {fbs : List Nat} {s : ByteArray} {fs : FS} (h : ShAt w B p b g lg lc rg fbs s z fs) (hB : B <= w.heap.size) (f : Frm (shS p b g rg (fbs.getD (Flm.now fs) 0)) w w') : Below B w w' := by
 have hnow : Flm.now fs < fs.frs.length := by have := h.n2; unfold Flm.now; omega
 refine f.below hB (fun k e => ?_)
 rcases e with e | e | e | e | e
 ·rw [e]; exact h.lo
 ·rw [e]; exact h.rd.lo
 ·rw [e]; exact h.rd.nums.lt.1
 ·rw [e]; exact h.read.lt.1
 ·rw [e]; exact (h.frs _ hnow).lt.1
theorem box4 (w : World) (a b c d : Obj) :
  ((((w.alloc a).alloc b).alloc c).alloc d).heap[w.heap.size]? = some a /\ ((((w.alloc a).alloc b).alloc c).alloc d).heap[w.heap.size + 1]? = some b /\ ((((w.alloc a).alloc b).alloc c).alloc d).heap[w.heap.size + 1 + 1]? = some c /\ ((((w.alloc a).alloc b).alloc c).alloc d).heap[w.heap.size + 1 + 1 + 1]? = some d := by
 have h1 := heap_alloc_last w a
 have h2 := heap_alloc_last (w.alloc a) b
 have h3 := heap_alloc_last ((w.alloc a).alloc b) c
 have h4 := heap_alloc_last (((w.alloc a).alloc b).alloc c) d
 simp only [World.size_alloc] at h2 h3 h4
 refine ⟨?_, ?_, ?_, h4⟩
 ·rw [Below.heap_alloc _ _ _ (by simp only [World.size_alloc]; omega), Below.heap_alloc _ _ _ (by simp only [World.size_alloc]; omega), Below.heap_alloc _ _ _ (by simp only [World.size_alloc]; omega), h1]
 ·rw [Below.heap_alloc _ _ _ (by simp only [World.size_alloc]; omega), Below.heap_alloc _ _ _ (by simp only [World.size_alloc]; omega), h2]
 ·rw [Below.heap_alloc _ _ _ (by simp only [World.size_alloc]; omega), h3]
theorem five0 (wr : World) (H G : Nat) (hHG : H ≠ G) (u0 u1 v0 v1 v2 : Value) {x0 x1 y0 y1 y2 : Value} (a00 : wr.cell? ⟨H, 0, none⟩ = some x0) (a01 : wr.cell? ⟨H, 1, none⟩ = some x1) (a10 : wr.cell? ⟨G, 0, none⟩ = some y0) (a11 : wr.cell? ⟨G, 1, none⟩ = some y1) (a12 : wr.cell? ⟨G, 2, none⟩ = some y2) (X : World)
  (hX : X = ((((wr.setCell ⟨H, 0, none⟩ u0).setCell ⟨H, 1, none⟩ u1).setCell ⟨G, 0, none⟩ v0).setCell ⟨G, 1, none⟩ v1).setCell ⟨G, 2, none⟩ v2) :
  X.cell? ⟨H, 0, none⟩ = some u0 /\ X.cell? ⟨H, 1, none⟩ = some u1 /\ X.cell? ⟨G, 0, none⟩ = some v0 /\ X.cell? ⟨G, 1, none⟩ = some v1 /\ X.cell? ⟨G, 2, none⟩ = some v2 /\ Frm (fun k => k = H \/ k = G) wr X := by
 obtain ⟨w1, h1⟩ : ∃ w1, w1 = wr.setCell ⟨H, 0, none⟩ u0 := ⟨_, rfl⟩
 obtain ⟨w2, h2⟩ : ∃ w2, w2 = w1.setCell ⟨H, 1, none⟩ u1 := ⟨_, rfl⟩
 obtain ⟨w3, h3⟩ : ∃ w3, w3 = w2.setCell ⟨G, 0, none⟩ v0 := ⟨_, rfl⟩
 obtain ⟨w4, h4⟩ : ∃ w4, w4 = w3.setCell ⟨G, 1, none⟩ v1 := ⟨_, rfl⟩
 rw [<- h1, <- h2, <- h3, <- h4] at hX
 have c10 : w1.cell? ⟨H, 0, none⟩ = some u0 := by rw [h1]; exact World.cell?_setCell_same _ _ _ a00
 have c11 : w1.cell? ⟨H, 1, none⟩ = some x1 := by rw [h1]; exact cell_off a01 (.inr (by decide))
 have g10 : w1.cell? ⟨G, 0, none⟩ = some y0 := by rw [h1]; exact cell_off a10 (.inl hHG)
 have g11 : w1.cell? ⟨G, 1, none⟩ = some y1 := by rw [h1]; exact cell_off a11 (.inl hHG)
 have g12 : w1.cell? ⟨G, 2, none⟩ = some y2 := by rw [h1]; exact cell_off a12 (.inl hHG)
 have c20 : w2.cell? ⟨H, 0, none⟩ = some u0 := by rw [h2]; exact cell_off c10 (.inr (by decide))
 have c21 : w2.cell? ⟨H, 1, none⟩ = some u1 := by rw [h2]; exact World.cell?_setCell_same _ _ _ c11
 have g20 : w2.cell? ⟨G, 0, none⟩ = some y0 := by rw [h2]; exact cell_off g10 (.inl hHG)
 have g21 : w2.cell? ⟨G, 1, none⟩ = some y1 := by rw [h2]; exact cell_off g11 (.inl hHG)
 have g22 : w2.cell? ⟨G, 2, none⟩ = some y2 := by rw [h2]; exact cell_off g12 (.inl hHG)
 have c30 : w3.cell? ⟨H, 0, none⟩ = some u0 := by rw [h3]; exact cell_off c20 (.inl (Ne.symm hHG))
 have c31 : w3.cell? ⟨H, 1, none⟩ = some u1 := by rw [h3]; exact cell_off c21 (.inl (Ne.symm hHG))
 have g30 : w3.cell? ⟨G, 0, none⟩ = some v0 := by rw [h3]; exact World.cell?_setCell_same _ _ _ g20
 have g31 : w3.cell? ⟨G, 1, none⟩ = some y1 := by rw [h3]; exact cell_off g21 (.inr (by decide))
 have g32 : w3.cell? ⟨G, 2, none⟩ = some y2 := by rw [h3]; exact cell_off g22 (.inr (by decide))
 have c40 : w4.cell? ⟨H, 0, none⟩ = some u0 := by rw [h4]; exact cell_off c30 (.inl (Ne.symm hHG))
 have c41 : w4.cell? ⟨H, 1, none⟩ = some u1 := by rw [h4]; exact cell_off c31 (.inl (Ne.symm hHG))
 have g40 : w4.cell? ⟨G, 0, none⟩ = some v0 := by rw [h4]; exact cell_off g30 (.inr (by decide))
 have g41 : w4.cell? ⟨G, 1, none⟩ = some v1 := by rw [h4]; exact World.cell?_setCell_same _ _ _ g31
 have g42 : w4.cell? ⟨G, 2, none⟩ = some y2 := by rw [h4]; exact cell_off g32 (.inr (by decide))
 have f1 : Frm (fun k => k = H \/ k = G) wr w1 := by rw [h1]; exact Frm.setCell (p := ⟨H, 0, none⟩) (Frm.refl _ _) (.inl (.inl rfl)) _
 have f2 : Frm (fun k => k = H \/ k = G) wr w2 := by rw [h2]; exact Frm.setCell (p := ⟨H, 1, none⟩) f1 (.inl (.inl rfl)) _
 have f3 : Frm (fun k => k = H \/ k = G) wr w3 := by rw [h3]; exact Frm.setCell (p := ⟨G, 0, none⟩) f2 (.inl (.inr rfl)) _
 have f4 : Frm (fun k => k = H \/ k = G) wr w4 := by rw [h4]; exact Frm.setCell (p := ⟨G, 1, none⟩) f3 (.inl (.inr rfl)) _
 rw [hX]
 exact ⟨cell_off c40 (.inl (Ne.symm hHG)), cell_off c41 (.inl (Ne.symm hHG)), cell_off g40 (.inr (by decide)), cell_off g41 (.inr (by decide)), World.cell?_setCell_same _ _ _ g42, Frm.setCell (p := ⟨G, 2, none⟩) f4 (.inl (.inr rfl)) _⟩
theorem five_set (wr : World) (H G : Nat) (hHG : H ≠ G) (u0 u1 v0 v1 v2 : Value) {x0 x1 y0 y1 y2 : Value} (a00 : wr.cell? ⟨H, 0, none⟩ = some x0) (a01 : wr.cell? ⟨H, 1, none⟩ = some x1) (a10 : wr.cell? ⟨G, 0, none⟩ = some y0) (a11 : wr.cell? ⟨G, 1, none⟩ = some y1) (a12 : wr.cell? ⟨G, 2, none⟩ = some y2) (X : World)
  (hX : X = (((((wr.setCell ⟨H, 0, none⟩ u0).setCell ⟨H, 1, none⟩ u1).setCell ⟨G, 0, none⟩ v0).setCell ⟨G, 1, none⟩ v1).setCell ⟨G, 2, none⟩ v2).drew) :
  X.cell? ⟨H, 0, none⟩ = some u0 /\ X.cell? ⟨H, 1, none⟩ = some u1 /\ X.cell? ⟨G, 0, none⟩ = some v0 /\ X.cell? ⟨G, 1, none⟩ = some v1 /\ X.cell? ⟨G, 2, none⟩ = some v2 /\ Frm (fun k => k = H \/ k = G) wr X := by
 obtain ⟨Y, hY⟩ : ∃ Y, Y = ((((wr.setCell ⟨H, 0, none⟩ u0).setCell ⟨H, 1, none⟩ u1).setCell ⟨G, 0, none⟩ v0).setCell ⟨G, 1, none⟩ v1).setCell ⟨G, 2, none⟩ v2 := ⟨_, rfl⟩
 rw [<- hY] at hX
 obtain ⟨p0, p1, p2, p3, p4, p5⟩ := five0 wr H G hHG u0 u1 v0 v1 v2 a00 a01 a10 a11 a12 Y hY
 rw [hX]
 exact ⟨p0, p1, p2, p3, p4, p5.drew⟩
def FilmAt (w : World) (B : Nat) (Lv : Value) (z : Nat) (frs : List (List Px)) : Prop :=
 ∃ fbs : List Nat, w.ownsRow B 58 1 Lv frs.length (rowVals (z * z) fbs) /\ fbs.length = frs.length /\ (∀ i, i < frs.length -> Pixs w B (fbs.getD i 0) (z * z) (frs.getD i [])) /\ fbs.Nodup /\ (∀ k, Lv.ownBlock = some k -> k ∉ fbs) /\ (z = 4 \/ z = 8 \/ z = 16) /\ frs.length <= 8 /\ (∀ i k, Flm.okPx ((frs.getD i []).getD k (0, 0, 0)))
theorem ShL.film {w w' : World} {S : Nat -> Prop} {B p b g : Nat} {Lv Rv : Value} {fbs : List Nat} {s : ByteArray} {z : Nat} {q : FS} (h : ShL w B p b g Lv Rv fbs s z q) (h8 : q.frs.length <= 8) (f : Frm S w w') (hS : ∀ k, S k -> k < B \/ k = b \/ k = g) : FilmAt w' B Lv z q.frs := by
 have hnd := h.ne
 simp only [List.nodup_cons, List.mem_cons, not_or] at hnd
 obtain ⟨⟨n1, n2, n3⟩, ⟨n4, n5⟩, n6, n7⟩ := hnd
 have hn1 := h.n1
 refine ⟨fbs, f.owns h.rows (fun k e hs => ?_), h.n1, fun i hi => ?_, n7, fun k e => (h.nl k e).2.2.2, h.zz, h8, fun i k => h.px i k⟩
 ·have := (World.ownsRow.lt h.rows k e).1
  have hk := h.nl k e
  rcases hS k hs with h' | h' | h'
  ·omega
  ·exact hk.2.1 h'
  ·exact hk.2.2.1 h'
 ·have hm : fbs.getD i 0 ∈ fbs := by rw [List.getD_eq_getElem?_getD, List.getElem?_eq_getElem (by rw [hn1]; exact hi)]; exact List.getElem_mem _
  refine f.pixs (h.frs i hi) (fun hs => ?_)
  have := (h.frs i hi).lt.1
  rcases hS _ hs with h' | h' | h'
  ·omega
  ·exact n5 (h' ▸ hm)
  ·exact n6 (h' ▸ hm)
def DecPost (w : World) (t : ByteArray) (z : Nat) (F : FS) (x : Ending) (w' : World) : Prop :=
 (F.r.err ≠ 0 -> x = .returned (.tuple #[.agg #[.int .i64 0, .slice none 0 0], .agg #[.int .i64 F.fr, .int .i64 F.x, .int .i64 F.y], .int .i64 F.r.err])) /\
 (F.r.err = 0 -> (Rdr.finish t F.r).err ≠ 0 -> x = .returned (noFilm (Rdr.finish t F.r).err)) /\
 (F.r.err = 0 -> (Rdr.finish t F.r).err = 0 -> ∃ Lv B, w.heap.size <= B /\ x = .returned (.tuple #[.agg #[.int .i64 z, Lv], .agg #[.int .i64 0, .int .i64 0, .int .i64 0], .int .i64 0]) /\ FilmAt w' B Lv z F.frs) /\
 Below w.heap.size w w'
end Go.Proofs.YtekfbphnoibnjaaGreatDoor
namespace Go.Proofs.YtekfbphnoibnjaaGreatDoor
open Go.RowKit
open Flm (Px FS)
set_option maxHeartbeats 400000 in
theorem lawColour (w : World) (M : Nat) :
  Calls Tryz.prog 74 #[.int .i64 M] w fun x w' => (∃ a b c : Int, x = .returned (.agg #[.int .u8 a, .int .u8 b, .int .u8 c])) /\ Below w.heap.size w w' := by
 go_enter Tryz.func74, Tryz.ntmps74
 go_wp2
 refine bodyPost_ret (v := .agg #[.int .u8 (wrap64 ((M : Int) / 65536) % 256), .int .u8 (wrap64 ((M : Int) / 256) % 256), .int .u8 ((M : Int) % 256)]) (by simp [results, Tryz.results74, go_sem]) rfl ?_
 exact ⟨⟨_, _, _, rfl⟩, (Below.refl _ w).alloc (Nat.le_refl _) _⟩
set_option maxHeartbeats 400000 in
theorem allRows_any (w : World) (v : Value) (n m : Nat) (ra : Option Addr) (rc : Nat) (h : Fill w v n [.slice ra m rc]) (hn : n <= 1000000000) :
  Calls Tryz.prog 37 #[v, .int .i64 m] w fun x w' => x = .returned (.bool true) /\ w' = w := by
 obtain ⟨a, c, rfl, h⟩ := h
 have H : Hid (n = 0 \/ ∃ b off, a = some ⟨b, off, none⟩ /\ ∀ j, j < n -> ∀ t u, [Value.slice ra m rc][t]? = some u -> w.cell? ⟨b, off + j * [Value.slice ra m rc].length + t, none⟩ = some u) := h
 clear h
 go_enter Tryz.func37, Tryz.ntmps37
 go_wp2
 go_loop [5] (fun i => ∃ k : Nat, k <= n /\ i = .int .i64 k) (fun i => n - (intOf i).toNat)
 case atStart => exact ⟨0, by omega, rfl⟩
 case round =>
  obtain ⟨k, hk, rfl⟩ := hrel
  by_cases hlt : k < n
  ·have hlt' : (k : Int) < (n : Int) := by omega
   obtain ⟨b, off, rfl, hc⟩ : ∃ b off, a = some ⟨b, off, none⟩ /\ ∀ j, j < n -> ∀ t u, [Value.slice ra m rc][t]? = some u -> w.cell? ⟨b, off + j * [Value.slice ra m rc].length + t, none⟩ = some u := by
    rcases H.out with h2 | h2
    ·omega
    ·exact h2
   have d : w.cell? ⟨b, off + k, none⟩ = some (.slice ra m rc) := by simpa using hc k hlt 0 _ rfl
   clear hc
   go_wp2
   go_round
   case rel => exact ⟨k + 1, by omega, by go_num⟩
   case measure => simp [intOf]; omega
  ·have hlt' : ¬ (k : Int) < (n : Int) := by omega
   go_wp2
   go_ret
   exact ⟨rfl, rfl⟩
set_option maxHeartbeats 400000 in
theorem allPixels_any (w : World) (v : Value) (n : Nat) (p0 p1 p2 : Int) (h : Fill w v n [.int .u8 p0, .int .u8 p1, .int .u8 p2]) (hn : n <= 1000000000) :
  Calls Tryz.prog 36 #[v, .agg #[.int .u8 p0, .int .u8 p1, .int .u8 p2]] w fun x w' => x = .returned (.bool true) /\ Below w.heap.size w w' := by
 obtain ⟨a, c, rfl, h⟩ := h
 have H : Hid (n = 0 \/ ∃ b off, a = some ⟨b, off, none⟩ /\ ∀ j, j < n -> ∀ t u, [Value.int .u8 p0, .int .u8 p1, .int .u8 p2][t]? = some u -> w.cell? ⟨b, off + j * [Value.int .u8 p0, .int .u8 p1, .int .u8 p2].length + t, none⟩ = some u) := h
 clear h
 obtain ⟨W, hW⟩ : ∃ W, W = w.alloc (.cells #[.int .u8 p0, .int .u8 p1, .int .u8 p2] 50) := ⟨_, rfl⟩
 have hB : Below w.heap.size w W := by rw [hW]; exact (Below.refl _ w).alloc (Nat.le_refl _) _
 have hr : W.heap[w.heap.size]? = some (.cells #[.int .u8 p0, .int .u8 p1, .int .u8 p2] 50 (0, 0)) := by rw [hW]; exact heap_alloc_last w _
 have m0 : W.cell? ⟨w.heap.size, 0, none⟩ = some (.int .u8 p0) := cell_of_row _ _ 0 _ _ _ hr
 have m1 : W.cell? ⟨w.heap.size, 1, none⟩ = some (.int .u8 p1) := cell_of_row _ _ 1 _ _ _ hr
 have m2 : W.cell? ⟨w.heap.size, 2, none⟩ = some (.int .u8 p2) := cell_of_row _ _ 2 _ _ _ hr
 have HW : Hid (W = w.alloc (.cells #[.int .u8 p0, .int .u8 p1, .int .u8 p2] 50)) := hW
 have HB : Hid (Below w.heap.size w W) := hB
 have heq := fun w => eqPix w p0 p1 p2 p0 p1 p2
 clear hW hB hr
 go_enter Tryz.func36, Tryz.ntmps36
 go_wp2_with (rw [<- HW.out])
 go_loopw [5] (fun i wr => ∃ k : Nat, k <= n /\ i = .int .i64 k /\ ∃ d, wr = W.drewN d) (fun i _ => n - (intOf i).toNat)
 case atStart => exact ⟨0, by omega, rfl, 0, rfl⟩
 case round =>
  obtain ⟨k, hk, rfl, d, rfl⟩ := hrel
  by_cases hlt : k < n
  ·have hlt' : (k : Int) < (n : Int) := by omega
   obtain ⟨b, off, rfl, hc⟩ : ∃ b off, a = some ⟨b, off, none⟩ /\ ∀ j, j < n -> ∀ t u, [Value.int .u8 p0, .int .u8 p1, .int .u8 p2][t]? = some u -> w.cell? ⟨b, off + j * [Value.int .u8 p0, .int .u8 p1, .int .u8 p2].length + t, none⟩ = some u := by
    rcases H.out with h2 | h2
    ·omega
    ·exact h2
   have L : ∀ t u, w.cell? ⟨b, t, none⟩ = some u -> W.cell? ⟨b, t, none⟩ = some u := fun t u e => (HB.out.cell (p := ⟨b, t, none⟩) (World.block_lt_of_cell? w _ e)).trans e
   have d0 : W.cell? ⟨b, off + k * 3, none⟩ = some (.int .u8 p0) := L _ _ (by simpa using hc k hlt 0 _ rfl)
   have d1 : W.cell? ⟨b, off + k * 3 + 1, none⟩ = some (.int .u8 p1) := L _ _ (by simpa using hc k hlt 1 _ rfl)
   have d2 : W.cell? ⟨b, off + k * 3 + 2, none⟩ = some (.int .u8 p2) := L _ _ (by simpa using hc k hlt 2 _ rfl)
   clear hc L
   go_wp2
   go_region
   all_goals
    go_wp2
    go_roundw
    case rel => exact ⟨k + 1, by omega, by go_num, _, rfl⟩
    case measure => simp [intOf]; omega
  ·have hlt' : ¬ (k : Int) < (n : Int) := by omega
   go_wp2
   go_ret
   exact ⟨rfl, below_drewN HB.out d⟩
end Go.Proofs.YtekfbphnoibnjaaGreatDoor
namespace Go.Proofs.YtekfbphnoibnjaaGreatDoor
open Go.RowKit
open Flm (Px FS)
theorem FilmAt.row {w : World} {B z : Nat} {Lv : Value} {frs : List (List Px)} (h : FilmAt w B Lv z frs) : ∃ a c, Lv = .slice a frs.length c /\ ∀ i, i < frs.length -> ∃ g f, a = some ⟨g, 0, none⟩ /\ w.cell? ⟨g, i, none⟩ = some (.slice (some ⟨f, 0, none⟩) (z * z) (z * z)) /\ Pixs w B f (z * z) (frs.getD i []) := by
 obtain ⟨fbs, h1, h2, h3, _⟩ := h
 obtain ⟨a, c, e, hor⟩ := owns_form h1
 refine ⟨a, c, e, fun i hi => ?_⟩
 rcases hor with h0 | ⟨g, rfl, _⟩
 ·omega
 ·refine ⟨g, fbs.getD i 0, rfl, ?_, h3 i hi⟩
  rw [e] at h1
  have := World.ownsRow.cellAt h1 i (by omega)
  rw [this]
  unfold rowVals
  simp [List.getD_eq_getElem?_getD, show i < fbs.length by omega]
set_option maxHeartbeats 4000000 in
set_option maxRecDepth 100000 in
theorem sameFilm_same (w : World) (B B' z : Nat) (La Lb : Value) (frs : List (List Px)) (ha : FilmAt w B La z frs) (hb : FilmAt w B' Lb z frs) :
  Calls Tryz.prog 31 #[.agg #[.int .i64 z, La], .agg #[.int .i64 z, Lb]] w fun x w' => x = .returned (.bool true) /\ Below w.heap.size w w' := by
 obtain ⟨a, ca, rfl, ra⟩ := ha.row
 obtain ⟨b, cb, rfl, rb⟩ := hb.row
 obtain ⟨n, hn⟩ : ∃ n, n = frs.length := ⟨_, rfl⟩
 have h8 : n <= 8 := by obtain ⟨_, _, _, _, _, _, _, h8, _⟩ := ha; omega
 obtain ⟨Z, hZ⟩ : ∃ Z, Z = z * z := ⟨_, rfl⟩
 have hZ8 : Z <= 256 := by obtain ⟨_, _, _, _, _, _, hz, _⟩ := ha; rw [hZ]; rcases hz with e | e | e <;> subst e <;> decide
 rw [<- hn]
 obtain ⟨W, hW⟩ : ∃ W, W = (w.alloc (.cells #[.int .i64 z, .slice a n ca] 27)).alloc (.cells #[.int .i64 z, .slice b n cb] 27) := ⟨_, rfl⟩
 have hB : Below w.heap.size w W := by rw [hW]; exact ((Below.refl _ w).alloc (Nat.le_refl _) _).alloc (by simp) _
 have h0 : W.heap[w.heap.size]? = some (.cells #[.int .i64 z, .slice a n ca] 27 (0, 0)) := by rw [hW, Below.heap_alloc _ _ _ (by simp)]; exact heap_alloc_last w _
 have h1 : W.heap[w.heap.size + 1]? = some (.cells #[.int .i64 z, .slice b n cb] 27 (0, 0)) := by
  have := heap_alloc_last (w.alloc (.cells #[.int .i64 z, .slice a n ca] 27)) (.cells #[.int .i64 z, .slice b n cb] 27)
  rw [World.size_alloc] at this
  rw [hW]; exact this
 have k00 : W.cell? ⟨w.heap.size, 0, none⟩ = some (.int .i64 z) := cell_of_row _ _ 0 _ _ _ h0
 have k01 : W.cell? ⟨w.heap.size, 1, none⟩ = some (.slice a n ca) := cell_of_row _ _ 1 _ _ _ h0
 have k10 : W.cell? ⟨w.heap.size + 1, 0, none⟩ = some (.int .i64 z) := cell_of_row _ _ 0 _ _ _ h1
 have k11 : W.cell? ⟨w.heap.size + 1, 1, none⟩ = some (.slice b n cb) := cell_of_row _ _ 1 _ _ _ h1
 have HW : Hid (W = (w.alloc (.cells #[.int .i64 z, .slice a n ca] 27)).alloc (.cells #[.int .i64 z, .slice b n cb] 27)) := hW
 have HB : Hid (Below w.heap.size w W) := hB
 have HR : Hid (∀ i, i < n -> ∃ ga fa gb fb, a = some ⟨ga, 0, none⟩ /\ b = some ⟨gb, 0, none⟩ /\ W.cell? ⟨ga, i, none⟩ = some (.slice (some ⟨fa, 0, none⟩) Z Z) /\ W.cell? ⟨gb, i, none⟩ = some (.slice (some ⟨fb, 0, none⟩) Z Z) /\ ∀ k, k < Z -> ∃ p0 p1 p2 : Int, (W.cell? ⟨fa, k * 3, none⟩ = some (.int .u8 p0) /\ W.cell? ⟨fa, k * 3 + 1, none⟩ = some (.int .u8 p1) /\ W.cell? ⟨fa, k * 3 + 2, none⟩ = some (.int .u8 p2)) /\ (W.cell? ⟨fb, k * 3, none⟩ = some (.int .u8 p0) /\ W.cell? ⟨fb, k * 3 + 1, none⟩ = some (.int .u8 p1) /\ W.cell? ⟨fb, k * 3 + 2, none⟩ = some (.int .u8 p2))) := fun i hi => by
  have L : ∀ g t u, w.cell? ⟨g, t, none⟩ = some u -> W.cell? ⟨g, t, none⟩ = some u := fun g t u e => (hB.cell (p := ⟨g, t, none⟩) (World.block_lt_of_cell? w _ e)).trans e
  obtain ⟨ga, fa, ea, c1, p1⟩ := ra i (by omega)
  obtain ⟨gb, fb, eb, c2, p2⟩ := rb i (by omega)
  rw [<- hZ] at c1 c2 p1 p2
  refine ⟨ga, fa, gb, fb, ea, eb, L _ _ _ c1, L _ _ _ c2, fun k hk => ?_⟩
  obtain ⟨x0, x1, x2⟩ := p1.cell k hk
  obtain ⟨y0, y1, y2⟩ := p2.cell k hk
  exact ⟨_, _, _, ⟨L _ _ _ x0, L _ _ _ x1, L _ _ _ x2⟩, L _ _ _ y0, L _ _ _ y1, L _ _ _ y2⟩
 clear ra rb ha hb hW hB h0 h1 hn hZ
 go_enter Tryz.func31, Tryz.ntmps31
 go_wp2_with (rw [<- HW.out])
 go_loopw [5] (fun i wr => ∃ k : Nat, k <= n /\ i = .int .i64 k /\ ∃ d, wr = W.drewN d) (fun i _ => n - (intOf i).toNat)
 case atStart => exact ⟨0, by omega, rfl, 0, rfl⟩
 case round =>
  obtain ⟨i, hi, rfl, d, rfl⟩ := hrel
  by_cases hlt : i < n
  ·have hlt' : (i : Int) < (n : Int) := by omega
   obtain ⟨ga, fa, gb, fb, rfl, rfl, c1, c2, HP⟩ := HR.out i hlt
   have HPX : Hid (∀ k, k < Z -> ∃ p0 p1 p2 : Int, (W.cell? ⟨fa, k * 3, none⟩ = some (.int .u8 p0) /\ W.cell? ⟨fa, k * 3 + 1, none⟩ = some (.int .u8 p1) /\ W.cell? ⟨fa, k * 3 + 2, none⟩ = some (.int .u8 p2)) /\ (W.cell? ⟨fb, k * 3, none⟩ = some (.int .u8 p0) /\ W.cell? ⟨fb, k * 3 + 1, none⟩ = some (.int .u8 p1) /\ W.cell? ⟨fb, k * 3 + 2, none⟩ = some (.int .u8 p2))) := HP
   clear HP
   go_wp2
   go_region
   all_goals
    go_wp2
    go_loopw [6] (fun j wr => ∃ k : Nat, k <= Z /\ j = .int .i64 k /\ ∃ d, wr = W.drewN d) (fun j _ => Z - (intOf j).toNat)
    case atStart => exact ⟨0, by omega, rfl, _, rfl⟩
    case round =>
     obtain ⟨k, hk, rfl, d2, rfl⟩ := hrel
     by_cases hkz : k < Z
     ·have hkz' : (k : Int) < (Z : Int) := by omega
      obtain ⟨p0, p1, p2, ⟨x0, x1, x2⟩, y0, y1, y2⟩ := HPX.out k hkz
      have heq := fun w => eqPix w p0 p1 p2 p0 p1 p2
      go_wp2
      go_region
      all_goals
       go_wp2
       go_roundw
       case rel => exact ⟨k + 1, by omega, by go_num, _, rfl⟩
       case measure => simp [intOf]; omega
     ·have hkz' : ¬ ((k : Int) < (Z : Int)) := by omega
      go_wp2
      go_roundw
      case rel => exact ⟨i + 1, by omega, by go_num, _, rfl⟩
      case measure => simp [intOf]; omega
  ·have hlt' : ¬ (i : Int) < (n : Int) := by omega
   go_wp2
   go_ret
   exact ⟨rfl, below_drewN HB.out d⟩
end Go.Proofs.YtekfbphnoibnjaaGreatDoor
namespace Go.Proofs.YtekfbphnoibnjaaGreatDoor
open Go.RowKit
structure ChAt (w : World) (b o : Nat) (ch : List Int) : Prop where
 len : ch.length = 400
 cell : ∀ k, k < 400 -> w.cell? ⟨b, o + k, none⟩ = some (.int .u32 (ch.getD k 0))
 fz : ∀ k, k < 400 -> w.frozen? ⟨b, o + k, none⟩ = false
theorem chInfo : (Tryz.prog.info? 145).map (fun i => (i.zero, i.size)) = some (some (.agg (Array.replicate 400 (.int .u32 0))), 400) := by kernel_rfl
def chRowN (N k : Nat) : Array Value := (List.replicate k (Value.int .u32 2048) ++ List.replicate (N - k) (Value.int .u32 0)).toArray
theorem chRowN_zero (N : Nat) : chRowN N 0 = Array.replicate N (.int .u32 0) := by unfold chRowN; simp
theorem chRowN_set (N k : Nat) (h : k < N) : (chRowN N k).setIfInBounds k (.int .u32 2048) = chRowN N (k + 1) := by
 unfold chRowN
 simp only [List.setIfInBounds_toArray]
 congr 1
 rw [List.set_append_right _ _ (by simp), show N - k = (N - (k + 1)) + 1 by omega, List.replicate_succ, List.length_replicate, Nat.sub_self, List.set_cons_zero, List.replicate_succ' (n := k)]
 simp
theorem chRowN_get (N k : Nat) (j : Nat) (hj : j < N) : ∃ c, (chRowN N k)[j]? = some (.int .u32 c) := by
 unfold chRowN
 simp only [List.getElem?_toArray, List.getElem?_append, List.length_replicate, List.getElem?_replicate]
 split
 ·exact ⟨2048, rfl⟩
 ·exact ⟨0, by rw [if_pos (by omega)]⟩
theorem chRowN_full (N : Nat) : chRowN N N = Array.replicate N (.int .u32 2048) := by unfold chRowN; simp
def chRow (k : Nat) : Array Value := chRowN 400 k
theorem chRow_zero : chRow 0 = Array.replicate 400 (.int .u32 0) := chRowN_zero 400
theorem chRow_set (k : Nat) (h : k < 400) : (chRow k).setIfInBounds k (.int .u32 2048) = chRow (k + 1) := chRowN_set 400 k h
theorem chRow_get (k : Nat) (j : Nat) (hj : j < 400) : ∃ c, (chRow k)[j]? = some (.int .u32 c) := chRowN_get 400 k j hj
def evens (N : Nat) : Array Value := Array.replicate N (.int .u32 2048)
theorem evens_size (N : Nat) : (evens N).size = N := by unfold evens; simp
theorem evens_one (N : Nat) : (evens N).all (·.oneCell') = true := by
 unfold evens
 rw [Array.all_eq_true_iff_forall_mem]
 intro x hx
 simp at hx
 rw [hx.2]; rfl
theorem evens_get (N k : Nat) (h : k < N) : (evens N)[k]? = some (.int .u32 2048) := by unfold evens; simp [h]
def chEven : Array Value := evens 400
theorem chRow_full : chRow 400 = chEven := chRowN_full 400
theorem below_setCells (B b : Nat) (hb : B <= b) : ∀ (vs : List Value) (o : Nat) {w v : World}, Below B w v -> Below B w (v.setCells b o vs)
 | [], _, _, _, h => h
 | _ :: r, o, _, _, h => below_setCells B b hb r (o + 1) (h.setCell hb _)
set_option maxHeartbeats 1000000 in
set_option maxRecDepth 20000 in
theorem newChances (w : World) :
  Calls Tryz.prog 84 #[] w fun e w' => e = .returned (.agg chEven) /\ Below w.heap.size w w' := by
 obtain ⟨hzero, hsize⟩ := zero_of_info chInfo
 have HSZ : Hid ((Tryz.prog.info? 145).map (·.size) = some 400) := hsize
 clear hsize
 go_enter Tryz.func84, Tryz.ntmps84
 go_wp2
 rw [<- chRow_zero]
 obtain ⟨w1, hw1⟩ : ∃ w1, w1 = w.alloc (Obj.cells (chRow 0) 145) := ⟨_, rfl⟩
 rw [<- hw1]
 have hs1 : w1.heap.size = w.heap.size + 1 := by rw [hw1]; simp
 have HW : Hid (w1 = w.alloc (Obj.cells (chRow 0) 145)) := hw1
 clear hw1 hzero
 rw [<- hs1]
 go_loopw [3] (fun i wr => ∃ k : Nat, k <= 400 /\ i = .int .i64 k /\ wr = w1.alloc (Obj.cells (chRow k) 145)) (fun i _ => 400 - (intOf i).toNat)
 case atStart => exact ⟨0, by omega, rfl, rfl⟩
 case round =>
  obtain ⟨k, hk, rfl, rfl⟩ := hrel
  by_cases hlt : k < 400
  ·have hlt' : (k : Int) < 400 := by omega
   obtain ⟨c0, hc⟩ := chRow_get k k hlt
   have hset := chRow_set k hlt
   go_wp2
   go_roundw
   case rel => exact ⟨k + 1, by omega, by go_num, rfl⟩
   case measure => simp [intOf]; omega
  ·obtain rfl : k = 400 := by omega
   obtain ⟨W, hW⟩ : ∃ W, W = w1.alloc (Obj.cells (chRow 400) 145) := ⟨_, rfl⟩
   rw [<- hW]
   have HR : Hid (W.rangeAt w1.heap.size 0 chEven.toList) := by
    intro j v hv
    rw [<- chRow_full] at hv
    rw [hW, cell_of_row _ _ (0 + j) (chRow 400) 145 (0, 0) (heap_alloc_last w1 _)]
    simpa using hv
   have HT : Hid (W.there w.heap.size 0 400) := by
    intro j hj
    have hb : w.heap.size < w1.heap.size := by omega
    obtain ⟨c, hc⟩ := chRow_get 0 j hj
    have hcell : w1.cell? ⟨w.heap.size, 0 + j, none⟩ = some (.int .u32 c) := by
     rw [HW.out, cell_of_row _ _ (0 + j) (chRow 0) 145 (0, 0) (heap_alloc_last w _)]
     simpa using hc
    rw [hW]
    refine ⟨?_, ?_⟩
    ·rw [World.cell?_alloc_lt _ _ _ hb, hcell]; rfl
    ·rw [World.frozen?_alloc_past _ _ _ hb, HW.out]; simp
   have HB : Hid (Below w.heap.size w W) := by
    rw [hW, HW.out]
    exact (((Below.refl _ w).alloc (Nat.le_refl _) _).alloc (by simp) _)
   clear hW
   go_wp2
   refine wp_load_mid 145 (.tmp 1) rfl w1.heap.size 0 rfl chEven.toList _ HR.out Tryz.underlying145 rfl ?hsz ?_
   case hsz => rw [HSZ.out]; simp only [Array.length_toList]; rw [chEven, evens_size]
   rename_i hK
   apply hK
   clear hK
   rw [Array.toArray_toList]
   have hcs : chEven.size = 400 := evens_size 400
   go_wp2
   have hsc := run_storeCells_cells (P := Tryz.prog) w.heap.size 0 chEven.toList 0 W (fun j hj => by simpa using (HT.out j (by rw [Array.length_toList, chEven, evens_size] at hj; exact hj)).1) (fun j hj => by simpa using (HT.out j (by rw [Array.length_toList, chEven, evens_size] at hj; exact hj)).2)
    (fun v hv => (Array.all_eq_true_iff_forall_mem.1 (evens_one 400)) v (Array.mem_toList_iff.1 hv))
   simp only [Nat.add_zero] at hsc
   simp only [hsc, Result.andThen]
   rw [Oper.upon_skip]
   go_wp2
   (try simp only [Exit.inBlock, Exit.then])
   have hld := run_loadVar_mid (P := Tryz.prog) (W.setCells w.heap.size 0 chEven.toList) w.heap.size 0 145 chEven.toList _ (World.rangeAt_setCells_same _ _ _ _ (by rw [Array.length_toList, chEven, evens_size]; exact HT.out)) Tryz.underlying145 rfl (by rw [HSZ.out]; simp only [Array.length_toList]; rw [chEven, evens_size])
   refine bodyPost_ret (v := .agg chEven) ?_ rfl ⟨rfl, below_setCells _ _ (Nat.le_refl _) _ _ HB.out⟩
   rw [Array.toArray_toList] at hld
   simp [results, Tryz.results84, Act.put, asAddr, hld]
end Go.Proofs.YtekfbphnoibnjaaGreatDoor
namespace Go.Proofs.YtekfbphnoibnjaaGreatDoor
open Go.RowKit
theorem ChAt.set {w : World} {b o : Nat} {ch : List Int} (h : ChAt w b o ch) (k : Nat) (v : Int) : ChAt (w.setCell ⟨b, o + k, none⟩ (.int .u32 v)) b o (ch.set k v) := by
 refine ⟨by rw [List.length_set]; exact h.len, fun j hj => ?_, fun j hj => by rw [World.frozen?_setCell]; exact h.fz j hj⟩
 rw [Rdr.getD_set]
 by_cases e : k = j
 ·subst e
  rw [if_pos ⟨rfl, by rw [h.len]; exact hj⟩]
  exact World.cell?_setCell_same _ _ _ (h.cell k hj)
 ·rw [if_neg (fun h' => e h'.1)]
  exact cell_off (h.cell j hj) (.inr (by omega))
theorem ChAt.off {w : World} {b o : Nat} {ch : List Int} (h : ChAt w b o ch) {b' o' : Nat} {v : Value} (hne : b' ≠ b \/ o' < o \/ o + 400 <= o') : ChAt (w.setCell ⟨b', o', none⟩ v) b o ch :=
 ⟨h.len, fun j hj => cell_off (h.cell j hj) (by omega), fun j hj => by rw [World.frozen?_setCell]; exact h.fz j hj⟩
theorem ChAt.on {w w' : World} {b o : Nat} {ch : List Int} (h : ChAt w b o ch) (hb : w'.heap[b]? = w.heap[b]?) : ChAt w' b o ch :=
 ⟨h.len, fun j hj => (World.cell?_of_block (a := ⟨b, o + j, none⟩) hb).trans (h.cell j hj), fun j hj => (World.frozen?_of_block (a := ⟨b, o + j, none⟩) hb).trans (h.fz j hj)⟩
set_option maxHeartbeats 1000000 in
set_option maxRecDepth 20000 in
theorem chCut (w : World) (b o : Nat) (k : Nat) (R c : Int) (hk : k < 400) (hc : w.cell? ⟨b, o + k, none⟩ = some (.int .u32 c)) (R0 : 0 <= R) (R1 : R <= 4294967295) (m1 : R / 4096 * c <= 4294967295) (m0 : 0 <= R / 4096 * c) :
  Calls Tryz.prog 143 #[.pointer (some ⟨b, o, none⟩), .int .u32 R, .int .i64 k] w fun e w' => e = .returned (.int .u32 (R / 4096 * c)) /\ w' = w := by
 have hk' : (k : Int) < 400 := by omega
 go_enter Tryz.func143, Tryz.ntmps143
 go_wp2
 go_ret
 exact ⟨rfl, rfl⟩
set_option maxHeartbeats 1000000 in
set_option maxRecDepth 20000 in
theorem chLearn0 (w : World) (b o : Nat) (k : Nat) (c : Int) (hk : k < 400) (hc : w.cell? ⟨b, o + k, none⟩ = some (.int .u32 c)) (hf : w.frozen? ⟨b, o + k, none⟩ = false) (c0 : 31 <= c) (c1 : c <= 4065) :
  Calls Tryz.prog 144 #[.pointer (some ⟨b, o, none⟩), .int .i64 k, .int .i64 0] w fun e w' => e = .returned (.tuple #[]) /\ w' = (w.setCell ⟨b, o + k, none⟩ (.int .u32 (c + (4096 - c) / 32))).drew := by
 have hk' : (k : Int) < 400 := by omega
 go_enter Tryz.func144, Tryz.ntmps144
 go_wp2
 go_region
 go_end0
 exact ⟨rfl, rfl⟩
set_option maxHeartbeats 1000000 in
set_option maxRecDepth 20000 in
theorem chLearn1 (w : World) (b o : Nat) (k : Nat) (c : Int) (hk : k < 400) (hc : w.cell? ⟨b, o + k, none⟩ = some (.int .u32 c)) (hf : w.frozen? ⟨b, o + k, none⟩ = false) (c0 : 31 <= c) (c1 : c <= 4065) :
  Calls Tryz.prog 144 #[.pointer (some ⟨b, o, none⟩), .int .i64 k, .int .i64 1] w fun e w' => e = .returned (.tuple #[]) /\ w' = (w.setCell ⟨b, o + k, none⟩ (.int .u32 (c - c / 32))).drew := by
 have hk' : (k : Int) < 400 := by omega
 go_enter Tryz.func144, Tryz.ntmps144
 go_wp2
 go_region
 go_end0
 exact ⟨rfl, rfl⟩
end Go.Proofs.YtekfbphnoibnjaaGreatDoor
