/-
  The tallies while an area's colours are counted: in memory.
-/
import Derived.Test.YtekfbphnoibnjaaDoorF06
import Derived.Test.YtekfbphnoibnjaaDoorF07
import Derived.Test.YtekfbphnoibnjaaDoorF16
import Derived.Test.YtekfbphnoibnjaaDoorF19
import Derived.Maps.AppendAt
namespace Go.Proofs.YtekfbphnoibnjaaDoor
open Go.RowKit Go.Shelf
open Flm (Px FS okPx)
open Pk (find tally tallies coloursL sorts)
theorem boxes5 (w : World) (a b c d e : Obj) {H : Nat} (hH : H = w.heap.size) {W : World} (hW : W = ((((w.alloc a).alloc b).alloc c).alloc d).alloc e) :
  W.heap[H]? = some a /\ W.heap[H + 1]? = some b /\ W.heap[H + 1 + 1]? = some c /\ W.heap[H + 1 + 1 + 1]? = some d /\ W.heap[H + 1 + 1 + 1 + 1]? = some e /\ W.heap.size = H + 5 /\ Below w.heap.size w W := by
 subst hH
 subst hW
 have s1 : (w.alloc a).heap.size = w.heap.size + 1 := by simp
 have s2 : ((w.alloc a).alloc b).heap.size = w.heap.size + 1 + 1 := by simp
 have s3 : (((w.alloc a).alloc b).alloc c).heap.size = w.heap.size + 1 + 1 + 1 := by simp
 have s4 : ((((w.alloc a).alloc b).alloc c).alloc d).heap.size = w.heap.size + 1 + 1 + 1 + 1 := by simp
 have h1 := heap_alloc_last w a
 have h2 := heap_alloc_last (w.alloc a) b
 have h3 := heap_alloc_last ((w.alloc a).alloc b) c
 have h4 := heap_alloc_last (((w.alloc a).alloc b).alloc c) d
 have h5 := heap_alloc_last ((((w.alloc a).alloc b).alloc c).alloc d) e
 rw [s1] at h2
 rw [s2] at h3
 rw [s3] at h4
 rw [s4] at h5
 have up : ∀ (W : World) (o p : Obj) (k : Nat), W.heap[k]? = some p -> (W.alloc o).heap[k]? = some p := fun W o p k h => (Below.heap_alloc _ _ _ (heap_lt0 h)).trans h
 exact ⟨up _ _ _ _ (up _ _ _ _ (up _ _ _ _ (up _ _ _ _ h1))), up _ _ _ _ (up _ _ _ _ (up _ _ _ _ h2)), up _ _ _ _ (up _ _ _ _ h3), up _ _ _ _ h4, h5, by simp, (((((Below.refl _ w).alloc (Nat.le_refl _) _).alloc (by simp) _).alloc (by simp; omega) _).alloc (by simp; omega) _).alloc (by simp; omega) _⟩
theorem len_run {P : Program} {t e ty : TypeId} (ht : P.underlying t = some (.slice e)) {a : Option Addr} {N cp : Nat} (w : World) : Sem.run P (Builtin.len_ #[t] ty #[.slice a N cp]) w = .ok (.int .i64 N) w := by
 simp [Builtin.len_, run_underlying ht, goInt]
theorem pxInfo4 : (Tryd.prog.info? 40).map (fun i => (i.zero, i.size, i.bytes)) = some (some (.agg #[.int .u8 0, .int .u8 0, .int .u8 0]), 3, 3) := by kernel_rfl
theorem makePx4 (n : Nat) (hn : n <= 4) (w : World) : Sem.run Tryd.prog (Instr.makeSlice 38 (.int .i64 n) (.int .i64 n)) w = .ok (.slice (some ⟨w.heap.size, 0, none⟩) n n) (w.alloc (.cells (madeCells #[.int .u8 0, .int .u8 0, .int .u8 0] (n * 3)) 40)) := by
 obtain ⟨i0, hi, h0, h1, h2⟩ := info_parts pxInfo4
 have := run_make (P := Tryd.prog) w 38 40 i0 _ Tryd.underlying38 hi h0 .i64 .i64 n n (by omega) (Int.le_refl _) (by rw [h2]; omega) (by omega)
 rw [h1] at this
 simpa [Value.cells] using this
theorem madeCells_size (z : Array Value) (n : Nat) : (madeCells z n).size = n := by simp [madeCells]
theorem three_head {α : Type} (r : List α) (h : 3 <= r.length) : ∃ a b c r', r = a :: b :: c :: r' := by
 match r, h with
 | a :: b :: c :: r', _ => exact ⟨a, b, c, r', rfl⟩
theorem px_snoc (A : List Px) (a b c : Value) (r : List Value) (p : Px) {n : Nat} (h : (pxCells A).length = n) : ((((pxCells A ++ a :: b :: c :: r).set n (.int .u8 p.1)).set (n + 1) (.int .u8 p.2.1)).set (n + 2) (.int .u8 p.2.2)) = pxCells (A ++ [p]) ++ r := by
 subst h
 rw [pxCells_app]
 rw [List.set_append_right _ _ (Nat.le_refl _), Nat.sub_self, List.set_cons_zero, List.set_append_right _ _ (by omega), Nat.add_sub_cancel_left, List.set_cons_succ, List.set_cons_zero, List.set_append_right _ _ (by omega), Nat.add_sub_cancel_left, List.set_cons_succ, List.set_cons_succ, List.set_cons_zero, List.append_assoc]
 rfl
theorem talInfo : (Tryd.prog.info? 152).map (fun i => (i.zero, i.size, i.bytes)) = some (some (.agg #[.int .u8 0, .int .u8 0, .int .u8 0, .int .i64 0]), 4, 16) := by kernel_rfl
theorem talCells_app (a b : List Tl) : talCells (a ++ b) = talCells a ++ talCells b := by simp [talCells]
theorem talCells_cnt : ∀ (l : List Tl) (k : Nat) (t : Tl) (v : Int), l[k]? = some t -> (talCells l).set (k * 4 + 3) (.int .i64 v) = talCells (l.set k (t.1, v))
 | [], _, _, _, h => by simp at h
 | p :: l, 0, t, v, h => by
  obtain rfl : p = t := by simpa using h
  rfl
 | p :: l, k + 1, t, v, h => by
  have e1 : (k + 1) * 4 + 3 = k * 4 + 3 + 1 + 1 + 1 + 1 := by omega
  have e2 : talCells ((p :: l).set (k + 1) (t.1, v)) = .int .u8 p.1.1 :: .int .u8 p.1.2.1 :: .int .u8 p.1.2.2 :: .int .i64 p.2 :: talCells (l.set k (t.1, v)) := rfl
  rw [talCells_cons, e1, e2, <- talCells_cnt l k t v (by simpa using h)]
  simp only [List.set_cons_succ]
theorem tallies_len : ∀ (cs : List Px) (l r : List Tl), tallies cs l = some r -> l.length <= 4 -> r.length <= 4
 | [], l, r, h, h4 => by rw [tallies_nil] at h; cases h; exact h4
 | c :: cs, l, r, h, h4 => by
  rw [tallies_cons] at h
  split at h
  ·rename_i hf
   exact tallies_len cs _ r h (Pk.tally_len hf h4).1
  ·cases h
theorem tally_pos (l : List Tl) (c : Px) : 0 < (tally l c).length := by
 unfold Pk.tally
 split
 ·rename_i h; rw [List.length_set]; omega
 ·rw [List.length_append]; simp
theorem tallies_pos : ∀ (cs : List Px) (l r : List Tl), tallies cs l = some r -> (cs ≠ [] \/ 0 < l.length) -> 0 < r.length
 | [], l, r, h, h1 => by
  rw [tallies_nil] at h
  cases h
  exact h1.resolve_left (fun e => e rfl)
 | c :: cs, l, r, h, _ => by
  rw [tallies_cons] at h
  split at h
  ·exact tallies_pos cs _ r h (.inr (tally_pos l c))
  ·cases h
theorem Frm.onto {S S' : Nat -> Prop} {a b c : World} (h : Frm S a b) (k : Frm S' b c) (hs : ∀ i, S' i -> S i \/ a.heap.size <= i) : Frm S a c :=
 ⟨k.os.trans h.os, k.tape.trans h.tape, k.output.trans h.output, Nat.le_trans h.size k.size, fun i hi hn => (k.block i (Nat.lt_of_lt_of_le hi h.size) fun e => (hs i e).elim hn (fun e => by omega)).trans (h.block i hi hn)⟩
structure TJ (XG W : World) (K6 B : Nat) (L : List Tl) (v : Value) : Prop where
 fr : Frm (fun k => k = K6) XG W
 c6 : W.cell? ⟨K6, 0, none⟩ = some v
 f6 : W.frozen? ⟨K6, 0, none⟩ = false
 own : W.ownsRow B 152 4 v L.length (talCells L)
 hB : B = XG.heap.size
 hK : K6 < B
section
variable {XG W W' : World} {K6 B : Nat} {L : List Tl} {v : Value}
theorem TJ.ne (h : TJ XG W K6 B L v) : ∀ k, v.ownBlock = some k -> k ≠ K6 := fun k e e0 => by
 have := (World.ownsRow.lt h.own k e).1
 have := h.hK
 omega
theorem TJ.lt6 (h : TJ XG W K6 B L v) : K6 < W.heap.size := World.block_lt_of_cell? W _ h.c6
theorem TJ.frm {S : Nat -> Prop} (h : TJ XG W K6 B L v) (f : Frm S W W') (hs : ∀ k, S k -> B <= k) (hv : ∀ k, v.ownBlock = some k -> ¬ S k) : TJ XG W' K6 B L v := by
 have hns : ¬ S K6 := fun e => by have := hs _ e; have := h.hK; omega
 exact ⟨h.fr.onto f (fun k e => .inr (by rw [<- h.hB]; exact hs k e)), f.cell h.c6 hns, (World.frozen?_of_block (a := ⟨K6, 0, none⟩) (f.block K6 h.lt6 hns)).trans h.f6, f.owns h.own hv, h.hB, h.hK⟩
theorem TJ.below (h : TJ XG W K6 B L v) (f : Below W.heap.size W W') : TJ XG W' K6 B L v := h.frm (Frm.of_below (S := fun _ => False) f) (fun _ e => e.elim) (fun _ _ e => e)
theorem TJ.form (h : TJ XG W K6 B L v) : ∃ a cap, v = .slice a L.length cap /\ (L.length = 0 \/ ∃ g, a = some ⟨g, 0, none⟩ /\ TalB W g L) := by
 rcases h.own.2 with ⟨h1, h2⟩ | ⟨g, cap, cur, h1, h2, h3, h4, h5, h6, h7⟩
 ·exact ⟨none, 0, by rw [h1, h2], .inl h2⟩
 ·refine ⟨_, cap, h1, .inr ⟨g, rfl, cur.toList.drop (L.length * 4), ?_⟩⟩
  rw [h3, <- h7, List.take_append_drop]
theorem TJ.count {g n cap : Nat} (h : TJ XG W K6 B L (.slice (some ⟨g, 0, none⟩) n cap)) {i : Nat} {c : Px} {m : Int} (hi : L[i]? = some (c, m)) (hn : L.length = n) : W.cell? ⟨g, i * 4 + 3, none⟩ = some (.int .i64 m) /\ W.frozen? ⟨g, i * 4 + 3, none⟩ = false /\ TJ XG (W.setCell ⟨g, i * 4 + 3, none⟩ (.int .i64 (m + 1))) K6 B (L.set i (c, m + 1)) (.slice (some ⟨g, 0, none⟩) n cap) := by
 subst hn
 have hil := (List.getElem?_eq_some_iff.1 hi).1
 have hgk : g ≠ K6 := h.ne g rfl
 have hgB : B <= g := (World.ownsRow.lt h.own g rfl).1
 have hc := World.ownsRow.cellAt h.own (i * 4 + 3) (by omega)
 have hg := (talCells_get L [] hi).2.2.2
 rw [List.append_nil] at hg
 have hs := (World.ownsRow.stored h.own (i * 4 + 3) (.int .i64 (m + 1))).1
 rw [talCells_cnt L i _ _ hi] at hs
 have f : Frm (fun k => k = g) W (W.setCell ⟨g, i * 4 + 3, none⟩ (.int .i64 (m + 1))) := Frm.setCell (p := ⟨g, i * 4 + 3, none⟩) (Frm.refl (fun k => k = g) W) (.inl rfl) _
 refine ⟨hc.trans hg, World.ownsRow.frozenAt h.own _, h.fr.onto f (fun k e => .inr (by rw [<- h.hB, e]; exact hgB)), f.cell h.c6 (fun e => hgk e.symm), (World.frozen?_of_block (a := ⟨K6, 0, none⟩) (f.block K6 h.lt6 (fun e => hgk e.symm))).trans h.f6, ?_, h.hB, h.hK⟩
 rw [List.length_set]
 exact hs
theorem TJ.app (h : TJ XG W K6 B L v) (h4 : L.length <= 4) (c : Px) :
  ∃ g cap w2, (Builtin.append_ #[149, 149] 149 #[v, .slice (some ⟨W.heap.size, 0, none⟩) 1 1]).run Tryd.prog (W.alloc (.cells #[.int .u8 c.1, .int .u8 c.2.1, .int .u8 c.2.2, .int .i64 0] 152)) = .ok (.slice (some ⟨g, 0, none⟩) (L.length + 1) cap) w2 /\
   w2.cell? ⟨K6, 0, none⟩ = some v /\ w2.frozen? ⟨K6, 0, none⟩ = false /\ TJ XG (w2.setCell ⟨K6, 0, none⟩ (.slice (some ⟨g, 0, none⟩) (L.length + 1) cap)) K6 B (L ++ [(c, 0)]) (.slice (some ⟨g, 0, none⟩) (L.length + 1) cap) /\ Frm (fun k => k = K6 \/ v.ownBlock = some k) W (w2.setCell ⟨K6, 0, none⟩ (.slice (some ⟨g, 0, none⟩) (L.length + 1) cap)) /\ (v.ownBlock = some g \/ W.heap.size <= g) := by
 obtain ⟨W1, hW1⟩ : ∃ W1, W1 = W.alloc (.cells #[.int .u8 c.1, .int .u8 c.2.1, .int .u8 c.2.2, .int .i64 0] 152) := ⟨_, rfl⟩
 have hb : Below W.heap.size W W1 := by rw [hW1]; exact (Below.refl _ W).alloc (Nat.le_refl _) _
 have hq : W1.heap[W.heap.size]? = some (.cells #[.int .u8 c.1, .int .u8 c.2.1, .int .u8 c.2.2, .int .i64 0] 152 (0, 0)) := by rw [hW1]; exact heap_alloc_last W _
 rw [<- hW1]
 have h1 := h.below hb
 obtain ⟨i, i1, i2, i3, i4⟩ := info_parts talInfo
 obtain ⟨v', w2, r2, o2, g2, n2, at2⟩ := run_append_own_at (P := Tryd.prog) W1 B 149 149 152 i _ 4 16 Tryd.underlying149 i1 i2 i3 i4 rfl (by decide) v _ _ h1.own ⟨W.heap.size, 0, none⟩ 1 1 (talCells [(c, 0)]) rfl
  (fun j u hu => by
   have := cell_of_row _ _ j _ _ _ hq
   have e : (⟨W.heap.size, 0, none⟩ : Addr).add j = ⟨W.heap.size, j, none⟩ := by rw [Addr.add_mid, Nat.zero_add]
   rw [e, this]
   exact List.getElem?_toArray.trans hu)
  (fun u hu => by
   unfold talCells at hu
   simp at hu
   rcases hu with rfl | rfl | rfl | rfl <;> rfl)
  (by simp only [maxLen]; omega) (by omega) (by rw [h.hB]; exact Nat.le_trans h.fr.size hb.size)
 rw [<- talCells_app] at o2
 obtain ⟨g, cap, hv'⟩ : ∃ g cap, v' = .slice (some ⟨g, 0, none⟩) (L.length + 1) cap := by
  rcases o2.2 with ⟨e1, _⟩ | ⟨g, cap, cur, e1, _⟩
  ·exact absurd (n2.1 e1).2 (by decide)
  ·exact ⟨g, cap, e1⟩
 subst hv'
 have hne := h1.ne
 have hn2 : ∀ k, v.ownBlock = some k -> B <= k := fun k e => (World.ownsRow.lt h.own k e).1
 have f2 : Frm (fun k => v.ownBlock = some k) W1 w2 := (Frm.refl _ W1).grown g2 (fun k e => .inl e)
 have hn6 : ¬ v.ownBlock = some K6 := fun e => h.ne K6 e rfl
 have c2 := f2.cell h1.c6 hn6
 have z2 : w2.frozen? ⟨K6, 0, none⟩ = false := (World.frozen?_of_block (a := ⟨K6, 0, none⟩) (f2.block K6 h1.lt6 hn6)).trans h1.f6
 have hgK : g ≠ K6 := fun e => by have := (World.ownsRow.lt o2 g rfl).1; have := h.hK; omega
 have f3 : Frm (fun k => k = K6) w2 (w2.setCell ⟨K6, 0, none⟩ (.slice (some ⟨g, 0, none⟩) (L.length + 1) cap)) := Frm.setCell (p := ⟨K6, 0, none⟩) (Frm.refl (fun k => k = K6) w2) (.inl rfl) _
 refine ⟨g, cap, w2, r2, c2, z2, ⟨?_, World.cell?_setCell_same _ _ _ c2, ?_, ?_, h.hB, h.hK⟩, ?_, ?_⟩
 ·exact ((h1.fr.onto f2 (fun k e => .inr (by rw [<- h.hB]; exact hn2 k e))).trans f3)
 ·rw [World.frozen?_setCell]; exact z2
 ·rw [List.length_append, List.length_cons, List.length_nil]
  exact f3.owns o2 (fun k e e0 => by simp [Value.ownBlock] at e; omega)
 ·exact ((Frm.of_below hb).trans (f2.mono fun k _ e => .inr e)).trans (f3.mono fun k _ e => .inl e)
 ·rcases at2 with e | e
  ·exact .inl e.symm
  ·exact .inr (by simp [Value.ownBlock] at e; rw [e]; exact hb.size)
end
end Go.Proofs.YtekfbphnoibnjaaDoor
