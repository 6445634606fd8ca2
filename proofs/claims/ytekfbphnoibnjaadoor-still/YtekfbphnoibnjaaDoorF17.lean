/-
  What an area shows, as a key: its side, its pixels, and nothing behind them. What an area shows is a key of a map: two are the same key just if they are the same.
-/
import Derived.Test.YtekfbphnoibnjaaDoorF09
import Derived.Deep.MidRow
import Derived.DeepKeys3
namespace Go.Proofs.YtekfbphnoibnjaaDoor
open Go.RowKit
open Flm (Px FS)
def contL (n : Nat) (ps : List Px) : List Value := .int .i64 n :: (pxCells ps ++ List.replicate (768 - ps.length * 3) (.int .u8 0))
theorem contL_len {n : Nat} {ps : List Px} (h : ps.length <= 256) : (contL n ps).length = 769 := by
 unfold contL
 rw [List.length_cons, List.length_append, pxCells_len, List.length_replicate]
 omega
theorem contL_one (n : Nat) (ps : List Px) : ∀ u ∈ contL n ps, u.oneCell' = true := by
 intro u hu
 unfold contL at hu
 rcases List.mem_cons.1 hu with rfl | hu
 ·rfl
 ·rcases List.mem_append.1 hu with hu | hu
  ·unfold pxCells at hu
   obtain ⟨p, _, hp⟩ := List.mem_flatMap.1 hu
   simp at hp
   rcases hp with rfl | rfl | rfl <;> rfl
  ·rw [List.eq_of_mem_replicate hu]; rfl
theorem contL_set {n : Nat} {ps : List Px} (h : ps.length < 256) (p : Px) : (((contL n ps).set (1 + ps.length * 3) (.int .u8 p.1)).set (1 + ps.length * 3 + 1) (.int .u8 p.2.1)).set (1 + ps.length * 3 + 2) (.int .u8 p.2.2) = contL n (ps ++ [p]) := by
 have hl := pxCells_len ps
 have e1 : pxCells (ps ++ [p]) = pxCells ps ++ [.int .u8 p.1, .int .u8 p.2.1, .int .u8 p.2.2] := by simp [pxCells]
 obtain ⟨m, hm⟩ : ∃ m, 768 - ps.length * 3 = m + 3 := ⟨768 - ps.length * 3 - 3, by omega⟩
 have hm2 : 768 - (ps ++ [p]).length * 3 = m := by rw [List.length_append]; simp; omega
 unfold contL
 rw [hm2, e1, hm, Nat.add_comm 1, show ps.length * 3 + 1 + 1 = (ps.length * 3 + 1) + 1 by omega, show ps.length * 3 + 1 + 2 = (ps.length * 3 + 2) + 1 by omega, List.set_cons_succ, List.set_cons_succ, List.set_cons_succ]
 congr 1
 rw [List.replicate_succ, List.replicate_succ, List.replicate_succ, List.set_append_right _ _ (by omega), List.set_append_right _ _ (by omega), List.set_append_right _ _ (by omega), hl]
 rw [Nat.sub_self, show ps.length * 3 + 1 - ps.length * 3 = 1 by omega, show ps.length * 3 + 2 - ps.length * 3 = 2 by omega]
 simp
theorem contL_get {n : Nat} {ps : List Px} {j : Nat} (h : ps.length <= 256) (h0 : 0 < j) (h1 : j < 769) : ∃ c, (contL n ps)[j]? = some (.int .u8 c) := by
 have hl := contL_len (n := n) h
 obtain ⟨k, rfl⟩ : ∃ k, j = k + 1 := ⟨j - 1, by omega⟩
 have hk : k < (pxCells ps ++ List.replicate (768 - ps.length * 3) (Value.int .u8 0)).length := by
  unfold contL at hl
  rw [List.length_cons] at hl
  omega
 unfold contL
 rw [List.getElem?_cons_succ, List.getElem?_eq_getElem hk]
 have hm : (pxCells ps ++ List.replicate (768 - ps.length * 3) (Value.int .u8 0))[k] ∈ (pxCells ps ++ List.replicate (768 - ps.length * 3) (Value.int .u8 0)) := List.getElem_mem hk
 rcases List.mem_append.1 hm with hu | hu
 ·unfold pxCells at hu
  obtain ⟨p, _, hp⟩ := List.mem_flatMap.1 hu
  simp at hp
  rcases hp with e | e | e
  ·exact ⟨_, congrArg some e⟩
  ·exact ⟨_, congrArg some e⟩
  ·exact ⟨_, congrArg some e⟩
 ·exact ⟨0, congrArg some (List.eq_of_mem_replicate hu)⟩
theorem contInfo : (Tryd.prog.info? 127).map (fun i => (i.zero, i.size)) = some (some (.agg (contL 0 []).toArray), 769) := by kernel_rfl
theorem contL_inj {n m : Nat} {ps qs : List Px} (hl : ps.length = qs.length) (h : contL n ps = contL m qs) : n = m /\ ps = qs := by
 unfold contL at h
 rw [hl] at h
 injection h with h1 h2
 injection h1 with _ h1
 refine ⟨by omega, ?_⟩
 have h3 := List.append_cancel_right h2
 clear h1 h2
 induction ps generalizing qs with
 | nil => cases qs with
  | nil => rfl
  | cons q qs => simp at hl
 | cons p ps ih => cases qs with
  | nil => simp at hl
  | cons q qs =>
   rw [pxCells_cons, pxCells_cons] at h3
   injection h3 with a1 h3
   injection h3 with a2 h3
   injection h3 with a3 h3
   injection a1 with _ a1
   injection a2 with _ a2
   injection a3 with _ a3
   have : p = q := by obtain ⟨p1, p2, p3⟩ := p; obtain ⟨q1, q2, q3⟩ := q; simp at a1 a2 a3; simp [a1, a2, a3]
   rw [this, ih (by simpa using hl) h3]
end Go.Proofs.YtekfbphnoibnjaaDoor
namespace Go.Proofs.YtekfbphnoibnjaaDoor
open Go.RowKit
open Flm (Px FS okPx)
theorem contType1 : Tryd.prog.keyTypeAt 5 127 = true := by kernel_rfl
theorem contType2 : Tryd.prog.tiled 5 127 = true := by kernel_rfl
theorem contType3 : Tryd.prog.keyType 127 = true := by kernel_rfl
theorem contKey : WideMaps.KeyLaw Tryd.prog 127 := deep_law (m := 5) (by omega) contType1 contType2 (by rw [Tryd.underlying127])
theorem contCells : Tryd.prog.cellsOf 127 = 769 /\ Tryd.prog.cellsOf 125 = 768 /\ Tryd.prog.cellsOf 40 = 3 /\ Tryd.prog.cellsOf 5 = 1 /\ Tryd.prog.cellsOf 3 = 1 := by
 have h : (Tryd.prog.cellsOf 127 == 769 && Tryd.prog.cellsOf 125 == 768 && Tryd.prog.cellsOf 40 == 3 && Tryd.prog.cellsOf 5 == 1 && Tryd.prog.cellsOf 3 == 1) = true := by kernel_rfl
 simp only [Bool.and_eq_true, beq_iff_eq] at h
 exact ⟨h.1.1.1.1, h.1.1.1.2, h.1.1.2, h.1.2, h.2⟩
theorem keyLits_array {P : Program} {d : Nat} {t e : TypeId} {n k : Nat} {cs : List Value} {r : List (List Lit)} (hu : P.underlying t = some (.array n e)) (hl : cs.length = P.cellsOf t) (hk : P.cellsOf e = k)
  (hr : ((List.range n).mapM fun i => P.keyLits d e ((cs.drop (i * k)).take k)) = some r) : P.keyLits (d + 1) t cs = some r.flatten := by
 subst hk
 unfold Program.keyLits
 rw [hu]
 simp only [hl, if_true, hr, Option.map_some]
theorem keyLits_struct {P : Program} {d : Nat} {t : TypeId} {fs : Array Field} {cs : List Value} {r : List (List Lit)} (hu : P.underlying t = some (.struct fs)) (hl : cs.length = P.cellsOf t) (hn : fs.all (·.name != "_") = true)
  (hr : (fs.toList.mapM fun f => P.keyLits d f.type ((cs.drop f.offset).take (P.cellsOf f.type))) = some r) : P.keyLits (d + 1) t cs = some r.flatten := by
 unfold Program.keyLits
 rw [hu]
 simp only [hl, hn, and_self, if_true, hr, Option.map_some]
def IsU8 (v : Value) : Prop := ∃ c : Int, v = .int .u8 c /\ 0 <= c /\ c <= 255
theorem lits_u8 (d : Nat) {v : Value} (h : IsU8 v) : ∃ l, Tryd.prog.keyLits (d + 1) 5 [v] = some l := by
 obtain ⟨c, rfl, h0, h1⟩ := h
 have hw : (Lit.int .u8 c).wf = true := by
  unfold Lit.wf
  rw [Bool.and_eq_true, decide_eq_true_eq, decide_eq_true_eq]
  exact ⟨h0, h1⟩
 refine ⟨[.int .u8 c], ?_⟩
 simp only [Program.keyLits, Tryd.underlying5, hw, and_self, if_true]
theorem mapM_all {α β : Type} {f : α -> Option β} : ∀ {l : List α}, (∀ x ∈ l, ∃ y, f x = some y) -> ∃ r, l.mapM f = some r
 | [], _ => ⟨[], rfl⟩
 | a :: t, h => by
  obtain ⟨b, hb⟩ := h a (.head _)
  obtain ⟨bs, hbs⟩ := mapM_all (l := t) (fun x hx => h x (.tail _ hx))
  exact ⟨b :: bs, by simp [List.mapM_cons, hb, hbs]⟩
theorem chunk_len {α : Type} {cs : List α} {i k n : Nat} (hl : cs.length = n * k) (hi : i < n) : ((cs.drop (i * k)).take k).length = k := by
 rw [List.length_take, List.length_drop, hl, <- Nat.sub_mul]
 have : 1 * k <= (n - i) * k := Nat.mul_le_mul_right _ (by omega)
 omega
theorem lits_pix (d : Nat) {cs : List Value} (hl : cs.length = 3) (h : ∀ v ∈ cs, IsU8 v) : ∃ l, Tryd.prog.keyLits (d + 1 + 1) 40 cs = some l := by
 obtain ⟨r, hr⟩ := mapM_all (l := List.range 3) (f := fun i => Tryd.prog.keyLits (d + 1) 5 ((cs.drop (i * 1)).take 1)) fun i hi => by
  have h1 := chunk_len (k := 1) (n := 3) (i := i) (cs := cs) (by omega) (List.mem_range.1 hi)
  obtain ⟨v, hv⟩ := List.length_eq_one_iff.1 h1
  rw [hv]
  exact lits_u8 d (h v (List.mem_of_mem_drop (List.mem_of_mem_take (hv ▸ List.mem_singleton.2 rfl))))
 refine ⟨r.flatten, ?_⟩
 exact keyLits_array Tryd.underlying40 (by rw [contCells.2.2.1, hl]) contCells.2.2.2.1 hr
theorem lits_pixels (d : Nat) {cs : List Value} (hl : cs.length = 768) (h : ∀ v ∈ cs, IsU8 v) : ∃ l, Tryd.prog.keyLits (d + 1 + 1 + 1) 125 cs = some l := by
 obtain ⟨r, hr⟩ := mapM_all (l := List.range 256) (f := fun i => Tryd.prog.keyLits (d + 1 + 1) 40 ((cs.drop (i * 3)).take 3)) fun i hi => by
  exact lits_pix d (chunk_len (n := 256) (by omega) (List.mem_range.1 hi)) fun v hv => h v (List.mem_of_mem_drop (List.mem_of_mem_take hv))
 refine ⟨r.flatten, ?_⟩
 exact keyLits_array Tryd.underlying125 (by rw [contCells.2.1, hl]) contCells.2.2.1 hr
theorem lits_int (d : Nat) {n : Nat} (h : n <= 16) : ∃ l, Tryd.prog.keyLits (d + 1) 3 [.int .i64 n] = some l := by
 have hw : (Lit.int .i64 (n : Int)).wf = true := by
  unfold Lit.wf
  rw [Bool.and_eq_true, decide_eq_true_eq, decide_eq_true_eq]
  have h1 : IntKind.min .i64 = -9223372036854775808 := rfl
  have h2 : IntKind.max .i64 = 9223372036854775807 := rfl
  rw [h1, h2]
  omega
 refine ⟨[.int .i64 n], ?_⟩
 simp only [Program.keyLits, Tryd.underlying3, hw, and_self, if_true]
theorem contL_u8 {n : Nat} {ps : List Px} (ho : ∀ p ∈ ps, okPx p) : ∀ v ∈ (contL n ps).drop 1, IsU8 v := by
 intro u hu
 unfold contL at hu
 rw [List.drop_succ_cons, List.drop_zero] at hu
 rcases List.mem_append.1 hu with hu | hu
 ·unfold pxCells at hu
  obtain ⟨p, hp, hm⟩ := List.mem_flatMap.1 hu
  obtain ⟨a, b, c⟩ := ho p hp
  simp at hm
  rcases hm with rfl | rfl | rfl
  ·exact ⟨_, rfl, a.1, a.2⟩
  ·exact ⟨_, rfl, b.1, b.2⟩
  ·exact ⟨_, rfl, c.1, c.2⟩
 ·rw [List.eq_of_mem_replicate hu]; exact ⟨0, rfl, by decide, by decide⟩
theorem cont_is {n : Nat} {ps : List Px} (hn : n <= 16) (hp : ps.length <= 256) (ho : ∀ p ∈ ps, okPx p) : ∃ l, keyOf Tryd.prog 127 (.agg (contL n ps).toArray) = some l := by
 have hl := contL_len (n := n) hp
 obtain ⟨d, hd⟩ : ∃ d, Tryd.prog.types.size + 1 = d + 1 + 1 + 1 + 1 := by
  have h : decide (3 <= Tryd.prog.types.size) = true := by kernel_rfl
  have h2 := of_decide_eq_true h
  exact ⟨Tryd.prog.types.size - 3, by omega⟩
 obtain ⟨l0, h0⟩ := lits_int (d + 1 + 1) hn
 obtain ⟨l1, h1⟩ := lits_pixels d (cs := (contL n ps).drop 1) (by rw [List.length_drop, hl]) (contL_u8 ho)
 have hk := contType3
 have hf : (Value.agg (contL n ps).toArray).formed Tryd.prog 127 = true := by
  unfold Value.formed
  simp only [Tryd.underlying127, contCells.1, List.size_toArray, hl, beq_self_eq_true]
 have hL : Tryd.prog.keyLits (Tryd.prog.types.size + 1) 127 (contL n ps) = some [l0, l1].flatten := by
  rw [hd]
  refine keyLits_struct Tryd.underlying127 (by rw [contCells.1, hl]) (by simp) ?_
  have t0 : ((contL n ps).drop 0).take 1 = [.int .i64 n] := rfl
  have t1 : ((contL n ps).drop 1).take 768 = (contL n ps).drop 1 := List.take_of_length_le (by rw [List.length_drop, hl]; omega)
  simp only [List.mapM_cons, List.mapM_nil, contCells.2.1, contCells.2.2.2.2, t0, t1, h0, h1]
  rfl
 refine ⟨.string (keyBytes [l0, l1].flatten), ?_⟩
 unfold keyOf
 rw [Tryd.underlying127]
 simp only [hk, hf, Bool.and_self, if_true]
 have hc : (Value.agg (contL n ps).toArray).cells.toList = contL n ps := rfl
 rw [hc, hL]
 rfl
end Go.Proofs.YtekfbphnoibnjaaDoor
