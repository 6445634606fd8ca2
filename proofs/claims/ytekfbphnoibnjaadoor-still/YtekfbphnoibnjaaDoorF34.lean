/-
  What the program tells of a film is decoded as that film. The law's step: a film is told by the program, twice. The walk, out of what the calls promise. What the law Still makes: frames of one colour; the last frame once more.
-/
import Derived.Test.YtekfbphnoibnjaaDoorF33
import Derived.Test.YtekfbphnoibnjaaDoorF30
import Derived.Test.YtekfbphnoibnjaaDoorF01
import Derived.Deep.RegionWith
import Derived.Deep.WholeRow
import Derived.Test.YtekfbphnoibnjaaDoorF31
namespace Go.Proofs.YtekfbphnoibnjaaDoor
open Go.RowKit
open Flm (Px)
open Pk (filmL FilmOk)
theorem FrsIn.below {w w' : World} {fa : Option Addr} {N z : Nat} {F : List (List Px)} {nbs cs : Nat -> Nat} (h : FrsIn w fa N z F nbs cs) (b : Below w.heap.size w w') : FrsIn w' fa N z F nbs cs :=
 h.imp id fun ⟨fb, off, e, hf⟩ => ⟨fb, off, e, fun j hj => ⟨(b.cell (World.block_lt_of_cell? w _ (hf j hj).1)).trans (hf j hj).1, (hf j hj).2.below b⟩⟩
theorem encS_nums (z N : Nat) (F : List (List Px)) : encS z N F = strOfNums ([70, 66, (z : Int), (N : Int)] ++ Pack.digs ((Pack.fin (filmL z F N)).m + 4) (Pack.fin (filmL z F N)).n) := by
 have e : (⟨#[70, 66]⟩ : ByteArray) = strOfNums [70, 66] := rfl
 unfold encS endStr
 rw [e, strOfNums_app, strOfNums_app]
 rfl
end Go.Proofs.YtekfbphnoibnjaaDoor
namespace Go.Proofs.YtekfbphnoibnjaaDoor
open Go.RowKit
structure FB (W : World) (H : Nat) (z v : Value) : Prop where
 c0 : W.cell? ⟨H, 0, none⟩ = some z
 c1 : W.cell? ⟨H, 1, none⟩ = some v
theorem FB.below {W W' : World} {H : Nat} {z v : Value} (h : FB W H z v) (b : Below W.heap.size W W') : FB W' H z v := ⟨(b.cell (World.block_lt_of_cell? W _ h.c0)).trans h.c0, (b.cell (World.block_lt_of_cell? W _ h.c1)).trans h.c1⟩
theorem FB.cells {W : World} {H : Nat} {z v : Value} (h : FB W H z v) : W.cell? ⟨H, 0, none⟩ = some z /\ W.cell? ⟨H, 1, none⟩ = some v := ⟨h.c0, h.c1⟩
theorem fb_mk (w : World) (z v : Value) : ∃ W1 H, W1 = w.alloc (.cells #[z, v] 36) /\ H = w.heap.size /\ Below w.heap.size w W1 /\ FB W1 H z v :=
 ⟨_, _, rfl, rfl, (Below.refl _ w).alloc (Nat.le_refl _) _, ⟨cell_of_row _ _ 0 _ _ _ (heap_alloc_last w _), cell_of_row _ _ 1 _ _ _ (heap_alloc_last w _)⟩⟩
end Go.Proofs.YtekfbphnoibnjaaDoor
namespace Go.Proofs.YtekfbphnoibnjaaDoor
open Go.RowKit
open Flm (Px okPx)
theorem stMake (n : Nat) (hn : n <= 1000) (w : World) : Sem.run Tryd.prog (Instr.makeSlice 38 (.int .i64 n) (.int .i64 n)) w = .ok (.slice (some ⟨w.heap.size, 0, none⟩) n n) (w.alloc (.cells (madeCells #[.int .u8 0, .int .u8 0, .int .u8 0] (n * 3)) 40)) := by
 obtain ⟨i0, hi, h0, h1, h2⟩ := info_parts infoPx
 have := run_makeSlice (P := Tryd.prog) w 38 40 i0 _ Tryd.underlying38 hi h0 .i64 .i64 n n (by omega) (Int.le_refl _) (by rw [h1]; simp; omega) (by rw [h2]; omega) (by omega)
 rw [h1] at this
 simpa [Value.cells] using this
theorem stPx (n : Nat) : (madeCells #[Value.int .u8 0, Value.int .u8 0, Value.int .u8 0] (n * 3)).toList = pxCells (List.replicate n (0, 0, 0)) := by
 apply List.ext_getElem?
 intro i
 by_cases h : i < n * 3
 ·have h1 : (madeCells #[Value.int .u8 0, Value.int .u8 0, Value.int .u8 0] (n * 3)).toList[i]? = some (.int .u8 0) := by
   simp only [madeCells, Array.toList_map, List.getElem?_map, Array.toList_range, List.getElem?_range h, Option.map_some]
   have h3 : i % 3 = 0 \/ i % 3 = 1 \/ i % 3 = 2 := by omega
   rcases h3 with h3 | h3 | h3 <;> simp [h3]
  have h2 : (pxCells (List.replicate n (0, 0, 0)))[i]? = some (.int .u8 0) := by
   obtain ⟨k0, k1, k2⟩ := pxCells_get (List.replicate n (0, 0, 0)) (i / 3) (by simp; omega)
   have e : (List.replicate n ((0, 0, 0) : Px)).getD (i / 3) (0, 0, 0) = (0, 0, 0) := by
    rw [List.getD_eq_getElem?_getD, List.getElem?_replicate]; split <;> rfl
   rw [e] at k0 k1 k2
   have h3 : i = i / 3 * 3 \/ i = i / 3 * 3 + 1 \/ i = i / 3 * 3 + 2 := by omega
   rcases h3 with h3 | h3 | h3 <;> rw [h3] <;> assumption
  rw [h1, h2]
 ·rw [List.getElem?_eq_none (by simp [size_madeCells]; omega), List.getElem?_eq_none (by rw [pxCells_len]; simp; omega)]
theorem stMade (w : World) (L n : Nat) (hL : L <= w.heap.size) (hn : n <= 1000) : Pixs (w.alloc (.cells (madeCells #[.int .u8 0, .int .u8 0, .int .u8 0] (n * 3)) 40)) L w.heap.size n (List.replicate n (0, 0, 0)) := by
 unfold Pixs
 rw [<- stPx]
 exact World.ownsRow_lit w _ n hL (by unfold maxLen; omega) (size_madeCells _ _)
def halfP (Z k : Nat) (c : Px) : List Px := List.replicate k c ++ List.replicate (Z - k) (0, 0, 0)
theorem halfP_set {Z k : Nat} (c : Px) (h : k < Z) : (halfP Z k c).set k c = halfP Z (k + 1) c := by
 unfold halfP
 rw [List.set_append_right _ _ (by simp), List.length_replicate, Nat.sub_self, show Z - k = (Z - (k + 1)) + 1 by omega, List.replicate_succ, List.set_cons_zero, List.replicate_succ' (n := k), List.append_assoc]
 rfl
theorem halfP_zero (Z : Nat) (c : Px) : halfP Z 0 c = List.replicate Z (0, 0, 0) := by unfold halfP; simp
theorem halfP_full (Z : Nat) (c : Px) : halfP Z Z c = List.replicate Z c := by unfold halfP; simp
def PlainF (z : Nat) (G : List (List Px)) : Prop := ∀ f, f < G.length -> ∃ c, okPx c /\ G.getD f [] = List.replicate (z * z) c
theorem PlainF.add {z : Nat} {G : List (List Px)} (h : PlainF z G) {c : Px} (hc : okPx c) : PlainF z (G ++ [List.replicate (z * z) c]) := fun f hf => by
 rw [getD_snoc]
 by_cases e : f = G.length
 ·rw [if_pos e]; exact ⟨c, hc, rfl⟩
 ·rw [if_neg e]; exact h f (by simp at hf; omega)
theorem PlainF.film {z : Nat} {G : List (List Px)} (h : PlainF z G) (hz : Pk.IsZ z) (h8 : G.length <= 8) : Pk.FilmOk z G := by
 refine ⟨hz, h8, fun f hf => ?_, fun f p hp => ?_⟩
 ·obtain ⟨c, _, e⟩ := h f hf
  rw [e]; exact List.length_replicate
 ·rcases Nat.lt_or_ge f G.length with hf | hf
  ·obtain ⟨c, hc, e⟩ := h f hf
   rw [e] at hp
   rw [List.eq_of_mem_replicate hp]; exact hc
  ·rw [List.getD_eq_getElem?_getD, List.getElem?_eq_none hf] at hp
   cases hp
theorem enc_len (z N : Nat) (F : List (List Px)) : (encS z N F).size = 8 + (Pack.puts Pack.init (Pk.filmL z F N)).m := by
 rw [encS_nums, strOfNums_size, List.length_append, Pack.digs_length]
 simp only [List.length_cons, List.length_nil]
 show 0 + 1 + 1 + 1 + 1 + ((Pack.puts Pack.init (Pk.filmL z F N)).m + 4) = _
 omega
theorem owns_box {w : World} {B A : Nat} {e e' : TypeId} {sz : Nat} {v : Value} {n : Nat} {xs : List Value} {cs : Array Value} {q : Nat × Nat} (h : w.ownsRow B e sz v n xs) (hA : w.heap[A]? = some (.cells cs e' q)) (ne : e ≠ e') : v.ownBlock ≠ some A := by
 intro hk
 rcases h.2 with ⟨rfl, _⟩ | ⟨g, cap, cur, rfl, _, hg, _⟩
 ·simp [Value.ownBlock] at hk
 ·simp [Value.ownBlock] at hk
  subst hk
  rw [hg] at hA
  simp at hA
  exact ne hA.2.1
theorem KF.again {w w5 : World} {B H z A n : Nat} {F : List (List Px)} {a : Option Addr} {fc : Nat} {fs : List (Nat × Nat)} {g cap : Nat} {cs : Array Value} {q : Nat × Nat} (h : KF w B H z F (.slice a F.length fc) fs) (hA : w.heap[A]? = some (.cells cs 36 q)) (hn : F.length = n + 1)
  (hown : w5.ownsRow B 38 1 (.slice (some ⟨g, 0, none⟩) (F.length + 1) cap) (F.length + 1) ((fs.map fun q => Value.slice (some ⟨q.1, 0, none⟩) (z * z) q.2) ++ [.slice (some ⟨(fs.getD n (0, 0)).1, 0, none⟩) (z * z) (fs.getD n (0, 0)).2]))
  (fr : Frm (fun k => (Value.slice a F.length fc).ownBlock = some k \/ k = A) w (w5.setCell ⟨A, 1, none⟩ (.slice (some ⟨g, 0, none⟩) (F.length + 1) cap))) (hgA : g ≠ A) :
  FrsIn (w5.setCell ⟨A, 1, none⟩ (.slice (some ⟨g, 0, none⟩) (F.length + 1) cap)) (some ⟨g, 0, none⟩) (F.length + 1) z (F ++ [F.getD n []]) (fun i => if i = F.length then (fs.getD n (0, 0)).1 else (fs.getD i (0, 0)).1) (fun i => if i = F.length then (fs.getD n (0, 0)).2 else (fs.getD i (0, 0)).2) := by
 have hne : (40 : TypeId) ≠ 38 := by decide
 have hnf : (40 : TypeId) ≠ 36 := by decide
 have key : ∀ i, i < F.length -> PixIn (w5.setCell ⟨A, 1, none⟩ (.slice (some ⟨g, 0, none⟩) (F.length + 1) cap)) (fs.getD i (0, 0)).1 (z * z) (F.getD i []) := fun i hi => by
  have ho := fr.owns (h.fr i hi) (fun k hk e => by
   rcases e with e | e
   ·exact owns_apart (h.fr i hi) h.row hne k hk e
   ·subst e; exact owns_box (h.fr i hi) hA hnf hk)
  have hl := ho.1
  rw [pxCells_len] at hl
  refine ⟨(World.ownsRow.lt ho _ rfl).2, fun k hk => ?_⟩
  obtain ⟨q0, q1, q2⟩ := pxCells_get (F.getD i []) k (by omega)
  exact ⟨(World.ownsRow.cellAt ho _ (by omega)).trans q0, (World.ownsRow.cellAt ho _ (by omega)).trans q1, (World.ownsRow.cellAt ho _ (by omega)).trans q2⟩
 have ho : (w5.setCell ⟨A, 1, none⟩ (.slice (some ⟨g, 0, none⟩) (F.length + 1) cap)).ownsRow B 38 1 (.slice (some ⟨g, 0, none⟩) (F.length + 1) cap) (F.length + 1) ((fs.map fun q => Value.slice (some ⟨q.1, 0, none⟩) (z * z) q.2) ++ [.slice (some ⟨(fs.getD n (0, 0)).1, 0, none⟩) (z * z) (fs.getD n (0, 0)).2]) :=
  hown.kept (grown_setCell w5 A 1 _) (.inr (fun e => hgA (by simpa [Value.ownBlock] using e)))
 have hln := h.ln
 refine .inr ⟨g, 0, rfl, fun j hj => ?_⟩
 rw [Nat.zero_add, World.ownsRow.cellAt ho j (by omega), getD_snoc]
 by_cases e : j = F.length
 ·dsimp only
  rw [if_pos e, if_pos e, if_pos e]
  refine ⟨?_, key n (by omega)⟩
  rw [List.getElem?_append_right (by simp; omega)]
  simp [e, hln]
 ·dsimp only
  rw [if_neg e, if_neg e, if_neg e]
  refine ⟨?_, key j (by omega)⟩
  rw [List.getElem?_append_left (by simp; omega), List.getElem?_map, List.getElem?_eq_getElem (by omega)]
  simp [List.getD_eq_getElem?_getD, show j < fs.length by omega]
theorem again_film {z n : Nat} {F : List (List Px)} (h : Pk.FilmOk z F) (hn : F.length = n + 1) (h8 : F.length <= 7) : Pk.FilmOk z (F ++ [F.getD n []]) := by
 refine ⟨h.iz, by simp; omega, fun f hf => ?_, fun f p hp => ?_⟩
 ·rw [getD_snoc]
  split
  ·exact h.len n (by omega)
  ·simp at hf; exact h.len f (by omega)
 ·rw [getD_snoc] at hp
  split at hp
  ·exact h.ok n p hp
  ·exact h.ok f p hp
theorem KF.at {w1 : World} {B H z n : Nat} {F : List (List Px)} {a : Option Addr} {fc : Nat} {fs : List (Nat × Nat)} (h : KF w1 B H z F (.slice a n fc) fs) (hF : Pk.FilmOk z F) (hn : n = F.length) {i : Nat} (hi : i < n) :
  ∃ (g nb cc : Nat) (p0 p1 p2 : Int), a = some ⟨g, 0, none⟩ /\ okPx (p0, p1, p2) /\ ∀ wx, Below w1.heap.size w1 wx -> wx.cell? ⟨g, i, none⟩ = some (.slice (some ⟨nb, 0, none⟩) (z * z) cc) /\ wx.cell? ⟨nb, 0, none⟩ = some (.int .u8 p0) /\ wx.cell? ⟨nb, 1, none⟩ = some (.int .u8 p1) /\ wx.cell? ⟨nb, 2, none⟩ = some (.int .u8 p2) := by
 subst hn
 have hln := h.ln
 obtain ⟨g, cap, hform, _, _⟩ := World.ownsRow.form h.row (by omega)
 have ha : a = some ⟨g, 0, none⟩ := by simp only [Value.slice.injEq] at hform; exact hform.1
 subst ha
 have z0 : 0 < z * z := by rcases hF.iz with rfl | rfl | rfl <;> decide
 have ho := h.fr i hi
 have hl := hF.len i hi
 obtain ⟨q0, q1, q2⟩ := pxCells_get (F.getD i []) 0 (by omega)
 have c1 := World.ownsRow.cellAt h.row i (by omega)
 rw [List.getElem?_map, List.getElem?_eq_getElem (by omega)] at c1
 have e0 := (World.ownsRow.cellAt ho 0 (by omega)).trans q0
 have e1 := (World.ownsRow.cellAt ho 1 (by omega)).trans q1
 have e2 := (World.ownsRow.cellAt ho 2 (by omega)).trans q2
 refine ⟨g, (fs.getD i (0, 0)).1, (fs.getD i (0, 0)).2, _, _, _, rfl, h.ok i ((F.getD i []).getD 0 (0, 0, 0)) ?_, fun wx bx => ⟨?_, (bx.cell (World.block_lt_of_cell? w1 _ e0)).trans e0, (bx.cell (World.block_lt_of_cell? w1 _ e1)).trans e1, (bx.cell (World.block_lt_of_cell? w1 _ e2)).trans e2⟩⟩
 ·rw [List.getD_eq_getElem?_getD (l := F.getD i []), List.getElem?_eq_getElem (by omega)]
  exact List.getElem_mem _
 ·rw [bx.cell (World.block_lt_of_cell? w1 _ c1), c1]
  simp [List.getD_eq_getElem?_getD, show i < fs.length by omega]
theorem SoftG.st {w wx : World} (h : SoftG w w.heap.size) (b : Below w.heap.size w wx) : SoftG wx wx.heap.size := h.of (b.block _ h.lt) (Nat.lt_of_lt_of_le h.lt b.size)
def Told (W : World) (z : Nat) (a : Option Addr) (n fc : Nat) (S : ByteArray) : Prop := ∀ wx, Below W.heap.size W wx -> Calls Tryd.prog 10 #[.agg #[.int .i64 z, .slice a n fc]] wx fun x w' => x = .returned (.tuple #[.string S, .int .i64 0]) /\ Below wx.heap.size wx w'
theorem told_of {W : World} {z : Nat} {F : List (List Px)} {a : Option Addr} {fc : Nat} {nbs cs : Nat -> Nat} (SG : SoftG W W.heap.size) (hF : Pk.FilmOk z F) (hfr : FrsIn W a F.length z F nbs cs) : Told W z a F.length fc (encS z F.length F) := fun wx bx =>
 pEncode wx a F.length fc z F nbs cs (hfr.below bx) hF.ok hF.iz hF.le8 (by have := Pk.film_m hF; omega) (SG.st bx)
theorem Told.mono {W W' : World} {z : Nat} {a : Option Addr} {n fc : Nat} {S : ByteArray} (h : Told W z a n fc S) (b : Below W.heap.size W W') : Told W' z a n fc S := fun wx bx => h wx (b.trans (bx.mono b.size))
theorem KF.last {w : World} {B H z n m : Nat} {F : List (List Px)} {a : Option Addr} {fc : Nat} {fs : List (Nat × Nat)} (h : KF w B H z F (.slice a n fc) fs) (hn : n = F.length) (hm : m < n) :
  ∃ g, a = some ⟨g, 0, none⟩ /\ B <= g /\ g < w.heap.size /\ w.cell? ⟨g, m, none⟩ = some (.slice (some ⟨(fs.getD m (0, 0)).1, 0, none⟩) (z * z) (fs.getD m (0, 0)).2) := by
 subst hn
 have hln := h.ln
 obtain ⟨g, cap, hform, h1, h2⟩ := World.ownsRow.form h.row (by omega)
 have ha : a = some ⟨g, 0, none⟩ := by simp only [Value.slice.injEq] at hform; exact hform.1
 subst ha
 have c1 := World.ownsRow.cellAt h.row m (by omega)
 rw [List.getElem?_map, List.getElem?_eq_getElem (by omega)] at c1
 refine ⟨g, rfl, h1, h2, ?_⟩
 rw [c1]
 simp [List.getD_eq_getElem?_getD, show m < fs.length by omega]
theorem KF.told {w w5 : World} {B H z A m n : Nat} {F : List (List Px)} {a : Option Addr} {fc : Nat} {fs : List (Nat × Nat)} {g cap : Nat} {cs : Array Value} {q : Nat × Nat} (h : KF w B H z F (.slice a n fc) fs) (hF : Pk.FilmOk z F) (hnF : n = F.length) (hA : w.heap[A]? = some (.cells cs 36 q)) (hn : n = m + 1) (h7 : n <= 7)
  (hown : w5.ownsRow B 38 1 (.slice (some ⟨g, 0, none⟩) (n + 1) cap) (n + 1) ((fs.map fun q => Value.slice (some ⟨q.1, 0, none⟩) (z * z) q.2) ++ [.slice (some ⟨(fs.getD m (0, 0)).1, 0, none⟩) (z * z) (fs.getD m (0, 0)).2]))
  (fr : Frm (fun k => (Value.slice a n fc).ownBlock = some k \/ k = A) w (w5.setCell ⟨A, 1, none⟩ (.slice (some ⟨g, 0, none⟩) (n + 1) cap))) (hgA : g ≠ A) (SG : SoftG (w5.setCell ⟨A, 1, none⟩ (.slice (some ⟨g, 0, none⟩) (n + 1) cap)) (w5.setCell ⟨A, 1, none⟩ (.slice (some ⟨g, 0, none⟩) (n + 1) cap)).heap.size) :
  Told (w5.setCell ⟨A, 1, none⟩ (.slice (some ⟨g, 0, none⟩) (n + 1) cap)) z (some ⟨g, 0, none⟩) (n + 1) cap (encS z (n + 1) (F ++ [F.getD m []])) := by
 subst hnF
 have hf := h.again hA hn hown fr hgA
 have e : (F ++ [F.getD m []]).length = F.length + 1 := by simp
 have := told_of (fc := cap) SG (again_film hF hn h7) (by rw [e]; exact hf)
 rw [e] at this
 exact this
theorem again_len {z m n : Nat} {F : List (List Px)} (hn : n = m + 1) (hF : n = F.length) : (encS z (n + 1) (F ++ [F.getD m []])).size <= (encS z n F).size + 8 := by
 rw [enc_len, enc_len]
 have := Sc.again_m (z := z) (F := F) (G := F ++ [F.getD m []]) (n := n) (by omega) (fun i hi => by rw [getD_snoc, if_neg (by omega)]) (by rw [getD_snoc, if_pos hF, hn]; rfl)
 omega
end Go.Proofs.YtekfbphnoibnjaaDoor
