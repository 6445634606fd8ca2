/-
  A script that came in, as it lies in memory: a row of steps of twelve cells each.
-/
import Derived.Test.YtekfbphnoibnjaaGreatDoorF33
import Derived.Test.YtekfbphnoibnjaaGreatDoorF02
import Derived.Test.YtekfbphnoibnjaaGreatDoorF37
import Derived.ProofKit
import Derived.OpenShut
import Derived.ChangeOld
import Derived.Deep.Slices
import Derived.Lib.SmallJoins
namespace Go.Proofs.YtekfbphnoibnjaaGreatDoor
open Go.ChangeShapes Go.WideShapes Go.ChangeAt Go.RowKit Go.Joins Go.Deep
theorem cellsPix : Tryz.prog.cellsOf 50 = 3 := by kernel_rfl
theorem cellsNum : Tryz.prog.cellsOf 48 = 3 := by kernel_rfl
theorem cellsOp : Tryz.prog.cellsOf 54 = 12 := by kernel_rfl
theorem cellsStr : Tryz.prog.cellsOf 9 = 1 := by kernel_rfl
theorem cellsBits : Tryz.prog.cellsOf 51 = 1 := by kernel_rfl
theorem cellsInts : Tryz.prog.cellsOf 52 = 1 := by kernel_rfl
theorem cellsRows : Tryz.prog.cellsOf 25 = 1 := by kernel_rfl
theorem cellsFilm : Tryz.prog.cellsOf 27 = 2 := by kernel_rfl
theorem list12 {α : Type} {l : List α} (h : l.length = 12) : ∃ a0 a1 a2 a3 a4 a5 a6 a7 a8 a9 a10 a11, l = [a0, a1, a2, a3, a4, a5, a6, a7, a8, a9, a10, a11] := by
 match l, h with
 | [a0, a1, a2, a3, a4, a5, a6, a7, a8, a9, a10, a11], _ => exact ⟨_, _, _, _, _, _, _, _, _, _, _, _, rfl⟩
section
variable {H : Type} {enc : TypeId × Value -> H} {w : World} {base : Nat} {spare : Nat -> Bool} {held : Bool}
theorem trod_ints3 {P : Program} {n : Nat} {t e : TypeId} {k : IntKind} {a b c : Value} {x : DataW H × List MemPlace}
  (ht : P.underlying t = some (.array 3 e)) (he : P.underlying e = some (.int k)) (hce : P.cellsOf e = 1) (hf : DataW.trod enc P w base spare held n t [a, b, c] = some x) :
  ∃ x y z : Int, a = .int k x /\ b = .int k y /\ c = .int k z /\ (Lit.int k x).wf = true /\ (Lit.int k y).wf = true /\ (Lit.int k z).wf = true := by
 obtain ⟨xs, m, _, _, _, hl, hi⟩ := DataW.trod_array ht hf
 have g0 := hi 0 (by omega)
 have g1 := hi 1 (by omega)
 have g2 := hi 2 (by omega)
 rw [List.getElem?_eq_getElem (by omega)] at g0 g1 g2
 simp only [hce] at g0 g1 g2
 obtain ⟨x, e0, _, w0⟩ := DataW.trod_int he g0
 obtain ⟨y, e1, _, w1⟩ := DataW.trod_int he g1
 obtain ⟨z, e2, _, w2⟩ := DataW.trod_int he g2
 simp at e0 e1 e2
 exact ⟨x, y, z, e0, e1, e2, w0, w1, w2⟩
theorem trod_slice_shape {P : Program} {n : Nat} {t e : TypeId} {v : Value} {x : DataW H × List MemPlace} (ht : P.underlying t = some (.slice e)) (hf : DataW.trod enc P w base spare held n t [v] = some x) : ∃ a l c, v = .slice a l c := by
 rcases DataW.trod_slice ht hf with ⟨h, _⟩ | ⟨a, l, c, _, _, _, _, h, _⟩
 ·simp at h; exact ⟨_, _, _, h⟩
 ·simp at h; exact ⟨_, _, _, h⟩
def OpV.fits (o : OpV) : Prop := (0 <= o.p0 /\ o.p0 <= 255) /\ (0 <= o.p1 /\ o.p1 <= 255) /\ (0 <= o.p2 /\ o.p2 <= 255)
theorem open_op {n : Nat} {cs : List Value} {x : DataW H × List MemPlace} (h : DataW.trod enc Tryz.prog w base spare held n 54 cs = some x) : ∃ o : OpV, cs = o.cells /\ o.fits := by
 obtain ⟨xs, m, _, _, hlen, hxl, hf⟩ := DataW.trod_struct Tryz.underlying54 h
 rw [cellsOp] at hlen
 obtain ⟨a0, a1, a2, a3, a4, a5, a6, a7, a8, a9, a10, a11, rfl⟩ := list12 hlen
 have hx7 : xs.length = 7 := hxl
 have g0 : DataW.trod enc Tryz.prog w base spare held m 3 [a0] = some (xs[0]'(by omega)) := by
  have k : DataW.trod enc Tryz.prog w base spare held m 3 (([a0, a1, a2, a3, a4, a5, a6, a7, a8, a9, a10, a11].drop 0).take (Tryz.prog.cellsOf 3)) = xs[0]? := hf 0 _ rfl
  rw [cellsI64, List.getElem?_eq_getElem (by omega)] at k
  exact k
 have g1 : DataW.trod enc Tryz.prog w base spare held m 9 [a1] = some (xs[1]'(by omega)) := by
  have k : DataW.trod enc Tryz.prog w base spare held m 9 (([a0, a1, a2, a3, a4, a5, a6, a7, a8, a9, a10, a11].drop 1).take (Tryz.prog.cellsOf 9)) = xs[1]? := hf 1 _ rfl
  rw [cellsStr, List.getElem?_eq_getElem (by omega)] at k
  exact k
 have g2 : DataW.trod enc Tryz.prog w base spare held m 48 [a2, a3, a4] = some (xs[2]'(by omega)) := by
  have k : DataW.trod enc Tryz.prog w base spare held m 48 (([a0, a1, a2, a3, a4, a5, a6, a7, a8, a9, a10, a11].drop 2).take (Tryz.prog.cellsOf 48)) = xs[2]? := hf 2 _ rfl
  rw [cellsNum, List.getElem?_eq_getElem (by omega)] at k
  exact k
 have g3 : DataW.trod enc Tryz.prog w base spare held m 50 [a5, a6, a7] = some (xs[3]'(by omega)) := by
  have k : DataW.trod enc Tryz.prog w base spare held m 50 (([a0, a1, a2, a3, a4, a5, a6, a7, a8, a9, a10, a11].drop 5).take (Tryz.prog.cellsOf 50)) = xs[3]? := hf 3 _ rfl
  rw [cellsPix, List.getElem?_eq_getElem (by omega)] at k
  exact k
 have g4 : DataW.trod enc Tryz.prog w base spare held m 51 [a8] = some (xs[4]'(by omega)) := by
  have k : DataW.trod enc Tryz.prog w base spare held m 51 (([a0, a1, a2, a3, a4, a5, a6, a7, a8, a9, a10, a11].drop 8).take (Tryz.prog.cellsOf 51)) = xs[4]? := hf 4 _ rfl
  rw [cellsBits, List.getElem?_eq_getElem (by omega)] at k
  exact k
 have g5 : DataW.trod enc Tryz.prog w base spare held m 52 [a9] = some (xs[5]'(by omega)) := by
  have k : DataW.trod enc Tryz.prog w base spare held m 52 (([a0, a1, a2, a3, a4, a5, a6, a7, a8, a9, a10, a11].drop 9).take (Tryz.prog.cellsOf 52)) = xs[5]? := hf 5 _ rfl
  rw [cellsInts, List.getElem?_eq_getElem (by omega)] at k
  exact k
 have g6 : DataW.trod enc Tryz.prog w base spare held m 27 [a10, a11] = some (xs[6]'(by omega)) := by
  have k : DataW.trod enc Tryz.prog w base spare held m 27 (([a0, a1, a2, a3, a4, a5, a6, a7, a8, a9, a10, a11].drop 10).take (Tryz.prog.cellsOf 27)) = xs[6]? := hf 6 _ rfl
  rw [cellsFilm, List.getElem?_eq_getElem (by omega)] at k
  exact k
 obtain ⟨kd, e0, _, _⟩ := DataW.trod_int Tryz.underlying3 g0
 obtain ⟨s, e1, _, _⟩ := DataW.trod_string Tryz.underlying9 g1
 obtain ⟨c0, c1, c2, rfl, rfl, rfl, _, _, _⟩ := trod_ints3 Tryz.underlying48 Tryz.underlying3 cellsI64 g2
 obtain ⟨p0, p1, p2, rfl, rfl, rfl, w0, w1, w2⟩ := trod_ints3 Tryz.underlying50 Tryz.underlying5 cellsU8 g3
 obtain ⟨b, bl, bc, rfl⟩ := trod_slice_shape Tryz.underlying51 g4
 obtain ⟨l, ll, lc, rfl⟩ := trod_slice_shape Tryz.underlying52 g5
 obtain ⟨ys, m2, _, _, _, hyl, hg⟩ := DataW.trod_struct Tryz.underlying27 g6
 have hy2 : ys.length = 2 := hyl
 have k0 : DataW.trod enc Tryz.prog w base spare held m2 3 [a10] = some (ys[0]'(by omega)) := by
  have k : DataW.trod enc Tryz.prog w base spare held m2 3 (([a10, a11].drop 0).take (Tryz.prog.cellsOf 3)) = ys[0]? := hg 0 _ rfl
  rw [cellsI64, List.getElem?_eq_getElem (by omega)] at k
  exact k
 have k1 : DataW.trod enc Tryz.prog w base spare held m2 25 [a11] = some (ys[1]'(by omega)) := by
  have k : DataW.trod enc Tryz.prog w base spare held m2 25 (([a10, a11].drop 1).take (Tryz.prog.cellsOf 25)) = ys[1]? := hg 1 _ rfl
  rw [cellsRows, List.getElem?_eq_getElem (by omega)] at k
  exact k
 obtain ⟨sz, e2, _, _⟩ := DataW.trod_int Tryz.underlying3 k0
 obtain ⟨f, fl, fc, e3⟩ := trod_slice_shape (v := a11) Tryz.underlying25 k1
 simp at e0 e1 e2
 subst e0 e1 e2 e3
 exact ⟨⟨kd, s, c0, c1, c2, p0, p1, p2, b, bl, bc, l, ll, lc, sz, f, fl, fc⟩, rfl, bounds_u8 w0, bounds_u8 w1, bounds_u8 w2⟩
theorem add_plain (b off j : Nat) : (⟨b, off, none⟩ : Addr).add j = ⟨b, off + j, none⟩ := by
 unfold Addr.add; split <;> simp_all
theorem cells_length (o : OpV) : o.cells.length = 12 := rfl
theorem open_script {fuel : Nat} {a : Option Addr} {len cap : Nat} {x : DataW H × List MemPlace} (h : DataW.trod enc Tryz.prog w base spare held fuel 22 [.slice a len cap] = some x) :
  ∃ ops : List OpV, Script w a len ops /\ (∀ o ∈ ops, o.fits) /\ len <= maxLen := by
 rcases open_slice Tryz.underlying22 h with ⟨h1, _⟩ | ⟨a', len', cap', m, n, D, Pl, h1, _, hl, hm, hmm, _, hx⟩
 ·simp at h1
  obtain ⟨rfl, rfl, rfl⟩ := h1
  exact ⟨[], .inl ⟨rfl, rfl⟩, by simp, by unfold maxLen; omega⟩
 ·simp at h1
  obtain ⟨rfl, rfl, rfl⟩ := h1
  rw [cellsOp] at hx
  have hlm : len <= m := by rw [hmm]; split <;> omega
  have hop : ∀ i, i < len -> ∃ o : OpV, o.fits /\ w.cells? base (a'.add (i * 12)) 12 = some o.cells := fun i hi => by
   obtain ⟨cs, h1, h2⟩ := hx i (by omega)
   obtain ⟨o, rfl, hfit⟩ := open_op h2
   exact ⟨o, hfit, h1⟩
  have inh : Inhabited OpV := ⟨opA 0⟩
  obtain ⟨f, hf⟩ := choose_lt hop
  by_cases h0 : len = 0
  ·exact ⟨[], .inl ⟨h0, rfl⟩, by simp, by omega⟩
  ·obtain ⟨b, off, spot⟩ := a'
   have hz := (World.cells?_some (hf 0 (by omega)).2).2.2 0 (by omega)
   have hc0 : w.cell? ⟨b, off, spot⟩ = some (.int .i64 (f 0).kind) := by simpa [Addr.add, OpV.cells] using hz
   have hspot : spot = none := by simpa [Addr.add] using World.cell?_spot hc0
   subst hspot
   refine ⟨(List.range len).map f, .inr ⟨b, off, rfl, World.block_lt_of_cell? w _ hc0, by simp, ?_⟩, ?_, by omega⟩
   ·intro i hi j v hv
    have hi' : i < len := by simpa using hi
    have hj : j < 12 := by
     rcases Nat.lt_or_ge j 12 with h' | h'
     ·exact h'
     ·rw [List.getElem?_eq_none (by rw [cells_length]; exact h')] at hv; cases hv
    have hcell := (World.cells?_some (hf i hi').2).2.2 j hj
    rw [add_plain, add_plain] at hcell
    rw [hcell, <- hv]
    simp
   ·intro o ho
    obtain ⟨i, hi, rfl⟩ := List.mem_map.1 ho
    exact (hf i (List.mem_range.1 hi)).1
end
end Go.Proofs.YtekfbphnoibnjaaGreatDoor
