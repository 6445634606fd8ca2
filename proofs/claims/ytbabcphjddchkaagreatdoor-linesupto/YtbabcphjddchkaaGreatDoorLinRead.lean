/-
  A script that came in, its lists too; how long they are at the most.
-/
import Derived.Test.YtbabcphjddchkaaGreatDoorLinRun
namespace Go.Proofs.YtbabcphjddchkaaGreatDoor
open Go.ChangeShapes Go.WideShapes Go.ChangeAt Go.RowKit Go.Joins Go.Deep

theorem bulk_pos {H : Type} (d : DataW H) : 1 ≤ Rows.uptoBulk d := by
  cases d with
  | lit l => cases l <;> simp [Rows.uptoBulk]
  | nil => simp [Rows.uptoBulk]
  | ptr d => simp [Rows.uptoBulk]
  | slice elems spare => simp [Rows.uptoBulk]
  | agg parts => simp [Rows.uptoBulk]
  | iface t d => simp [Rows.uptoBulk]
  | map entries => simp [Rows.uptoBulk]
  | held h => simp [Rows.uptoBulk]
theorem bulk_mem {H : Type} {d : DataW H} : ∀ {l : List (DataW H)}, d ∈ l → Rows.uptoBulk d ≤ Rows.uptoBulkAll l
  | [], h => by cases h
  | x :: r, h => by
    rw [Rows.uptoBulkAll]
    rcases List.mem_cons.1 h with e | e
    · subst e; omega
    · have := bulk_mem e; omega
theorem bulk_len {H : Type} : ∀ (l : List (DataW H)), l.length ≤ Rows.uptoBulkAll l
  | [] => by simp
  | x :: r => by
    have := bulk_len r
    have := bulk_pos x
    rw [Rows.uptoBulkAll, List.length_cons]
    omega

theorem cellsBit : Tryz.prog.cellsOf 49 = 2 := by kernel_rfl

theorem list2 {α : Type} {l : List α} (h : l.length = 2) : ∃ a0 a1, l = [a0, a1] := by
  match l, h with
  | [a0, a1], _ => exact ⟨_, _, rfl⟩

section
variable {H : Type} {enc : TypeId × Value → H} {w : World} {base : Nat} {spare : Nat → Bool} {held : Bool}

theorem slice_bulk {P : Program} {t e : TypeId} {fuel : Nat} {a : Option Addr} {len cap : Nat} {x : DataW H × List MemPlace} (ht : P.underlying t = some (.slice e)) (h : DataW.trod enc P w base spare held fuel t [.slice a len cap] = some x) : len ≤ Rows.uptoBulk x.1 := by
  rcases open_slice ht h with ⟨h1, _⟩ | ⟨a', len', cap', m, n, D, Pl, h1, _, hl, hm, hmm, rfl, hx⟩
  · simp at h1; omega
  · simp at h1
    obtain ⟨rfl, rfl, rfl⟩ := h1
    have := bulk_len ((List.range len).map D)
    rw [List.length_map, List.length_range] at this
    show len ≤ Rows.uptoBulk (.slice _ _)
    rw [Rows.uptoBulk]
    omega

theorem open_ints2 {fuel : Nat} {a : Option Addr} {len cap : Nat} {x : DataW H × List MemPlace} (h : DataW.trod enc Tryz.prog w base spare held fuel 39 [.slice a len cap] = some x) (hk : Rows.uptoBulk x.1 ≤ 1048576) :
    (a = none ∧ len = 0) ∨ ∃ a' zs, a = some a' ∧ IntsIn w (some a') len zs ∧ len ≤ 800000000 := by
  have hlb := slice_bulk Tryz.underlying39 h
  rcases ChangeShapes.open_ints Tryz.underlying39 Tryz.underlying3 cellsI64 h with ⟨h1, _⟩ | ⟨a', len', cap', zs, h1, _, hl, hm, hz, _, hcell, hwf⟩
  · simp at h1
    exact .inl ⟨h1.1, h1.2.1⟩
  · simp at h1
    obtain ⟨rfl, rfl, rfl⟩ := h1
    refine .inr ?_
    have hlz : len ≤ zs.length := by rw [hz]; split <;> omega
    have hgt : ∀ i, i < len → (zs.take len).getD i 0 = zs.getD i 0 := fun i hi => by
      rw [List.getD_eq_getElem?_getD, List.getD_eq_getElem?_getD, List.getElem?_take, if_pos hi]
    by_cases h0 : len = 0
    · exact ⟨a', [], rfl, ⟨by simp [h0], .inl h0⟩, by omega⟩
    · obtain ⟨b, off, spot⟩ := a'
      have hc0 := hcell 0 (by omega)
      have hspot : spot = none := by
        have := World.cell?_spot hc0
        simpa [Addr.add] using this
      subst hspot
      refine ⟨_, zs.take len, rfl, ⟨by simp; omega, .inr ⟨b, off, rfl, ?_, fun i hi => ?_⟩⟩, by omega⟩
      · rw [add_plain] at hc0
        exact World.block_lt_of_cell? w _ hc0
      · rw [hgt i hi, ← add_plain]
        exact hcell i (by omega)

theorem open_bit {n : Nat} {cs : List Value} {x : DataW H × List MemPlace} (h : DataW.trod enc Tryz.prog w base spare held n 49 cs = some x) : ∃ c b : Int, cs = [.int .i64 c, .int .i64 b] := by
  obtain ⟨xs, m, _, _, hlen, hxl, hf⟩ := DataW.trod_struct Tryz.underlying49 h
  rw [cellsBit] at hlen
  have hx2 : xs.length = 2 := hxl
  obtain ⟨a0, a1, rfl⟩ := list2 hlen
  have k0 : DataW.trod enc Tryz.prog w base spare held m 3 [a0] = some (xs[0]'(by omega)) := by
    have k : DataW.trod enc Tryz.prog w base spare held m 3 (([a0, a1].drop 0).take (Tryz.prog.cellsOf 3)) = xs[0]? := hf 0 _ rfl
    rw [cellsI64, List.getElem?_eq_getElem (by omega)] at k
    exact k
  have k1 : DataW.trod enc Tryz.prog w base spare held m 3 [a1] = some (xs[1]'(by omega)) := by
    have k : DataW.trod enc Tryz.prog w base spare held m 3 (([a0, a1].drop 1).take (Tryz.prog.cellsOf 3)) = xs[1]? := hf 1 _ rfl
    rw [cellsI64, List.getElem?_eq_getElem (by omega)] at k
    exact k
  obtain ⟨c, e0, _, _⟩ := DataW.trod_int Tryz.underlying3 k0
  obtain ⟨b, e1, _, _⟩ := DataW.trod_int Tryz.underlying3 k1
  simp at e0 e1
  exact ⟨c, b, by rw [e0, e1]⟩

theorem open_bits2 {fuel : Nat} {a : Option Addr} {len cap : Nat} {x : DataW H × List MemPlace} (h : DataW.trod enc Tryz.prog w base spare held fuel 38 [.slice a len cap] = some x) (hk : Rows.uptoBulk x.1 ≤ 1048576) :
    (a = none ∧ len = 0) ∨ ∃ a' bs, a = some a' ∧ BitsIn w (some a') len bs ∧ len ≤ 800000000 := by
  have hlb := slice_bulk Tryz.underlying38 h
  rcases open_slice Tryz.underlying38 h with ⟨h1, _⟩ | ⟨a', len', cap', m, n, D, Pl, h1, _, hl, hm, hmm, _, hx⟩
  · simp at h1
    exact .inl ⟨h1.1, h1.2.1⟩
  · simp at h1
    obtain ⟨rfl, rfl, rfl⟩ := h1
    refine .inr ?_
    rw [cellsBit] at hx
    have hlm : len ≤ m := by rw [hmm]; split <;> omega
    have hop : ∀ i, i < len → ∃ cb : Int × Int, w.cells? base (a'.add (i * 2)) 2 = some [.int .i64 cb.1, .int .i64 cb.2] := fun i hi => by
      obtain ⟨cs, h1, h2⟩ := hx i (by omega)
      obtain ⟨c, b, rfl⟩ := open_bit h2
      exact ⟨(c, b), h1⟩
    by_cases h0 : len = 0
    · exact ⟨a', [], rfl, ⟨by simp [h0], .inl h0⟩, by omega⟩
    · obtain ⟨f, hf⟩ := choose_lt hop
      obtain ⟨b, off, spot⟩ := a'
      have hz := (World.cells?_some (hf 0 (by omega))).2.2 0 (by omega)
      have hc0 : w.cell? ⟨b, off, spot⟩ = some (.int .i64 (f 0).1) := by simpa [Addr.add] using hz
      have hspot : spot = none := by simpa [Addr.add] using World.cell?_spot hc0
      subst hspot
      refine ⟨_, (List.range len).map f, rfl, ⟨by simp, .inr ⟨b, off, rfl, World.block_lt_of_cell? w _ hc0, fun i hi => ?_⟩⟩, by omega⟩
      have e : ((List.range len).map f).getD i (0, 0) = f i := by
        rw [List.getD_eq_getElem?_getD, List.getElem?_map, List.getElem?_range hi]; rfl
      have k0 := (World.cells?_some (hf i hi)).2.2 0 (by omega)
      have k1 := (World.cells?_some (hf i hi)).2.2 1 (by omega)
      rw [add_plain, add_plain] at k0 k1
      rw [e]
      exact ⟨by simpa using k0, by simpa using k1⟩

theorem open_op_lists {n : Nat} {o : OpV} {x : DataW H × List MemPlace} (h : DataW.trod enc Tryz.prog w base spare held n 44 o.cells = some x) (hk : Rows.uptoBulk x.1 ≤ 1048576) : OpL w o := by
  obtain ⟨xs, m, _, hx, _, hxl, hf⟩ := DataW.trod_struct Tryz.underlying44 h
  have hx7 : xs.length = 7 := hxl
  have hb : ∀ i (hi : i < xs.length), Rows.uptoBulk (xs[i]).1 ≤ 1048576 := fun i hi => by
    have hm : (xs[i]).1 ∈ xs.map (·.1) := List.mem_map.2 ⟨_, List.getElem_mem hi, rfl⟩
    have := bulk_mem hm
    rw [hx] at hk
    have hk' : Rows.uptoBulk (.agg (xs.map (·.1))) ≤ 1048576 := hk
    rw [Rows.uptoBulk] at hk'
    omega
  have g1 : DataW.trod enc Tryz.prog w base spare held m 9 [.string o.s] = some (xs[1]'(by omega)) := by
    have k : DataW.trod enc Tryz.prog w base spare held m 9 ((o.cells.drop 1).take (Tryz.prog.cellsOf 9)) = xs[1]? := hf 1 _ rfl
    rw [cellsStr, List.getElem?_eq_getElem (by omega)] at k
    exact k
  have g4 : DataW.trod enc Tryz.prog w base spare held m 38 [.slice o.b o.bl o.bc] = some (xs[4]'(by omega)) := by
    have k : DataW.trod enc Tryz.prog w base spare held m 38 ((o.cells.drop 8).take (Tryz.prog.cellsOf 38)) = xs[4]? := hf 4 _ rfl
    rw [cellsBits, List.getElem?_eq_getElem (by omega)] at k
    exact k
  have g5 : DataW.trod enc Tryz.prog w base spare held m 39 [.slice o.l o.ll o.lc] = some (xs[5]'(by omega)) := by
    have k : DataW.trod enc Tryz.prog w base spare held m 39 ((o.cells.drop 9).take (Tryz.prog.cellsOf 39)) = xs[5]? := hf 5 _ rfl
    rw [cellsInts, List.getElem?_eq_getElem (by omega)] at k
    exact k
  obtain ⟨s, e1, _, hs⟩ := DataW.trod_string Tryz.underlying9 g1
  simp at e1
  exact ⟨open_bits2 g4 (hb 4 (by omega)), open_ints2 g5 (hb 5 (by omega)), by rw [e1]; exact hs⟩

theorem open_script2 {fuel : Nat} {a : Option Addr} {len cap : Nat} {x : DataW H × List MemPlace} (h : DataW.trod enc Tryz.prog w base spare held fuel 22 [.slice a len cap] = some x) (hk : Rows.uptoBulk x.1 ≤ 1048576) :
    ∃ ops : List OpV, Script w a len ops ∧ (∀ o ∈ ops, OpL w o) ∧ len ≤ 1048576 := by
  have hlb := slice_bulk Tryz.underlying22 h
  rcases open_slice Tryz.underlying22 h with ⟨h1, _⟩ | ⟨a', len', cap', m, n, D, Pl, h1, _, hl, hm, hmm, rfl, hx⟩
  · simp at h1
    obtain ⟨rfl, rfl, rfl⟩ := h1
    exact ⟨[], .inl ⟨rfl, rfl⟩, by simp, by omega⟩
  · simp at h1
    obtain ⟨rfl, rfl, rfl⟩ := h1
    rw [cellsOp] at hx
    have hlm : len ≤ m := by rw [hmm]; split <;> omega
    have hD : ∀ i, i < len → Rows.uptoBulk (D i) ≤ 1048576 := fun i hi => by
      have hm : D i ∈ (List.range len).map D := List.mem_map.2 ⟨i, List.mem_range.2 hi, rfl⟩
      have := bulk_mem hm
      have hk' : Rows.uptoBulk (.slice ((List.range len).map D) ((List.range (m - len)).map fun j => D (len + j))) ≤ 1048576 := hk
      rw [Rows.uptoBulk] at hk'
      omega
    have hop : ∀ i, i < len → ∃ o : OpV, OpL w o ∧ w.cells? base (a'.add (i * 12)) 12 = some o.cells := fun i hi => by
      obtain ⟨cs, h1, h2⟩ := hx i (by omega)
      obtain ⟨o, rfl, hfit⟩ := open_op h2
      exact ⟨o, open_op_lists h2 (hD i hi), h1⟩
    have inh : Inhabited OpV := ⟨opA 0⟩
    obtain ⟨f, hf⟩ := choose_lt hop
    by_cases h0 : len = 0
    · exact ⟨[], .inl ⟨h0, rfl⟩, by simp, by omega⟩
    · obtain ⟨b, off, spot⟩ := a'
      have hz := (World.cells?_some (hf 0 (by omega)).2).2.2 0 (by omega)
      have hc0 : w.cell? ⟨b, off, spot⟩ = some (.int .i64 (f 0).kind) := by simpa [Addr.add, OpV.cells] using hz
      have hspot : spot = none := by simpa [Addr.add] using World.cell?_spot hc0
      subst hspot
      refine ⟨(List.range len).map f, .inr ⟨b, off, rfl, World.block_lt_of_cell? w _ hc0, by simp, ?_⟩, ?_, by omega⟩
      · intro i hi j v hv
        have hi' : i < len := by simpa using hi
        have hj : j < 12 := by
          rcases Nat.lt_or_ge j 12 with h' | h'
          · exact h'
          · rw [List.getElem?_eq_none (by rw [cells_length]; exact h')] at hv; cases hv
        have hcell := (World.cells?_some (hf i hi').2).2.2 j hj
        rw [add_plain, add_plain] at hcell
        rw [hcell, ← hv]
        simp
      · intro o ho
        obtain ⟨i, hi, rfl⟩ := List.mem_map.1 ho
        exact (hf i (List.mem_range.1 hi)).1
end
end Go.Proofs.YtbabcphjddchkaaGreatDoor
