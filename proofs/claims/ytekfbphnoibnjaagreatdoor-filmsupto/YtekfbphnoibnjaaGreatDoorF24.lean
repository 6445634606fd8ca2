/-
  The program's reader of films between two frames. The program's reader of films: a frame.
-/
import Derived.Test.YtekfbphnoibnjaaGreatDoorF23
import Derived.Test.YtekfbphnoibnjaaGreatDoorF02
namespace Go.Proofs.YtekfbphnoibnjaaGreatDoor
open Go.RowKit
open Flm (Px FS)
set_option maxHeartbeats 1000000 in
set_option maxRecDepth 20000 in
theorem pNewPicture (w : World) (L z Z : Nat) (hL : L <= w.heap.size) (hz : z <= 16) (hZ : Z = z * z) :
  Calls Tryz.prog 86 #[.int .i64 z] w fun e w' => e = .returned (.agg #[.int .i64 z, .slice (some ⟨w.heap.size + 1, 0, none⟩) Z Z]) /\ Pixs w' L (w.heap.size + 1) Z (List.replicate Z (0, 0, 0)) /\ Below w.heap.size w w' := by
 have hZ16 : Z <= 256 := by rw [hZ]; exact Nat.mul_le_mul hz hz
 have hmk := makePx Z (by omega)
 have hw0 : (z : Int) * (z : Int) = (Z : Int) := by rw [hZ, Int.natCast_mul]
 have hw1 : IntKind.i64.wrap ((z : Int) * (z : Int)) = (Z : Int) := by rw [IntKind.wrap_i64]; omega
 clear hZ
 go_enter Tryz.func86, Tryz.ntmps86
 go_wp2
 refine bodyPost_ret (v := .agg #[.int .i64 z, .slice (some ⟨w.heap.size + 1, 0, none⟩) Z Z]) (by simp [results, Tryz.results86, go_sem]) rfl ?_
 refine ⟨rfl, ?_, ((Below.refl _ _).alloc (Nat.le_refl _) _).alloc (by simp) _⟩
 have := made_pixs (w.alloc (.cells #[.int .i64 z, .slice (some ⟨w.heap.size + 1, 0, none⟩) Z Z] 89)) L Z (by simp; omega) (by omega)
 rw [World.size_alloc] at this
 exact this
structure PL (w : World) (L p b : Nat) (Dv : Value) (dbs : List Nat) (s : ByteArray) (z : Nat) (q : FS) : Prop where
 pr : PR w b s q.r
 ok : Rdr.Ok s q.r
 err : q.r.err = 0
 c0 : w.cell? ⟨p, 0, none⟩ = some (.pointer (some ⟨b, 0, none⟩))
 c1 : w.cell? ⟨p, 1, none⟩ = some (.int .i64 z)
 c2 : w.cell? ⟨p, 2, none⟩ = some Dv
 k3 : ∃ v, w.cell? ⟨p, 3, none⟩ = some v
 k4 : ∃ v, w.cell? ⟨p, 4, none⟩ = some v
 k5 : ∃ v, w.cell? ⟨p, 5, none⟩ = some v
 fz : ∀ o, w.frozen? ⟨p, o, none⟩ = false
 rows : w.ownsRow L 58 1 Dv q.frs.length (rowVals (z * z) dbs)
 dn : ∀ i, i < q.frs.length -> Pixs w L (dbs.getD i 0) (z * z) (q.frs.getD i [])
 n1 : dbs.length = q.frs.length
 zz : z = 4 \/ z = 8 \/ z = 16
 ne : (p :: b :: dbs).Nodup
 nd : ∀ k, Dv.ownBlock = some k -> k ≠ p /\ k ≠ b /\ k ∉ dbs
 px : ∀ i k, Flm.okPx (Flm.px q i k)
 lo : L <= p /\ L <= b
 up : p < w.heap.size /\ b < w.heap.size
theorem PL.z16 {w : World} {L p b : Nat} {Dv : Value} {dbs : List Nat} {s : ByteArray} {z : Nat} {q : FS} (h : PL w L p b Dv dbs s z q) : z <= 16 := by rcases h.zz with e | e | e <;> omega
theorem PL.nes {w : World} {L p b : Nat} {Dv : Value} {dbs : List Nat} {s : ByteArray} {z : Nat} {q : FS} (h : PL w L p b Dv dbs s z q) : (p ≠ b /\ p ∉ dbs) /\ b ∉ dbs /\ dbs.Nodup := by
 have := h.ne
 simp only [List.nodup_cons, List.mem_cons, not_or] at this
 exact this
theorem PL.db_mem {w : World} {L p b : Nat} {Dv : Value} {dbs : List Nat} {s : ByteArray} {z : Nat} {q : FS} (h : PL w L p b Dv dbs s z q) {i : Nat} (hi : i < q.frs.length) : dbs.getD i 0 ∈ dbs := by
 have := h.n1
 rw [List.getD_eq_getElem?_getD, List.getElem?_eq_getElem (by omega)]
 exact List.getElem_mem _
theorem PL.db_lt {w : World} {L p b : Nat} {Dv : Value} {dbs : List Nat} {s : ByteArray} {z : Nat} {q : FS} (h : PL w L p b Dv dbs s z q) : ∀ k, k ∈ dbs -> k < w.heap.size := fun k hk => by
 obtain ⟨i, hi, rfl⟩ := List.getElem_of_mem hk
 have := (h.dn i (by rw [<- h.n1]; exact hi)).lt.2
 rw [List.getD_eq_getElem?_getD, List.getElem?_eq_getElem hi] at this
 exact this
def Flm.begin (z : Nat) (q : FS) : FS := { Flm.more z q with rd := List.replicate (z * z) false }
theorem PL.toAt {w w5 : World} {L p b nb rg : Nat} {Dv : Value} {dbs : List Nat} {s : ByteArray} {z : Nat} {q : FS} (h : PL w L p b Dv dbs s z q) (h8 : q.frs.length < 8) (f : Frm (fun k => k = p) w w5)
  (d0 : w5.cell? ⟨p, 0, none⟩ = some (.pointer (some ⟨b, 0, none⟩))) (d1 : w5.cell? ⟨p, 1, none⟩ = some (.int .i64 z)) (d2 : w5.cell? ⟨p, 2, none⟩ = some Dv) (d3 : w5.cell? ⟨p, 3, none⟩ = some (.int .i64 z)) (d4 : w5.cell? ⟨p, 4, none⟩ = some (.slice (some ⟨nb, 0, none⟩) (z * z) (z * z))) (d5 : w5.cell? ⟨p, 5, none⟩ = some (.slice (some ⟨rg, 0, none⟩) (z * z) (z * z)))
  (fz5 : ∀ o, w5.frozen? ⟨p, o, none⟩ = false) (hnb : Pixs w5 L nb (z * z) (List.replicate (z * z) (0, 0, 0))) (hrg : Bools w5 L rg (z * z) (List.replicate (z * z) false)) (hn1 : w.heap.size <= nb) (hr1 : w.heap.size <= rg) (hne : rg ≠ nb) : PAt w5 L p b nb rg Dv dbs s z (Flm.begin z q) := by
 obtain ⟨⟨n1, n2⟩, n3, n4⟩ := h.nes
 have hl : (Flm.begin z q).frs.length = q.frs.length + 1 := by unfold Flm.begin Flm.more; simp
 have hnow : Flm.now (Flm.begin z q) = q.frs.length := by unfold Flm.now; rw [hl]; rfl
 have hup := h.up
 have hdl := h.db_lt
 refine ⟨h.pr.on (f.block b h.up.2 (fun e => n1 e.symm)), h.ok, h.err, d0, d1, d2, d3, d4, d5, fz5, ?_, ?_, ?_, hrg, h.n1.trans hnow.symm, ⟨by omega, by omega⟩, h.zz, ?_, ?_, ?_, h.lo, ⟨Nat.lt_of_lt_of_le h.up.1 f.size, Nat.lt_of_lt_of_le h.up.2 f.size⟩⟩
 ·rw [hnow]; exact f.owns h.rows (fun k e => (h.nd k e).1)
 ·intro i hi
  rw [hnow] at hi
  rw [show (Flm.begin z q).frs.getD i [] = q.frs.getD i [] by unfold Flm.begin Flm.more; exact getD_snoc_lt _ _ _ i hi]
  exact f.pixs (h.dn i hi) (fun e => n2 (e ▸ h.db_mem hi))
 ·rw [hnow, show (Flm.begin z q).frs.getD q.frs.length [] = List.replicate (z * z) (0, 0, 0) by unfold Flm.begin Flm.more; exact getD_snoc_eq _ _ _]
  exact hnb
 ·simp only [List.nodup_cons, List.mem_cons, not_or]
  exact ⟨⟨n1, by omega, by omega, n2⟩, ⟨by omega, by omega, n3⟩, ⟨hne, fun hm => by have := hdl rg hm; omega⟩, fun hm => by have := hdl nb hm; omega, n4⟩
 ·intro k hk
  obtain ⟨a1, a2, a3⟩ := h.nd k hk
  have := (World.ownsRow.lt h.rows k hk).2
  exact ⟨a1, a2, by omega, by omega, a3⟩
 ·intro i k
  show Flm.okPx (Flm.px (Flm.more z q) i k)
  unfold Flm.px Flm.more
  by_cases hi : i < q.frs.length
  ·rw [getD_snoc_lt _ _ _ i hi]; exact h.px i k
  ·by_cases he : i = q.frs.length
   ·subst he
    rw [getD_snoc_eq]
    rw [List.getD_eq_getElem?_getD, List.getElem?_replicate]
    split <;> simp [Flm.okPx]
   ·rw [List.getD_eq_getElem?_getD (l := q.frs ++ _), List.getElem?_eq_none (by simp; omega)]
    simp [Flm.okPx]
theorem PAt.toL {w w5 : World} {L p b nb rg : Nat} {Dv : Value} {dbs : List Nat} {s : ByteArray} {z : Nat} {fs : FS} (h : PAt w L p b nb rg Dv dbs s z fs) {gg cap : Nat}
  (ho : w5.ownsRow L 58 1 (.slice (some ⟨gg, 0, none⟩) (Flm.now fs + 1) cap) (Flm.now fs + 1) (rowVals (z * z) dbs ++ [.slice (some ⟨nb, 0, none⟩) (z * z) (z * z)]))
  (f : Frm (fun k => Dv.ownBlock = some k) w w5) (hat : Dv.ownBlock = some gg \/ w.heap.size <= gg) :
  PL (w5.setCell ⟨p, 2, none⟩ (.slice (some ⟨gg, 0, none⟩) (Flm.now fs + 1) cap)) L p b (.slice (some ⟨gg, 0, none⟩) (Flm.now fs + 1) cap) (dbs ++ [nb]) s z fs := by
 obtain ⟨⟨n1, n2, n3, n4⟩, ⟨n5, n6, n7⟩, ⟨n8, n9⟩, n10, n11⟩ := h.nes
 have hup := h.up
 have hdl : ∀ k, k ∈ dbs -> k < w.heap.size := fun k hk => h.lt k (.inr (.inr (.inr (.inr (.inl hk)))))
 have hl : fs.frs.length = Flm.now fs + 1 := by have := h.n2; unfold Flm.now; omega
 have hp5 : w5.heap[p]? = w.heap[p]? := f.block p hup.1 (fun e => (h.nd p e).1 rfl)
 have fp : Frm (fun k => k = p) w5 (w5.setCell ⟨p, 2, none⟩ (.slice (some ⟨gg, 0, none⟩) (Flm.now fs + 1) cap)) := Frm.setCell (p := ⟨p, 2, none⟩) (Frm.refl (fun k => k = p) w5) (.inl rfl) _
 have f6 : Frm (fun k => k = p \/ Dv.ownBlock = some k) w (w5.setCell ⟨p, 2, none⟩ (.slice (some ⟨gg, 0, none⟩) (Flm.now fs + 1) cap)) := (f.mono (fun k _ e => .inr e)).trans (fp.mono (fun k _ e => .inl e))
 have C : ∀ o, o ≠ 2 -> (w5.setCell ⟨p, 2, none⟩ (.slice (some ⟨gg, 0, none⟩) (Flm.now fs + 1) cap)).cell? ⟨p, o, none⟩ = w.cell? ⟨p, o, none⟩ := fun o ho => by
  rw [World.cell?_setCell_other]
  ·exact World.cell?_of_block (a := ⟨p, o, none⟩) hp5
  ·intro e; simp only [Addr.mk.injEq, and_true, true_and] at e; exact ho e.symm
 have hgg : gg ≠ p := by
  rcases hat with e | e
  ·exact (h.nd gg e).1
  ·omega
 refine ⟨h.pr.on (f6.block b hup.2 ?_), h.ok, h.err, (C 0 (by decide)).trans h.c0, (C 1 (by decide)).trans h.c1, ?_, ⟨_, (C 3 (by decide)).trans h.c3⟩, ⟨_, (C 4 (by decide)).trans h.c4⟩, ⟨_, (C 5 (by decide)).trans h.c5⟩, ?_, ?_, ?_, ?_, h.zz, ?_, ?_, h.px, h.lo, ⟨Nat.lt_of_lt_of_le hup.1 f6.size, Nat.lt_of_lt_of_le hup.2 f6.size⟩⟩
 ·rintro (e | e)
  ·exact n1 e.symm
  ·exact (h.nd b e).2.1 rfl
 ·exact World.cell?_setCell_same' _ _ _ (by rw [World.cell?_of_block (a := ⟨p, 2, none⟩) hp5, h.c2]; rfl)
 ·intro o
  rw [World.frozen?_setCell]
  exact (World.frozen?_of_block (a := ⟨p, o, none⟩) hp5).trans (h.fz o)
 ·rw [hl, show rowVals (z * z) (dbs ++ [nb]) = rowVals (z * z) dbs ++ [.slice (some ⟨nb, 0, none⟩) (z * z) (z * z)] by unfold rowVals; simp]
  exact ho.kept (grown_setCell w5 p 2 _) (.inr (by simp [Value.ownBlock]; exact hgg))
 ·intro i hi
  rw [hl] at hi
  by_cases he : i = Flm.now fs
  ·subst he
   rw [show (dbs ++ [nb]).getD (Flm.now fs) 0 = nb by rw [<- h.n1]; exact getD_snoc_eq _ _ _]
   refine f6.pixs h.nw ?_
   rintro (e | e)
   ·exact n3 e.symm
   ·exact (h.nd _ e).2.2.2.1 rfl
  ·rw [getD_snoc_lt dbs _ _ i (by rw [h.n1]; omega)]
   refine f6.pixs (h.dn i (by omega)) ?_
   rintro (e | e)
   ·exact n4 (e ▸ h.db_mem (by omega))
   ·exact (h.nd _ e).2.2.2.2 (h.db_mem (by omega))
 ·rw [List.length_append, h.n1, hl]; rfl
 ·simp only [List.nodup_cons, List.mem_cons, not_or, List.mem_append, List.not_mem_nil, or_false]
  refine ⟨⟨n1, n4, n3⟩, ⟨n7, n6⟩, ?_⟩
  rw [List.nodup_append]
  refine ⟨n11, by simp, fun a ha c hc => ?_⟩
  simp only [List.mem_cons, List.not_mem_nil, or_false] at hc
  rintro rfl
  exact n10 (hc ▸ ha)
 ·intro k hk
  obtain rfl : gg = k := by simpa [Value.ownBlock] using hk
  simp only [List.mem_append, List.mem_cons, List.not_mem_nil, or_false, not_or]
  rcases hat with e | e
  ·obtain ⟨a1, a2, a3, a4, a5⟩ := h.nd gg e
   exact ⟨a1, a2, a5, a4⟩
  ·have := h.nw.lt.2
   exact ⟨by omega, by omega, fun hm => by have := hdl gg hm; omega, by omega⟩
section
variable {P : Program} {ops : Array Oper} {Q : Exit -> Act -> World -> Prop} {md : Region.Mode}
theorem val_at {S : World -> Prop} {i d : Nat} {o : Oper} {v : Value} {fuel : Nat} {listed : Array Bool} (L : Array Bool) {a : Act} {w w' : World} (hr : Region.ready md ops listed = [i]) (ho : ops[i]? = some o) (hd : o.dst = some d) (hL : listed.setIfInBounds i true = L)
  (hw : Region.wanted o (yielded ops a.tmps) = true) (hrun : (execOp a.eval o).run P w = .ok (.value v) w') (hS : S w')
  (h : wpAnyH P md ops Q S fuel L { tmps := a.tmps.setIfInBounds d v, defers := a.defers } w') : wpAnyH P md ops Q S (fuel + 1) listed a w := by
 refine wpAnyH_all hr (by simp) ?_
 intro j hj
 obtain rfl : j = i := by simpa using hj
 refine wpOp_value ho hw hrun ⟨hS, ?_⟩
 rw [hL, put_at hd]
 exact h
end
end Go.Proofs.YtekfbphnoibnjaaGreatDoor
namespace Go.Proofs.YtekfbphnoibnjaaGreatDoor
open Go.RowKit
open Flm (Px FS)
theorem made_bools (n : Nat) : (madeCells #[Value.bool false] n).toList = (List.replicate n false).map .bool := by
 apply List.ext_getElem?
 intro i
 by_cases h : i < n
 ·simp only [madeCells, Array.toList_map, List.getElem?_map, Array.toList_range, List.getElem?_range h, Option.map_some, List.getElem?_replicate]
  simp [h, Nat.mod_one]
 ·rw [List.getElem?_eq_none (by simp [size_madeCells]; omega), List.getElem?_eq_none (by simp; omega)]
section
variable {P : Program} {ops : Array Oper} {Q : Exit -> Act -> World -> Prop} {md : Region.Mode}
theorem pair_at {S : World -> Prop} {i j di dj : Nat} {oi oj : Oper} {vi vj : Value} {fuel : Nat} {listed : Array Bool} (Li Lj Lf : Array Bool) {T Ti Tj Tf : Array Value} {ds : List Deferred} {w w' : World}
  (hTi : T.setIfInBounds di vi = Ti) (hTj : T.setIfInBounds dj vj = Tj) (hTf : Ti.setIfInBounds dj vj = Tf) (hTf' : Tj.setIfInBounds di vi = Tf)
  (hr : Region.ready md ops listed = [i, j]) (hri : Region.ready md ops Li = [j]) (hrj : Region.ready md ops Lj = [i]) (hoi : ops[i]? = some oi) (hoj : ops[j]? = some oj) (hdi : oi.dst = some di) (hdj : oj.dst = some dj)
  (hLi : listed.setIfInBounds i true = Li) (hLj : listed.setIfInBounds j true = Lj) (hLf : Li.setIfInBounds j true = Lf) (hLf' : Lj.setIfInBounds i true = Lf)
  (hwi : Region.wanted oi (yielded ops T) = true) (hwj : Region.wanted oj (yielded ops Ti) = true) (hwj' : Region.wanted oj (yielded ops T) = true) (hwi' : Region.wanted oi (yielded ops Tj) = true)
  (g1 : (execOp (Act.eval { tmps := T, defers := ds }) oi).run P w = .ok (.value vi) w) (g2 : (execOp (Act.eval { tmps := Ti, defers := ds }) oj).run P w = .ok (.value vj) w')
  (g3 : (execOp (Act.eval { tmps := T, defers := ds }) oj).run P w = .ok (.value vj) w') (g4 : (execOp (Act.eval { tmps := Tj, defers := ds }) oi).run P w' = .ok (.value vi) w')
  (hS : S w) (hS' : S w') (h : wpAnyH P md ops Q S fuel Lf { tmps := Tf, defers := ds } w') : wpAnyH P md ops Q S (fuel + 2) listed { tmps := T, defers := ds } w := by
 refine wpAnyH_all hr (by simp) ?_
 intro k hk
 rcases (by simpa using hk : k = i \/ k = j) with rfl | rfl
 ·refine wpOp_value hoi hwi g1 ⟨hS, ?_⟩
  rw [hLi, put_at hdi]
  dsimp only
  rw [hTi]
  refine wpAnyH_all hri (by simp) ?_
  intro k hk
  obtain rfl : k = j := by simpa using hk
  refine wpOp_value hoj hwj g2 ⟨hS', ?_⟩
  rw [hLf, put_at hdj]
  dsimp only
  rw [hTf]
  exact h
 ·refine wpOp_value hoj hwj' g3 ⟨hS', ?_⟩
  rw [hLj, put_at hdj]
  dsimp only
  rw [hTj]
  refine wpAnyH_all hrj (by simp) ?_
  intro k hk
  obtain rfl : k = i := by simpa using hk
  refine wpOp_value hoi hwi' g4 ⟨hS', ?_⟩
  rw [hLf', put_at hdi]
  dsimp only
  rw [hTf']
  exact h
end
theorem append_run {P : Program} {o : Oper} {ev : Operand -> Value} {w w' : World} (s x : Operand) (t : TypeId) (ho : o.op = .call { callee := .builtin .append, args := #[s, x], argTypes := #[t, t] }) {v vx v' : Value} (hs : ev s = v) (hx : ev x = vx) (hrun : (Builtin.append_ #[t, t] o.type #[v, vx]).run P w = .ok v' w') : (execOp ev o).run P w = .ok (.value v') w' := by
 unfold execOp
 simp only [ho, resolve, invoke, builtin, Sem.run_bind, Sem.run_pure, Result.andThen_ok, List.map_toArray, List.map_cons, List.map_nil, hs, hx, hrun]
set_option maxHeartbeats 4000000 in
set_option maxRecDepth 100000 in
theorem pFrame (w : World) (L p b : Nat) (Dv : Value) (dbs : List Nat) (s : ByteArray) (z : Nat) (q : FS) (A : Nat -> Addr) (h : PL w L p b Dv dbs s z q) (h8 : q.frs.length < 8) (hs : s.size <= maxLen) (E : ErrsL w A L) (SG : SoftG w L) (hLw : L <= w.heap.size) :
  Calls Tryz.prog 46 #[.pointer (some ⟨p, 0, none⟩)] w fun e w' => e = .returned (fltV A (Flm.plc (Flm.area s z (Flm.cuts z) 0 0 z (Flm.begin z q))) (Flm.area s z (Flm.cuts z) 0 0 z (Flm.begin z q)).r.err) /\ ((Flm.area s z (Flm.cuts z) 0 0 z (Flm.begin z q)).r.err = 0 -> ∃ Dv' dbs', PL w' L p b Dv' dbs' s z (Flm.area s z (Flm.cuts z) 0 0 z (Flm.begin z q)) /\ dbs'.length = dbs.length + 1) /\ Below L w w' := by
 obtain ⟨FR, hFR⟩ : ∃ FR, FR = Flm.area s z (Flm.cuts z) 0 0 z (Flm.begin z q) := ⟨_, rfl⟩
 rw [<- hFR]
 have hmx : Tryz.prog.follows .mixedOrders = true := by kernel_rfl
 have hz16 := h.z16
 obtain ⟨Z, hZ⟩ : ∃ Z, Z = z * z := ⟨_, rfl⟩
 have hZ16 : Z <= 256 := by rw [hZ]; exact Nat.mul_le_mul hz16 hz16
 have hmb := makeBool Z (by omega)
 have hw0 : (z : Int) * (z : Int) = (Z : Int) := by rw [hZ, Int.natCast_mul]
 have hw1 : IntKind.i64.wrap ((z : Int) * (z : Int)) = (Z : Int) := by rw [IntKind.wrap_i64]; omega
 have hwZ : IntKind.i64.wrap (Z : Int) = (Z : Int) := by rw [IntKind.wrap_i64]; omega
 obtain ⟨nb, hnb⟩ : ∃ nb, nb = w.heap.size + 1 := ⟨_, rfl⟩
 have HNP : Hid (Calls Tryz.prog 86 #[.int .i64 z] w fun e w' => e = .returned (.agg #[.int .i64 z, .slice (some ⟨nb, 0, none⟩) Z Z]) /\ Pixs w' L nb Z (List.replicate Z (0, 0, 0)) /\ Below w.heap.size w w') := by rw [hnb]; exact pNewPicture w L z Z hLw hz16 hZ
 have HP : Hid (PL w L p b Dv dbs s z q) := h
 have c1 := h.c1
 have hup := h.up.1
 have HC : Hid (∀ w1, Below w.heap.size w w1 -> ∃ v3 v4, w1.cell? ⟨p, 3, none⟩ = some v3 /\ w1.cell? ⟨p, 4, none⟩ = some v4 /\ w1.frozen? ⟨p, 3, none⟩ = false /\ w1.frozen? ⟨p, 4, none⟩ = false) := fun w1 hb => by
  obtain ⟨v3, e3⟩ := h.k3
  obtain ⟨v4, e4⟩ := h.k4
  have hbl := hb.block p hup
  exact ⟨v3, v4, (World.cell?_of_block (a := ⟨p, 3, none⟩) hbl).trans e3, (World.cell?_of_block (a := ⟨p, 4, none⟩) hbl).trans e4, (World.frozen?_of_block (a := ⟨p, 3, none⟩) hbl).trans (h.fz 3), (World.frozen?_of_block (a := ⟨p, 4, none⟩) hbl).trans (h.fz 4)⟩
 have HZ : Hid (Z = z * z) := hZ
 have HNB : Hid (nb = w.heap.size + 1) := hnb
 have HFR : Hid (FR = Flm.area s z (Flm.cuts z) 0 0 z (Flm.begin z q)) := hFR
 clear h hZ hnb hFR
 go_enter Tryz.func46, Tryz.ntmps46
 go_wp2_with (go_at_call 86; refine HNP.out.mono ?_; rintro e w1 ⟨rfl, x1, b1⟩; obtain ⟨v3, v4, m3, m4, z3, z4⟩ := HC.out w1 b1)
 obtain ⟨W2, hW2⟩ : ∃ W2, W2 = (w1.setCell ⟨p, 3, none⟩ (.int .i64 z)).setCell ⟨p, 4, none⟩ (.slice (some ⟨nb, 0, none⟩) Z Z) := ⟨_, rfl⟩
 rw [<- hW2]
 have hp1 : p < w1.heap.size := Nat.lt_of_lt_of_le hup b1.size
 have hs2 : W2.heap.size = w1.heap.size := by rw [hW2, World.size_setCell, World.size_setCell]
 have C2 : Hid (∀ o, o ≠ 3 -> o ≠ 4 -> W2.cell? ⟨p, o, none⟩ = w.cell? ⟨p, o, none⟩) := fun o h3 h4 => by
  rw [hW2, World.cell?_setCell_other, World.cell?_setCell_other]
  ·exact World.cell?_of_block (a := ⟨p, o, none⟩) (b1.block p hup)
  ·intro e; simp only [Addr.mk.injEq, and_true, true_and] at e; exact h3 e.symm
  ·intro e; simp only [Addr.mk.injEq, and_true, true_and] at e; exact h4 e.symm
 have z2 : Hid (∀ o, W2.frozen? ⟨p, o, none⟩ = false) := fun o => by
  rw [hW2, World.frozen?_setCell, World.frozen?_setCell]
  exact (World.frozen?_of_block (a := ⟨p, o, none⟩) (b1.block p hup)).trans (HP.out.fz o)
 have e3 : W2.cell? ⟨p, 3, none⟩ = some (.int .i64 z) := by
  rw [hW2, World.cell?_setCell_other]
  ·exact World.cell?_setCell_same _ _ _ m3
  ·intro e; simp at e
 have e4 : W2.cell? ⟨p, 4, none⟩ = some (.slice (some ⟨nb, 0, none⟩) Z Z) := by
  have m4' : (w1.setCell ⟨p, 3, none⟩ (.int .i64 z)).cell? ⟨p, 4, none⟩ = some v4 := by
   rw [World.cell?_setCell_other]
   ·exact m4
   ·intro e; simp at e
  rw [hW2]
  exact World.cell?_setCell_same _ _ _ m4'
 have f2 : Frm (fun k => k = p) w1 W2 := by rw [hW2]; exact Frm.setCell (p := ⟨p, 4, none⟩) (Frm.setCell (p := ⟨p, 3, none⟩) (Frm.refl (fun k => k = p) w1) (.inl rfl) _) (.inl rfl) _
 have x2 : Pixs W2 L nb Z (List.replicate Z (0, 0, 0)) := f2.pixs x1 (by have := HNB.out; omega)
 have d1 : W2.cell? ⟨p, 1, none⟩ = some (.int .i64 z) := (C2.out 1 (by decide) (by decide)).trans c1
 obtain ⟨v5, hv5⟩ := HP.out.k5
 have d5 : W2.cell? ⟨p, 5, none⟩ = some v5 := (C2.out 5 (by decide) (by decide)).trans hv5
 have HF2 : Hid (Frm (fun k => k = p) w W2) := (Frm.of_below b1).trans f2
 obtain ⟨rg, hrg⟩ : ∃ rg, rg = W2.heap.size := ⟨_, rfl⟩
 obtain ⟨W3, hW3⟩ : ∃ W3, W3 = W2.drew.alloc (.cells (madeCells #[.bool false] Z) 4) := ⟨_, rfl⟩
 have hpW2 : p < W2.heap.size := by rw [hs2]; exact hp1
 have b3 : Below W2.heap.size W2 W3 := by rw [hW3]; exact (below_drewN (Below.refl _ W2) 1).alloc (Nat.le_refl _) _
 have C3 : ∀ o, W3.cell? ⟨p, o, none⟩ = W2.cell? ⟨p, o, none⟩ := fun o => World.cell?_of_block (a := ⟨p, o, none⟩) (b3.block p hpW2)
 have hrg3 : Bools W3 L rg Z (List.replicate Z false) := by
  have hLs : L <= W2.drew.heap.size := by show L <= W2.heap.size; rw [hs2]; have := b1.size; omega
  have := World.ownsRow_lit (base := L) (e := 4) (size := 1) W2.drew (madeCells #[.bool false] Z) Z hLs (by unfold maxLen; omega) (by rw [size_madeCells]; omega)
  rw [made_bools] at this
  rw [hW3, hrg]
  exact this
 obtain ⟨w5, hw5⟩ : ∃ w5, w5 = W3.setCell ⟨p, 5, none⟩ (.slice (some ⟨rg, 0, none⟩) Z Z) := ⟨_, rfl⟩
 have f5 : Frm (fun k => k = p) W3 w5 := by rw [hw5]; exact Frm.setCell (p := ⟨p, 5, none⟩) (Frm.refl (fun k => k = p) W3) (.inl rfl) _
 have C5 : ∀ o, o ≠ 5 -> w5.cell? ⟨p, o, none⟩ = W2.cell? ⟨p, o, none⟩ := fun o ho => by
  rw [hw5, World.cell?_setCell_other]
  ·exact C3 o
  ·intro e; simp only [Addr.mk.injEq, and_true, true_and] at e; exact ho e.symm
 have hwnb : w.heap.size <= nb := by have := HNB.out; omega
 have hwrg : w.heap.size <= rg := by rw [hrg, hs2]; exact b1.size
 have hnbW : nb < W2.heap.size := x2.lt.2
 have h5 : PAt w5 L p b nb rg Dv dbs s z (Flm.begin z q) := by
  have hZ := HZ.out
  refine HP.out.toAt h8 (((HF2.out).trans (Frm.of_below b3)).trans f5) ((C5 0 (by decide)).trans ((C2.out 0 (by decide) (by decide)).trans HP.out.c0)) ((C5 1 (by decide)).trans d1) ((C5 2 (by decide)).trans ((C2.out 2 (by decide) (by decide)).trans HP.out.c2)) ((C5 3 (by decide)).trans e3) ?_ ?_ ?_ ?_ ?_ hwnb hwrg (by omega)
  ·rw [<- hZ]; exact (C5 4 (by decide)).trans e4
  ·rw [<- hZ, hw5]; exact World.cell?_setCell_same _ _ _ ((C3 5).trans d5)
  ·intro o
   rw [hw5, World.frozen?_setCell]
   exact (World.frozen?_of_block (a := ⟨p, o, none⟩) (b3.block p hpW2)).trans (z2.out o)
  ·rw [<- hZ]; exact f5.pixs ((Frm.of_below (S := fun _ => False) b3).pixs x2 (fun e => e)) (by omega)
  ·rw [<- hZ]; exact f5.bools hrg3 (by omega)
 have HF5 : Hid (Frm (fun k => k = p) w w5) := ((HF2.out).trans (Frm.of_below b3)).trans f5
 have d13 := (C3 1).trans d1
 have d53 := (C3 5).trans d5
 have z53 : W3.frozen? ⟨p, 5, none⟩ = false := (World.frozen?_of_block (a := ⟨p, 5, none⟩) (b3.block p hpW2)).trans (z2.out 5)
 have d15 := (C5 1 (by decide)).trans d1
 have H5 : Hid (PAt w5 L p b nb rg Dv dbs s z (Flm.begin z q)) := h5
 have HW3 : Hid (W3 = W2.drew.alloc (.cells (madeCells #[.bool false] Z) 4)) := hW3
 have HRG : Hid (rg = W2.heap.size) := hrg
 have HW5 : Hid (w5 = W3.setCell ⟨p, 5, none⟩ (.slice (some ⟨rg, 0, none⟩) Z Z)) := hw5
 clear hW3 hrg hw5 hs2 x1 b1 m3 m4 z3 z4 f2 x2 C3 hrg3 C5 h5 f5 b3 e3 e4 hv5 C2 z2 hW2 HNP HC hwnb hwrg hnbW
 refine region_calm (S := fun w' => w'.cell? ⟨p, 1, none⟩ = some (.int .i64 z)) 14 #[false,false,false,false,false,false,false,false,false,false,false,false,false,false] rfl rfl hmx ?_
 have hS0 : (W2.drew.cell? ⟨p, 1, none⟩ = some (.int .i64 z)) := d1
 refine tk_at 0 12 (.pointer (some ⟨p, 0, none⟩)) #[true,false,false,false,false,false,false,false,false,false,false,false,false,false] rfl rfl rfl (by kernel_rfl) (by rfl) (by rintro w t0; go_simp) (by assumption) ?_
 simp only [sIb, sCs, sCz]
 refine tk_at 1 13 (.pointer (some ⟨p, 0, none⟩)) #[true,true,false,false,false,false,false,false,false,false,false,false,false,false] rfl rfl rfl (by kernel_rfl) (by rfl) (by rintro w t0; go_simp) (by assumption) ?_
 simp only [sIb, sCs, sCz]
 refine tk_at 2 14 (.pointer (some ⟨p, 0, none⟩)) #[true,true,true,false,false,false,false,false,false,false,false,false,false,false] rfl rfl rfl (by kernel_rfl) (by rfl) (by rintro w t0; go_simp) (by assumption) ?_
 simp only [sIb, sCs, sCz]
 refine tk_at 3 15 (.pointer (some ⟨p, 1, none⟩)) #[true,true,true,true,false,false,false,false,false,false,false,false,false,false] rfl rfl rfl (by kernel_rfl) (by rfl) (by rintro w t0; go_simp) (by assumption) ?_
 simp only [sIb, sCs, sCz]
 refine tk_at 4 16 (.int .i64 z) #[true,true,true,true,true,false,false,false,false,false,false,false,false,false] rfl rfl rfl (by kernel_rfl) (by rfl) (by rintro w t0; go_simp) (by assumption) ?_
 simp only [sIb, sCs, sCz]
 refine tk_at 5 17 (.pointer (some ⟨p, 0, none⟩)) #[true,true,true,true,true,true,false,false,false,false,false,false,false,false] rfl rfl rfl (by kernel_rfl) (by rfl) (by rintro w t0; go_simp) (by assumption) ?_
 simp only [sIb, sCs, sCz]
 refine tk_at 6 18 (.pointer (some ⟨p, 0, none⟩)) #[true,true,true,true,true,true,true,false,false,false,false,false,false,false] rfl rfl rfl (by kernel_rfl) (by rfl) (by rintro w t0; go_simp) (by assumption) ?_
 simp only [sIb, sCs, sCz]
 refine tk_at 7 19 (.pointer (some ⟨p, 1, none⟩)) #[true,true,true,true,true,true,true,true,false,false,false,false,false,false] rfl rfl rfl (by kernel_rfl) (by rfl) (by rintro w t0; go_simp) (by assumption) ?_
 simp only [sIb, sCs, sCz]
 refine tk_at 8 20 (.int .i64 z) #[true,true,true,true,true,true,true,true,true,false,false,false,false,false] rfl rfl rfl (by kernel_rfl) (by rfl) (by rintro w t0; go_simp) (by assumption) ?_
 simp only [sIb, sCs, sCz]
 refine tk_at 9 21 (.int .i64 Z) #[true,true,true,true,true,true,true,true,true,true,false,false,false,false] rfl rfl rfl (by kernel_rfl) (by rfl) (by rintro w t0; go_simp) (by assumption) ?_
 simp only [sIb, sCs, sCz]
 refine val_at (i := 10) (d := 22) (v := .slice (some ⟨rg, 0, none⟩) Z Z) (w' := W3) #[true,true,true,true,true,true,true,true,true,true,true,false,false,false] (by kernel_rfl) rfl rfl rfl (by rfl) ?vr d13 ?_
 case vr => rw [HW3.out, HRG.out]; go_simp
 simp only [sIb, sCs, sCz]
 refine tk_at 11 23 (.pointer (some ⟨p, 0, none⟩)) #[true,true,true,true,true,true,true,true,true,true,true,true,false,false] rfl rfl rfl (by kernel_rfl) (by rfl) (by rintro w t0; go_simp) (by assumption) ?_
 simp only [sIb, sCs, sCz]
 refine tk_at 12 24 (.pointer (some ⟨p, 5, none⟩)) #[true,true,true,true,true,true,true,true,true,true,true,true,true,false] rfl rfl rfl (by kernel_rfl) (by rfl) (by rintro w t0; go_simp) (by assumption) ?_
 simp only [sIb, sCs, sCz]
 refine store_at (i := 13) (w' := w5) #[true,true,true,true,true,true,true,true,true,true,true,true,true,true] (by kernel_rfl) rfl rfl rfl (by rfl) ?sg d15 ?_
 case sg => rw [HW5.out]; go_simp
 refine wpAnyH_done (by kernel_rfl) ?_ _
 dsimp only [calmPost]
 clear d13 d53 z53 hS0 d1 d5 hmb hw0 hw1
 have HAR : Hid (Calls Tryz.prog 87 #[.pointer (some ⟨p, 0, none⟩), .agg #[.int .i64 0, .int .i64 0, .int .i64 z]] w5 (AreaPost A w5 L p b nb rg Dv dbs s z FR)) := by
  have hb : Below L w w5 := HF5.out.below hLw (fun k e => by rw [show k = p from e]; exact HP.out.lo.1)
  have hc : Flm.cuts z <= 2 /\ z = 4 * 2 ^ Flm.cuts z := by rcases HP.out.zz with e | e | e <;> subst e <;> decide
  have := pArea A s z L p b nb rg Dv dbs hs (Flm.cuts z) hc.1 w5 (Flm.begin z q) H5.out (E.below hb) (SG.below hb) (by have := HF5.out.size; omega) 0 0 z hc.2 (by omega) (by omega)
  rw [HFR.out]
  exact this
 by_cases he : FR.r.err = 0
 ·have HAG : Hid (Calls Tryz.prog 87 #[.pointer (some ⟨p, 0, none⟩), .agg #[.int .i64 0, .int .i64 0, .int .i64 z]] w5 fun e w' => e = .returned .nilIface /\ PAt w' L p b nb rg Dv dbs s z FR /\ Frm (blkT b nb rg) w5 w') := HAR.out.mono (fun e w' hp => ⟨by rw [hp.1, fltV_zero A _ he], hp.2.1 he, hp.2.2⟩)
  have HE : Hid (FR.r.err = 0) := he
  clear HAR he
  go_wp2_with (go_at_call 87; refine HAG.out.mono ?_; rintro e w6 ⟨rfl, h6, f6⟩)
  obtain ⟨da, dc, hD⟩ := h6.row
  obtain ⟨N, hN⟩ : ∃ N, N = Flm.now FR := ⟨_, rfl⟩
  rw [<- hN] at hD
  have HN : Hid (N = Flm.now FR) := hN
  have c2 : w6.cell? ⟨p, 2, none⟩ = some (.slice da N dc) := by rw [<- hD]; exact h6.c2
  have c4 : w6.cell? ⟨p, 4, none⟩ = some (.slice (some ⟨nb, 0, none⟩) Z Z) := by rw [HZ.out]; exact h6.c4
  have hp6 : p < w6.heap.size := h6.up.1
  obtain ⟨NB, hNB⟩ : ∃ NB, NB = w6.heap.size := ⟨_, rfl⟩
  obtain ⟨w7, hw7⟩ : ∃ w7, w7 = w6.drew.alloc (.cells #[.slice (some ⟨nb, 0, none⟩) Z Z] 58) := ⟨_, rfl⟩
  have b7 : Below w6.heap.size w6 w7 := by rw [hw7]; exact (below_drewN (Below.refl _ w6) 1).alloc (Nat.le_refl _) _
  have hnw : w7.heap[NB]? = some (.cells #[.slice (some ⟨nb, 0, none⟩) Z Z] 58 (0, 0)) := by rw [hw7, hNB]; exact heap_alloc_last w6.drew _
  have hLw6 : L <= w6.heap.size := by have := HF5.out.size; have := f6.size; omega
  have hown : w7.ownsRow L 58 1 (.slice da N dc) N (rowVals Z dbs) := by
   have := h6.rows
   rw [<- hN, hD, <- HZ.out] at this
   exact (Frm.of_below (S := fun _ => False) b7).owns this (fun _ _ e => e)
  have hN8 : N <= 8 := by have := h6.n2.2; rw [hN]; unfold Flm.now; omega
  obtain ⟨i0, hi, y0, y1, y2⟩ := info_parts infoRow
  obtain ⟨gg, cap, w8, hrun, r1, _, r3, r4⟩ := run_append_keep (P := Tryz.prog) w7 L 25 25 58 i0 _ 1 24 Tryz.underlying25 hi y0 y1 y2 rfl (by omega) (.slice da N dc) N (rowVals Z dbs) hown ⟨NB, 0, none⟩ 1 1 [.slice (some ⟨nb, 0, none⟩) Z Z] rfl (World.news_of_block (cs := #[.slice (some ⟨nb, 0, none⟩) Z Z]) (t := 58) (fr := (0, 0)) hnw) (by simp [Value.oneCell']) (by unfold maxLen; omega) (by omega) (Nat.le_trans hLw6 b7.size) (by omega)
  have hpo : ¬ (Value.slice da N dc).ownBlock = some p := fun e => (h6.nd p (by rw [hD]; exact e)).1 rfl
  have f7 : Frm (fun k => (Value.slice da N dc).ownBlock = some k) w7 w8 := (Frm.refl _ w7).grown r3 (fun k e => .inl e)
  have f8 : Frm (fun k => (Value.slice da N dc).ownBlock = some k) w6 w8 := (Frm.of_below b7).trans f7
  have C7 : ∀ o v, w6.cell? ⟨p, o, none⟩ = some v -> w7.cell? ⟨p, o, none⟩ = some v := fun o v e => (World.cell?_of_block (a := ⟨p, o, none⟩) (b7.block p hp6)).trans e
  have C8 : ∀ o v, w6.cell? ⟨p, o, none⟩ = some v -> w8.cell? ⟨p, o, none⟩ = some v := fun o v e => f7.cell (C7 o v e) hpo
  have d7 := And.intro (C7 2 _ c2) (C7 4 _ c4)
  have d8 := And.intro (C8 2 _ c2) (C8 4 _ c4)
  have z8 : w8.frozen? ⟨p, 2, none⟩ = false := (World.frozen?_of_block (a := ⟨p, 2, none⟩) (f8.block p hp6 hpo)).trans (h6.fz 2)
  obtain ⟨w9, hw9⟩ : ∃ w9, w9 = w8.setCell ⟨p, 2, none⟩ (.slice (some ⟨gg, 0, none⟩) (N + 1) cap) := ⟨_, rfl⟩
  have HL9 : Hid (PL w9 L p b (.slice (some ⟨gg, 0, none⟩) (N + 1) cap) (dbs ++ [nb]) s z FR) := by
   unfold Hid
   rw [hw9, hN]
   refine h6.toL ?_ (by rw [hD]; exact f8) ?_
   ·rw [<- hN, <- HZ.out]; exact r1
   ·rw [hD]
    rcases r4 with e | e
    ·exact .inl e
    ·exact .inr (Nat.le_trans b7.size e.1)
  have f9 : Frm (fun k => (Value.slice da N dc).ownBlock = some k \/ k = p) w6 w9 := by rw [hw9]; exact (f8.mono (fun _ _ e => .inl e)).setCell (p := ⟨p, 2, none⟩) (.inl (.inr rfl)) _
  have HB9 : Hid (Below L w w9) := by
   have hb : Below L w w5 := HF5.out.below hLw (fun k e => by rw [show k = p from e]; exact HP.out.lo.1)
   refine (hb.trans (blkT_below H5.out (by have := HF5.out.size; omega) f6)).trans (f9.below hLw6 ?_)
   rintro k (e | e)
   ·exact (World.ownsRow.lt h6.rows k (by rw [hD]; exact e)).1
   ·rw [e]; exact h6.lo.1
  have HRUN : Hid ((Builtin.append_ #[25, 25] 25 #[.slice da N dc, .slice (some ⟨NB, 0, none⟩) 1 1]).run Tryz.prog w7 = .ok (.slice (some ⟨gg, 0, none⟩) (N + 1) cap) w8) := hrun
  have HW7 : Hid (w7 = w6.drew.alloc (.cells #[.slice (some ⟨nb, 0, none⟩) Z Z] 58)) := hw7
  have HNBB : Hid (NB = w6.heap.size) := hNB
  have HW9 : Hid (w9 = w8.setCell ⟨p, 2, none⟩ (.slice (some ⟨gg, 0, none⟩) (N + 1) cap)) := hw9
  have d9 : w9.cell? ⟨p, 4, none⟩ = some (.slice (some ⟨nb, 0, none⟩) Z Z) := by
   rw [hw9, World.cell?_setCell_other]
   ·exact d8.2
   ·intro e; simp at e
  clear h6 f6 hD hN hw7 hNB hw9 hrun b7 hnw hown r1 r3 r4 f7 f8 f9 C7 C8 hi y0 y1 y2 hpo HAG H5
  refine region_calm (S := fun w' => w'.cell? ⟨p, 4, none⟩ = some (.slice (some ⟨nb, 0, none⟩) Z Z)) 15 #[false,false,false,false,false,false,false,false,false,false,false,false,false,false,false] rfl rfl hmx ?_
  have hS0 : w6.drew.cell? ⟨p, 4, none⟩ = some (.slice (some ⟨nb, 0, none⟩) Z Z) := c4
  have c2d : w6.drew.cell? ⟨p, 2, none⟩ = some (.slice da N dc) := c2
  have d72 := d7.1
  refine tk_at 0 35 (.pointer (some ⟨p, 0, none⟩)) #[true,false,false,false,false,false,false,false,false,false,false,false,false,false,false] rfl rfl rfl (by kernel_rfl) (by rfl) (by rintro w t0; go_simp) (by assumption) ?_
  simp only [sIb, sCs, sCz]
  refine tk_at 1 36 (.pointer (some ⟨p, 0, none⟩)) #[true,true,false,false,false,false,false,false,false,false,false,false,false,false,false] rfl rfl rfl (by kernel_rfl) (by rfl) (by rintro w t0; go_simp) (by assumption) ?_
  simp only [sIb, sCs, sCz]
  refine tk_at 2 37 (.pointer (some ⟨p, 0, none⟩)) #[true,true,true,false,false,false,false,false,false,false,false,false,false,false,false] rfl rfl rfl (by kernel_rfl) (by rfl) (by rintro w t0; go_simp) (by assumption) ?_
  simp only [sIb, sCs, sCz]
  refine tk_at 3 38 (.pointer (some ⟨p, 2, none⟩)) #[true,true,true,true,false,false,false,false,false,false,false,false,false,false,false] rfl rfl rfl (by kernel_rfl) (by rfl) (by rintro w t0; go_simp) (by assumption) ?_
  simp only [sIb, sCs, sCz]
  refine tk_at 5 40 (.pointer (some ⟨p, 0, none⟩)) #[true,true,true,true,false,true,false,false,false,false,false,false,false,false,false] rfl rfl rfl (by kernel_rfl) (by rfl) (by rintro w t0; go_simp) (by assumption) ?_
  simp only [sIb, sCs, sCz]
  refine tk_at 6 41 (.pointer (some ⟨p, 0, none⟩)) #[true,true,true,true,false,true,true,false,false,false,false,false,false,false,false] rfl rfl rfl (by kernel_rfl) (by rfl) (by rintro w t0; go_simp) (by assumption) ?_
  simp only [sIb, sCs, sCz]
  refine tk_at 7 42 (.pointer (some ⟨p, 3, none⟩)) #[true,true,true,true,false,true,true,true,false,false,false,false,false,false,false] rfl rfl rfl (by kernel_rfl) (by rfl) (by rintro w t0; go_simp) (by assumption) ?_
  simp only [sIb, sCs, sCz]
  refine tk_at 8 43 (.pointer (some ⟨p, 4, none⟩)) #[true,true,true,true,false,true,true,true,true,false,false,false,false,false,false] rfl rfl rfl (by kernel_rfl) (by rfl) (by rintro w t0; go_simp) (by assumption) ?_
  simp only [sIb, sCs, sCz]
  refine tk_at 9 44 (.slice (some ⟨nb, 0, none⟩) Z Z) #[true,true,true,true,false,true,true,true,true,true,false,false,false,false,false] rfl rfl rfl (by kernel_rfl) (by rfl) (by rintro w t0; go_simp) (by assumption) ?_
  simp only [sIb, sCs, sCz]
  refine pair_at (i := 4) (j := 10) (di := 39) (dj := 45) (vi := .slice da N dc) (vj := .slice (some ⟨NB, 0, none⟩) 1 1) (w' := w7) #[true,true,true,true,true,true,true,true,true,true,false,false,false,false,false] #[true,true,true,true,false,true,true,true,true,true,true,false,false,false,false] #[true,true,true,true,true,true,true,true,true,true,true,false,false,false,false] rfl rfl rfl rfl (by kernel_rfl) (by kernel_rfl) (by kernel_rfl) rfl rfl rfl rfl rfl rfl rfl rfl (by rfl) (by rfl) (by rfl) (by rfl) ?g1 ?g2 ?g3 ?g4 hS0 d7.2 ?_
  case g1 => go_simp
  case g2 => rw [HW7.out, HNBB.out]; go_simp
  case g3 => rw [HW7.out, HNBB.out]; go_simp
  case g4 => go_simp
  simp only [sIb, sCs, sCz]
  refine val_at (i := 11) (d := 46) (v := .slice (some ⟨gg, 0, none⟩) (N + 1) cap) (w' := w8) #[true,true,true,true,true,true,true,true,true,true,true,true,false,false,false] (by kernel_rfl) rfl rfl rfl (by rfl) (append_run _ _ _ rfl rfl rfl HRUN.out) d8.2 ?_
  simp only [sIb, sCs, sCz]
  have d84 := d8.2
  have d82 := d8.1
  refine tk_at 12 47 (.pointer (some ⟨p, 0, none⟩)) #[true,true,true,true,true,true,true,true,true,true,true,true,true,false,false] rfl rfl rfl (by kernel_rfl) (by rfl) (by rintro w t0; go_simp) (by assumption) ?_
  simp only [sIb, sCs, sCz]
  refine tk_at 13 48 (.pointer (some ⟨p, 2, none⟩)) #[true,true,true,true,true,true,true,true,true,true,true,true,true,true,false] rfl rfl rfl (by kernel_rfl) (by rfl) (by rintro w t0; go_simp) (by assumption) ?_
  simp only [sIb, sCs, sCz]
  refine store_at (i := 14) (w' := w9) #[true,true,true,true,true,true,true,true,true,true,true,true,true,true,true] (by kernel_rfl) rfl rfl rfl (by rfl) ?sg6 d9 ?_
  case sg6 => rw [HW9.out]; go_simp
  refine wpAnyH_done (by kernel_rfl) ?_ _
  dsimp only [calmPost]
  clear c2 c4 d7 d8 d9 z8 hS0 c2d d72 d82 d84
  go_wp2_with fail
  go_ret
  exact ⟨by rw [fltV_zero A _ HE.out]; rfl, fun _ => ⟨_, _, HL9.out, by simp⟩, HB9.out⟩
 ·obtain ⟨fv, hfv⟩ : ∃ fv, fv = Value.agg #[.int .i64 (Flm.plc FR).1, .int .i64 (Flm.plc FR).2.1, .int .i64 (Flm.plc FR).2.2, .iface 278 (.pointer (some (A FR.r.err.toNat)))] := ⟨_, rfl⟩
  have HAG : Hid (Calls Tryz.prog 87 #[.pointer (some ⟨p, 0, none⟩), .agg #[.int .i64 0, .int .i64 0, .int .i64 z]] w5 fun e w' => e = .returned (.iface 113 fv) /\ Frm (blkT b nb rg) w5 w') := HAR.out.mono (fun e w' hp => ⟨by rw [hp.1, fltV_pos A _ he, hfv], hp.2.2⟩)
  have HFV : Hid (.iface 113 fv = fltV A (Flm.plc FR) FR.r.err /\ FR.r.err ≠ 0) := ⟨by rw [fltV_pos A _ he, hfv], he⟩
  clear HAR he hfv
  go_wp2_with (go_at_call 87; refine HAG.out.mono ?_; rintro e w6 ⟨rfl, f6⟩)
  go_ret
  have hb : Below L w w5 := HF5.out.below hLw (fun k e => by rw [show k = p from e]; exact HP.out.lo.1)
  exact ⟨congrArg Ending.returned HFV.out.1, fun he => absurd he HFV.out.2, hb.trans (blkT_below H5.out (by have := HF5.out.size; omega) f6)⟩
end Go.Proofs.YtekfbphnoibnjaaGreatDoor
