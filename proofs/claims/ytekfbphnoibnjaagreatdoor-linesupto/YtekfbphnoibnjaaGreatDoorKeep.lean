/-
  What came out waits, beside a copy of what it should be.
-/
import Derived.Test.YtekfbphnoibnjaaGreatDoorWhole
namespace Go.Proofs.YtekfbphnoibnjaaGreatDoor
open Go.RowKit

theorem infoSl : (Tryz.prog.info? 52).map (fun i => (i.zero, i.size, i.bytes)) = some (some (.slice none 0 0), 1, 24) := by kernel_rfl

theorem oneCell_slice (a : Option Addr) (n c : Nat) : ∀ u ∈ [Value.slice a n c], u.oneCell' = true := by intro u hu; simp at hu; subst hu; rfl

theorem step_append_none {P : Program} (w : World) {ops : Array Oper} {o : Oper} {a : Act} {K : Act → World → Prop} {Q : Exit → Act → World → Prop} {E : Prop} (hgd : o.guard = none) (s x : Operand) (t : TypeId)
    (ho : o.op = .call { callee := .builtin .append, args := #[s, x], argTypes := #[t, t] }) (base : Nat) (e : TypeId) (i : TypeInfo) (size : Nat) (ht : P.underlying t = some (.slice e)) (hi : P.info? e = some i)
    (v : Value) (n : Nat) (xs : List Value) (hs : a.eval s = v) (hown : w.ownsRow base e size v n xs) (hx : a.eval x = .slice none 0 0) (h : K (a.put o.dst v) w) :
    if Region.wanted o (yielded ops a.tmps) = true then Oper.wp P o a w K Q else E := by
  have hw : Region.wanted o (yielded ops a.tmps) = true := by simp [Region.wanted, hgd]
  rw [if_pos hw]
  have hr := run_append_owned_none (P := P) w base t o.type e i size ht hi v n xs hown
  unfold Oper.wp execOp
  simp only [ho, resolve, invoke, builtin, Sem.run_bind, Sem.run_pure, Result.andThen_ok, List.map_toArray, List.map_cons, List.map_nil, hs, hx, hr]
  exact h

def YNews (w2 : World) (yg : Nat) (zs : List Int) : Prop := ∀ j u, (ints zs)[j]? = some u → w2.drew.cell? ((⟨yg, 0, none⟩ : Addr).add j) = some u
theorem ynews {w2 : World} {B yg m yc : Nat} {zs : List Int} (h : w2.ownsRow B 3 1 (.slice (some ⟨yg, 0, none⟩) m yc) m (ints zs)) : YNews w2 yg zs := fun j u hu => h.cells (g := yg) rfl j u hu
theorem ykept {w2 wy : World} {B : Nat} {e : TypeId} {size : Nat} {v : Value} {n : Nat} {xs : List Value} {l c : Nat} (h : w2.ownsRow B e size v n xs) (hg : w2.drew.grownBy wy (Value.slice none l c).ownBlock) : wy.ownsRow B e size v n xs := by
  exact (show w2.drew.ownsRow B e size v n xs from h).kept hg (by
    cases hv : v.ownBlock with
    | none => exact .inl rfl
    | some k => exact .inr (by simp [Value.ownBlock]))
def keepS (p : Nat) (va ve : Value) : Nat → Prop := fun k => k = p ∨ va.ownBlock = some k ∨ ve.ownBlock = some k

/-- What stands behind the keeping of a list of numbers. -/
def KeptInts (w w' : World) (B p M : Nat) (vs : List Value) (va ve : Value) (wk ek : Nat) (wrows erows : List Value) (vl : Value) (m : Nat) (zs : List Int) : Prop :=
  ∃ (gw cw ge ce : Nat) (y : Value), BookAt w' p M ((vs.set 4 (.slice (some ⟨gw, 0, none⟩) (wk + 1) cw)).set 5 (.slice (some ⟨ge, 0, none⟩) (ek + 1) ce)) ∧
    w'.ownsRow B 52 1 (.slice (some ⟨gw, 0, none⟩) (wk + 1) cw) (wk + 1) (wrows ++ [vl]) ∧ w'.ownsRow B 52 1 (.slice (some ⟨ge, 0, none⟩) (ek + 1) ce) (ek + 1) (erows ++ [y]) ∧
    w'.ownsRow w.heap.size 3 1 y m (ints zs) ∧ (va.ownBlock = some gw ∨ w.heap.size ≤ gw) ∧ (ve.ownBlock = some ge ∨ w.heap.size ≤ ge) ∧ gw ≠ ge ∧ gw ≠ p ∧ ge ≠ p ∧ y.ownBlock ≠ some gw ∧ y.ownBlock ≠ some ge ∧ Frm (keepS p va ve) w w'

theorem keep_done {w w2 wy wz : World} {B p M : Nat} {vs : List Value} {va ve : Value} {wk ek : Nat} {wrows erows : List Value} {vl : Value} {m : Nat} {zs : List Int} {gw cw ge ce gy cy : Nat} {o : Obj}
    (HB : BookAt w2 p M (vs.set 4 (.slice (some ⟨gw, 0, none⟩) (wk + 1) cw))) (HW : w2.ownsRow B 52 1 (.slice (some ⟨gw, 0, none⟩) (wk + 1) cw) (wk + 1) (wrows ++ [vl])) (HF : Frm (keepS p va ve) w w2)
    (HG : va.ownBlock = some gw ∨ w.heap.size ≤ gw) (HGZ : gw < w2.heap.size) (hgwp : gw ≠ p) (hsz : w.heap.size + 1 ≤ w2.heap.size) (N2 : ve.ownBlock ≠ some p) (N3 : ∀ k, va.ownBlock = some k → ve.ownBlock ≠ some k) (hpw : p < w.heap.size) (hib : ∀ k, ve.ownBlock = some k → k < w.heap.size)
    (hy : wy.ownsRow w2.heap.size 3 1 (.slice (some ⟨gy, 0, none⟩) m cy) m (ints zs)) (hgry : w2.drew.grownBy wy (Value.slice none 0 0).ownBlock) (hlty : gy < wy.heap.size)
    (hzo : wz.ownsRow B 52 1 (.slice (some ⟨ge, 0, none⟩) (ek + 1) ce) (ek + 1) (erows ++ [.slice (some ⟨gy, 0, none⟩) m cy])) (hgrz : (wy.alloc o).grownBy wz ve.ownBlock) (hatz : ve.ownBlock = some ge ∨ ge = wy.heap.size + 1) :
    KeptInts w (wz.setCell ⟨p, 6, none⟩ (.slice (some ⟨ge, 0, none⟩) (ek + 1) ce)) B p M vs va ve wk ek wrows erows vl m zs := by
  have z1 : w2.heap.size ≤ wy.heap.size := hgry.size
  have hgyl : w2.heap.size ≤ gy := (World.ownsRow.lt hy gy rfl).1
  have fr : Frm (fun k => ve.ownBlock = some k) w2 wz := ((((Frm.refl _ w2).drew).grown hgry (fun k hk => by simp [Value.ownBlock] at hk)).alloc o).grown hgrz (fun k hk => .inl hk)
  have fr2 : Frm (fun k => k = p ∨ ve.ownBlock = some k) w2 (wz.setCell ⟨p, 6, none⟩ (.slice (some ⟨ge, 0, none⟩) (ek + 1) ce)) :=
    Frm.setCell (p := ⟨p, 6, none⟩) (fr.mono (fun k _ hk => .inr hk)) (.inl (.inl rfl)) _
  have hgep : ge ≠ p := by
    rcases hatz with h | h
    · intro e; exact N2 (by rw [h, e])
    · have := HB.up; omega
  have hgwe : gw ≠ ge := by
    intro e
    rcases hatz with h | h
    · rcases HG with k | k
      · exact N3 gw k (by rw [h, e])
      · have := hib ge h; omega
    · omega
  have hgye : gy ≠ ge := by
    intro e
    rcases hatz with h | h
    · have := hib ge h; omega
    · omega
  have hgyp : gy ≠ p := by omega
  have hyz : wz.ownsRow w2.heap.size 3 1 (.slice (some ⟨gy, 0, none⟩) m cy) m (ints zs) := (hy.alloc o).kept hgrz (by
    cases hv : ve.ownBlock with
    | none => exact .inr (by simp [Value.ownBlock])
    | some k => exact .inr (by simp [Value.ownBlock]; have := hib k hv; omega))
  have hbz : BookAt wz p M (vs.set 4 (.slice (some ⟨gw, 0, none⟩) (wk + 1) cw)) := HB.frm fr N2
  refine ⟨gw, cw, ge, ce, .slice (some ⟨gy, 0, none⟩) m cy, hbz.put 5 (by decide) _, fr2.owns HW (fun k hk hS => ?_), hzo.kept (grown_setCell wz p 6 _) (.inr (by simp [Value.ownBlock]; exact hgep)), ?_, HG, ?_, hgwe, hgwp, hgep, by simp [Value.ownBlock]; omega, by simp [Value.ownBlock]; exact hgye, HF.trans (fr2.mono (fun k _ hS => ?_))⟩
  · simp [Value.ownBlock] at hk
    subst hk
    rcases hS with h | h
    · exact hgwp h
    · rcases HG with k | k
      · exact N3 gw k h
      · have := hib gw h; omega
  · exact owns_base (hyz.kept (grown_setCell wz p 6 _) (.inr (by simp [Value.ownBlock]; exact hgyp))) (by omega)
  · rcases hatz with h | h
    · exact .inl h
    · exact .inr (by omega)
  · rcases hS with h | h
    · exact .inl h
    · exact .inr (.inr h)

theorem keep_done_nil {w w2 wz : World} {B p M : Nat} {vs : List Value} {va ve : Value} {wk ek : Nat} {wrows erows : List Value} {vl : Value} {gw cw ge ce : Nat} {o : Obj}
    (HB : BookAt w2 p M (vs.set 4 (.slice (some ⟨gw, 0, none⟩) (wk + 1) cw))) (HW : w2.ownsRow B 52 1 (.slice (some ⟨gw, 0, none⟩) (wk + 1) cw) (wk + 1) (wrows ++ [vl])) (HF : Frm (keepS p va ve) w w2)
    (HG : va.ownBlock = some gw ∨ w.heap.size ≤ gw) (HGZ : gw < w2.heap.size) (hgwp : gw ≠ p) (hsz : w.heap.size + 1 ≤ w2.heap.size) (N2 : ve.ownBlock ≠ some p) (N3 : ∀ k, va.ownBlock = some k → ve.ownBlock ≠ some k) (hib : ∀ k, ve.ownBlock = some k → k < w.heap.size)
    (hzo : wz.ownsRow B 52 1 (.slice (some ⟨ge, 0, none⟩) (ek + 1) ce) (ek + 1) (erows ++ [.slice none 0 0])) (hgrz : (w2.alloc o).drew.grownBy wz ve.ownBlock) (hatz : ve.ownBlock = some ge ∨ ge = w2.heap.size + 1) :
    KeptInts w (wz.setCell ⟨p, 6, none⟩ (.slice (some ⟨ge, 0, none⟩) (ek + 1) ce)) B p M vs va ve wk ek wrows erows vl 0 [] := by
  have fr : Frm (fun k => ve.ownBlock = some k) w2 wz := (((Frm.refl _ w2).alloc o).drew).grown hgrz (fun k hk => .inl hk)
  have fr2 : Frm (fun k => k = p ∨ ve.ownBlock = some k) w2 (wz.setCell ⟨p, 6, none⟩ (.slice (some ⟨ge, 0, none⟩) (ek + 1) ce)) :=
    Frm.setCell (p := ⟨p, 6, none⟩) (fr.mono (fun k _ hk => .inr hk)) (.inl (.inl rfl)) _
  have hgep : ge ≠ p := by
    rcases hatz with h | h
    · intro e; exact N2 (by rw [h, e])
    · have := HB.up; omega
  have hgwe : gw ≠ ge := by
    intro e
    rcases hatz with h | h
    · rcases HG with k | k
      · exact N3 gw k (by rw [h, e])
      · have := hib ge h; omega
    · omega
  have hbz : BookAt wz p M (vs.set 4 (.slice (some ⟨gw, 0, none⟩) (wk + 1) cw)) := HB.frm fr N2
  refine ⟨gw, cw, ge, ce, .slice none 0 0, hbz.put 5 (by decide) _, fr2.owns HW (fun k hk hS => ?_), hzo.kept (grown_setCell wz p 6 _) (.inr (by simp [Value.ownBlock]; exact hgep)), ?_, HG, ?_, hgwe, hgwp, hgep, by simp [Value.ownBlock], by simp [Value.ownBlock], HF.trans (fr2.mono (fun k _ hS => ?_))⟩
  · simp [Value.ownBlock] at hk
    subst hk
    rcases hS with h | h
    · exact hgwp h
    · rcases HG with k | k
      · exact N3 gw k h
      · have := hib gw h; omega
  · exact World.ownsRow_nil _ _ _ _
  · rcases hatz with h | h
    · exact .inl h
    · exact .inr (by omega)
  · rcases hS with h | h
    · exact .inl h
    · exact .inr (.inr h)

set_option maxHeartbeats 1000000 in
set_option maxRecDepth 20000 in
theorem keepInts_some (w : World) (B p M : Nat) (vs : List Value) (wa : Option Addr) (wk wc : Nat) (ea : Option Addr) (ek ec : Nat) (wrows erows : List Value) (la : Option Addr) (n lc : Nat) (yg m yc : Nat) (zs : List Int)
    (hbk : BookAt w p M vs) (hv4 : vs[4]? = some (.slice wa wk wc)) (hv5 : vs[5]? = some (.slice ea ek ec))
    (hrw : w.ownsRow B 52 1 (.slice wa wk wc) wk wrows) (hre : w.ownsRow B 52 1 (.slice ea ek ec) ek erows) (hry : w.ownsRow B 3 1 (.slice (some ⟨yg, 0, none⟩) m yc) m (ints zs)) (hm0 : 0 < m)
    (hBz : B ≤ w.heap.size) (n1 : (Value.slice wa wk wc).ownBlock ≠ some p) (n2 : (Value.slice ea ek ec).ownBlock ≠ some p) (n3 : ∀ k, (Value.slice wa wk wc).ownBlock = some k → (Value.slice ea ek ec).ownBlock ≠ some k)
    (n4 : (Value.slice wa wk wc).ownBlock ≠ some yg) (n5 : yg ≠ p)
    (hwk : wk ≤ 1000000000) (hek : ek ≤ 1000000000) (hm : m ≤ 1000000000) :
    Calls Tryz.prog 67 #[.pointer (some ⟨p, 0, none⟩), .slice la n lc, .slice (some ⟨yg, 0, none⟩) m yc] w fun x w' => x = .returned (.tuple #[]) ∧ KeptInts w w' B p M vs (.slice wa wk wc) (.slice ea ek ec) wk ek wrows erows (.slice la n lc) m zs := by
  obtain ⟨i0, hi, hz0, hz1, hz2⟩ := info_parts infoI64
  obtain ⟨j0, hj, hy0, hy1, hy2⟩ := info_parts infoSl
  have sp := hbk.cs 4 _ hv4
  have sf := hbk.fz 5
  have sp6 := hbk.cs 5 _ hv5
  have sf6 := hbk.fz 6
  have hpz := hbk.up
  have hpw : Hid (p < w.heap.size) := hpz
  have hib : Hid (∀ k, (Value.slice ea ek ec).ownBlock = some k → k < w.heap.size) := fun k hk => (World.ownsRow.lt hre k hk).2
  have hlen : zs.length = m := by have := hry.1; rw [ints_length] at this; omega
  go_enter Tryz.func67, Tryz.ntmps67
  go_wp2_with (at_builtin; refine wpList_append_lies _ rfl (.tmp 10) (.tmp 12) 43 rfl B 52 j0 (.slice none 0 0) 1 24 Tryz.underlying43 hj hy0 hy1 hy2 rfl (by omega) _ wk wrows rfl (hrw.alloc _) ⟨w.heap.size, 0, none⟩ 1 1 [.slice la n lc] rfl rfl ?c1 (oneCell_slice la n lc) (by omega) ?c3 ?c4 ?c5 (w.heap.size + 1) ?c6 ?_)
  case c1 => exact news_new _ [.slice la n lc] 52 _ rfl
  case c3 => unfold maxLen; omega
  case c4 => omega
  case c5 => simp; omega
  case c6 => simp
  intro gw cw w1 how hgr hat hlt1
  have hne : (Value.slice ea ek ec).ownBlock = none ∨ (Value.slice ea ek ec).ownBlock ≠ (Value.slice wa wk wc).ownBlock := by
    cases he : (Value.slice ea ek ec).ownBlock with
    | none => exact .inl rfl
    | some k => exact .inr (fun e => n3 k e.symm he)
  have hz1w : w.heap.size + 1 ≤ w1.heap.size := by have := hgr.size; simp at this; omega
  have hbk1 : BookAt w1 p M vs := hbk.of_block ((hgr.block p (by simp; omega) (fun e => n1 e.symm)).trans (Below.heap_alloc w _ p hpz)) (by omega)
  have hre1 : w1.ownsRow B 52 1 (.slice ea ek ec) ek erows := (hre.alloc _).kept hgr hne
  have hry1 : w1.ownsRow B 3 1 (.slice (some ⟨yg, 0, none⟩) m yc) m (ints zs) := (hry.alloc _).kept hgr (.inr (fun e => n4 e.symm))
  have sc1 := hbk1.cs 4 _ hv4
  have sf1 := hbk1.fz 5
  obtain ⟨w2, hw2⟩ : ∃ w2, w2 = w1.setCell ⟨p, 5, none⟩ (.slice (some ⟨gw, 0, none⟩) (wk + 1) cw) := ⟨_, rfl⟩
  have hgwp : gw ≠ p := by
    rcases hat with h | h
    · intro e; exact n1 (by rw [h, e])
    · omega
  have hyp : yg ≠ p := n5
  have HB2 : Hid (BookAt w2 p M (vs.set 4 (.slice (some ⟨gw, 0, none⟩) (wk + 1) cw))) := by rw [hw2]; exact hbk1.put 4 (by decide) _
  have HW2 : Hid (w2.ownsRow B 52 1 (.slice (some ⟨gw, 0, none⟩) (wk + 1) cw) (wk + 1) (wrows ++ [.slice la n lc])) := by rw [hw2]; exact how.kept (grown_setCell w1 p 5 _) (.inr (by simp [Value.ownBlock]; exact hgwp))
  have HE2 : Hid (w2.ownsRow B 52 1 (.slice ea ek ec) ek erows) := by rw [hw2]; exact hre1.kept (grown_setCell w1 p 5 _) (.inr n2)
  have HY2 : Hid (w2.ownsRow B 3 1 (.slice (some ⟨yg, 0, none⟩) m yc) m (ints zs)) := by rw [hw2]; exact hry1.kept (grown_setCell w1 p 5 _) (.inr (by simp [Value.ownBlock]; exact hyp))
  have HF2 : Hid (Frm (keepS p (.slice wa wk wc) (.slice ea ek ec)) w w2) := by
    rw [hw2]
    exact Frm.setCell (p := ⟨p, 5, none⟩) (((Frm.refl _ w).alloc _).grown hgr (fun k hk => .inl (.inr (.inl hk)))) (.inl (.inl rfl)) _
  have hsz2 : w.heap.size + 1 ≤ w2.heap.size := by rw [hw2]; simp; omega
  have HGW : Hid ((Value.slice wa wk wc).ownBlock = some gw ∨ w.heap.size ≤ gw) := by
    rcases hat with h | h
    · exact .inl h
    · exact .inr (by omega)
  have HGZ : Hid (gw < w2.heap.size) := by show gw < w2.heap.size; rw [hw2]; simp; exact hlt1
  have HW2' : Hid (w2 = w1.setCell ⟨p, 5, none⟩ (.slice (some ⟨gw, 0, none⟩) (wk + 1) cw)) := hw2
  have N3 : Hid (∀ k, (Value.slice wa wk wc).ownBlock = some k → (Value.slice ea ek ec).ownBlock ≠ some k) := n3
  have N2 : Hid ((Value.slice ea ek ec).ownBlock ≠ some p) := n2
  clear hbk1 hre1 hry1 how hgr hat hne sp sf sp6 sf6 hbk hrw hre hry hw2 n1 n2 n3 n4
  go_wp2_with fail
  rw [← HW2'.out]
  have s6 := HB2.out.cs 5 (.slice ea ek ec) (by rw [List.getElem?_set, if_neg (by decide)]; exact hv5)
  have f6 := HB2.out.fz 6
  have hpz2 := HB2.out.up
  have HNW : YNews w2 yg zs := ynews HY2.out
  have hzl : (ints zs).length = m * 1 := by rw [ints_length, hlen]; omega
  have HZL : Hid ((ints zs).length = m * 1) := hzl
  clear hzl
  go_region_law (first | (refine step_append_lies _ (by rfl) _ (.tmp 21) 52 (by rfl) w2.heap.size 3 i0 _ 1 8 Tryz.underlying52 hi hz0 hz1 hz2 rfl (by omega) (.slice none 0 0) 0 [] (by rfl) (World.ownsRow_nil _ _ _ _) ⟨yg, 0, none⟩ m yc (ints zs) (by rfl) HZL.out HNW (oneCell_ints zs) hm0 (by unfold maxLen; omega) (by omega) (Nat.le_refl _) w2.heap.size rfl ?_; intro gy cy wy hy hgry haty hlty; have sy6 : wy.cell? ⟨p, 6, none⟩ = some (.slice ea ek ec) := (hgry.cell_far ⟨p, 6, none⟩ hpz2 (by simp [Value.ownBlock])).trans s6; have fy6 : wy.frozen? ⟨p, 6, none⟩ = false := (hgry.frozen_far ⟨p, 6, none⟩ hpz2 (by simp [Value.ownBlock])).trans f6; have hpy : p < wy.heap.size := (by have := hgry.size; simp at this; omega)) | (refine step_append_lies _ (by rfl) (.tmp 20) (.tmp 23) 43 (by rfl) B 52 j0 _ 1 24 Tryz.underlying43 hj hy0 hy1 hy2 rfl (by omega) (.slice ea ek ec) ek erows (by rfl) ((ykept HE2.out hgry).alloc _) ⟨wy.heap.size, 0, none⟩ 1 1 [.slice (some ⟨gy, 0, none⟩) m cy] (by rfl) (by rfl) (news_new _ [.slice (some ⟨gy, 0, none⟩) m cy] 52 _ rfl) (oneCell_slice _ _ _) (by omega) (by unfold maxLen; omega) (by omega) (by have := hgry.size; simp at this ⊢; omega) (wy.heap.size + 1) (by simp) ?_; intro ge ce wz hzo hgrz hatz hltz; have scz : wz.cell? ⟨p, 6, none⟩ = some (.slice ea ek ec) := (hgrz.cell_far ⟨p, 6, none⟩ (by have := hgry.size; simp at this ⊢; omega) (Ne.symm N2.out)).trans ((World.cell?_of_block (a := ⟨p, 6, none⟩) (Below.heap_alloc wy _ p (by have := hgry.size; simp at this; omega))).trans sy6); have sfz : wz.frozen? ⟨p, 6, none⟩ = false := (hgrz.frozen_far ⟨p, 6, none⟩ (by have := hgry.size; simp at this ⊢; omega) (Ne.symm N2.out)).trans ((World.frozen?_of_block (a := ⟨p, 6, none⟩) (Below.heap_alloc wy _ p (by have := hgry.size; simp at this; omega))).trans fy6)))
  all_goals
    go_end0
    rw [Nat.zero_add, List.nil_append] at hy
    exact ⟨rfl, keep_done HB2.out HW2.out HF2.out HGW.out HGZ.out hgwp hsz2 N2.out N3.out hpw.out hib.out hy hgry hlty hzo hgrz hatz⟩

set_option maxHeartbeats 1000000 in
set_option maxRecDepth 20000 in
theorem keepInts_nil (w : World) (B p M : Nat) (vs : List Value) (wa : Option Addr) (wk wc : Nat) (ea : Option Addr) (ek ec : Nat) (wrows erows : List Value) (la : Option Addr) (n lc : Nat)
    (hbk : BookAt w p M vs) (hv4 : vs[4]? = some (.slice wa wk wc)) (hv5 : vs[5]? = some (.slice ea ek ec))
    (hrw : w.ownsRow B 52 1 (.slice wa wk wc) wk wrows) (hre : w.ownsRow B 52 1 (.slice ea ek ec) ek erows)
    (hBz : B ≤ w.heap.size) (n1 : (Value.slice wa wk wc).ownBlock ≠ some p) (n2 : (Value.slice ea ek ec).ownBlock ≠ some p) (n3 : ∀ k, (Value.slice wa wk wc).ownBlock = some k → (Value.slice ea ek ec).ownBlock ≠ some k)
    (hwk : wk ≤ 1000000000) (hek : ek ≤ 1000000000) :
    Calls Tryz.prog 67 #[.pointer (some ⟨p, 0, none⟩), .slice la n lc, .slice none 0 0] w fun x w' => x = .returned (.tuple #[]) ∧ KeptInts w w' B p M vs (.slice wa wk wc) (.slice ea ek ec) wk ek wrows erows (.slice la n lc) 0 [] := by
  obtain ⟨i0, hi, _, _, _⟩ := info_parts infoI64
  obtain ⟨j0, hj, hy0, hy1, hy2⟩ := info_parts infoSl
  have sp := hbk.cs 4 _ hv4
  have sf := hbk.fz 5
  have sp6 := hbk.cs 5 _ hv5
  have sf6 := hbk.fz 6
  have hpz := hbk.up
  have hpw : Hid (p < w.heap.size) := hpz
  have hib : Hid (∀ k, (Value.slice ea ek ec).ownBlock = some k → k < w.heap.size) := fun k hk => (World.ownsRow.lt hre k hk).2
  go_enter Tryz.func67, Tryz.ntmps67
  go_wp2_with (at_builtin; refine wpList_append_lies _ rfl (.tmp 10) (.tmp 12) 43 rfl B 52 j0 (.slice none 0 0) 1 24 Tryz.underlying43 hj hy0 hy1 hy2 rfl (by omega) _ wk wrows rfl (hrw.alloc _) ⟨w.heap.size, 0, none⟩ 1 1 [.slice la n lc] rfl rfl ?c1 (oneCell_slice la n lc) (by omega) ?c3 ?c4 ?c5 (w.heap.size + 1) ?c6 ?_)
  case c1 => exact news_new _ [.slice la n lc] 52 _ rfl
  case c3 => unfold maxLen; omega
  case c4 => omega
  case c5 => simp; omega
  case c6 => simp
  intro gw cw w1 how hgr hat hlt1
  have hne : (Value.slice ea ek ec).ownBlock = none ∨ (Value.slice ea ek ec).ownBlock ≠ (Value.slice wa wk wc).ownBlock := by
    cases he : (Value.slice ea ek ec).ownBlock with
    | none => exact .inl rfl
    | some k => exact .inr (fun e => n3 k e.symm he)
  have hz1w : w.heap.size + 1 ≤ w1.heap.size := by have := hgr.size; simp at this; omega
  have hbk1 : BookAt w1 p M vs := hbk.of_block ((hgr.block p (by simp; omega) (fun e => n1 e.symm)).trans (Below.heap_alloc w _ p hpz)) (by omega)
  have hre1 : w1.ownsRow B 52 1 (.slice ea ek ec) ek erows := (hre.alloc _).kept hgr hne
  have sc1 := hbk1.cs 4 _ hv4
  have sf1 := hbk1.fz 5
  obtain ⟨w2, hw2⟩ : ∃ w2, w2 = w1.setCell ⟨p, 5, none⟩ (.slice (some ⟨gw, 0, none⟩) (wk + 1) cw) := ⟨_, rfl⟩
  have hgwp : gw ≠ p := by
    rcases hat with h | h
    · intro e; exact n1 (by rw [h, e])
    · omega
  have HB2 : Hid (BookAt w2 p M (vs.set 4 (.slice (some ⟨gw, 0, none⟩) (wk + 1) cw))) := by rw [hw2]; exact hbk1.put 4 (by decide) _
  have HW2 : Hid (w2.ownsRow B 52 1 (.slice (some ⟨gw, 0, none⟩) (wk + 1) cw) (wk + 1) (wrows ++ [.slice la n lc])) := by rw [hw2]; exact how.kept (grown_setCell w1 p 5 _) (.inr (by simp [Value.ownBlock]; exact hgwp))
  have HE2 : Hid (w2.ownsRow B 52 1 (.slice ea ek ec) ek erows) := by rw [hw2]; exact hre1.kept (grown_setCell w1 p 5 _) (.inr n2)
  have HF2 : Hid (Frm (keepS p (.slice wa wk wc) (.slice ea ek ec)) w w2) := by
    rw [hw2]
    exact Frm.setCell (p := ⟨p, 5, none⟩) (((Frm.refl _ w).alloc _).grown hgr (fun k hk => .inl (.inr (.inl hk)))) (.inl (.inl rfl)) _
  have hsz2 : w.heap.size + 1 ≤ w2.heap.size := by rw [hw2]; simp; omega
  have HGW : Hid ((Value.slice wa wk wc).ownBlock = some gw ∨ w.heap.size ≤ gw) := by
    rcases hat with h | h
    · exact .inl h
    · exact .inr (by omega)
  have HGZ : Hid (gw < w2.heap.size) := by show gw < w2.heap.size; rw [hw2]; simp; exact hlt1
  have HW2' : Hid (w2 = w1.setCell ⟨p, 5, none⟩ (.slice (some ⟨gw, 0, none⟩) (wk + 1) cw)) := hw2
  have N3 : Hid (∀ k, (Value.slice wa wk wc).ownBlock = some k → (Value.slice ea ek ec).ownBlock ≠ some k) := n3
  have N2 : Hid ((Value.slice ea ek ec).ownBlock ≠ some p) := n2
  clear hbk1 hre1 how hgr hat hne sp sf sp6 sf6 hbk hrw hre hw2 n1 n2 n3
  go_wp2_with fail
  rw [← HW2'.out]
  have s6 := HB2.out.cs 5 (.slice ea ek ec) (by rw [List.getElem?_set, if_neg (by decide)]; exact hv5)
  have f6 := HB2.out.fz 6
  have hpz2 := HB2.out.up
  go_region_law (first | (refine step_append_none _ (by rfl) _ (.tmp 21) 52 (by rfl) 0 3 i0 1 Tryz.underlying52 hi (.slice none 0 0) 0 [] (by rfl) (World.ownsRow_nil _ _ _ _) (by rfl) ?_) | (refine step_append_lies _ (by rfl) (.tmp 20) (.tmp 23) 43 (by rfl) B 52 j0 _ 1 24 Tryz.underlying43 hj hy0 hy1 hy2 rfl (by omega) (.slice ea ek ec) ek erows (by rfl) ((HE2.out.alloc _).drew) ⟨w2.heap.size, 0, none⟩ 1 1 [.slice none 0 0] (by rfl) (by rfl) (World.news_of_block (cs := #[.slice none 0 0]) (t := 52) (fr := (0, 0)) (heap_alloc_new w2 _)) (oneCell_slice _ _ _) (by omega) (by unfold maxLen; omega) (by omega) (by simp; omega) (w2.heap.size + 1) (by simp) ?_; intro ge ce wz hzo hgrz hatz hltz; have scz : wz.cell? ⟨p, 6, none⟩ = some (.slice ea ek ec) := ((hgrz.cell_far ⟨p, 6, none⟩ (by simp; omega) (Ne.symm N2.out)).trans (cell_alloc_drew hpz2)).trans s6; have sfz : wz.frozen? ⟨p, 6, none⟩ = false := ((hgrz.frozen_far ⟨p, 6, none⟩ (by simp; omega) (Ne.symm N2.out)).trans (frozen_alloc_drew hpz2)).trans f6))
  all_goals
    go_end0
    exact ⟨rfl, keep_done_nil HB2.out HW2.out HF2.out HGW.out HGZ.out hgwp hsz2 N2.out N3.out hib.out hzo hgrz hatz⟩

end Go.Proofs.YtekfbphnoibnjaaGreatDoor
