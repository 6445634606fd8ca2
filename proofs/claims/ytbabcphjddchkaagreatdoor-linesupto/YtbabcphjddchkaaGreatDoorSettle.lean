/-
  The caller's book is settled: what waits is still what it was, then it is marked.
-/
import Derived.Test.YtbabcphjddchkaaGreatDoorLin3
namespace Go.Proofs.YtbabcphjddchkaaGreatDoor
open Go.RowKit

theorem owns_shape {w : World} {B : Nat} {e : TypeId} {size : Nat} {v : Value} {n : Nat} {xs : List Value} (h : w.ownsRow B e size v n xs) : ∃ a c, v = .slice a n c ∧ (n = 0 ∨ ∃ g, a = some ⟨g, 0, none⟩) := by
  rcases h.2 with ⟨rfl, h0⟩ | ⟨g, cap, cur, rfl, _⟩
  · exact ⟨none, 0, by rw [h0], .inl h0⟩
  · exact ⟨_, cap, rfl, .inr ⟨g, rfl⟩⟩

theorem St.row4 {w wH wr : World} {p M : Nat} {own : Nat → Nat} {vi vb vw ve : Value} {ibs : List IntB} {bbs : List BitB} {wts : List Wt} {d : Nat} (h : St w wH wr p M own vi vb vw ve ibs bbs wts d) {g k c : Nat} (hv : vw = .slice (some ⟨g, 0, none⟩) wts.length c) {x : Wt} (hx : wts[k]? = some x) : wr.cell? ⟨g, k, none⟩ = some x.l := by
  have hk : k < wts.length := (List.getElem?_eq_some_iff.1 hx).1
  have := h.ow
  rw [hv] at this
  rw [World.ownsRow.cellAt this k (by omega), List.getElem?_map, hx]
  rfl
theorem St.row5 {w wH wr : World} {p M : Nat} {own : Nat → Nat} {vi vb vw ve : Value} {ibs : List IntB} {bbs : List BitB} {wts : List Wt} {d : Nat} (h : St w wH wr p M own vi vb vw ve ibs bbs wts d) {g k c : Nat} (hv : ve = .slice (some ⟨g, 0, none⟩) wts.length c) {x : Wt} (hx : wts[k]? = some x) : wr.cell? ⟨g, k, none⟩ = some x.y := by
  have hk : k < wts.length := (List.getElem?_eq_some_iff.1 hx).1
  have := h.oe
  rw [hv] at this
  rw [World.ownsRow.cellAt this k (by omega), List.getElem?_map, hx]
  rfl

theorem below_of_drew {w wr : World} {n : Nat} (h : wr = w.drewN n) : Below w.heap.size w wr := by rw [h]; exact below_drewN (Below.refl _ _) n

theorem free100 (i : Nat) : Free (100 + i) := ⟨by omega, by omega, by omega, by omega, by omega, by omega, by omega⟩

/-- The book is emptied of what waits. -/
theorem St.clear {w wH wr : World} {p M : Nat} {own : Nat → Nat} {vi vb vw ve : Value} {ibs : List IntB} {bbs : List BitB} {wts : List Wt} (h : St w wH wr p M own vi vb vw ve ibs bbs wts wts.length) :
    St w wH ((((wr.setCell ⟨p, 5, none⟩ (.slice none 0 0)).setCell ⟨p, 6, none⟩ (.slice none 0 0)).setCell ⟨p, 7, none⟩ (.slice none 0 0)).setCell ⟨p, 8, none⟩ (.slice none 0 0)) p M own vi vb (.slice none 0 0) (.slice none 0 0) ibs bbs [] 0 := by
  obtain ⟨wz, hwz⟩ : ∃ wz, wz = (((wr.setCell ⟨p, 5, none⟩ (.slice none 0 0)).setCell ⟨p, 6, none⟩ (.slice none 0 0)).setCell ⟨p, 7, none⟩ (.slice none 0 0)).setCell ⟨p, 8, none⟩ (.slice none 0 0) := ⟨_, rfl⟩
  have hbk : BookAt wz p M (bookVs vi vb (.slice none 0 0) (.slice none 0 0)) := by
    rw [hwz]
    exact (((h.bk.put 4 (by decide) (.slice none 0 0)).put 5 (by decide) (.slice none 0 0)).put 6 (by decide) (.slice none 0 0)).put 7 (by decide) (.slice none 0 0)
  have fr : Frm (fun k => k = p) wr wz := by
    rw [hwz]
    exact ((((Frm.refl (fun k => k = p) wr).setCell (p := ⟨p, 5, none⟩) (.inl (show p = p from rfl)) _).setCell (p := ⟨p, 6, none⟩) (.inl (show p = p from rfl)) _).setCell (p := ⟨p, 7, none⟩) (.inl (show p = p from rfl)) _).setCell (p := ⟨p, 8, none⟩) (.inl (show p = p from rfl)) _
  rw [← hwz]
  have np : ∀ k, own k ≠ 0 → k ≠ p := fun k hk e => hk (by rw [e]; exact h.op)
  refine ⟨hbk, fr.owns h.oi (fun k hk => np k (by rw [h.ri k hk]; decide)), fr.owns h.ob (fun k hk => np k (by rw [h.rb k hk]; decide)), World.ownsRow_nil _ _ _ _, World.ownsRow_nil _ _ _ _, h.ri, h.rb, fun k hk => by simp [Value.ownBlock] at hk, fun k hk => by simp [Value.ownBlock] at hk,
    fun x hx => (h.ib x hx).frm fr (fun k hk => np k (by omega)) (fun _ _ e => e), fun x hx => (h.bb x hx).frm fr (fun k hk => np k (by omega)) (fun _ _ e => e), fun i x hx => by simp at hx, h.op, h.o1, Nat.le_trans h.sz fr.size, fun k hk hkp => (fr.block k (Nat.lt_of_lt_of_le hk h.sz) hkp).trans (h.kept k hk hkp), h.bel.trans (fr.below h.bel.size (fun k hk => ?_)), h.hp, h.hw⟩
  rw [show k = p from hk, h.hp]
  exact Nat.le_refl _

set_option maxHeartbeats 4000000 in
set_option maxRecDepth 20000 in
theorem settle_st (w wH wr0 : World) (p M : Nat) (own : Nat → Nat) (vi vb vw ve : Value) (ibs : List IntB) (bbs : List BitB) (wts : List Wt) (h : St w wH wr0 p M own vi vb vw ve ibs bbs wts 0) (hM : M + wts.length ≤ 100000000) (hib : ibs.length + wts.length ≤ 100000000) :
    Calls Tryz.prog 8 #[.pointer (some ⟨p, 0, none⟩)] wr0 fun e w' => e = .returned (.bool true) ∧ ∃ own' vi' ibs', St w wH w' p (M + wts.length) own' vi' vb (.slice none 0 0) (.slice none 0 0) ibs' bbs [] 0 ∧ ibs'.length = ibs.length + wts.length := by
  obtain ⟨L, hL⟩ : ∃ L, L = wts.length := ⟨_, rfl⟩
  obtain ⟨aw, cw, hvw, hgw⟩ := owns_shape h.ow
  obtain ⟨ae, ce, hve, hge⟩ := owns_shape h.oe
  have HST : Hid (St w wH wr0 p M own vi vb vw ve ibs bbs wts 0) := h
  rw [← hL] at hgw hge hM hib hvw hve ⊢
  have HL : Hid (L = wts.length) := hL
  have HVW : Hid (vw = .slice aw L cw) := hvw
  have HVE : Hid (ve = .slice ae L ce) := hve
  have i5 := h.bk.cs 4 vw rfl
  rw [hvw] at i5
  clear h hL hvw hve
  go_enter Tryz.func8, Tryz.ntmps8
  go_wp2
  clear i5
  go_loopw [3, 4] (fun ok i wr => ok = .bool true ∧ ∃ k : Nat, k ≤ L ∧ i = .int .i64 k ∧ St w wH wr p M own vi vb vw ve ibs bbs wts 0) (fun _ i _ => L - (intOf i).toNat)
  case atStart => exact ⟨rfl, 0, by omega, rfl, HST.out⟩
  case round =>
    clear HST
    obtain ⟨rfl, k, hk, rfl, hst⟩ := hrel
    have i5 := hst.bk.cs 4 vw rfl
    have i6 := hst.bk.cs 5 ve rfl
    have i7 := hst.bk.cs 6 (.slice none 0 0) rfl
    rw [HVW.out] at i5
    rw [HVE.out] at i6
    have HST : Hid (St w wH wr p M own vi vb vw ve ibs bbs wts 0) := hst
    clear hst
    by_cases hlt : k < L
    · have hlt' : (k : Int) < (L : Int) := by omega
      obtain ⟨gw, rfl⟩ : ∃ g, aw = some ⟨g, 0, none⟩ := by
        rcases hgw with h0 | h0
        · omega
        · exact h0
      obtain ⟨ge, rfl⟩ : ∃ g, ae = some ⟨g, 0, none⟩ := by
        rcases hge with h0 | h0
        · omega
        · exact h0
      obtain ⟨x, hx⟩ : ∃ x, wts[k]? = some x := ⟨_, List.getElem?_eq_getElem (by have := HL.out; omega)⟩
      have hx4 := HST.out.row4 (by rw [← HL.out]; exact HVW.out) hx
      have hx5 := HST.out.row5 (by rw [← HL.out]; exact HVE.out) hx
      have hxo := HST.out.wt k x hx (Nat.zero_le _)
      obtain ⟨al, cl, hel, hinl⟩ := IntsIn.of_own hxo.ol
      obtain ⟨ay, cy, hey, hiny⟩ := IntsIn.of_own hxo.oy
      have h9 := hxo.n9
      rw [hel] at hx4
      rw [hey] at hx5
      obtain ⟨m, hm⟩ : ∃ m, m = x.zs.length := ⟨_, rfl⟩
      rw [← hm] at hx4 hx5 hinl hiny h9
      have HS1 := fun n' => sameInts_any (wr.drewN n') al ay m cl m cy x.zs x.zs (show IntsIn (wr.drewN n') al m x.zs from hinl) (show IntsIn (wr.drewN n') ay m x.zs from hiny) (by omega) (by omega)
      have hd : decide (x.zs = x.zs) = true := by simp
      rw [hd] at HS1
      have HS2 : ∀ n', Hid (Calls Tryz.prog 16 #[.slice al m cl, .slice ay m cy] (wr.drewN n') fun x w' => x = .returned (.bool true) ∧ ∃ n, w' = (wr.drewN n').drewN n) := fun n' => HS1 n'
      clear HS1 hd hm hinl hiny hxo hel hey hx i7
      go_wp2
      go_quiet ((go_at_call 16; exact Calls.quiet_of (HS2 _).out))
      go_wp2
      go_roundw
      case rel => exact ⟨rfl, k + 1, by omega, by go_num, HST.out.below (below_drewN (Below.refl _ _) _)⟩
      case measure => simp [intOf]; omega
    · have hlt' : ¬ (k : Int) < (L : Int) := by omega
      obtain ⟨W1, rfl⟩ : ∃ W1, W1 = wr := ⟨_, rfl⟩
      go_wp2
      go_loop [3, 6] (fun ok i => ok = .bool true ∧ i = .int .i64 0) (fun _ _ => 0)
      case atStart => exact ⟨rfl, rfl⟩
      case round =>
        obtain ⟨rfl, rfl⟩ := hrel
        go_wp2
        clear i5 i6 i7
        go_loopw [8] (fun i wr => ∃ (j : Nat) (own' : Nat → Nat) (vi' : Value) (ibs' : List IntB), j ≤ L ∧ i = .int .i64 j ∧ St w wH wr p (M + j) own' vi' vb vw ve ibs' bbs wts j ∧ ibs'.length = ibs.length + j) (fun i _ => L - (intOf i).toNat)
        case atStart => exact ⟨0, own, vi, ibs, by omega, rfl, HST.out, rfl⟩
        case round =>
          clear HST
          obtain ⟨j, own', vi', ibs', hj, rfl, hst, hil⟩ := hrel
          have i5 := hst.bk.cs 4 vw rfl
          have i7 := hst.bk.cs 6 (.slice none 0 0) rfl
          rw [HVW.out] at i5
          have HST : Hid (St w wH wr p (M + j) own' vi' vb vw ve ibs' bbs wts j) := hst
          by_cases hjl : j < L
          · have hjl' : (j : Int) < (L : Int) := by omega
            obtain ⟨gw, rfl⟩ : ∃ g, aw = some ⟨g, 0, none⟩ := by
              rcases hgw with h0 | h0
              · omega
              · exact h0
            obtain ⟨x, hx⟩ : ∃ x, wts[j]? = some x := ⟨_, List.getElem?_eq_getElem (by have := HL.out; omega)⟩
            have hx4 := hst.row4 (by rw [← HL.out]; exact HVW.out) hx
            have hxo := hst.wt j x hx (Nat.le_refl _)
            obtain ⟨al, cl, hel, _⟩ := owns_shape hxo.ol
            obtain ⟨ai, ci, hei, _⟩ := owns_shape hst.oi
            have h9 := hxo.n9
            have hrl := hxo.rl
            have hol := hxo.ol
            have hoi := hst.oi
            have hri := hst.ri
            rw [hel] at hx4 hol hrl
            rw [hei] at hoi hri
            have hv0 : (bookVs vi' vb vw ve)[0]? = some (.slice ai ibs'.length ci) := by rw [← hei]; rfl
            have HC := markInts_any wr w.heap.size p (M + j) (bookVs vi' vb vw ve) ai ibs'.length ci (ibCells ibs') al x.zs.length cl x.zs hst.bk hv0 hoi hol hst.bel.size (hri.ne1 (by rw [hst.op]; decide)) (hrl.ne1 (by rw [hst.op]; omega)) (hrl.ne hri (by omega)) (by omega) (by omega) (by omega)
            rw [← hei, ← hel] at HC
            have HCC : Hid (Calls Tryz.prog 18 #[.pointer (some ⟨p, 0, none⟩), x.l] wr fun e w' => e = .returned (.tuple #[]) ∧ MarkedInts wr w' w.heap.size p (M + j) (bookVs vi' vb vw ve) vi' x.l ibs'.length x.zs.length (ibCells ibs')) := HC
            have HXO : Hid (Wt.Ok wr w.heap.size own' j x) := hxo
            rw [← hel] at hx4
            have hwl := HL.out
            clear HC hoi hol hri hrl hv0 hxo hst hx hel hei hwl
            go_wp2_with (go_at_call 18; refine HCC.out.mono ?_; rintro e w2 ⟨rfl, hmk⟩)
            obtain ⟨own2, vi2, x2, hst2, _, _, _⟩ := HST.out.mark (d' := j + 1) hmk HXO.out.rl (free100 j) (by omega) (fun i hi _ => by omega) HXO.out.n9 (fun k hk => (World.ownsRow.lt HXO.out.ol k hk).2)
            go_roundw
            case rel => exact ⟨j + 1, own2, vi2, _, by omega, by go_num, hst2, by rw [List.length_append]; simp; omega⟩
            case measure => simp [intOf]; omega
          · have hjl' : ¬ (j : Int) < (L : Int) := by omega
            obtain rfl : j = L := by omega
            have f5 := hst.bk.fz 5
            have f6 := hst.bk.fz 6
            have f7 := hst.bk.fz 7
            have f8 := hst.bk.fz 8
            have i6 := hst.bk.cs 5 ve rfl
            have i8 := hst.bk.cs 7 (.slice none 0 0) rfl
            rw [HVE.out] at i6
            clear hst
            obtain ⟨W2, rfl⟩ : ∃ W2, W2 = wr := ⟨_, rfl⟩
            go_wp2
            go_loop [9] (fun i => i = .int .i64 0) (fun _ => 0)
            case atStart => exact rfl
            case round =>
              subst hrel
              go_wp2
              go_ret
              refine ⟨rfl, own', vi', ibs', ?_, hil⟩
              have hst := HST.out
              rw [HL.out] at hst
              rw [HL.out]
              exact hst.clear

end Go.Proofs.YtbabcphjddchkaaGreatDoor
