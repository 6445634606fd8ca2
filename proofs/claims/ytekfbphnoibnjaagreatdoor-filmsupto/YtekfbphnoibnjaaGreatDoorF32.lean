/-
  The caller's book is settled: what waits is still what it was, then it is marked. The caller looks at all that is marked: it is as it was marked. The opening that every script is played behind: it answers eleven steps, and writes nothing old.
-/
import Derived.Test.YtekfbphnoibnjaaGreatDoorF31
import Derived.Deep.WholeRow
import Derived.Test.YtekfbphnoibnjaaGreatDoorF01
import Derived.Laws.BytesArg
namespace Go.Proofs.YtekfbphnoibnjaaGreatDoor
open Go.RowKit
open Flm (Px)
theorem flat_el {α : Type} (f : α -> List Value) (m : Nat) : ∀ (l : List α) (k : Nat) (a : α), (∀ a ∈ l, (f a).length = m) -> l[k]? = some a -> ∀ j, j < m -> (l.map f).flatten[k * m + j]? = (f a)[j]?
 | [], k, a, _, h, _, _ => by simp at h
 | b :: l, 0, a, hf, h, j, hj => by
  simp at h
  subst h
  rw [List.map_cons, List.flatten_cons, Nat.zero_mul, Nat.zero_add, List.getElem?_append_left (by rw [hf b (by simp)]; exact hj)]
 | b :: l, k + 1, a, hf, h, j, hj => by
  rw [List.map_cons, List.flatten_cons, List.getElem?_append_right (by rw [hf b (by simp)]; rw [Nat.succ_mul]; omega), hf b (by simp), show (k + 1) * m + j - m = k * m + j by rw [Nat.succ_mul]; omega]
  exact flat_el f m l k a (fun a ha => hf a (by simp [ha])) (by simpa using h) j hj
theorem shw_two {B : Nat} {x : Wg} (h : shw 1 B x) : x.cw.length = 2 /\ x.ce.length = 2 := by
 obtain ⟨z, frs, Lv, Lv', fbs, fbs', rfl, _⟩ := h
 exact ⟨rfl, rfl⟩
theorem GSt.row6 {w wH wr : World} {p M : Nat} {own : Nat -> Nat} {vs : List Value} {mk : Nat -> List En} {wt : Nat -> List Wg} {d : Nat -> Nat} (h : GSt w wH wr p M own vs mk wt d) {g k L c : Nat} (hv : vs.getD 6 nilV = .slice (some ⟨g, 0, none⟩) L c) (hL : L = (wt 1).length) {x : Wg} {a b : Value} (hx : (wt 1)[k]? = some x) (he : x.cw = [a, b]) : wr.cell? ⟨g, k * 2, none⟩ = some a /\ wr.cell? ⟨g, k * 2 + 1, none⟩ = some b := by
 have hk : k < (wt 1).length := (List.getElem?_eq_some_iff.1 hx).1
 have hr : wr.ownsRow w.heap.size 27 2 (vs.getD 6 nilV) ((wt 1).map Wg.cw).length ((wt 1).map Wg.cw).flatten := h.row 6 (by decide)
 rw [hv, List.length_map, <- hL] at hr
 have hf : ∀ y ∈ wt 1, y.cw.length = 2 := fun y hy => by
  obtain ⟨i, hi⟩ := List.mem_iff_getElem?.1 hy
  exact (shw_two (h.sw 1 i y (by decide) hi)).1
 have c0 := flat_el Wg.cw 2 (wt 1) k x hf hx 0 (by decide)
 have c1 := flat_el Wg.cw 2 (wt 1) k x hf hx 1 (by decide)
 rw [he] at c0 c1
 exact ⟨(World.ownsRow.cellAt hr (k * 2) (by omega)).trans c0, (World.ownsRow.cellAt hr (k * 2 + 1) (by omega)).trans c1⟩
theorem GSt.row7 {w wH wr : World} {p M : Nat} {own : Nat -> Nat} {vs : List Value} {mk : Nat -> List En} {wt : Nat -> List Wg} {d : Nat -> Nat} (h : GSt w wH wr p M own vs mk wt d) {g k L c : Nat} (hv : vs.getD 7 nilV = .slice (some ⟨g, 0, none⟩) L c) (hL : L = (wt 1).length) {x : Wg} {a b : Value} (hx : (wt 1)[k]? = some x) (he : x.ce = [a, b]) : wr.cell? ⟨g, k * 2, none⟩ = some a /\ wr.cell? ⟨g, k * 2 + 1, none⟩ = some b := by
 have hk : k < (wt 1).length := (List.getElem?_eq_some_iff.1 hx).1
 have hr : wr.ownsRow w.heap.size 27 2 (vs.getD 7 nilV) ((wt 1).map Wg.ce).length ((wt 1).map Wg.ce).flatten := h.row 7 (by decide)
 rw [hv, List.length_map, <- hL] at hr
 have hf : ∀ y ∈ wt 1, y.ce.length = 2 := fun y hy => by
  obtain ⟨i, hi⟩ := List.mem_iff_getElem?.1 hy
  exact (shw_two (h.sw 1 i y (by decide) hi)).2
 have c0 := flat_el Wg.ce 2 (wt 1) k x hf hx 0 (by decide)
 have c1 := flat_el Wg.ce 2 (wt 1) k x hf hx 1 (by decide)
 rw [he] at c0 c1
 exact ⟨(World.ownsRow.cellAt hr (k * 2) (by omega)).trans c0, (World.ownsRow.cellAt hr (k * 2 + 1) (by omega)).trans c1⟩
set_option maxHeartbeats 4000000 in
set_option maxRecDepth 100000 in
theorem settle_g (w wH wr0 : World) (p M : Nat) (own : Nat -> Nat) (vs : List Value) (mk : Nat -> List En) (wt : Nat -> List Wg) (h : GSt w wH wr0 p M own vs mk wt (dAt 0)) (h0 : wt 0 = []) (hM : M + 9 * (wt 1).length <= 100000000) (m3 : ∀ i, i < 4 -> (mk i).length <= M) :
  Calls Tryz.prog 16 #[.pointer (some ⟨p, 0, none⟩)] wr0 fun e w' => e = .returned (.bool true) /\ ∃ M' own' vs' mk', GSt w wH w' p M' own' vs' mk' (fun _ => []) (dAt 0) /\ M' <= M + 9 * (wt 1).length /\ (∀ i, i < 4 -> (mk' i).length <= M') /\ mk' 0 = mk 0 /\ mk' 1 = mk 1 := by
 have hmx : Tryz.prog.follows .mixedOrders = true := by kernel_rfl
 obtain ⟨L, hL⟩ : ∃ L, L = (wt 1).length := ⟨_, rfl⟩
 have hr4 : wr0.ownsRow w.heap.size 52 1 (vs.getD 4 nilV) ((wt 0).map Wg.cw).length ((wt 0).map Wg.cw).flatten := h.row 4 (by decide)
 have hr5 : wr0.ownsRow w.heap.size 52 1 (vs.getD 5 nilV) ((wt 0).map Wg.ce).length ((wt 0).map Wg.ce).flatten := h.row 5 (by decide)
 have hr6 : wr0.ownsRow w.heap.size 27 2 (vs.getD 6 nilV) ((wt 1).map Wg.cw).length ((wt 1).map Wg.cw).flatten := h.row 6 (by decide)
 have hr7 : wr0.ownsRow w.heap.size 27 2 (vs.getD 7 nilV) ((wt 1).map Wg.ce).length ((wt 1).map Wg.ce).flatten := h.row 7 (by decide)
 rw [List.length_map] at hr4 hr5 hr6 hr7
 rw [h0] at hr4 hr5
 rw [<- hL] at hr6 hr7
 obtain ⟨a4, c4, hv4, _⟩ := owns_sh hr4
 obtain ⟨a5, c5, hv5, _⟩ := owns_sh hr5
 obtain ⟨aw, cw, hv6, hgw⟩ := owns_sh hr6
 obtain ⟨ae, ce, hv7, hge⟩ := owns_sh hr7
 rw [<- hL] at hM ⊢
 have HST : Hid (GSt w wH wr0 p M own vs mk wt (dAt 0)) := h
 have HL : Hid (L = (wt 1).length) := hL
 have HM3 : Hid (∀ i, i < 4 -> (mk i).length <= M) := m3
 have HV4 : Hid (vs.getD 4 nilV = .slice a4 0 c4) := hv4
 have HV5 : Hid (vs.getD 5 nilV = .slice a5 0 c5) := hv5
 have HV6 : Hid (vs.getD 6 nilV = .slice aw L cw) := hv6
 have HV7 : Hid (vs.getD 7 nilV = .slice ae L ce) := hv7
 have i5 : wr0.cell? ⟨p, 5, none⟩ = some (.slice a4 0 c4) := by rw [<- HV4.out]; exact h.cell 4 (by decide)
 have i7 : wr0.cell? ⟨p, 7, none⟩ = some (.slice aw L cw) := by rw [<- hv6]; exact h.cell 6 (by decide)
 clear h h0 hr4 hr5 hr6 hr7 hL hv4 hv5 hv6 hv7 m3
 go_enter Tryz.func16, Tryz.ntmps16
 go_wp2
 go_loop [3, 4] (fun ok i => ok = .bool true /\ i = .int .i64 0) (fun _ _ => 0)
 case atStart => exact ⟨rfl, rfl⟩
 case round =>
  obtain ⟨rfl, rfl⟩ := hrel
  go_wp2
  clear i5 i7
  go_loopw [3, 6] (fun ok i wr => ok = .bool true /\ ∃ k : Nat, k <= L /\ i = .int .i64 k /\ GSt w wH wr p M own vs mk wt (dAt 0)) (fun _ i _ => L - (intOf i).toNat)
  case atStart => exact ⟨rfl, 0, by omega, rfl, HST.out⟩
  case round =>
  clear HST
  obtain ⟨rfl, k, hk, rfl, hst⟩ := hrel
  have i5 : wr.cell? ⟨p, 5, none⟩ = some (.slice a4 0 c4) := by rw [<- HV4.out]; exact hst.cell 4 (by decide)
  have i7 : wr.cell? ⟨p, 7, none⟩ = some (.slice aw L cw) := by rw [<- HV6.out]; exact hst.cell 6 (by decide)
  have i8 : wr.cell? ⟨p, 8, none⟩ = some (.slice ae L ce) := by rw [<- HV7.out]; exact hst.cell 7 (by decide)
  by_cases hlt : k < L
  ·have hlt' : (k : Int) < (L : Int) := by omega
   obtain ⟨gw, rfl⟩ : ∃ g, aw = some ⟨g, 0, none⟩ := by
    rcases hgw with h0 | h0
    ·omega
    ·exact h0
   obtain ⟨ge, rfl⟩ : ∃ g, ae = some ⟨g, 0, none⟩ := by
    rcases hge with h0 | h0
    ·omega
    ·exact h0
   obtain ⟨x, hx⟩ : ∃ x, (wt 1)[k]? = some x := ⟨_, List.getElem?_eq_getElem (by have := HL.out; omega)⟩
   obtain ⟨z, frs, Lv, Lv', fbs, e1, e2, _, fa, fb, _⟩ := (show GSt w wH wr p M own vs mk wt (dAt k) from hst.less (fun t _ => by unfold dAt; split <;> omega)).film hx
   obtain ⟨x60, x61⟩ := hst.row6 HV6.out HL.out hx e1
   obtain ⟨x70, x71⟩ := hst.row7 HV7.out HL.out hx e2
   have fb' := Frm.of_below (S := fun _ => False) (below_drewN (Below.refl wr.heap.size wr) 1)
   have HC : Hid (Calls Tryz.prog 31 #[.agg #[.int .i64 z, Lv], .agg #[.int .i64 z, Lv']] wr.drew fun x w' => x = .returned (.bool true) /\ Below wr.drew.heap.size wr.drew w') := sameFilm_same wr.drew w.heap.size w.heap.size z Lv Lv' frs fa fb
   have HST : Hid (GSt w wH wr p M own vs mk wt (dAt 0)) := hst
   have hS : (wr.drew.cell? ⟨p, 7, none⟩ = some (.slice (some ⟨gw, 0, none⟩) L cw) /\ wr.drew.cell? ⟨p, 8, none⟩ = some (.slice (some ⟨ge, 0, none⟩) L ce) /\ wr.drew.cell? ⟨gw, k * 2, none⟩ = some (.int .i64 z) /\ wr.drew.cell? ⟨gw, k * 2 + 1, none⟩ = some Lv /\ wr.drew.cell? ⟨ge, k * 2, none⟩ = some (.int .i64 z) /\ wr.drew.cell? ⟨ge, k * 2 + 1, none⟩ = some Lv') := ⟨i7, i8, x60, x61, x70, x71⟩
   have HS : Hid (∀ w', Below wr.drew.heap.size wr.drew w' -> (w'.cell? ⟨p, 7, none⟩ = some (.slice (some ⟨gw, 0, none⟩) L cw) /\ w'.cell? ⟨p, 8, none⟩ = some (.slice (some ⟨ge, 0, none⟩) L ce) /\ w'.cell? ⟨gw, k * 2, none⟩ = some (.int .i64 z) /\ w'.cell? ⟨gw, k * 2 + 1, none⟩ = some Lv /\ w'.cell? ⟨ge, k * 2, none⟩ = some (.int .i64 z) /\ w'.cell? ⟨ge, k * 2 + 1, none⟩ = some Lv')) := fun w' hb => by
    have cc : ∀ b o v, wr.drew.cell? ⟨b, o, none⟩ = some v -> w'.cell? ⟨b, o, none⟩ = some v := fun b o v e => (hb.cell (p := ⟨b, o, none⟩) (World.block_lt_of_cell? _ _ e)).trans e
    exact ⟨cc _ _ _ hS.1, cc _ _ _ hS.2.1, cc _ _ _ hS.2.2.1, cc _ _ _ hS.2.2.2.1, cc _ _ _ hS.2.2.2.2.1, cc _ _ _ hS.2.2.2.2.2⟩
   clear hst hx e1 e2 fa fb i5 i8 x60 x61 x70 x71 fb'
   go_wp2_with fail
   refine region_calm (S := fun w' => w'.cell? ⟨p, 7, none⟩ = some (.slice (some ⟨gw, 0, none⟩) L cw) /\ w'.cell? ⟨p, 8, none⟩ = some (.slice (some ⟨ge, 0, none⟩) L ce) /\ w'.cell? ⟨gw, k * 2, none⟩ = some (.int .i64 z) /\ w'.cell? ⟨gw, k * 2 + 1, none⟩ = some Lv /\ w'.cell? ⟨ge, k * 2, none⟩ = some (.int .i64 z) /\ w'.cell? ⟨ge, k * 2 + 1, none⟩ = some Lv') 16 #[false,false,false,false,false,false,false,false,false,false,false,false,false,false,false,false] rfl rfl hmx ?_
   refine tk_at 0 49 (.pointer (some ⟨p, 0, none⟩)) #[true,false,false,false,false,false,false,false,false,false,false,false,false,false,false,false] rfl rfl rfl (by kernel_rfl) (by rfl) (by rintro w ⟨t0, t1, t2, t3, t4, t5⟩; go_simp) (by assumption) ?_
   simp only [sIb, sCs, sCz]
   refine tk_at 1 50 (.pointer (some ⟨p, 0, none⟩)) #[true,true,false,false,false,false,false,false,false,false,false,false,false,false,false,false] rfl rfl rfl (by kernel_rfl) (by rfl) (by rintro w ⟨t0, t1, t2, t3, t4, t5⟩; go_simp) (by assumption) ?_
   simp only [sIb, sCs, sCz]
   refine tk_at 2 51 (.pointer (some ⟨p, 7, none⟩)) #[true,true,true,false,false,false,false,false,false,false,false,false,false,false,false,false] rfl rfl rfl (by kernel_rfl) (by rfl) (by rintro w ⟨t0, t1, t2, t3, t4, t5⟩; go_simp) (by assumption) ?_
   simp only [sIb, sCs, sCz]
   refine tk_at 3 52 (.slice (some ⟨gw, 0, none⟩) L cw) #[true,true,true,true,false,false,false,false,false,false,false,false,false,false,false,false] rfl rfl rfl (by kernel_rfl) (by rfl) (by rintro w ⟨t0, t1, t2, t3, t4, t5⟩; go_simp) (by assumption) ?_
   simp only [sIb, sCs, sCz]
   refine tk_at 4 53 (.int .i64 k) #[true,true,true,true,true,false,false,false,false,false,false,false,false,false,false,false] rfl rfl rfl (by kernel_rfl) (by rfl) (by rintro w ⟨t0, t1, t2, t3, t4, t5⟩; go_simp) (by assumption) ?_
   simp only [sIb, sCs, sCz]
   refine tk_at 5 54 (.pointer (some ⟨gw, k * 2, none⟩)) #[true,true,true,true,true,true,false,false,false,false,false,false,false,false,false,false] rfl rfl rfl (by kernel_rfl) (by rfl) (by rintro w ⟨t0, t1, t2, t3, t4, t5⟩; go_simp) (by assumption) ?_
   simp only [sIb, sCs, sCz]
   refine tk_at 6 55 (.agg #[.int .i64 z, Lv]) #[true,true,true,true,true,true,true,false,false,false,false,false,false,false,false,false] rfl rfl rfl (by kernel_rfl) (by rfl) (by rintro w ⟨t0, t1, t2, t3, t4, t5⟩; go_simp) (by assumption) ?_
   simp only [sIb, sCs, sCz]
   refine tk_at 7 56 (.pointer (some ⟨p, 0, none⟩)) #[true,true,true,true,true,true,true,true,false,false,false,false,false,false,false,false] rfl rfl rfl (by kernel_rfl) (by rfl) (by rintro w ⟨t0, t1, t2, t3, t4, t5⟩; go_simp) (by assumption) ?_
   simp only [sIb, sCs, sCz]
   refine tk_at 8 57 (.pointer (some ⟨p, 0, none⟩)) #[true,true,true,true,true,true,true,true,true,false,false,false,false,false,false,false] rfl rfl rfl (by kernel_rfl) (by rfl) (by rintro w ⟨t0, t1, t2, t3, t4, t5⟩; go_simp) (by assumption) ?_
   simp only [sIb, sCs, sCz]
   refine tk_at 9 58 (.pointer (some ⟨p, 8, none⟩)) #[true,true,true,true,true,true,true,true,true,true,false,false,false,false,false,false] rfl rfl rfl (by kernel_rfl) (by rfl) (by rintro w ⟨t0, t1, t2, t3, t4, t5⟩; go_simp) (by assumption) ?_
   simp only [sIb, sCs, sCz]
   refine tk_at 10 59 (.slice (some ⟨ge, 0, none⟩) L ce) #[true,true,true,true,true,true,true,true,true,true,true,false,false,false,false,false] rfl rfl rfl (by kernel_rfl) (by rfl) (by rintro w ⟨t0, t1, t2, t3, t4, t5⟩; go_simp) (by assumption) ?_
   simp only [sIb, sCs, sCz]
   refine tk_at 11 60 (.int .i64 k) #[true,true,true,true,true,true,true,true,true,true,true,true,false,false,false,false] rfl rfl rfl (by kernel_rfl) (by rfl) (by rintro w ⟨t0, t1, t2, t3, t4, t5⟩; go_simp) (by assumption) ?_
   simp only [sIb, sCs, sCz]
   refine tk_at 12 61 (.pointer (some ⟨ge, k * 2, none⟩)) #[true,true,true,true,true,true,true,true,true,true,true,true,true,false,false,false] rfl rfl rfl (by kernel_rfl) (by rfl) (by rintro w ⟨t0, t1, t2, t3, t4, t5⟩; go_simp) (by assumption) ?_
   simp only [sIb, sCs, sCz]
   refine tk_at 13 62 (.agg #[.int .i64 z, Lv']) #[true,true,true,true,true,true,true,true,true,true,true,true,true,true,false,false] rfl rfl rfl (by kernel_rfl) (by rfl) (by rintro w ⟨t0, t1, t2, t3, t4, t5⟩; go_simp) (by assumption) ?_
   simp only [sIb, sCs, sCz]
   refine enter_at (i := 14) (d := 63) (f := 31) (args := #[.agg #[.int .i64 z, Lv], .agg #[.int .i64 z, Lv']]) #[true,true,true,true,true,true,true,true,true,true,true,true,true,true,true,false] (by kernel_rfl) rfl rfl rfl (by rfl) (by go_simp) (fun v' w' => v' = .bool true /\ Below wr.drew.heap.size wr.drew w') (HC.out.mono (fun e w' he => ⟨_, he.1, rfl, he.2⟩)) ?_
   rintro v' wx ⟨rfl, hbx⟩
   have hSx := HS.out wx hbx
   refine ⟨hSx, ?_⟩
   simp only [sIb, sCs, sCz]
   refine tk_at 15 7 (.bool true) #[true,true,true,true,true,true,true,true,true,true,true,true,true,true,true,true] rfl rfl rfl (by kernel_rfl) (by rfl) (by rintro w ⟨t0, t1, t2, t3, t4, t5⟩; go_simp) (by assumption) ?_
   simp only [sIb, sCs, sCz]
   refine wpAnyH_done (by kernel_rfl) ?_ _
   dsimp only [calmPost]
   clear hSx HS HC hS
   go_wp2
   go_roundw
   case rel => exact ⟨rfl, k + 1, by omega, by go_num, (HST.out.below (below_drewN (Below.refl _ _) 1)).below hbx⟩
   case measure => simp [intOf]; omega
  ·have hlt' : ¬ (k : Int) < (L : Int) := by omega
   obtain ⟨W1, rfl⟩ : ∃ W1, W1 = wr := ⟨_, rfl⟩
   have HST : Hid (GSt w wH W1 p M own vs mk wt (dAt 0)) := hst
   clear hst
   go_wp2
   go_loop [8] (fun i => i = .int .i64 0) (fun _ => 0)
   case atStart => exact rfl
   case round =>
   subst hrel
   go_wp2
   clear i5 i7 i8
   go_loopw [9] (fun i wr => ∃ (j M' : Nat) (own' : Nat -> Nat) (vs' : List Value) (mk' : Nat -> List En), j <= L /\ i = .int .i64 j /\ GSt w wH wr p M' own' vs' mk' wt (dAt j) /\ M' <= M + 9 * j /\ (∀ i, i < 4 -> (mk' i).length <= M') /\ (∀ i, 4 <= i -> vs'.getD i nilV = vs.getD i nilV) /\ mk' 0 = mk 0 /\ mk' 1 = mk 1) (fun i _ => L - (intOf i).toNat)
   case atStart => exact ⟨0, M, own, vs, mk, by omega, rfl, HST.out, by omega, HM3.out, fun _ _ => rfl, rfl, rfl⟩
   case round =>
   clear HST HM3
   obtain ⟨j, M', own', vs', mk', hj, rfl, hst, hM', hm3, hvs, hk0, hk1⟩ := hrel
   have i7 : wr.cell? ⟨p, 7, none⟩ = some (.slice aw L cw) := by rw [<- HV6.out, <- hvs 6 (by decide)]; exact hst.cell 6 (by decide)
   by_cases hjl : j < L
   ·have hjl' : (j : Int) < (L : Int) := by omega
    obtain ⟨gw, rfl⟩ : ∃ g, aw = some ⟨g, 0, none⟩ := by
     rcases hgw with h0 | h0
     ·omega
     ·exact h0
    obtain ⟨x, hx⟩ : ∃ x, (wt 1)[j]? = some x := ⟨_, List.getElem?_eq_getElem (by have := HL.out; omega)⟩
    obtain ⟨z, frs, Lv, Lv', fbs, e1, e2, c, _, _, hlo⟩ := hst.film hx
    obtain ⟨x60, x61⟩ := hst.row6 ((hvs 6 (by decide)).trans HV6.out) HL.out hx e1
    have IS := InF.start hst c hlo hm3
    obtain ⟨wb, hwb⟩ : ∃ wb, wb = wr.alloc (.cells #[.int .i64 z, Lv] 27) := ⟨_, rfl⟩
    obtain ⟨H, hH⟩ : ∃ H, H = wr.heap.size := ⟨_, rfl⟩
    rw [<- hwb, <- hH] at IS
    have HIS : Hid (InF w wH wb p M' (upd own' H 50) vs' mk' wt j H Lv z frs fbs 0) := IS
    have HWB : Hid (wb = wr.alloc (.cells #[.int .i64 z, Lv] 27) /\ H = wr.heap.size) := ⟨hwb, hH⟩
    obtain ⟨b1, al, cl, hLv, hrd⟩ := IS.reads
    obtain ⟨n, hn⟩ : ∃ n, n = frs.length := ⟨_, rfl⟩
    have h8 : n <= 8 := by rw [hn]; exact c.l8
    rw [<- hn] at hLv hrd
    have HN : Hid (n = frs.length) := hn
    have HLV : Hid (Lv = .slice al n cl) := hLv
    have HVS : Hid ((∀ i, 4 <= i -> vs'.getD i nilV = vs.getD i nilV) /\ mk' 0 = mk 0 /\ mk' 1 = mk 1) := ⟨hvs, hk0, hk1⟩
    rw [hLv] at x61 b1
    rw [hLv] at HWB
    clear hst hx e1 e2 c hlo hm3 IS hwb hH hrd hn hvs hk0 hk1
    obtain ⟨W2, rfl⟩ : ∃ W2, W2 = wr := ⟨_, rfl⟩
    go_wp2_with (rw [<- HWB.out.1, <- HWB.out.2])
    clear i7 x60 x61 b1
    go_loopw [11] (fun i wr => ∃ (k M2 : Nat) (own2 : Nat -> Nat) (vs2 : List Value) (mk2 : Nat -> List En), k <= n /\ i = .int .i64 k /\ InF w wH wr p M2 own2 vs2 mk2 wt j H Lv z frs fbs k /\ M2 <= M' + k /\ (∀ i, 4 <= i -> vs2.getD i nilV = vs.getD i nilV) /\ mk2 0 = mk 0 /\ mk2 1 = mk 1) (fun i _ => n - (intOf i).toNat)
    case atStart => exact ⟨0, M', _, vs', mk', by omega, rfl, HIS.out, by omega, HVS.out.1, HVS.out.2.1, HVS.out.2.2⟩
    case round =>
    clear HIS HVS
    obtain ⟨k2, M2, own2, vs2, mk2, hk2, rfl, hin, hM2, hvs2, hk20, hk21⟩ := hrel
    obtain ⟨b1, al', cl', hLv', hrd⟩ := hin.reads
    rw [HLV.out] at hLv'
    rw [<- HN.out] at hLv' hrd
    simp only [Value.slice.injEq, true_and] at hLv'
    obtain ⟨rfl, rfl⟩ := hLv'
    rw [HLV.out] at b1
    have HIN : Hid (InF w wH wr p M2 own2 vs2 mk2 wt j H Lv z frs fbs k2) := hin
    have HVS : Hid ((∀ i, 4 <= i -> vs2.getD i nilV = vs.getD i nilV) /\ mk2 0 = mk 0 /\ mk2 1 = mk 1) := ⟨hvs2, hk20, hk21⟩
    by_cases hkn : k2 < n
    ·have hkn' : (k2 : Int) < (n : Int) := by omega
     obtain ⟨g, rfl, x0⟩ := hrd k2 hkn
     obtain ⟨Z, hZ⟩ : ∃ Z, Z = z * z := ⟨_, rfl⟩
     obtain ⟨fb0, hfb⟩ : ∃ fb0, fb0 = fbs.getD k2 0 := ⟨_, rfl⟩
     have HC : Hid (Calls Tryz.prog 33 #[.pointer (some ⟨p, 0, none⟩), .slice (some ⟨fb0, 0, none⟩) Z Z] wr fun e w' => e = .returned (.tuple #[]) /\ ∃ own' vi' x, InF w wH w' p (M2 + 1) own' (vs2.set 2 vi') (upd mk2 2 (mk2 2 ++ [x])) wt j H Lv z frs fbs (k2 + 1)) := by rw [hZ, hfb]; exact hin.pix (by rw [<- HN.out]; exact hkn) (by omega)
     rw [<- hZ, <- hfb] at x0
     clear hin hrd hvs2 hk20 hk21 hZ hfb
     go_wp2_with (go_at_call 33; refine HC.out.mono ?_; rintro e w3 ⟨rfl, own3, vi3, x3, hin3⟩)
     go_roundw
     case rel => exact ⟨k2 + 1, M2 + 1, own3, _, _, by omega, by go_num, hin3, by omega, fun i hi => (gD_set_ne vs2 vi3 (by omega)).trans (HVS.out.1 i hi), (upd_ne mk2 _ (by decide)).trans HVS.out.2.1, (upd_ne mk2 _ (by decide)).trans HVS.out.2.2⟩
     case measure => simp [intOf]; omega
    ·have hkn' : ¬ (k2 : Int) < (n : Int) := by omega
     have HC : Hid (Calls Tryz.prog 34 #[.pointer (some ⟨p, 0, none⟩), .slice al n cl] wr fun e w' => e = .returned (.tuple #[]) /\ ∃ own' vi' x, GSt w wH w' p (M2 + 1) own' (vs2.set 3 vi') (upd mk2 3 (mk2 3 ++ [x])) wt (dAt (j + 1)) /\ ∀ i, i < 4 -> (upd mk2 3 (mk2 3 ++ [x]) i).length <= M2 + 1) := by rw [<- HLV.out]; exact hin.rows (by omega)
     clear hin hrd hvs2 hk20 hk21
     obtain ⟨W3, rfl⟩ : ∃ W3, W3 = wr := ⟨_, rfl⟩
     go_wp2_with (go_at_call 34; refine HC.out.mono ?_; rintro e w3 ⟨rfl, own3, vi3, x3, hst3, hl3⟩)
     go_roundw
     case rel => exact ⟨j + 1, M2 + 1, own3, _, _, by omega, by go_num, hst3, by omega, hl3, fun i hi => (gD_set_ne vs2 vi3 (by omega)).trans (HVS.out.1 i hi), (upd_ne mk2 _ (by decide)).trans HVS.out.2.1, (upd_ne mk2 _ (by decide)).trans HVS.out.2.2⟩
     case measure => simp [intOf]; omega
   ·have hjl' : ¬ (j : Int) < (L : Int) := by omega
    obtain rfl : j = L := by omega
    have f5 := hst.bk.fz 5
    have f6 := hst.bk.fz 6
    have f7 := hst.bk.fz 7
    have f8 := hst.bk.fz 8
    have i5 : wr.cell? ⟨p, 5, none⟩ = some (.slice a4 0 c4) := by rw [<- HV4.out, <- hvs 4 (by decide)]; exact hst.cell 4 (by decide)
    have i6 : wr.cell? ⟨p, 6, none⟩ = some (.slice a5 0 c5) := by rw [<- HV5.out, <- hvs 5 (by decide)]; exact hst.cell 5 (by decide)
    have i8 : wr.cell? ⟨p, 8, none⟩ = some (.slice ae j ce) := by rw [<- HV7.out, <- hvs 7 (by decide)]; exact hst.cell 7 (by decide)
    have HF : Hid (GSt w wH wr p M' own' vs' mk' wt (dAt j) /\ (∀ i, i < 4 -> (mk' i).length <= M') /\ mk' 0 = mk 0 /\ mk' 1 = mk 1) := ⟨hst, hm3, hk0, hk1⟩
    clear hst hm3 hvs hk0 hk1
    obtain ⟨W2, rfl⟩ : ∃ W2, W2 = wr := ⟨_, rfl⟩
    go_wp2
    go_ret
    obtain ⟨vs9, h9⟩ := HF.out.1.clear
    exact ⟨rfl, M', own', vs9, mk', h9.less (fun t _ => by simp), hM', HF.out.2.1, HF.out.2.2.1, HF.out.2.2.2⟩
end Go.Proofs.YtekfbphnoibnjaaGreatDoor
namespace Go.Proofs.YtekfbphnoibnjaaGreatDoor
open Go.RowKit
theorem fill_on {w w' : World} {v : Value} {n : Nat} {us : List Value} (h : Fill w v n us) (f : Below w.heap.size w w') : Fill w' v n us := h.frm (Frm.of_below (S := fun _ => False) f) (fun _ _ e => e)
theorem box7 {W : World} {H : Nat} {x0 x1 x2 x3 x4 x5 x6 : Value} {t : TypeId} (h : W.heap[H]? = some (.cells #[x0, x1, x2, x3, x4, x5, x6] t (0, 0))) : W.cell? ⟨H, 0, none⟩ = some x0 /\ W.cell? ⟨H, 1, none⟩ = some x1 /\ W.cell? ⟨H, 2, none⟩ = some x2 /\ W.cell? ⟨H, 3, none⟩ = some x3 /\ W.cell? ⟨H, 4, none⟩ = some x4 /\ W.cell? ⟨H, 5, none⟩ = some x5 /\ W.cell? ⟨H, 6, none⟩ = some x6 :=
 ⟨cell_of_row _ _ 0 _ _ _ h, cell_of_row _ _ 1 _ _ _ h, cell_of_row _ _ 2 _ _ _ h, cell_of_row _ _ 3 _ _ _ h, cell_of_row _ _ 4 _ _ _ h, cell_of_row _ _ 5 _ _ _ h, cell_of_row _ _ 6 _ _ _ h⟩
theorem box5 {W : World} {H : Nat} {x0 x1 x2 x3 x4 : Value} {t : TypeId} (h : W.heap[H]? = some (.cells #[x0, x1, x2, x3, x4] t (0, 0))) : W.cell? ⟨H, 0, none⟩ = some x0 /\ W.cell? ⟨H, 1, none⟩ = some x1 /\ W.cell? ⟨H, 2, none⟩ = some x2 /\ W.cell? ⟨H, 3, none⟩ = some x3 /\ W.cell? ⟨H, 4, none⟩ = some x4 :=
 ⟨cell_of_row _ _ 0 _ _ _ h, cell_of_row _ _ 1 _ _ _ h, cell_of_row _ _ 2 _ _ _ h, cell_of_row _ _ 3 _ _ _ h, cell_of_row _ _ 4 _ _ _ h⟩
theorem box_on {W W' : World} {H : Nat} {o : Obj} (h : W.heap[H]? = some o) (b : Below W.heap.size W W') : W'.heap[H]? = some o := (b.block _ (heap_lt h)).trans h
theorem GSt.films {w wH wr : World} {p M : Nat} {own : Nat -> Nat} {vs : List Value} {mk : Nat -> List En} {wt : Nat -> List Wg} {d : Nat -> Nat} (h : GSt w wH wr p M own vs mk wt d) {g k c : Nat} (hv : vs.getD 2 nilV = .slice (some ⟨g, 0, none⟩) (mk 2).length c) (hk : k < (mk 2).length) :
  ∃ (a b e : Int) (n : Nat) (l g1 g2 g3 : Value), (Fill wr l n [.int .u8 a, .int .u8 b, .int .u8 e] /\ Fill wr g1 (n + 1) [.int .u8 a, .int .u8 b, .int .u8 e] /\ Fill wr g2 (n + 2) [.int .u8 a, .int .u8 b, .int .u8 e] /\ Fill wr g3 (n + 3) [.int .u8 a, .int .u8 b, .int .u8 e]) /\ n <= 900000000 /\ ∀ j v, [Value.int .u8 a, .int .u8 b, .int .u8 e, l, g1, g2, g3][j]? = some v -> wr.cell? ⟨g, k * 7 + j, none⟩ = some v := by
 obtain ⟨x, hx⟩ : ∃ x, (mk 2)[k]? = some x := ⟨_, List.getElem?_eq_getElem hk⟩
 have hm := List.mem_of_getElem? hx
 have hen := h.en 2 (by decide) x hm
 obtain ⟨a, b, e, n, l, g1, g2, g3, rfl, hn⟩ := h.sh 2 (by decide) x hm
 have hr : wr.ownsRow w.heap.size 81 7 (vs.getD 2 nilV) ((mk 2).map En.cells).length ((mk 2).map En.cells).flatten := h.row 2 (by decide)
 rw [hv, List.length_map] at hr
 have hf : ∀ y ∈ mk 2, y.cells.length = 7 := fun y hy => by
  obtain ⟨_, _, _, _, _, _, _, _, rfl, _⟩ := h.sh 2 (by decide) y hy
  rfl
 refine ⟨a, b, e, n, l, g1, g2, g3, ⟨(hen (l, n, _) (by simp [mkEn])).1.1, (hen (g1, n + 1, _) (by simp [mkEn])).1.1, (hen (g2, n + 2, _) (by simp [mkEn])).1.1, (hen (g3, n + 3, _) (by simp [mkEn])).1.1⟩, hn, fun j v hj => ?_⟩
 have hj7 : j < 7 := (List.getElem?_eq_some_iff.1 hj).1
 exact ((World.ownsRow.cellAt hr (k * 7 + j) (by omega)).trans (flat_el En.cells 7 (mk 2) k _ hf hx j hj7)).trans hj
theorem GSt.rows {w wH wr : World} {p M : Nat} {own : Nat -> Nat} {vs : List Value} {mk : Nat -> List En} {wt : Nat -> List Wg} {d : Nat -> Nat} (h : GSt w wH wr p M own vs mk wt d) {g k c : Nat} (hv : vs.getD 3 nilV = .slice (some ⟨g, 0, none⟩) (mk 3).length c) (hk : k < (mk 3).length) :
  ∃ (m mb mc n : Nat) (l g1 g2 g3 : Value), (Fill wr l n [.slice (some ⟨mb, 0, none⟩) m mc] /\ Fill wr g1 (n + 1) [.slice (some ⟨mb, 0, none⟩) m mc] /\ Fill wr g2 (n + 2) [.slice (some ⟨mb, 0, none⟩) m mc] /\ Fill wr g3 (n + 3) [.slice (some ⟨mb, 0, none⟩) m mc]) /\ n <= 900000000 /\ ∀ j v, [Value.int .i64 (m : Int), l, g1, g2, g3][j]? = some v -> wr.cell? ⟨g, k * 5 + j, none⟩ = some v := by
 obtain ⟨x, hx⟩ : ∃ x, (mk 3)[k]? = some x := ⟨_, List.getElem?_eq_getElem hk⟩
 have hm := List.mem_of_getElem? hx
 have hen := h.en 3 (by decide) x hm
 obtain ⟨m, mb, mc, n, l, g1, g2, g3, rfl, hn⟩ := h.sh 3 (by decide) x hm
 have hr : wr.ownsRow w.heap.size 84 5 (vs.getD 3 nilV) ((mk 3).map En.cells).length ((mk 3).map En.cells).flatten := h.row 3 (by decide)
 rw [hv, List.length_map] at hr
 have hf : ∀ y ∈ mk 3, y.cells.length = 5 := fun y hy => by
  obtain ⟨_, _, _, _, _, _, _, _, rfl, _⟩ := h.sh 3 (by decide) y hy
  rfl
 refine ⟨m, mb, mc, n, l, g1, g2, g3, ⟨(hen (l, n, _) (by simp [mkEn])).1.1, (hen (g1, n + 1, _) (by simp [mkEn])).1.1, (hen (g2, n + 2, _) (by simp [mkEn])).1.1, (hen (g3, n + 3, _) (by simp [mkEn])).1.1⟩, hn, fun j v hj => ?_⟩
 have hj7 : j < 5 := (List.getElem?_eq_some_iff.1 hj).1
 exact ((World.ownsRow.cellAt hr (k * 5 + j) (by omega)).trans (flat_el En.cells 5 (mk 3) k _ hf hx j hj7)).trans hj
set_option maxHeartbeats 4000000 in
set_option maxRecDepth 20000 in
theorem looks_g (w wH wr0 : World) (p M : Nat) (own : Nat -> Nat) (vs : List Value) (mk : Nat -> List En) (wt : Nat -> List Wg) (d : Nat -> Nat) (h : GSt w wH wr0 p M own vs mk wt d) (hk0 : mk 0 = []) (hk1 : mk 1 = []) (hk2 : (mk 2).length <= 100000000) (hk3 : (mk 3).length <= 100000000) :
  Calls Tryz.prog 17 #[.pointer (some ⟨p, 0, none⟩)] wr0 fun e w' => e = .returned (.bool true) /\ Below wr0.heap.size wr0 w' := by
 have hr0 : wr0.ownsRow w.heap.size 76 5 (vs.getD 0 nilV) ((mk 0).map En.cells).length ((mk 0).map En.cells).flatten := h.row 0 (by decide)
 have hr1 : wr0.ownsRow w.heap.size 79 3 (vs.getD 1 nilV) ((mk 1).map En.cells).length ((mk 1).map En.cells).flatten := h.row 1 (by decide)
 have hr2 : wr0.ownsRow w.heap.size 81 7 (vs.getD 2 nilV) ((mk 2).map En.cells).length ((mk 2).map En.cells).flatten := h.row 2 (by decide)
 have hr3 : wr0.ownsRow w.heap.size 84 5 (vs.getD 3 nilV) ((mk 3).map En.cells).length ((mk 3).map En.cells).flatten := h.row 3 (by decide)
 rw [List.length_map] at hr0 hr1 hr2 hr3
 rw [hk0] at hr0
 rw [hk1] at hr1
 obtain ⟨a0, c0, hv0, _⟩ := owns_sh hr0
 obtain ⟨a1, c1, hv1, _⟩ := owns_sh hr1
 obtain ⟨af, cf, hv2, hgf⟩ := owns_sh hr2
 obtain ⟨ar, cr, hv3, hgr⟩ := owns_sh hr3
 obtain ⟨Lf, hLf⟩ : ∃ L, L = (mk 2).length := ⟨_, rfl⟩
 obtain ⟨Lr, hLr⟩ : ∃ L, L = (mk 3).length := ⟨_, rfl⟩
 rw [<- hLf] at hv2 hgf hk2
 rw [<- hLr] at hv3 hgr hk3
 have HST : Hid (GSt w wH wr0 p M own vs mk wt d) := h
 have HLf : Hid (Lf = (mk 2).length) := hLf
 have HLr : Hid (Lr = (mk 3).length) := hLr
 have HV2 : Hid (vs.getD 2 nilV = .slice af Lf cf) := hv2
 have HV3 : Hid (vs.getD 3 nilV = .slice ar Lr cr) := hv3
 have i1 : wr0.cell? ⟨p, 1, none⟩ = some (.slice a0 0 c0) := (h.cell 0 (by decide)).trans (congrArg some hv0)
 have i2 : wr0.cell? ⟨p, 2, none⟩ = some (.slice a1 0 c1) := (h.cell 1 (by decide)).trans (congrArg some hv1)
 have i3 : wr0.cell? ⟨p, 3, none⟩ = some (.slice af Lf cf) := (h.cell 2 (by decide)).trans (congrArg some hv2)
 clear h hr0 hr1 hr2 hr3 hv0 hv1 hv2 hv3 hLf hLr hk0 hk1
 go_enter Tryz.func17, Tryz.ntmps17
 go_wp2
 go_loop [3, 4] (fun ok i => ok = .bool true /\ i = .int .i64 0) (fun _ _ => 0)
 case atStart => exact ⟨rfl, rfl⟩
 case round =>
 obtain ⟨rfl, rfl⟩ := hrel
 go_wp2
 go_loop [3, 10] (fun ok i => ok = .bool true /\ i = .int .i64 0) (fun _ _ => 0)
 case atStart => exact ⟨rfl, rfl⟩
 case round =>
 obtain ⟨rfl, rfl⟩ := hrel
 go_wp2
 clear i1 i2 i3
 go_loopw [3, 13] (fun ok i wr => ok = .bool true /\ ∃ k : Nat, k <= Lf /\ i = .int .i64 k /\ Below wr0.heap.size wr0 wr) (fun _ i _ => Lf - (intOf i).toNat)
 case atStart => exact ⟨rfl, 0, by omega, rfl, Below.refl _ _⟩
 case round =>
 obtain ⟨rfl, k, hk, rfl, hbr⟩ := hrel
 have hst := HST.out.below hbr
 have i3 : wr.cell? ⟨p, 3, none⟩ = some (.slice af Lf cf) := (hst.cell 2 (by decide)).trans (congrArg some HV2.out)
 have i4 : wr.cell? ⟨p, 4, none⟩ = some (.slice ar Lr cr) := (hst.cell 3 (by decide)).trans (congrArg some HV3.out)
 by_cases hlt : k < Lf
 ·have hlt' : (k : Int) < (Lf : Int) := by omega
  obtain ⟨g, rfl⟩ : ∃ g, af = some ⟨g, 0, none⟩ := by
   rcases hgf with h0 | h0
   ·omega
   ·exact h0
  obtain ⟨a, b, e, n, l, g1, g2, g3, ⟨F0, F1, F2, F3⟩, n9, hc⟩ := hst.films (k := k) (by rw [<- HLf.out]; exact HV2.out) (by rw [<- HLf.out]; exact hlt)
  obtain ⟨a0, d0, e0, _⟩ := id F0
  obtain ⟨a1, d1, e1, _⟩ := id F1
  obtain ⟨a2, d2, e2, _⟩ := id F2
  obtain ⟨a3, d3, e3, _⟩ := id F3
  rw [e0] at hc F0
  rw [e1] at hc F1
  rw [e2] at hc F2
  rw [e3] at hc F3
  have q0 := hc 0 _ rfl
  have q1 := hc 1 _ rfl
  have q2 := hc 2 _ rfl
  have q3 := hc 3 _ rfl
  have q4 := hc 4 _ rfl
  have q5 := hc 5 _ rfl
  have q6 := hc 6 _ rfl
  rw [Nat.add_zero] at q0
  obtain ⟨wa, hwa⟩ : ∃ wa, wa = wr.alloc (.cells #[.int .u8 a, .int .u8 b, .int .u8 e, .slice a0 n d0, .slice a1 (n + 1) d1, .slice a2 (n + 2) d2, .slice a3 (n + 3) d3] 81) := ⟨_, rfl⟩
  obtain ⟨H, hH⟩ : ∃ H, H = wr.heap.size := ⟨_, rfl⟩
  have hba : Below wr.heap.size wr wa := by rw [hwa]; exact (Below.refl _ _).alloc (Nat.le_refl _) _
  have HB0 : Hid (wa.heap[H]? = some (.cells #[.int .u8 a, .int .u8 b, .int .u8 e, .slice a0 n d0, .slice a1 (n + 1) d1, .slice a2 (n + 2) d2, .slice a3 (n + 3) d3] 81 (0, 0))) := by
   unfold Hid; rw [hwa, hH]; exact heap_alloc_last wr _
  have HF0 : Hid (Fill wa (.slice a0 n d0) n [.int .u8 a, .int .u8 b, .int .u8 e]) := fill_on F0 hba
  have HF1 : Hid (Fill wa (.slice a1 (n + 1) d1) (n + 1) [.int .u8 a, .int .u8 b, .int .u8 e]) := fill_on F1 hba
  have HF2 : Hid (Fill wa (.slice a2 (n + 2) d2) (n + 2) [.int .u8 a, .int .u8 b, .int .u8 e]) := fill_on F2 hba
  have HF3 : Hid (Fill wa (.slice a3 (n + 3) d3) (n + 3) [.int .u8 a, .int .u8 b, .int .u8 e]) := fill_on F3 hba
  have HBA : Hid (Below wr0.heap.size wr0 wa) := hbr.trans (hba.mono hbr.size)
  have HWA : Hid (wa = wr.alloc (.cells #[.int .u8 a, .int .u8 b, .int .u8 e, .slice a0 n d0, .slice a1 (n + 1) d1, .slice a2 (n + 2) d2, .slice a3 (n + 3) d3] 81) /\ H = wr.heap.size) := ⟨hwa, hH⟩
  have T1 : Hid True := trivial
  have T2 : Hid True := trivial
  have T3 : Hid True := trivial
  clear hc hst hba hwa hH e0 e1 e2 e3 F0 F1 F2 F3 i4
  go_wp2_with (first
   | (rw [<- HWA.out.1, <- HWA.out.2]; obtain ⟨k0, k1, k2, k3, k4, k5, k6⟩ := box7 HB0.out)
   | (clear T1; go_at_call 36; refine (allPixels_any wa _ n a b e HF0.out (by omega)).mono ?_; rintro e w2 ⟨rfl, b2⟩; clear k0 k1 k2 k3 k4 k5 k6; have HB2 := box_on HB0.out b2; obtain ⟨k0, k1, k2, k3, k4, k5, k6⟩ := box7 HB2)
   | (clear T2; go_at_call 36; refine (allPixels_any w2 _ (n + 1) a b e (fill_on HF1.out b2) (by omega)).mono ?_; rintro e w3 ⟨rfl, b3⟩; clear k0 k1 k2 k3 k4 k5 k6; have HB3 := box_on HB2 b3; obtain ⟨k0, k1, k2, k3, k4, k5, k6⟩ := box7 HB3)
   | (clear T3; go_at_call 36; refine (allPixels_any w3 _ (n + 2) a b e (fill_on (fill_on HF2.out b2) b3) (by omega)).mono ?_; rintro e w4 ⟨rfl, b4⟩; clear k0 k1 k2 k3 k4 k5 k6; have HB4 := box_on HB3 b4; obtain ⟨k0, k1, k2, k3, k4, k5, k6⟩ := box7 HB4)
   | (go_at_call 36; refine (allPixels_any w4 _ (n + 3) a b e (fill_on (fill_on (fill_on HF3.out b2) b3) b4) (by omega)).mono ?_; rintro e w5 ⟨rfl, b5⟩; clear k0 k1 k2 k3 k4 k5 k6))
  go_roundw
  case rel =>
   have z2 := HBA.out.trans (b2.mono HBA.out.size)
   have z3 := z2.trans (b3.mono z2.size)
   have z4 := z3.trans (b4.mono z3.size)
   exact ⟨rfl, k + 1, by omega, by go_num, z4.trans (b5.mono z4.size)⟩
  case measure => simp [intOf]; omega
 ·have hlt' : ¬ (k : Int) < (Lf : Int) := by omega
  clear hst
  obtain ⟨W1, rfl⟩ : ∃ W1, W1 = wr := ⟨_, rfl⟩
  have HB1 : Hid (Below wr0.heap.size wr0 W1) := hbr
  clear hbr
  go_wp2
  clear i3 i4
  go_loopw [3, 19] (fun ok i wr => ok = .bool true /\ ∃ k : Nat, k <= Lr /\ i = .int .i64 k /\ Below wr0.heap.size wr0 wr) (fun _ i _ => Lr - (intOf i).toNat)
  case atStart => exact ⟨rfl, 0, by omega, rfl, HB1.out⟩
  case round =>
  clear HB1
  obtain ⟨rfl, k2, hk2, rfl, hbr⟩ := hrel
  have hst := HST.out.below hbr
  have i4 : wr.cell? ⟨p, 4, none⟩ = some (.slice ar Lr cr) := (hst.cell 3 (by decide)).trans (congrArg some HV3.out)
  by_cases hlt2 : k2 < Lr
  ·have hlt2' : (k2 : Int) < (Lr : Int) := by omega
   obtain ⟨g, rfl⟩ : ∃ g, ar = some ⟨g, 0, none⟩ := by
    rcases hgr with h0 | h0
    ·omega
    ·exact h0
   obtain ⟨m, mb, mc, n, l, g1, g2, g3, ⟨F0, F1, F2, F3⟩, n9, hc⟩ := hst.rows (k := k2) (by rw [<- HLr.out]; exact HV3.out) (by rw [<- HLr.out]; exact hlt2)
   obtain ⟨a0, d0, e0, _⟩ := id F0
   obtain ⟨a1, d1, e1, _⟩ := id F1
   obtain ⟨a2, d2, e2, _⟩ := id F2
   obtain ⟨a3, d3, e3, _⟩ := id F3
   rw [e0] at hc F0
   rw [e1] at hc F1
   rw [e2] at hc F2
   rw [e3] at hc F3
   have q0 := hc 0 _ rfl
   have q1 := hc 1 _ rfl
   have q2 := hc 2 _ rfl
   have q3 := hc 3 _ rfl
   have q4 := hc 4 _ rfl
   rw [Nat.add_zero] at q0
   obtain ⟨wa, hwa⟩ : ∃ wa, wa = wr.alloc (.cells #[.int .i64 (m : Int), .slice a0 n d0, .slice a1 (n + 1) d1, .slice a2 (n + 2) d2, .slice a3 (n + 3) d3] 84) := ⟨_, rfl⟩
   obtain ⟨H, hH⟩ : ∃ H, H = wr.heap.size := ⟨_, rfl⟩
   have hba : Below wr.heap.size wr wa := by rw [hwa]; exact (Below.refl _ _).alloc (Nat.le_refl _) _
   have HB0 : Hid (wa.heap[H]? = some (.cells #[.int .i64 (m : Int), .slice a0 n d0, .slice a1 (n + 1) d1, .slice a2 (n + 2) d2, .slice a3 (n + 3) d3] 84 (0, 0))) := by
    unfold Hid; rw [hwa, hH]; exact heap_alloc_last wr _
   have HF0 : Hid (Fill wa (.slice a0 n d0) n [.slice (some ⟨mb, 0, none⟩) m mc]) := fill_on F0 hba
   have HF1 : Hid (Fill wa (.slice a1 (n + 1) d1) (n + 1) [.slice (some ⟨mb, 0, none⟩) m mc]) := fill_on F1 hba
   have HF2 : Hid (Fill wa (.slice a2 (n + 2) d2) (n + 2) [.slice (some ⟨mb, 0, none⟩) m mc]) := fill_on F2 hba
   have HF3 : Hid (Fill wa (.slice a3 (n + 3) d3) (n + 3) [.slice (some ⟨mb, 0, none⟩) m mc]) := fill_on F3 hba
   have HBA : Hid (Below wr0.heap.size wr0 wa) := hbr.trans (hba.mono hbr.size)
   have HWA : Hid (wa = wr.alloc (.cells #[.int .i64 (m : Int), .slice a0 n d0, .slice a1 (n + 1) d1, .slice a2 (n + 2) d2, .slice a3 (n + 3) d3] 84) /\ H = wr.heap.size) := ⟨hwa, hH⟩
   have T1 : Hid True := trivial
   have T2 : Hid True := trivial
   have T3 : Hid True := trivial
   clear hc hst hba hwa hH e0 e1 e2 e3 F0 F1 F2 F3
   go_wp2_with (first
    | (rw [<- HWA.out.1, <- HWA.out.2]; obtain ⟨k0, k1, k3, k4, k5⟩ := box5 HB0.out)
    | (clear T1; go_at_call 37; refine (allRows_any wa _ n m _ _ HF0.out (by omega)).mono ?_; rintro e w2 ⟨rfl, hw⟩; rw [hw]; clear hw)
    | (clear T2; go_at_call 37; refine (allRows_any wa _ (n + 1) m _ _ HF1.out (by omega)).mono ?_; rintro e w2 ⟨rfl, hw⟩; rw [hw]; clear hw)
    | (clear T3; go_at_call 37; refine (allRows_any wa _ (n + 2) m _ _ HF2.out (by omega)).mono ?_; rintro e w2 ⟨rfl, hw⟩; rw [hw]; clear hw)
    | (go_at_call 37; refine (allRows_any wa _ (n + 3) m _ _ HF3.out (by omega)).mono ?_; rintro e w2 ⟨rfl, hw⟩; rw [hw]; clear hw))
   go_roundw
   case rel => exact ⟨rfl, k2 + 1, by omega, by go_num, HBA.out⟩
   case measure => simp [intOf]; omega
  ·have hlt2' : ¬ (k2 : Int) < (Lr : Int) := by omega
   clear hst
   go_wp2
   go_ret
   exact ⟨rfl, hbr⟩
end Go.Proofs.YtekfbphnoibnjaaGreatDoor
namespace Go.Proofs.YtekfbphnoibnjaaGreatDoor
open Go.RowKit
theorem cellAt_new (w : World) (xs zs : Array Value) (e : TypeId) (i : Nat) (v : Value) (h : xs[i]? = some v) : (w.alloc (.cells (xs ++ zs) e)).drew.cell? ⟨w.heap.size, i, none⟩ = some v := by
 have hi : i < xs.size := by
  rcases Nat.lt_or_ge i xs.size with h' | h'
  ·exact h'
  ·rw [Array.getElem?_eq_none h'] at h; cases h
 show (w.alloc (.cells (xs ++ zs) e)).cell? ⟨w.heap.size, i, none⟩ = some v
 have hg : (w.alloc (.cells (xs ++ zs) e)).heap[w.heap.size]? = some (.cells (xs ++ zs) e (0, 0)) := by
  show (w.heap.push _)[w.heap.size]? = _
  simp
 rw [cell_of_row _ _ _ _ _ _ hg, Array.getElem?_append, if_pos hi, h]
theorem conv4 (w : World) (a b c d : Int) (z : Array Value) (cap : Nat) :
  Sem.run Tryz.prog (convert 101 9 (.slice (some ⟨w.heap.size + 1, 0, none⟩) 4 cap)) ((w.alloc (.cells #[.int .u8 a, .int .u8 b, .int .u8 c, .int .u8 d] 5)).alloc (.cells (#[.int .u8 a, .int .u8 b, .int .u8 c, .int .u8 d] ++ z) 5)).drew
   = .ok (.string (strOfNums [a, b, c, d])) ((w.alloc (.cells #[.int .u8 a, .int .u8 b, .int .u8 c, .int .u8 d] 5)).alloc (.cells (#[.int .u8 a, .int .u8 b, .int .u8 c, .int .u8 d] ++ z) 5)).drew := by
 refine run_convert_bytes_arg _ 101 5 Tryz.underlying101 Tryz.underlying5 (w.heap.size + 1) 0 4 cap [a, b, c, d] rfl ?_ 9 Tryz.underlying9
 intro i hi
 have hs : w.heap.size + 1 = (w.alloc (.cells #[.int .u8 a, .int .u8 b, .int .u8 c, .int .u8 d] 5)).heap.size := by simp
 rw [hs]
 refine cellAt_new _ _ _ _ _ _ ?_
 match i, hi with
 | 0, _ => rfl
 | 1, _ => rfl
 | 2, _ => rfl
 | 3, _ => rfl
set_option maxHeartbeats 400000 in
set_option maxRecDepth 20000 in
theorem wend_any (w : World) (B b g : Nat) (L R : Int) (cs : List Int) (h : Wrt w B b g L R cs) (L0 : 0 <= L) (L1 : L <= 4294967295) :
  Calls Tryz.prog 52 #[.pointer (some ⟨b, 0, none⟩)] w fun e w' => (∃ s : ByteArray, e = .returned (.string s) /\ s.size = 4) /\ Below w.heap.size w w' := by
 obtain ⟨h0, h1, h2, h3, hfz, hn, hne, hlo, hup⟩ := h
 clear hn
 have hcv := conv4 w
 go_enter Tryz.func52, Tryz.ntmps52
 go_wp2
 go_ret
 refine ⟨⟨_, rfl, by rw [strOfNums_size]; rfl⟩, ?_⟩
 exact (((Below.refl _ _).alloc (Nat.le_refl _) _).alloc (by simp) _).drew
theorem getD_set_ne (l : List Int) (i j : Nat) (v : Int) (h : i ≠ j) : (l.set i v).getD j 0 = l.getD j 0 := by
 simp [List.getD_eq_getElem?_getD, List.getElem?_set_ne h]
theorem getD_set_eq (l : List Int) (i : Nat) (v : Int) (h : i < l.length) : (l.set i v).getD i 0 = v := by
 simp [List.getD_eq_getElem?_getD, h]
structure Chs (cs : List Int) (a3 a200 a224 : Int) : Prop where
 h3 : cs.getD 3 0 = a3
 h200 : cs.getD 200 0 = a200
 h224 : cs.getD 224 0 = a224
theorem bitA (w : World) (B b g : Nat) (h : Wrt w B b g 0 4294967295 ch0) :
  Calls Tryz.prog 51 #[.pointer (some ⟨b, 0, none⟩), .int .i64 2, .int .i64 0] w fun e w' => e = .returned (.tuple #[]) /\ (∃ cs, Wrt w' B b g 0 2147481600 cs /\ Chs cs 2048 2048 2048) /\ Below B w w' := by
 have k := wbit0 w B b g 2 0 4294967295 2048 ch0 h (by decide) (ch0_get 2 (by decide)) (by decide) (by decide) (by decide) (by decide) (by decide) (by decide) (by decide) (by decide)
 refine k.mono ?_
 rintro e w' ⟨rfl, hw, hb⟩
 exact ⟨rfl, ⟨_, hw, by rw [getD_set_ne _ _ _ _ (by decide)]; exact ch0_get 3 (by decide), by rw [getD_set_ne _ _ _ _ (by decide)]; exact ch0_get 200 (by decide), by rw [getD_set_ne _ _ _ _ (by decide)]; exact ch0_get 224 (by decide)⟩, hb⟩
theorem bitB (w : World) (B b g : Nat) (h : ∃ cs, Wrt w B b g 0 2147481600 cs /\ Chs cs 2048 2048 2048) :
  Calls Tryz.prog 51 #[.pointer (some ⟨b, 0, none⟩), .int .i64 3, .int .i64 1] w fun e w' => e = .returned (.tuple #[]) /\ (∃ cs, Wrt w' B b g 1073739776 1073741824 cs /\ Chs cs 1984 2048 2048) /\ Below B w w' := by
 obtain ⟨cs, h, q3, q200, q224⟩ := h
 have k := wbit1 w B b g 3 0 2147481600 2048 cs h (by decide) q3 (by decide) (by decide) (by decide) (by decide) (by decide) (by decide) (by decide) (by decide) (by decide) (by decide)
 refine k.mono ?_
 rintro e w' ⟨rfl, hw, hb⟩
 exact ⟨rfl, ⟨_, hw, getD_set_eq _ _ _ (by rw [h.nums.len]; decide), by rw [getD_set_ne _ _ _ _ (by decide)]; exact q200, by rw [getD_set_ne _ _ _ _ (by decide)]; exact q224⟩, hb⟩
theorem bitC (w : World) (B b g : Nat) (h : ∃ cs, Wrt w B b g 1073739776 1073741824 cs /\ Chs cs 1984 2048 2048) :
  Calls Tryz.prog 51 #[.pointer (some ⟨b, 0, none⟩), .int .i64 200, .int .i64 0] w fun e w' => e = .returned (.tuple #[]) /\ (∃ cs, Wrt w' B b g 1073739776 536870912 cs /\ Chs cs 1984 2112 2048) /\ Below B w w' := by
 obtain ⟨cs, h, q3, q200, q224⟩ := h
 have k := wbit0 w B b g 200 1073739776 1073741824 2048 cs h (by decide) q200 (by decide) (by decide) (by decide) (by decide) (by decide) (by decide) (by decide) (by decide)
 refine k.mono ?_
 rintro e w' ⟨rfl, hw, hb⟩
 exact ⟨rfl, ⟨_, hw, by rw [getD_set_ne _ _ _ _ (by decide)]; exact q3, getD_set_eq _ _ _ (by rw [h.nums.len]; decide), by rw [getD_set_ne _ _ _ _ (by decide)]; exact q224⟩, hb⟩
theorem bitD (w : World) (B b g : Nat) (R c : Int) (h : ∃ cs, Wrt w B b g 1073739776 R cs /\ Chs cs 1984 2112 c) (c0 : 0 <= c) (c1 : c <= 4096) (R0 : 0 <= R) (R1 : R <= 4294967295) (m0 : 16777216 <= R / 4096 * c) (m1 : R / 4096 * c <= 4294967295) :
  Calls Tryz.prog 51 #[.pointer (some ⟨b, 0, none⟩), .int .i64 224, .int .i64 0] w fun e w' => e = .returned (.tuple #[]) /\ (∃ cs, Wrt w' B b g 1073739776 (R / 4096 * c) cs /\ Chs cs 1984 2112 (c + (4096 - c) / 32)) /\ Below B w w' := by
 obtain ⟨cs, h, q3, q200, q224⟩ := h
 have k := wbit0 w B b g 224 1073739776 R c cs h (by decide) q224 c0 c1 (by decide) (by decide) R0 R1 m0 m1
 refine k.mono ?_
 rintro e w' ⟨rfl, hw, hb⟩
 exact ⟨rfl, ⟨_, hw, by rw [getD_set_ne _ _ _ _ (by decide)]; exact q3, by rw [getD_set_ne _ _ _ _ (by decide)]; exact q200, getD_set_eq _ _ _ (by rw [h.nums.len]; decide)⟩, hb⟩
end Go.Proofs.YtekfbphnoibnjaaGreatDoor
