/-
  Tallies in memory; how they are compared. Tallies are sorted: an insertion sort, as they are few.
-/
import Derived.Test.YtekfbphnoibnjaaDoorF01
import Derived.Test.YtekfbphnoibnjaaDoorF05
import Derived.RegionTactic
import Derived.BigRegion
import Derived.Deep.RegionWith
namespace Go.Proofs.YtekfbphnoibnjaaDoor
open Go.RowKit
open Flm (Px FS okPx)
abbrev Tl := Px × Int
abbrev tl0 : Tl := ((0, 0, 0), 0)
def talCells (l : List Tl) : List Value := l.flatMap fun t => [.int .u8 t.1.1, .int .u8 t.1.2.1, .int .u8 t.1.2.2, .int .i64 t.2]
theorem talCells_cons (t : Tl) (l : List Tl) : talCells (t :: l) = .int .u8 t.1.1 :: .int .u8 t.1.2.1 :: .int .u8 t.1.2.2 :: .int .i64 t.2 :: talCells l := rfl
theorem talCells_get (l : List Tl) (r : List Value) {k : Nat} {t : Tl} (h : l[k]? = some t) :
  (talCells l ++ r)[k * 4]? = some (.int .u8 t.1.1) /\ (talCells l ++ r)[k * 4 + 1]? = some (.int .u8 t.1.2.1) /\ (talCells l ++ r)[k * 4 + 2]? = some (.int .u8 t.1.2.2) /\ (talCells l ++ r)[k * 4 + 3]? = some (.int .i64 t.2) := by
 induction l generalizing k with
 | nil => simp at h
 | cons p l ih =>
  rw [talCells_cons]
  cases k with
  | zero =>
   obtain rfl : p = t := by simpa using h
   exact ⟨rfl, rfl, rfl, rfl⟩
  | succ k =>
   have h' : l[k]? = some t := by simpa using h
   have e1 : (k + 1) * 4 = k * 4 + 1 + 1 + 1 + 1 := by omega
   rw [e1]
   simp only [List.cons_append, List.getElem?_cons_succ]
   exact ih h'
theorem talCells_set (l : List Tl) (r : List Value) {k : Nat} (hk : k < l.length) (t : Tl) :
  ((((talCells l ++ r).set (k * 4) (.int .u8 t.1.1)).set (k * 4 + 1) (.int .u8 t.1.2.1)).set (k * 4 + 2) (.int .u8 t.1.2.2)).set (k * 4 + 3) (.int .i64 t.2) = talCells (l.set k t) ++ r := by
 induction l generalizing k with
 | nil => simp at hk
 | cons p l ih =>
  rw [talCells_cons]
  cases k with
  | zero => rfl
  | succ k =>
   have e1 : (k + 1) * 4 = k * 4 + 1 + 1 + 1 + 1 := by omega
   rw [e1, List.set_cons_succ, talCells_cons]
   simp only [List.cons_append, List.set_cons_succ]
   rw [ih (by simpa using hk)]
def TalB (w : World) (g : Nat) (l : List Tl) : Prop := ∃ r, w.heap[g]? = some (.cells (talCells l ++ r).toArray 152 (0, 0))
def TalK (w : World) (g k : Nat) (t : Tl) : Prop := w.cell? ⟨g, k * 4, none⟩ = some (.int .u8 t.1.1) /\ w.cell? ⟨g, k * 4 + 1, none⟩ = some (.int .u8 t.1.2.1) /\ w.cell? ⟨g, k * 4 + 2, none⟩ = some (.int .u8 t.1.2.2) /\ w.cell? ⟨g, k * 4 + 3, none⟩ = some (.int .i64 t.2)
theorem TalB.at {w : World} {g : Nat} {l : List Tl} (h : TalB w g l) {k : Nat} {t : Tl} (hk : l[k]? = some t) : TalK w g k t := by
 obtain ⟨r, h⟩ := h
 obtain ⟨a, b, c, d⟩ := talCells_get l r hk
 have q := fun j => cell_of_row _ _ j _ _ _ h
 simp only [List.getElem?_toArray] at q
 exact ⟨(q _).trans a, (q _).trans b, (q _).trans c, (q _).trans d⟩
theorem TalB.frz {w : World} {g : Nat} {l : List Tl} (h : TalB w g l) (o : Nat) : w.frozen? ⟨g, o, none⟩ = false := by
 obtain ⟨r, h⟩ := h
 exact frozen_of_row _ _ o _ _ h
theorem TalB.lt {w : World} {g : Nat} {l : List Tl} (h : TalB w g l) : g < w.heap.size := by
 obtain ⟨r, h⟩ := h
 exact heap_lt0 h
theorem TalB.frm {S : Nat -> Prop} {w w' : World} {g : Nat} {l : List Tl} (h : TalB w g l) (f : Frm S w w') (hs : ¬ S g) : TalB w' g l := by
 obtain ⟨r, h⟩ := h
 exact ⟨r, (f.block g (heap_lt0 h) hs).trans h⟩
theorem TalB.below {w w' : World} {g : Nat} {l : List Tl} (h : TalB w g l) (f : Below w.heap.size w w') : TalB w' g l := h.frm (Frm.of_below (S := fun _ => False) f) (fun e => e)
def st4 (w : World) (g k : Nat) (t : Tl) : World := (((w.setCell ⟨g, k * 4, none⟩ (.int .u8 t.1.1)).setCell ⟨g, k * 4 + 1, none⟩ (.int .u8 t.1.2.1)).setCell ⟨g, k * 4 + 2, none⟩ (.int .u8 t.1.2.2)).setCell ⟨g, k * 4 + 3, none⟩ (.int .i64 t.2)
theorem TalB.store {w : World} {g : Nat} {l : List Tl} (h : TalB w g l) {k : Nat} (hk : k < l.length) (t : Tl) : TalB (st4 w g k t) g (l.set k t) := by
 obtain ⟨r, h⟩ := h
 refine ⟨r, ?_⟩
 unfold st4
 rw [Go.heap_setCell_same _ _ _ _ _ _ (Go.heap_setCell_same _ _ _ _ _ _ (Go.heap_setCell_same _ _ _ _ _ _ (Go.heap_setCell_same _ _ _ _ _ _ h))), List.setIfInBounds_toArray, List.setIfInBounds_toArray, List.setIfInBounds_toArray, List.setIfInBounds_toArray, talCells_set l r hk t]
theorem st4_frm (w : World) (g k : Nat) (t : Tl) : Frm (fun j => j = g) w (st4 w g k t) := by
 unfold st4
 exact ((((Frm.refl (fun j => j = g) w).setCell (p := ⟨g, k * 4, none⟩) (.inl rfl) _).setCell (p := ⟨g, k * 4 + 1, none⟩) (.inl rfl) _).setCell (p := ⟨g, k * 4 + 2, none⟩) (.inl rfl) _).setCell (p := ⟨g, k * 4 + 3, none⟩) (.inl rfl) _
def cmp3 (a b : Int) : Int := if a < b then -1 else if b < a then 1 else 0
theorem cmp3_neg (a b : Int) : cmp3 a b < 0 ↔ a < b := by unfold cmp3; split <;> (try split) <;> omega
set_option maxHeartbeats 1000000 in
theorem pIsNaN (w : World) (a : Int) : Calls Tryd.prog 82 #[.int .i64 a] w fun e w' => e = .returned (.bool false) /\ w' = w := by
 go_enter Tryd.func82, Tryd.ntmps82
 go_wp2
 go_ret
 exact ⟨by simp, rfl⟩
set_option maxHeartbeats 2000000 in
theorem pCompare (w : World) (a b : Int) : Calls Tryd.prog 76 #[.int .i64 a, .int .i64 b] w fun e w' => e = .returned (.int .i64 (cmp3 a b)) /\ w' = w := by
 unfold cmp3
 have h1 := pIsNaN w a
 have h2 := pIsNaN w b
 have T1 : Hid True := trivial
 by_cases hab : a < b
 ·rw [if_pos hab]
  go_enter Tryd.func76, Tryd.ntmps76
  go_wp2_with (first
   | (clear T1; go_at_call 82; refine h1.mono ?_; rintro e w' ⟨rfl, rfl⟩)
   | (go_at_call 82; refine h2.mono ?_; rintro e w' ⟨rfl, rfl⟩))
  go_ret
  exact ⟨rfl, rfl⟩
 ·rw [if_neg hab]
  by_cases hba : b < a
  ·rw [if_pos hba]
   go_enter Tryd.func76, Tryd.ntmps76
   go_wp2_with (first
    | (clear T1; go_at_call 82; refine h1.mono ?_; rintro e w' ⟨rfl, rfl⟩)
    | (go_at_call 82; refine h2.mono ?_; rintro e w' ⟨rfl, rfl⟩))
   go_ret
   exact ⟨rfl, rfl⟩
  ·rw [if_neg hba]
   go_enter Tryd.func76, Tryd.ntmps76
   go_wp2_with (first
    | (clear T1; go_at_call 82; refine h1.mono ?_; rintro e w' ⟨rfl, rfl⟩)
    | (go_at_call 82; refine h2.mono ?_; rintro e w' ⟨rfl, rfl⟩))
   go_ret
   exact ⟨rfl, rfl⟩
set_option maxHeartbeats 2000000 in
theorem pCmp (w : World) (a0 a1 a2 b0 b1 b2 a b : Int) : Calls Tryd.prog 75 #[.agg #[.int .u8 a0, .int .u8 a1, .int .u8 a2, .int .i64 a], .agg #[.int .u8 b0, .int .u8 b1, .int .u8 b2, .int .i64 b]] w fun e w' => e = .returned (.int .i64 (cmp3 b a)) /\ Below w.heap.size w w' := by
 have hB : Below w.heap.size w ((w.alloc (.cells #[.int .u8 a0, .int .u8 a1, .int .u8 a2, .int .i64 a] 152)).alloc (.cells #[.int .u8 b0, .int .u8 b1, .int .u8 b2, .int .i64 b] 152)) := ((Below.refl _ w).alloc (Nat.le_refl _) _).alloc (by simp) _
 have HB : Hid (Below w.heap.size w ((w.alloc (.cells #[.int .u8 a0, .int .u8 a1, .int .u8 a2, .int .i64 a] 152)).alloc (.cells #[.int .u8 b0, .int .u8 b1, .int .u8 b2, .int .i64 b] 152))) := hB
 clear hB
 go_enter Tryd.func75, Tryd.ntmps75
 go_wp2_with (go_at_call 76; refine (pCompare _ b a).mono ?_; rintro e w' ⟨rfl, rfl⟩)
 go_ret
 exact ⟨rfl, HB.out⟩
end Go.Proofs.YtekfbphnoibnjaaDoor
namespace Go.Proofs.YtekfbphnoibnjaaDoor
open Go.RowKit
open Flm (Px FS okPx)
open Pk (swap sink sorts)
theorem sink_succ (j : Nat) (l : List Tl) : sink (j + 1) l = if (l.getD j tl0).2 < (l.getD (j + 1) tl0).2 then sink j (swap l (j + 1)) else l := rfl
theorem getD_some {l : List Tl} {k : Nat} {t : Tl} (h : l[k]? = some t) : l.getD k tl0 = t := by rw [List.getD_eq_getElem?_getD, h]; rfl
set_option maxHeartbeats 8000000 in
set_option maxRecDepth 100000 in
theorem pInsertion (w : World) (g n cap : Nat) (l : List Tl) (hn : l.length = n) (hn0 : 0 < n) (hn4 : n <= 4) (h : TalB w g l) :
  Calls Tryd.prog 84 #[.slice (some ⟨g, 0, none⟩) n cap, .int .i64 0, .int .i64 n, .func (.func 75) #[] #[]] w fun e w' => e = .returned (.tuple #[]) /\ TalB w' g (sorts n l) /\ Frm (fun k => k = g) w w' := by
 have hmx : Tryd.prog.follows .mixedOrders = true := by kernel_rfl
 have H0 : Hid (TalB w g l /\ l.length = n) := ⟨h, hn⟩
 clear h hn
 go_enter Tryd.func84, Tryd.ntmps84
 go_wp2
 go_loopw [8] (fun v8 wr => ∃ i : Nat, 1 <= i /\ i <= n /\ v8 = .int .i64 i /\ TalB wr g (sorts i l) /\ (sorts i l).length = n /\ Frm (fun k => k = g) w wr) (fun v8 _ => n - (intOf v8).toNat)
 case atStart => exact ⟨1, Nat.le_refl _, hn0, rfl, H0.out.1, H0.out.2, Frm.refl _ _⟩
 case round =>
  obtain ⟨i, hi1, hi, rfl, hT, hl, hF⟩ := hrel
  have HI : Hid (TalB wr g (sorts i l) /\ (sorts i l).length = n /\ Frm (fun k => k = g) w wr) := ⟨hT, hl, hF⟩
  clear hT hl hF
  by_cases hlt : i < n
  ·have hlt' : (i : Int) < (n : Int) := by omega
   go_wp2
   go_loopw [9] (fun v9 wi => ∃ (j : Nat) (m : List Tl), j <= i /\ v9 = .int .i64 j /\ sink j m = sorts (i + 1) l /\ m.length = n /\ TalB wi g m /\ Frm (fun k => k = g) w wi) (fun v9 _ => (intOf v9).toNat)
   case atStart => exact ⟨i, sorts i l, Nat.le_refl _, rfl, rfl, HI.out.2.1, HI.out.1, HI.out.2.2⟩
   case round =>
    clear HI H0
    obtain ⟨j, m, hj, rfl, hs, hm, hT, hF⟩ := hrel
    obtain ⟨wi, rfl⟩ : ∃ wi, wi = wr := ⟨_, rfl⟩
    cases j with
    | zero =>
     have HI : Hid (m = sorts (i + 1) l /\ m.length = n /\ TalB wi g m /\ Frm (fun k => k = g) w wi) := ⟨hs, hm, hT, hF⟩
     have hj0 : ¬ (((0 : Nat) : Int) > 0) := by omega
     clear hs hm hT hF
     go_wp2_with fail
     go_region
     go_wp2_with fail
     obtain ⟨e1, e2, e3, e4⟩ := HI.out
     rw [e1] at e2 e3
     refine ⟨⟨i + 1, by omega, by omega, by simp, e3, e2, e4.drew⟩, ?_⟩
     simp [intOf]; omega
    | succ j =>
     obtain ⟨s, hsj⟩ : ∃ s, m[j]? = some s := ⟨m[j]'(by omega), List.getElem?_eq_getElem _⟩
     obtain ⟨t, htj⟩ : ∃ t, m[j + 1]? = some t := ⟨m[j + 1]'(by omega), List.getElem?_eq_getElem _⟩
     obtain ⟨⟨s0, s1, s2⟩, sc⟩ := s
     obtain ⟨⟨t0, t1, t2⟩, tc⟩ := t
     obtain ⟨J, hJ⟩ : ∃ J, J = j + 1 := ⟨_, rfl⟩
     obtain ⟨k0, k1, k2, k3⟩ := hT.at hsj
     obtain ⟨l0, l1, l2, l3⟩ := hT.at htj
     rw [<- hJ] at l0 l1 l2 l3 hj ⊢
     dsimp only at k0 k1 k2 k3 l0 l1 l2 l3
     have hjn : (j : Int) < (n : Int) := by omega
     have hJn : (J : Int) < (n : Int) := by omega
     have hJ0 : (J : Int) > 0 := by omega
     have hJp : 0 < J := by omega
     have hJ1 : (J : Int) - 1 = (j : Int) := by omega
     have wj : wrap64 ((J : Int) - 1) = (j : Int) := by unfold wrap64; omega
     have wj' : IntKind.i64.wrap ((J : Int) - 1) = (j : Int) := by rw [IntKind.wrap_i64]; omega
     have HI : Hid (sink J m = sorts (i + 1) l /\ m.length = n /\ TalB wi g m /\ Frm (fun k => k = g) w wi /\ J = j + 1 /\ m[j]? = some ((s0, s1, s2), sc) /\ m[J]? = some ((t0, t1, t2), tc)) := ⟨by rw [hJ]; exact hs, hm, hT, hF, hJ, hsj, by rw [hJ]; exact htj⟩
     have wj2 : IntKind.i64.wrap (j : Int) = (j : Int) := by rw [IntKind.wrap_i64]; omega
     clear hs hm hT hF hJ hsj htj
     go_wp2_with fail
     have hdw : Below wi.heap.size wi wi.drew := ⟨rfl, rfl, rfl, Nat.le_refl _, fun _ _ => rfl⟩
     obtain ⟨C3, hC3⟩ : ∃ C3, C3 = cmp3 sc tc := ⟨_, rfl⟩
     have hsk : sink J m = if sc < tc then sink j (swap m J) else m := by
      obtain ⟨_, _, _, _, e5, e6, e7⟩ := HI.out
      rw [e5, sink_succ, getD_some e6, <- e5, getD_some e7]
     have HCM : Hid (∀ W, Calls Tryd.prog 75 #[.agg #[.int .u8 t0, .int .u8 t1, .int .u8 t2, .int .i64 tc], .agg #[.int .u8 s0, .int .u8 s1, .int .u8 s2, .int .i64 sc]] W fun e w' => e = .returned (.int .i64 C3) /\ Below W.heap.size W w') := fun W => by rw [hC3]; exact pCmp W t0 t1 t2 s0 s1 s2 tc sc
     have cc : ∀ Y, Below wi.heap.size wi Y -> (Y.cell? ⟨g, j * 4, none⟩ = some (.int .u8 s0) /\ Y.cell? ⟨g, j * 4 + 1, none⟩ = some (.int .u8 s1) /\ Y.cell? ⟨g, j * 4 + 2, none⟩ = some (.int .u8 s2) /\ Y.cell? ⟨g, j * 4 + 3, none⟩ = some (.int .i64 sc) /\ Y.cell? ⟨g, J * 4, none⟩ = some (.int .u8 t0) /\ Y.cell? ⟨g, J * 4 + 1, none⟩ = some (.int .u8 t1) /\ Y.cell? ⟨g, J * 4 + 2, none⟩ = some (.int .u8 t2) /\ Y.cell? ⟨g, J * 4 + 3, none⟩ = some (.int .i64 tc)) := fun Y hb => ⟨(hb.cell (World.block_lt_of_cell? wi _ k0)).trans k0, (hb.cell (World.block_lt_of_cell? wi _ k1)).trans k1, (hb.cell (World.block_lt_of_cell? wi _ k2)).trans k2, (hb.cell (World.block_lt_of_cell? wi _ k3)).trans k3, (hb.cell (World.block_lt_of_cell? wi _ l0)).trans l0, (hb.cell (World.block_lt_of_cell? wi _ l1)).trans l1, (hb.cell (World.block_lt_of_cell? wi _ l2)).trans l2, (hb.cell (World.block_lt_of_cell? wi _ l3)).trans l3⟩
     refine region_calm (S := fun w' => w'.cell? ⟨g, j * 4, none⟩ = some (.int .u8 s0) /\ w'.cell? ⟨g, j * 4 + 1, none⟩ = some (.int .u8 s1) /\ w'.cell? ⟨g, j * 4 + 2, none⟩ = some (.int .u8 s2) /\ w'.cell? ⟨g, j * 4 + 3, none⟩ = some (.int .i64 sc) /\ w'.cell? ⟨g, J * 4, none⟩ = some (.int .u8 t0) /\ w'.cell? ⟨g, J * 4 + 1, none⟩ = some (.int .u8 t1) /\ w'.cell? ⟨g, J * 4 + 2, none⟩ = some (.int .u8 t2) /\ w'.cell? ⟨g, J * 4 + 3, none⟩ = some (.int .i64 tc)) 17 #[false,false,false,false,false,false,false,false,false,false,false,false,false,false,false,false,false] rfl rfl hmx ?_
     have hS0 : (wi.drew.cell? ⟨g, j * 4, none⟩ = some (.int .u8 s0) /\ wi.drew.cell? ⟨g, j * 4 + 1, none⟩ = some (.int .u8 s1) /\ wi.drew.cell? ⟨g, j * 4 + 2, none⟩ = some (.int .u8 s2) /\ wi.drew.cell? ⟨g, j * 4 + 3, none⟩ = some (.int .i64 sc) /\ wi.drew.cell? ⟨g, J * 4, none⟩ = some (.int .u8 t0) /\ wi.drew.cell? ⟨g, J * 4 + 1, none⟩ = some (.int .u8 t1) /\ wi.drew.cell? ⟨g, J * 4 + 2, none⟩ = some (.int .u8 t2) /\ wi.drew.cell? ⟨g, J * 4 + 3, none⟩ = some (.int .i64 tc)) := cc _ hdw
     refine tk_at 0 18 (.int .i64 J) #[true,false,false,false,false,false,false,false,false,false,false,false,false,false,false,false,false] rfl rfl rfl (by kernel_rfl) (by rfl) (by rintro w ⟨a0, a1, a2, a3, b0, b1, b2, b3⟩; go_simp) (by assumption) ?_
     simp only [sIb, sCs, sCz]
     refine tk_at 1 19 (.int .i64 0) #[true,true,false,false,false,false,false,false,false,false,false,false,false,false,false,false,false] rfl rfl rfl (by kernel_rfl) (by rfl) (by rintro w ⟨a0, a1, a2, a3, b0, b1, b2, b3⟩; go_simp) (by assumption) ?_
     simp only [sIb, sCs, sCz]
     refine tk_at 2 20 (.bool true) #[true,true,true,false,false,false,false,false,false,false,false,false,false,false,false,false,false] rfl rfl rfl (by kernel_rfl) (by rfl) (by rintro w ⟨a0, a1, a2, a3, b0, b1, b2, b3⟩; go_simp) (by assumption) ?_
     simp only [sIb, sCs, sCz]
     refine tk_at 3 21 (.bool true) #[true,true,true,true,false,false,false,false,false,false,false,false,false,false,false,false,false] rfl rfl rfl (by kernel_rfl) (by rfl) (by rintro w ⟨a0, a1, a2, a3, b0, b1, b2, b3⟩; go_simp) (by assumption) ?_
     simp only [sIb, sCs, sCz]
     refine tk_at 4 22 (.func (.func 75) #[] #[]) #[true,true,true,true,true,false,false,false,false,false,false,false,false,false,false,false,false] rfl rfl rfl (by kernel_rfl) (by rfl) (by rintro w ⟨a0, a1, a2, a3, b0, b1, b2, b3⟩; go_simp) (by assumption) ?_
     simp only [sIb, sCs, sCz]
     refine tk_at 5 23 (.slice (some ⟨g, 0, none⟩) n cap) #[true,true,true,true,true,true,false,false,false,false,false,false,false,false,false,false,false] rfl rfl rfl (by kernel_rfl) (by rfl) (by rintro w ⟨a0, a1, a2, a3, b0, b1, b2, b3⟩; go_simp) (by assumption) ?_
     simp only [sIb, sCs, sCz]
     refine tk_at 6 24 (.int .i64 J) #[true,true,true,true,true,true,true,false,false,false,false,false,false,false,false,false,false] rfl rfl rfl (by kernel_rfl) (by rfl) (by rintro w ⟨a0, a1, a2, a3, b0, b1, b2, b3⟩; go_simp) (by assumption) ?_
     simp only [sIb, sCs, sCz]
     refine tk_at 7 25 (.pointer (some ⟨g, J * 4, none⟩)) #[true,true,true,true,true,true,true,true,false,false,false,false,false,false,false,false,false] rfl rfl rfl (by kernel_rfl) (by rfl) (by rintro w ⟨a0, a1, a2, a3, b0, b1, b2, b3⟩; go_simp) (by assumption) ?_
     simp only [sIb, sCs, sCz]
     refine tk_at 8 26 (.agg #[.int .u8 t0, .int .u8 t1, .int .u8 t2, .int .i64 tc]) #[true,true,true,true,true,true,true,true,true,false,false,false,false,false,false,false,false] rfl rfl rfl (by kernel_rfl) (by rfl) (by rintro w ⟨a0, a1, a2, a3, b0, b1, b2, b3⟩; go_simp) (by assumption) ?_
     simp only [sIb, sCs, sCz]
     refine tk_at 9 27 (.slice (some ⟨g, 0, none⟩) n cap) #[true,true,true,true,true,true,true,true,true,true,false,false,false,false,false,false,false] rfl rfl rfl (by kernel_rfl) (by rfl) (by rintro w ⟨a0, a1, a2, a3, b0, b1, b2, b3⟩; go_simp) (by assumption) ?_
     simp only [sIb, sCs, sCz]
     refine tk_at 10 28 (.int .i64 J) #[true,true,true,true,true,true,true,true,true,true,true,false,false,false,false,false,false] rfl rfl rfl (by kernel_rfl) (by rfl) (by rintro w ⟨a0, a1, a2, a3, b0, b1, b2, b3⟩; go_simp) (by assumption) ?_
     simp only [sIb, sCs, sCz]
     refine tk_at 11 29 (.int .i64 j) #[true,true,true,true,true,true,true,true,true,true,true,true,false,false,false,false,false] rfl rfl rfl (by kernel_rfl) (by rfl) (by rintro w ⟨a0, a1, a2, a3, b0, b1, b2, b3⟩; go_simp) (by assumption) ?_
     simp only [sIb, sCs, sCz]
     refine tk_at 12 30 (.pointer (some ⟨g, j * 4, none⟩)) #[true,true,true,true,true,true,true,true,true,true,true,true,true,false,false,false,false] rfl rfl rfl (by kernel_rfl) (by rfl) (by rintro w ⟨a0, a1, a2, a3, b0, b1, b2, b3⟩; go_simp) (by assumption) ?_
     simp only [sIb, sCs, sCz]
     refine tk_at 13 31 (.agg #[.int .u8 s0, .int .u8 s1, .int .u8 s2, .int .i64 sc]) #[true,true,true,true,true,true,true,true,true,true,true,true,true,true,false,false,false] rfl rfl rfl (by kernel_rfl) (by rfl) (by rintro w ⟨a0, a1, a2, a3, b0, b1, b2, b3⟩; go_simp) (by assumption) ?_
     simp only [sIb, sCs, sCz]
     refine enter_at (i := 14) (d := 32) (f := 75) (args := #[.agg #[.int .u8 t0, .int .u8 t1, .int .u8 t2, .int .i64 tc], .agg #[.int .u8 s0, .int .u8 s1, .int .u8 s2, .int .i64 sc]]) #[true,true,true,true,true,true,true,true,true,true,true,true,true,true,true,false,false] (by kernel_rfl) rfl rfl rfl (by rfl) (by go_simp) (fun r w' => r = .int .i64 C3 /\ Below wi.heap.size wi w') ((HCM.out wi.drew).mono (fun r w' he => ⟨_, he.1, rfl, hdw.trans he.2⟩)) ?_
     rintro va w2 ⟨rfl, hB2⟩
     refine ⟨cc w2 hB2, ?_⟩
     have hS2 := cc w2 hB2
     simp only [sIb, sCs, sCz]
     obtain ⟨e1, e2, e3, e4, e5, e6, e7⟩ := HI.out
     have hT2 := e3.below hB2
     have hF2 : Frm (fun k => k = g) w w2 := e4.trans (Frm.of_below hB2)
     have HI2 : Hid (sink J m = sorts (i + 1) l /\ m.length = n /\ TalB w2 g m /\ Frm (fun k => k = g) w w2 /\ J = j + 1 /\ m[j]? = some ((s0, s1, s2), sc) /\ m[J]? = some ((t0, t1, t2), tc)) := ⟨e1, e2, hT2, hF2, e5, e6, e7⟩
     clear HI e1 e2 e3 e4 e5 e6 e7 hF2
     by_cases hc : sc < tc
     ·have hc3 : C3 < 0 := by rw [hC3]; exact (cmp3_neg _ _).2 hc
      rw [if_pos hc] at hsk
      have HSK : Hid (sink J m = sink j (swap m J)) := hsk
      clear hsk HCM hC3
      refine tk_at 15 33 (.bool true) #[true,true,true,true,true,true,true,true,true,true,true,true,true,true,true,true,false] rfl rfl rfl (by kernel_rfl) (by rfl) (by rintro w ⟨a0, a1, a2, a3, b0, b1, b2, b3⟩; go_simp) (by assumption) ?_
      simp only [sIb, sCs, sCz]
      refine tk_at 16 34 (.bool true) #[true,true,true,true,true,true,true,true,true,true,true,true,true,true,true,true,true] rfl rfl rfl (by kernel_rfl) (by rfl) (by rintro w ⟨a0, a1, a2, a3, b0, b1, b2, b3⟩; go_simp) (by assumption) ?_
      simp only [sIb, sCs, sCz]
      refine wpAnyH_done (by kernel_rfl) ?_ _
      dsimp only [calmPost]
      clear cc hS0 hS2 hB2 hdw
      clear k0 k1 k2 k3 l0 l1 l2 l3
      obtain ⟨k0, k1, k2, k3⟩ := hT2.at HI2.out.2.2.2.2.2.1
      obtain ⟨l0, l1, l2, l3⟩ := hT2.at HI2.out.2.2.2.2.2.2
      dsimp only at k0 k1 k2 k3 l0 l1 l2 l3
      have fz := hT2.frz
      have HT2 : Hid (TalB w2 g m) := hT2
      clear hT2
      go_wp2_with fail
      refine region_calm (S := fun _ => True) 18 #[false,false,false,false,false,false,false,false,false,false,false,false,false,false,false,false,false,false] rfl rfl hmx ?_
      have hS1 : True := trivial
      refine tk_at 0 37 (.slice (some ⟨g, 0, none⟩) n cap) #[true,false,false,false,false,false,false,false,false,false,false,false,false,false,false,false,false,false] rfl rfl rfl (by kernel_rfl) (by rfl) ?y0 (by assumption) ?r0
      case y0 =>
       intro w _
       go_simp
      case r0 =>
      simp only [sIb, sCs, sCz]
      refine tk_at 1 38 (.int .i64 J) #[true,true,false,false,false,false,false,false,false,false,false,false,false,false,false,false,false,false] rfl rfl rfl (by kernel_rfl) (by rfl) ?y1 (by assumption) ?r1
      case y1 =>
       intro w _
       go_simp
      case r1 =>
      simp only [sIb, sCs, sCz]
      refine tk_at 2 39 (.slice (some ⟨g, 0, none⟩) n cap) #[true,true,true,false,false,false,false,false,false,false,false,false,false,false,false,false,false,false] rfl rfl rfl (by kernel_rfl) (by rfl) ?y2 (by assumption) ?r2
      case y2 =>
       intro w _
       go_simp
      case r2 =>
      simp only [sIb, sCs, sCz]
      refine tk_at 3 40 (.int .i64 J) #[true,true,true,true,false,false,false,false,false,false,false,false,false,false,false,false,false,false] rfl rfl rfl (by kernel_rfl) (by rfl) ?y3 (by assumption) ?r3
      case y3 =>
       intro w _
       go_simp
      case r3 =>
      simp only [sIb, sCs, sCz]
      refine tk_at 4 41 (.int .i64 j) #[true,true,true,true,true,false,false,false,false,false,false,false,false,false,false,false,false,false] rfl rfl rfl (by kernel_rfl) (by rfl) ?y4 (by assumption) ?r4
      case y4 =>
       intro w _
       go_simp
      case r4 =>
      simp only [sIb, sCs, sCz]
      refine tk_at 5 42 (.slice (some ⟨g, 0, none⟩) n cap) #[true,true,true,true,true,true,false,false,false,false,false,false,false,false,false,false,false,false] rfl rfl rfl (by kernel_rfl) (by rfl) ?y5 (by assumption) ?r5
      case y5 =>
       intro w _
       go_simp
      case r5 =>
      simp only [sIb, sCs, sCz]
      refine tk_at 6 43 (.int .i64 J) #[true,true,true,true,true,true,true,false,false,false,false,false,false,false,false,false,false,false] rfl rfl rfl (by kernel_rfl) (by rfl) ?y6 (by assumption) ?r6
      case y6 =>
       intro w _
       go_simp
      case r6 =>
      simp only [sIb, sCs, sCz]
      refine tk_at 7 44 (.int .i64 j) #[true,true,true,true,true,true,true,true,false,false,false,false,false,false,false,false,false,false] rfl rfl rfl (by kernel_rfl) (by rfl) ?y7 (by assumption) ?r7
      case y7 =>
       intro w _
       go_simp
      case r7 =>
      simp only [sIb, sCs, sCz]
      refine tk_at 8 45 (.pointer (some ⟨g, j * 4, none⟩)) #[true,true,true,true,true,true,true,true,true,false,false,false,false,false,false,false,false,false] rfl rfl rfl (by kernel_rfl) (by rfl) ?y8 (by assumption) ?r8
      case y8 =>
       intro w _
       go_simp
      case r8 =>
      simp only [sIb, sCs, sCz]
      refine tk_at 10 47 (.slice (some ⟨g, 0, none⟩) n cap) #[true,true,true,true,true,true,true,true,true,false,true,false,false,false,false,false,false,false] rfl rfl rfl (by kernel_rfl) (by rfl) ?y10 (by assumption) ?r10
      case y10 =>
       intro w _
       go_simp
      case r10 =>
      simp only [sIb, sCs, sCz]
      refine tk_at 11 48 (.int .i64 J) #[true,true,true,true,true,true,true,true,true,false,true,true,false,false,false,false,false,false] rfl rfl rfl (by kernel_rfl) (by rfl) ?y11 (by assumption) ?r11
      case y11 =>
       intro w _
       go_simp
      case r11 =>
      simp only [sIb, sCs, sCz]
      refine tk_at 12 49 (.pointer (some ⟨g, J * 4, none⟩)) #[true,true,true,true,true,true,true,true,true,false,true,true,true,false,false,false,false,false] rfl rfl rfl (by kernel_rfl) (by rfl) ?y12 (by assumption) ?r12
      case y12 =>
       intro w _
       go_simp
      case r12 =>
      simp only [sIb, sCs, sCz]
      have k0d : w2.drew.cell? ⟨g, j * 4, none⟩ = some (.int .u8 s0) := k0
      have k1d : w2.drew.cell? ⟨g, j * 4 + 1, none⟩ = some (.int .u8 s1) := k1
      have k2d : w2.drew.cell? ⟨g, j * 4 + 2, none⟩ = some (.int .u8 s2) := k2
      have k3d : w2.drew.cell? ⟨g, j * 4 + 3, none⟩ = some (.int .i64 sc) := k3
      have l0d : w2.drew.cell? ⟨g, J * 4, none⟩ = some (.int .u8 t0) := l0
      have l1d : w2.drew.cell? ⟨g, J * 4 + 1, none⟩ = some (.int .u8 t1) := l1
      have l2d : w2.drew.cell? ⟨g, J * 4 + 2, none⟩ = some (.int .u8 t2) := l2
      have l3d : w2.drew.cell? ⟨g, J * 4 + 3, none⟩ = some (.int .i64 tc) := l3
      refine pair_at (i := 9) (j := 13) (di := 46) (dj := 50) (vi := .agg #[.int .u8 s0, .int .u8 s1, .int .u8 s2, .int .i64 sc]) (vj := .agg #[.int .u8 t0, .int .u8 t1, .int .u8 t2, .int .i64 tc]) (w' := w2.drew) #[true,true,true,true,true,true,true,true,true,true,true,true,true,false,false,false,false,false] #[true,true,true,true,true,true,true,true,true,false,true,true,true,true,false,false,false,false] #[true,true,true,true,true,true,true,true,true,true,true,true,true,true,false,false,false,false] rfl rfl rfl rfl (by kernel_rfl) (by kernel_rfl) (by kernel_rfl) rfl rfl rfl rfl rfl rfl rfl rfl (by rfl) (by rfl) (by rfl) (by rfl) ?g1 ?g2 ?g3 ?g4 trivial trivial ?_
      case g1 => go_simp
      case g2 => go_simp
      case g3 => go_simp
      case g4 => go_simp
      simp only [sIb, sCs, sCz]
      refine tk_at 14 51 (.pointer (some ⟨g, J * 4, none⟩)) #[true,true,true,true,true,true,true,true,true,true,true,true,true,true,true,false,false,false] rfl rfl rfl (by kernel_rfl) (by rfl) ?y14 (by assumption) ?r14
      case y14 =>
       intro w _
       go_simp
      case r14 =>
      simp only [sIb, sCs, sCz]
      obtain ⟨X, hX⟩ : ∃ X, X = st4 w2.drew g J ((s0, s1, s2), sc) := ⟨_, rfl⟩
      obtain ⟨Y, hY⟩ : ∃ Y, Y = st4 X g j ((t0, t1, t2), tc) := ⟨_, rfl⟩
      have fz0 := HT2.out.frz (J * 4)
      have fz1 := HT2.out.frz (J * 4 + 1)
      have fz2 := HT2.out.frz (J * 4 + 2)
      have fz3 := HT2.out.frz (J * 4 + 3)
      refine store_at (i := 15) (w' := X) #[true,true,true,true,true,true,true,true,true,true,true,true,true,true,true,true,false,false] (by kernel_rfl) rfl rfl rfl (by rfl) ?y15 trivial ?r15
      case y15 =>
       rw [hX]
       unfold st4
       clear hX hY HI2 HT2 HSK fz
       go_simp
      case r15 =>
      refine tk_at 16 52 (.pointer (some ⟨g, j * 4, none⟩)) #[true,true,true,true,true,true,true,true,true,true,true,true,true,true,true,true,true,false] rfl rfl rfl (by kernel_rfl) (by rfl) ?y16 (by assumption) ?r16
      case y16 =>
       intro w _
       go_simp
      case r16 =>
      simp only [sIb, sCs, sCz]
      have hdl : TalB w2.drew g m := HT2.out.below ⟨rfl, rfl, rfl, Nat.le_refl _, fun _ _ => rfl⟩
      have hJl : J < m.length := by have := HI2.out.2.1; omega
      have hjl : j < m.length := by have := HI2.out.2.1; omega
      have hTX : TalB X g (m.set J ((s0, s1, s2), sc)) := by rw [hX]; exact hdl.store hJl _
      have hTY : TalB Y g ((m.set J ((s0, s1, s2), sc)).set j ((t0, t1, t2), tc)) := by rw [hY]; exact hTX.store (by rw [List.length_set]; exact hjl) _
      have fX : Frm (fun k => k = g) w2.drew X := by rw [hX]; exact st4_frm _ _ _ _
      have fY : Frm (fun k => k = g) X Y := by rw [hY]; exact st4_frm _ _ _ _
      obtain ⟨k4, k5, k6, k7⟩ := hTX.at (k := j) (t := ((s0, s1, s2), sc)) (by rw [List.getElem?_set, if_neg (by have := HI2.out.2.2.2.2.1; omega)]; exact HI2.out.2.2.2.2.2.1)
      dsimp only at k4 k5 k6 k7
      have hz0 := hTX.frz (j * 4)
      have hz1 := hTX.frz (j * 4 + 1)
      have hz2 := hTX.frz (j * 4 + 2)
      have hz3 := hTX.frz (j * 4 + 3)
      have HTY : Hid (TalB Y g (swap m J) /\ (swap m J).length = n /\ Frm (fun k => k = g) w Y) := by
       have e5 := HI2.out.2.2.2.2.1
       refine ⟨?_, by rw [Pk.swap_len]; exact HI2.out.2.1, (HI2.out.2.2.2.1.trans ((Frm.refl _ w2).drew.trans fX)).trans fY⟩
       have : swap m J = (m.set J ((s0, s1, s2), sc)).set j ((t0, t1, t2), tc) := by
        unfold swap
        have h1 : J - 1 = j := by omega
        rw [h1, List.getD_eq_getElem?_getD, List.getD_eq_getElem?_getD, HI2.out.2.2.2.2.2.1, HI2.out.2.2.2.2.2.2]
        rfl
       rw [this]
       exact hTY
      refine store_at (i := 17) (w' := Y) #[true,true,true,true,true,true,true,true,true,true,true,true,true,true,true,true,true,true] (by kernel_rfl) rfl rfl rfl (by rfl) ?y17 trivial ?r17
      case y17 =>
       rw [hY]
       unfold st4
       clear hX hY HI2 HT2 HSK HTY fX fY hTX hTY hdl fz
       go_simp
      case r17 =>
      refine wpAnyH_done (by kernel_rfl) ?_ _
      dsimp only [calmPost]
      clear k0 k1 k2 k3 l0 l1 l2 l3 k0d k1d k2d k3d l0d l1d l2d l3d k4 k5 k6 k7 hz0 hz1 hz2 hz3 fz0 fz1 fz2 fz3 fz hX hY hTX hTY fX fY hdl hS1 HT2
      go_wp2_with fail
      go_roundw
      case rel => exact ⟨j, swap m J, by omega, rfl, by rw [<- HSK.out]; exact HI2.out.1, HTY.out.2.1, HTY.out.1, HTY.out.2.2⟩
      case measure => simp [intOf]; omega
     ·have hc3 : ¬ (C3 < 0) := by rw [hC3]; exact fun e => hc ((cmp3_neg _ _).1 e)
      rw [if_neg hc] at hsk
      have HSK : Hid (sink J m = m) := hsk
      clear hsk HCM hC3
      refine tk_at 15 33 (.bool false) #[true,true,true,true,true,true,true,true,true,true,true,true,true,true,true,true,false] rfl rfl rfl (by kernel_rfl) (by rfl) (by rintro w ⟨a0, a1, a2, a3, b0, b1, b2, b3⟩; go_simp) (by assumption) ?_
      simp only [sIb, sCs, sCz]
      refine tk_at 16 34 (.bool false) #[true,true,true,true,true,true,true,true,true,true,true,true,true,true,true,true,true] rfl rfl rfl (by kernel_rfl) (by rfl) (by rintro w ⟨a0, a1, a2, a3, b0, b1, b2, b3⟩; go_simp) (by assumption) ?_
      simp only [sIb, sCs, sCz]
      refine wpAnyH_done (by kernel_rfl) ?_ _
      dsimp only [calmPost]
      clear cc hS0 hS2 hB2 hdw k0 k1 k2 k3 l0 l1 l2 l3 hT2
      go_wp2_with fail
      obtain ⟨e1, e2, e3, e4, _⟩ := HI2.out
      rw [HSK.out] at e1
      rw [e1] at e2 e3
      refine ⟨⟨i + 1, by omega, by omega, by simp, e3, e2, e4⟩, ?_⟩
      simp [intOf]; omega
  ·have hlt' : ¬ ((i : Int) < (n : Int)) := by omega
   have hin : i = n := by omega
   go_wp2
   go_end0
   have e := HI.out
   rw [hin] at e
   exact ⟨rfl, e.1, e.2.2⟩
set_option maxHeartbeats 4000000 in
theorem pStable (w : World) (g n cap : Nat) (l : List Tl) (hn : l.length = n) (hn0 : 0 < n) (hn4 : n <= 4) (h : TalB w g l) :
  Calls Tryd.prog 81 #[.slice (some ⟨g, 0, none⟩) n cap, .int .i64 n, .func (.func 75) #[] #[]] w fun e w' => e = .returned (.tuple #[]) /\ TalB w' g (sorts n l) /\ Frm (fun k => k = g) w w' := by
 have HC := pInsertion w g n cap l hn hn0 hn4 h
 have h20 : ¬ ((20 : Int) <= (n : Int)) := by omega
 have h20' : ¬ ((20 : Int) < (n : Int)) := by omega
 have HN : Hid (l.length = n /\ 0 < n) := ⟨hn, hn0⟩
 clear hn h hn0
 go_enter Tryd.func81, Tryd.ntmps81
 go_wp2
 go_loopw [7, 8] (fun v7 v8 wr => v7 = .int .i64 0 /\ v8 = .int .i64 20 /\ wr = w) (fun _ _ _ => 0)
 case atStart => exact ⟨rfl, rfl, rfl⟩
 case round =>
  obtain ⟨rfl, rfl, rfl⟩ := hrel
  go_wp2_with (go_at_call 84; refine HC.mono ?_; rintro e w2 ⟨rfl, h2⟩)
  have H2 : Hid (TalB w2 g (sorts n l) /\ Frm (fun k => k = g) wr w2) := h2
  clear h2 HC
  go_loopw [6] (fun v6 wq => v6 = .int .i64 20 /\ wq = w2) (fun _ _ => 0)
  case atStart => exact ⟨rfl, rfl⟩
  case round =>
   obtain ⟨rfl, rfl⟩ := hrel
   go_wp2
   go_end0
   exact ⟨rfl, H2.out⟩
set_option maxHeartbeats 1000000 in
theorem pSortStable (w : World) (g n cap : Nat) (l : List Tl) (hn : l.length = n) (hn0 : 0 < n) (hn4 : n <= 4) (h : TalB w g l) :
  Calls Tryd.prog 74 #[.slice (some ⟨g, 0, none⟩) n cap, .func (.func 75) #[] #[]] w fun e w' => e = .returned (.tuple #[]) /\ TalB w' g (sorts n l) /\ Frm (fun k => k = g) w w' := by
 have HC := pStable w g n cap l hn hn0 hn4 h
 clear hn h hn0
 go_enter Tryd.func74, Tryd.ntmps74
 go_wp2_with (go_at_call 81; refine HC.mono ?_; rintro e w2 ⟨rfl, h2⟩)
 go_end0
 exact ⟨rfl, h2⟩
end Go.Proofs.YtekfbphnoibnjaaDoor
