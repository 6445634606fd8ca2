/-
  The program's writer: which pixels are ahead of which. The program's writer: is an area ahead of another? Places of a content, as the plain functions tell them.
-/
import Derived.Test.YtekfbphnoibnjaaDoorF01
import Derived.Test.YtekfbphnoibnjaaDoorF03
import Derived.Test.YtekfbphnoibnjaaDoorF11
import Derived.BigRegion
import Derived.Test.YtekfbphnoibnjaaDoorF07
import Derived.Test.YtekfbphnoibnjaaDoorF22
import Derived.Test.YtekfbphnoibnjaaDoorF12
namespace Go.Proofs.YtekfbphnoibnjaaDoor
open Go.RowKit
def half : Nat -> Nat
 | 0 => 8
 | 1 => 4
 | 2 => 2
 | 3 => 1
 | _ => 0
def rankTo (x y : Nat) : Nat -> Nat
 | 0 => 0
 | j + 1 => 4 * rankTo x y j + 2 * (y / half j % 2) + x / half j % 2
theorem rankTo_all (x y : Nat) : rankTo x y 4 = Pk.rank x y := by
 simp only [rankTo, half, Pk.rank, Pk.sp, Nat.div_one]
 omega
theorem rankTo_le (x y : Nat) : ∀ j, j <= 4 -> rankTo x y j <= 256
 | 0, _ => Nat.zero_le _
 | 1, _ => by simp only [rankTo]; omega
 | 2, _ => by simp only [rankTo]; omega
 | 3, _ => by simp only [rankTo]; omega
 | 4, _ => by simp only [rankTo]; omega
theorem rank_wraps (R A B a b : Nat) (hR : R <= 256) (hA : A <= 100) (hB : B <= 100) (ha : a <= 1) (hb : b <= 1) :
  IntKind.i64.wrap (4 * (R : Int)) = 4 * R /\ IntKind.i64.wrap (A : Int) = A /\ IntKind.i64.wrap (B : Int) = B /\ IntKind.i64.wrap (2 * (a : Int)) = 2 * a /\ IntKind.i64.wrap (4 * (R : Int) + 2 * a) = 4 * R + 2 * a /\ IntKind.i64.wrap (4 * (R : Int) + 2 * a + b) = 4 * R + 2 * a + b /\ IntKind.i64.wrap (a : Int) = a /\ IntKind.i64.wrap (b : Int) = b := by
 refine ⟨?_, ?_, ?_, ?_, ?_, ?_, ?_, ?_⟩
 all_goals (rw [IntKind.wrap_i64]; omega)
theorem wrap_small (D : Nat) (h : D <= 8) : wrap64 (D : Int) = D := by unfold wrap64; omega
set_option maxHeartbeats 4000000 in
set_option maxRecDepth 20000 in
theorem pRank (w : World) (x y : Nat) (hx : x < 100) (hy : y < 100) :
  Calls Tryd.prog 78 #[.int .i64 x, .int .i64 y] w fun e w' => e = .returned (.int .i64 (Pk.rank x y)) /\ Below w.heap.size w w' := by
 have hmx : Tryd.prog.follows .mixedOrders = true := by kernel_rfl
 go_enter Tryd.func78, Tryd.ntmps78
 go_wp2
 go_loopw [5, 6] (fun nv hv wr => ∃ j : Nat, j <= 4 /\ nv = .int .i64 (rankTo x y j) /\ hv = .int .i64 (half j) /\ Below w.heap.size w wr) (fun _ hv _ => (intOf hv).toNat)
 case atStart => exact ⟨0, by decide, rfl, rfl, Below.refl _ _⟩
 case round =>
  obtain ⟨j, hj, rfl, rfl, hb⟩ := hrel
  have hr := rankTo_le x y j hj
  obtain ⟨R, hR⟩ : ∃ R, R = rankTo x y j := ⟨_, rfl⟩
  obtain ⟨h, hh⟩ : ∃ h, h = half j := ⟨_, rfl⟩
  rw [<- hR] at hr
  rw [<- hR, <- hh]
  by_cases h4 : j < 4
  ·have hp : 0 < h := by rw [hh]; rcases (by omega : j = 0 \/ j = 1 \/ j = 2 \/ j = 3) with rfl | rfl | rfl | rfl <;> decide
   have h8 : h <= 8 := by rw [hh]; rcases (by omega : j = 0 \/ j = 1 \/ j = 2 \/ j = 3) with rfl | rfl | rfl | rfl <;> decide
   have HN : Hid (h / 2 = half (j + 1)) := by unfold Hid; rw [hh]; rcases (by omega : j = 0 \/ j = 1 \/ j = 2 \/ j = 3) with rfl | rfl | rfl | rfl <;> decide
   have hp' : (0 : Int) < (h : Int) := by omega
   have hp0 : ¬ ((h : Int) = 0) := by omega
   have hpn : ¬ (h = 0) := by omega
   obtain ⟨A, hA⟩ : ∃ A, A = y / h := ⟨_, rfl⟩
   obtain ⟨B, hB⟩ : ∃ B, B = x / h := ⟨_, rfl⟩
   have hAy : A <= y := by rw [hA]; exact Nat.div_le_self _ _
   have hBx : B <= x := by rw [hB]; exact Nat.div_le_self _ _
   have e1 : Int.tdiv (y : Int) (h : Int) = (A : Int) := by rw [Int.tdiv_eq_ediv_of_nonneg (Int.natCast_nonneg y), hA]; exact (Int.natCast_ediv y h).symm
   have e2 : Int.tdiv (x : Int) (h : Int) = (B : Int) := by rw [Int.tdiv_eq_ediv_of_nonneg (Int.natCast_nonneg x), hB]; exact (Int.natCast_ediv x h).symm
   obtain ⟨a, ha⟩ : ∃ a, a = A % 2 := ⟨_, rfl⟩
   obtain ⟨b, hbb⟩ : ∃ b, b = B % 2 := ⟨_, rfl⟩
   have e3 : Int.tmod (A : Int) 2 = (a : Int) := by rw [Int.tmod_eq_emod_of_nonneg (Int.natCast_nonneg A), ha]; exact (Int.natCast_emod A 2).symm
   have e4 : Int.tmod (B : Int) 2 = (b : Int) := by rw [Int.tmod_eq_emod_of_nonneg (Int.natCast_nonneg B), hbb]; exact (Int.natCast_emod B 2).symm
   obtain ⟨D, hD⟩ : ∃ D, D = h / 2 := ⟨_, rfl⟩
   have e5 : Int.tdiv (h : Int) 2 = (D : Int) := by rw [Int.tdiv_eq_ediv_of_nonneg (Int.natCast_nonneg h), hD]; exact (Int.natCast_ediv h 2).symm
   have hDh : D < h := by rw [hD]; exact Nat.div_lt_self hp (by decide)
   have w9 : wrap64 (D : Int) = D := wrap_small D (Nat.le_trans (Nat.le_of_lt hDh) h8)
   have HD : Hid (D = half (j + 1)) := by unfold Hid; rw [hD]; exact HN.out
   obtain ⟨w1, w2, w3, w4, w5, w6, w7, w8⟩ := rank_wraps R A B a b hr (Nat.le_trans hAy (Nat.le_of_lt hy)) (Nat.le_trans hBx (Nat.le_of_lt hx)) (by rw [ha]; exact Nat.le_of_lt_succ (Nat.mod_lt _ (by decide))) (by rw [hbb]; exact Nat.le_of_lt_succ (Nat.mod_lt _ (by decide)))
   have HV : Hid (4 * R + 2 * a + b = rankTo x y (j + 1)) := by
    unfold Hid; rw [ha, hbb, hA, hB, hR, hh, rankTo]
   clear hA hB ha hbb hR hh hD
   go_wp2_with fail
   refine region_calm (S := fun _ => True) 14 #[false,false,false,false,false,false,false,false,false,false,false,false,false,false] rfl rfl hmx ?_
   have hS0 : True := trivial
   refine tk_at 0 11 (.int .i64 R) #[true,false,false,false,false,false,false,false,false,false,false,false,false,false] rfl rfl rfl (by kernel_rfl) (by rfl) (by rintro w _; go_simp) (by assumption) ?_
   simp only [sIb, sCs, sCz]
   refine tk_at 1 12 (.int .i64 (4 * R)) #[true,true,false,false,false,false,false,false,false,false,false,false,false,false] rfl rfl rfl (by kernel_rfl) (by rfl) (by rintro w _; go_simp) (by assumption) ?_
   simp only [sIb, sCs, sCz]
   refine tk_at 2 13 (.int .i64 y) #[true,true,true,false,false,false,false,false,false,false,false,false,false,false] rfl rfl rfl (by kernel_rfl) (by rfl) (by rintro w _; go_simp) (by assumption) ?_
   simp only [sIb, sCs, sCz]
   refine tk_at 3 14 (.int .i64 h) #[true,true,true,true,false,false,false,false,false,false,false,false,false,false] rfl rfl rfl (by kernel_rfl) (by rfl) (by rintro w _; go_simp) (by assumption) ?_
   simp only [sIb, sCs, sCz]
   refine tk_at 4 15 (.int .i64 A) #[true,true,true,true,true,false,false,false,false,false,false,false,false,false] rfl rfl rfl (by kernel_rfl) (by rfl) (by rintro w _; go_simp) (by assumption) ?_
   simp only [sIb, sCs, sCz]
   refine tk_at 5 16 (.int .i64 a) #[true,true,true,true,true,true,false,false,false,false,false,false,false,false] rfl rfl rfl (by kernel_rfl) (by rfl) (by rintro w _; go_simp) (by assumption) ?_
   simp only [sIb, sCs, sCz]
   refine tk_at 6 17 (.int .i64 (2 * a)) #[true,true,true,true,true,true,true,false,false,false,false,false,false,false] rfl rfl rfl (by kernel_rfl) (by rfl) (by rintro w _; go_simp) (by assumption) ?_
   simp only [sIb, sCs, sCz]
   refine tk_at 7 18 (.int .i64 (4 * R + 2 * a)) #[true,true,true,true,true,true,true,true,false,false,false,false,false,false] rfl rfl rfl (by kernel_rfl) (by rfl) (by rintro w _; go_simp) (by assumption) ?_
   simp only [sIb, sCs, sCz]
   refine tk_at 8 19 (.int .i64 x) #[true,true,true,true,true,true,true,true,true,false,false,false,false,false] rfl rfl rfl (by kernel_rfl) (by rfl) (by rintro w _; go_simp) (by assumption) ?_
   simp only [sIb, sCs, sCz]
   refine tk_at 9 20 (.int .i64 h) #[true,true,true,true,true,true,true,true,true,true,false,false,false,false] rfl rfl rfl (by kernel_rfl) (by rfl) (by rintro w _; go_simp) (by assumption) ?_
   simp only [sIb, sCs, sCz]
   refine tk_at 10 21 (.int .i64 B) #[true,true,true,true,true,true,true,true,true,true,true,false,false,false] rfl rfl rfl (by kernel_rfl) (by rfl) (by rintro w _; go_simp) (by assumption) ?_
   simp only [sIb, sCs, sCz]
   refine tk_at 11 22 (.int .i64 b) #[true,true,true,true,true,true,true,true,true,true,true,true,false,false] rfl rfl rfl (by kernel_rfl) (by rfl) (by rintro w _; go_simp) (by assumption) ?_
   simp only [sIb, sCs, sCz]
   refine tk_at 12 23 (.int .i64 (4 * R + 2 * a + b)) #[true,true,true,true,true,true,true,true,true,true,true,true,true,false] rfl rfl rfl (by kernel_rfl) (by rfl) (by rintro w _; go_simp) (by assumption) ?_
   simp only [sIb, sCs, sCz]
   refine tk_at 13 5 (.int .i64 (4 * R + 2 * a + b)) #[true,true,true,true,true,true,true,true,true,true,true,true,true,true] rfl rfl rfl (by kernel_rfl) (by rfl) (by rintro w _; go_simp) (by assumption) ?_
   simp only [sIb, sCs, sCz]
   refine wpAnyH_done (by kernel_rfl) ?_ _
   dsimp only [calmPost]
   have HB2 : Hid (Below w.heap.size w wr) := hb
   have HC : Hid (((4 * R + 2 * a + b : Nat) : Int) = 4 * (R : Int) + 2 * a + b) := by unfold Hid; simp
   clear hb e1 e2 e3 e4 w1 w2 w3 w4 w5 w6 w7 w8 hAy hBx hp0 hpn hS0 hr hx hy
   go_wp2_with fail
   exact ⟨⟨j + 1, h4, by rw [<- HV.out, HC.out], by rw [<- HD.out], below_drew HB2.out⟩, by simp [intOf]; exact hDh⟩
  ·obtain rfl : j = 4 := by omega
   obtain rfl : h = 0 := hh
   rw [rankTo_all] at hR
   go_wp2
   go_ret
   exact ⟨by rw [<- hR]; rfl, hb⟩
end Go.Proofs.YtekfbphnoibnjaaDoor
namespace Go.Proofs.YtekfbphnoibnjaaDoor
open Go.RowKit
set_option maxHeartbeats 4000000 in
set_option maxRecDepth 20000 in
theorem pIsAhead (w : World) (u v n x y m : Nat) (hu : u + n <= 16) (hv : v + n <= 16) (hn : 0 < n) (hx : x < 16) (hy : y < 16) :
  Calls Tryd.prog 66 #[.agg #[.int .i64 u, .int .i64 v, .int .i64 n], .agg #[.int .i64 x, .int .i64 y, .int .i64 m]] w fun e w' => e = .returned (.bool (decide (Pk.rank (u + (n - 1)) (v + (n - 1)) < Pk.rank x y))) /\ Below w.heap.size w w' := by
 have hmx : Tryd.prog.follows .mixedOrders = true := by kernel_rfl
 obtain ⟨N, hN⟩ : ∃ N, N = n - 1 := ⟨_, rfl⟩
 obtain ⟨U, hU⟩ : ∃ U, U = u + N := ⟨_, rfl⟩
 obtain ⟨V, hV⟩ : ∃ V, V = v + N := ⟨_, rfl⟩
 have hUb : U < 100 := by omega
 have hVb : V < 100 := by omega
 have wN : wrap64 ((n : Int) - 1) = (n : Int) - 1 := by unfold wrap64; omega
 have wU : IntKind.i64.wrap ((u : Int) + ((n : Int) - 1)) = (U : Int) := by rw [IntKind.wrap_i64]; omega
 have wV : IntKind.i64.wrap ((v : Int) + ((n : Int) - 1)) = (V : Int) := by rw [IntKind.wrap_i64]; omega
 rw [<- hN, <- hU, <- hV]
 obtain ⟨H, hH⟩ : ∃ H, H = w.heap.size := ⟨_, rfl⟩
 obtain ⟨W, hW⟩ : ∃ W, W = (w.alloc (.cells #[.int .i64 u, .int .i64 v, .int .i64 n] 88)).alloc (.cells #[.int .i64 x, .int .i64 y, .int .i64 m] 88) := ⟨_, rfl⟩
 have hB : Below w.heap.size w W := by rw [hW]; exact ((Below.refl _ w).alloc (Nat.le_refl _) _).alloc (by simp) _
 have hx0 : W.heap[H]? = some (.cells #[.int .i64 u, .int .i64 v, .int .i64 n] 88) := by
  rw [hW, hH]; exact (Below.heap_alloc _ _ _ (by simp only [World.size_alloc]; omega)).trans (heap_alloc_last w _)
 have hx1 : W.heap[H + 1]? = some (.cells #[.int .i64 x, .int .i64 y, .int .i64 m] 88) := by
  have := heap_alloc_last (w.alloc (.cells #[.int .i64 u, .int .i64 v, .int .i64 n] 88)) (.cells #[.int .i64 x, .int .i64 y, .int .i64 m] 88)
  rw [World.size_alloc] at this
  rw [hW, hH]; exact this
 have c0 := cell_of_row _ _ 0 _ _ _ hx0
 have c1 := cell_of_row _ _ 1 _ _ _ hx0
 have c2 := cell_of_row _ _ 2 _ _ _ hx0
 have d0 := cell_of_row _ _ 0 _ _ _ hx1
 have d1 := cell_of_row _ _ 1 _ _ _ hx1
 simp at c0 c1 c2 d0 d1
 have HW : Hid (W = (w.alloc (.cells #[.int .i64 u, .int .i64 v, .int .i64 n] 88)).alloc (.cells #[.int .i64 x, .int .i64 y, .int .i64 m] 88) /\ H = w.heap.size /\ Below w.heap.size w W) := ⟨hW, hH, hB⟩
 clear hW hH hB hx0 hx1 hN hU hV
 go_enter Tryd.func66, Tryd.ntmps66
 go_wp2_with (rw [<- HW.out.1, <- HW.out.2.1])
 clear wN c2
 refine region_calm (S := fun w' => w'.cell? ⟨H, 0, none⟩ = some (.int .i64 u) /\ w'.cell? ⟨H, 1, none⟩ = some (.int .i64 v) /\ w'.cell? ⟨H + 1, 0, none⟩ = some (.int .i64 x) /\ w'.cell? ⟨H + 1, 1, none⟩ = some (.int .i64 y)) 16 #[false,false,false,false,false,false,false,false,false,false,false,false,false,false,false,false] rfl rfl hmx ?_
 have hS0 : (W.drew.cell? ⟨H, 0, none⟩ = some (.int .i64 u) /\ W.drew.cell? ⟨H, 1, none⟩ = some (.int .i64 v) /\ W.drew.cell? ⟨H + 1, 0, none⟩ = some (.int .i64 x) /\ W.drew.cell? ⟨H + 1, 1, none⟩ = some (.int .i64 y)) := ⟨c0, c1, d0, d1⟩
 refine tk_at 0 9 (.pointer (some ⟨H, 0, none⟩)) #[true,false,false,false,false,false,false,false,false,false,false,false,false,false,false,false] rfl rfl rfl (by kernel_rfl) (by rfl) (by rintro w ⟨t0, t1, t2, t3⟩; go_simp) (by assumption) ?_
 simp only [sIb, sCs, sCz]
 refine tk_at 1 10 (.int .i64 u) #[true,true,false,false,false,false,false,false,false,false,false,false,false,false,false,false] rfl rfl rfl (by kernel_rfl) (by rfl) (by rintro w ⟨t0, t1, t2, t3⟩; go_simp) (by assumption) ?_
 simp only [sIb, sCs, sCz]
 refine tk_at 2 11 (.int .i64 ((n : Int) - 1)) #[true,true,true,false,false,false,false,false,false,false,false,false,false,false,false,false] rfl rfl rfl (by kernel_rfl) (by rfl) (by rintro w ⟨t0, t1, t2, t3⟩; go_simp) (by assumption) ?_
 simp only [sIb, sCs, sCz]
 refine tk_at 3 12 (.int .i64 U) #[true,true,true,true,false,false,false,false,false,false,false,false,false,false,false,false] rfl rfl rfl (by kernel_rfl) (by rfl) (by rintro w ⟨t0, t1, t2, t3⟩; go_simp) (by assumption) ?_
 simp only [sIb, sCs, sCz]
 refine tk_at 4 13 (.pointer (some ⟨H, 1, none⟩)) #[true,true,true,true,true,false,false,false,false,false,false,false,false,false,false,false] rfl rfl rfl (by kernel_rfl) (by rfl) (by rintro w ⟨t0, t1, t2, t3⟩; go_simp) (by assumption) ?_
 simp only [sIb, sCs, sCz]
 refine tk_at 5 14 (.int .i64 v) #[true,true,true,true,true,true,false,false,false,false,false,false,false,false,false,false] rfl rfl rfl (by kernel_rfl) (by rfl) (by rintro w ⟨t0, t1, t2, t3⟩; go_simp) (by assumption) ?_
 simp only [sIb, sCs, sCz]
 refine tk_at 6 15 (.int .i64 ((n : Int) - 1)) #[true,true,true,true,true,true,true,false,false,false,false,false,false,false,false,false] rfl rfl rfl (by kernel_rfl) (by rfl) (by rintro w ⟨t0, t1, t2, t3⟩; go_simp) (by assumption) ?_
 simp only [sIb, sCs, sCz]
 refine tk_at 7 16 (.int .i64 V) #[true,true,true,true,true,true,true,true,false,false,false,false,false,false,false,false] rfl rfl rfl (by kernel_rfl) (by rfl) (by rintro w ⟨t0, t1, t2, t3⟩; go_simp) (by assumption) ?_
 simp only [sIb, sCs, sCz]
 refine tk_at 9 18 (.pointer (some ⟨H + 1, 0, none⟩)) #[true,true,true,true,true,true,true,true,false,true,false,false,false,false,false,false] rfl rfl rfl (by kernel_rfl) (by rfl) (by rintro w ⟨t0, t1, t2, t3⟩; go_simp) (by assumption) ?_
 simp only [sIb, sCs, sCz]
 refine tk_at 10 19 (.int .i64 x) #[true,true,true,true,true,true,true,true,false,true,true,false,false,false,false,false] rfl rfl rfl (by kernel_rfl) (by rfl) (by rintro w ⟨t0, t1, t2, t3⟩; go_simp) (by assumption) ?_
 simp only [sIb, sCs, sCz]
 refine tk_at 11 20 (.pointer (some ⟨H + 1, 1, none⟩)) #[true,true,true,true,true,true,true,true,false,true,true,true,false,false,false,false] rfl rfl rfl (by kernel_rfl) (by rfl) (by rintro w ⟨t0, t1, t2, t3⟩; go_simp) (by assumption) ?_
 simp only [sIb, sCs, sCz]
 refine tk_at 12 21 (.int .i64 y) #[true,true,true,true,true,true,true,true,false,true,true,true,true,false,false,false] rfl rfl rfl (by kernel_rfl) (by rfl) (by rintro w ⟨t0, t1, t2, t3⟩; go_simp) (by assumption) ?_
 simp only [sIb, sCs, sCz]
 have cc : ∀ Y, Below W.heap.size W Y -> (Y.cell? ⟨H, 0, none⟩ = some (.int .i64 u) /\ Y.cell? ⟨H, 1, none⟩ = some (.int .i64 v) /\ Y.cell? ⟨H + 1, 0, none⟩ = some (.int .i64 x) /\ Y.cell? ⟨H + 1, 1, none⟩ = some (.int .i64 y)) := fun Y hb => ⟨(hb.cell (World.block_lt_of_cell? W _ c0)).trans c0, (hb.cell (World.block_lt_of_cell? W _ c1)).trans c1, (hb.cell (World.block_lt_of_cell? W _ d0)).trans d0, (hb.cell (World.block_lt_of_cell? W _ d1)).trans d1⟩
 have hBd : Below W.heap.size W W.drew := ⟨rfl, rfl, rfl, Nat.le_refl _, fun _ _ => rfl⟩
 refine enter_at (i := 8) (d := 17) (f := 78) (args := #[.int .i64 U, .int .i64 V]) #[true,true,true,true,true,true,true,true,true,true,true,true,true,false,false,false] (by kernel_rfl) rfl rfl rfl (by rfl) (by go_simp) (fun r w' => r = .int .i64 (Pk.rank U V) /\ Below W.heap.size W w') ((pRank W.drew U V hUb hVb).mono (fun r w' he => ⟨_, he.1, rfl, hBd.trans he.2⟩)) ?_
 rintro va wa ⟨rfl, ba⟩
 refine ⟨cc wa ba, ?_⟩
 simp only [sIb, sCs, sCz]
 refine enter_at (i := 13) (d := 22) (f := 78) (args := #[.int .i64 x, .int .i64 y]) #[true,true,true,true,true,true,true,true,true,true,true,true,true,true,false,false] (by kernel_rfl) rfl rfl rfl (by rfl) (by go_simp) (fun r w' => r = .int .i64 (Pk.rank x y) /\ Below W.heap.size W w') ((pRank wa x y (by omega) (by omega)).mono (fun r w' he => ⟨_, he.1, rfl, ba.trans (he.2.mono ba.size)⟩)) ?_
 rintro vb wb ⟨rfl, bb⟩
 refine ⟨cc wb bb, ?_⟩
 have hSB := cc wb bb
 simp only [sIb, sCs, sCz]
 refine tk_at 14 23 (.bool (decide (Pk.rank U V < Pk.rank x y))) #[true,true,true,true,true,true,true,true,true,true,true,true,true,true,true,false] rfl rfl rfl (by kernel_rfl) (by rfl) (by rintro w ⟨t0, t1, t2, t3⟩; go_simp) (by assumption) ?_
 simp only [sIb, sCs, sCz]
 refine tk_at 15 4 (.bool (decide (Pk.rank U V < Pk.rank x y))) #[true,true,true,true,true,true,true,true,true,true,true,true,true,true,true,true] rfl rfl rfl (by kernel_rfl) (by rfl) (by rintro w ⟨t0, t1, t2, t3⟩; go_simp) (by assumption) ?_
 simp only [sIb, sCs, sCz]
 refine wpAnyH_done (by kernel_rfl) ?_ _
 dsimp only [calmPost]
 have HB : Hid (Below W.heap.size W wb) := bb
 clear ba bb cc hSB hS0 c0 c1 d0 d1 hBd
 go_wp2_with fail
 go_ret
 exact ⟨rfl, HW.out.2.2.trans (HB.out.mono HW.out.2.2.size)⟩
set_option maxHeartbeats 1000000 in
set_option maxRecDepth 20000 in
theorem pMayCopy (w : World) (g u v n x y : Nat) (hg : w.heap[g]? = some (.cells #[.int .i64 x, .int .i64 y, .int .i64 n] 88)) (hu : u + n <= 16) (hv : v + n <= 16) (hn : 0 < n) (hx : x < 16) (hy : y < 16) :
  Calls Tryd.prog 65 #[.agg #[.int .i64 u, .int .i64 v, .int .i64 n], .pointer (some ⟨g, 0, none⟩)] w fun e w' => e = .returned (.bool (decide (Pk.rank (u + (n - 1)) (v + (n - 1)) < Pk.rank x y))) /\ Below w.heap.size w w' := by
 obtain ⟨W, hW⟩ : ∃ W, W = w.alloc (.cells #[.int .i64 u, .int .i64 v, .int .i64 n] 88) := ⟨_, rfl⟩
 have hB : Below w.heap.size w W := by rw [hW]; exact (Below.refl _ w).alloc (Nat.le_refl _) _
 have hg2 : W.heap[g]? = some (.cells #[.int .i64 x, .int .i64 y, .int .i64 n] 88) := (hB.block g (heap_lt0 hg)).trans hg
 have hh : W.heap[w.heap.size]? = some (.cells #[.int .i64 u, .int .i64 v, .int .i64 n] 88) := by rw [hW]; exact heap_alloc_last w _
 have c0 := cell_of_row _ _ 0 _ _ _ hg2
 have c1 := cell_of_row _ _ 1 _ _ _ hg2
 have c2 := cell_of_row _ _ 2 _ _ _ hg2
 have d0 := cell_of_row _ _ 0 _ _ _ hh
 have d1 := cell_of_row _ _ 1 _ _ _ hh
 have d2 := cell_of_row _ _ 2 _ _ _ hh
 simp at c0 c1 c2 d0 d1 d2
 have HW : Hid (W = w.alloc (.cells #[.int .i64 u, .int .i64 v, .int .i64 n] 88) /\ Below w.heap.size w W) := ⟨hW, hB⟩
 have HC := pIsAhead W u v n x y n hu hv hn hx hy
 clear hW hB hg hg2 hh
 go_enter Tryd.func65, Tryd.ntmps65
 go_wp2_with (first
  | (rw [<- HW.out.1])
  | (go_at_call 66; refine HC.mono ?_; rintro e w2 ⟨rfl, b2⟩))
 go_ret
 exact ⟨rfl, HW.out.2.trans (b2.mono HW.out.2.size)⟩
set_option maxHeartbeats 1000000 in
set_option maxRecDepth 20000 in
theorem pMayStill (w : World) (u v n : Nat) :
  Calls Tryd.prog 68 #[.agg #[.int .i64 u, .int .i64 v, .int .i64 n]] w fun e w' => e = .returned (.bool true) /\ Below w.heap.size w w' := by
 go_enter Tryd.func68, Tryd.ntmps68
 go_wp2
 go_ret
 exact ⟨rfl, (Below.refl _ w).alloc (Nat.le_refl _) _⟩
end Go.Proofs.YtekfbphnoibnjaaDoor
namespace Go.Proofs.YtekfbphnoibnjaaDoor
open Go.RowKit Go.Shelf
open Flm (Px FS okPx)
theorem pow_inj3 {i j : Nat} (hi : i < 3) (hj : j < 3) (h : 4 * 2 ^ i = 4 * 2 ^ j) : i = j := by
 rcases (by omega : i = 0 \/ i = 1 \/ i = 2) with rfl | rfl | rfl <;> rcases (by omega : j = 0 \/ j = 1 \/ j = 2) with rfl | rfl | rfl <;> first | rfl | (exact absurd h (by decide))
theorem sel_corners {z : Nat} {T : List Px} {n m : Nat} {ps : List Px} : sel (kap z T) (corners z m) (n, ps) = if m = n then (Pk.placesL z T n ps).map fun q => (q, n) else [] := by
 unfold sel corners Pk.placesL
 rw [List.filter_map]
 split
 ·rename_i e
  subst e
  congr 1
  apply List.filter_congr
  intro q _
  simp [kap]
 ·rename_i e
  rw [List.map_eq_nil_iff, List.filter_eq_nil_iff]
  intro q _
  simp [kap, e]
theorem sel_areas {z : Nat} {T : List Px} {i : Nat} {ps : List Px} (hi : i < 3) : ∀ j, j <= 3 -> sel (kap z T) (areasL z j) (4 * 2 ^ i, ps) = if i < j then (Pk.placesL z T (4 * 2 ^ i) ps).map fun q => (q, 4 * 2 ^ i) else []
 | 0, _ => by simp [areasL, sel]
 | j + 1, hj => by
  have ih := sel_areas (z := z) (T := T) (ps := ps) hi j (by omega)
  have e : sel (kap z T) (areasL z (j + 1)) (4 * 2 ^ i, ps) = sel (kap z T) (areasL z j) (4 * 2 ^ i, ps) ++ sel (kap z T) (corners z (4 * 2 ^ j)) (4 * 2 ^ i, ps) := by
   show (areasL z j ++ corners z (4 * 2 ^ j)).filter _ = _
   rw [List.filter_append]
   rfl
  rw [e, ih, sel_corners]
  by_cases h1 : i = j
  ·subst h1
   rw [if_neg (by omega), if_pos rfl, if_pos (by omega), List.nil_append]
  ·rw [if_neg (fun e => h1 (pow_inj3 (by omega) hi e).symm), List.append_nil]
   by_cases h2 : i < j
   ·rw [if_pos h2, if_pos (by omega)]
   ·rw [if_neg h2, if_neg (by omega)]
theorem side_pow {z n : Nat} (hz : z = 4 \/ z = 8 \/ z = 16) (hn : n = 4 \/ n = 8 \/ n = 16) (h : n <= z) : ∃ i, i < cnt z /\ i < 3 /\ n = 4 * 2 ^ i := by
 rcases hz with rfl | rfl | rfl <;> rcases hn with rfl | rfl | rfl <;> first | omega | exact ⟨0, by decide, by decide, rfl⟩ | exact ⟨1, by decide, by decide, rfl⟩ | exact ⟨2, by decide, by decide, rfl⟩
theorem sel_all {z : Nat} {T : List Px} {n : Nat} {ps : List Px} (hz : z = 4 \/ z = 8 \/ z = 16) (hn : n = 4 \/ n = 8 \/ n = 16) (h : n <= z) : sel (kap z T) (areasL z (cnt z)) (n, ps) = (Pk.placesL z T n ps).map fun q => (q, n) := by
 obtain ⟨i, h1, h2, rfl⟩ := side_pow hz hn h
 rw [sel_areas h2 (cnt z) (by unfold cnt; split; decide; split <;> decide), if_pos h1]
def Plc (w : World) (base top : Nat) (m : Value) (z : Nat) : Option (List Px) -> Prop
 | none => m = .map none
 | some T => ∃ b es clock, m = .map (some b) /\ base <= b /\ b < top /\ MapAt w base b (kap z T) (areasL z (cnt z)) es clock /\ ∀ e ∈ es.toList, ∀ g, e.val.ownBlock = some g -> g < top
def placesO (z : Nat) (T : Option (List Px)) (n : Nat) (ps : List Px) : List (Nat × Nat) := match T with
 | none => []
 | some T => Pk.placesL z T n ps
theorem Plc.frm {w w' : World} {base top : Nat} {m : Value} {z : Nat} {T : Option (List Px)} (h : Plc w base top m z T) {S : Nat -> Prop} (f : Frm S w w') (hS : ∀ k, base <= k -> k < top -> ¬ S k) : Plc w' base top m z T := by
 cases T with
 | none => exact h
 | some T =>
  obtain ⟨b, es, clock, h1, h2, h3, h4, h5⟩ := h
  refine ⟨b, es, clock, h1, h2, h3, h4.frm f (hS b h2 h3) (fun e he g hg => hS g ?_ (h5 e he g hg)), h5⟩
  obtain ⟨k, _, _, rk, _⟩ := h4.ent e he
  exact (rk.lt g hg).1
theorem Plc.below {w w' : World} {base top : Nat} {m : Value} {z : Nat} {T : Option (List Px)} (h : Plc w base top m z T) (f : Below w.heap.size w w') : Plc w' base top m z T := h.frm (Frm.of_below (S := fun _ => False) f) (fun _ _ _ e => e)
theorem Plc.look {w : World} {base top : Nat} {m : Value} {z : Nat} {T : Option (List Px)} (h : Plc w base top m z T) (hz : z = 4 \/ z = 8 \/ z = 16) {n : Nat} {ps : List Px} (hn : n = 4 \/ n = 8 \/ n = 16) (hnz : n <= z) (hk : GoodK (n, ps)) :
  ∃ v, (Instr.lookup 79 m (.agg (contL n ps).toArray) false).run Tryd.prog w = .ok v w /\ w.ownsRow base 88 3 v (placesO z T n ps).length (arsCells ((placesO z T n ps).map fun q => (q, n))) := by
 cases T with
 | none =>
  have e : m = .map none := h
  subst e
  have h1 := look_none w hk
  unfold kval at h1
  exact ⟨.slice none 0 0, h1, World.ownsRow_nil _ _ _ _⟩
 | some T =>
  obtain ⟨b, es, clock, rfl, _, _, h4, _⟩ := h
  obtain ⟨v, h1, h2⟩ := h4.look hk
  rw [sel_all hz hn hnz, List.length_map] at h2
  unfold kval at h1
  exact ⟨v, h1, h2⟩
theorem LookPost.plc {w w' : World} {z : Nat} {T : List Px} {e : Ending} (h : LookPost w z T e w') : ∃ m, e = .returned m /\ Plc w' w.heap.size w'.heap.size m z (some T) /\ Below w.heap.size w w' := by
 obtain ⟨b, es, clock, rfl, h1, h2, h3⟩ := h
 refine ⟨_, rfl, ⟨b, es, clock, rfl, h1, heap_lt0 h2.heap, h2, fun e he g hg => ?_⟩, h3⟩
 obtain ⟨k, _, _, rk, _⟩ := h2.ent e he
 exact (rk.lt g hg).2
theorem placesO_mem {z : Nat} {T : Option (List Px)} {n : Nat} {ps : List Px} {q : Nat × Nat} (hn : n <= z) (h : q ∈ placesO z T n ps) : q.1 + n <= z /\ q.2 + n <= z := by
 cases T with
 | none => exact absurd h (List.not_mem_nil)
 | some T =>
  have h : q ∈ Pk.placesL z T n ps := h
  unfold Pk.placesL at h
  obtain ⟨⟨a, b⟩, c, d⟩ := Pk.spots_mem.1 (List.mem_filter.1 h).1
  omega
def nstX (x : Nat) : Option (Nat × Nat) -> Int
 | none => 0
 | some q => (q.1 : Int) - x
def nstY (y : Nat) : Option (Nat × Nat) -> Int
 | none => 0
 | some q => (q.2 : Int) - y
def nstL (x y : Nat) : Option (Nat × Nat) -> Int
 | none => 0
 | some q => Pk.cost x y q
theorem arsCells_get (l : List (Nat × Nat)) (n : Nat) {j : Nat} {q : Nat × Nat} (h : l[j]? = some q) : (arsCells (l.map fun q => (q, n)))[j * 3]? = some (.int .i64 q.1) /\ (arsCells (l.map fun q => (q, n)))[j * 3 + 1]? = some (.int .i64 q.2) /\ (arsCells (l.map fun q => (q, n)))[j * 3 + 2]? = some (.int .i64 n) := by
 induction l generalizing j with
 | nil => simp at h
 | cons p l ih =>
  have e : arsCells ((p :: l).map fun q => (q, n)) = .int .i64 p.1 :: .int .i64 p.2 :: .int .i64 n :: arsCells (l.map fun q => (q, n)) := rfl
  rw [e]
  cases j with
  | zero =>
   obtain rfl : p = q := by simpa using h
   exact ⟨rfl, rfl, rfl⟩
  | succ j =>
   have h' : l[j]? = some q := by simpa using h
   have e1 : (j + 1) * 3 = j * 3 + 1 + 1 + 1 := by omega
   rw [e1]
   simp only [List.getElem?_cons_succ]
   exact ih h'
theorem wpList_lookup_run {P : Program} {ops : Array Oper} {rest : List Oper} {o : Oper} {a : Act} {w : World} {Q : Exit -> Act -> World -> Prop} (hgd : o.guard = none) (t : TypeId) (m x : Operand) (ho : o.op = .lookup t m x false) {mv kv v : Value} (hm : a.eval m = mv) (hx : a.eval x = kv) (hr : (Instr.lookup t mv kv false).run P w = .ok v w)
  (h : wpList P ops Q rest (a.put o.dst v) w) : wpList P ops Q (o :: rest) a w := by
 refine wpList_plain hgd fun K hK => ?_
 unfold Oper.wp execOp
 simp only [ho, hm, hx, Sem.run_bind, hr, Result.andThen_ok, Sem.run_pure]
 exact hK _ _ h
end Go.Proofs.YtekfbphnoibnjaaDoor
