/-
  The program's writer: has an area one colour?
-/
import Derived.Test.YtekfbphnoibnjaaDoorF07
import Derived.Test.YtekfbphnoibnjaaDoorF08
import Derived.Test.YtekfbphnoibnjaaDoorF05
namespace Go.Proofs.YtekfbphnoibnjaaDoor
open Go.RowKit Go.Shelf
open Flm (Px FS)
attribute [local go_sem] Oper.semAt_some
structure FwAt (w : World) (q z nb C : Nat) (mh mb : Value) (T : List Px) : Prop where
 c0 : w.cell? ⟨q, 0, none⟩ = some (.int .i64 z)
 c1 : w.cell? ⟨q, 1, none⟩ = some (.slice (some ⟨nb, 0, none⟩) (z * z) C)
 c2 : w.cell? ⟨q, 2, none⟩ = some mh
 c3 : w.cell? ⟨q, 3, none⟩ = some mb
 px : PixIn w nb (z * z) T
 zz : z = 4 \/ z = 8 \/ z = 16
 ok : ∀ p ∈ T, Flm.okPx p
theorem FwAt.z16 {w : World} {q z nb C : Nat} {mh mb : Value} {T : List Px} (h : FwAt w q z nb C mh mb T) : z <= 16 /\ z * z <= 256 := by
 rcases h.zz with rfl | rfl | rfl <;> decide
theorem FwAt.up {w : World} {q z nb C : Nat} {mh mb : Value} {T : List Px} (h : FwAt w q z nb C mh mb T) : q < w.heap.size := World.block_lt_of_cell? w _ h.c0
theorem FwAt.frm {S : Nat -> Prop} {w w' : World} {q z nb C : Nat} {mh mb : Value} {T : List Px} (h : FwAt w q z nb C mh mb T) (f : Frm S w w') (h1 : ¬ S q) (h2 : ¬ S nb) : FwAt w' q z nb C mh mb T :=
 ⟨f.cell h.c0 h1, f.cell h.c1 h1, f.cell h.c2 h1, f.cell h.c3 h1, h.px.frm f h2, h.zz, h.ok⟩
theorem FwAt.below {w w' : World} {q z nb C : Nat} {mh mb : Value} {T : List Px} (h : FwAt w q z nb C mh mb T) (f : Below w.heap.size w w') : FwAt w' q z nb C mh mb T :=
 h.frm (Frm.of_below (S := fun _ => False) f) (fun e => e) (fun e => e)
def PlainJ (z : Nat) (T : List Px) (x y n : Nat) (XG W : World) (pre : List (Pt x y n)) : Prop := Below XG.heap.size XG W /\ ∀ p ∈ pre, Pk.pixT z T p.1 = Pk.pixT z T (x, y)
def PlainX (z : Nat) (T : List Px) (x y n K : Nat) (XG W : World) (c : Code) (pre : List (Pt x y n)) : Prop := c = .ret /\ Frm (fun k => k = K) XG W /\ W.cell? ⟨K, 0, none⟩ = some (.bool false) /\ ∃ p ∈ pre, Pk.pixT z T p.1 ≠ Pk.pixT z T (x, y)
set_option maxHeartbeats 4000000 in
set_option maxRecDepth 100000 in
theorem pIsPlain (w : World) (q z nb C : Nat) (mh mb : Value) (T : List Px) (h : FwAt w q z nb C mh mb T) (x y n : Nat) (hx : x + n <= z) (hy : y + n <= z) (hn : 0 < n) :
  Calls Tryd.prog 42 #[.pointer (some ⟨q, 0, none⟩), .agg #[.int .i64 x, .int .i64 y, .int .i64 n]] w fun e w' => e = .returned (.bool (Pk.plainB z T x y n)) /\ Below w.heap.size w w' := by
 obtain ⟨Z, hZ⟩ : ∃ Z, Z = z * z := ⟨_, rfl⟩
 obtain ⟨hz16, hzz⟩ := h.z16
 obtain ⟨H, hH⟩ : ∃ H, H = w.heap.size := ⟨_, rfl⟩
 have hmx : Tryd.prog.follows .mixedOrders = true := by kernel_rfl
 obtain ⟨W3, hW3⟩ : ∃ W3, W3 = ((w.alloc (.cells #[.pointer (some ⟨q, 0, none⟩)] 75)).alloc (.cells #[.int .i64 x, .int .i64 y, .int .i64 n] 88)).alloc (.cells #[.bool false] 4) := ⟨_, rfl⟩
 have hB3 : Below w.heap.size w W3 := by rw [hW3]; exact below3 w _ _ _
 have hs3 : W3.heap.size = H + 3 := by rw [hW3, hH]; simp
 have hx0 : W3.heap[H]? = some (.cells #[.pointer (some ⟨q, 0, none⟩)] 75) := by
  rw [hW3, hH]; exact (Below.heap_alloc _ _ _ (by simp only [World.size_alloc]; omega)).trans ((Below.heap_alloc _ _ _ (by simp only [World.size_alloc]; omega)).trans (heap_alloc_last w _))
 have hx1 : W3.heap[H + 1]? = some (.cells #[.int .i64 x, .int .i64 y, .int .i64 n] 88) := by
  have := heap_alloc_last (w.alloc (.cells #[.pointer (some ⟨q, 0, none⟩)] 75)) (.cells #[.int .i64 x, .int .i64 y, .int .i64 n] 88)
  rw [World.size_alloc] at this
  rw [hW3, hH]; exact (Below.heap_alloc _ _ _ (by simp only [World.size_alloc]; omega)).trans this
 have hx2 : W3.heap[H + 1 + 1]? = some (.cells #[.bool false] 4) := by
  have := heap_alloc_last ((w.alloc (.cells #[.pointer (some ⟨q, 0, none⟩)] 75)).alloc (.cells #[.int .i64 x, .int .i64 y, .int .i64 n] 88)) (.cells #[.bool false] 4)
  simp only [World.size_alloc] at this
  rw [hW3, hH]; exact this
 obtain ⟨f0, f1, f2, hf⟩ : ∃ f0 f1 f2, T.getD (y * z + x) (0, 0, 0) = (f0, f1, f2) := ⟨_, _, _, rfl⟩
 have hFw := h.below hB3
 have HAT : Hid (∀ wx, Below W3.heap.size W3 wx -> ∀ X Y : Nat, X < z -> Y < z -> Calls Tryd.prog 53 #[.agg #[.int .i64 z, .slice (some ⟨nb, 0, none⟩) Z C], .int .i64 X, .int .i64 Y] wx fun e w' => e = .returned (.agg #[.int .u8 (T.getD (Y * z + X) (0, 0, 0)).1, .int .u8 (T.getD (Y * z + X) (0, 0, 0)).2.1, .int .u8 (T.getD (Y * z + X) (0, 0, 0)).2.2]) /\ Below wx.heap.size wx w') := fun wx hb X Y hX hY => by
  rw [hZ]; exact pAt wx nb z T hzz (hFw.px.below hb) X Y hX hY
 have b00 := cell_of_row _ _ 0 _ _ _ hx0
 have b10 := cell_of_row _ _ 0 _ _ _ hx1
 have b11 := cell_of_row _ _ 1 _ _ _ hx1
 have d0 := hFw.c0
 have d1 := hFw.c1
 rw [<- hZ] at d1
 simp at b00 b10 b11
 have HW3 : Hid (W3 = ((w.alloc (.cells #[.pointer (some ⟨q, 0, none⟩)] 75)).alloc (.cells #[.int .i64 x, .int .i64 y, .int .i64 n] 88)).alloc (.cells #[.bool false] 4)) := hW3
 have HH : Hid (H = w.heap.size /\ W3.heap.size = H + 3 /\ Below w.heap.size w W3) := ⟨hH, hs3, hB3⟩
 have HX : Hid (W3.heap[H]? = some (.cells #[.pointer (some ⟨q, 0, none⟩)] 75) /\ W3.heap[H + 1]? = some (.cells #[.int .i64 x, .int .i64 y, .int .i64 n] 88) /\ W3.heap[H + 1 + 1]? = some (.cells #[.bool false] 4)) := ⟨hx0, hx1, hx2⟩
 have HF : Hid (T.getD (y * z + x) (0, 0, 0) = (f0, f1, f2)) := hf
 have HFW : Hid (FwAt W3 q z nb C mh mb T) := hFw
 have HZ : Hid (Z = z * z) := hZ
 have hqH : q < H := by rw [hH]; exact h.up
 clear hW3 hx0 hx1 hx2 hB3 hf hZ hFw h hH hs3
 refine (callsIn_wide (n := 5)).1 ?_
 refine callsIn_of_wp_marks Tryd.func42 rfl trivial ?_ rfl
 simp only [Tryd.ntmps42, List.size_toArray, List.length_cons, List.length_nil, Nat.reduceAdd, Nat.reduceSub, Array.replicate_succ, Array.replicate_zero, List.push_toArray, List.append_toArray, List.nil_append, List.cons_append]
 refine wpIn_wide.2 ?_
 go_wp2_with fail
 rw [<- HW3.out, <- HH.out.1]
 refine region_calm (S := fun w' => w'.cell? ⟨H, 0, none⟩ = some (.pointer (some ⟨q, 0, none⟩)) /\ w'.cell? ⟨q, 0, none⟩ = some (.int .i64 z) /\ w'.cell? ⟨q, 1, none⟩ = some (.slice (some ⟨nb, 0, none⟩) Z C) /\ w'.cell? ⟨H + 1, 0, none⟩ = some (.int .i64 x) /\ w'.cell? ⟨H + 1, 1, none⟩ = some (.int .i64 y) /\ Below W3.heap.size W3 w') 11 #[false,false,false,false,false,false,false,false,false,false,false] rfl rfl hmx ?_
 have hS0 : (W3.drew.cell? ⟨H, 0, none⟩ = some (.pointer (some ⟨q, 0, none⟩)) /\ W3.drew.cell? ⟨q, 0, none⟩ = some (.int .i64 z) /\ W3.drew.cell? ⟨q, 1, none⟩ = some (.slice (some ⟨nb, 0, none⟩) Z C) /\ W3.drew.cell? ⟨H + 1, 0, none⟩ = some (.int .i64 x) /\ W3.drew.cell? ⟨H + 1, 1, none⟩ = some (.int .i64 y) /\ Below W3.heap.size W3 W3.drew) := ⟨b00, d0, d1, b10, b11, ⟨rfl, rfl, rfl, Nat.le_refl _, fun _ _ => rfl⟩⟩
 refine tk_at 0 8 (.pointer (some ⟨q, 0, none⟩)) #[true,false,false,false,false,false,false,false,false,false,false] rfl rfl rfl (by kernel_rfl) (by rfl) (by rintro w ⟨t0, t1, t2, t3, t4, t5⟩; go_simp) (by assumption) ?_
 simp only [sIb, sCs, sCz]
 refine tk_at 1 9 (.pointer (some ⟨q, 0, none⟩)) #[true,true,false,false,false,false,false,false,false,false,false] rfl rfl rfl (by kernel_rfl) (by rfl) (by rintro w ⟨t0, t1, t2, t3, t4, t5⟩; go_simp) (by assumption) ?_
 simp only [sIb, sCs, sCz]
 refine tk_at 2 10 (.pointer (some ⟨q, 0, none⟩)) #[true,true,true,false,false,false,false,false,false,false,false] rfl rfl rfl (by kernel_rfl) (by rfl) (by rintro w ⟨t0, t1, t2, t3, t4, t5⟩; go_simp) (by assumption) ?_
 simp only [sIb, sCs, sCz]
 refine tk_at 3 11 (.agg #[.int .i64 z, .slice (some ⟨nb, 0, none⟩) Z C]) #[true,true,true,true,false,false,false,false,false,false,false] rfl rfl rfl (by kernel_rfl) (by rfl) (by rintro w ⟨t0, t1, t2, t3, t4, t5⟩; go_simp) (by assumption) ?_
 simp only [sIb, sCs, sCz]
 refine tk_at 4 12 (.pointer (some ⟨H + 1, 0, none⟩)) #[true,true,true,true,true,false,false,false,false,false,false] rfl rfl rfl (by kernel_rfl) (by rfl) (by rintro w ⟨t0, t1, t2, t3, t4, t5⟩; go_simp) (by assumption) ?_
 simp only [sIb, sCs, sCz]
 refine tk_at 5 13 (.int .i64 x) #[true,true,true,true,true,true,false,false,false,false,false] rfl rfl rfl (by kernel_rfl) (by rfl) (by rintro w ⟨t0, t1, t2, t3, t4, t5⟩; go_simp) (by assumption) ?_
 simp only [sIb, sCs, sCz]
 refine tk_at 6 14 (.pointer (some ⟨H + 1, 1, none⟩)) #[true,true,true,true,true,true,true,false,false,false,false] rfl rfl rfl (by kernel_rfl) (by rfl) (by rintro w ⟨t0, t1, t2, t3, t4, t5⟩; go_simp) (by assumption) ?_
 simp only [sIb, sCs, sCz]
 refine tk_at 7 15 (.int .i64 y) #[true,true,true,true,true,true,true,true,false,false,false] rfl rfl rfl (by kernel_rfl) (by rfl) (by rintro w ⟨t0, t1, t2, t3, t4, t5⟩; go_simp) (by assumption) ?_
 simp only [sIb, sCs, sCz]
 refine any_law (k := 2) (m := 1) (fun σ => #[.pointer (some ⟨q, 0, none⟩), .agg #[.int .i64 x, .int .i64 y, .int .i64 n], .pointer (some ⟨H, 0, none⟩), .pointer (some ⟨H + 1, 0, none⟩), .pointer (some ⟨H + 1 + 1, 0, none⟩), σ 1, undef, undef, .pointer (some ⟨q, 0, none⟩), .pointer (some ⟨q, 0, none⟩), .pointer (some ⟨q, 0, none⟩), .agg #[.int .i64 z, .slice (some ⟨nb, 0, none⟩) Z C], .pointer (some ⟨H + 1, 0, none⟩), .int .i64 x, .pointer (some ⟨H + 1, 1, none⟩), .int .i64 y, σ 0, undef, undef, undef, undef, undef, undef, undef, undef, undef, undef, undef, undef, undef]) (fun δ => #[true,true,true,true,true,true,true,true, δ 0, δ 1,false]) (fun i => match i with | 0 => 8 | _ => 9) (fun i => match i with | 0 => 16 | _ => 5)
  (fun i => match i with | 0 => .call 53 #[.agg #[.int .i64 z, .slice (some ⟨nb, 0, none⟩) Z C], .int .i64 x, .int .i64 y] (.agg #[.int .u8 f0, .int .u8 f1, .int .u8 f2]) | _ => .box (.cells #[.int .u8 0, .int .u8 0, .int .u8 0] 40)) (fun _ => true) (H + 3) ?hop ?hT ?hF ?hr ?hc ?hS ?hH ?hend 2 (fun _ => false) (fun _ => undef) _ rfl rfl hS0 ⟨fun i _ e => absurd e (by decide), fun i j _ _ _ e => absurd e (by decide)⟩
 case hop =>
  intro i hi
  rcases (by omega : i = 0 \/ i = 1) with rfl | rfl
  ·exact ⟨_, rfl, rfl, fun _ => rfl, fun σ w => by show _ = _; go_simp⟩
  ·exact ⟨_, rfl, rfl, fun _ => rfl, fun σ w => by show _ = _; go_simp⟩
 case hT =>
  intro σ i v hi
  rcases (by omega : i = 0 \/ i = 1) with rfl | rfl <;> rfl
 case hF =>
  intro δ i hi
  rcases (by omega : i = 0 \/ i = 1) with rfl | rfl <;> rfl
 case hr =>
  intro δ _ hex
  cases h0 : δ 0 <;> cases h1 : δ 1
  ·exact ⟨[8, 9], by kernel_rfl, by simp [rdy, h0, h1, List.range_succ]⟩
  ·exact ⟨[8], by kernel_rfl, by simp [rdy, h0, h1, List.range_succ]⟩
  ·exact ⟨[9], by kernel_rfl, by simp [rdy, h0, h1, List.range_succ]⟩
  ·obtain ⟨i, hi, e⟩ := hex
   rcases (by omega : i = 0 \/ i = 1) with rfl | rfl
   ·rw [h0] at e; cases e
   ·rw [h1] at e; cases e
 case hc =>
  intro i hi
  rcases (by omega : i = 0 \/ i = 1) with rfl | rfl
  ·intro wx hs
   have := HAT.out wx hs.2.2.2.2.2 x y (by omega) (by omega)
   rw [HF.out] at this
   exact this
  ·exact trivial
 case hS =>
  rintro wx wy ⟨s0, s1, s2, s3, s4, s5⟩ hb
  have c : ∀ (a : Addr) (v : Value), wx.cell? a = some v -> wy.cell? a = some v := fun a v e => (hb.cell (World.block_lt_of_cell? wx _ e)).trans e
  exact ⟨c _ _ s0, c _ _ s1, c _ _ s2, c _ _ s3, c _ _ s4, s5.trans (hb.mono s5.size)⟩
 case hH =>
  rintro wx ⟨_, _, _, _, _, s5⟩
  have := s5.size
  have := HH.out.2.1
  omega
 case hend =>
  rintro δ σ wx hδ hs hu
  have h0 := hδ 0 (by decide)
  have h1 := hδ 1 (by decide)
  have e0 : σ 0 = .agg #[.int .u8 f0, .int .u8 f1, .int .u8 f2] := hu.all 0 (by decide) h0
  obtain ⟨b5, e1, hb5, hH5⟩ : ∃ b5, σ 1 = .pointer (some ⟨b5, 0, none⟩) /\ wx.heap[b5]? = some (.cells #[.int .u8 0, .int .u8 0, .int .u8 0] 40) /\ H + 3 <= b5 := hu.all 1 (by decide) h1
  rw [h0, h1, e0, e1]
  have k0 := cell_of_row _ _ 0 _ _ _ hb5
  have k1 := cell_of_row _ _ 1 _ _ _ hb5
  have k2 := cell_of_row _ _ 2 _ _ _ hb5
  have z0 := frozen_of_row _ _ 0 _ _ hb5
  have z1 := frozen_of_row _ _ 1 _ _ hb5
  have z2 := frozen_of_row _ _ 2 _ _ hb5
  simp at k0 k1 k2
  obtain ⟨X, hX⟩ : ∃ X, X = ((wx.setCell ⟨b5, 0, none⟩ (.int .u8 f0)).setCell ⟨b5, 1, none⟩ (.int .u8 f1)).setCell ⟨b5, 2, none⟩ (.int .u8 f2) := ⟨_, rfl⟩
  obtain ⟨g0, g1, g2, fX⟩ := three_set wx b5 (.int .u8 f0) (.int .u8 f1) (.int .u8 f2) k0 k1 k2 X hX
  obtain ⟨s0, s1, s2, s3, s4, s5⟩ := hs
  have c : ∀ (a : Addr) (v : Value), a.block < H + 3 -> wx.cell? a = some v -> X.cell? a = some v := fun a v hl e => fX.cell e (by omega)
  have hbX : Below W3.heap.size W3 X := s5.trans (fX.below (by have := s5.size; omega) (fun k e => by rw [e, HH.out.2.1]; exact hH5))
  have hS1 : (X.cell? ⟨H, 0, none⟩ = some (.pointer (some ⟨q, 0, none⟩)) /\ X.cell? ⟨q, 0, none⟩ = some (.int .i64 z) /\ X.cell? ⟨q, 1, none⟩ = some (.slice (some ⟨nb, 0, none⟩) Z C) /\ X.cell? ⟨H + 1, 0, none⟩ = some (.int .i64 x) /\ X.cell? ⟨H + 1, 1, none⟩ = some (.int .i64 y) /\ Below W3.heap.size W3 X) := ⟨c _ _ (by show H < H + 3; omega) s0, c _ _ (by show q < H + 3; omega) s1, c _ _ (by show q < H + 3; omega) s2, c _ _ (by show H + 1 < H + 3; omega) s3, c _ _ (by show H + 1 < H + 3; omega) s4, hbX⟩
  refine store_at (i := 10) (w' := X) #[true,true,true,true,true,true,true,true,true,true,true] (by kernel_rfl) rfl rfl rfl (by rfl) ?y10 hS1 ?r10
  case y10 =>
   rw [hX]
   clear hX
   go_simp
  case r10 =>
  refine wpAnyH_done (by kernel_rfl) ?_ _
  dsimp only [calmPost]
  have a00 := cell_of_row _ _ 0 _ _ _ HX.out.2.1
  have a01 := cell_of_row _ _ 1 _ _ _ HX.out.2.1
  have a02 := cell_of_row _ _ 2 _ _ _ HX.out.2.1
  have r0 := (hbX.cell (p := ⟨H + 1, 0, none⟩) (by rw [HH.out.2.1]; show H + 1 < H + 3; omega)).trans a00
  have r1 := (hbX.cell (p := ⟨H + 1, 1, none⟩) (by rw [HH.out.2.1]; show H + 1 < H + 3; omega)).trans a01
  have r2 := (hbX.cell (p := ⟨H + 1, 2, none⟩) (by rw [HH.out.2.1]; show H + 1 < H + 3; omega)).trans a02
  simp at r0 r1 r2
  have HBX : Hid (Below W3.heap.size W3 X) := hbX
  have HG3 : Hid (X.cell? ⟨b5, 0, none⟩ = some (.int .u8 f0) /\ X.cell? ⟨b5, 1, none⟩ = some (.int .u8 f1) /\ X.cell? ⟨b5, 2, none⟩ = some (.int .u8 f2)) := ⟨g0, g1, g2⟩
  clear k0 k1 k2 z0 z1 z2 hX g0 g1 g2 fX s0 s1 s2 s3 s4 s5 hbX hS1 a00 a01 a02 hb5 hu hδ h0 h1 e0 e1 c b00 b10 b11 d0 d1 hS0
  go_wp2_with (go_at_call 45; refine (pPoints _ _ _ _).mono ?_; rintro e wq ⟨rfl, rfl⟩)
  clear r0 r1 r2
  obtain ⟨G, hG⟩ : ∃ G, G = X.heap.size := ⟨_, rfl⟩
  obtain ⟨XG, hXG⟩ : ∃ XG, XG = X.alloc (.cells #[.int .i64 x, .int .i64 y, .int .i64 n] 88) := ⟨_, rfl⟩
  have hit : XG.heap[G]? = some (.cells #[.int .i64 x, .int .i64 y, .int .i64 n] 88 (0, 0)) := by rw [hXG, hG]; exact heap_alloc_last X _
  have hBG : Below X.heap.size X XG := by rw [hXG]; exact (Below.refl _ X).alloc (Nat.le_refl _) _
  have hsG : XG.heap.size = G + 1 := by rw [hXG, hG]; simp
  have hbG : b5 < G := by rw [hG]; exact World.block_lt_of_cell? X _ HG3.out.1
  have HB3 : Hid (Below W3.heap.size W3 XG) := HBX.out.trans (hBG.mono HBX.out.size)
  have hHG : H + 3 <= G := by rw [hG]; have := HBX.out.size; have := HH.out.2.1; omega
  have HG4 : Hid (XG.cell? ⟨b5, 0, none⟩ = some (.int .u8 f0) /\ XG.cell? ⟨b5, 1, none⟩ = some (.int .u8 f1) /\ XG.cell? ⟨b5, 2, none⟩ = some (.int .u8 f2)) := ⟨(hBG.cell (p := ⟨b5, 0, none⟩) (by rw [<- hG]; exact hbG)).trans HG3.out.1, (hBG.cell (p := ⟨b5, 1, none⟩) (by rw [<- hG]; exact hbG)).trans HG3.out.2.1, (hBG.cell (p := ⟨b5, 2, none⟩) (by rw [<- hG]; exact hbG)).trans HG3.out.2.2⟩
  rw [<- hG, <- hXG]
  have HGG : Hid (G = X.heap.size /\ XG.heap.size = G + 1) := ⟨hG, hsG⟩
  clear hG hXG hBG
  refine (wpIn_wide (n := 5)).1 ?_
  refine wpIn_rangeFunc_ownF rfl (by decide) (gf := 57) (lb := #[.pointer (some ⟨G, 0, none⟩)]) rfl trivial (enters_of Tryd.func57 (by kernel_rfl) rfl)
   (points_stops Fence.wide (5 - 1) trivial rfl (by decide) G x y n (by omega) (by omega) XG hit)
   (fun h1 h2 => h2.trans h1) (fun W l o o' hl _ _ _ => World.putObj_heap_other (by omega)) (Below.refl _ _) (fun _ => rfl)
   (fun pre W => PlainJ z T x y n XG W pre)
   (fun c pre W => PlainX z T x y n (H + 1 + 1) XG W c pre)
   ?own ?ownx ⟨Below.refl _ _, fun p hp => by cases hp⟩
   (fun pt => { tmps := #[.pointer (some ⟨q, 0, none⟩), .agg #[.int .i64 x, .int .i64 y, .int .i64 n], .pointer (some ⟨H, 0, none⟩), .pointer (some ⟨H + 1, 0, none⟩), .pointer (some ⟨H + 1 + 1, 0, none⟩), .pointer (some ⟨b5, 0, none⟩), .int .i64 pt.1.1, .int .i64 pt.1.2, .pointer (some ⟨q, 0, none⟩), .pointer (some ⟨q, 0, none⟩), .pointer (some ⟨q, 0, none⟩), .agg #[.int .i64 z, .slice (some ⟨nb, 0, none⟩) Z C], .pointer (some ⟨H + 1, 0, none⟩), .int .i64 x, .pointer (some ⟨H + 1, 1, none⟩), .int .i64 y, .agg #[.int .u8 f0, .int .u8 f1, .int .u8 f2], .agg #[.int .i64 x, .int .i64 y, .int .i64 n], .func (.func 57) #[] #[.pointer (some ⟨G, 0, none⟩)], .int .i64 pt.1.1, .int .i64 pt.1.2, undef, undef, undef, undef, undef, undef, undef, undef, undef], defers := [] }) ?assign ?body ?done ?stop
  case own =>
   rintro pre W W' row ⟨i1, i2⟩ hg hr
   exact ⟨i1.grown hg i1.size (fun j e => by have := (hr j e).1; omega), i2⟩
  case ownx =>
   rintro c pre W W' row ⟨i1, i2, i3, i4⟩ hg hr
   have hr' : ∀ r, row = some r -> G + 1 <= r := fun r e => by have := (hr r e).1; omega
   have fg : Frm (fun k => row = some k) W W' := (Frm.refl _ W).grown hg (fun k e => .inl e)
   exact ⟨i1, i2.grown hg (fun k e => .inr (by have := hr' k e; omega)), fg.cell i3 (fun e => by have h9 : G + 1 <= H + 1 + 1 := hr' _ e; omega), i4⟩
  case assign =>
   intro l pt W K hK
   dsimp only [encPt]
   gi_wp2
   exact hK
  case body =>
   rintro l pre ⟨⟨PX, PY⟩, ⟨hpx1, hpx2⟩, hpy1, hpy2⟩ W ⟨i1, i2⟩ hlen
   dsimp only at hpx1 hpx2 hpy1 hpy2 ⊢
   have hB : Below W3.heap.size W3 W := HB3.out.trans (i1.mono HB3.out.size)
   obtain ⟨g0, g1, g2, hg⟩ : ∃ g0 g1 g2, T.getD (PY * z + PX) (0, 0, 0) = (g0, g1, g2) := ⟨_, _, _, rfl⟩
   have HA : Hid (∀ wx, Below W.heap.size W wx -> Calls Tryd.prog 53 #[.agg #[.int .i64 z, .slice (some ⟨nb, 0, none⟩) Z C], .int .i64 PX, .int .i64 PY] wx fun e w' => e = .returned (.agg #[.int .u8 g0, .int .u8 g1, .int .u8 g2]) /\ Below wx.heap.size wx w') := fun wx hb => by
    have := HAT.out wx (hB.trans (hb.mono hB.size)) PX PY (by omega) (by omega)
    rw [hg] at this
    exact this
   obtain ⟨E, hE⟩ : ∃ E, E = (g0 == f0 && (g1 == f1 && g2 == f2)) := ⟨_, rfl⟩
   have heq := fun w => eqPix w g0 g1 g2 f0 f1 f2
   rw [<- hE] at heq
   have HE : Hid (E = true ↔ Pk.pixT z T (PX, PY) = Pk.pixT z T (x, y)) := by
    unfold Hid Pk.pixT
    rw [hE, hg, HF.out]
    simp
   have HI : Hid (PlainJ z T x y n XG W pre) := ⟨i1, i2⟩
   have c0 := (i1.cell (p := ⟨b5, 0, none⟩) (by rw [HGG.out.2]; show b5 < G + 1; omega)).trans HG4.out.1
   have c1 := (i1.cell (p := ⟨b5, 1, none⟩) (by rw [HGG.out.2]; show b5 < G + 1; omega)).trans HG4.out.2.1
   have c2 := (i1.cell (p := ⟨b5, 2, none⟩) (by rw [HGG.out.2]; show b5 < G + 1; omega)).trans HG4.out.2.2
   have d0 := (hB.cell (p := ⟨q, 0, none⟩) (by rw [HH.out.2.1]; show q < H + 3; omega)).trans HFW.out.c0
   have d1 := (hB.cell (p := ⟨q, 1, none⟩) (by rw [HH.out.2.1]; show q < H + 3; omega)).trans HFW.out.c1
   rw [<- HZ.out] at d1
   have k00 := (hB.cell (p := ⟨H, 0, none⟩) (by rw [HH.out.2.1]; show H < H + 3; omega)).trans (cell_of_row _ _ 0 _ _ _ HX.out.1)
   have kf := (hB.cell (p := ⟨H + 1 + 1, 0, none⟩) (by rw [HH.out.2.1]; show H + 1 + 1 < H + 3; omega)).trans (cell_of_row _ _ 0 _ _ _ HX.out.2.2)
   have zf := (hB.frozen (p := ⟨H + 1 + 1, 0, none⟩) (by rw [HH.out.2.1]; show H + 1 + 1 < H + 3; omega)).trans (frozen_of_row _ _ 0 _ _ HX.out.2.2)
   simp at k00 kf
   clear i1 i2 hB hg hE
   gi_wp2
   refine region_round_at (S := fun w' => w'.cell? ⟨H, 0, none⟩ = some (.pointer (some ⟨q, 0, none⟩)) /\ w'.cell? ⟨q, 0, none⟩ = some (.int .i64 z) /\ w'.cell? ⟨q, 1, none⟩ = some (.slice (some ⟨nb, 0, none⟩) Z C) /\ w'.cell? ⟨b5, 0, none⟩ = some (.int .u8 f0) /\ w'.cell? ⟨b5, 1, none⟩ = some (.int .u8 f1) /\ w'.cell? ⟨b5, 2, none⟩ = some (.int .u8 f2) /\ w'.cell? ⟨H + 1 + 1, 0, none⟩ = some (.bool false) /\ w'.frozen? ⟨H + 1 + 1, 0, none⟩ = false /\ Below W.heap.size W w') 9 #[false,false,false,false,false,false,false,false,false] rfl rfl hmx (by kernel_rfl) (fun ⟨_, _, h⟩ => h) ?_
   have hS0 : (W.drew.cell? ⟨H, 0, none⟩ = some (.pointer (some ⟨q, 0, none⟩)) /\ W.drew.cell? ⟨q, 0, none⟩ = some (.int .i64 z) /\ W.drew.cell? ⟨q, 1, none⟩ = some (.slice (some ⟨nb, 0, none⟩) Z C) /\ W.drew.cell? ⟨b5, 0, none⟩ = some (.int .u8 f0) /\ W.drew.cell? ⟨b5, 1, none⟩ = some (.int .u8 f1) /\ W.drew.cell? ⟨b5, 2, none⟩ = some (.int .u8 f2) /\ W.drew.cell? ⟨H + 1 + 1, 0, none⟩ = some (.bool false) /\ W.drew.frozen? ⟨H + 1 + 1, 0, none⟩ = false /\ Below W.heap.size W W.drew) := ⟨k00, d0, d1, c0, c1, c2, kf, zf, ⟨rfl, rfl, rfl, Nat.le_refl _, fun _ _ => rfl⟩⟩
   refine tk_at 0 21 (.pointer (some ⟨q, 0, none⟩)) #[true,false,false,false,false,false,false,false,false] rfl rfl rfl (by kernel_rfl) (by rfl) (by rintro w ⟨t0, t1, t2, t3, t4, t5, t6, t7, t8⟩; go_simp) (by assumption) ?_
   simp only [sIb, sCs, sCz]
   refine tk_at 1 22 (.pointer (some ⟨q, 0, none⟩)) #[true,true,false,false,false,false,false,false,false] rfl rfl rfl (by kernel_rfl) (by rfl) (by rintro w ⟨t0, t1, t2, t3, t4, t5, t6, t7, t8⟩; go_simp) (by assumption) ?_
   simp only [sIb, sCs, sCz]
   refine tk_at 2 23 (.pointer (some ⟨q, 0, none⟩)) #[true,true,true,false,false,false,false,false,false] rfl rfl rfl (by kernel_rfl) (by rfl) (by rintro w ⟨t0, t1, t2, t3, t4, t5, t6, t7, t8⟩; go_simp) (by assumption) ?_
   simp only [sIb, sCs, sCz]
   refine tk_at 3 24 (.agg #[.int .i64 z, .slice (some ⟨nb, 0, none⟩) Z C]) #[true,true,true,true,false,false,false,false,false] rfl rfl rfl (by kernel_rfl) (by rfl) (by rintro w ⟨t0, t1, t2, t3, t4, t5, t6, t7, t8⟩; go_simp) (by assumption) ?_
   simp only [sIb, sCs, sCz]
   refine tk_at 4 25 (.int .i64 PX) #[true,true,true,true,true,false,false,false,false] rfl rfl rfl (by kernel_rfl) (by rfl) (by rintro w ⟨t0, t1, t2, t3, t4, t5, t6, t7, t8⟩; go_simp) (by assumption) ?_
   simp only [sIb, sCs, sCz]
   refine tk_at 5 26 (.int .i64 PY) #[true,true,true,true,true,true,false,false,false] rfl rfl rfl (by kernel_rfl) (by rfl) (by rintro w ⟨t0, t1, t2, t3, t4, t5, t6, t7, t8⟩; go_simp) (by assumption) ?_
   simp only [sIb, sCs, sCz]
   refine tk_at 7 28 (.agg #[.int .u8 f0, .int .u8 f1, .int .u8 f2]) #[true,true,true,true,true,true,false,true,false] rfl rfl rfl (by kernel_rfl) (by rfl) (by rintro w ⟨t0, t1, t2, t3, t4, t5, t6, t7, t8⟩; go_simp) (by assumption) ?_
   simp only [sIb, sCs, sCz]
   refine enter_at (i := 6) (d := 27) (f := 53) (args := #[.agg #[.int .i64 z, .slice (some ⟨nb, 0, none⟩) Z C], .int .i64 PX, .int .i64 PY]) #[true,true,true,true,true,true,true,true,false] (by kernel_rfl) rfl rfl rfl (by rfl) (by go_simp) (fun v' w' => v' = .agg #[.int .u8 g0, .int .u8 g1, .int .u8 g2] /\ Below W.heap.size W w') ((HA.out W.drew hS0.2.2.2.2.2.2.2.2).mono (fun e w' he => ⟨_, he.1, rfl, hS0.2.2.2.2.2.2.2.2.trans he.2⟩)) ?_
   rintro va wa ⟨rfl, ba⟩
   have cc : ∀ (a : Addr) (v : Value), W.cell? a = some v -> wa.cell? a = some v := fun a v e => (ba.cell (World.block_lt_of_cell? W _ e)).trans e
   have hSA : (wa.cell? ⟨H, 0, none⟩ = some (.pointer (some ⟨q, 0, none⟩)) /\ wa.cell? ⟨q, 0, none⟩ = some (.int .i64 z) /\ wa.cell? ⟨q, 1, none⟩ = some (.slice (some ⟨nb, 0, none⟩) Z C) /\ wa.cell? ⟨b5, 0, none⟩ = some (.int .u8 f0) /\ wa.cell? ⟨b5, 1, none⟩ = some (.int .u8 f1) /\ wa.cell? ⟨b5, 2, none⟩ = some (.int .u8 f2) /\ wa.cell? ⟨H + 1 + 1, 0, none⟩ = some (.bool false) /\ wa.frozen? ⟨H + 1 + 1, 0, none⟩ = false /\ Below W.heap.size W wa) := ⟨cc _ _ k00, cc _ _ d0, cc _ _ d1, cc _ _ c0, cc _ _ c1, cc _ _ c2, cc _ _ kf, (ba.frozen (World.block_lt_of_cell? W _ kf)).trans zf, ba⟩
   refine ⟨hSA, ?_⟩
   simp only [sIb, sCs, sCz]
   refine tk_at 8 29 (.bool (!E)) #[true,true,true,true,true,true,true,true,true] rfl rfl rfl (by kernel_rfl) (by rfl) (by rintro w ⟨t0, t1, t2, t3, t4, t5, t6, t7, t8⟩; go_simp) (by assumption) ?_
   simp only [sIb, sCs, sCz]
   refine wpAnyH_done (by kernel_rfl) ?_ _
   have ka := hSA.2.2.2.2.2.2.1
   have za := hSA.2.2.2.2.2.2.2.1
   have HBA : Hid (Below W.heap.size W wa) := ba
   clear hSA hS0 k00 d0 d1 c0 c1 c2 kf zf cc ba
   cases E
   ·gi_wp2
    obtain ⟨i1, i2⟩ := HI.out
    have fa : Frm (fun k => k = H + 1 + 1) W wa := Frm.of_below HBA.out
    have fX : Frm (fun k => k = H + 1 + 1) W (wa.setCell ⟨H + 1 + 1, 0, none⟩ (.bool false)) := fa.setCell (.inl rfl) _
    have hk0 : ∃ v, W.cell? ⟨H + 1 + 1, 0, none⟩ = some v := ⟨_, (HB3.out.trans (i1.mono HB3.out.size)).cell (p := ⟨H + 1 + 1, 0, none⟩) (by rw [HH.out.2.1]; show H + 1 + 1 < H + 3; omega) |>.trans (cell_of_row _ _ 0 _ _ _ HX.out.2.2)⟩
    refine ⟨keeps_frm fX (fun k e => by rw [e]; exact hk0), rfl, ?_, World.cell?_setCell_same _ _ _ ka, ⟨⟨(PX, PY), ⟨hpx1, hpx2⟩, hpy1, hpy2⟩, by simp, fun e => by have := HE.out.2 e; cases this⟩⟩
    exact (Frm.of_below i1).trans fX
   ·gi_wp2
    obtain ⟨i1, i2⟩ := HI.out
    refine ⟨keeps_frm (Frm.of_below (S := fun _ => False) HBA.out) (fun k e => e.elim), HBA.out.block G (by have := i1.size; have := HGG.out.2; omega), i1.trans (HBA.out.mono i1.size), fun p hp => ?_⟩
    rcases List.mem_append.1 hp with hp | hp
    ·exact i2 p hp
    ·obtain rfl := List.mem_singleton.1 hp
     exact HE.out.1 (by trivial)
  case done =>
   rintro D xs W hD hxs ⟨i1, i2⟩ hK
   have HP : Hid (Pk.plainB z T x y n = true) := by
    unfold Hid Pk.plainB
    rw [List.all_eq_true]
    intro p hp
    rw [<- hxs] at hp
    obtain ⟨p', hp', rfl⟩ := List.mem_map.1 hp
    exact decide_eq_true (i2 p' hp')
   have hB : Below W3.heap.size W3 W := HB3.out.trans (i1.mono HB3.out.size)
   have kf := (hB.cell (p := ⟨H + 1 + 1, 0, none⟩) (by rw [HH.out.2.1]; show H + 1 + 1 < H + 3; omega)).trans (cell_of_row _ _ 0 _ _ _ HX.out.2.2)
   have zf := (hB.frozen (p := ⟨H + 1 + 1, 0, none⟩) (by rw [HH.out.2.1]; show H + 1 + 1 < H + 3; omega)).trans (frozen_of_row _ _ 0 _ _ HX.out.2.2)
   simp at kf
   have HK : Hid (W.heap[D]? = some (.deferred (some [])) /\ Below W3.heap.size W3 W) := ⟨hK, hB⟩
   clear i1 i2 hB hK hxs
   go_wp2_with fail
   obtain ⟨X2, hX2⟩ : ∃ X2, X2 = W.setCell ⟨H + 1 + 1, 0, none⟩ (.bool true) := ⟨_, rfl⟩
   rw [<- hX2]
   have q0 : X2.cell? ⟨H + 1 + 1, 0, none⟩ = some (.bool true) := by rw [hX2]; exact World.cell?_setCell_same _ _ _ kf
   have fX : Frm (fun k => k = H + 1 + 1) W X2 := by rw [hX2]; exact Frm.setCell (p := ⟨H + 1 + 1, 0, none⟩) (Frm.refl (fun k => k = H + 1 + 1) W) (.inl rfl) _
   have hKX : X2.heap[D]? = some (.deferred (some [])) := (fX.block _ (heap_lt0 HK.out.1) (by omega)).trans HK.out.1
   have hg := grownBy_putObj' X2 D (.deferred none)
   have fg : Frm (fun k => k = D) X2 (X2.putObj D (.deferred none)) := (Frm.refl _ X2).grown hg (fun k e => by cases e; exact .inl rfl)
   have q1 : (X2.putObj D (.deferred none)).cell? ⟨H + 1 + 1, 0, none⟩ = some (.bool true) := fg.cell q0 (by show ¬ H + 1 + 1 = D; omega)
   refine retM_mark (v := .bool true) rfl hKX (by simp [results, Tryd.results42, go_sem, q1]) ⟨by rw [HP.out], ?_⟩
   have hw := HH.out.1
   have hb0 : Below w.heap.size w W := HH.out.2.2.trans (HK.out.2.mono HH.out.2.2.size)
   have hb1 : Below w.heap.size w X2 := hb0.trans (fX.below (by have := hb0.size; omega) (fun k e => by omega))
   exact hb1.trans (fg.below (by have := hb1.size; omega) (fun k e => by omega))
  case stop =>
   rintro D c pre W hD hpre ⟨rfl, i2, i3, p, hp, hne⟩ hK
   have hps : p.1 ∈ Flm.spots x y n := hpre.subset (List.mem_map.2 ⟨p, hp, rfl⟩)
   have HP : Hid (Pk.plainB z T x y n = false) := by
    unfold Hid Pk.plainB
    rw [List.all_eq_false]
    exact ⟨p.1, hps, by simpa using hne⟩
   have HR : Hid (Frm (fun k => k = H + 1 + 1) XG W /\ W.cell? ⟨H + 1 + 1, 0, none⟩ = some (.bool false) /\ W.heap[D]? = some (.deferred (some []))) := ⟨i2, i3, hK⟩
   clear i2 i3 hp hne hK hps hpre
   refine wpIn_wide.2 ?_
   go_wp2_with fail
   obtain ⟨r1, r2, r3⟩ := HR.out
   have hg := grownBy_putObj' W D (.deferred none)
   have fg : Frm (fun k => k = D) W (W.putObj D (.deferred none)) := (Frm.refl _ W).grown hg (fun k e => by cases e; exact .inl rfl)
   have q1 : (W.putObj D (.deferred none)).cell? ⟨H + 1 + 1, 0, none⟩ = some (.bool false) := fg.cell r2 (by show ¬ H + 1 + 1 = D; omega)
   refine retM_mark (v := .bool false) rfl r3 (by simp [results, Tryd.results42, go_sem, q1]) ⟨by rw [HP.out], ?_⟩
   have hw := HH.out.1
   have hb0 : Below w.heap.size w XG := HH.out.2.2.trans (HB3.out.mono HH.out.2.2.size)
   have hb1 : Below w.heap.size w W := hb0.trans (r1.below (by have := hb0.size; omega) (fun k e => by omega))
   exact hb1.trans (fg.below (by have := hb1.size; omega) (fun k e => by omega))
end Go.Proofs.YtekfbphnoibnjaaDoor
