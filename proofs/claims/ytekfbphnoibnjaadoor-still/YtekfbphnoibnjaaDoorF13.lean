/-
  The program's picture: what is expected of a pixel.
-/
import Derived.Test.YtekfbphnoibnjaaDoorF12
import Derived.Test.YtekfbphnoibnjaaDoorF01
import Derived.Test.YtekfbphnoibnjaaDoorF11
import Derived.Deep.CutBlock
import Derived.Deep.DeepCutAuto
import Derived.Deep.RegionWith
namespace Go.Proofs.YtekfbphnoibnjaaDoor
open Go.RowKit
open Flm (Px FS)
def Flm.exp3 (z : Nat) (fs : FS) (x y : Nat) (k : Nat) : Int := Flm.expected (Flm.pick (Flm.near z fs ((x : Int) - 1) y) k) (Flm.pick (Flm.near z fs x ((y : Int) - 1)) k) (Flm.pick (Flm.near z fs ((x : Int) - 1) ((y : Int) - 1)) k)
def ExpN (w : World) (qa qb qd : Px) (l1 l2 l3 : Value) (wx : World) : Prop := ∃ b7 b8 b9, l1 = .pointer (some ⟨b7, 0, none⟩) /\ l2 = .pointer (some ⟨b8, 0, none⟩) /\ l3 = .pointer (some ⟨b9, 0, none⟩) /\ Below w.heap.size w wx /\ wx.heap[w.heap.size + 1]? = some (.cells #[.int .i64 0, .int .i64 0, .int .i64 0] 139 (0, 0)) /\ Box3 wx b7 qa /\ Box3 wx b8 qb /\ Box3 wx b9 qd /\ w.heap.size + 1 < b7 /\ w.heap.size + 1 < b8 /\ w.heap.size + 1 < b9
theorem box3_store {wx : World} {b : Nat} {q q' : Px} (h : Box3 wx b q) : Box3 (((wx.setCell ⟨b, 0, none⟩ (.int .i64 q'.1)).setCell ⟨b, 1, none⟩ (.int .i64 q'.2.1)).setCell ⟨b, 2, none⟩ (.int .i64 q'.2.2)) b q' := by
 have h1 := Go.heap_setCell_same wx b 0 _ _ (.int .i64 q'.1) h
 have h2 := Go.heap_setCell_same _ b 1 _ _ (.int .i64 q'.2.1) h1
 have h3 := Go.heap_setCell_same _ b 2 _ _ (.int .i64 q'.2.2) h2
 unfold Box3
 rw [h3]
 simp
theorem box3_other {wx : World} {b b' : Nat} {q : Px} {u0 u1 u2 : Value} (h : Box3 wx b q) (hn : b ≠ b') : Box3 (((wx.setCell ⟨b', 0, none⟩ u0).setCell ⟨b', 1, none⟩ u1).setCell ⟨b', 2, none⟩ u2) b q := by
 unfold Box3
 rw [Below.heap_setCell _ ⟨b', 2, none⟩ _ b hn, Below.heap_setCell _ ⟨b', 1, none⟩ _ b hn, Below.heap_setCell _ ⟨b', 0, none⟩ _ b hn]
 exact h
theorem expS_store {w wx : World} {nb z Z C b : Nat} {u0 u1 u2 : Value} (h : ExpS w nb z Z C wx) (hb : w.heap.size + 1 < b) : ExpS w nb z Z C (((wx.setCell ⟨b, 0, none⟩ u0).setCell ⟨b, 1, none⟩ u1).setCell ⟨b, 2, none⟩ u2) := ((h.st hb).st hb).st hb
set_option maxHeartbeats 4000000 in
set_option maxRecDepth 20000 in
theorem pExpected {C : Nat} (w : World) (nb z : Nat) (ps : List Px) (hz : z * z <= 256) (hz0 : z <= 16) (h : PixIn w nb (z * z) ps) (hp : ∀ k, Flm.okPx (ps.getD k (0, 0, 0))) (fs : FS) (hps : ps = fs.frs.getD (Flm.now fs) []) (hpx : ∀ i k, Flm.okPx (Flm.px fs i k)) (x y : Nat) (hx1 : x < z) (hy1 : y < z) :
  Calls Tryd.prog 59 #[.agg #[.int .i64 z, .slice (some ⟨nb, 0, none⟩) (z * z) C], .int .i64 x, .int .i64 y] w fun e w' => e = .returned (.agg #[.int .i64 (Flm.exp3 z fs x y 0), .int .i64 (Flm.exp3 z fs x y 1), .int .i64 (Flm.exp3 z fs x y 2)]) /\ Below w.heap.size w w' := by
 obtain ⟨Z, hZ⟩ : ∃ Z, Z = z * z := ⟨_, rfl⟩
 have HA : ∀ wx (X Y : Int), X < z -> Y < z -> ExpS w nb z Z C wx -> Calls Tryd.prog 58 #[.agg #[.int .i64 z, .slice (some ⟨nb, 0, none⟩) Z C], .int .i64 X, .int .i64 Y] wx fun e w' => e = .returned (.agg #[.int .i64 (Flm.near z fs X Y).1, .int .i64 (Flm.near z fs X Y).2.1, .int .i64 (Flm.near z fs X Y).2.2]) /\ Below wx.heap.size wx w' := fun wx X Y hX hY hb => by
  rw [hZ]
  exact pTurned (C := C) wx nb z ps hz (h.frm (Frm.of_below (S := fun _ => False) hb.1) (fun e => e)) hp fs hps X Y hX hY
 obtain ⟨qa, hqa⟩ : ∃ q, q = Flm.near z fs ((x : Int) - 1) y := ⟨_, rfl⟩
 obtain ⟨qb, hqb⟩ : ∃ q, q = Flm.near z fs x ((y : Int) - 1) := ⟨_, rfl⟩
 obtain ⟨qd, hqd⟩ : ∃ q, q = Flm.near z fs ((x : Int) - 1) ((y : Int) - 1) := ⟨_, rfl⟩
 have C1 : Hid (∀ wx, ExpS w nb z Z C wx -> Calls Tryd.prog 58 #[.agg #[.int .i64 z, .slice (some ⟨nb, 0, none⟩) Z C], .int .i64 ((x : Int) - 1), .int .i64 y] wx fun e w' => e = .returned (.agg #[.int .i64 qa.1, .int .i64 qa.2.1, .int .i64 qa.2.2]) /\ Below wx.heap.size wx w') := fun wx hb => by rw [hqa]; exact HA wx ((x : Int) - 1) y (by omega) (by omega) hb
 have C2 : Hid (∀ wx, ExpS w nb z Z C wx -> Calls Tryd.prog 58 #[.agg #[.int .i64 z, .slice (some ⟨nb, 0, none⟩) Z C], .int .i64 x, .int .i64 ((y : Int) - 1)] wx fun e w' => e = .returned (.agg #[.int .i64 qb.1, .int .i64 qb.2.1, .int .i64 qb.2.2]) /\ Below wx.heap.size wx w') := fun wx hb => by rw [hqb]; exact HA wx x ((y : Int) - 1) (by omega) (by omega) hb
 have C3 : Hid (∀ wx, ExpS w nb z Z C wx -> Calls Tryd.prog 58 #[.agg #[.int .i64 z, .slice (some ⟨nb, 0, none⟩) Z C], .int .i64 ((x : Int) - 1), .int .i64 ((y : Int) - 1)] wx fun e w' => e = .returned (.agg #[.int .i64 qd.1, .int .i64 qd.2.1, .int .i64 qd.2.2]) /\ Below wx.heap.size wx w') := fun wx hb => by rw [hqd]; exact HA wx ((x : Int) - 1) ((y : Int) - 1) (by omega) (by omega) hb
 have HBD : Hid ((∀ k, -255 <= Flm.pick qa k /\ Flm.pick qa k <= 255) /\ (∀ k, -255 <= Flm.pick qb k /\ Flm.pick qb k <= 255)) := by rw [hqa, hqb]; exact ⟨fun k => Flm.near_bd hpx _ _ k, fun k => Flm.near_bd hpx _ _ k⟩
 have HEX : Hid (∀ k, Flm.exp3 z fs x y k = Flm.expected (Flm.pick qa k) (Flm.pick qb k) (Flm.pick qd k)) := fun k => by rw [hqa, hqb, hqd]; rfl
 rw [<- hZ]
 obtain ⟨W, hW⟩ : ∃ W, W = (w.alloc (.cells #[.int .i64 z, .slice (some ⟨nb, 0, none⟩) Z C] 77)).alloc (.cells #[.int .i64 0, .int .i64 0, .int .i64 0] 139) := ⟨_, rfl⟩
 have hS0 : ExpS w nb z Z C W := by
  have h1 := heap_alloc_last (w.alloc (.cells #[.int .i64 z, .slice (some ⟨nb, 0, none⟩) Z C] 77)) (.cells #[.int .i64 0, .int .i64 0, .int .i64 0] 139)
  rw [World.size_alloc, <- hW] at h1
  refine ⟨by rw [hW]; exact ((Below.refl _ _).alloc (Nat.le_refl _) _).alloc (by simp) _, by rw [hW]; simp, ?_, h1⟩
  rw [hW, Below.heap_alloc _ _ _ (by simp)]
  exact heap_alloc_last w _
 have HW : Hid (W = (w.alloc (.cells #[.int .i64 z, .slice (some ⟨nb, 0, none⟩) Z C] 77)).alloc (.cells #[.int .i64 0, .int .i64 0, .int .i64 0] 139)) := hW
 have hwx : IntKind.i64.wrap ((x : Int) - 1) = (x : Int) - 1 := by rw [IntKind.wrap_i64]; omega
 have hwy : IntKind.i64.wrap ((y : Int) - 1) = (y : Int) - 1 := by rw [IntKind.wrap_i64]; omega
 clear h hp hps hpx hZ hz hW hqa hqb hqd HA
 go_enter Tryd.func59, Tryd.ntmps59
 go_upto_region 1 with fail
 rw [<- HW.out]
 go_cut [7, 8, 9] (fun l1 l2 l3 wx => ExpN w qa qb qd l1 l2 l3 wx)
 case first =>
  have hmx : Tryd.prog.follows .mixedOrders = true := by kernel_rfl
  refine wp_region_held (S := fun w' => w'.cell? ⟨w.heap.size, 0, none⟩ = some (.int .i64 z) /\ w'.cell? ⟨w.heap.size, 1, none⟩ = some (.slice (some ⟨nb, 0, none⟩) Z C)) hmx ?_
  have hS1 : (W.drew.cell? ⟨w.heap.size, 0, none⟩ = some (.int .i64 z) /\ W.drew.cell? ⟨w.heap.size, 1, none⟩ = some (.slice (some ⟨nb, 0, none⟩) Z C)) := ⟨hS0.c0, hS0.c1⟩
  show wpAnyH _ _ _ _ _ 22 #[false,false,false,false,false,false,false,false,false,false,false,false,false,false,false,false,false,false,false,false,false,false] _ W.drew
  refine tk_at 0 12 (.agg #[.int .i64 z, .slice (some ⟨nb, 0, none⟩) Z C]) #[true,false,false,false,false,false,false,false,false,false,false,false,false,false,false,false,false,false,false,false,false,false] rfl rfl rfl (by kernel_rfl) (by rfl) (by rintro w ⟨t0, t1⟩; go_simp) (by assumption) ?_
  simp only [sIb, sCs, sCz]
  refine tk_at 1 13 (.int .i64 x) #[true,true,false,false,false,false,false,false,false,false,false,false,false,false,false,false,false,false,false,false,false,false] rfl rfl rfl (by kernel_rfl) (by rfl) (by rintro w ⟨t0, t1⟩; go_simp) (by assumption) ?_
  simp only [sIb, sCs, sCz]
  refine tk_at 2 14 (.int .i64 ((x : Int) - 1)) #[true,true,true,false,false,false,false,false,false,false,false,false,false,false,false,false,false,false,false,false,false,false] rfl rfl rfl (by kernel_rfl) (by rfl) (by rintro w ⟨t0, t1⟩; go_simp) (by assumption) ?_
  simp only [sIb, sCs, sCz]
  refine tk_at 3 15 (.int .i64 y) #[true,true,true,true,false,false,false,false,false,false,false,false,false,false,false,false,false,false,false,false,false,false] rfl rfl rfl (by kernel_rfl) (by rfl) (by rintro w ⟨t0, t1⟩; go_simp) (by assumption) ?_
  simp only [sIb, sCs, sCz]
  refine tk_at 5 17 (.agg #[.int .i64 z, .slice (some ⟨nb, 0, none⟩) Z C]) #[true,true,true,true,false,true,false,false,false,false,false,false,false,false,false,false,false,false,false,false,false,false] rfl rfl rfl (by kernel_rfl) (by rfl) (by rintro w ⟨t0, t1⟩; go_simp) (by assumption) ?_
  simp only [sIb, sCs, sCz]
  refine tk_at 6 18 (.int .i64 x) #[true,true,true,true,false,true,true,false,false,false,false,false,false,false,false,false,false,false,false,false,false,false] rfl rfl rfl (by kernel_rfl) (by rfl) (by rintro w ⟨t0, t1⟩; go_simp) (by assumption) ?_
  simp only [sIb, sCs, sCz]
  refine tk_at 7 19 (.int .i64 y) #[true,true,true,true,false,true,true,true,false,false,false,false,false,false,false,false,false,false,false,false,false,false] rfl rfl rfl (by kernel_rfl) (by rfl) (by rintro w ⟨t0, t1⟩; go_simp) (by assumption) ?_
  simp only [sIb, sCs, sCz]
  refine tk_at 8 20 (.int .i64 ((y : Int) - 1)) #[true,true,true,true,false,true,true,true,true,false,false,false,false,false,false,false,false,false,false,false,false,false] rfl rfl rfl (by kernel_rfl) (by rfl) (by rintro w ⟨t0, t1⟩; go_simp) (by assumption) ?_
  simp only [sIb, sCs, sCz]
  refine tk_at 10 22 (.agg #[.int .i64 z, .slice (some ⟨nb, 0, none⟩) Z C]) #[true,true,true,true,false,true,true,true,true,false,true,false,false,false,false,false,false,false,false,false,false,false] rfl rfl rfl (by kernel_rfl) (by rfl) (by rintro w ⟨t0, t1⟩; go_simp) (by assumption) ?_
  simp only [sIb, sCs, sCz]
  refine tk_at 11 23 (.int .i64 x) #[true,true,true,true,false,true,true,true,true,false,true,true,false,false,false,false,false,false,false,false,false,false] rfl rfl rfl (by kernel_rfl) (by rfl) (by rintro w ⟨t0, t1⟩; go_simp) (by assumption) ?_
  simp only [sIb, sCs, sCz]
  refine tk_at 12 24 (.int .i64 ((x : Int) - 1)) #[true,true,true,true,false,true,true,true,true,false,true,true,true,false,false,false,false,false,false,false,false,false] rfl rfl rfl (by kernel_rfl) (by rfl) (by rintro w ⟨t0, t1⟩; go_simp) (by assumption) ?_
  simp only [sIb, sCs, sCz]
  refine tk_at 13 25 (.int .i64 y) #[true,true,true,true,false,true,true,true,true,false,true,true,true,true,false,false,false,false,false,false,false,false] rfl rfl rfl (by kernel_rfl) (by rfl) (by rintro w ⟨t0, t1⟩; go_simp) (by assumption) ?_
  simp only [sIb, sCs, sCz]
  refine tk_at 14 26 (.int .i64 ((y : Int) - 1)) #[true,true,true,true,false,true,true,true,true,false,true,true,true,true,true,false,false,false,false,false,false,false] rfl rfl rfl (by kernel_rfl) (by rfl) (by rintro w ⟨t0, t1⟩; go_simp) (by assumption) ?_
  simp only [sIb, sCs, sCz]
  refine exp_law (w := w) (nb := nb) (z := z) (Z := Z) (C := C) (fn := 58) (g1 := #[.agg #[.int .i64 z, .slice (some ⟨nb, 0, none⟩) Z C], .int .i64 ((x : Int) - 1), .int .i64 y]) (g2 := #[.agg #[.int .i64 z, .slice (some ⟨nb, 0, none⟩) Z C], .int .i64 x, .int .i64 ((y : Int) - 1)]) (g3 := #[.agg #[.int .i64 z, .slice (some ⟨nb, 0, none⟩) Z C], .int .i64 ((x : Int) - 1), .int .i64 ((y : Int) - 1)]) (v1 := .agg #[.int .i64 qa.1, .int .i64 qa.2.1, .int .i64 qa.2.2]) (v2 := .agg #[.int .i64 qb.1, .int .i64 qb.2.1, .int .i64 qb.2.2]) (v3 := .agg #[.int .i64 qd.1, .int .i64 qd.2.1, .int .i64 qd.2.2]) (fun k16 k21 k27 k7 k8 k9 => #[.agg #[.int .i64 z, .slice (some ⟨nb, 0, none⟩) Z C], .int .i64 x, .int .i64 y, .pointer (some ⟨w.heap.size, 0, none⟩), undef, undef, .pointer (some ⟨w.heap.size + 1, 0, none⟩), k7, k8, k9, undef, undef, .agg #[.int .i64 z, .slice (some ⟨nb, 0, none⟩) Z C], .int .i64 x, .int .i64 ((x : Int) - 1), .int .i64 y, k16, .agg #[.int .i64 z, .slice (some ⟨nb, 0, none⟩) Z C], .int .i64 x, .int .i64 y, .int .i64 ((y : Int) - 1), k21, .agg #[.int .i64 z, .slice (some ⟨nb, 0, none⟩) Z C], .int .i64 x, .int .i64 ((x : Int) - 1), .int .i64 y, .int .i64 ((y : Int) - 1), k27, undef, undef, undef, undef, undef, undef, undef, undef, undef, undef, undef, undef, undef, undef, undef, undef, undef]) (fun e1 e2 e3 e7 e8 e9 => #[true,true,true,true, e1,true,true,true,true, e2,true,true,true,true,true, e3, e7, e8, e9,false,false,false]) rfl rfl rfl rfl rfl rfl rfl rfl rfl rfl rfl rfl (fun _ => rfl) (fun _ => rfl) (fun _ => rfl) (fun _ => rfl) (fun _ => rfl) (fun _ => rfl)
   (fun _ _ _ _ _ _ _ => rfl) (fun _ _ _ _ _ _ _ => rfl) (fun _ _ _ _ _ _ _ => rfl) (fun _ _ _ _ _ _ _ => rfl) (fun _ _ _ _ _ _ _ => rfl) (fun _ _ _ _ _ _ _ => rfl)
   (fun _ _ _ _ _ _ => rfl) (fun _ _ _ _ _ _ => rfl) (fun _ _ _ _ _ _ => rfl) (fun _ _ _ _ _ _ => rfl) (fun _ _ _ _ _ _ => rfl) (fun _ _ _ _ _ _ => rfl)
   ?hr ?r4 ?r9 ?r15 ?r16 ?r17 ?r18 C1.out C2.out C3.out (fun wx hx => ⟨hx.c0, hx.c1⟩) ?hend 6 false false false false false false 0 0 0 W.drew rfl (fun h => by cases h) (fun h => by cases h) ⟨hS0.drew1, fun h => (by cases h), fun h => (by cases h), fun h => (by cases h), fun h => (by cases h), fun h => (by cases h), fun h => (by cases h)⟩
  case hr =>
   intro c1 c2 c3 a7 a8 a9
   cases c1 <;> cases c2 <;> cases c3 <;> cases a7 <;> cases a8 <;> cases a9 <;> first | (intro h; exact absurd h (by decide)) | (intro _; kernel_rfl)
  case r4 => intro _ _ _ _ _ _ wq; go_simp
  case r9 => intro _ _ _ _ _ _ wq; go_simp
  case r15 => intro _ _ _ _ _ _ wq; go_simp
  case r16 => intro _ _ _ _ _ _ wq; go_simp; exact ⟨rfl, rfl⟩
  case r17 => intro _ _ _ _ _ _ wq; go_simp; exact ⟨rfl, rfl⟩
  case r18 => intro _ _ _ _ _ _ wq; go_simp; exact ⟨rfl, rfl⟩
  case hend =>
   intro b7 b8 b9 wx hj
   obtain ⟨x7, l7⟩ := hj.h7 rfl
   obtain ⟨x8, l8⟩ := hj.h8 rfl
   obtain ⟨x9, l9⟩ := hj.h9 rfl
   have n78 := hj.d78 rfl rfl
   have n79 := hj.d79 rfl rfl
   have n89 := hj.d89 rfl rfl
   have e1 := hj.ex
   clear hj
   obtain ⟨wy, hwy1⟩ : ∃ wy, wy = ((wx.setCell ⟨b7, 0, none⟩ (.int .i64 qa.1)).setCell ⟨b7, 1, none⟩ (.int .i64 qa.2.1)).setCell ⟨b7, 2, none⟩ (.int .i64 qa.2.2) := ⟨_, rfl⟩
   have e2 : ExpS w nb z Z C wy := by rw [hwy1]; exact expS_store e1 l7
   have y7 : Box3 wy b7 qa := by rw [hwy1]; exact box3_store x7
   have y8 : Box3 wy b8 (0, 0, 0) := by rw [hwy1]; exact box3_other x8 (Ne.symm n78)
   have y9 : Box3 wy b9 (0, 0, 0) := by rw [hwy1]; exact box3_other x9 (Ne.symm n79)
   have c0 := x7.cell 0 (by decide)
   have c1 := x7.cell 1 (by decide)
   have c2 := x7.cell 2 (by decide)
   have z0 := x7.frozen 0
   have z1 := x7.frozen 1
   have z2 := x7.frozen 2
   refine store_at (i := 19) (w' := wy) #[true,true,true,true,true,true,true,true,true,true,true,true,true,true,true,true,true,true,true,true,false,false] (by kernel_rfl) rfl rfl rfl (by rfl) ?s1 ⟨e2.c0, e2.c1⟩ ?_
   case s1 => unfold ptr; rw [hwy1]; go_simp
   clear c0 c1 c2 z0 z1 z2 hwy1 x7 x8 x9
   obtain ⟨wz, hwz1⟩ : ∃ wz, wz = ((wy.setCell ⟨b8, 0, none⟩ (.int .i64 qb.1)).setCell ⟨b8, 1, none⟩ (.int .i64 qb.2.1)).setCell ⟨b8, 2, none⟩ (.int .i64 qb.2.2) := ⟨_, rfl⟩
   have e3 : ExpS w nb z Z C wz := by rw [hwz1]; exact expS_store e2 l8
   have z7 : Box3 wz b7 qa := by rw [hwz1]; exact box3_other y7 n78
   have z8 : Box3 wz b8 qb := by rw [hwz1]; exact box3_store y8
   have z9 : Box3 wz b9 (0, 0, 0) := by rw [hwz1]; exact box3_other y9 (Ne.symm n89)
   have c0 := y8.cell 0 (by decide)
   have c1 := y8.cell 1 (by decide)
   have c2 := y8.cell 2 (by decide)
   have z0 := y8.frozen 0
   have z1 := y8.frozen 1
   have z2 := y8.frozen 2
   refine store_at (i := 20) (w' := wz) #[true,true,true,true,true,true,true,true,true,true,true,true,true,true,true,true,true,true,true,true,true,false] (by kernel_rfl) rfl rfl rfl (by rfl) ?s2 ⟨e3.c0, e3.c1⟩ ?_
   case s2 => unfold ptr; rw [hwz1]; go_simp
   clear c0 c1 c2 z0 z1 z2 hwz1 y7 y8 y9
   obtain ⟨wv, hwv1⟩ : ∃ wv, wv = ((wz.setCell ⟨b9, 0, none⟩ (.int .i64 qd.1)).setCell ⟨b9, 1, none⟩ (.int .i64 qd.2.1)).setCell ⟨b9, 2, none⟩ (.int .i64 qd.2.2) := ⟨_, rfl⟩
   have e4 : ExpS w nb z Z C wv := by rw [hwv1]; exact expS_store e3 l9
   have v7 : Box3 wv b7 qa := by rw [hwv1]; exact box3_other z7 n79
   have v8 : Box3 wv b8 qb := by rw [hwv1]; exact box3_other z8 n89
   have v9 : Box3 wv b9 qd := by rw [hwv1]; exact box3_store z9
   have c0 := z9.cell 0 (by decide)
   have c1 := z9.cell 1 (by decide)
   have c2 := z9.cell 2 (by decide)
   have z0 := z9.frozen 0
   have z1 := z9.frozen 1
   have z2 := z9.frozen 2
   refine store_at (i := 21) (w' := wv) #[true,true,true,true,true,true,true,true,true,true,true,true,true,true,true,true,true,true,true,true,true,true] (by kernel_rfl) rfl rfl rfl (by rfl) ?s3 ⟨e4.c0, e4.c1⟩ ?_
   case s3 => unfold ptr; rw [hwv1]; go_simp
   refine wpAnyH_done (by kernel_rfl) ?_ _
   dsimp only
   unfold ptr
   go_wp2_with fail
   go_meet
   exact ⟨b7, b8, b9, rfl, rfl, rfl, e4.1, e4.2.2.2, v7, v8, v9, l7, l8, l9⟩
 case rest =>
  clear C1 C2 C3 hS0 HW
  obtain ⟨b7, b8, b9, rfl, rfl, rfl, hB, hR, x7, x8, x9, l7, l8, l9⟩ := hcut
  obtain ⟨W5, hW5⟩ : ∃ W5, W5 = wc.alloc (.cells #[.int .i64 0, .int .i64 0, .int .i64 0] 139) := ⟨_, rfl⟩
  have bb : Below wc.heap.size wc W5 := by rw [hW5]; exact (Below.refl _ _).alloc (Nat.le_refl _) _
  have HW5 : Hid (W5 = wc.alloc (.cells #[.int .i64 0, .int .i64 0, .int .i64 0] 139)) := hW5
  obtain ⟨O, hO⟩ : ∃ O, O = wc.heap.size := ⟨_, rfl⟩
  have HO : Hid (O = wc.heap.size) := hO
  have x5 : Box3 W5 O (part3 (Flm.exp3 z fs x y) 0) := by rw [hW5, hO]; exact Box3.new wc (0, 0, 0)
  have K0 : Hid (Box3 W5 b7 qa /\ Box3 W5 b8 qb /\ Box3 W5 b9 qd /\ Box3 W5 O (part3 (Flm.exp3 z fs x y) 0) /\ Box3 W5 (w.heap.size + 1) (0, 0, 0) /\ Below w.heap.size w W5) := ⟨box3_below x7 bb, box3_below x8 bb, box3_below x9 bb, x5, box3_below hR bb, hB.trans (bb.mono hB.size)⟩
  have NO : Hid (b7 ≠ O /\ b8 ≠ O /\ b9 ≠ O /\ w.heap.size + 1 ≠ O) := by
   have := x7.lt; have := x8.lt; have := x9.lt
   have h4 : w.heap.size + 1 < wc.heap.size := heap_lt0 hR
   refine ⟨by omega, by omega, by omega, by omega⟩
  have LO : w.heap.size <= O := by rw [hO]; exact hB.size
  clear x7 x8 x9 x5 hR hB bb hW5 hO
  go_wp2_with (first | (rw [<- HW5.out, <- HO.out]) | (rw [<- HO.out]))
  go_loopw [28] (fun kv wr => ∃ k : Nat, k <= 3 /\ kv = .int .i64 k /\ Box3 wr b7 qa /\ Box3 wr b8 qb /\ Box3 wr b9 qd /\ Box3 wr O (part3 (Flm.exp3 z fs x y) k) /\ Box3 wr (w.heap.size + 1) (0, 0, 0) /\ Below w.heap.size w wr) (fun kv _ => 3 - (intOf kv).toNat)
  case atStart => exact ⟨0, by omega, rfl, K0.out⟩
  case round =>
   obtain ⟨k, hk, rfl, hK⟩ := hrel
   obtain ⟨x7, x8, x9, xO, xR, hB⟩ := hK
   by_cases hk3 : k < 3
   ·have hk3' : (k : Int) < 3 := by omega
    have k7 := x7.cell k hk3
    have k8 := x8.cell k hk3
    have k9 := x9.cell k hk3
    have kO := xO.cell k hk3
    have zO := xO.frozen k
    obtain ⟨ak, hak⟩ : ∃ v, v = Flm.pick qa k := ⟨_, rfl⟩
    obtain ⟨bk, hbk⟩ : ∃ v, v = Flm.pick qb k := ⟨_, rfl⟩
    obtain ⟨dk, hdk⟩ : ∃ v, v = Flm.pick qd k := ⟨_, rfl⟩
    obtain ⟨bd0, bd1⟩ := HBD.out.1 k
    obtain ⟨bd2, bd3⟩ := HBD.out.2 k
    rw [<- hak] at k7 bd0 bd1
    rw [<- hbk] at k8 bd2 bd3
    rw [<- hdk] at k9
    have HEK : Hid (Flm.exp3 z fs x y k = Flm.expected ak bk dk) := by rw [hak, hbk, hdk]; exact HEX.out k
    have HK : Hid (Box3 wr b7 qa /\ Box3 wr b8 qb /\ Box3 wr b9 qd /\ Box3 wr O (part3 (Flm.exp3 z fs x y) k) /\ Box3 wr (w.heap.size + 1) (0, 0, 0) /\ Below w.heap.size w wr) := ⟨x7, x8, x9, xO, xR, hB⟩
    obtain ⟨u, hu⟩ : ∃ u, u = Flm.pick (part3 (Flm.exp3 z fs x y) k) k := ⟨_, rfl⟩
    rw [<- hu] at kO
    clear x7 x8 x9 xO xR hB hak hbk hdk hu
    go_wp2_with fail
    go_region_with (go_at_call 70; refine (pExpect _ ak bk dk (by omega) (by omega) (by omega) (by omega)).mono ?_; rintro e w2 ⟨rfl, hw⟩; rw [hw]; clear hw)
    all_goals
     go_wp2
     go_roundw
     case rel =>
      obtain ⟨x7, x8, x9, xO, xR, hB⟩ := HK.out
      have fo : ∀ (wx : World) (u : Value), Frm (fun t => t = O) wx (wx.setCell ⟨O, k, none⟩ u) := fun wx u => Frm.setCell (p := ⟨O, k, none⟩) (Frm.refl (fun t => t = O) wx) (.inl rfl) u
      have fd : Frm (fun _ => False) wr wr.drew := (Frm.refl _ _).drew
      obtain ⟨n7, n8, n9, nR⟩ := NO.out
      refine ⟨k + 1, by omega, by go_num, ?_, ?_, ?_, ?_, ?_, ?_⟩
      ·exact (x7.frm fd (fun e => e)).frm (fo _ _) n7
      ·exact (x8.frm fd (fun e => e)).frm (fo _ _) n8
      ·exact (x9.frm fd (fun e => e)).frm (fo _ _) n9
      ·have y4 : Box3 wr.drew O (part3 (Flm.exp3 z fs x y) k) := xO.frm fd (fun e => e)
       have := y4.put hk3
       rw [HEK.out] at this
       exact this
      ·exact (xR.frm fd (fun e => e)).frm (fo _ _) nR
      ·exact Below.setCell (below_drew hB) LO _
     case measure => simp [intOf]; omega
   ·have hk3' : ¬ ((k : Int) < 3) := by omega
    have e3 : k = 3 := by omega
    rw [e3] at xO
    clear e3
    have v0 : wr.cell? ⟨O, 0, none⟩ = some (.int .i64 (Flm.exp3 z fs x y 0)) := xO.cell 0 (by decide)
    have v1 : wr.cell? ⟨O, 1, none⟩ = some (.int .i64 (Flm.exp3 z fs x y 1)) := xO.cell 1 (by decide)
    have v2 : wr.cell? ⟨O, 2, none⟩ = some (.int .i64 (Flm.exp3 z fs x y 2)) := xO.cell 2 (by decide)
    obtain ⟨E0, hE0⟩ : ∃ E, E = Flm.exp3 z fs x y 0 := ⟨_, rfl⟩
    obtain ⟨E1, hE1⟩ : ∃ E, E = Flm.exp3 z fs x y 1 := ⟨_, rfl⟩
    obtain ⟨E2, hE2⟩ : ∃ E, E = Flm.exp3 z fs x y 2 := ⟨_, rfl⟩
    rw [<- hE0] at v0
    rw [<- hE1] at v1
    rw [<- hE2] at v2
    have HEE : Hid (E0 = Flm.exp3 z fs x y 0 /\ E1 = Flm.exp3 z fs x y 1 /\ E2 = Flm.exp3 z fs x y 2) := ⟨hE0, hE1, hE2⟩
    have s0 := xR.cell 0 (by decide)
    have s1 := xR.cell 1 (by decide)
    have s2 := xR.cell 2 (by decide)
    have z0 := xR.frozen 0
    have z1 := xR.frozen 1
    have z2 := xR.frozen 2
    have HB : Hid (Below w.heap.size w wr) := hB
    obtain ⟨X, hX⟩ : ∃ X, X = ((wr.setCell ⟨w.heap.size + 1, 0, none⟩ (.int .i64 E0)).setCell ⟨w.heap.size + 1, 1, none⟩ (.int .i64 E1)).setCell ⟨w.heap.size + 1, 2, none⟩ (.int .i64 E2) := ⟨_, rfl⟩
    have HX : Hid (Below w.heap.size w X) := by unfold Hid; rw [hX]; exact ((hB.setCell (p := ⟨w.heap.size + 1, 0, none⟩) (by show _ <= w.heap.size + 1; omega) _).setCell (p := ⟨w.heap.size + 1, 1, none⟩) (by show _ <= w.heap.size + 1; omega) _).setCell (p := ⟨w.heap.size + 1, 2, none⟩) (by show _ <= w.heap.size + 1; omega) _
    obtain ⟨q0, q1, q2, fX⟩ := three_set wr (w.heap.size + 1) _ _ _ s0 s1 s2 X hX
    clear x7 x8 x9 xO xR hB hE0 hE1 hE2
    go_wp2_with fail
    rw [<- hX]
    refine bodyPost_ret (v := .agg #[.int .i64 E0, .int .i64 E1, .int .i64 E2]) (by simp [results, Tryd.results59, go_sem, q0, q1, q2]) rfl ?_
    refine ⟨?_, HX.out⟩
    obtain ⟨e0, e1, e2⟩ := HEE.out
    rw [e0, e1, e2]
end Go.Proofs.YtekfbphnoibnjaaDoor
