/-
  PExp PDr3 PDr4
-/
import Derived.Test.YtekfbphnoibnjaaGreatDoorG21
set_option maxHeartbeats 4000000
namespace Go.Proofs.YtekfbphnoibnjaaGreatDoor
section
open Go.RowKit
open Flm (Px FS)
def Flm.exp3 (z:Nat) (fs:FS) (x y:Nat) (k:Nat):Int:=Flm.expected (Flm.pick (Flm.near z fs ((x:Int)-1) y) k) (Flm.pick (Flm.near z fs x ((y:Int)-1)) k) (Flm.pick (Flm.near z fs ((x:Int)-1) ((y:Int)-1)) k)
def ExpN (w:World) (qa qb qd:Px) (l1 l2 l3:Value) (wx:World):Prop:=∃ b7 b8 b9,l1=.pointer (some ⟨b7,0,none⟩)/\l2=.pointer (some ⟨b8,0,none⟩)/\l3=.pointer (some ⟨b9,0,none⟩)/\Below w.heap.size w wx/\wx.heap[w.heap.size+1]?=some (.cells #[.int .i64 0,.int .i64 0,.int .i64 0] 48 (0,0))/\Box3 wx b7 qa/\Box3 wx b8 qb/\Box3 wx b9 qd/\w.heap.size+1<b7/\w.heap.size+1<b8/\w.heap.size+1<b9
theorem box3_store {wx:World} {b:Nat} {q q':Px} (h:Box3 wx b q):Box3 (((wx.setCell ⟨b,0,none⟩ (.int .i64 q'.1)).setCell ⟨b,1,none⟩ (.int .i64 q'.2.1)).setCell ⟨b,2,none⟩ (.int .i64 q'.2.2)) b q':=by
 have h1:=Go.heap_setCell_same wx b 0 _ _ (.int .i64 q'.1) h
 have h2:=Go.heap_setCell_same _ b 1 _ _ (.int .i64 q'.2.1) h1
 have h3:=Go.heap_setCell_same _ b 2 _ _ (.int .i64 q'.2.2) h2
 unfold Box3
 rw [h3]
 simp
theorem box3_other {wx:World} {b b':Nat} {q:Px} {u0 u1 u2:Value} (h:Box3 wx b q) (hn:b ≠ b'):Box3 (((wx.setCell ⟨b',0,none⟩ u0).setCell ⟨b',1,none⟩ u1).setCell ⟨b',2,none⟩ u2) b q:=by
 unfold Box3
 rw [Below.heap_setCell _ ⟨b',2,none⟩ _ b hn,Below.heap_setCell _ ⟨b',1,none⟩ _ b hn,Below.heap_setCell _ ⟨b',0,none⟩ _ b hn]
 exact h
theorem expS_store {w wx:World} {nb z Z C b:Nat} {u0 u1 u2:Value} (h:ExpS w nb z Z C wx) (hb:w.heap.size+1<b):ExpS w nb z Z C (((wx.setCell ⟨b,0,none⟩ u0).setCell ⟨b,1,none⟩ u1).setCell ⟨b,2,none⟩ u2):=((h.st hb).st hb).st hb
set_option maxRecDepth 20000 in
theorem pExpected {C:Nat} (w:World) (nb z:Nat) (ps:List Px) (hz:z*z<=256) (hz0:z<=16) (h:PixIn w nb (z*z) ps) (hp:∀ k,Flm.okPx (ps.getD k (0,0,0))) (fs:FS) (hps:ps=fs.frs.getD (Flm.now fs) []) (hpx:∀ i k,Flm.okPx (Flm.px fs i k)) (x y:Nat) (hx1:x<z) (hy1:y<z) :
  Calls Tryz.prog 133 #[.agg #[.int .i64 z,.slice (some ⟨nb,0,none⟩) (z*z) C],.int .i64 x,.int .i64 y] w fun e w'=>e=.returned (.agg #[.int .i64 (Flm.exp3 z fs x y 0),.int .i64 (Flm.exp3 z fs x y 1),.int .i64 (Flm.exp3 z fs x y 2)])/\Below w.heap.size w w':=by
 obtain ⟨Z,hZ⟩:∃ Z,Z=z*z:=⟨_,rfl⟩
 have HA:∀ wx (X Y:Int),X<z->Y<z->ExpS w nb z Z C wx->Calls Tryz.prog 132 #[.agg #[.int .i64 z,.slice (some ⟨nb,0,none⟩) Z C],.int .i64 X,.int .i64 Y] wx fun e w'=>e=.returned (.agg #[.int .i64 (Flm.near z fs X Y).1,.int .i64 (Flm.near z fs X Y).2.1,.int .i64 (Flm.near z fs X Y).2.2])/\Below wx.heap.size wx w':=fun wx X Y hX hY hb=>by
  rw [hZ]
  exact pTurned (C:=C) wx nb z ps hz (h.frm (Frm.of_below (S:=fun _=>False) hb.1) (fun e=>e)) hp fs hps X Y hX hY
 obtain ⟨qa,hqa⟩:∃ q,q=Flm.near z fs ((x:Int)-1) y:=⟨_,rfl⟩
 obtain ⟨qb,hqb⟩:∃ q,q=Flm.near z fs x ((y:Int)-1):=⟨_,rfl⟩
 obtain ⟨qd,hqd⟩:∃ q,q=Flm.near z fs ((x:Int)-1) ((y:Int)-1):=⟨_,rfl⟩
 have C1:Hid (∀ wx,ExpS w nb z Z C wx->Calls Tryz.prog 132 #[.agg #[.int .i64 z,.slice (some ⟨nb,0,none⟩) Z C],.int .i64 ((x:Int)-1),.int .i64 y] wx fun e w'=>e=.returned (.agg #[.int .i64 qa.1,.int .i64 qa.2.1,.int .i64 qa.2.2])/\Below wx.heap.size wx w'):=fun wx hb=>by rw [hqa];exact HA wx ((x:Int)-1) y (by omega) (by omega) hb
 have C2:Hid (∀ wx,ExpS w nb z Z C wx->Calls Tryz.prog 132 #[.agg #[.int .i64 z,.slice (some ⟨nb,0,none⟩) Z C],.int .i64 x,.int .i64 ((y:Int)-1)] wx fun e w'=>e=.returned (.agg #[.int .i64 qb.1,.int .i64 qb.2.1,.int .i64 qb.2.2])/\Below wx.heap.size wx w'):=fun wx hb=>by rw [hqb];exact HA wx x ((y:Int)-1) (by omega) (by omega) hb
 have C3:Hid (∀ wx,ExpS w nb z Z C wx->Calls Tryz.prog 132 #[.agg #[.int .i64 z,.slice (some ⟨nb,0,none⟩) Z C],.int .i64 ((x:Int)-1),.int .i64 ((y:Int)-1)] wx fun e w'=>e=.returned (.agg #[.int .i64 qd.1,.int .i64 qd.2.1,.int .i64 qd.2.2])/\Below wx.heap.size wx w'):=fun wx hb=>by rw [hqd];exact HA wx ((x:Int)-1) ((y:Int)-1) (by omega) (by omega) hb
 have HBD:Hid ((∀ k,-255<=Flm.pick qa k/\Flm.pick qa k<=255)/\(∀ k,-255<=Flm.pick qb k/\Flm.pick qb k<=255)):=by rw [hqa,hqb];exact ⟨fun k=>Flm.near_bd hpx _ _ k,fun k=>Flm.near_bd hpx _ _ k⟩
 have HEX:Hid (∀ k,Flm.exp3 z fs x y k=Flm.expected (Flm.pick qa k) (Flm.pick qb k) (Flm.pick qd k)):=fun k=>by rw [hqa,hqb,hqd];rfl
 rw [<- hZ]
 obtain ⟨W,hW⟩:∃ W,W=(w.alloc (.cells #[.int .i64 z,.slice (some ⟨nb,0,none⟩) Z C] 89)).alloc (.cells #[.int .i64 0,.int .i64 0,.int .i64 0] 48):=⟨_,rfl⟩
 have hS0:ExpS w nb z Z C W:=by
  have h1:=heap_alloc_last (w.alloc (.cells #[.int .i64 z,.slice (some ⟨nb,0,none⟩) Z C] 89)) (.cells #[.int .i64 0,.int .i64 0,.int .i64 0] 48)
  rw [World.size_alloc,<- hW] at h1
  refine ⟨by rw [hW];exact ((Below.refl _ _).alloc (Nat.le_refl _) _).alloc (by simp) _,by rw [hW];simp,?_,h1⟩
  rw [hW,Below.heap_alloc _ _ _ (by simp)]
  exact heap_alloc_last w _
 have HW:Hid (W=(w.alloc (.cells #[.int .i64 z,.slice (some ⟨nb,0,none⟩) Z C] 89)).alloc (.cells #[.int .i64 0,.int .i64 0,.int .i64 0] 48)):=hW
 have hwx:IntKind.i64.wrap ((x:Int)-1)=(x:Int)-1:=by rw [IntKind.wrap_i64];omega
 have hwy:IntKind.i64.wrap ((y:Int)-1)=(y:Int)-1:=by rw [IntKind.wrap_i64];omega
 clear h hp hps hpx hZ hz hW hqa hqb hqd HA
 go_enter Tryz.func133,Tryz.ntmps133
 go_upto_region 1 with fail
 rw [<- HW.out]
 go_cut [7,8,9] (fun l1 l2 l3 wx=>ExpN w qa qb qd l1 l2 l3 wx)
 case first =>
  have hmx:Tryz.prog.follows .mixedOrders=true:=by kernel_rfl
  refine wp_region_held (S:=fun w'=>w'.cell? ⟨w.heap.size,0,none⟩=some (.int .i64 z)/\w'.cell? ⟨w.heap.size,1,none⟩=some (.slice (some ⟨nb,0,none⟩) Z C)) hmx ?_
  have hS1:(W.drew.cell? ⟨w.heap.size,0,none⟩=some (.int .i64 z)/\W.drew.cell? ⟨w.heap.size,1,none⟩=some (.slice (some ⟨nb,0,none⟩) Z C)):=⟨hS0.c0,hS0.c1⟩
  show wpAnyH _ _ _ _ _ 22 #[false,false,false,false,false,false,false,false,false,false,false,false,false,false,false,false,false,false,false,false,false,false] _ W.drew
  refine tk_at 0 12 (.agg #[.int .i64 z,.slice (some ⟨nb,0,none⟩) Z C]) #[true,false,false,false,false,false,false,false,false,false,false,false,false,false,false,false,false,false,false,false,false,false] rfl rfl rfl (by kernel_rfl) (by rfl) (by rintro w ⟨t0,t1⟩;go_simp) (by assumption) ?_
  simp only [sIb,sCs,sCz]
  refine tk_at 1 13 (.int .i64 x) #[true,true,false,false,false,false,false,false,false,false,false,false,false,false,false,false,false,false,false,false,false,false] rfl rfl rfl (by kernel_rfl) (by rfl) (by rintro w ⟨t0,t1⟩;go_simp) (by assumption) ?_
  simp only [sIb,sCs,sCz]
  refine tk_at 2 14 (.int .i64 ((x:Int)-1)) #[true,true,true,false,false,false,false,false,false,false,false,false,false,false,false,false,false,false,false,false,false,false] rfl rfl rfl (by kernel_rfl) (by rfl) (by rintro w ⟨t0,t1⟩;go_simp) (by assumption) ?_
  simp only [sIb,sCs,sCz]
  refine tk_at 3 15 (.int .i64 y) #[true,true,true,true,false,false,false,false,false,false,false,false,false,false,false,false,false,false,false,false,false,false] rfl rfl rfl (by kernel_rfl) (by rfl) (by rintro w ⟨t0,t1⟩;go_simp) (by assumption) ?_
  simp only [sIb,sCs,sCz]
  refine tk_at 5 17 (.agg #[.int .i64 z,.slice (some ⟨nb,0,none⟩) Z C]) #[true,true,true,true,false,true,false,false,false,false,false,false,false,false,false,false,false,false,false,false,false,false] rfl rfl rfl (by kernel_rfl) (by rfl) (by rintro w ⟨t0,t1⟩;go_simp) (by assumption) ?_
  simp only [sIb,sCs,sCz]
  refine tk_at 6 18 (.int .i64 x) #[true,true,true,true,false,true,true,false,false,false,false,false,false,false,false,false,false,false,false,false,false,false] rfl rfl rfl (by kernel_rfl) (by rfl) (by rintro w ⟨t0,t1⟩;go_simp) (by assumption) ?_
  simp only [sIb,sCs,sCz]
  refine tk_at 7 19 (.int .i64 y) #[true,true,true,true,false,true,true,true,false,false,false,false,false,false,false,false,false,false,false,false,false,false] rfl rfl rfl (by kernel_rfl) (by rfl) (by rintro w ⟨t0,t1⟩;go_simp) (by assumption) ?_
  simp only [sIb,sCs,sCz]
  refine tk_at 8 20 (.int .i64 ((y:Int)-1)) #[true,true,true,true,false,true,true,true,true,false,false,false,false,false,false,false,false,false,false,false,false,false] rfl rfl rfl (by kernel_rfl) (by rfl) (by rintro w ⟨t0,t1⟩;go_simp) (by assumption) ?_
  simp only [sIb,sCs,sCz]
  refine tk_at 10 22 (.agg #[.int .i64 z,.slice (some ⟨nb,0,none⟩) Z C]) #[true,true,true,true,false,true,true,true,true,false,true,false,false,false,false,false,false,false,false,false,false,false] rfl rfl rfl (by kernel_rfl) (by rfl) (by rintro w ⟨t0,t1⟩;go_simp) (by assumption) ?_
  simp only [sIb,sCs,sCz]
  refine tk_at 11 23 (.int .i64 x) #[true,true,true,true,false,true,true,true,true,false,true,true,false,false,false,false,false,false,false,false,false,false] rfl rfl rfl (by kernel_rfl) (by rfl) (by rintro w ⟨t0,t1⟩;go_simp) (by assumption) ?_
  simp only [sIb,sCs,sCz]
  refine tk_at 12 24 (.int .i64 ((x:Int)-1)) #[true,true,true,true,false,true,true,true,true,false,true,true,true,false,false,false,false,false,false,false,false,false] rfl rfl rfl (by kernel_rfl) (by rfl) (by rintro w ⟨t0,t1⟩;go_simp) (by assumption) ?_
  simp only [sIb,sCs,sCz]
  refine tk_at 13 25 (.int .i64 y) #[true,true,true,true,false,true,true,true,true,false,true,true,true,true,false,false,false,false,false,false,false,false] rfl rfl rfl (by kernel_rfl) (by rfl) (by rintro w ⟨t0,t1⟩;go_simp) (by assumption) ?_
  simp only [sIb,sCs,sCz]
  refine tk_at 14 26 (.int .i64 ((y:Int)-1)) #[true,true,true,true,false,true,true,true,true,false,true,true,true,true,true,false,false,false,false,false,false,false] rfl rfl rfl (by kernel_rfl) (by rfl) (by rintro w ⟨t0,t1⟩;go_simp) (by assumption) ?_
  simp only [sIb,sCs,sCz]
  refine exp_law (w:=w) (nb:=nb) (z:=z) (Z:=Z) (C:=C) (fn:=132) (g1:=#[.agg #[.int .i64 z,.slice (some ⟨nb,0,none⟩) Z C],.int .i64 ((x:Int)-1),.int .i64 y]) (g2:=#[.agg #[.int .i64 z,.slice (some ⟨nb,0,none⟩) Z C],.int .i64 x,.int .i64 ((y:Int)-1)]) (g3:=#[.agg #[.int .i64 z,.slice (some ⟨nb,0,none⟩) Z C],.int .i64 ((x:Int)-1),.int .i64 ((y:Int)-1)]) (v1:=.agg #[.int .i64 qa.1,.int .i64 qa.2.1,.int .i64 qa.2.2]) (v2:=.agg #[.int .i64 qb.1,.int .i64 qb.2.1,.int .i64 qb.2.2]) (v3:=.agg #[.int .i64 qd.1,.int .i64 qd.2.1,.int .i64 qd.2.2]) (fun k16 k21 k27 k7 k8 k9=>#[.agg #[.int .i64 z,.slice (some ⟨nb,0,none⟩) Z C],.int .i64 x,.int .i64 y,.pointer (some ⟨w.heap.size,0,none⟩),undef,undef,.pointer (some ⟨w.heap.size+1,0,none⟩),k7,k8,k9,undef,undef,.agg #[.int .i64 z,.slice (some ⟨nb,0,none⟩) Z C],.int .i64 x,.int .i64 ((x:Int)-1),.int .i64 y,k16,.agg #[.int .i64 z,.slice (some ⟨nb,0,none⟩) Z C],.int .i64 x,.int .i64 y,.int .i64 ((y:Int)-1),k21,.agg #[.int .i64 z,.slice (some ⟨nb,0,none⟩) Z C],.int .i64 x,.int .i64 ((x:Int)-1),.int .i64 y,.int .i64 ((y:Int)-1),k27,undef,undef,undef,undef,undef,undef,undef,undef,undef,undef,undef,undef,undef,undef,undef,undef,undef]) (fun e1 e2 e3 e7 e8 e9=>#[true,true,true,true,e1,true,true,true,true,e2,true,true,true,true,true,e3,e7,e8,e9,false,false,false]) rfl rfl rfl rfl rfl rfl rfl rfl rfl rfl rfl rfl (fun _=>rfl) (fun _=>rfl) (fun _=>rfl) (fun _=>rfl) (fun _=>rfl) (fun _=>rfl)
   (fun _ _ _ _ _ _ _=>rfl) (fun _ _ _ _ _ _ _=>rfl) (fun _ _ _ _ _ _ _=>rfl) (fun _ _ _ _ _ _ _=>rfl) (fun _ _ _ _ _ _ _=>rfl) (fun _ _ _ _ _ _ _=>rfl)
   (fun _ _ _ _ _ _=>rfl) (fun _ _ _ _ _ _=>rfl) (fun _ _ _ _ _ _=>rfl) (fun _ _ _ _ _ _=>rfl) (fun _ _ _ _ _ _=>rfl) (fun _ _ _ _ _ _=>rfl)
   ?hr ?r4 ?r9 ?r15 ?r16 ?r17 ?r18 C1.out C2.out C3.out (fun wx hx=>⟨hx.c0,hx.c1⟩) ?hend 6 false false false false false false 0 0 0 W.drew rfl (fun h=>by cases h) (fun h=>by cases h) ⟨hS0.drew1,fun h=>(by cases h),fun h=>(by cases h),fun h=>(by cases h),fun h=>(by cases h),fun h=>(by cases h),fun h=>(by cases h)⟩
  case hr =>
   intro c1 c2 c3 a7 a8 a9
   cases c1 <;> cases c2 <;> cases c3 <;> cases a7 <;> cases a8 <;> cases a9 <;> first|(intro h;exact absurd h (by decide))|(intro _;kernel_rfl)
  case r4=>intro _ _ _ _ _ _ wq;go_simp
  case r9=>intro _ _ _ _ _ _ wq;go_simp
  case r15=>intro _ _ _ _ _ _ wq;go_simp
  case r16=>intro _ _ _ _ _ _ wq;go_simp;exact ⟨rfl,rfl⟩
  case r17=>intro _ _ _ _ _ _ wq;go_simp;exact ⟨rfl,rfl⟩
  case r18=>intro _ _ _ _ _ _ wq;go_simp;exact ⟨rfl,rfl⟩
  case hend =>
   intro b7 b8 b9 wx hj
   obtain ⟨x7,l7⟩:=hj.h7 rfl
   obtain ⟨x8,l8⟩:=hj.h8 rfl
   obtain ⟨x9,l9⟩:=hj.h9 rfl
   have n78:=hj.d78 rfl rfl
   have n79:=hj.d79 rfl rfl
   have n89:=hj.d89 rfl rfl
   have e1:=hj.ex
   clear hj
   obtain ⟨wy,hwy1⟩:∃ wy,wy=((wx.setCell ⟨b7,0,none⟩ (.int .i64 qa.1)).setCell ⟨b7,1,none⟩ (.int .i64 qa.2.1)).setCell ⟨b7,2,none⟩ (.int .i64 qa.2.2):=⟨_,rfl⟩
   have e2:ExpS w nb z Z C wy:=by rw [hwy1];exact expS_store e1 l7
   have y7:Box3 wy b7 qa:=by rw [hwy1];exact box3_store x7
   have y8:Box3 wy b8 (0,0,0):=by rw [hwy1];exact box3_other x8 (Ne.symm n78)
   have y9:Box3 wy b9 (0,0,0):=by rw [hwy1];exact box3_other x9 (Ne.symm n79)
   have c0:=x7.cell 0 (by decide)
   have c1:=x7.cell 1 (by decide)
   have c2:=x7.cell 2 (by decide)
   have z0:=x7.frozen 0
   have z1:=x7.frozen 1
   have z2:=x7.frozen 2
   refine store_at (i:=19) (w':=wy) #[true,true,true,true,true,true,true,true,true,true,true,true,true,true,true,true,true,true,true,true,false,false] (by kernel_rfl) rfl rfl rfl (by rfl) ?s1 ⟨e2.c0,e2.c1⟩ ?_
   case s1=>unfold ptr;rw [hwy1];go_simp
   clear c0 c1 c2 z0 z1 z2 hwy1 x7 x8 x9
   obtain ⟨wz,hwz1⟩:∃ wz,wz=((wy.setCell ⟨b8,0,none⟩ (.int .i64 qb.1)).setCell ⟨b8,1,none⟩ (.int .i64 qb.2.1)).setCell ⟨b8,2,none⟩ (.int .i64 qb.2.2):=⟨_,rfl⟩
   have e3:ExpS w nb z Z C wz:=by rw [hwz1];exact expS_store e2 l8
   have z7:Box3 wz b7 qa:=by rw [hwz1];exact box3_other y7 n78
   have z8:Box3 wz b8 qb:=by rw [hwz1];exact box3_store y8
   have z9:Box3 wz b9 (0,0,0):=by rw [hwz1];exact box3_other y9 (Ne.symm n89)
   have c0:=y8.cell 0 (by decide)
   have c1:=y8.cell 1 (by decide)
   have c2:=y8.cell 2 (by decide)
   have z0:=y8.frozen 0
   have z1:=y8.frozen 1
   have z2:=y8.frozen 2
   refine store_at (i:=20) (w':=wz) #[true,true,true,true,true,true,true,true,true,true,true,true,true,true,true,true,true,true,true,true,true,false] (by kernel_rfl) rfl rfl rfl (by rfl) ?s2 ⟨e3.c0,e3.c1⟩ ?_
   case s2=>unfold ptr;rw [hwz1];go_simp
   clear c0 c1 c2 z0 z1 z2 hwz1 y7 y8 y9
   obtain ⟨wv,hwv1⟩:∃ wv,wv=((wz.setCell ⟨b9,0,none⟩ (.int .i64 qd.1)).setCell ⟨b9,1,none⟩ (.int .i64 qd.2.1)).setCell ⟨b9,2,none⟩ (.int .i64 qd.2.2):=⟨_,rfl⟩
   have e4:ExpS w nb z Z C wv:=by rw [hwv1];exact expS_store e3 l9
   have v7:Box3 wv b7 qa:=by rw [hwv1];exact box3_other z7 n79
   have v8:Box3 wv b8 qb:=by rw [hwv1];exact box3_other z8 n89
   have v9:Box3 wv b9 qd:=by rw [hwv1];exact box3_store z9
   have c0:=z9.cell 0 (by decide)
   have c1:=z9.cell 1 (by decide)
   have c2:=z9.cell 2 (by decide)
   have z0:=z9.frozen 0
   have z1:=z9.frozen 1
   have z2:=z9.frozen 2
   refine store_at (i:=21) (w':=wv) #[true,true,true,true,true,true,true,true,true,true,true,true,true,true,true,true,true,true,true,true,true,true] (by kernel_rfl) rfl rfl rfl (by rfl) ?s3 ⟨e4.c0,e4.c1⟩ ?_
   case s3=>unfold ptr;rw [hwv1];go_simp
   refine wpAnyH_done (by kernel_rfl) ?_ _
   dsimp only
   unfold ptr
   go_wp2_with fail
   go_meet
   exact ⟨b7,b8,b9,rfl,rfl,rfl,e4.1,e4.2.2.2,v7,v8,v9,l7,l8,l9⟩
 case rest =>
  clear C1 C2 C3 hS0 HW
  obtain ⟨b7,b8,b9,rfl,rfl,rfl,hB,hR,x7,x8,x9,l7,l8,l9⟩:=hcut
  obtain ⟨W5,hW5⟩:∃ W5,W5=wc.alloc (.cells #[.int .i64 0,.int .i64 0,.int .i64 0] 48):=⟨_,rfl⟩
  have bb:Below wc.heap.size wc W5:=by rw [hW5];exact (Below.refl _ _).alloc (Nat.le_refl _) _
  have HW5:Hid (W5=wc.alloc (.cells #[.int .i64 0,.int .i64 0,.int .i64 0] 48)):=hW5
  obtain ⟨O,hO⟩:∃ O,O=wc.heap.size:=⟨_,rfl⟩
  have HO:Hid (O=wc.heap.size):=hO
  have x5:Box3 W5 O (part3 (Flm.exp3 z fs x y) 0):=by rw [hW5,hO];exact Box3.new wc (0,0,0)
  have K0:Hid (Box3 W5 b7 qa/\Box3 W5 b8 qb/\Box3 W5 b9 qd/\Box3 W5 O (part3 (Flm.exp3 z fs x y) 0)/\Box3 W5 (w.heap.size+1) (0,0,0)/\Below w.heap.size w W5):=⟨box3_below x7 bb,box3_below x8 bb,box3_below x9 bb,x5,box3_below hR bb,hB.trans (bb.mono hB.size)⟩
  have NO:Hid (b7 ≠ O/\b8 ≠ O/\b9 ≠ O/\w.heap.size+1 ≠ O):=by
   have:=x7.lt;have:=x8.lt;have:=x9.lt
   have h4:w.heap.size+1<wc.heap.size:=heap_lt0 hR
   refine ⟨by omega,by omega,by omega,by omega⟩
  have LO:w.heap.size<=O:=by rw [hO];exact hB.size
  clear x7 x8 x9 x5 hR hB bb hW5 hO
  go_wp2_with (first|(rw [<- HW5.out,<- HO.out])|(rw [<- HO.out]))
  go_loopw [28] (fun kv wr=>∃ k:Nat,k<=3/\kv=.int .i64 k/\Box3 wr b7 qa/\Box3 wr b8 qb/\Box3 wr b9 qd/\Box3 wr O (part3 (Flm.exp3 z fs x y) k)/\Box3 wr (w.heap.size+1) (0,0,0)/\Below w.heap.size w wr) (fun kv _=>3-(intOf kv).toNat)
  case atStart=>exact ⟨0,by omega,rfl,K0.out⟩
  case round =>
   obtain ⟨k,hk,rfl,hK⟩:=hrel
   obtain ⟨x7,x8,x9,xO,xR,hB⟩:=hK
   by_cases hk3:k<3
   ·have hk3':(k:Int)<3:=by omega
    have k7:=x7.cell k hk3
    have k8:=x8.cell k hk3
    have k9:=x9.cell k hk3
    have kO:=xO.cell k hk3
    have zO:=xO.frozen k
    obtain ⟨ak,hak⟩:∃ v,v=Flm.pick qa k:=⟨_,rfl⟩
    obtain ⟨bk,hbk⟩:∃ v,v=Flm.pick qb k:=⟨_,rfl⟩
    obtain ⟨dk,hdk⟩:∃ v,v=Flm.pick qd k:=⟨_,rfl⟩
    obtain ⟨bd0,bd1⟩:=HBD.out.1 k
    obtain ⟨bd2,bd3⟩:=HBD.out.2 k
    rw [<- hak] at k7 bd0 bd1
    rw [<- hbk] at k8 bd2 bd3
    rw [<- hdk] at k9
    have HEK:Hid (Flm.exp3 z fs x y k=Flm.expected ak bk dk):=by rw [hak,hbk,hdk];exact HEX.out k
    have HK:Hid (Box3 wr b7 qa/\Box3 wr b8 qb/\Box3 wr b9 qd/\Box3 wr O (part3 (Flm.exp3 z fs x y) k)/\Box3 wr (w.heap.size+1) (0,0,0)/\Below w.heap.size w wr):=⟨x7,x8,x9,xO,xR,hB⟩
    obtain ⟨u,hu⟩:∃ u,u=Flm.pick (part3 (Flm.exp3 z fs x y) k) k:=⟨_,rfl⟩
    rw [<- hu] at kO
    clear x7 x8 x9 xO xR hB hak hbk hdk hu
    go_wp2_with fail
    go_region_with (go_at_call 155;refine (pExpect _ ak bk dk (by omega) (by omega) (by omega) (by omega)).mono ?_;rintro e w2 ⟨rfl,hw⟩;rw [hw];clear hw)
    all_goals
     go_wp2
     go_roundw
     case rel =>
      obtain ⟨x7,x8,x9,xO,xR,hB⟩:=HK.out
      have fo:∀ (wx:World) (u:Value),Frm (fun t=>t=O) wx (wx.setCell ⟨O,k,none⟩ u):=fun wx u=>Frm.setCell (p:=⟨O,k,none⟩) (Frm.refl (fun t=>t=O) wx) (.inl rfl) u
      have fd:Frm (fun _=>False) wr wr.drew:=(Frm.refl _ _).drew
      obtain ⟨n7,n8,n9,nR⟩:=NO.out
      refine ⟨k+1,by omega,by go_num,?_,?_,?_,?_,?_,?_⟩
      ·exact (x7.frm fd (fun e=>e)).frm (fo _ _) n7
      ·exact (x8.frm fd (fun e=>e)).frm (fo _ _) n8
      ·exact (x9.frm fd (fun e=>e)).frm (fo _ _) n9
      ·have y4:Box3 wr.drew O (part3 (Flm.exp3 z fs x y) k):=xO.frm fd (fun e=>e)
       have:=y4.put hk3
       rw [HEK.out] at this
       exact this
      ·exact (xR.frm fd (fun e=>e)).frm (fo _ _) nR
      ·exact Below.setCell (below_drew hB) LO _
     case measure=>simp [intOf];omega
   ·have hk3':¬ ((k:Int)<3):=by omega
    have e3:k=3:=by omega
    rw [e3] at xO
    clear e3
    have v0:wr.cell? ⟨O,0,none⟩=some (.int .i64 (Flm.exp3 z fs x y 0)):=xO.cell 0 (by decide)
    have v1:wr.cell? ⟨O,1,none⟩=some (.int .i64 (Flm.exp3 z fs x y 1)):=xO.cell 1 (by decide)
    have v2:wr.cell? ⟨O,2,none⟩=some (.int .i64 (Flm.exp3 z fs x y 2)):=xO.cell 2 (by decide)
    obtain ⟨E0,hE0⟩:∃ E,E=Flm.exp3 z fs x y 0:=⟨_,rfl⟩
    obtain ⟨E1,hE1⟩:∃ E,E=Flm.exp3 z fs x y 1:=⟨_,rfl⟩
    obtain ⟨E2,hE2⟩:∃ E,E=Flm.exp3 z fs x y 2:=⟨_,rfl⟩
    rw [<- hE0] at v0
    rw [<- hE1] at v1
    rw [<- hE2] at v2
    have HEE:Hid (E0=Flm.exp3 z fs x y 0/\E1=Flm.exp3 z fs x y 1/\E2=Flm.exp3 z fs x y 2):=⟨hE0,hE1,hE2⟩
    have s0:=xR.cell 0 (by decide)
    have s1:=xR.cell 1 (by decide)
    have s2:=xR.cell 2 (by decide)
    have z0:=xR.frozen 0
    have z1:=xR.frozen 1
    have z2:=xR.frozen 2
    have HB:Hid (Below w.heap.size w wr):=hB
    obtain ⟨X,hX⟩:∃ X,X=((wr.setCell ⟨w.heap.size+1,0,none⟩ (.int .i64 E0)).setCell ⟨w.heap.size+1,1,none⟩ (.int .i64 E1)).setCell ⟨w.heap.size+1,2,none⟩ (.int .i64 E2):=⟨_,rfl⟩
    have HX:Hid (Below w.heap.size w X):=by unfold Hid;rw [hX];exact ((hB.setCell (p:=⟨w.heap.size+1,0,none⟩) (by show _<=w.heap.size+1;omega) _).setCell (p:=⟨w.heap.size+1,1,none⟩) (by show _<=w.heap.size+1;omega) _).setCell (p:=⟨w.heap.size+1,2,none⟩) (by show _<=w.heap.size+1;omega) _
    obtain ⟨q0,q1,q2,fX⟩:=three_set wr (w.heap.size+1) _ _ _ s0 s1 s2 X hX
    clear x7 x8 x9 xO xR hB hE0 hE1 hE2
    go_wp2_with fail
    rw [<- hX]
    refine bodyPost_ret (v:=.agg #[.int .i64 E0,.int .i64 E1,.int .i64 E2]) (by simp [results,Tryz.results133,go_sem,q0,q1,q2]) rfl ?_
    refine ⟨?_,HX.out⟩
    obtain ⟨e0,e1,e2⟩:=HEE.out
    rw [e0,e1,e2]
end
section
open Go.RowKit
def crsCells (r:Int) (ch:List Int):List Value:=.int .u32 r :: ch.map (Value.int .u32)
theorem crsCells_len {r:Int} {ch:List Int} (h:ch.length=400):(crsCells r ch).length=401:=by unfold crsCells;simp [h]
theorem Crs.range {w:World} {b:Nat} {r:Int} {ch:List Int} (h:Crs w b r ch):w.rangeAt b 0 (crsCells r ch):=by
 intro j v hv
 unfold crsCells at hv
 rw [Nat.zero_add]
 cases j with
 | zero =>
  have:Value.int .u32 r=v:=by simpa using hv
  rw [<- this];exact h.c2
 | succ j =>
  rw [List.getElem?_cons_succ,List.getElem?_map] at hv
  have hj:j<400:=by
   rcases Nat.lt_or_ge j 400 with h1|h1
   ·exact h1
   ·rw [List.getElem?_eq_none (by rw [h.ch.len];exact h1)] at hv;cases hv
  have hc:=h.ch.cell j hj
  rw [List.getD_eq_getElem?_getD] at hc
  rw [List.getElem?_eq_getElem (by rw [h.ch.len];exact hj)] at hc hv
  cases hv
  rw [Nat.add_comm j 1]
  exact hc
theorem crsCells_one (r:Int) (ch:List Int):∀ u ∈ crsCells r ch,u.oneCell'=true:=by
 intro u hu
 unfold crsCells at hu
 rcases List.mem_cons.1 hu with rfl|hu
 ·rfl
 ·obtain ⟨z,_,rfl⟩:=List.mem_map.1 hu
  rfl
theorem crsSize:(Tryz.prog.info? 147).map (·.size)=some 401:=by kernel_rfl
section
variable {P:Program} {ops:Array Oper} {Q:Exit->Act->World->Prop} {md:Region.Mode}
theorem take_mid {S:World->Prop} {i d:Nat} {oi:Oper} {fuel:Nat} {listed:Array Bool} (L:Array Bool) {a:Act} {w:World} (hi:ops[i]?=some oi) (hd:oi.dst=some d) (hL:listed.setIfInBounds i true=L)
  (hs:Region.noSelect ops=true) (hf:Region.free md ops listed i=true) (hr:(Region.ready md ops listed).contains i=true)
  (hQ:∀ c a w v,Q (.panic c) (a.put oi.dst v) w->Q (.panic c) a w) (hw:Region.wanted oi (yielded ops a.tmps)=true) (ty:TypeId) (x:Operand) (ho:oi.op=.load ty x) (b o:Nat) (hx:a.eval x=.pointer (some ⟨b,o,none⟩)) (cs:List Value) (ds:TypeDesc)
  (hc:∀ w,S w->w.rangeAt b o cs) (hu:P.underlying ty=some ds) (hd':ds.isRow=true) (hi':(P.info? ty).map (·.size)=some cs.length) (hS:S w)
  (h:wpAnyH P md ops Q S fuel L { tmps:=a.tmps.setIfInBounds d (.agg cs.toArray),defers:=a.defers } w):wpAnyH P md ops Q S (fuel+1) listed a w :=
 take_at L hi hd hL hs hf hr (fun c a w=>hQ c a w _) hw (fun w hw'=>by
  unfold execOp
  simp only [ho,hx,Instr.loadAt,Instr.sureAddr,Sem.run_bind,Sem.run_pure,Result.andThen_ok,run_loadVar_mid w b o ty cs ds (hc w hw') hu hd' hi']) hS h
end
theorem laid_course (w:World) (Z:Array Value) (ty:TypeId) (hZ:Z.size=403) {r:Int} {ch:List Int} (hl:ch.length=400) (m:Int) {C:Array Value} (hC:C=(laidAt Z 0 (crsCells r ch).toArray).setIfInBounds 401 (.int .i64 m)) :
  Crs (w.alloc (.cells C ty)) w.heap.size r ch/\(w.alloc (.cells C ty)).cell? ⟨w.heap.size,401,none⟩=some (.int .i64 m)/\(w.alloc (.cells C ty)).cell? ⟨w.heap.size,402,none⟩=Z[402]?/\∀ o,(w.alloc (.cells C ty)).frozen? ⟨w.heap.size,o,none⟩=false:=by
 have hcs:(crsCells r ch).toArray.size=401:=by simp [crsCells_len hl]
 have hla:=laidAt_size Z 0 (crsCells r ch).toArray
 have g:∀ j,(w.alloc (.cells C ty)).cell? ⟨w.heap.size,j,none⟩=C[j]?:=fun j=>cell_of_row _ _ j _ ty (0,0) (heap_alloc_last w _)
 have g1:∀ j,j<401->C[j]?=(crsCells r ch)[j]?:=fun j hj=>by
  rw [hC,Array.getElem?_setIfInBounds_ne (by omega),laidAt_get,if_pos ⟨by omega,by omega,by omega⟩]
  simp
 refine ⟨⟨?_,by simp,hl,fun k hk=>?_,fun k hk=>by simp⟩,?_,?_,fun o=>by simp⟩
 ·rw [g,g1 0 (by decide)];rfl
 ·rw [g,g1 (1+k) (by omega),Nat.add_comm 1 k]
  unfold crsCells
  rw [List.getElem?_cons_succ,List.getElem?_map,List.getD_eq_getElem?_getD,List.getElem?_eq_getElem (by omega)]
  rfl
 ·rw [g,hC,Array.getElem?_setIfInBounds_self_of_lt (by omega)]
 ·rw [g,hC,Array.getElem?_setIfInBounds_ne (by decide),laidAt_get,if_neg (by omega)]
set_option maxRecDepth 20000 in
theorem pNext (w:World) (b:Nat) (v:Value) (t:WS) (l:List (Nat × Int)) (h:DrAt w b v t l) :
  Calls Tryz.prog 111 #[.pointer (some ⟨b,0,none⟩)] w fun x w'=>x=.returned (.pointer (some ⟨w.heap.size,0,none⟩))/\DrAt w' w.heap.size (.slice none 0 0) t []/\Below w.heap.size w w':=by
 obtain ⟨hzero,hsize⟩:=zero_of_info drInfo
 have hmx:Tryz.prog.follows .mixedOrders=true:=by kernel_rfl
 obtain ⟨Z,hZ⟩:∃ Z,Z=(#[Value.int .u32 0]++Array.replicate 400 (.int .u32 0))++#[Value.int .i64 0,.slice none 0 0]:=⟨_,rfl⟩
 rw [<- hZ] at hzero
 have hY:(#[Value.int .u32 0]++Array.replicate 400 (Value.int .u32 0)).size=401:=by rw [Array.size_append,Array.size_replicate];rfl
 have hZs:Z.size=403:=by rw [hZ,Array.size_append,hY];rfl
 have hZ1:Z[402]?=some (.slice none 0 0):=by rw [hZ,Array.getElem?_append_right (by rw [hY];decide),hY];rfl
 have hZn:Z ≠ #[]:=fun e=>by rw [e] at hZs;exact absurd hZs (by decide)
 have hlen:t.ch.length=400:=h.crs.ch.len
 obtain ⟨E,hE⟩:∃ E,E=crsCells t.rng t.ch:=⟨_,rfl⟩
 have hEs:E.length=401:=by rw [hE];exact crsCells_len hlen
 have hrg:w.rangeAt b 0 E:=by rw [hE];exact h.crs.range
 have hsh:=h.sh
 have hup:=h.up
 have HE:Hid (E=crsCells t.rng t.ch):=hE
 clear hZ hsize hY hE h
 go_enter Tryz.func111,Tryz.ntmps111
 go_wp2_with fail
 refine region_calm (S:=fun w'=>w'.rangeAt b 0 E/\w'.cell? ⟨b,401,none⟩=some (.int .i64 t.m)) 11 #[false,false,false,false,false,false,false,false,false,false,false] rfl rfl hmx ?_
 have hS0:w.drew.rangeAt b 0 E/\w.drew.cell? ⟨b,401,none⟩=some (.int .i64 t.m):=⟨hrg,hsh⟩
 refine tk_at 0 3 (.pointer (some ⟨b,0,none⟩)) #[true,false,false,false,false,false,false,false,false,false,false] rfl rfl rfl (by kernel_rfl) (by rfl) (by rintro w ⟨t0,t1⟩;go_simp) (by assumption) ?_
 simp only [sIb,sCs,sCz]
 refine tk_at 1 4 (.pointer (some ⟨b,0,none⟩)) #[true,true,false,false,false,false,false,false,false,false,false] rfl rfl rfl (by kernel_rfl) (by rfl) (by rintro w ⟨t0,t1⟩;go_simp) (by assumption) ?_
 simp only [sIb,sCs,sCz]
 refine tk_at 2 5 (.pointer (some ⟨b,0,none⟩)) #[true,true,true,false,false,false,false,false,false,false,false] rfl rfl rfl (by kernel_rfl) (by rfl) (by rintro w ⟨t0,t1⟩;go_simp) (by assumption) ?_
 simp only [sIb,sCs,sCz]
 refine take_mid (i:=3) (d:=6) #[true,true,true,true,false,false,false,false,false,false,false] rfl rfl rfl (by kernel_rfl) (by kernel_rfl) (by kernel_rfl) (fun _ _ _ _ h=>h) (by rfl) 147 (.tmp 5) rfl b 0 rfl E _ (fun _ h=>h.1) Tryz.underlying147 rfl (by rw [hEs];exact crsSize) (by assumption) ?_
 simp only [sIb,sCs,sCz]
 refine tk_at 4 7 (.pointer (some ⟨b,0,none⟩)) #[true,true,true,true,true,false,false,false,false,false,false] rfl rfl rfl (by kernel_rfl) (by rfl) (by rintro w ⟨t0,t1⟩;go_simp) (by assumption) ?_
 simp only [sIb,sCs,sCz]
 refine tk_at 5 8 (.pointer (some ⟨b,0,none⟩)) #[true,true,true,true,true,true,false,false,false,false,false] rfl rfl rfl (by kernel_rfl) (by rfl) (by rintro w ⟨t0,t1⟩;go_simp) (by assumption) ?_
 simp only [sIb,sCs,sCz]
 refine tk_at 6 9 (.pointer (some ⟨b,401,none⟩)) #[true,true,true,true,true,true,true,false,false,false,false] rfl rfl rfl (by kernel_rfl) (by rfl) (by rintro w ⟨t0,t1⟩;go_simp) (by assumption) ?_
 simp only [sIb,sCs,sCz]
 refine tk_at 7 10 (.int .i64 t.m) #[true,true,true,true,true,true,true,true,false,false,false] rfl rfl rfl (by kernel_rfl) (by rfl) (by rintro w ⟨t0,t1⟩;go_simp) (by assumption) ?_
 simp only [sIb,sCs,sCz]
 obtain ⟨C,hC⟩:∃ C,C=(laidAt Z 0 E.toArray).setIfInBounds 401 (.int .i64 t.m):=⟨_,rfl⟩
 refine tk_at 8 11 (.agg C) #[true,true,true,true,true,true,true,true,true,false,false] rfl rfl rfl (by kernel_rfl) (by rfl) ?y8 (by assumption) ?r8
 case y8 =>
  have hl:List.foldl (fun (cs:Array Value) (x:Value × Nat)=>cs.setIfInBounds x.snd x.fst) Z E.zipIdx=laidAt Z 0 E.toArray:=by
   rw [laidAt_eq];simp only [Nat.zero_add]
  rintro w ⟨t0,t1⟩
  go_simp
  rw [if_neg (by rw [laidAt_size];omega)]
  rfl
 case r8 =>
 simp only [sIb,sCs,sCz]
 have hS1:(w.drew.alloc (.cells C 151)).rangeAt b 0 E/\(w.drew.alloc (.cells C 151)).cell? ⟨b,401,none⟩=some (.int .i64 t.m) :=
  ⟨fun j u hj=>(World.cell?_of_block (a:=⟨b,0+j,none⟩) (Below.heap_alloc w.drew _ b hup)).trans (hrg j u hj),(World.cell?_of_block (a:=⟨b,401,none⟩) (Below.heap_alloc w.drew _ b hup)).trans hsh⟩
 refine val_at (i:=9) (d:=12) (v:=.pointer (some ⟨w.heap.size,0,none⟩)) (w':=w.drew.alloc (.cells C 151)) #[true,true,true,true,true,true,true,true,true,true,false] (by kernel_rfl) rfl rfl rfl (by rfl) ?y9 hS1 ?r9
 case y9=>go_simp
 case r9 =>
 simp only [sIb,sCs,sCz]
 refine tk_at 10 2 (.pointer (some ⟨w.heap.size,0,none⟩)) #[true,true,true,true,true,true,true,true,true,true,true] rfl rfl rfl (by kernel_rfl) (by rfl) (by rintro w ⟨t0,t1⟩;go_simp) (by assumption) ?_
 simp only [sIb,sCs,sCz]
 refine wpAnyH_done (by kernel_rfl) ?_ _
 dsimp only [calmPost]
 go_wp2_with fail
 obtain ⟨d1,d2,d3,d4⟩:=laid_course w.drew Z 151 hZs (r:=t.rng) hlen t.m (C:=C) (by rw [hC,HE.out])
 go_ret
 exact ⟨rfl,⟨d1,d2,d3.trans hZ1,World.ownsRow_nil _ _ _ _,by simp [Value.ownBlock],fun o _=>d4 o,by simp⟩,(below_drew (Below.refl _ w)).alloc (Nat.le_refl _) _⟩
theorem lighter_drop (a b:WS):(if a.m=b.m then decide (b.rng<a.rng) else decide (a.m<b.m))=Pk.lighter a b:=rfl
set_option maxRecDepth 20000 in
theorem pLighter (w:World) (b c:Nat) (v u:Value) (t s:WS) (l m:List (Nat × Int)) (h:DrAt w b v t l) (k:DrAt w c u s m) :
  Calls Tryz.prog 80 #[.pointer (some ⟨b,0,none⟩),.pointer (some ⟨c,0,none⟩)] w fun x w'=>x=.returned (.bool (Pk.lighter t s))/\Below w.heap.size w w':=by
 have h1:=h.sh
 have h2:=h.crs.c2
 have k1:=k.sh
 have k2:=k.crs.c2
 rw [<- lighter_drop]
 clear h k
 by_cases e:t.m=s.m
 ·rw [if_pos e]
  rw [e] at h1
  go_enter Tryz.func80,Tryz.ntmps80
  go_wp2
  go_region
  all_goals
   go_wp2
   go_region
   all_goals
    go_wp2
    go_ret
    exact ⟨rfl,below_drew (below_drew (Below.refl _ w))⟩
 ·rw [if_neg e]
  go_enter Tryz.func80,Tryz.ntmps80
  go_wp2
  go_region
  all_goals
   go_wp2
   go_region
   all_goals
    go_wp2
    go_ret
    exact ⟨rfl,below_drew (below_drew (Below.refl _ w))⟩
end
section
open Go.RowKit
theorem Frm.setCells {S:Nat->Prop} {a:World} {b:Nat} (hb:S b \/ a.heap.size<=b):∀ (vs:List Value) (o:Nat) {w:World},Frm S a w->Frm S a (w.setCells b o vs)
 | [],_,_,h=>h
 | _ :: r,o,_,h=>Frm.setCells hb r (o+1) (h.setCell hb _)
theorem exec_store_mid {P:Program} {o:Oper} {a:Act} {w:World} (ty:TypeId) (x y:Operand) (ho:o.op=.store ty x y)
  (b k:Nat) (cells:Array Value) (hx:a.eval x=.pointer (some ⟨b,k,none⟩)) (hy:a.eval y=.agg cells)
  (ht:w.there b k cells.size) (hi:(P.info? ty).map (·.size)=some cells.size) (h1:cells.all (·.oneCell')=true) :
  (execOp a.eval o).run P w=.ok .skip (w.setCells b k cells.toList):=by
 unfold execOp
 simp only [ho,hx,hy,Instr.storeAt,Instr.sureAddr,Sem.run_bind,Sem.run_pure,Result.andThen_ok,run_storeVar_mid w b k ty cells ht hi h1]
theorem Crs.there {w:World} {b:Nat} {r:Int} {ch:List Int} (h:Crs w b r ch):w.there b 0 401:=fun j hj=>by
 rw [Nat.zero_add]
 cases j with
 | zero=>exact ⟨by rw [h.c2];rfl,h.f2⟩
 | succ j=>rw [Nat.add_comm j 1];exact ⟨by rw [h.ch.cell j (by omega)];rfl,h.ch.fz j (by omega)⟩
theorem Crs.stored {w:World} {b:Nat} {r r':Int} {ch ch':List Int} (h:Crs w b r ch) (hl:ch'.length=400):Crs (w.setCells b 0 (crsCells r' ch')) b r' ch':=by
 have hE:=crsCells_len (r:=r') hl
 have hr:=World.rangeAt_setCells_same w b 0 (crsCells r' ch') (by rw [hE];exact h.there)
 refine ⟨?_,?_,hl,fun k hk=>?_,fun k hk=>?_⟩
 ·have:=hr 0 (.int .u32 r') rfl
  rwa [Nat.zero_add] at this
 ·rw [World.frozen?_setCells];exact h.f2
 ·have:=hr (k+1) (.int .u32 (ch'.getD k 0)) (by
   unfold crsCells
   rw [List.getElem?_cons_succ,List.getElem?_map,List.getD_eq_getElem?_getD,List.getElem?_eq_getElem (by omega)]
   rfl)
  rw [Nat.zero_add,Nat.add_comm k 1] at this
  exact this
 ·rw [World.frozen?_setCells];exact h.ch.fz k hk
set_option maxRecDepth 20000 in
theorem pAppend (w:World) (b c:Nat) (v u:Value) (t s:WS) (l m:List (Nat × Int)) (h:DrAt w b v t l) (k:DrAt w c u s m) (hbc:b ≠ c) (hub:u.ownBlock ≠ some b) (hm0:0<m.length) (hl:l.length<=1000000) (hm:m.length<=1000000) :
  Calls Tryz.prog 41 #[.pointer (some ⟨b,0,none⟩),.pointer (some ⟨c,0,none⟩)] w fun e w'=>e=.returned (.tuple #[])/\∃ v',DrAt w' b v' s (l++m)/\Wr b v w w' v':=by
 have hmx:Tryz.prog.follows .mixedOrders=true:=by kernel_rfl
 have hlen:s.ch.length=400:=k.crs.ch.len
 obtain ⟨E,hE⟩:∃ E,E=crsCells s.rng s.ch:=⟨_,rfl⟩
 have hEs:E.length=401:=by rw [hE];exact crsCells_len hlen
 have hE1:E.toArray.all (·.oneCell')=true:=by rw [hE];exact all_oneCell_toArray (crsCells_one _ _)
 have hrg:w.rangeAt c 0 E:=by rw [hE];exact k.crs.range
 have hth:w.there b 0 401:=h.crs.there
 have ksh:=k.sh
 have HE:Hid (E=crsCells s.rng s.ch):=hE
 have HH:Hid (DrAt w b v t l):=h
 have HK:Hid (DrAt w c u s m):=k
 obtain ⟨k0,hi',hy0,hy1,hy2⟩:=info_parts infoStep
 clear hE h k
 go_enter Tryz.func41,Tryz.ntmps41
 go_wp2_with fail
 refine region_calm (S:=fun w'=>w'.rangeAt c 0 E/\w'.cell? ⟨c,401,none⟩=some (.int .i64 s.m)) 16 #[false,false,false,false,false,false,false,false,false,false,false,false,false,false,false,false] rfl rfl hmx ?_
 have hS0:w.drew.rangeAt c 0 E/\w.drew.cell? ⟨c,401,none⟩=some (.int .i64 s.m):=⟨hrg,ksh⟩
 refine tk_at 0 4 (.pointer (some ⟨b,0,none⟩)) #[true,false,false,false,false,false,false,false,false,false,false,false,false,false,false,false] rfl rfl rfl (by kernel_rfl) (by rfl) (by rintro w ⟨t0,t1⟩;go_simp) (by assumption) ?_
 simp only [sIb,sCs,sCz]
 refine tk_at 1 5 (.pointer (some ⟨b,0,none⟩)) #[true,true,false,false,false,false,false,false,false,false,false,false,false,false,false,false] rfl rfl rfl (by kernel_rfl) (by rfl) (by rintro w ⟨t0,t1⟩;go_simp) (by assumption) ?_
 simp only [sIb,sCs,sCz]
 refine tk_at 2 6 (.pointer (some ⟨c,0,none⟩)) #[true,true,true,false,false,false,false,false,false,false,false,false,false,false,false,false] rfl rfl rfl (by kernel_rfl) (by rfl) (by rintro w ⟨t0,t1⟩;go_simp) (by assumption) ?_
 simp only [sIb,sCs,sCz]
 refine tk_at 3 7 (.pointer (some ⟨c,0,none⟩)) #[true,true,true,true,false,false,false,false,false,false,false,false,false,false,false,false] rfl rfl rfl (by kernel_rfl) (by rfl) (by rintro w ⟨t0,t1⟩;go_simp) (by assumption) ?_
 simp only [sIb,sCs,sCz]
 refine tk_at 4 8 (.pointer (some ⟨c,0,none⟩)) #[true,true,true,true,true,false,false,false,false,false,false,false,false,false,false,false] rfl rfl rfl (by kernel_rfl) (by rfl) (by rintro w ⟨t0,t1⟩;go_simp) (by assumption) ?_
 simp only [sIb,sCs,sCz]
 refine take_mid (i:=5) (d:=9) #[true,true,true,true,true,true,false,false,false,false,false,false,false,false,false,false] rfl rfl rfl (by kernel_rfl) (by kernel_rfl) (by kernel_rfl) (fun _ _ _ _ h=>h) (by rfl) 147 (.tmp 8) rfl c 0 rfl E _ (fun _ h=>h.1) Tryz.underlying147 rfl (by rw [hEs];exact crsSize) (by assumption) ?_
 simp only [sIb,sCs,sCz]
 refine tk_at 6 10 (.pointer (some ⟨c,0,none⟩)) #[true,true,true,true,true,true,true,false,false,false,false,false,false,false,false,false] rfl rfl rfl (by kernel_rfl) (by rfl) (by rintro w ⟨t0,t1⟩;go_simp) (by assumption) ?_
 simp only [sIb,sCs,sCz]
 refine tk_at 7 11 (.pointer (some ⟨c,0,none⟩)) #[true,true,true,true,true,true,true,true,false,false,false,false,false,false,false,false] rfl rfl rfl (by kernel_rfl) (by rfl) (by rintro w ⟨t0,t1⟩;go_simp) (by assumption) ?_
 simp only [sIb,sCs,sCz]
 refine tk_at 8 12 (.pointer (some ⟨c,401,none⟩)) #[true,true,true,true,true,true,true,true,true,false,false,false,false,false,false,false] rfl rfl rfl (by kernel_rfl) (by rfl) (by rintro w ⟨t0,t1⟩;go_simp) (by assumption) ?_
 simp only [sIb,sCs,sCz]
 refine tk_at 9 13 (.int .i64 s.m) #[true,true,true,true,true,true,true,true,true,true,false,false,false,false,false,false] rfl rfl rfl (by kernel_rfl) (by rfl) (by rintro w ⟨t0,t1⟩;go_simp) (by assumption) ?_
 simp only [sIb,sCs,sCz]
 refine tk_at 10 14 (.pointer (some ⟨b,0,none⟩)) #[true,true,true,true,true,true,true,true,true,true,true,false,false,false,false,false] rfl rfl rfl (by kernel_rfl) (by rfl) (by rintro w ⟨t0,t1⟩;go_simp) (by assumption) ?_
 simp only [sIb,sCs,sCz]
 refine tk_at 11 15 (.pointer (some ⟨b,0,none⟩)) #[true,true,true,true,true,true,true,true,true,true,true,true,false,false,false,false] rfl rfl rfl (by kernel_rfl) (by rfl) (by rintro w ⟨t0,t1⟩;go_simp) (by assumption) ?_
 simp only [sIb,sCs,sCz]
 obtain ⟨W1,hW1⟩:∃ W1,W1=w.drew.setCells b 0 E:=⟨_,rfl⟩
 have hF1:Frm (fun i=>i=b) w W1:=by rw [hW1];exact Frm.setCells (S:=fun i=>i=b) (.inl rfl) _ _ (Frm.refl _ w).drew
 have hS1:W1.rangeAt c 0 E/\W1.cell? ⟨c,401,none⟩=some (.int .i64 s.m):=⟨fun j x hj=>hF1.cell (hrg j x hj) (fun e=>hbc e.symm),hF1.cell ksh (fun e=>hbc e.symm)⟩
 refine store_at (i:=12) (w':=W1) #[true,true,true,true,true,true,true,true,true,true,true,true,true,false,false,false] (by kernel_rfl) rfl rfl rfl (by rfl) ?y12 hS1 ?r12
 case y12 =>
  rw [hW1]
  exact exec_store_mid 147 (.tmp 15) (.tmp 9) rfl b 0 E.toArray rfl rfl (by rw [List.size_toArray,hEs];exact hth) (by rw [List.size_toArray,hEs];exact crsSize) hE1
 case r12 =>
 refine tk_at 13 16 (.pointer (some ⟨b,0,none⟩)) #[true,true,true,true,true,true,true,true,true,true,true,true,true,true,false,false] rfl rfl rfl (by kernel_rfl) (by rfl) (by rintro w ⟨t0,t1⟩;go_simp) (by assumption) ?_
 simp only [sIb,sCs,sCz]
 refine tk_at 14 17 (.pointer (some ⟨b,401,none⟩)) #[true,true,true,true,true,true,true,true,true,true,true,true,true,true,true,false] rfl rfl rfl (by kernel_rfl) (by rfl) (by rintro w ⟨t0,t1⟩;go_simp) (by assumption) ?_
 simp only [sIb,sCs,sCz]
 have hcs1:Crs W1 b s.rng s.ch:=by rw [hW1,HE.out];exact (HH.out.crs.drew).stored hlen
 have g401:W1.cell? ⟨b,401,none⟩=some (.int .i64 t.m):=by
  rw [hW1,World.cell?_setCells_out b E 0 _ _ (fun _ _=>.inr (by show 0+E.length<=401;omega))];exact HH.out.sh
 have f401:W1.frozen? ⟨b,401,none⟩=false:=by rw [hW1,World.frozen?_setCells];exact HH.out.fz 401 (by decide)
 obtain ⟨W2,hW2⟩:∃ W2,W2=W1.setCell ⟨b,401,none⟩ (.int .i64 s.m):=⟨_,rfl⟩
 have hF2:Frm (fun i=>i=b) w W2:=by rw [hW2];exact hF1.setCell (.inl rfl) _
 have hS2:W2.rangeAt c 0 E/\W2.cell? ⟨c,401,none⟩=some (.int .i64 s.m):=⟨fun j x hj=>hF2.cell (hrg j x hj) (fun e=>hbc e.symm),hF2.cell ksh (fun e=>hbc e.symm)⟩
 refine store_at (i:=15) (w':=W2) #[true,true,true,true,true,true,true,true,true,true,true,true,true,true,true,true] (by kernel_rfl) rfl rfl rfl (by rfl) ?y15 hS2 ?r15
 case y15 =>
  rw [hW2]
  clear hW1 hW2
  go_simp
 case r15 =>
 refine wpAnyH_done (by kernel_rfl) ?_ _
 dsimp only [calmPost]
 have d402:W2.cell? ⟨b,402,none⟩=some v:=by
  rw [hW2]
  refine cell_off ?_ (.inr (by decide))
  rw [hW1,World.cell?_setCells_out b E 0 _ _ (fun _ _=>.inr (by show 0+E.length<=402;omega))];exact HH.out.bits
 have e402:W2.cell? ⟨c,402,none⟩=some u:=hF2.cell HK.out.bits (fun e=>hbc e.symm)
 have f402:∀ o,o<403->W2.frozen? ⟨b,o,none⟩=false:=fun o ho=>by rw [hW2,World.frozen?_setCell,hW1,World.frozen?_setCells];exact HH.out.fz o ho
 have hcs2:Crs W2 b s.rng s.ch:=by rw [hW2];exact hcs1.far (Nat.le_refl _) _
 have hsh2:W2.cell? ⟨b,401,none⟩=some (.int .i64 s.m):=by rw [hW2];exact World.cell?_setCell_same _ _ _ g401
 have hup2:b<W2.heap.size:=Nat.lt_of_lt_of_le HH.out.up hF2.size
 have hov:W2.ownsRow 0 159 2 v l.length (stepCells l):=hF2.owns HH.out.own (fun j e e2=>HH.out.ne (e2 ▸ e))
 have hou:W2.ownsRow 0 159 2 u m.length (stepCells m):=hF2.owns HK.out.own (fun j e e2=>hub (e2 ▸ e))
 obtain ⟨gu,cu,rfl⟩:∃ gu cu,u=.slice (some ⟨gu,0,none⟩) m.length cu:=by
  rcases hou.2 with ⟨_,h0⟩|⟨g,cap,cur,e,_⟩
  ·omega
  ·exact ⟨g,cap,e⟩
 have hnews:∀ j x,(stepCells m)[j]?=some x->W2.drew.cell? ((⟨gu,0,none⟩:Addr).add j)=some x:=fun j x hj=>by
  have hlt:j<m.length*2:=by rw [<- stepCells_len];exact (List.getElem?_eq_some_iff.1 hj).1
  rw [Addr.add_mid,Nat.zero_add]
  exact (World.ownsRow.cellAt hou j hlt).trans hj
 have f402':=f402 402 (by decide)
 have HF2:Hid (Frm (fun i=>i=b) w W2/\Crs W2 b s.rng s.ch/\W2.cell? ⟨b,401,none⟩=some (.int .i64 s.m)/\∀ o,o<403->W2.frozen? ⟨b,o,none⟩=false):=⟨hF2,hcs2,hsh2,f402⟩
 have hne:=HH.out.ne
 have hml:(stepCells m).length=m.length*2:=stepCells_len m
 clear hF1 hF2 hcs1 hcs2 hsh2 f402 hW1 hW2 hS1 hS2 hS0 hou hrg hth ksh g401 f401
 go_wp2_with fail
 go_region_law ((refine step_append_lies _ (by rfl) _ _ _ (by rfl) 0 159 k0 _ 2 4 Tryz.underlying149 hi' hy0 hy1 hy2 rfl (by omega) v l.length (stepCells l) (by rfl) hov.drew ⟨gu,0,none⟩ m.length cu (stepCells m) (by rfl) hml hnews (oneCell_steps m) hm0 (by unfold maxLen;omega) (by omega) (Nat.zero_le _) W2.heap.size (by rfl) ?_;intro gg cap w5 hown5 hgrow hat hlt5;have hblk:w5.heap[b]?=W2.heap[b]?:=hgrow.block b hup2 (Ne.symm hne);have sc5:w5.cell? ⟨b,402,none⟩=some v:=(World.cell?_of_block (a:=⟨b,402,none⟩) hblk).trans d402;have sf5:w5.frozen? ⟨b,402,none⟩=false:=(World.frozen?_of_block (a:=⟨b,402,none⟩) hblk).trans f402'))
 all_goals
  go_wp2_with fail
  go_end0
  have hgg:gg ≠ b:=by
   rcases hat with e|e
   ·exact fun e2=>hne (e2 ▸ e)
   ·omega
  obtain ⟨q1,q2,q3,q4⟩:=HF2.out
  have hsz:W2.heap.size<=w5.heap.size:=hgrow.size
  refine ⟨rfl,.slice (some ⟨gg,0,none⟩) (l.length+m.length) cap,⟨(q2.on hblk).far (by decide) _,cell_off ((World.cell?_of_block (a:=⟨b,401,none⟩) hblk).trans q3) (.inr (by decide)),World.cell?_setCell_same _ _ _ sc5,?_,?_,fun o ho=>?_,?_⟩,?_,?_⟩
  ·rw [stepCells_app,List.length_append]
   exact hown5.kept (grown_setCell w5 b 402 _) (.inr (by simp [Value.ownBlock];exact hgg))
  ·simp [Value.ownBlock];exact hgg
  ·rw [World.frozen?_setCell,World.frozen?_of_block (a:=⟨b,o,none⟩) hblk]
   exact q4 o ho
  ·rw [World.size_setCell];omega
  ·refine Frm.setCell ?_ (.inl (.inl rfl)) _
   have f1:Frm (fun k=>k=b \/ v.ownBlock=some k) w W2:=q1.mono fun _ _ e=>.inl e
   exact f1.drew.grown hgrow fun j e=>.inl (.inr e)
  ·intro j e
   simp [Value.ownBlock] at e
   subst e
   have:=q1.size
   rcases hat with e|e
   ·exact .inl e
   ·exact .inr (by omega)
end
end Go.Proofs.YtekfbphnoibnjaaGreatDoor
