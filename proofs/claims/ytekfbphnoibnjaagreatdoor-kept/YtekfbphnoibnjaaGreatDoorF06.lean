/-
  PPic PPlain Chances
-/
import Derived.Test.YtekfbphnoibnjaaGreatDoorF05
import Derived.Deep.RegionLaw
set_option maxHeartbeats 4000000
namespace Go.Proofs.YtekfbphnoibnjaaGreatDoor
section
open Go.RowKit
open Flm (Px FS)
def PixIn (w:World) (nb N:Nat) (ps:List Px):Prop:=nb<w.heap.size/\∀ k,k<N->w.cell? ⟨nb,k*3,none⟩=some (.int .u8 (ps.getD k (0,0,0)).1)/\w.cell? ⟨nb,k*3+1,none⟩=some (.int .u8 (ps.getD k (0,0,0)).2.1)/\w.cell? ⟨nb,k*3+2,none⟩=some (.int .u8 (ps.getD k (0,0,0)).2.2)
theorem Pixs.inn {w:World} {B nb N:Nat} {ps:List Px} (h:Pixs w B nb N ps):PixIn w nb N ps:=⟨h.lt.2,h.cell⟩
theorem PixIn.frm {S:Nat->Prop} {a b:World} {nb N:Nat} {ps:List Px} (h:PixIn a nb N ps) (f:Frm S a b) (hn:¬ S nb):PixIn b nb N ps :=
 ⟨Nat.lt_of_lt_of_le h.1 f.size,fun k hk=>⟨f.cell (h.2 k hk).1 hn,f.cell (h.2 k hk).2.1 hn,f.cell (h.2 k hk).2.2 hn⟩⟩
theorem PixIn.below {a b:World} {nb N:Nat} {ps:List Px} (h:PixIn a nb N ps) (f:Below a.heap.size a b):PixIn b nb N ps:=h.frm (Frm.of_below (S:=fun _=>False) f) (fun e=>e)
set_option maxRecDepth 20000 in
theorem pAt_raw {C:Nat} (w:World) (nb N z x y:Nat) (a b c:Int) (k:Nat) (hk:k=y*z+x) (hkN:k<N) (hN2:N<=256)
  (k0:w.cell? ⟨nb,k*3,none⟩=some (.int .u8 a)) (k1:w.cell? ⟨nb,k*3+1,none⟩=some (.int .u8 b)) (k2:w.cell? ⟨nb,k*3+2,none⟩=some (.int .u8 c)) :
  Calls Tryz.prog 113 #[.agg #[.int .i64 z,.slice (some ⟨nb,0,none⟩) N C],.int .i64 x,.int .i64 y] w fun e w'=>e=.returned (.agg #[.int .u8 a,.int .u8 b,.int .u8 c])/\Below w.heap.size w w':=by
 have e2:(y:Int)*(z:Int)+(x:Int)=(k:Int):=by rw [hk,Int.natCast_add,Int.natCast_mul]
 have hyz:y*z<=256:=by omega
 have p0:0<=(y:Int)*(z:Int):=by rw [<- Int.natCast_mul];omega
 have p1:(y:Int)*(z:Int)<=256:=by rw [<- Int.natCast_mul];omega
 have hk':(k:Int)<(N:Int):=by omega
 have w1:wrap64 ((y:Int)*(z:Int))=(y:Int)*(z:Int):=by unfold wrap64;omega
 have w2:wrap64 ((y:Int)*(z:Int)+(x:Int))=(k:Int):=by rw [e2];unfold wrap64;omega
 obtain ⟨W,hW⟩:∃ W,W=(w.alloc (.cells #[.int .i64 z,.slice (some ⟨nb,0,none⟩) N C] 89)).alloc (.cells #[.int .u8 0,.int .u8 0,.int .u8 0] 50):=⟨_,rfl⟩
 have hB:Below w.heap.size w W:=by rw [hW];exact ((Below.refl _ _).alloc (Nat.le_refl _) _).alloc (by simp) _
 have Q:∀ (bk off:Nat) (v:Value),w.cell? ⟨bk,off,none⟩=some v->W.cell? ⟨bk,off,none⟩=some v:=fun bk off v h=>(hB.cell (World.block_lt_of_cell? w _ h)).trans h
 have l0:=Q _ _ _ k0
 have l1:=Q _ _ _ k1
 have l2:=Q _ _ _ k2
 rw [hW] at l0 l1 l2
 have HB:Hid (Below w.heap.size w ((w.alloc (.cells #[.int .i64 z,.slice (some ⟨nb,0,none⟩) N C] 89)).alloc (.cells #[.int .u8 0,.int .u8 0,.int .u8 0] 50))):=by rw [<- hW];exact hB
 clear hk hyz Q k0 k1 k2 hW hB
 go_enter Tryz.func113,Tryz.ntmps113
 go_wp2
 refine bodyPost_ret (v:=.agg #[.int .u8 a,.int .u8 b,.int .u8 c]) (by simp [results,Tryz.results113,go_sem]) rfl ⟨rfl,?_⟩
 have hbel:=HB.out
 repeat (first|exact hbel|exact Below.refl _ _|refine Below.setCell ?_ (by simp) _|refine Below.alloc ?_ (by simp) _|refine below_drewN ?_ _)
theorem pAt {C:Nat} (w:World) (nb z:Nat) (ps:List Px) (hz:z*z<=256) (h:PixIn w nb (z*z) ps) (x y:Nat) (hx:x<z) (hy:y<z) :
  Calls Tryz.prog 113 #[.agg #[.int .i64 z,.slice (some ⟨nb,0,none⟩) (z*z) C],.int .i64 x,.int .i64 y] w fun e w'=>e=.returned (.agg #[.int .u8 (ps.getD (y*z+x) (0,0,0)).1,.int .u8 (ps.getD (y*z+x) (0,0,0)).2.1,.int .u8 (ps.getD (y*z+x) (0,0,0)).2.2])/\Below w.heap.size w w':=by
 have hk:=spot_lt hx hy
 obtain ⟨k0,k1,k2⟩:=h.2 (y*z+x) hk
 exact pAt_raw w nb (z*z) z x y _ _ _ _ rfl hk hz k0 k1 k2
set_option maxRecDepth 20000 in
theorem pSet_raw (w:World) (nb N z x y:Nat) (a b c a' b' c':Int) (k:Nat) (hk:k=y*z+x) (hkN:k<N) (hN2:N<=256)
  (k0:w.cell? ⟨nb,k*3,none⟩=some (.int .u8 a')) (k1:w.cell? ⟨nb,k*3+1,none⟩=some (.int .u8 b')) (k2:w.cell? ⟨nb,k*3+2,none⟩=some (.int .u8 c'))
  (z0:w.frozen? ⟨nb,k*3,none⟩=false) (z1:w.frozen? ⟨nb,k*3+1,none⟩=false) (z2:w.frozen? ⟨nb,k*3+2,none⟩=false) :
  Calls Tryz.prog 166 #[.agg #[.int .i64 z,.slice (some ⟨nb,0,none⟩) N N],.int .i64 x,.int .i64 y,.agg #[.int .u8 a,.int .u8 b,.int .u8 c]] w fun e w'=>e=.returned (.tuple #[])/\w'=((((w.alloc (.cells #[.int .i64 z,.slice (some ⟨nb,0,none⟩) N N] 89)).alloc (.cells #[.int .u8 a,.int .u8 b,.int .u8 c] 50)).setCell ⟨nb,k*3,none⟩ (.int .u8 a)).setCell ⟨nb,k*3+1,none⟩ (.int .u8 b)).setCell ⟨nb,k*3+2,none⟩ (.int .u8 c):=by
 have e2:(y:Int)*(z:Int)+(x:Int)=(k:Int):=by rw [hk,Int.natCast_add,Int.natCast_mul]
 have hyz:y*z<=256:=by omega
 have p0:0<=(y:Int)*(z:Int):=by rw [<- Int.natCast_mul];omega
 have p1:(y:Int)*(z:Int)<=256:=by rw [<- Int.natCast_mul];omega
 have hk':(k:Int)<(N:Int):=by omega
 have w1:wrap64 ((y:Int)*(z:Int))=(y:Int)*(z:Int):=by unfold wrap64;omega
 have w2:wrap64 ((y:Int)*(z:Int)+(x:Int))=(k:Int):=by rw [e2];unfold wrap64;omega
 have hB:Below w.heap.size w ((w.alloc (.cells #[.int .i64 z,.slice (some ⟨nb,0,none⟩) N N] 89)).alloc (.cells #[.int .u8 a,.int .u8 b,.int .u8 c] 50)):=((Below.refl _ _).alloc (Nat.le_refl _) _).alloc (by simp) _
 have hnb:nb<w.heap.size:=World.block_lt_of_cell? w _ k0
 have l0:=(hB.cell (p:=⟨nb,k*3,none⟩) hnb).trans k0
 have l1:=(hB.cell (p:=⟨nb,k*3+1,none⟩) hnb).trans k1
 have l2:=(hB.cell (p:=⟨nb,k*3+2,none⟩) hnb).trans k2
 have y0:=(hB.frozen (p:=⟨nb,k*3,none⟩) hnb).trans z0
 have y1:=(hB.frozen (p:=⟨nb,k*3+1,none⟩) hnb).trans z1
 have y2:=(hB.frozen (p:=⟨nb,k*3+2,none⟩) hnb).trans z2
 clear hk hyz k0 k1 k2 z0 z1 z2 hB hnb
 go_enter Tryz.func166,Tryz.ntmps166
 go_wp2
 go_end0
 exact ⟨rfl,rfl⟩
theorem pTurned {C:Nat} (w:World) (nb z:Nat) (ps:List Px) (hz:z*z<=256) (h:PixIn w nb (z*z) ps) (hp:∀ k,Flm.okPx (ps.getD k (0,0,0))) (fs:FS) (hps:ps=fs.frs.getD (Flm.now fs) []) (x y:Int) (hx1:x<z) (hy1:y<z) :
  Calls Tryz.prog 132 #[.agg #[.int .i64 z,.slice (some ⟨nb,0,none⟩) (z*z) C],.int .i64 x,.int .i64 y] w fun e w'=>e=.returned (.agg #[.int .i64 (Flm.near z fs x y).1,.int .i64 (Flm.near z fs x y).2.1,.int .i64 (Flm.near z fs x y).2.2])/\Below w.heap.size w w':=by
 by_cases hx:x<0
 ·have e:Flm.near z fs x y=(0,0,0):=by unfold Flm.near;rw [if_pos (.inl hx)]
  rw [e]
  clear h hp hps e
  go_enter Tryz.func132,Tryz.ntmps132
  go_wp2
  refine bodyPost_ret (v:=.agg #[.int .i64 0,.int .i64 0,.int .i64 0]) (by simp [results,Tryz.results132,go_sem]) rfl ⟨rfl,?_⟩
  repeat (first|exact Below.refl _ _|refine Below.setCell ?_ (by simp) _|refine Below.alloc ?_ (by simp) _|refine below_drewN ?_ _)
 by_cases hy:y<0
 ·have e:Flm.near z fs x y=(0,0,0):=by unfold Flm.near;rw [if_pos (.inr (.inl hy))]
  rw [e]
  clear h hp hps e
  go_enter Tryz.func132,Tryz.ntmps132
  go_wp2
  refine bodyPost_ret (v:=.agg #[.int .i64 0,.int .i64 0,.int .i64 0]) (by simp [results,Tryz.results132,go_sem]) rfl ⟨rfl,?_⟩
  repeat (first|exact Below.refl _ _|refine Below.setCell ?_ (by simp) _|refine Below.alloc ?_ (by simp) _|refine below_drewN ?_ _)
 ·obtain ⟨X,rfl⟩:=Int.eq_ofNat_of_zero_le (Int.not_lt.1 hx)
  obtain ⟨Y,rfl⟩:=Int.eq_ofNat_of_zero_le (Int.not_lt.1 hy)
  obtain ⟨q,hq⟩:∃ q,q=ps.getD (Y*z+X) (0,0,0):=⟨_,rfl⟩
  have e:Flm.near z fs (X:Int) (Y:Int)=(Pix.tY q.1 q.2.1 q.2.2,q.1-q.2.2,Pix.tV q.1 q.2.1 q.2.2):=by
   unfold Flm.near Flm.px
   rw [if_neg (by omega),hq,hps]
   rfl
  have HA:Hid (∀ wx,Below w.heap.size w wx->Calls Tryz.prog 113 #[.agg #[.int .i64 z,.slice (some ⟨nb,0,none⟩) (z*z) C],.int .i64 X,.int .i64 Y] wx fun e w'=>e=.returned (.agg #[.int .u8 q.1,.int .u8 q.2.1,.int .u8 q.2.2])/\Below wx.heap.size wx w'):=by
   intro wx hb
   have:=pAt (C:=C) wx nb z ps hz (h.frm (Frm.of_below (S:=fun _=>False) hb) (fun e=>e)) X Y (by omega) (by omega)
   rw [<- hq] at this
   exact this
  obtain ⟨⟨q0,q1⟩,⟨q2,q3⟩,⟨q4,q5⟩⟩:Flm.okPx q:=by rw [hq];exact hp _
  have HT:=fun wx=>colTurn q.1 q.2.1 q.2.2 wx q0 q1 q2 q3 q4 q5
  rw [e]
  clear h e hq hp hps q0 q1 q2 q3 q4 q5
  obtain ⟨Z,hZ⟩:∃ Z,Z=z*z:=⟨_,rfl⟩
  rw [<- hZ] at HA
  rw [<- hZ]
  obtain ⟨W,hW⟩:∃ W,W=(w.alloc (.cells #[.int .i64 z,.slice (some ⟨nb,0,none⟩) Z C] 89)).alloc (.cells #[.int .i64 0,.int .i64 0,.int .i64 0] 48):=⟨_,rfl⟩
  have hh:W.heap[w.heap.size+1]?=some (.cells #[.int .i64 0,.int .i64 0,.int .i64 0] 48):=by
   have:=heap_alloc_last (w.alloc (.cells #[.int .i64 z,.slice (some ⟨nb,0,none⟩) Z C] 89)) (.cells #[.int .i64 0,.int .i64 0,.int .i64 0] 48)
   rw [World.size_alloc] at this
   rw [hW];exact this
  have hB:Below w.heap.size w W:=by rw [hW];exact ((Below.refl _ _).alloc (Nat.le_refl _) _).alloc (by simp) _
  have hoW:w.heap.size+1<W.heap.size:=by rw [hW];simp
  have HH:Hid (∀ w2,Below W.heap.size W w2->w2.heap[w.heap.size+1]?=some (.cells #[.int .i64 0,.int .i64 0,.int .i64 0] 48)):=fun w2 b2=>(b2.block _ hoW).trans hh
  have HB:Hid (Below w.heap.size w W):=hB
  have HW:Hid (W=(w.alloc (.cells #[.int .i64 z,.slice (some ⟨nb,0,none⟩) Z C] 89)).alloc (.cells #[.int .i64 0,.int .i64 0,.int .i64 0] 48)):=hW
  clear hW hh hB hoW hZ hz
  go_enter Tryz.func132,Tryz.ntmps132
  go_wp2_with (first
   | (go_at_call 113;rw [<- HW.out];refine (HA.out _ HB.out).mono ?_;rintro e w1 ⟨rfl,b1⟩)
   | (go_at_call 96;refine (HT _).mono ?_;rintro e w2 ⟨rfl,b2⟩;have hg:=HH.out w2 (b1.trans (b2.mono b1.size));have s0:=cell_of_row w2 (w.heap.size+1) 0 _ _ _ hg;have s1:=cell_of_row w2 (w.heap.size+1) 1 _ _ _ hg;have s2:=cell_of_row w2 (w.heap.size+1) 2 _ _ _ hg;have z0:=frozen_of_row w2 (w.heap.size+1) 0 _ _ hg;have z1:=frozen_of_row w2 (w.heap.size+1) 1 _ _ hg;have z2:=frozen_of_row w2 (w.heap.size+1) 2 _ _ hg;simp at s0 s1 s2))
  refine bodyPost_ret (v:=.agg #[.int .i64 (Pix.tY q.1 q.2.1 q.2.2),.int .i64 (q.1-q.2.2),.int .i64 (Pix.tV q.1 q.2.1 q.2.2)]) (by simp [results,Tryz.results132,go_sem,s0,s1,s2]) rfl ⟨rfl,?_⟩
  have hb2:Below w.heap.size w w2:=HB.out.trans ((b1.trans (b2.mono b1.size)).mono HB.out.size)
  repeat (first|exact hb2|refine Below.setCell ?_ (by simp) _|refine below_drewN ?_ _)
end
section
open Go.RowKit Go.Shelf
open Flm (Px FS)
attribute [local go_sem] Oper.semAt_some
structure FwAt (w:World) (q z nb C:Nat) (mh mb:Value) (T:List Px):Prop where
 c0:w.cell? ⟨q,0,none⟩=some (.int .i64 z)
 c1:w.cell? ⟨q,1,none⟩=some (.slice (some ⟨nb,0,none⟩) (z*z) C)
 c2:w.cell? ⟨q,2,none⟩=some mh
 c3:w.cell? ⟨q,3,none⟩=some mb
 px:PixIn w nb (z*z) T
 zz:z=4 \/ z=8 \/ z=16
 ok:∀ p ∈ T,Flm.okPx p
theorem FwAt.z16 {w:World} {q z nb C:Nat} {mh mb:Value} {T:List Px} (h:FwAt w q z nb C mh mb T):z<=16/\z*z<=256:=by
 rcases h.zz with rfl|rfl|rfl <;> decide
theorem FwAt.up {w:World} {q z nb C:Nat} {mh mb:Value} {T:List Px} (h:FwAt w q z nb C mh mb T):q<w.heap.size:=World.block_lt_of_cell? w _ h.c0
theorem FwAt.frm {S:Nat->Prop} {w w':World} {q z nb C:Nat} {mh mb:Value} {T:List Px} (h:FwAt w q z nb C mh mb T) (f:Frm S w w') (h1:¬ S q) (h2:¬ S nb):FwAt w' q z nb C mh mb T :=
 ⟨f.cell h.c0 h1,f.cell h.c1 h1,f.cell h.c2 h1,f.cell h.c3 h1,h.px.frm f h2,h.zz,h.ok⟩
theorem FwAt.below {w w':World} {q z nb C:Nat} {mh mb:Value} {T:List Px} (h:FwAt w q z nb C mh mb T) (f:Below w.heap.size w w'):FwAt w' q z nb C mh mb T :=
 h.frm (Frm.of_below (S:=fun _=>False) f) (fun e=>e) (fun e=>e)
def PlainJ (z:Nat) (T:List Px) (x y n:Nat) (XG W:World) (pre:List (Pt x y n)):Prop:=Below XG.heap.size XG W/\∀ p ∈ pre,Pk.pixT z T p.1=Pk.pixT z T (x,y)
def PlainX (z:Nat) (T:List Px) (x y n K:Nat) (XG W:World) (c:Code) (pre:List (Pt x y n)):Prop:=c=.ret/\Frm (fun k=>k=K) XG W/\W.cell? ⟨K,0,none⟩=some (.bool false)/\∃ p ∈ pre,Pk.pixT z T p.1 ≠ Pk.pixT z T (x,y)
set_option maxRecDepth 100000 in
theorem pIsPlain (w:World) (q z nb C:Nat) (mh mb:Value) (T:List Px) (h:FwAt w q z nb C mh mb T) (x y n:Nat) (hx:x+n<=z) (hy:y+n<=z) (hn:0<n) :
  Calls Tryz.prog 78 #[.pointer (some ⟨q,0,none⟩),.agg #[.int .i64 x,.int .i64 y,.int .i64 n]] w fun e w'=>e=.returned (.bool (Pk.plainB z T x y n))/\Below w.heap.size w w':=by
 obtain ⟨Z,hZ⟩:∃ Z,Z=z*z:=⟨_,rfl⟩
 obtain ⟨hz16,hzz⟩:=h.z16
 obtain ⟨H,hH⟩:∃ H,H=w.heap.size:=⟨_,rfl⟩
 have hmx:Tryz.prog.follows .mixedOrders=true:=by kernel_rfl
 obtain ⟨W3,hW3⟩:∃ W3,W3=((w.alloc (.cells #[.pointer (some ⟨q,0,none⟩)] 87)).alloc (.cells #[.int .i64 x,.int .i64 y,.int .i64 n] 100)).alloc (.cells #[.bool false] 4):=⟨_,rfl⟩
 have hB3:Below w.heap.size w W3:=by rw [hW3];exact below3 w _ _ _
 have hs3:W3.heap.size=H+3:=by rw [hW3,hH];simp
 have hx0:W3.heap[H]?=some (.cells #[.pointer (some ⟨q,0,none⟩)] 87):=by
  rw [hW3,hH];exact (Below.heap_alloc _ _ _ (by simp only [World.size_alloc];omega)).trans ((Below.heap_alloc _ _ _ (by simp only [World.size_alloc];omega)).trans (heap_alloc_last w _))
 have hx1:W3.heap[H+1]?=some (.cells #[.int .i64 x,.int .i64 y,.int .i64 n] 100):=by
  have:=heap_alloc_last (w.alloc (.cells #[.pointer (some ⟨q,0,none⟩)] 87)) (.cells #[.int .i64 x,.int .i64 y,.int .i64 n] 100)
  rw [World.size_alloc] at this
  rw [hW3,hH];exact (Below.heap_alloc _ _ _ (by simp only [World.size_alloc];omega)).trans this
 have hx2:W3.heap[H+1+1]?=some (.cells #[.bool false] 4):=by
  have:=heap_alloc_last ((w.alloc (.cells #[.pointer (some ⟨q,0,none⟩)] 87)).alloc (.cells #[.int .i64 x,.int .i64 y,.int .i64 n] 100)) (.cells #[.bool false] 4)
  simp only [World.size_alloc] at this
  rw [hW3,hH];exact this
 obtain ⟨f0,f1,f2,hf⟩:∃ f0 f1 f2,T.getD (y*z+x) (0,0,0)=(f0,f1,f2):=⟨_,_,_,rfl⟩
 have hFw:=h.below hB3
 have HAT:Hid (∀ wx,Below W3.heap.size W3 wx->∀ X Y:Nat,X<z->Y<z->Calls Tryz.prog 113 #[.agg #[.int .i64 z,.slice (some ⟨nb,0,none⟩) Z C],.int .i64 X,.int .i64 Y] wx fun e w'=>e=.returned (.agg #[.int .u8 (T.getD (Y*z+X) (0,0,0)).1,.int .u8 (T.getD (Y*z+X) (0,0,0)).2.1,.int .u8 (T.getD (Y*z+X) (0,0,0)).2.2])/\Below wx.heap.size wx w'):=fun wx hb X Y hX hY=>by
  rw [hZ];exact pAt wx nb z T hzz (hFw.px.below hb) X Y hX hY
 have b00:=cell_of_row _ _ 0 _ _ _ hx0
 have b10:=cell_of_row _ _ 0 _ _ _ hx1
 have b11:=cell_of_row _ _ 1 _ _ _ hx1
 have d0:=hFw.c0
 have d1:=hFw.c1
 rw [<- hZ] at d1
 simp at b00 b10 b11
 have HW3:Hid (W3=((w.alloc (.cells #[.pointer (some ⟨q,0,none⟩)] 87)).alloc (.cells #[.int .i64 x,.int .i64 y,.int .i64 n] 100)).alloc (.cells #[.bool false] 4)):=hW3
 have HH:Hid (H=w.heap.size/\W3.heap.size=H+3/\Below w.heap.size w W3):=⟨hH,hs3,hB3⟩
 have HX:Hid (W3.heap[H]?=some (.cells #[.pointer (some ⟨q,0,none⟩)] 87)/\W3.heap[H+1]?=some (.cells #[.int .i64 x,.int .i64 y,.int .i64 n] 100)/\W3.heap[H+1+1]?=some (.cells #[.bool false] 4)):=⟨hx0,hx1,hx2⟩
 have HF:Hid (T.getD (y*z+x) (0,0,0)=(f0,f1,f2)):=hf
 have HFW:Hid (FwAt W3 q z nb C mh mb T):=hFw
 have HZ:Hid (Z=z*z):=hZ
 have hqH:q<H:=by rw [hH];exact h.up
 clear hW3 hx0 hx1 hx2 hB3 hf hZ hFw h hH hs3
 refine (callsIn_wide (n:=5)).1 ?_
 refine callsIn_of_wp_marks Tryz.func78 rfl trivial ?_ rfl
 simp only [Tryz.ntmps78,List.size_toArray,List.length_cons,List.length_nil,Nat.reduceAdd,Nat.reduceSub,Array.replicate_succ,Array.replicate_zero,List.push_toArray,List.append_toArray,List.nil_append,List.cons_append]
 refine wpIn_wide.2 ?_
 go_wp2_with fail
 rw [<- HW3.out,<- HH.out.1]
 refine region_calm (S:=fun w'=>w'.cell? ⟨H,0,none⟩=some (.pointer (some ⟨q,0,none⟩))/\w'.cell? ⟨q,0,none⟩=some (.int .i64 z)/\w'.cell? ⟨q,1,none⟩=some (.slice (some ⟨nb,0,none⟩) Z C)/\w'.cell? ⟨H+1,0,none⟩=some (.int .i64 x)/\w'.cell? ⟨H+1,1,none⟩=some (.int .i64 y)/\Below W3.heap.size W3 w') 11 #[false,false,false,false,false,false,false,false,false,false,false] rfl rfl hmx ?_
 have hS0:(W3.drew.cell? ⟨H,0,none⟩=some (.pointer (some ⟨q,0,none⟩))/\W3.drew.cell? ⟨q,0,none⟩=some (.int .i64 z)/\W3.drew.cell? ⟨q,1,none⟩=some (.slice (some ⟨nb,0,none⟩) Z C)/\W3.drew.cell? ⟨H+1,0,none⟩=some (.int .i64 x)/\W3.drew.cell? ⟨H+1,1,none⟩=some (.int .i64 y)/\Below W3.heap.size W3 W3.drew):=⟨b00,d0,d1,b10,b11,⟨rfl,rfl,rfl,Nat.le_refl _,fun _ _=>rfl⟩⟩
 refine tk_at 0 8 (.pointer (some ⟨q,0,none⟩)) #[true,false,false,false,false,false,false,false,false,false,false] rfl rfl rfl (by kernel_rfl) (by rfl) (by rintro w ⟨t0,t1,t2,t3,t4,t5⟩;go_simp) (by assumption) ?_
 simp only [sIb,sCs,sCz]
 refine tk_at 1 9 (.pointer (some ⟨q,0,none⟩)) #[true,true,false,false,false,false,false,false,false,false,false] rfl rfl rfl (by kernel_rfl) (by rfl) (by rintro w ⟨t0,t1,t2,t3,t4,t5⟩;go_simp) (by assumption) ?_
 simp only [sIb,sCs,sCz]
 refine tk_at 2 10 (.pointer (some ⟨q,0,none⟩)) #[true,true,true,false,false,false,false,false,false,false,false] rfl rfl rfl (by kernel_rfl) (by rfl) (by rintro w ⟨t0,t1,t2,t3,t4,t5⟩;go_simp) (by assumption) ?_
 simp only [sIb,sCs,sCz]
 refine tk_at 3 11 (.agg #[.int .i64 z,.slice (some ⟨nb,0,none⟩) Z C]) #[true,true,true,true,false,false,false,false,false,false,false] rfl rfl rfl (by kernel_rfl) (by rfl) (by rintro w ⟨t0,t1,t2,t3,t4,t5⟩;go_simp) (by assumption) ?_
 simp only [sIb,sCs,sCz]
 refine tk_at 4 12 (.pointer (some ⟨H+1,0,none⟩)) #[true,true,true,true,true,false,false,false,false,false,false] rfl rfl rfl (by kernel_rfl) (by rfl) (by rintro w ⟨t0,t1,t2,t3,t4,t5⟩;go_simp) (by assumption) ?_
 simp only [sIb,sCs,sCz]
 refine tk_at 5 13 (.int .i64 x) #[true,true,true,true,true,true,false,false,false,false,false] rfl rfl rfl (by kernel_rfl) (by rfl) (by rintro w ⟨t0,t1,t2,t3,t4,t5⟩;go_simp) (by assumption) ?_
 simp only [sIb,sCs,sCz]
 refine tk_at 6 14 (.pointer (some ⟨H+1,1,none⟩)) #[true,true,true,true,true,true,true,false,false,false,false] rfl rfl rfl (by kernel_rfl) (by rfl) (by rintro w ⟨t0,t1,t2,t3,t4,t5⟩;go_simp) (by assumption) ?_
 simp only [sIb,sCs,sCz]
 refine tk_at 7 15 (.int .i64 y) #[true,true,true,true,true,true,true,true,false,false,false] rfl rfl rfl (by kernel_rfl) (by rfl) (by rintro w ⟨t0,t1,t2,t3,t4,t5⟩;go_simp) (by assumption) ?_
 simp only [sIb,sCs,sCz]
 refine any_law (k:=2) (m:=1) (fun σ=>#[.pointer (some ⟨q,0,none⟩),.agg #[.int .i64 x,.int .i64 y,.int .i64 n],.pointer (some ⟨H,0,none⟩),.pointer (some ⟨H+1,0,none⟩),.pointer (some ⟨H+1+1,0,none⟩),σ 1,undef,undef,.pointer (some ⟨q,0,none⟩),.pointer (some ⟨q,0,none⟩),.pointer (some ⟨q,0,none⟩),.agg #[.int .i64 z,.slice (some ⟨nb,0,none⟩) Z C],.pointer (some ⟨H+1,0,none⟩),.int .i64 x,.pointer (some ⟨H+1,1,none⟩),.int .i64 y,σ 0,undef,undef,undef,undef,undef,undef,undef,undef,undef,undef,undef,undef,undef]) (fun δ=>#[true,true,true,true,true,true,true,true,δ 0,δ 1,false]) (fun i=>match i with|0=>8|_=>9) (fun i=>match i with|0=>16|_=>5)
  (fun i=>match i with|0=>.call 113 #[.agg #[.int .i64 z,.slice (some ⟨nb,0,none⟩) Z C],.int .i64 x,.int .i64 y] (.agg #[.int .u8 f0,.int .u8 f1,.int .u8 f2])|_=>.box (.cells #[.int .u8 0,.int .u8 0,.int .u8 0] 50)) (fun _=>true) (H+3) ?hop ?hT ?hF ?hr ?hc ?hS ?hH ?hend 2 (fun _=>false) (fun _=>undef) _ rfl rfl hS0 ⟨fun i _ e=>absurd e (by decide),fun i j _ _ _ e=>absurd e (by decide)⟩
 case hop =>
  intro i hi
  rcases (by omega:i=0 \/ i=1) with rfl|rfl
  ·exact ⟨_,rfl,rfl,fun _=>rfl,fun σ w=>by show _=_;go_simp⟩
  ·exact ⟨_,rfl,rfl,fun _=>rfl,fun σ w=>by show _=_;go_simp⟩
 case hT =>
  intro σ i v hi
  rcases (by omega:i=0 \/ i=1) with rfl|rfl <;> rfl
 case hF =>
  intro δ i hi
  rcases (by omega:i=0 \/ i=1) with rfl|rfl <;> rfl
 case hr =>
  intro δ _ hex
  cases h0:δ 0 <;> cases h1:δ 1
  ·exact ⟨[8,9],by kernel_rfl,by simp [rdy,h0,h1,List.range_succ]⟩
  ·exact ⟨[8],by kernel_rfl,by simp [rdy,h0,h1,List.range_succ]⟩
  ·exact ⟨[9],by kernel_rfl,by simp [rdy,h0,h1,List.range_succ]⟩
  ·obtain ⟨i,hi,e⟩:=hex
   rcases (by omega:i=0 \/ i=1) with rfl|rfl
   ·rw [h0] at e;cases e
   ·rw [h1] at e;cases e
 case hc =>
  intro i hi
  rcases (by omega:i=0 \/ i=1) with rfl|rfl
  ·intro wx hs
   have:=HAT.out wx hs.2.2.2.2.2 x y (by omega) (by omega)
   rw [HF.out] at this
   exact this
  ·exact trivial
 case hS =>
  rintro wx wy ⟨s0,s1,s2,s3,s4,s5⟩ hb
  have c:∀ (a:Addr) (v:Value),wx.cell? a=some v->wy.cell? a=some v:=fun a v e=>(hb.cell (World.block_lt_of_cell? wx _ e)).trans e
  exact ⟨c _ _ s0,c _ _ s1,c _ _ s2,c _ _ s3,c _ _ s4,s5.trans (hb.mono s5.size)⟩
 case hH =>
  rintro wx ⟨_,_,_,_,_,s5⟩
  have:=s5.size
  have:=HH.out.2.1
  omega
 case hend =>
  rintro δ σ wx hδ hs hu
  have h0:=hδ 0 (by decide)
  have h1:=hδ 1 (by decide)
  have e0:σ 0=.agg #[.int .u8 f0,.int .u8 f1,.int .u8 f2]:=hu.all 0 (by decide) h0
  obtain ⟨b5,e1,hb5,hH5⟩:∃ b5,σ 1=.pointer (some ⟨b5,0,none⟩)/\wx.heap[b5]?=some (.cells #[.int .u8 0,.int .u8 0,.int .u8 0] 50)/\H+3<=b5:=hu.all 1 (by decide) h1
  rw [h0,h1,e0,e1]
  have k0:=cell_of_row _ _ 0 _ _ _ hb5
  have k1:=cell_of_row _ _ 1 _ _ _ hb5
  have k2:=cell_of_row _ _ 2 _ _ _ hb5
  have z0:=frozen_of_row _ _ 0 _ _ hb5
  have z1:=frozen_of_row _ _ 1 _ _ hb5
  have z2:=frozen_of_row _ _ 2 _ _ hb5
  simp at k0 k1 k2
  obtain ⟨X,hX⟩:∃ X,X=((wx.setCell ⟨b5,0,none⟩ (.int .u8 f0)).setCell ⟨b5,1,none⟩ (.int .u8 f1)).setCell ⟨b5,2,none⟩ (.int .u8 f2):=⟨_,rfl⟩
  obtain ⟨g0,g1,g2,fX⟩:=three_set wx b5 (.int .u8 f0) (.int .u8 f1) (.int .u8 f2) k0 k1 k2 X hX
  obtain ⟨s0,s1,s2,s3,s4,s5⟩:=hs
  have c:∀ (a:Addr) (v:Value),a.block<H+3->wx.cell? a=some v->X.cell? a=some v:=fun a v hl e=>fX.cell e (by omega)
  have hbX:Below W3.heap.size W3 X:=s5.trans (fX.below (by have:=s5.size;omega) (fun k e=>by rw [e,HH.out.2.1];exact hH5))
  have hS1:(X.cell? ⟨H,0,none⟩=some (.pointer (some ⟨q,0,none⟩))/\X.cell? ⟨q,0,none⟩=some (.int .i64 z)/\X.cell? ⟨q,1,none⟩=some (.slice (some ⟨nb,0,none⟩) Z C)/\X.cell? ⟨H+1,0,none⟩=some (.int .i64 x)/\X.cell? ⟨H+1,1,none⟩=some (.int .i64 y)/\Below W3.heap.size W3 X):=⟨c _ _ (by show H<H+3;omega) s0,c _ _ (by show q<H+3;omega) s1,c _ _ (by show q<H+3;omega) s2,c _ _ (by show H+1<H+3;omega) s3,c _ _ (by show H+1<H+3;omega) s4,hbX⟩
  refine store_at (i:=10) (w':=X) #[true,true,true,true,true,true,true,true,true,true,true] (by kernel_rfl) rfl rfl rfl (by rfl) ?y10 hS1 ?r10
  case y10 =>
   rw [hX]
   clear hX
   go_simp
  case r10 =>
  refine wpAnyH_done (by kernel_rfl) ?_ _
  dsimp only [calmPost]
  have a00:=cell_of_row _ _ 0 _ _ _ HX.out.2.1
  have a01:=cell_of_row _ _ 1 _ _ _ HX.out.2.1
  have a02:=cell_of_row _ _ 2 _ _ _ HX.out.2.1
  have r0:=(hbX.cell (p:=⟨H+1,0,none⟩) (by rw [HH.out.2.1];show H+1<H+3;omega)).trans a00
  have r1:=(hbX.cell (p:=⟨H+1,1,none⟩) (by rw [HH.out.2.1];show H+1<H+3;omega)).trans a01
  have r2:=(hbX.cell (p:=⟨H+1,2,none⟩) (by rw [HH.out.2.1];show H+1<H+3;omega)).trans a02
  simp at r0 r1 r2
  have HBX:Hid (Below W3.heap.size W3 X):=hbX
  have HG3:Hid (X.cell? ⟨b5,0,none⟩=some (.int .u8 f0)/\X.cell? ⟨b5,1,none⟩=some (.int .u8 f1)/\X.cell? ⟨b5,2,none⟩=some (.int .u8 f2)):=⟨g0,g1,g2⟩
  clear k0 k1 k2 z0 z1 z2 hX g0 g1 g2 fX s0 s1 s2 s3 s4 s5 hbX hS1 a00 a01 a02 hb5 hu hδ h0 h1 e0 e1 c b00 b10 b11 d0 d1 hS0
  go_wp2_with (go_at_call 105;refine (pPoints _ _ _ _).mono ?_;rintro e wq ⟨rfl,rfl⟩)
  clear r0 r1 r2
  obtain ⟨G,hG⟩:∃ G,G=X.heap.size:=⟨_,rfl⟩
  obtain ⟨XG,hXG⟩:∃ XG,XG=X.alloc (.cells #[.int .i64 x,.int .i64 y,.int .i64 n] 100):=⟨_,rfl⟩
  have hit:XG.heap[G]?=some (.cells #[.int .i64 x,.int .i64 y,.int .i64 n] 100 (0,0)):=by rw [hXG,hG];exact heap_alloc_last X _
  have hBG:Below X.heap.size X XG:=by rw [hXG];exact (Below.refl _ X).alloc (Nat.le_refl _) _
  have hsG:XG.heap.size=G+1:=by rw [hXG,hG];simp
  have hbG:b5<G:=by rw [hG];exact World.block_lt_of_cell? X _ HG3.out.1
  have HB3:Hid (Below W3.heap.size W3 XG):=HBX.out.trans (hBG.mono HBX.out.size)
  have hHG:H+3<=G:=by rw [hG];have:=HBX.out.size;have:=HH.out.2.1;omega
  have HG4:Hid (XG.cell? ⟨b5,0,none⟩=some (.int .u8 f0)/\XG.cell? ⟨b5,1,none⟩=some (.int .u8 f1)/\XG.cell? ⟨b5,2,none⟩=some (.int .u8 f2)):=⟨(hBG.cell (p:=⟨b5,0,none⟩) (by rw [<- hG];exact hbG)).trans HG3.out.1,(hBG.cell (p:=⟨b5,1,none⟩) (by rw [<- hG];exact hbG)).trans HG3.out.2.1,(hBG.cell (p:=⟨b5,2,none⟩) (by rw [<- hG];exact hbG)).trans HG3.out.2.2⟩
  rw [<- hG,<- hXG]
  have HGG:Hid (G=X.heap.size/\XG.heap.size=G+1):=⟨hG,hsG⟩
  clear hG hXG hBG
  refine (wpIn_wide (n:=5)).1 ?_
  refine wpIn_rangeFunc_ownF rfl (by decide) (gf:=131) (lb:=#[.pointer (some ⟨G,0,none⟩)]) rfl trivial (enters_of Tryz.func131 (by kernel_rfl) rfl)
   (points_stops Fence.wide (5-1) trivial rfl (by decide) G x y n (by omega) (by omega) XG hit)
   (fun h1 h2=>h2.trans h1) (fun W l o o' hl _ _ _=>World.putObj_heap_other (by omega)) (Below.refl _ _) (fun _=>rfl)
   (fun pre W=>PlainJ z T x y n XG W pre)
   (fun c pre W=>PlainX z T x y n (H+1+1) XG W c pre)
   ?own ?ownx ⟨Below.refl _ _,fun p hp=>by cases hp⟩
   (fun pt=>{ tmps:=#[.pointer (some ⟨q,0,none⟩),.agg #[.int .i64 x,.int .i64 y,.int .i64 n],.pointer (some ⟨H,0,none⟩),.pointer (some ⟨H+1,0,none⟩),.pointer (some ⟨H+1+1,0,none⟩),.pointer (some ⟨b5,0,none⟩),.int .i64 pt.1.1,.int .i64 pt.1.2,.pointer (some ⟨q,0,none⟩),.pointer (some ⟨q,0,none⟩),.pointer (some ⟨q,0,none⟩),.agg #[.int .i64 z,.slice (some ⟨nb,0,none⟩) Z C],.pointer (some ⟨H+1,0,none⟩),.int .i64 x,.pointer (some ⟨H+1,1,none⟩),.int .i64 y,.agg #[.int .u8 f0,.int .u8 f1,.int .u8 f2],.agg #[.int .i64 x,.int .i64 y,.int .i64 n],.func (.func 131) #[] #[.pointer (some ⟨G,0,none⟩)],.int .i64 pt.1.1,.int .i64 pt.1.2,undef,undef,undef,undef,undef,undef,undef,undef,undef],defers:=[] }) ?assign ?body ?done ?stop
  case own =>
   rintro pre W W' row ⟨i1,i2⟩ hg hr
   exact ⟨i1.grown hg i1.size (fun j e=>by have:=(hr j e).1;omega),i2⟩
  case ownx =>
   rintro c pre W W' row ⟨i1,i2,i3,i4⟩ hg hr
   have hr':∀ r,row=some r->G+1<=r:=fun r e=>by have:=(hr r e).1;omega
   have fg:Frm (fun k=>row=some k) W W':=(Frm.refl _ W).grown hg (fun k e=>.inl e)
   exact ⟨i1,i2.grown hg (fun k e=>.inr (by have:=hr' k e;omega)),fg.cell i3 (fun e=>by have h9:G+1<=H+1+1:=hr' _ e;omega),i4⟩
  case assign =>
   intro l pt W K hK
   dsimp only [encPt]
   gi_wp2
   exact hK
  case body =>
   rintro l pre ⟨⟨PX,PY⟩,⟨hpx1,hpx2⟩,hpy1,hpy2⟩ W ⟨i1,i2⟩ hlen
   dsimp only at hpx1 hpx2 hpy1 hpy2 ⊢
   have hB:Below W3.heap.size W3 W:=HB3.out.trans (i1.mono HB3.out.size)
   obtain ⟨g0,g1,g2,hg⟩:∃ g0 g1 g2,T.getD (PY*z+PX) (0,0,0)=(g0,g1,g2):=⟨_,_,_,rfl⟩
   have HA:Hid (∀ wx,Below W.heap.size W wx->Calls Tryz.prog 113 #[.agg #[.int .i64 z,.slice (some ⟨nb,0,none⟩) Z C],.int .i64 PX,.int .i64 PY] wx fun e w'=>e=.returned (.agg #[.int .u8 g0,.int .u8 g1,.int .u8 g2])/\Below wx.heap.size wx w'):=fun wx hb=>by
    have:=HAT.out wx (hB.trans (hb.mono hB.size)) PX PY (by omega) (by omega)
    rw [hg] at this
    exact this
   obtain ⟨E,hE⟩:∃ E,E=(g0 == f0 && (g1 == f1 && g2 == f2)):=⟨_,rfl⟩
   have heq:=fun w=>eqPix w g0 g1 g2 f0 f1 f2
   rw [<- hE] at heq
   have HE:Hid (E=true ↔ Pk.pixT z T (PX,PY)=Pk.pixT z T (x,y)):=by
    unfold Hid Pk.pixT
    rw [hE,hg,HF.out]
    simp
   have HI:Hid (PlainJ z T x y n XG W pre):=⟨i1,i2⟩
   have c0:=(i1.cell (p:=⟨b5,0,none⟩) (by rw [HGG.out.2];show b5<G+1;omega)).trans HG4.out.1
   have c1:=(i1.cell (p:=⟨b5,1,none⟩) (by rw [HGG.out.2];show b5<G+1;omega)).trans HG4.out.2.1
   have c2:=(i1.cell (p:=⟨b5,2,none⟩) (by rw [HGG.out.2];show b5<G+1;omega)).trans HG4.out.2.2
   have d0:=(hB.cell (p:=⟨q,0,none⟩) (by rw [HH.out.2.1];show q<H+3;omega)).trans HFW.out.c0
   have d1:=(hB.cell (p:=⟨q,1,none⟩) (by rw [HH.out.2.1];show q<H+3;omega)).trans HFW.out.c1
   rw [<- HZ.out] at d1
   have k00:=(hB.cell (p:=⟨H,0,none⟩) (by rw [HH.out.2.1];show H<H+3;omega)).trans (cell_of_row _ _ 0 _ _ _ HX.out.1)
   have kf:=(hB.cell (p:=⟨H+1+1,0,none⟩) (by rw [HH.out.2.1];show H+1+1<H+3;omega)).trans (cell_of_row _ _ 0 _ _ _ HX.out.2.2)
   have zf:=(hB.frozen (p:=⟨H+1+1,0,none⟩) (by rw [HH.out.2.1];show H+1+1<H+3;omega)).trans (frozen_of_row _ _ 0 _ _ HX.out.2.2)
   simp at k00 kf
   clear i1 i2 hB hg hE
   gi_wp2
   refine region_round_at (S:=fun w'=>w'.cell? ⟨H,0,none⟩=some (.pointer (some ⟨q,0,none⟩))/\w'.cell? ⟨q,0,none⟩=some (.int .i64 z)/\w'.cell? ⟨q,1,none⟩=some (.slice (some ⟨nb,0,none⟩) Z C)/\w'.cell? ⟨b5,0,none⟩=some (.int .u8 f0)/\w'.cell? ⟨b5,1,none⟩=some (.int .u8 f1)/\w'.cell? ⟨b5,2,none⟩=some (.int .u8 f2)/\w'.cell? ⟨H+1+1,0,none⟩=some (.bool false)/\w'.frozen? ⟨H+1+1,0,none⟩=false/\Below W.heap.size W w') 9 #[false,false,false,false,false,false,false,false,false] rfl rfl hmx (by kernel_rfl) (fun ⟨_,_,h⟩=>h) ?_
   have hS0:(W.drew.cell? ⟨H,0,none⟩=some (.pointer (some ⟨q,0,none⟩))/\W.drew.cell? ⟨q,0,none⟩=some (.int .i64 z)/\W.drew.cell? ⟨q,1,none⟩=some (.slice (some ⟨nb,0,none⟩) Z C)/\W.drew.cell? ⟨b5,0,none⟩=some (.int .u8 f0)/\W.drew.cell? ⟨b5,1,none⟩=some (.int .u8 f1)/\W.drew.cell? ⟨b5,2,none⟩=some (.int .u8 f2)/\W.drew.cell? ⟨H+1+1,0,none⟩=some (.bool false)/\W.drew.frozen? ⟨H+1+1,0,none⟩=false/\Below W.heap.size W W.drew):=⟨k00,d0,d1,c0,c1,c2,kf,zf,⟨rfl,rfl,rfl,Nat.le_refl _,fun _ _=>rfl⟩⟩
   refine tk_at 0 21 (.pointer (some ⟨q,0,none⟩)) #[true,false,false,false,false,false,false,false,false] rfl rfl rfl (by kernel_rfl) (by rfl) (by rintro w ⟨t0,t1,t2,t3,t4,t5,t6,t7,t8⟩;go_simp) (by assumption) ?_
   simp only [sIb,sCs,sCz]
   refine tk_at 1 22 (.pointer (some ⟨q,0,none⟩)) #[true,true,false,false,false,false,false,false,false] rfl rfl rfl (by kernel_rfl) (by rfl) (by rintro w ⟨t0,t1,t2,t3,t4,t5,t6,t7,t8⟩;go_simp) (by assumption) ?_
   simp only [sIb,sCs,sCz]
   refine tk_at 2 23 (.pointer (some ⟨q,0,none⟩)) #[true,true,true,false,false,false,false,false,false] rfl rfl rfl (by kernel_rfl) (by rfl) (by rintro w ⟨t0,t1,t2,t3,t4,t5,t6,t7,t8⟩;go_simp) (by assumption) ?_
   simp only [sIb,sCs,sCz]
   refine tk_at 3 24 (.agg #[.int .i64 z,.slice (some ⟨nb,0,none⟩) Z C]) #[true,true,true,true,false,false,false,false,false] rfl rfl rfl (by kernel_rfl) (by rfl) (by rintro w ⟨t0,t1,t2,t3,t4,t5,t6,t7,t8⟩;go_simp) (by assumption) ?_
   simp only [sIb,sCs,sCz]
   refine tk_at 4 25 (.int .i64 PX) #[true,true,true,true,true,false,false,false,false] rfl rfl rfl (by kernel_rfl) (by rfl) (by rintro w ⟨t0,t1,t2,t3,t4,t5,t6,t7,t8⟩;go_simp) (by assumption) ?_
   simp only [sIb,sCs,sCz]
   refine tk_at 5 26 (.int .i64 PY) #[true,true,true,true,true,true,false,false,false] rfl rfl rfl (by kernel_rfl) (by rfl) (by rintro w ⟨t0,t1,t2,t3,t4,t5,t6,t7,t8⟩;go_simp) (by assumption) ?_
   simp only [sIb,sCs,sCz]
   refine tk_at 7 28 (.agg #[.int .u8 f0,.int .u8 f1,.int .u8 f2]) #[true,true,true,true,true,true,false,true,false] rfl rfl rfl (by kernel_rfl) (by rfl) (by rintro w ⟨t0,t1,t2,t3,t4,t5,t6,t7,t8⟩;go_simp) (by assumption) ?_
   simp only [sIb,sCs,sCz]
   refine enter_at (i:=6) (d:=27) (f:=113) (args:=#[.agg #[.int .i64 z,.slice (some ⟨nb,0,none⟩) Z C],.int .i64 PX,.int .i64 PY]) #[true,true,true,true,true,true,true,true,false] (by kernel_rfl) rfl rfl rfl (by rfl) (by go_simp) (fun v' w'=>v'=.agg #[.int .u8 g0,.int .u8 g1,.int .u8 g2]/\Below W.heap.size W w') ((HA.out W.drew hS0.2.2.2.2.2.2.2.2).mono (fun e w' he=>⟨_,he.1,rfl,hS0.2.2.2.2.2.2.2.2.trans he.2⟩)) ?_
   rintro va wa ⟨rfl,ba⟩
   have cc:∀ (a:Addr) (v:Value),W.cell? a=some v->wa.cell? a=some v:=fun a v e=>(ba.cell (World.block_lt_of_cell? W _ e)).trans e
   have hSA:(wa.cell? ⟨H,0,none⟩=some (.pointer (some ⟨q,0,none⟩))/\wa.cell? ⟨q,0,none⟩=some (.int .i64 z)/\wa.cell? ⟨q,1,none⟩=some (.slice (some ⟨nb,0,none⟩) Z C)/\wa.cell? ⟨b5,0,none⟩=some (.int .u8 f0)/\wa.cell? ⟨b5,1,none⟩=some (.int .u8 f1)/\wa.cell? ⟨b5,2,none⟩=some (.int .u8 f2)/\wa.cell? ⟨H+1+1,0,none⟩=some (.bool false)/\wa.frozen? ⟨H+1+1,0,none⟩=false/\Below W.heap.size W wa):=⟨cc _ _ k00,cc _ _ d0,cc _ _ d1,cc _ _ c0,cc _ _ c1,cc _ _ c2,cc _ _ kf,(ba.frozen (World.block_lt_of_cell? W _ kf)).trans zf,ba⟩
   refine ⟨hSA,?_⟩
   simp only [sIb,sCs,sCz]
   refine tk_at 8 29 (.bool (!E)) #[true,true,true,true,true,true,true,true,true] rfl rfl rfl (by kernel_rfl) (by rfl) (by rintro w ⟨t0,t1,t2,t3,t4,t5,t6,t7,t8⟩;go_simp) (by assumption) ?_
   simp only [sIb,sCs,sCz]
   refine wpAnyH_done (by kernel_rfl) ?_ _
   have ka:=hSA.2.2.2.2.2.2.1
   have za:=hSA.2.2.2.2.2.2.2.1
   have HBA:Hid (Below W.heap.size W wa):=ba
   clear hSA hS0 k00 d0 d1 c0 c1 c2 kf zf cc ba
   cases E
   ·gi_wp2
    obtain ⟨i1,i2⟩:=HI.out
    have fa:Frm (fun k=>k=H+1+1) W wa:=Frm.of_below HBA.out
    have fX:Frm (fun k=>k=H+1+1) W (wa.setCell ⟨H+1+1,0,none⟩ (.bool false)):=fa.setCell (.inl rfl) _
    have hk0:∃ v,W.cell? ⟨H+1+1,0,none⟩=some v:=⟨_,(HB3.out.trans (i1.mono HB3.out.size)).cell (p:=⟨H+1+1,0,none⟩) (by rw [HH.out.2.1];show H+1+1<H+3;omega) |>.trans (cell_of_row _ _ 0 _ _ _ HX.out.2.2)⟩
    refine ⟨keeps_frm fX (fun k e=>by rw [e];exact hk0),rfl,?_,World.cell?_setCell_same _ _ _ ka,⟨⟨(PX,PY),⟨hpx1,hpx2⟩,hpy1,hpy2⟩,by simp,fun e=>by have:=HE.out.2 e;cases this⟩⟩
    exact (Frm.of_below i1).trans fX
   ·gi_wp2
    obtain ⟨i1,i2⟩:=HI.out
    refine ⟨keeps_frm (Frm.of_below (S:=fun _=>False) HBA.out) (fun k e=>e.elim),HBA.out.block G (by have:=i1.size;have:=HGG.out.2;omega),i1.trans (HBA.out.mono i1.size),fun p hp=>?_⟩
    rcases List.mem_append.1 hp with hp|hp
    ·exact i2 p hp
    ·obtain rfl:=List.mem_singleton.1 hp
     exact HE.out.1 (by trivial)
  case done =>
   rintro D xs W hD hxs ⟨i1,i2⟩ hK
   have HP:Hid (Pk.plainB z T x y n=true):=by
    unfold Hid Pk.plainB
    rw [List.all_eq_true]
    intro p hp
    rw [<- hxs] at hp
    obtain ⟨p',hp',rfl⟩:=List.mem_map.1 hp
    exact decide_eq_true (i2 p' hp')
   have hB:Below W3.heap.size W3 W:=HB3.out.trans (i1.mono HB3.out.size)
   have kf:=(hB.cell (p:=⟨H+1+1,0,none⟩) (by rw [HH.out.2.1];show H+1+1<H+3;omega)).trans (cell_of_row _ _ 0 _ _ _ HX.out.2.2)
   have zf:=(hB.frozen (p:=⟨H+1+1,0,none⟩) (by rw [HH.out.2.1];show H+1+1<H+3;omega)).trans (frozen_of_row _ _ 0 _ _ HX.out.2.2)
   simp at kf
   have HK:Hid (W.heap[D]?=some (.deferred (some []))/\Below W3.heap.size W3 W):=⟨hK,hB⟩
   clear i1 i2 hB hK hxs
   go_wp2_with fail
   obtain ⟨X2,hX2⟩:∃ X2,X2=W.setCell ⟨H+1+1,0,none⟩ (.bool true):=⟨_,rfl⟩
   rw [<- hX2]
   have q0:X2.cell? ⟨H+1+1,0,none⟩=some (.bool true):=by rw [hX2];exact World.cell?_setCell_same _ _ _ kf
   have fX:Frm (fun k=>k=H+1+1) W X2:=by rw [hX2];exact Frm.setCell (p:=⟨H+1+1,0,none⟩) (Frm.refl (fun k=>k=H+1+1) W) (.inl rfl) _
   have hKX:X2.heap[D]?=some (.deferred (some [])):=(fX.block _ (heap_lt0 HK.out.1) (by omega)).trans HK.out.1
   have hg:=grownBy_putObj' X2 D (.deferred none)
   have fg:Frm (fun k=>k=D) X2 (X2.putObj D (.deferred none)):=(Frm.refl _ X2).grown hg (fun k e=>by cases e;exact .inl rfl)
   have q1:(X2.putObj D (.deferred none)).cell? ⟨H+1+1,0,none⟩=some (.bool true):=fg.cell q0 (by show ¬ H+1+1=D;omega)
   refine retM_mark (v:=.bool true) rfl hKX (by simp [results,Tryz.results78,go_sem,q1]) ⟨by rw [HP.out],?_⟩
   have hw:=HH.out.1
   have hb0:Below w.heap.size w W:=HH.out.2.2.trans (HK.out.2.mono HH.out.2.2.size)
   have hb1:Below w.heap.size w X2:=hb0.trans (fX.below (by have:=hb0.size;omega) (fun k e=>by omega))
   exact hb1.trans (fg.below (by have:=hb1.size;omega) (fun k e=>by omega))
  case stop =>
   rintro D c pre W hD hpre ⟨rfl,i2,i3,p,hp,hne⟩ hK
   have hps:p.1 ∈ Flm.spots x y n:=hpre.subset (List.mem_map.2 ⟨p,hp,rfl⟩)
   have HP:Hid (Pk.plainB z T x y n=false):=by
    unfold Hid Pk.plainB
    rw [List.all_eq_false]
    exact ⟨p.1,hps,by simpa using hne⟩
   have HR:Hid (Frm (fun k=>k=H+1+1) XG W/\W.cell? ⟨H+1+1,0,none⟩=some (.bool false)/\W.heap[D]?=some (.deferred (some []))):=⟨i2,i3,hK⟩
   clear i2 i3 hp hne hK hps hpre
   refine wpIn_wide.2 ?_
   go_wp2_with fail
   obtain ⟨r1,r2,r3⟩:=HR.out
   have hg:=grownBy_putObj' W D (.deferred none)
   have fg:Frm (fun k=>k=D) W (W.putObj D (.deferred none)):=(Frm.refl _ W).grown hg (fun k e=>by cases e;exact .inl rfl)
   have q1:(W.putObj D (.deferred none)).cell? ⟨H+1+1,0,none⟩=some (.bool false):=fg.cell r2 (by show ¬ H+1+1=D;omega)
   refine retM_mark (v:=.bool false) rfl r3 (by simp [results,Tryz.results78,go_sem,q1]) ⟨by rw [HP.out],?_⟩
   have hw:=HH.out.1
   have hb0:Below w.heap.size w XG:=HH.out.2.2.trans (HB3.out.mono HH.out.2.2.size)
   have hb1:Below w.heap.size w W:=hb0.trans (r1.below (by have:=hb0.size;omega) (fun k e=>by omega))
   exact hb1.trans (fg.below (by have:=hb1.size;omega) (fun k e=>by omega))
end
section
open Go.RowKit
structure ChAt (w:World) (b o:Nat) (ch:List Int):Prop where
 len:ch.length=400
 cell:∀ k,k<400->w.cell? ⟨b,o+k,none⟩=some (.int .u32 (ch.getD k 0))
 fz:∀ k,k<400->w.frozen? ⟨b,o+k,none⟩=false
theorem chInfo:(Tryz.prog.info? 145).map (fun i=>(i.zero,i.size))=some (some (.agg (Array.replicate 400 (.int .u32 0))),400):=by kernel_rfl
def chRowN (N k:Nat):Array Value:=(List.replicate k (Value.int .u32 2048)++List.replicate (N-k) (Value.int .u32 0)).toArray
theorem chRowN_zero (N:Nat):chRowN N 0=Array.replicate N (.int .u32 0):=by unfold chRowN;simp
theorem chRowN_set (N k:Nat) (h:k<N):(chRowN N k).setIfInBounds k (.int .u32 2048)=chRowN N (k+1):=by
 unfold chRowN
 simp only [List.setIfInBounds_toArray]
 congr 1
 rw [List.set_append_right _ _ (by simp),show N-k=(N-(k+1))+1 by omega,List.replicate_succ,List.length_replicate,Nat.sub_self,List.set_cons_zero,List.replicate_succ' (n:=k)]
 simp
theorem chRowN_get (N k:Nat) (j:Nat) (hj:j<N):∃ c,(chRowN N k)[j]?=some (.int .u32 c):=by
 unfold chRowN
 simp only [List.getElem?_toArray,List.getElem?_append,List.length_replicate,List.getElem?_replicate]
 split
 ·exact ⟨2048,rfl⟩
 ·exact ⟨0,by rw [if_pos (by omega)]⟩
theorem chRowN_full (N:Nat):chRowN N N=Array.replicate N (.int .u32 2048):=by unfold chRowN;simp
def chRow (k:Nat):Array Value:=chRowN 400 k
theorem chRow_zero:chRow 0=Array.replicate 400 (.int .u32 0):=chRowN_zero 400
theorem chRow_set (k:Nat) (h:k<400):(chRow k).setIfInBounds k (.int .u32 2048)=chRow (k+1):=chRowN_set 400 k h
theorem chRow_get (k:Nat) (j:Nat) (hj:j<400):∃ c,(chRow k)[j]?=some (.int .u32 c):=chRowN_get 400 k j hj
def evens (N:Nat):Array Value:=Array.replicate N (.int .u32 2048)
theorem evens_size (N:Nat):(evens N).size=N:=by unfold evens;simp
theorem evens_one (N:Nat):(evens N).all (·.oneCell')=true:=by
 unfold evens
 rw [Array.all_eq_true_iff_forall_mem]
 intro x hx
 simp at hx
 rw [hx.2];rfl
theorem evens_get (N k:Nat) (h:k<N):(evens N)[k]?=some (.int .u32 2048):=by unfold evens;simp [h]
def chEven:Array Value:=evens 400
theorem chRow_full:chRow 400=chEven:=chRowN_full 400
theorem below_setCells (B b:Nat) (hb:B<=b):∀ (vs:List Value) (o:Nat) {w v:World},Below B w v->Below B w (v.setCells b o vs)
 | [],_,_,_,h=>h
 | _ :: r,o,_,_,h=>below_setCells B b hb r (o+1) (h.setCell hb _)
set_option maxRecDepth 20000 in
theorem newChances (w:World) :
  Calls Tryz.prog 84 #[] w fun e w'=>e=.returned (.agg chEven)/\Below w.heap.size w w':=by
 obtain ⟨hzero,hsize⟩:=zero_of_info chInfo
 have HSZ:Hid ((Tryz.prog.info? 145).map (·.size)=some 400):=hsize
 clear hsize
 go_enter Tryz.func84,Tryz.ntmps84
 go_wp2
 rw [<- chRow_zero]
 obtain ⟨w1,hw1⟩:∃ w1,w1=w.alloc (Obj.cells (chRow 0) 145):=⟨_,rfl⟩
 rw [<- hw1]
 have hs1:w1.heap.size=w.heap.size+1:=by rw [hw1];simp
 have HW:Hid (w1=w.alloc (Obj.cells (chRow 0) 145)):=hw1
 clear hw1 hzero
 rw [<- hs1]
 go_loopw [3] (fun i wr=>∃ k:Nat,k<=400/\i=.int .i64 k/\wr=w1.alloc (Obj.cells (chRow k) 145)) (fun i _=>400-(intOf i).toNat)
 case atStart=>exact ⟨0,by omega,rfl,rfl⟩
 case round =>
  obtain ⟨k,hk,rfl,rfl⟩:=hrel
  by_cases hlt:k<400
  ·have hlt':(k:Int)<400:=by omega
   obtain ⟨c0,hc⟩:=chRow_get k k hlt
   have hset:=chRow_set k hlt
   go_wp2
   go_roundw
   case rel=>exact ⟨k+1,by omega,by go_num,rfl⟩
   case measure=>simp [intOf];omega
  ·obtain rfl:k=400:=by omega
   obtain ⟨W,hW⟩:∃ W,W=w1.alloc (Obj.cells (chRow 400) 145):=⟨_,rfl⟩
   rw [<- hW]
   have HR:Hid (W.rangeAt w1.heap.size 0 chEven.toList):=by
    intro j v hv
    rw [<- chRow_full] at hv
    rw [hW,cell_of_row _ _ (0+j) (chRow 400) 145 (0,0) (heap_alloc_last w1 _)]
    simpa using hv
   have HT:Hid (W.there w.heap.size 0 400):=by
    intro j hj
    have hb:w.heap.size<w1.heap.size:=by omega
    obtain ⟨c,hc⟩:=chRow_get 0 j hj
    have hcell:w1.cell? ⟨w.heap.size,0+j,none⟩=some (.int .u32 c):=by
     rw [HW.out,cell_of_row _ _ (0+j) (chRow 0) 145 (0,0) (heap_alloc_last w _)]
     simpa using hc
    rw [hW]
    refine ⟨?_,?_⟩
    ·rw [World.cell?_alloc_lt _ _ _ hb,hcell];rfl
    ·rw [World.frozen?_alloc_past _ _ _ hb,HW.out];simp
   have HB:Hid (Below w.heap.size w W):=by
    rw [hW,HW.out]
    exact (((Below.refl _ w).alloc (Nat.le_refl _) _).alloc (by simp) _)
   clear hW
   go_wp2
   refine wp_load_mid 145 (.tmp 1) rfl w1.heap.size 0 rfl chEven.toList _ HR.out Tryz.underlying145 rfl ?hsz ?_
   case hsz=>rw [HSZ.out];simp only [Array.length_toList];rw [chEven,evens_size]
   rename_i hK
   apply hK
   clear hK
   rw [Array.toArray_toList]
   have hcs:chEven.size=400:=evens_size 400
   go_wp2
   have hsc:=run_storeCells_cells (P:=Tryz.prog) w.heap.size 0 chEven.toList 0 W (fun j hj=>by simpa using (HT.out j (by rw [Array.length_toList,chEven,evens_size] at hj;exact hj)).1) (fun j hj=>by simpa using (HT.out j (by rw [Array.length_toList,chEven,evens_size] at hj;exact hj)).2)
    (fun v hv=>(Array.all_eq_true_iff_forall_mem.1 (evens_one 400)) v (Array.mem_toList_iff.1 hv))
   simp only [Nat.add_zero] at hsc
   simp only [hsc,Result.andThen]
   rw [Oper.upon_skip]
   go_wp2
   (try simp only [Exit.inBlock,Exit.then])
   have hld:=run_loadVar_mid (P:=Tryz.prog) (W.setCells w.heap.size 0 chEven.toList) w.heap.size 0 145 chEven.toList _ (World.rangeAt_setCells_same _ _ _ _ (by rw [Array.length_toList,chEven,evens_size];exact HT.out)) Tryz.underlying145 rfl (by rw [HSZ.out];simp only [Array.length_toList];rw [chEven,evens_size])
   refine bodyPost_ret (v:=.agg chEven) ?_ rfl ⟨rfl,below_setCells _ _ (Nat.le_refl _) _ _ HB.out⟩
   rw [Array.toArray_toList] at hld
   simp [results,Tryz.results84,Act.put,asAddr,hld]
end
end Go.Proofs.YtekfbphnoibnjaaGreatDoor
