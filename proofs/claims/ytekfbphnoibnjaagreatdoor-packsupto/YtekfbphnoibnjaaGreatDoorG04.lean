/-
  ShGet Spots ShSoft
-/
import Derived.Test.YtekfbphnoibnjaaGreatDoorG03
import Derived.Handy
set_option maxHeartbeats 4000000
namespace Go.Proofs.YtekfbphnoibnjaaGreatDoor
section
open Go.RowKit
open Flm (Px FS)
theorem spot_lt {x y z:Nat} (hx:x<z) (hy:y<z):y*z+x<z*z:=by
 have:(y+1)*z<=z*z:=Nat.mul_le_mul_right _ hy
 rw [Nat.succ_mul] at this
 omega
variable {w:World} {B p b g lg lc rg z:Nat} {fbs:List Nat} {s:ByteArray} {fs:FS}
theorem sh_at (h:ShAt w B p b g lg lc rg fbs s z fs) (f x y:Nat) (hf:f<fs.frs.length) (hx:x<z) (hy:y<z) :
  Calls Tryz.prog 177 #[.pointer (some ⟨p,0,none⟩),.int .i64 f,.int .i64 x,.int .i64 y] w fun e w'=>e=.returned (.agg #[.int .u8 (Flm.px fs f (y*z+x)).1,.int .u8 (Flm.px fs f (y*z+x)).2.1,.int .u8 (Flm.px fs f (y*z+x)).2.2])/\Below w.heap.size w w':=by
 have hk:=spot_lt hx hy
 obtain ⟨k0,k1,k2⟩:=(h.frs f hf).cell (y*z+x) hk
 exact sh_at_raw w p lg _ lc _ (z*z) (z*z) z f x y _ _ _ h.c1 h.c2 (h.row hf) hf rfl _ rfl hk h.zzle k0 k1 k2
theorem sh_put (h:ShAt w B p b g lg lc rg fbs s z fs) (x y:Nat) (q:Px) (hx:x<z) (hy:y<z) (hq:Flm.okPx q) :
  Calls Tryz.prog 175 #[.pointer (some ⟨p,0,none⟩),.int .i64 x,.int .i64 y,.agg #[.int .u8 q.1,.int .u8 q.2.1,.int .u8 q.2.2]] w fun e w'=>e=.returned (.tuple #[])/\ShAt w' B p b g lg lc rg fbs s z (Flm.put fs (y*z+x) q)/\Frm (fun k=>k=fbs.getD (Flm.now fs) 0) w w':=by
 have hk:=spot_lt hx hy
 have hnow:Flm.now fs<fs.frs.length:=by have:=h.n2;unfold Flm.now;omega
 have hnow2:fs.frs.length=Flm.now fs+1:=by have:=h.n2;unfold Flm.now;omega
 obtain ⟨k0,k1,k2⟩:=(h.frs _ hnow).cell (y*z+x) hk
 have c2:=h.c2
 rw [hnow2] at c2
 have fr:=(h.frs _ hnow).frozen
 refine (sh_put_raw w p lg (Flm.now fs) lc _ (z*z) (z*z) z x y q.1 q.2.1 q.2.2 _ _ _ h.c1 c2 (h.row hnow) (by have:=h.n2;omega) rfl _ rfl hk h.zzle k0 k1 k2 (fr _) (fr _) (fr _)).mono ?_
 rintro e w' ⟨rfl,rfl⟩
 have h1:ShAt (w.alloc (.cells #[.int .u8 q.1,.int .u8 q.2.1,.int .u8 q.2.2] 50)) B p b g lg lc rg fbs s z fs:=h.below ((Below.refl _ _).alloc (Nat.le_refl _) _)
 refine ⟨rfl,(h1.put hk hq).frm (S:=fun _=>False) (Frm.refl _ _).drew (fun _ _ e=>e),?_⟩
 obtain ⟨fb,hfb⟩:∃ fb,fb=fbs.getD (Flm.now fs) 0:=⟨_,rfl⟩
 rw [<- hfb]
 exact (Frm.setCell (p:=⟨fb,_,none⟩) (Frm.setCell (p:=⟨fb,_,none⟩) (Frm.setCell (p:=⟨fb,_,none⟩) ((Frm.refl (fun k=>k=fb) w).alloc _) (.inl rfl) _) (.inl rfl) _) (.inl rfl) _).drew
theorem sh_near (h:ShAt w B p b g lg lc rg fbs s z fs) (x y:Int) (hx1:x<z) (hy1:y<z) :
  Calls Tryz.prog 172 #[.pointer (some ⟨p,0,none⟩),.int .i64 x,.int .i64 y] w fun e w'=>e=.returned (.agg #[.int .i64 (Flm.near z fs x y).1,.int .i64 (Flm.near z fs x y).2.1,.int .i64 (Flm.near z fs x y).2.2])/\Below w.heap.size w w':=by
 have i1:=h.c1
 have i2:=h.c2
 have hpu:=h.up
 by_cases hx:x<0
 ·have e:Flm.near z fs x y=(0,0,0):=by unfold Flm.near;rw [if_pos (.inl hx)]
  rw [e]
  clear h i2 e
  go_enter Tryz.func172,Tryz.ntmps172
  go_wp2
  refine bodyPost_ret (v:=.agg #[.int .i64 0,.int .i64 0,.int .i64 0]) (by simp [results,Tryz.results172,go_sem]) rfl ⟨rfl,?_⟩
  repeat (first|exact Below.refl _ _|refine Below.setCell ?_ (by simp) _|refine Below.alloc ?_ (by simp) _|refine below_drewN ?_ _)
 by_cases hy:y<0
 ·have e:Flm.near z fs x y=(0,0,0):=by unfold Flm.near;rw [if_pos (.inr (.inl hy))]
  rw [e]
  clear h i2 e
  go_enter Tryz.func172,Tryz.ntmps172
  go_wp2
  refine bodyPost_ret (v:=.agg #[.int .i64 0,.int .i64 0,.int .i64 0]) (by simp [results,Tryz.results172,go_sem]) rfl ⟨rfl,?_⟩
  repeat (first|exact Below.refl _ _|refine Below.setCell ?_ (by simp) _|refine Below.alloc ?_ (by simp) _|refine below_drewN ?_ _)
 obtain ⟨a,rfl⟩:=Int.eq_ofNat_of_zero_le (Int.not_lt.1 hx)
 obtain ⟨c,rfl⟩:=Int.eq_ofNat_of_zero_le (Int.not_lt.1 hy)
 have hnow:Flm.now fs<fs.frs.length:=by have:=h.n2;unfold Flm.now;omega
 have hnow2:((fs.frs.length:Nat):Int)-1=(Flm.now fs:Nat):=by have:=h.n2;unfold Flm.now;omega
 have hw:wrap64 (((fs.frs.length:Nat):Int)-1)=(Flm.now fs:Nat):=by rw [hnow2];have:=h.n2;unfold wrap64 Flm.now;omega
 obtain ⟨q,hq⟩:∃ q,q=Flm.px fs (Flm.now fs) (c*z+a):=⟨_,rfl⟩
 have e:Flm.near z fs (a:Int) (c:Int)=(Pix.tY q.1 q.2.1 q.2.2,q.1-q.2.2,Pix.tV q.1 q.2.1 q.2.2):=by
  unfold Flm.near
  rw [if_neg (by omega),hq]
  rfl
 have HA:Hid (∀ wx,Below w.heap.size w wx->Calls Tryz.prog 177 #[.pointer (some ⟨p,0,none⟩),.int .i64 (Flm.now fs:Nat),.int .i64 (a:Nat),.int .i64 (c:Nat)] wx fun e w'=>e=.returned (.agg #[.int .u8 q.1,.int .u8 q.2.1,.int .u8 q.2.2])/\Below wx.heap.size wx w'):=by
  intro wx hb
  have:=sh_at (h.below hb) (Flm.now fs) a c hnow (by omega) (by omega)
  rw [<- hq] at this
  exact this
 obtain ⟨⟨q0,q1⟩,⟨q2,q3⟩,⟨q4,q5⟩⟩:Flm.okPx q:=by rw [hq];exact h.px _ _
 have HT:=fun wx=>refTurn q.1 q.2.1 q.2.2 wx q0 q1 q2 q3 q4 q5
 rw [e]
 have hle:¬ ((z:Int)<=(a:Int)):=by omega
 clear h e hq hnow hnow2 q0 q1 q2 q3 q4 q5
 obtain ⟨W,hW⟩:∃ W,W=w.alloc (.cells #[.int .i64 0,.int .i64 0,.int .i64 0] 48):=⟨_,rfl⟩
 have hh:W.heap[w.heap.size]?=some (.cells #[.int .i64 0,.int .i64 0,.int .i64 0] 48):=by rw [hW];show (w.heap.push _)[w.heap.size]?=_;simp
 have hB:Below w.heap.size w W:=by rw [hW];exact (Below.refl _ _).alloc (Nat.le_refl _) _
 have hoW:w.heap.size<W.heap.size:=by rw [hW];simp
 have HW:Hid (W=w.alloc (.cells #[.int .i64 0,.int .i64 0,.int .i64 0] 48)):=hW
 have HH:Hid (∀ w2,Below W.heap.size W w2->w2.heap[w.heap.size]?=some (.cells #[.int .i64 0,.int .i64 0,.int .i64 0] 48)):=fun w2 b2=>(b2.block _ hoW).trans hh
 have HB:Hid (Below w.heap.size w W):=hB
 have j1:=(hB.cell (p:=⟨p,1,none⟩) hpu).trans i1
 have j2:=(hB.cell (p:=⟨p,2,none⟩) hpu).trans i2
 obtain ⟨o,ho⟩:∃ o,o=w.heap.size:=⟨_,rfl⟩
 have HO:Hid (o=w.heap.size):=ho
 rw [<- ho] at HH
 clear hW hh hB hoW ho i1 i2
 go_enter Tryz.func172,Tryz.ntmps172
 go_wp2_with (first
  | (rw [<- HW.out,<- HO.out])
  | (go_at_call 177;refine (HA.out _ HB.out).mono ?_;rintro e w1 ⟨rfl,b1⟩)
  | (go_at_call 54;refine (HT _).mono ?_;rintro e w2 ⟨rfl,b2⟩;have hg:=HH.out w2 (b1.trans (b2.mono b1.size));have s0:=cell_of_row w2 o 0 _ _ _ hg;have s1:=cell_of_row w2 o 1 _ _ _ hg;have s2:=cell_of_row w2 o 2 _ _ _ hg;have z0:=frozen_of_row w2 o 0 _ _ hg;have z1:=frozen_of_row w2 o 1 _ _ hg;have z2:=frozen_of_row w2 o 2 _ _ hg;simp at s0 s1 s2))
 refine bodyPost_ret (v:=.agg #[.int .i64 (Pix.tY q.1 q.2.1 q.2.2),.int .i64 (q.1-q.2.2),.int .i64 (Pix.tV q.1 q.2.1 q.2.2)]) (by simp [results,Tryz.results172,go_sem,s0,s1,s2]) rfl ⟨rfl,?_⟩
 have hb2:Below w.heap.size w w2:=HB.out.trans ((b1.trans (b2.mono b1.size)).mono HB.out.size)
 have hoe:=HO.out
 repeat (first|exact hb2|refine Below.setCell ?_ (by simp only;omega) _|refine below_drewN ?_ _)
end
namespace Flm
theorem drop_rows {α:Type} (f:Nat->Nat->α) (n:Nat):∀ (l:List Nat) (j:Nat) (hj:j<l.length) (i:Nat) (_:i<n),(l.flatMap fun a=>(List.range n).map fun b=>f a b).drop (j*n+i)=f l[j] i :: (l.flatMap fun a=>(List.range n).map fun b=>f a b).drop (j*n+i+1)
 | [],j,hj,_,_=>by simp at hj
 | a :: l,0,_,i,hi=>by
  have hl:((List.range n).map fun b=>f a b).length=n:=by simp
  rw [List.flatMap_cons,Nat.zero_mul,Nat.zero_add,List.drop_append_of_le_length (by omega),List.drop_append_of_le_length (by omega),List.drop_eq_getElem_cons (by omega)]
  simp
 | a :: l,j+1,hj,i,hi=>by
  have hl:((List.range n).map fun b=>f a b).length=n:=by simp
  have ih:=drop_rows f n l j (by simpa using hj) i hi
  have e:(j+1)*n+i=n+(j*n+i):=by rw [Nat.succ_mul];omega
  have key:∀ m,(((List.range n).map fun b=>f a b)++l.flatMap fun a=>(List.range n).map fun b=>f a b).drop (n+m)=(l.flatMap fun a=>(List.range n).map fun b=>f a b).drop m:=fun m=>by
   rw [<- List.drop_drop]
   congr 1
   exact List.drop_left' hl
  rw [List.flatMap_cons,e,key,ih,show n+(j*n+i)+1=n+(j*n+i+1) by omega,key]
  rfl
def left (x y n j i:Nat):List (Nat × Nat):=(spots x y n).drop (j*n+i)
theorem left_zero (x y n:Nat):left x y n 0 0=spots x y n:=by unfold left;simp
theorem left_row (x y n j:Nat):left x y n j n=left x y n (j+1) 0:=by unfold left;rw [Nat.succ_mul];rfl
theorem left_cons (x y n j i:Nat) (hj:j<n) (hi:i<n):left x y n j i=(x+i,y+j) :: left x y n j (i+1):=by
 unfold left spots
 rw [drop_rows (fun j i=>(x+i,y+j)) n (List.range n) j (by simpa using hj) i hi]
 simp [Nat.add_assoc]
theorem spots_len (x y n:Nat):(spots x y n).length=n*n:=by
 unfold spots
 rw [List.length_flatMap]
 simp only [List.length_map,List.length_range]
 rw [List.map_const',List.sum_replicate_nat,List.length_range]
theorem left_end (x y n:Nat):left x y n n 0=[]:=by
 unfold left
 exact List.drop_eq_nil_of_le (by rw [spots_len];omega)
theorem mem_spots {x y n:Nat} {q:Nat × Nat}:q ∈ spots x y n ↔ ∃ j i,j<n/\i<n/\q=(x+i,y+j):=by
 unfold spots
 simp only [List.mem_flatMap,List.mem_range,List.mem_map]
 constructor
 ·rintro ⟨j,hj,i,hi,rfl⟩;exact ⟨j,i,hj,hi,rfl⟩
 ·rintro ⟨j,i,hj,hi,rfl⟩;exact ⟨j,hj,i,hi,rfl⟩
def pick (q:Px) (k:Nat):Int:=if k=0 then q.1 else if k=1 then q.2.1 else q.2.2
theorem turn_bd {p:Px} (h:okPx p) (k:Nat):-255<=pick (turn p) k/\pick (turn p) k<=255:=by
 obtain ⟨⟨a,b⟩,⟨c,d⟩,⟨e,f⟩⟩:=h
 have:=Pix.tbounds p.1 p.2.1 p.2.2 a b c d e f
 unfold pick turn
 split
 ·dsimp only;omega
 ·split
  ·dsimp only;omega
  ·dsimp only;omega
theorem near_bd {z:Nat} {fs:FS} (h:∀ i k,okPx (px fs i k)) (x y:Int) (k:Nat):-255<=pick (near z fs x y) k/\pick (near z fs x y) k<=255:=by
 unfold near
 split
 ·unfold pick;split
  ·decide
  ·split <;> decide
 ·exact turn_bd (h _ _) k
def rAt (s:ByteArray) (r:RS):Nat->RS
 | 0=>r
 | k+1=>(Rdr.number s (rAt s r k) (100+24*k)).2
def sAt (s:ByteArray) (r:RS) (k:Nat):Int:=Rdr.signed s (rAt s r k) (100+24*k)
theorem rAt_ok {s:ByteArray} {r:RS} (h:Rdr.Ok s r):∀ k,k<=3->Rdr.Ok s (rAt s r k)
 | 0,_=>h
 | k+1,hk=>Rdr.number_ok (rAt_ok h k (by omega)) (by omega)
def cOf (s:ByteArray) (z:Nat) (fs:FS) (i j:Nat) (k:Nat):Int:=expected (pick (near z fs ((i:Int)-1) j) k) (pick (near z fs i ((j:Int)-1)) k) (pick (near z fs ((i:Int)-1) ((j:Int)-1)) k)+sAt s fs.r k
theorem soft1_eq (s:ByteArray) (z:Nat) (fs:FS) (i j:Nat):soft1 s z fs i j=({ fs with r:=if (back (cOf s z fs i j 0,cOf s z fs i j 1,cOf s z fs i j 2)).2=0 then rAt s fs.r 3 else Rdr.fail (rAt s fs.r 3) (back (cOf s z fs i j 0,cOf s z fs i j 1,cOf s z fs i j 2)).2 },(back (cOf s z fs i j 0,cOf s z fs i j 1,cOf s z fs i j 2)).1):=rfl
end Flm
section
open Go.RowKit
open Flm (Px FS)
theorem Frm.step {S T:Nat->Prop} {a b c:World} (h:Frm S a b) (k:Frm T b c) (hs:∀ i,i<a.heap.size->T i->S i):Frm S a c :=
 ⟨k.os.trans h.os,k.tape.trans h.tape,k.output.trans h.output,Nat.le_trans h.size k.size,fun i hi hn=>(k.block i (Nat.lt_of_lt_of_le hi h.size) (fun e=>hn (hs i hi e))).trans (h.block i hi hn)⟩
def Box3 (w:World) (A:Nat) (q:Px):Prop:=w.heap[A]?=some (.cells #[.int .i64 q.1,.int .i64 q.2.1,.int .i64 q.2.2] 48 (0,0))
theorem Box3.new (w:World) (q:Px):Box3 (w.alloc (.cells #[.int .i64 q.1,.int .i64 q.2.1,.int .i64 q.2.2] 48)) w.heap.size q:=by
 show (w.heap.push _)[w.heap.size]?=_;simp
theorem Box3.lt {w:World} {A:Nat} {q:Px} (h:Box3 w A q):A<w.heap.size:=by
 rcases Nat.lt_or_ge A w.heap.size with h'|h'
 ·exact h'
 ·unfold Box3 at h;rw [Array.getElem?_eq_none h'] at h;cases h
theorem Box3.frm {S:Nat->Prop} {w w':World} {A:Nat} {q:Px} (h:Box3 w A q) (f:Frm S w w') (hn:¬ S A):Box3 w' A q:=(f.block A h.lt hn).trans h
theorem Box3.cell {w:World} {A:Nat} {q:Px} (h:Box3 w A q) (k:Nat) (hk:k<3):w.cell? ⟨A,k,none⟩=some (.int .i64 (Flm.pick q k)):=by
 rw [cell_of_row w A k _ _ _ h]
 rcases (by omega:k=0 \/ k=1 \/ k=2) with rfl|rfl|rfl <;> rfl
theorem Box3.frozen {w:World} {A:Nat} {q:Px} (h:Box3 w A q) (k:Nat):w.frozen? ⟨A,k,none⟩=false:=frozen_of_row w A k _ _ h
def part3 (f:Nat->Int) (k:Nat):Px:=(if 0<k then f 0 else 0,if 1<k then f 1 else 0,if 2<k then f 2 else 0)
theorem Box3.put {w:World} {A:Nat} {f:Nat->Int} {k:Nat} (h:Box3 w A (part3 f k)) (hk:k<3):Box3 (w.setCell ⟨A,k,none⟩ (.int .i64 (f k))) A (part3 f (k+1)):=by
 unfold Box3
 rw [heap_setCell_same w A k _ _ _ h]
 rcases (by omega:k=0 \/ k=1 \/ k=2) with rfl|rfl|rfl <;> simp [part3]
structure SoftK (W4 wr:World) (B p b g O1 O2 O3 O4:Nat) (s:ByteArray) (r:RS) (a b' d:Px) (f:Nat->Int) (k:Nat):Prop where
 rd:RdAt wr B b g s (Flm.rAt s r k)
 x1:Box3 wr O1 a
 x2:Box3 wr O2 b'
 x3:Box3 wr O3 d
 x4:Box3 wr O4 (part3 f k)
 c0:wr.cell? ⟨p,0,none⟩=some (.pointer (some ⟨b,0,none⟩))
 fr:Frm (fun t=>rdS b g t \/ t=O4) W4 wr
def cPx (s:ByteArray) (z:Nat) (q:FS) (I J:Nat):Px:=(Flm.cOf s z q I J 0,Flm.cOf s z q I J 1,Flm.cOf s z q I J 2)
theorem soft_go {s:ByteArray} {z:Nat} {q:FS} {x y n j i I J:Nat} (hI:I=x+i) (hJ:J=y+j) (hj:j<n) (hi:i<n) (hb:(Flm.back (cPx s z q I J)).2=0) (he:(Flm.rAt s q.r 3).err=0) :
  Flm.soft s z (Flm.left x y n j i) q=Flm.soft s z (Flm.left x y n j (i+1)) (Flm.put { q with r:=Flm.rAt s q.r 3 } (J*z+I) (Flm.back (cPx s z q I J)).1):=by
 subst hI hJ
 rw [Flm.left_cons x y n j i hj hi]
 have e1:Flm.soft1 s z q (x+i) (y+j)=({ q with r:=Flm.rAt s q.r 3 },(Flm.back (cPx s z q (x+i) (y+j))).1):=by
  rw [Flm.soft1_eq]
  unfold cPx at hb ⊢
  rw [if_pos hb]
 show (if (Flm.soft1 s z q (x+i) (y+j)).1.r.err=0 then _ else _)=_
 rw [e1,if_pos he]
theorem soft_stop {s:ByteArray} {z:Nat} {q:FS} {x y n j i I J:Nat} (hI:I=x+i) (hJ:J=y+j) (hj:j<n) (hi:i<n) (r':RS) (hr:r'=if (Flm.back (cPx s z q I J)).2=0 then Flm.rAt s q.r 3 else Rdr.fail (Flm.rAt s q.r 3) (Flm.back (cPx s z q I J)).2) (he:r'.err ≠ 0) :
  Flm.soft s z (Flm.left x y n j i) q={ q with r:=r' }:=by
 subst hI hJ
 rw [Flm.left_cons x y n j i hj hi]
 have e1:Flm.soft1 s z q (x+i) (y+j)=({ q with r:=r' },(Flm.back (cPx s z q (x+i) (y+j))).1):=by
  rw [Flm.soft1_eq,hr]
  rfl
 show (if (Flm.soft1 s z q (x+i) (y+j)).1.r.err=0 then _ else _)=_
 rw [e1,if_neg he]
def SoftI (w:World) (B p b g lg lc rg z:Nat) (fbs:List Nat) (s:ByteArray) (fs:FS) (x y n j i:Nat) (wr:World):Prop :=
 ∃ q:FS,Flm.soft s z (Flm.left x y n j i) q=Flm.soft s z (Flm.spots x y n) fs/\q.r.err=0/\Flm.now q=Flm.now fs/\ShAt wr B p b g lg lc rg fbs s z q/\Frm (shS p b g rg (fbs.getD (Flm.now fs) 0)) w wr
set_option maxRecDepth 20000 in
theorem sh_soft (w:World) (B p b g lg lc rg z:Nat) (fbs:List Nat) (s:ByteArray) (fs:FS) (h:ShAt w B p b g lg lc rg fbs s z fs) (hs:s.size<=maxLen) (x y n:Nat) (hx:x+n<=z) (hy:y+n<=z) (he:fs.r.err=0) :
  Calls Tryz.prog 152 #[.pointer (some ⟨p,0,none⟩),.int .i64 x,.int .i64 y,.int .i64 n] w fun e w'=>e=.returned (.tuple #[])/\ShAt w' B p b g lg lc rg fbs s z (Flm.soft s z (Flm.spots x y n) fs)/\Frm (shS p b g rg (fbs.getD (Flm.now fs) 0)) w w':=by
 have hz16:z<=16:=by rcases h.zz with e|e|e <;> omega
 have H0:Hid (SoftI w B p b g lg lc rg z fbs s fs x y n 0 0 w):=⟨fs,by rw [Flm.left_zero],he,rfl,h,Frm.refl _ _⟩
 clear h he
 go_enter Tryz.func152,Tryz.ntmps152
 go_wp2
 go_loopw [8] (fun jv wr=>∃ j:Nat,j<=n/\jv=.int .i64 ((y+j:Nat):Int)/\SoftI w B p b g lg lc rg z fbs s fs x y n j 0 wr) (fun jv _=>y+n-(intOf jv).toNat)
 case atStart=>exact ⟨0,by omega,rfl,H0.out⟩
 case round =>
  clear H0
  obtain ⟨j,hj,rfl,hI⟩:=hrel
  obtain ⟨J,hJ⟩:∃ J,J=y+j:=⟨_,rfl⟩
  rw [<- hJ]
  by_cases hlt:j<n
  ·have hlt':(J:Int)<(y:Int)+(n:Int):=by omega
   have hJz:J<z:=by omega
   have HI:Hid (SoftI w B p b g lg lc rg z fbs s fs x y n j 0 wr):=hI
   have HJ:Hid (J=y+j):=hJ
   clear hI hJ
   go_wp2
   go_loopw [9] (fun iv wr=>∃ i:Nat,i<=n/\iv=.int .i64 ((x+i:Nat):Int)/\SoftI w B p b g lg lc rg z fbs s fs x y n j i wr) (fun iv _=>x+n-(intOf iv).toNat)
   case atStart=>exact ⟨0,by omega,rfl,HI.out⟩
   case round =>
    clear HI
    obtain ⟨i,hi,rfl,hI⟩:=hrel
    obtain ⟨wi,rfl⟩:∃ wi,wi=wr:=⟨_,rfl⟩
    obtain ⟨I,hI0⟩:∃ I,I=x+i:=⟨_,rfl⟩
    rw [<- hI0]
    by_cases hlt2:i<n
    ·have hlt2':(I:Int)<(x:Int)+(n:Int):=by omega
     have hIz:I<z:=by omega
     have HI0:Hid (I=x+i):=hI0
     obtain ⟨q,hq1,hq2,hq3,hq4,hq5⟩:=hI
     have N1:=fun wx (bx:Below wi.heap.size wi wx)=>sh_near (hq4.below bx) ((I:Int)-1) (J:Int) (by omega) (by omega)
     have N2:=fun wx (bx:Below wi.heap.size wi wx)=>sh_near (hq4.below bx) (I:Int) ((J:Int)-1) (by omega) (by omega)
     have N3:=fun wx (bx:Below wi.heap.size wi wx)=>sh_near (hq4.below bx) ((I:Int)-1) ((J:Int)-1) (by omega) (by omega)
     obtain ⟨a,ha⟩:∃ a,a=Flm.near z q ((I:Int)-1) (J:Int):=⟨_,rfl⟩
     obtain ⟨b',hb'⟩:∃ b',b'=Flm.near z q (I:Int) ((J:Int)-1):=⟨_,rfl⟩
     obtain ⟨d,hd⟩:∃ d,d=Flm.near z q ((I:Int)-1) ((J:Int)-1):=⟨_,rfl⟩
     have HN1:Hid (∀ wx,Below wi.heap.size wi wx->Calls Tryz.prog 172 #[.pointer (some ⟨p,0,none⟩),.int .i64 ((I:Int)-1),.int .i64 (J:Int)] wx fun e w'=>e=.returned (.agg #[.int .i64 a.1,.int .i64 a.2.1,.int .i64 a.2.2])/\Below wx.heap.size wx w'):=by rw [ha];exact N1
     have HN2:Hid (∀ wx,Below wi.heap.size wi wx->Calls Tryz.prog 172 #[.pointer (some ⟨p,0,none⟩),.int .i64 (I:Int),.int .i64 ((J:Int)-1)] wx fun e w'=>e=.returned (.agg #[.int .i64 b'.1,.int .i64 b'.2.1,.int .i64 b'.2.2])/\Below wx.heap.size wx w'):=by rw [hb'];exact N2
     have HN3:Hid (∀ wx,Below wi.heap.size wi wx->Calls Tryz.prog 172 #[.pointer (some ⟨p,0,none⟩),.int .i64 ((I:Int)-1),.int .i64 ((J:Int)-1)] wx fun e w'=>e=.returned (.agg #[.int .i64 d.1,.int .i64 d.2.1,.int .i64 d.2.2])/\Below wx.heap.size wx w'):=by rw [hd];exact N3
     clear N1 N2 N3
     have T1:Hid True:=trivial
     have T2:Hid True:=trivial
     have HQ1:Hid (Flm.soft s z (Flm.left x y n j i) q=Flm.soft s z (Flm.spots x y n) fs):=hq1
     have HQ2:Hid (q.r.err=0):=hq2
     have HQ3:Hid (Flm.now q=Flm.now fs):=hq3
     have HQ4:Hid (ShAt wi B p b g lg lc rg fbs s z q):=hq4
     have HQ5:Hid (Frm (shS p b g rg (fbs.getD (Flm.now fs) 0)) w wi):=hq5
     have HA:Hid (a=Flm.near z q ((I:Int)-1) (J:Int)):=ha
     have HB:Hid (b'=Flm.near z q (I:Int) ((J:Int)-1)):=hb'
     have HD:Hid (d=Flm.near z q ((I:Int)-1) ((J:Int)-1)):=hd
     clear hq1 hq2 hq3 hq4 hq5 ha hb' hd hI0
     go_wp2_with (first
      | (rw [<- HW1.out,<- HO1.out])
      | (rw [<- HW2.out,<- HO2.out])
      | (rw [<- HW3.out,<- HO3.out])
      | (clear T1;go_at_call 172;refine (HN1.out _ (Below.refl _ _)).mono ?_;rintro e w1 ⟨rfl,b1⟩;obtain ⟨W1,hW1⟩:∃ W,W=w1.alloc (.cells #[.int .i64 a.1,.int .i64 a.2.1,.int .i64 a.2.2] 48):=⟨_,rfl⟩;obtain ⟨O1,hO1⟩:∃ O,O=w1.heap.size:=⟨_,rfl⟩;have bb1:Hid (Below wi.heap.size wi W1):=(by rw [hW1];exact b1.alloc b1.size _);have X1:Hid (Box3 W1 O1 a):=(by rw [hW1,hO1];exact Box3.new _ _);have l1:wi.heap.size<=O1:=(by rw [hO1];exact b1.size);have HW1:Hid (W1=w1.alloc (.cells #[.int .i64 a.1,.int .i64 a.2.1,.int .i64 a.2.2] 48)):=hW1;have HO1:Hid (O1=w1.heap.size):=hO1;clear hW1 hO1 b1)
      | (clear T2;go_at_call 172;refine (HN2.out _ bb1.out).mono ?_;rintro e w2 ⟨rfl,b2⟩;obtain ⟨W2,hW2⟩:∃ W,W=w2.alloc (.cells #[.int .i64 b'.1,.int .i64 b'.2.1,.int .i64 b'.2.2] 48):=⟨_,rfl⟩;obtain ⟨O2,hO2⟩:∃ O,O=w2.heap.size:=⟨_,rfl⟩;have c2:Hid (Below W1.heap.size W1 W2):=(by rw [hW2];exact b2.alloc b2.size _);have X2:Hid (Box3 W2 O2 b'):=(by rw [hW2,hO2];exact Box3.new _ _);have l2:W1.heap.size<=O2:=(by rw [hO2];exact b2.size);have HW2:Hid (W2=w2.alloc (.cells #[.int .i64 b'.1,.int .i64 b'.2.1,.int .i64 b'.2.2] 48)):=hW2;have HO2:Hid (O2=w2.heap.size):=hO2;clear hW2 hO2 b2)
      | (go_at_call 172;refine (HN3.out _ (bb1.out.trans (c2.out.mono bb1.out.size))).mono ?_;rintro e w3 ⟨rfl,b3⟩;obtain ⟨W3,hW3⟩:∃ W,W=w3.alloc (.cells #[.int .i64 d.1,.int .i64 d.2.1,.int .i64 d.2.2] 48):=⟨_,rfl⟩;obtain ⟨O3,hO3⟩:∃ O,O=w3.heap.size:=⟨_,rfl⟩;have c3:Hid (Below W2.heap.size W2 W3):=(by rw [hW3];exact b3.alloc b3.size _);have X3:Hid (Box3 W3 O3 d):=(by rw [hW3,hO3];exact Box3.new _ _);have l3:W2.heap.size<=O3:=(by rw [hO3];exact b3.size);have HW3:Hid (W3=w3.alloc (.cells #[.int .i64 d.1,.int .i64 d.2.1,.int .i64 d.2.2] 48)):=hW3;have HO3:Hid (O3=w3.heap.size):=hO3;clear hW3 hO3 b3))
     have hq4:=HQ4.out
     have bb3:Below wi.heap.size wi W3:=bb1.out.trans ((c2.out.trans (c3.out.mono c2.out.size)).mono bb1.out.size)
     obtain ⟨W4,hW4⟩:∃ W,W=W3.alloc (.cells #[.int .i64 0,.int .i64 0,.int .i64 0] 48):=⟨_,rfl⟩
     obtain ⟨O4,hO4⟩:∃ O,O=W3.heap.size:=⟨_,rfl⟩
     have f34:Frm (fun _=>False) W3 W4:=by rw [hW4];exact (Frm.refl _ _).alloc _
     have f12:Frm (fun _=>False) W1 W2:=Frm.of_below c2.out
     have f23:Frm (fun _=>False) W2 W3:=Frm.of_below c3.out
     have st4:ShAt W4 B p b g lg lc rg fbs s z q:=(hq4.below bb3).frm f34 (fun _ _ e=>e)
     have y1:Box3 W4 O1 a:=((X1.out.frm f12 (fun e=>e)).frm f23 (fun e=>e)).frm f34 (fun e=>e)
     have y2:Box3 W4 O2 b':=(X2.out.frm f23 (fun e=>e)).frm f34 (fun e=>e)
     have y3:Box3 W4 O3 d:=X3.out.frm f34 (fun e=>e)
     have y4:Box3 W4 O4 (part3 (Flm.cOf s z q I J) 0):=by rw [hW4,hO4];exact Box3.new W3 (0,0,0)
     have m1:=X1.out.lt
     have m2:=X2.out.lt
     have m3:=X3.out.lt
     have n12:O1 ≠ O2:=by omega
     have z12:=f12.size
     have z23:=f23.size
     have d1:O1 ≠ O4:=by omega
     have d2:O2 ≠ O4:=by omega
     have d3:O3 ≠ O4:=by omega
     have hbw:=hq4.rd.up
     have hgw:=hq4.rd.nums.lt.2
     have hpw:=hq4.up
     have bb3s:=bb3.size
     have o1b:¬ rdS b g O1:=fun e=>by rcases e with e|e <;> omega
     have o2b:¬ rdS b g O2:=fun e=>by rcases e with e|e <;> omega
     have o3b:¬ rdS b g O3:=fun e=>by rcases e with e|e <;> omega
     have o4b:¬ rdS b g O4:=fun e=>by rcases e with e|e <;> omega
     have o4p:p ≠ O4:=by omega
     have o4w:wi.heap.size<=O4:=by omega
     have hpb:¬ rdS b g p:=fun e=>by rcases e with e|e;exact hq4.nes.1.1 e;exact hq4.nes.1.2.1 e
     have K0:Hid (SoftK W4 W4 B p b g O1 O2 O3 O4 s q.r a b' d (Flm.cOf s z q I J) 0):=⟨st4.rd,y1,y2,y3,y4,st4.c0,Frm.refl _ _⟩
     have ST4:Hid (ShAt W4 B p b g lg lc rg fbs s z q):=st4
     have HF4:Hid (Frm (fun _=>False) wi W4):=(Frm.of_below bb3).trans f34
     have NE:Hid ((O1 ≠ O4/\O2 ≠ O4/\O3 ≠ O4)/\(¬ rdS b g O1/\¬ rdS b g O2/\¬ rdS b g O3/\¬ rdS b g O4)/\p ≠ O4/\¬ rdS b g p/\wi.heap.size<=O4/\b ≠ O4/\g ≠ O4):=⟨⟨d1,d2,d3⟩,⟨o1b,o2b,o3b,o4b⟩,o4p,hpb,o4w,by omega,by omega⟩
     have HCF:Hid (∀ k,Flm.expected (Flm.pick a k) (Flm.pick b' k) (Flm.pick d k)+Flm.sAt s q.r k=Flm.cOf s z q I J k):=fun k=>by rw [HA.out,HB.out,HD.out];rfl
     have HBD:Hid (∀ k,(-255<=Flm.pick a k/\Flm.pick a k<=255)/\(-255<=Flm.pick b' k/\Flm.pick b' k<=255)):=fun k=>by rw [HA.out,HB.out];exact ⟨Flm.near_bd hq4.px _ _ k,Flm.near_bd hq4.px _ _ k⟩
     have HOK:Hid (∀ k,k<=3->Rdr.Ok s (Flm.rAt s q.r k)):=Flm.rAt_ok hq4.ok
     rw [<- hW4,<- hO4]
     clear hW4 hO4 f34 f12 f23 st4 y1 y2 y3 y4 m1 m2 m3 n12 z12 z23 d1 d2 d3 hbw hgw hpw bb3s o1b o2b o3b o4b o4p o4w hpb X1 X2 X3 bb1 c2 c3 HW1 HW2 HW3 HO1 HO2 HO3 l1 l2 l3 HN1 HN2 HN3 bb3 hq4
     go_loopw [14] (fun kv wc=>∃ k:Nat,k<=3/\kv=.int .i64 k/\SoftK W4 wc B p b g O1 O2 O3 O4 s q.r a b' d (Flm.cOf s z q I J) k) (fun kv _=>3-(intOf kv).toNat)
     case atStart=>exact ⟨0,by omega,rfl,K0.out⟩
     case round =>
      clear K0
      obtain ⟨k,hk,rfl,hK⟩:=hrel
      by_cases hk3:k<3
      ·have hk3':(k:Int)<3:=by omega
       have i0:=hK.c0
       have HS:Hid (Calls Tryz.prog 173 #[.pointer (some ⟨b,0,none⟩),.int .i64 (100+24*(k:Int))] wr fun e w'=>e=.returned (.int .i64 (Flm.sAt s q.r k))/\RdAt w' B b g s (Flm.rAt s q.r (k+1))/\Rdr.Ok s (Flm.rAt s q.r (k+1))/\-512<=Flm.sAt s q.r k/\Flm.sAt s q.r k<=511/\Frm (rdS b g) wr w'):=by
        have:=rsigned wr B b g s (Flm.rAt s q.r k) (100+24*k) hK.rd (HOK.out k (by omega)) hs (by omega)
        rw [show ((100+24*k:Nat):Int)=100+24*(k:Int) by omega] at this
        exact this
       obtain ⟨⟨bd0,bd1⟩,⟨bd2,bd3⟩⟩:=HBD.out k
       have HK:Hid (SoftK W4 wr B p b g O1 O2 O3 O4 s q.r a b' d (Flm.cOf s z q I J) k):=hK
       obtain ⟨ak,hak⟩:∃ v,v=Flm.pick a k:=⟨_,rfl⟩
       obtain ⟨bk,hbk⟩:∃ v,v=Flm.pick b' k:=⟨_,rfl⟩
       obtain ⟨dk,hdk⟩:∃ v,v=Flm.pick d k:=⟨_,rfl⟩
       obtain ⟨sk,hsk⟩:∃ v,v=Flm.sAt s q.r k:=⟨_,rfl⟩
       have HC:Hid (Flm.expected ak bk dk+sk=Flm.cOf s z q I J k):=by rw [hak,hbk,hdk,hsk];exact HCF.out k
       have C1:Hid (∀ w1,Frm (rdS b g) wr w1->w1.cell? ⟨O1,k,none⟩=some (.int .i64 ak)/\w1.cell? ⟨O2,k,none⟩=some (.int .i64 bk)/\w1.cell? ⟨O3,k,none⟩=some (.int .i64 dk)/\(∃ u,w1.cell? ⟨O4,k,none⟩=some (.int .i64 u))/\w1.frozen? ⟨O4,k,none⟩=false):=fun w1 f1=>by
        rw [hak,hbk,hdk]
        exact ⟨(hK.x1.frm f1 NE.out.2.1.1).cell k hk3,(hK.x2.frm f1 NE.out.2.1.2.1).cell k hk3,(hK.x3.frm f1 NE.out.2.1.2.2.1).cell k hk3,⟨_,(hK.x4.frm f1 NE.out.2.1.2.2.2).cell k hk3⟩,(hK.x4.frm f1 NE.out.2.1.2.2.2).frozen k⟩
       rw [<- hsk] at HS
       rw [<- hak] at bd0 bd1
       rw [<- hbk] at bd2 bd3
       clear hK hak hbk hdk hsk
       go_wp2_with (first
        | (go_at_call 173;refine HS.out.mono ?_;rintro e w1 ⟨rfl,r1,o1,v0,v1,f1⟩;obtain ⟨k1,k2,k3,⟨u,k4⟩,k5⟩:=C1.out w1 f1)
        | (go_at_call 174;refine (refExpected _ ak bk dk (by omega) (by omega) (by omega) (by omega)).mono ?_;rintro e w2 ⟨rfl,hw⟩;rw [hw];clear hw))
       go_region_with (go_at_call 174;refine (refExpected _ ak bk dk (by omega) (by omega) (by omega) (by omega)).mono ?_;rintro e w2 ⟨rfl,hw⟩;rw [hw];clear hw)
       all_goals
        go_wp2
        go_roundw
        case rel =>
         have hk0:=HK.out
         have fo:∀ (wx:World) (u:Value),Frm (fun t=>t=O4) wx (wx.setCell ⟨O4,k,none⟩ u):=fun wx u=>Frm.setCell (p:=⟨O4,k,none⟩) (Frm.refl (fun t=>t=O4) wx) (.inl rfl) u
         have fd:Frm (fun _=>False) w1 w1.drew:=(Frm.refl _ _).drew
         obtain ⟨⟨d1,d2,d3⟩,⟨o1b,o2b,o3b,o4b⟩,o4p,hpb,o4w,hb4,hg4⟩:=NE.out
         refine ⟨k+1,by omega,by go_num,?_,?_,?_,?_,?_,?_,?_⟩
         ·exact (r1.frm fd (fun e=>e) (fun e=>e)).frm (fo _ _) hb4 hg4
         ·exact ((hk0.x1.frm f1 o1b).frm fd (fun e=>e)).frm (fo _ _) d1
         ·exact ((hk0.x2.frm f1 o2b).frm fd (fun e=>e)).frm (fo _ _) d2
         ·exact ((hk0.x3.frm f1 o3b).frm fd (fun e=>e)).frm (fo _ _) d3
         ·have y4:Box3 w1.drew O4 (part3 (Flm.cOf s z q I J) k):=(hk0.x4.frm f1 o4b).frm fd (fun e=>e)
          have:=y4.put hk3
          rw [<- HC.out] at this
          have hwr:wrap64 (Flm.expected ak bk dk+sk)=Flm.expected ak bk dk+sk:=by
           have:=Flm.expected_bd (d:=dk) (m:=255) bd0 bd1 bd2 bd3
           unfold wrap64;omega
          rw [hwr]
          exact this
         ·exact (fo _ _).cell (fd.cell (f1.cell hk0.c0 hpb) (fun e=>e)) o4p
         ·exact ((hk0.fr.trans (f1.mono (fun _ _ e=>.inl e))).drew).trans ((fo _ _).mono (fun _ _ e=>.inr e))
        case measure=>simp [intOf];omega
      ·have hk3':¬ ((k:Int)<3):=by omega
       obtain rfl:k=3:=by omega
       have fw:Frm (rdS b g) wi wr:=(HF4.out.mono (fun _ _ e=>e.elim)).step hK.fr (fun t ht e=>by
        rcases e with e|e
        ·exact e
        ·have:=NE.out.2.2.2.2.1;omega)
       have hst:ShAt wr B p b g lg lc rg fbs s z { q with r:=Flm.rAt s q.r 3 }:=HQ4.out.reader hK.rd (HOK.out 3 (by omega)) fw
       have e0:=hK.x4.cell 0 (by decide)
       have e1:=hK.x4.cell 1 (by decide)
       have e2:=hK.x4.cell 2 (by decide)
       rw [show Flm.pick (part3 (Flm.cOf s z q I J) 3) 0=Flm.cOf s z q I J 0 from rfl] at e0
       rw [show Flm.pick (part3 (Flm.cOf s z q I J) 3) 1=Flm.cOf s z q I J 1 from rfl] at e1
       rw [show Flm.pick (part3 (Flm.cOf s z q I J) 3) 2=Flm.cOf s z q I J 2 from rfl] at e2
       obtain ⟨y0,hy0⟩:∃ v,v=Flm.cOf s z q I J 0:=⟨_,rfl⟩
       obtain ⟨y1,hy1⟩:∃ v,v=Flm.cOf s z q I J 1:=⟨_,rfl⟩
       obtain ⟨y2,hy2⟩:∃ v,v=Flm.cOf s z q I J 2:=⟨_,rfl⟩
       have HC:Hid (cPx s z q I J=(y0,y1,y2)):=by rw [hy0,hy1,hy2];rfl
       rw [<- hy0] at e0
       rw [<- hy1] at e1
       rw [<- hy2] at e2
       have HST:Hid (ShAt wr B p b g lg lc rg fbs s z { q with r:=Flm.rAt s q.r 3 }):=hst
       have HFW:Hid (Frm (rdS b g) wi wr):=fw
       obtain ⟨E3,hE3⟩:∃ v,v=(Flm.rAt s q.r 3).err:=⟨_,rfl⟩
       have HE3:Hid (E3=(Flm.rAt s q.r 3).err):=hE3
       have HC5:Hid (∀ wx,Below wr.heap.size wr wx->wx.cell? ⟨p,0,none⟩=some (.pointer (some ⟨b,0,none⟩))/\wx.cell? ⟨b,5,none⟩=some (.int .i64 E3)):=fun wx bx=>by
        have h1:=hst.below bx
        rw [hE3]
        exact ⟨h1.c0,h1.rd.c5⟩
       have HPB:Hid (¬ rdS b g p):=NE.out.2.2.2.1
       clear hy0 hy1 hy2 hK hst fw hE3 HBD HCF HOK HA HB HD ST4 HF4 NE
       by_cases hp:Pix.isPix y0 y1 y2
       ·have hback:Flm.back (y0,y1,y2)=((Pix.bR y0 y1 y2,Pix.bG y0 y2,Pix.bB y0 y1 y2),0):=by unfold Flm.back;rw [if_pos hp]
        obtain ⟨px,hpx⟩:∃ v:Px,v=(Pix.bR y0 y1 y2,Pix.bG y0 y2,Pix.bB y0 y1 y2):=⟨_,rfl⟩
        have HOP:Hid (Flm.okPx px):=by have:=Flm.back_ok (y0,y1,y2);rw [hback,<- hpx] at this;exact this
        have HBK:Hid (Calls Tryz.prog 56 #[.agg #[.int .i64 y0,.int .i64 y1,.int .i64 y2]] wr fun e w'=>e=.returned (.tuple #[.agg #[.int .u8 px.1,.int .u8 px.2.1,.int .u8 px.2.2],.int .i64 0])/\Below wr.heap.size wr w'):=by rw [hpx];exact refBack_in y0 y1 y2 wr hp
        have HBB:Hid (Flm.back (cPx s z q I J)=(px,0)):=by unfold Hid;rw [HC.out,hback,<- hpx]
        clear hback hpx hp
        by_cases hE:E3=0
        ·subst hE
         go_wp2_with (first
          | (rw [<- HW5.out,<- HO5.out])
          | (go_at_call 56;refine HBK.out.mono ?_;rintro e w1 ⟨rfl,b1⟩;obtain ⟨W5,hW5⟩:∃ W,W=w1.alloc (.cells #[.int .u8 px.1,.int .u8 px.2.1,.int .u8 px.2.2] 50):=⟨_,rfl⟩;obtain ⟨O5,hO5⟩:∃ O,O=w1.heap.size:=⟨_,rfl⟩;have b5:Below wr.heap.size wr W5:=(by rw [hW5];exact b1.alloc b1.size _);have hh5:W5.heap[O5]?=some (.cells #[.int .u8 px.1,.int .u8 px.2.1,.int .u8 px.2.2] 50 (0,0)):=(by rw [hW5,hO5];show (w1.heap.push _)[w1.heap.size]?=_;simp);have s0:=cell_of_row W5 O5 0 _ _ _ hh5;have s1:=cell_of_row W5 O5 1 _ _ _ hh5;have s2:=cell_of_row W5 O5 2 _ _ _ hh5;simp at s0 s1 s2;obtain ⟨g0,g5⟩:=HC5.out W5 b5;have HW5:Hid (W5=w1.alloc (.cells #[.int .u8 px.1,.int .u8 px.2.1,.int .u8 px.2.2] 50)):=hW5;have HO5:Hid (O5=w1.heap.size):=hO5;have B5:Hid (Below wr.heap.size wr W5):=b5;clear hW5 hO5 b1 b5 hh5)
          | (go_at_call 175;refine (sh_put (HST.out.below B5.out) I J px hIz hJz HOP.out).mono ?_;rintro e w6 ⟨rfl,st6,f6⟩))
         have hn:Flm.now { q with r:=Flm.rAt s q.r 3 }=Flm.now fs:=HQ3.out
         rw [hn] at f6
         have hI0:=HI0.out
         refine ⟨⟨i+1,by omega,?_,Flm.put { q with r:=Flm.rAt s q.r 3 } (J*z+I) px,?_,HE3.out.symm,?_,st6,?_⟩,?_⟩
         ·rw [show ((x+(i+1):Nat):Int)=(I:Int)+1 by omega]
         ·rw [<- HQ1.out,soft_go HI0.out HJ.out hlt hlt2 (by rw [HBB.out]) HE3.out.symm,HBB.out]
         ·rw [<- hn];unfold Flm.now;rw [Flm.put_len]
         ·exact ((HQ5.out.trans (shS_rd HFW.out)).trans (Frm.of_below B5.out)).trans (f6.mono (fun _ _ e=>.inr (.inr (.inr (.inr e)))))
         ·simp [intOf];omega
        ·have hE':(E3 == 0)=false:=by simpa using hE
         have HNE:Hid (E3 ≠ 0):=hE
         clear hE
         go_wp2_with (first
          | (rw [<- HW5.out,<- HO5.out])
          | (go_at_call 56;refine HBK.out.mono ?_;rintro e w1 ⟨rfl,b1⟩;obtain ⟨W5,hW5⟩:∃ W,W=w1.alloc (.cells #[.int .u8 px.1,.int .u8 px.2.1,.int .u8 px.2.2] 50):=⟨_,rfl⟩;obtain ⟨O5,hO5⟩:∃ O,O=w1.heap.size:=⟨_,rfl⟩;have b5:Below wr.heap.size wr W5:=(by rw [hW5];exact b1.alloc b1.size _);obtain ⟨g0,g5⟩:=HC5.out W5 b5;have HW5:Hid (W5=w1.alloc (.cells #[.int .u8 px.1,.int .u8 px.2.1,.int .u8 px.2.2] 50)):=hW5;have HO5:Hid (O5=w1.heap.size):=hO5;have B5:Hid (Below wr.heap.size wr W5):=b5;clear hW5 hO5 b1 b5))
         go_returns
         refine ⟨rfl,?_,((HQ5.out.trans (shS_rd HFW.out)).trans (Frm.of_below B5.out))⟩
         rw [<- HQ1.out,soft_stop HI0.out HJ.out hlt hlt2 (Flm.rAt s q.r 3) (by rw [HBB.out,if_pos rfl]) (by rw [<- HE3.out];exact HNE.out)]
         exact HST.out.below B5.out
       ·have hback:Flm.back (y0,y1,y2)=((0,0,0),2):=by unfold Flm.back;rw [if_neg hp]
        have HBK:Hid (Calls Tryz.prog 56 #[.agg #[.int .i64 y0,.int .i64 y1,.int .i64 y2]] wr fun e w'=>e=.returned (.tuple #[.agg #[.int .u8 0,.int .u8 0,.int .u8 0],.int .i64 2])/\Below wr.heap.size wr w'):=refBack_out y0 y1 y2 wr hp
        have HBB:Hid (Flm.back (cPx s z q I J)=((0,0,0),2)):=by unfold Hid;rw [HC.out,hback]
        clear hback hp
        obtain ⟨F,hF⟩:∃ F,F=(Rdr.fail (Flm.rAt s q.r 3) 2).err:=⟨_,rfl⟩
        have hF0:F ≠ 0:=by rw [hF];exact Rdr.fail_err (by decide)
        have hF':(F == 0)=false:=by simpa using hF0
        have HF:Hid (F=(Rdr.fail (Flm.rAt s q.r 3) 2).err):=hF
        have HF0:Hid (F ≠ 0):=hF0
        clear hF hF0
        go_wp2_with (first
         | (go_at_call 56;refine HBK.out.mono ?_;rintro e w1 ⟨rfl,b1⟩;obtain ⟨g0,g5⟩:=HC5.out w1 b1;have hpw1:=World.block_lt_of_cell? w1 _ g0;have hbw1:=World.block_lt_of_cell? w1 _ g5;dsimp only at hpw1 hbw1;have B1:Hid (Below wr.heap.size wr w1):=b1;clear b1)
         | (go_at_call 128;refine (rfail _ B b g s _ 2 (HST.out.below (B1.out.alloc B1.out.size _)).rd).mono ?_;rintro x w6 ⟨rfl,r6,f6⟩;have j5:=r6.c5;have j0:=f6.cell (HC5.out _ (B1.out.alloc B1.out.size _)).1 HPB.out;change w6.cell? ⟨b,5,none⟩=some (.int .i64 (Rdr.fail (Flm.rAt s q.r 3) 2).err) at j5;rw [<- HF.out] at j5))
        go_returns
        refine ⟨rfl,?_,(((HQ5.out.trans (shS_rd HFW.out)).trans (Frm.of_below (B1.out.alloc B1.out.size _))).trans (shS_rd f6))⟩
        rw [<- HQ1.out,soft_stop HI0.out HJ.out hlt hlt2 (Rdr.fail (Flm.rAt s q.r 3) 2) (by rw [HBB.out,if_neg (by decide)]) (by rw [<- HF.out];exact HF0.out)]
        exact (HST.out.below (B1.out.alloc B1.out.size _)).reader r6 ((HST.out.ok).fail (by decide)) f6
    ·have hlt2':¬ ((I:Int)<(x:Int)+(n:Int)):=by omega
     obtain rfl:i=n:=by omega
     have HI2:Hid (SoftI w B p b g lg lc rg z fbs s fs x y i j i wi):=hI
     clear hI hI0
     go_wp2
     have hJe:=HJ.out
     obtain ⟨q,hq1,hq2,hq3,hq4,hq5⟩:=HI2.out
     refine ⟨⟨j+1,by omega,?_,q,by rw [<- hq1,Flm.left_row],hq2,hq3,hq4,hq5⟩,?_⟩
     ·rw [show ((y+(j+1):Nat):Int)=(J:Int)+1 by omega]
     ·simp [intOf];omega
  ·have hlt':¬ ((J:Int)<(y:Int)+(n:Int)):=by omega
   obtain rfl:j=n:=by omega
   have HI2:Hid (SoftI w B p b g lg lc rg z fbs s fs x y j j 0 wr):=hI
   clear hI hJ
   go_wp2
   go_end0
   obtain ⟨q,hq1,hq2,hq3,hq4,hq5⟩:=HI2.out
   rw [Flm.left_end] at hq1
   have hq1':q=Flm.soft s z (Flm.spots x y j) fs:=hq1
   rw [<- hq1']
   exact ⟨rfl,hq4,hq5⟩
end
end Go.Proofs.YtekfbphnoibnjaaGreatDoor
