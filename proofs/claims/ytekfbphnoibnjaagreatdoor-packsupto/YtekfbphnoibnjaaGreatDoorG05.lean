/-
  ShFew ShFew2
-/
import Derived.Test.YtekfbphnoibnjaaGreatDoorG04
set_option maxHeartbeats 4000000
namespace Go.Proofs.YtekfbphnoibnjaaGreatDoor
section
open Go.RowKit
open Flm (Px FS)
namespace Flm
def hAt (s:ByteArray) (r:RS):Nat->RS
 | 0=>r
 | k+1=>(shade s (hAt s r k)).2
def vAt (s:ByteArray) (r:RS) (k:Nat):Int:=(shade s (hAt s r k)).1
theorem hAt_ok {s:ByteArray} {r:RS} (h:Rdr.Ok s r):∀ k,Rdr.Ok s (hAt s r k)
 | 0=>h
 | k+1=>shade_ok (hAt_ok h k)
theorem colour_eq (s:ByteArray) (r:RS):colour s r=((vAt s r 0,vAt s r 1,vAt s r 2),hAt s r 3):=rfl
theorem vAt_bd (s:ByteArray) (r:RS) (k:Nat):0<=vAt s r k/\vAt s r k<=255:=by unfold vAt shade;dsimp only;omega
theorem colour_okPx (s:ByteArray) (r:RS):okPx (colour s r).1:=by rw [colour_eq];exact ⟨vAt_bd s r 0,vAt_bd s r 1,vAt_bd s r 2⟩
theorem colours_succ {s:ByteArray} {n:Nat} {r:RS} (he:r.err=0):colours s (n+1) r=((colour s r).1 :: (colours s n (colour s r).2).1,(colours s n (colour s r).2).2):=by
 show (if r.err=0 then _ else _)=_
 rw [if_pos he]
theorem colours_okPx {s:ByteArray}:∀ (n:Nat) (r:RS),∀ p ∈ (colours s n r).1,okPx p
 | 0,_,p,hp=>by simp [colours] at hp
 | n+1,r,p,hp=>by
  by_cases he:r.err=0
  ·rw [colours_succ he,List.mem_cons] at hp
   rcases hp with rfl|hp
   ·exact colour_okPx s r
   ·exact colours_okPx n _ p hp
  ·rw [colours_err he] at hp;simp at hp
theorem colours_len {s:ByteArray}:∀ (n:Nat) (r:RS),(colours s n r).2.err=0->(colours s n r).1.length=n
 | 0,_,_=>rfl
 | n+1,r,h=>by
  by_cases he:r.err=0
  ·rw [colours_succ he] at h ⊢
   simp [colours_len n _ h]
  ·rw [colours_err he] at h;exact absurd h he
end Flm
theorem owns_form {w:World} {base:Nat} {e:TypeId} {size:Nat} {v:Value} {n:Nat} {xs:List Value} (h:w.ownsRow base e size v n xs):∃ a c,v=.slice a n c/\(n=0 \/ ∃ g,a=some ⟨g,0,none⟩/\base<=g/\g<w.heap.size):=by
 have h':=h
 rcases h.2 with ⟨rfl,rfl⟩|⟨g,cap,cur,rfl,hb,hg,hr⟩
 ·exact ⟨none,0,rfl,.inl rfl⟩
 ·exact ⟨_,cap,rfl,.inr ⟨g,rfl,World.ownsRow.lt h' g rfl⟩⟩
theorem owns_succ {w:World} {base:Nat} {e:TypeId} {size:Nat} {v:Value} {n:Nat} {xs:List Value} (h:w.ownsRow base e size v (n+1) xs):∃ g c,v=.slice (some ⟨g,0,none⟩) (n+1) c:=by
 obtain ⟨a,c,rfl,h0⟩:=owns_form h
 rcases h0 with h0|⟨g,rfl,_⟩
 ·omega
 ·exact ⟨g,c,rfl⟩
def BoxP (w:World) (A:Nat) (q:Px):Prop:=w.heap[A]?=some (.cells #[.int .u8 q.1,.int .u8 q.2.1,.int .u8 q.2.2] 50 (0,0))
theorem BoxP.new (w:World) (q:Px):BoxP (w.alloc (.cells #[.int .u8 q.1,.int .u8 q.2.1,.int .u8 q.2.2] 50)) w.heap.size q:=by
 show (w.heap.push _)[w.heap.size]?=_;simp
theorem BoxP.lt {w:World} {A:Nat} {q:Px} (h:BoxP w A q):A<w.heap.size:=by
 rcases Nat.lt_or_ge A w.heap.size with h'|h'
 ·exact h'
 ·unfold BoxP at h;rw [Array.getElem?_eq_none h'] at h;cases h
theorem BoxP.frm {S:Nat->Prop} {w w':World} {A:Nat} {q:Px} (h:BoxP w A q) (f:Frm S w w') (hn:¬ S A):BoxP w' A q:=(f.block A h.lt hn).trans h
theorem BoxP.cell {w:World} {A:Nat} {q:Px} (h:BoxP w A q) (k:Nat) (hk:k<3):w.cell? ⟨A,k,none⟩=some (.int .u8 (Flm.pick q k)):=by
 rw [cell_of_row w A k _ _ _ h]
 rcases (by omega:k=0 \/ k=1 \/ k=2) with rfl|rfl|rfl <;> rfl
theorem BoxP.frozen {w:World} {A:Nat} {q:Px} (h:BoxP w A q) (k:Nat):w.frozen? ⟨A,k,none⟩=false:=frozen_of_row w A k _ _ h
theorem BoxP.put {w:World} {A:Nat} {f:Nat->Int} {k:Nat} (h:BoxP w A (part3 f k)) (hk:k<3):BoxP (w.setCell ⟨A,k,none⟩ (.int .u8 (f k))) A (part3 f (k+1)):=by
 unfold BoxP
 rw [heap_setCell_same w A k _ _ _ h]
 rcases (by omega:k=0 \/ k=1 \/ k=2) with rfl|rfl|rfl <;> simp [part3]
def FewI (w:World) (B b g:Nat) (s:ByteArray) (r0:RS) (n k:Nat) (v:Value) (wr:World):Prop :=
 ∃ (ls:List Px) (r:RS),ls.length=k/\Flm.colours s (n+1) r0=(ls++(Flm.colours s (n+1-k) r).1,(Flm.colours s (n+1-k) r).2)/\wr.ownsRow w.heap.size 50 3 v k (pxCells ls)/\RdAt wr B b g s r/\Rdr.Ok s r/\Frm (rdS b g) w wr
theorem FewI.done {w:World} {B b g:Nat} {s:ByteArray} {r0:RS} {n k:Nat} {v:Value} {wr:World} (h:FewI w B b g s r0 n k v wr) (hk:n+1<=k \/ ∀ (ls:List Px) (r:RS),ls.length=k->RdAt wr B b g s r->r.err ≠ 0) :
  ∃ (ls:List Px) (r2:RS),Flm.colours s (n+1) r0=(ls,r2)/\wr.ownsRow w.heap.size 50 3 v ls.length (pxCells ls)/\RdAt wr B b g s r2/\Rdr.Ok s r2/\Frm (rdS b g) w wr:=by
 obtain ⟨ls,r,hl,hc,ho,hr,hok,hf⟩:=h
 have e:Flm.colours s (n+1-k) r=([],r):=by
  rcases hk with hk|hk
  ·rw [show n+1-k=0 by omega];rfl
  ·exact Flm.colours_err (hk ls r hl hr)
 rw [e] at hc
 exact ⟨ls,r,by simpa using hc,by rw [hl];exact ho,hr,hok,hf⟩
structure FewK (w W1 wc:World) (B p b g O:Nat) (s:ByteArray) (r:RS) (v:Value) (k t:Nat) (ls:List Px):Prop where
 rd:RdAt wc B b g s (Flm.hAt s r t)
 box:BoxP wc O (part3 (Flm.vAt s r) t)
 own:wc.ownsRow w.heap.size 50 3 v k (pxCells ls)
 c0:wc.cell? ⟨p,0,none⟩=some (.pointer (some ⟨b,0,none⟩))
 fr:Frm (fun t=>rdS b g t \/ t=O) W1 wc
def FillI (w:World) (B p b g lg lc rg z:Nat) (fbs:List Nat) (s:ByteArray) (fs G:FS) (N:Nat) (ls:List Px) (lv:Value) (x y n j i:Nat) (wr:World):Prop :=
 ∃ q:FS,Flm.fills s z N ls (Flm.left x y n j i) q=Flm.fills s z N ls (Flm.spots x y n) G/\(q.r.err=0->ls.length=N+1)/\Flm.now q=Flm.now fs/\ShAt wr B p b g lg lc rg fbs s z q/\Frm (shS p b g rg (fbs.getD (Flm.now fs) 0)) w wr/\wr.ownsRow w.heap.size 50 3 lv ls.length (pxCells ls)
theorem fills_go {s:ByteArray} {z N:Nat} {ls:List Px} {q:FS} {x y n j i I J K:Nat} {r3:RS} (hI:I=x+i) (hJ:J=y+j) (hj:j<n) (hi:i<n) (he:q.r.err=0) (hw:Flm.which s N 0 q.r=(K,r3)) (h3:r3.err=0) :
  Flm.fills s z N ls (Flm.left x y n j i) q=Flm.fills s z N ls (Flm.left x y n j (i+1)) (Flm.put { q with r:=r3 } (J*z+I) (ls.getD K (0,0,0))):=by
 subst hI hJ
 rw [Flm.left_cons x y n j i hj hi]
 show (if q.r.err=0 then (if (Flm.which s N 0 q.r).2.err=0 then _ else _) else _)=_
 rw [if_pos he,hw,if_pos h3]
theorem fills_stop {s:ByteArray} {z N:Nat} {ls:List Px} {q:FS} {x y n j i K:Nat} {r3:RS} (hj:j<n) (hi:i<n) (he:q.r.err=0) (hw:Flm.which s N 0 q.r=(K,r3)) (h3:r3.err ≠ 0) :
  Flm.fills s z N ls (Flm.left x y n j i) q=Flm.fills s z N ls (Flm.left x y n j (i+1)) { q with r:=r3 }:=by
 rw [Flm.left_cons x y n j i hj hi]
 show (if q.r.err=0 then (if (Flm.which s N 0 q.r).2.err=0 then _ else _) else _)=_
 rw [if_pos he,hw,if_neg h3]
theorem fills_on {s:ByteArray} {z N:Nat} {ls:List Px} {q:FS} {x y n j i:Nat} (he:q.r.err ≠ 0):Flm.fills s z N ls (Flm.left x y n j i) q=q:=Flm.fills_err he
set_option maxRecDepth 20000 in
theorem sh_few_some (w:World) (B p b g lg lc rg z:Nat) (fbs:List Nat) (s:ByteArray) (fs:FS) (h:ShAt w B p b g lg lc rg fbs s z fs) (hs:s.size<=maxLen) (x y n:Nat) (hx:x+n<=z) (hy:y+n<=z) (N:Nat) (hN3:N<=3) (hN:(Rdr.number s fs.r 200).1=N) :
  Calls Tryz.prog 153 #[.pointer (some ⟨p,0,none⟩),.int .i64 x,.int .i64 y,.int .i64 n] w fun e w'=>e=.returned (.tuple #[])/\ShAt w' B p b g lg lc rg fbs s z (Flm.few s z x y n fs)/\Frm (shS p b g rg (fbs.getD (Flm.now fs) 0)) w w':=by
 have hz16:z<=16:=by rcases h.zz with e|e|e <;> omega
 have i0:=h.c0
 have HN:=rnumber w B b g s fs.r 200 h.rd h.ok hs (by omega)
 rw [hN] at HN
 obtain ⟨r1,hr1⟩:∃ r1,r1=(Rdr.number s fs.r 200).2:=⟨_,rfl⟩
 rw [<- hr1] at HN
 have HNN:Hid ((Rdr.number s fs.r 200).1=N):=hN
 have HR1:Hid (r1=(Rdr.number s fs.r 200).2):=hr1
 have HNC:Hid (Calls Tryz.prog 176 #[.pointer (some ⟨b,0,none⟩),.int .i64 200] w fun x w'=>x=.returned (.int .i64 (N:Int))/\RdAt w' B b g s r1/\Rdr.Ok s r1/\0<=(N:Int)/\(N:Int)<=1022/\Frm (rdS b g) w w'):=HN
 have hpb:Hid (¬ rdS b g p):=fun e=>by rcases e with e|e;exact h.nes.1.1 e;exact h.nes.1.2.1 e
 have H:Hid (ShAt w B p b g lg lc rg fbs s z fs):=h
 have hn3:(N:Int)<=3:=by omega
 clear h HN hN hr1
 go_enter Tryz.func153,Tryz.ntmps153
 go_upto_block 0 with (go_at_call 176;refine HNC.out.mono ?_;rintro e w1 ⟨rfl,h1,o1,n0,n1,f1⟩;have j0:=f1.cell i0 hpb.out)
 have HF0:Hid (FewI w B b g s r1 N 0 (.slice none 0 0) w1):=⟨[],r1,rfl,rfl,World.ownsRow_nil _ _ _ _,h1,o1,f1⟩
 clear h1 o1 n0 n1 f1 j0 HNC
 go_cut [9] (fun lv wd=>∃ (ls:List Px) (r2:RS),Flm.colours s (N+1) r1=(ls,r2)/\wd.ownsRow w.heap.size 50 3 lv ls.length (pxCells ls)/\RdAt wd B b g s r2/\Rdr.Ok s r2/\Frm (rdS b g) w wd)
 case first =>
  go_wp2_with fail
  go_loopw [9,10] (fun lv iv wr=>∃ (k:Nat) (a:Option Addr) (c:Nat),k<=N+1/\iv=.int .i64 k/\lv=.slice a k c/\FewI w B b g s r1 N k lv wr) (fun _ iv _=>N+1-(intOf iv).toNat)
  case atStart=>exact ⟨0,none,0,by omega,rfl,rfl,HF0.out⟩
  case round =>
   clear HF0
   obtain ⟨k,a,c,hk,rfl,rfl,hI⟩:=hrel
   obtain ⟨wi,rfl⟩:∃ wi,wi=wr:=⟨_,rfl⟩
   have HI:Hid (FewI w B b g s r1 N k (.slice a k c) wi):=hI
   obtain ⟨ls,r,hl,hc,ho,hr,hok,hf⟩:=hI
   have q0:=hf.cell i0 hpb.out
   have q5:=hr.c5
   obtain ⟨E,hE⟩:∃ E,E=r.err:=⟨_,rfl⟩
   rw [<- hE] at q5
   by_cases hgo:k<=N/\E=0
   ·obtain ⟨hkN,rfl⟩:=hgo
    have hkN':(k:Int)<=(N:Int):=by omega
    obtain ⟨W1,hW1⟩:∃ W,W=wi.alloc (.cells #[.int .u8 0,.int .u8 0,.int .u8 0] 50):=⟨_,rfl⟩
    obtain ⟨O,hO⟩:∃ O,O=wi.heap.size:=⟨_,rfl⟩
    have f1:Frm (fun _=>False) wi W1:=by rw [hW1];exact (Frm.refl _ _).alloc _
    have K0:Hid (FewK w W1 W1 B p b g O s r (.slice a k c) k 0 ls):=⟨hr.frm f1 (fun e=>e) (fun e=>e),by rw [hW1,hO];exact BoxP.new wi (0,0,0),f1.owns ho (fun _ _ e=>e),f1.cell q0 (fun e=>e),Frm.refl _ _⟩
    have HW1:Hid (W1=wi.alloc (.cells #[.int .u8 0,.int .u8 0,.int .u8 0] 50)):=hW1
    have HO:Hid (O=wi.heap.size):=hO
    have HLS:Hid (ls.length=k):=hl
    have HCL:Hid (Flm.colours s (N+1) r1=(ls++(Flm.colours s (N+1-k) r).1,(Flm.colours s (N+1-k) r).2)):=hc
    have HOK:Hid (Rdr.Ok s r):=hok
    have HFR:Hid (Frm (rdS b g) w wi):=hf
    have HF1:Hid (Frm (fun _=>False) wi W1):=f1
    have HE:Hid (r.err=0):=hE.symm
    have hbu:=hr.up
    have hgu:=hr.nums.lt.2
    have hpu:=World.block_lt_of_cell? wi _ q0
    dsimp only at hpu
    have NE:Hid (b ≠ O/\g ≠ O/\p ≠ O/\¬ rdS b g O/\w.heap.size<=O/\(∀ j,(Value.slice a k c).ownBlock=some j->j ≠ O)/\b<w.heap.size/\g<w.heap.size):=⟨by omega,by omega,by omega,fun e=>by rcases e with e|e <;> omega,by rw [hO];exact hf.size,fun j e=>by have:=(World.ownsRow.lt ho j e).2;omega,H.out.rd.up,H.out.rd.nums.lt.2⟩
    clear hl hc ho hr hok hf hW1 hO f1 HI hbu hgu hpu hE
    go_wp2_with (rw [<- HW1.out,<- HO.out])
    clear q0 q5
    go_loopw [12] (fun tv wc=>∃ t:Nat,t<=3/\tv=.int .i64 t/\FewK w W1 wc B p b g O s r (.slice a k c) k t ls) (fun tv _=>3-(intOf tv).toNat)
    case atStart=>exact ⟨0,by omega,rfl,K0.out⟩
    case round =>
     clear K0
     obtain ⟨t,ht,rfl,hK⟩:=hrel
     by_cases ht3:t<3
     ·have ht3':(t:Int)<3:=by omega
      have q0:=hK.c0
      have HT:Hid (Calls Tryz.prog 176 #[.pointer (some ⟨b,0,none⟩),.int .i64 224] wr fun x w'=>x=.returned (.int .i64 (Rdr.number s (Flm.hAt s r t) 224).1)/\RdAt w' B b g s (Rdr.number s (Flm.hAt s r t) 224).2/\Rdr.Ok s (Rdr.number s (Flm.hAt s r t) 224).2/\0<=(Rdr.number s (Flm.hAt s r t) 224).1/\(Rdr.number s (Flm.hAt s r t) 224).1<=1022/\Frm (rdS b g) wr w'):=rnumber wr B b g s (Flm.hAt s r t) 224 hK.rd (Flm.hAt_ok HOK.out t) hs (by omega)
      obtain ⟨C,hC⟩:∃ C,C=(Rdr.number s (Flm.hAt s r t) 224).1:=⟨_,rfl⟩
      obtain ⟨R,hR⟩:∃ R,R=(Rdr.number s (Flm.hAt s r t) 224).2:=⟨_,rfl⟩
      have HV:Hid (Flm.vAt s r t=C % 256):=by rw [hC];rfl
      have HH:Hid (Flm.hAt s r (t+1)=if 255<C then Rdr.fail R 2 else R):=by rw [hC,hR];rfl
      rw [<- hC,<- hR] at HT
      have HK:Hid (FewK w W1 wr B p b g O s r (.slice a k c) k t ls):=hK
      have C1:Hid (∀ w1,Frm (rdS b g) wr w1->w1.cell? ⟨p,0,none⟩=some (.pointer (some ⟨b,0,none⟩))/\(∃ u,w1.cell? ⟨O,t,none⟩=some (.int .u8 u))/\w1.frozen? ⟨O,t,none⟩=false):=fun w1 f1=>⟨f1.cell hK.c0 hpb.out,⟨_,(hK.box.frm f1 NE.out.2.2.2.1).cell t ht3⟩,(hK.box.frm f1 NE.out.2.2.2.1).frozen t⟩
      have fin:Hid (∀ (w2:World),RdAt w2 B b g s (Flm.hAt s r (t+1))->Frm (rdS b g) wr w2->FewK w W1 (w2.setCell ⟨O,t,none⟩ (.int .u8 (C % 256))) B p b g O s r (.slice a k c) k (t+1) ls):=by
       intro w2 r2 f2
       have fo:Frm (fun j=>j=O) w2 (w2.setCell ⟨O,t,none⟩ (.int .u8 (C % 256))):=Frm.setCell (p:=⟨O,t,none⟩) (Frm.refl (fun j=>j=O) w2) (.inl rfl) _
       obtain ⟨e1,e2,e3,e4,e5,e6,e7,e8⟩:=NE.out
       refine ⟨r2.frm fo e1 e2,?_,fo.owns (f2.owns hK.own (fun j e ej=>?_)) (fun j e=>e6 j e),fo.cell (f2.cell hK.c0 hpb.out) e3,(hK.fr.trans (f2.mono (fun _ _ e=>.inl e))).trans (fo.mono (fun _ _ e=>.inr e))⟩
       ·have:=(hK.box.frm f2 e4).put ht3
        rw [HV.out] at this
        exact this
       ·have:=(World.ownsRow.lt hK.own j e).1
        rcases ej with ej|ej <;> omega
      clear hK hC hR
      by_cases h255:255<C
      ·go_wp2_with (first
        | (go_at_call 176;refine HT.out.mono ?_;rintro e w2 ⟨rfl,r2,o2,c0,c1,f2⟩;obtain ⟨k1,⟨u,k2⟩,k3⟩:=C1.out w2 f2)
        | (go_at_call 128;refine (rfail _ B b g s _ 2 r2).mono ?_;rintro e w3 ⟨rfl,r3,f3⟩;obtain ⟨k4,⟨u',k5⟩,k6⟩:=C1.out w3 (f2.trans f3)))
       have hh:=HH.out
       rw [if_pos h255] at hh
       refine ⟨⟨t+1,by omega,by go_num,fin.out w3 (by rw [hh];exact r3) (f2.trans f3)⟩,?_⟩
       simp [intOf];omega
      ·go_wp2_with (go_at_call 176;refine HT.out.mono ?_;rintro e w2 ⟨rfl,r2,o2,c0,c1,f2⟩;obtain ⟨k1,⟨u,k2⟩,k3⟩:=C1.out w2 f2)
       have hh:=HH.out
       rw [if_neg (by omega)] at hh
       have hfin:=fin.out w2 (by rw [hh];exact r2) f2
       rw [show C % 256=C by omega] at hfin
       refine ⟨⟨t+1,by omega,by go_num,hfin⟩,?_⟩
       simp [intOf];omega
     ·have ht3':¬ ((t:Int)<3):=by omega
      obtain rfl:t=3:=by omega
      have e0:=hK.box.cell 0 (by decide)
      have e1:=hK.box.cell 1 (by decide)
      have e2:=hK.box.cell 2 (by decide)
      rw [show Flm.pick (part3 (Flm.vAt s r) 3) 0=Flm.vAt s r 0 from rfl] at e0
      rw [show Flm.pick (part3 (Flm.vAt s r) 3) 1=Flm.vAt s r 1 from rfl] at e1
      rw [show Flm.pick (part3 (Flm.vAt s r) 3) 2=Flm.vAt s r 2 from rfl] at e2
      have HK:Hid (FewK w W1 wr B p b g O s r (.slice a k c) k 3 ls):=hK
      obtain ⟨i0',hi,hz0,hz1,hz2⟩:=info_parts infoPx
      have hbase:w.heap.size<=wr.heap.size:=by have:=hK.fr.size;have:=HF1.out.size;have:=HFR.out.size;omega
      obtain ⟨v0,hv0⟩:∃ v,v=Flm.vAt s r 0:=⟨_,rfl⟩
      obtain ⟨v1,hv1⟩:∃ v,v=Flm.vAt s r 1:=⟨_,rfl⟩
      obtain ⟨v2,hv2⟩:∃ v,v=Flm.vAt s r 2:=⟨_,rfl⟩
      have HCO:Hid (Flm.colour s r=((v0,v1,v2),Flm.hAt s r 3)):=by rw [hv0,hv1,hv2];rfl
      rw [<- hv0] at e0
      rw [<- hv1] at e1
      rw [<- hv2] at e2
      clear hK hv0 hv1 hv2
      go_wp2_with (at_builtin;refine wpList_append_own_at _ rfl (.tmp 65) (.tmp 67) 58 rfl w.heap.size 50 i0' (.agg #[.int .u8 0,.int .u8 0,.int .u8 0]) 3 3 Tryz.underlying58 hi hz0 hz1 hz2 rfl (by decide) _ k (pxCells ls) rfl ?c0 ⟨wr.heap.size,0,none⟩ 1 1 [.int .u8 v0,.int .u8 v1,.int .u8 v2] rfl rfl ?c1 ?c2 ?c3 ?c4 ?c5 ?_)
      case c0=>exact HK.out.own.alloc _
      case c2=>simp [Value.oneCell']
      case c3=>unfold maxLen;omega
      case c4=>omega
      case c5=>omega
      intro v' w3 hown' hgrow _ hat
      obtain ⟨g',cap',rfl⟩:=owns_succ hown'
      have f3:Frm (rdS b g) w w3:=by
       have fa:Frm (rdS b g) w wr:=(HFR.out.step HF1.out (fun _ _ e=>e.elim)).step HK.out.fr (fun t ht e=>by
        rcases e with e|e
        ·exact e
        ·have:=NE.out.2.2.2.2.1;omega)
       refine (fa.alloc _).grown hgrow (fun j e=>.inr ?_)
       exact (World.ownsRow.lt HK.out.own j e).1
      have r3:RdAt w3 B b g s (Flm.hAt s r 3):=by
       have fg:Frm (fun j=>(Value.slice a k c).ownBlock=some j) wr w3:=((Frm.refl _ wr).alloc _).grown hgrow (fun j e=>.inl e)
       refine HK.out.rd.frm fg (fun e=>?_) (fun e=>?_)
       ·have:=(World.ownsRow.lt HK.out.own b e).1;have:=NE.out.2.2.2.2.2.2.1;omega
       ·have:=(World.ownsRow.lt HK.out.own g e).1;have:=NE.out.2.2.2.2.2.2.2;omega
      have hcells:pxCells ls++[.int .u8 v0,.int .u8 v1,.int .u8 v2]=pxCells (ls++[(v0,v1,v2)]):=by rw [pxCells_app];rfl
      rw [hcells] at hown'
      have HI3:Hid (FewI w B b g s r1 N (k+1) (.slice (some ⟨g',0,none⟩) (k+1) cap') w3):=by
       refine ⟨ls++[(v0,v1,v2)],Flm.hAt s r 3,by rw [List.length_append,HLS.out];rfl,?_,hown',r3,Flm.hAt_ok HOK.out 3,f3⟩
       rw [HCL.out,show N+1-k=(N+1-(k+1))+1 by omega,Flm.colours_succ HE.out,HCO.out]
       simp
      clear hown' hgrow f3 r3 hat
      go_wp2_with fail
      refine ⟨⟨k+1,some ⟨g',0,none⟩,cap',by omega,by go_num,rfl,HI3.out⟩,?_⟩
      simp [intOf];omega
   ·have hx:∀ (ls':List Px) (r':RS),ls'.length=k->RdAt wi B b g s r'->r'.err=E:=fun ls' r' _ hr'=>by
     have:=hr'.c5
     rw [q5] at this
     simpa using this.symm
    rcases Nat.lt_or_ge N k with h'|h'
    ·have HX:Hid (∃ (ls:List Px) (r2:RS),Flm.colours s (N+1) r1=(ls,r2)/\wi.ownsRow w.heap.size 50 3 (.slice a k c) ls.length (pxCells ls)/\RdAt wi B b g s r2/\Rdr.Ok s r2/\Frm (rdS b g) w wi):=HI.out.done (.inl (by omega))
     have h'':¬ ((k:Int)<=(N:Int)):=by omega
     clear hx hgo ho hr hf hok hc hl hE
     go_wp2_with fail
     go_meet
     exact HX.out
    ·have hEn:E ≠ 0:=fun e=>hgo ⟨h',e⟩
     have HX:Hid (∃ (ls:List Px) (r2:RS),Flm.colours s (N+1) r1=(ls,r2)/\wi.ownsRow w.heap.size 50 3 (.slice a k c) ls.length (pxCells ls)/\RdAt wi B b g s r2/\Rdr.Ok s r2/\Frm (rdS b g) w wi):=HI.out.done (.inr (fun ls' r' h1 h2=>by rw [hx ls' r' h1 h2];exact hEn))
     have h'':(k:Int)<=(N:Int):=by omega
     have hE':(E == 0)=false:=by simpa using hEn
     clear hx hgo ho hr hf hok hc hl hE hEn
     go_wp2_with fail
     go_meet
     exact HX.out
 case rest =>
  obtain ⟨ls,r2,hcol,hown,hr2,hok2,hf2⟩:=hcut
  have hst:ShAt wc B p b g lg lc rg fbs s z { fs with r:=r2 }:=H.out.reader hr2 hok2 hf2
  obtain ⟨G,hG⟩:∃ G:FS,G={ fs with r:=r2 }:=⟨_,rfl⟩
  have HFEW:Hid (Flm.few s z x y n fs=Flm.fills s z N ls (Flm.spots x y n) G):=by
   have hN3':¬ ((3:Int)<(N:Int)):=by omega
   unfold Hid Flm.few
   dsimp only
   rw [HNN.out,if_neg hN3',<- HR1.out,Int.toNat_natCast,hcol,hG]
  have hlen:r2.err=0->ls.length=N+1:=fun he=>by
   have:=Flm.colours_len (s:=s) (N+1) r1 (by rw [hcol];exact he)
   rw [hcol] at this
   exact this
  have HPX:Hid (∀ q ∈ ls,Flm.okPx q):=fun q hq=>Flm.colours_okPx (s:=s) (N+1) r1 q (by rw [hcol];exact hq)
  obtain ⟨la,lcap,hform,hgl⟩:=owns_form hown
  subst hform
  have HI0:Hid (FillI w B p b g lg lc rg z fbs s fs G N ls (.slice la ls.length lcap) x y n 0 0 wc):=⟨G,by rw [Flm.left_zero],by rw [hG];exact hlen,by rw [hG];rfl,by rw [hG];exact hst,shS_rd hf2,hown⟩
  have HBW:Hid (b<w.heap.size/\g<w.heap.size/\p<w.heap.size/\rg<w.heap.size/\fbs.getD (Flm.now fs) 0<w.heap.size):=⟨H.out.rd.up,H.out.rd.nums.lt.2,H.out.up,H.out.read.lt.2,(H.out.frs _ (by have:=H.out.n2;unfold Flm.now;omega)).lt.2⟩
  clear hcol hown hr2 hok2 hf2 hst hG hlen hgl H
  go_wp2_with fail
  go_loopw [14] (fun jv wr=>∃ j:Nat,j<=n/\jv=.int .i64 ((y+j:Nat):Int)/\FillI w B p b g lg lc rg z fbs s fs G N ls (.slice la ls.length lcap) x y n j 0 wr) (fun jv _=>y+n-(intOf jv).toNat)
  case atStart=>exact ⟨0,by omega,rfl,HI0.out⟩
  case round =>
   clear HI0
   obtain ⟨j,hj,rfl,hI⟩:=hrel
   obtain ⟨J,hJ⟩:∃ J,J=y+j:=⟨_,rfl⟩
   rw [<- hJ]
   by_cases hlt:j<n
   ·have hlt':(J:Int)<(y:Int)+(n:Int):=by omega
    have hJz:J<z:=by omega
    have HI:Hid (FillI w B p b g lg lc rg z fbs s fs G N ls (.slice la ls.length lcap) x y n j 0 wr):=hI
    have HJ:Hid (J=y+j):=hJ
    clear hI hJ
    go_wp2
    go_loopw [15] (fun iv wr=>∃ i:Nat,i<=n/\iv=.int .i64 ((x+i:Nat):Int)/\FillI w B p b g lg lc rg z fbs s fs G N ls (.slice la ls.length lcap) x y n j i wr) (fun iv _=>x+n-(intOf iv).toNat)
    case atStart=>exact ⟨0,by omega,rfl,HI.out⟩
    case round =>
     clear HI
     obtain ⟨i,hi,rfl,hI⟩:=hrel
     obtain ⟨wi,rfl⟩:∃ wi,wi=wr:=⟨_,rfl⟩
     obtain ⟨I,hI0⟩:∃ I,I=x+i:=⟨_,rfl⟩
     rw [<- hI0]
     obtain ⟨q,hq1,hq2,hq3,hq4,hq5,hq6⟩:=hI
     have c0:=hq4.c0
     have c5:=hq4.rd.c5
     obtain ⟨E,hE⟩:∃ E,E=q.r.err:=⟨_,rfl⟩
     rw [<- hE] at c5
     by_cases hgo:i<n/\E=0
     ·obtain ⟨hlt2,rfl⟩:=hgo
      have hlt2':(I:Int)<(x:Int)+(n:Int):=by omega
      have hIz:I<z:=by omega
      have HI0:Hid (I=x+i):=hI0
      have HQ1:Hid (Flm.fills s z N ls (Flm.left x y n j i) q=Flm.fills s z N ls (Flm.spots x y n) G):=hq1
      have HLN:Hid (ls.length=N+1):=hq2 hE.symm
      have HQ3:Hid (Flm.now q=Flm.now fs):=hq3
      have HQ4:Hid (ShAt wi B p b g lg lc rg fbs s z q):=hq4
      have HQ5:Hid (Frm (shS p b g rg (fbs.getD (Flm.now fs) 0)) w wi):=hq5
      have HQ6:Hid (wi.ownsRow w.heap.size 50 3 (.slice la ls.length lcap) ls.length (pxCells ls)):=hq6
      have HE:Hid (q.r.err=0):=hE.symm
      obtain ⟨gl,rfl,hglo⟩:∃ gl,la=some ⟨gl,0,none⟩/\w.heap.size<=gl:=by
       obtain ⟨a',c',e',h0⟩:=owns_form hq6
       simp only [Value.slice.injEq,true_and] at e'
       have:=HLN.out
       rcases h0 with h0|⟨gl,h0,h1,_⟩
       ·omega
       ·exact ⟨gl,e'.1.trans h0,h1⟩
      have hq6':=hq6
      have NB:Hid ((∀ j,(Value.slice (some ⟨gl,0,none⟩) ls.length lcap).ownBlock=some j->¬ rdS b g j)/\(∀ j,(Value.slice (some ⟨gl,0,none⟩) ls.length lcap).ownBlock=some j->¬ (j=fbs.getD (Flm.now fs) 0))):=by
       obtain ⟨a1,a2,a3,a4,a5⟩:=HBW.out
       constructor
       ·intro j e ej
        simp [Value.ownBlock] at e
        subst e
        rcases ej with e|e <;> omega
       ·intro j e ej
        simp only [Value.ownBlock,Option.some.injEq] at e
        omega
      have TL:Hid (∀ (wx:World) (r3:RS) (K:Nat),K<=N->RdAt wx B b g s r3->Frm (rdS b g) wi wx->wx.cell? ⟨p,0,none⟩=some (.pointer (some ⟨b,0,none⟩))/\wx.cell? ⟨b,5,none⟩=some (.int .i64 r3.err)/\wx.cell? ⟨gl,K*3,none⟩=some (.int .u8 (ls.getD K (0,0,0)).1)/\wx.cell? ⟨gl,K*3+1,none⟩=some (.int .u8 (ls.getD K (0,0,0)).2.1)/\wx.cell? ⟨gl,K*3+2,none⟩=some (.int .u8 (ls.getD K (0,0,0)).2.2)):=fun wx r3 K hK hx fx=>by
       have ho:=fx.owns HQ6.out NB.out.1
       have hKl:K<ls.length:=by have:=HLN.out;omega
       obtain ⟨g0,g1,g2⟩:=pxCells_get ls K hKl
       exact ⟨fx.cell HQ4.out.c0 hpb.out,hx.c5,(World.ownsRow.cellAt ho _ (by omega)).trans g0,(World.ownsRow.cellAt ho _ (by omega)).trans g1,(World.ownsRow.cellAt ho _ (by omega)).trans g2⟩
      have PT:Hid (∀ (wx:World) (r3:RS),RdAt wx B b g s r3->Rdr.Ok s r3->Frm (rdS b g) wi wx->ShAt wx B p b g lg lc rg fbs s z { q with r:=r3 }):=fun wx r3 h3 o3 f3=>HQ4.out.reader h3 o3 f3
      clear hI0 hq1 hq2 hq3 hq4 hq5 hq6 hq6' hE hglo
      go_wp2_with fail
      clear c0 c5
      go_loopw [16] (fun kv wr=>∃ (k:Nat) (r':RS),k<=N/\kv=.int .i64 k/\Flm.which s (N-k) k r'=Flm.which s N 0 q.r/\RdAt wr B b g s r'/\Rdr.Ok s r'/\Frm (rdS b g) wi wr) (fun kv _=>N-(intOf kv).toNat)
      case atStart=>exact ⟨0,q.r,by omega,rfl,rfl,HQ4.out.rd,HQ4.out.ok,Frm.refl _ _⟩
      case round =>
       obtain ⟨k,r',hk,rfl,hw,hr',hok',hf'⟩:=hrel
       obtain ⟨d0,d5,m0,m1,m2⟩:=TL.out wr _ k hk hr' hf'
       have HR:Hid (RdAt wr B b g s r'):=hr'
       have HOK0:Hid (Rdr.Ok s r'):=hok'
       have HFR:Hid (Frm (rdS b g) wi wr):=hf'
       have HOPX:Hid (Flm.okPx (ls.getD k (0,0,0))):=by
        have hkl:k<ls.length:=by have:=HLN.out;omega
        rw [List.getD_eq_getElem?_getD,List.getElem?_eq_getElem hkl]
        exact HPX.out _ (List.getElem_mem _)
       have hkl':(k:Int)<(ls.length:Int):=by have:=HLN.out;omega
       by_cases hkN:k<N
       ·have hkN':(k:Int)<(N:Int):=by omega
        have HBv:=rbit wr B b g s r' (250+k) hr' hok' hs (by omega)
        rw [show ((250+k:Nat):Int)=250+(k:Int) by omega] at HBv
        have HOK1:Hid (Rdr.Ok s (Rdr.bitS s r' (250+k))):=hok'.bitS (by omega)
        have hun:Flm.which s (N-k) k r'=if Rdr.bitV r' (250+k)=0 then (k,Rdr.bitS s r' (250+k)) else Flm.which s (N-(k+1)) (k+1) (Rdr.bitS s r' (250+k)):=by
         rw [show N-k=(N-(k+1))+1 by omega];rfl
        rw [hun] at hw
        rcases Rdr.bitV_cases r' (250+k) with hb|hb
        ·rw [if_pos hb] at hw
         have HWH:Hid (Flm.which s N 0 q.r=(k,Rdr.bitS s r' (250+k))):=hw.symm
         have HB:Hid (Calls Tryz.prog 101 #[.pointer (some ⟨b,0,none⟩),.int .i64 (250+(k:Int))] wr fun x w'=>x=.returned (.int .i64 0)/\RdAt w' B b g s (Rdr.bitS s r' (250+k))/\Frm (rdS b g) wr w'):=by rw [hb] at HBv;exact HBv
         clear hw hun hb HBv hr' hok' hf' m0 m1 m2 d5
         by_cases hz3:(Rdr.bitS s r' (250+k)).err=0
         ·have hz3':((Rdr.bitS s r' (250+k)).err == 0)=true:=by simpa using hz3
          have Z3:Hid ((Rdr.bitS s r' (250+k)).err=0):=hz3
          clear hz3
          go_wp2_with (first
           | (go_at_call 101;refine HB.out.mono ?_;rintro e w1 ⟨rfl,h1,f1⟩;obtain ⟨d0,d5,m0,m1,m2⟩:=TL.out w1 _ k hk h1 (HFR.out.trans f1))
           | (go_at_call 175;refine (sh_put (PT.out w1 _ h1 HOK1.out (HFR.out.trans f1)) I J (ls.getD k (0,0,0)) hIz hJz HOPX.out).mono ?_;rintro e w6 ⟨rfl,st6,f6⟩))
          have hn:Flm.now { q with r:=Rdr.bitS s r' (250+k) }=Flm.now fs:=HQ3.out
          rw [hn] at f6
          have hI0:=HI0.out
          refine ⟨⟨i+1,by omega,?_,Flm.put { q with r:=Rdr.bitS s r' (250+k) } (J*z+I) (ls.getD k (0,0,0)),?_,fun _=>HLN.out,?_,st6,?_,?_⟩,?_⟩
          ·rw [show ((x+(i+1):Nat):Int)=(I:Int)+1 by omega]
          ·rw [<- HQ1.out,fills_go HI0.out HJ.out hlt hlt2 HE.out HWH.out Z3.out]
          ·rw [<- hn];unfold Flm.now;rw [Flm.put_len]
          ·exact (HQ5.out.trans (shS_rd (HFR.out.trans f1))).trans (f6.mono (fun _ _ e=>.inr (.inr (.inr (.inr e)))))
          ·exact f6.owns (((HFR.out.trans f1)).owns HQ6.out NB.out.1) NB.out.2
          ·simp [intOf];omega
         ·have hz3':((Rdr.bitS s r' (250+k)).err == 0)=false:=by simpa using hz3
          have Z3:Hid ((Rdr.bitS s r' (250+k)).err ≠ 0):=hz3
          clear hz3
          go_wp2_with (go_at_call 101;refine HB.out.mono ?_;rintro e w1 ⟨rfl,h1,f1⟩;obtain ⟨d0,d5,m0,m1,m2⟩:=TL.out w1 _ k hk h1 (HFR.out.trans f1))
          have hI0:=HI0.out
          refine ⟨⟨i+1,by omega,?_,{ q with r:=Rdr.bitS s r' (250+k) },?_,fun _=>HLN.out,HQ3.out,PT.out w1 _ h1 HOK1.out (HFR.out.trans f1),HQ5.out.trans (shS_rd (HFR.out.trans f1)),((HFR.out.trans f1)).owns HQ6.out NB.out.1⟩,?_⟩
          ·rw [show ((x+(i+1):Nat):Int)=(I:Int)+1 by omega]
          ·rw [<- HQ1.out,fills_stop hlt hlt2 HE.out HWH.out Z3.out]
          ·simp [intOf];omega
        ·rw [if_neg (by rw [hb];decide)] at hw
         have HWH:Hid (Flm.which s (N-(k+1)) (k+1) (Rdr.bitS s r' (250+k))=Flm.which s N 0 q.r):=hw
         have HB:Hid (Calls Tryz.prog 101 #[.pointer (some ⟨b,0,none⟩),.int .i64 (250+(k:Int))] wr fun x w'=>x=.returned (.int .i64 1)/\RdAt w' B b g s (Rdr.bitS s r' (250+k))/\Frm (rdS b g) wr w'):=by rw [hb] at HBv;exact HBv
         clear hw hun hb HBv hr' hok' hf' m0 m1 m2 d5
         go_wp2_with (go_at_call 101;refine HB.out.mono ?_;rintro e w1 ⟨rfl,h1,f1⟩)
         refine ⟨⟨k+1,_,by omega,by go_num,HWH.out,h1,HOK1.out,HFR.out.trans f1⟩,?_⟩
         simp [intOf];omega
       ·have hkN':¬ ((k:Int)<(N:Int)):=by omega
        have HWH:Hid (Flm.which s N 0 q.r=(k,r')):=by rw [show N-k=0 by omega] at hw;exact hw.symm
        clear hw hr' hok' hf'
        by_cases hz3:(r').err=0
        ·have hz3':((r').err == 0)=true:=by simpa using hz3
         have Z3:Hid ((r').err=0):=hz3
         clear hz3
         go_wp2_with (first
          | (go_at_call 175;refine (sh_put (PT.out wr _ HR.out HOK0.out HFR.out) I J (ls.getD k (0,0,0)) hIz hJz HOPX.out).mono ?_;rintro e w6 ⟨rfl,st6,f6⟩))
         have hn:Flm.now { q with r:=r' }=Flm.now fs:=HQ3.out
         rw [hn] at f6
         have hI0:=HI0.out
         refine ⟨⟨i+1,by omega,?_,Flm.put { q with r:=r' } (J*z+I) (ls.getD k (0,0,0)),?_,fun _=>HLN.out,?_,st6,?_,?_⟩,?_⟩
         ·rw [show ((x+(i+1):Nat):Int)=(I:Int)+1 by omega]
         ·rw [<- HQ1.out,fills_go HI0.out HJ.out hlt hlt2 HE.out HWH.out Z3.out]
         ·rw [<- hn];unfold Flm.now;rw [Flm.put_len]
         ·exact (HQ5.out.trans (shS_rd HFR.out)).trans (f6.mono (fun _ _ e=>.inr (.inr (.inr (.inr e)))))
         ·exact f6.owns ((HFR.out).owns HQ6.out NB.out.1) NB.out.2
         ·simp [intOf];omega
        ·have hz3':((r').err == 0)=false:=by simpa using hz3
         have Z3:Hid ((r').err ≠ 0):=hz3
         clear hz3
         go_wp2_with fail
         have hI0:=HI0.out
         refine ⟨⟨i+1,by omega,?_,{ q with r:=r' },?_,fun _=>HLN.out,HQ3.out,PT.out wr _ HR.out HOK0.out HFR.out,HQ5.out.trans (shS_rd HFR.out),(HFR.out).owns HQ6.out NB.out.1⟩,?_⟩
         ·rw [show ((x+(i+1):Nat):Int)=(I:Int)+1 by omega]
         ·rw [<- HQ1.out,fills_stop hlt hlt2 HE.out HWH.out Z3.out]
         ·simp [intOf];omega
     ·have HI2:Hid (FillI w B p b g lg lc rg z fbs s fs G N ls (.slice la ls.length lcap) x y n (j+1) 0 wi):=by
       refine ⟨q,?_,hq2,hq3,hq4,hq5,hq6⟩
       rw [<- hq1]
       by_cases hin:i<n
       ·have hEn:q.r.err ≠ 0:=fun e=>hgo ⟨hin,hE.trans e⟩
        rw [fills_on hEn,fills_on hEn]
       ·obtain rfl:i=n:=by omega
        rw [Flm.left_row]
      have hJe:=HJ.out
      by_cases hin:i<n
      ·have hEn:(E == 0)=false:=by simpa using (fun e=>hgo ⟨hin,e⟩)
       have h'':(I:Int)<(x:Int)+(n:Int):=by omega
       have HJe:Hid (J=y+j):=hJe
       clear hgo hq1 hq2 hq3 hq4 hq5 hq6 hE hJe hI0
       go_wp2_with fail
       have hJe:=HJe.out
       refine ⟨⟨j+1,by omega,?_,HI2.out⟩,?_⟩
       ·rw [show ((y+(j+1):Nat):Int)=(J:Int)+1 by omega]
       ·simp [intOf];omega
      ·have h'':¬ ((I:Int)<(x:Int)+(n:Int)):=by omega
       have HJe:Hid (J=y+j):=hJe
       clear hgo hq1 hq2 hq3 hq4 hq5 hq6 hE hJe hI0
       go_wp2_with fail
       have hJe:=HJe.out
       refine ⟨⟨j+1,by omega,?_,HI2.out⟩,?_⟩
       ·rw [show ((y+(j+1):Nat):Int)=(J:Int)+1 by omega]
       ·simp [intOf];omega
   ·have hlt':¬ ((J:Int)<(y:Int)+(n:Int)):=by omega
    obtain rfl:j=n:=by omega
    have HI2:Hid (FillI w B p b g lg lc rg z fbs s fs G N ls (.slice la ls.length lcap) x y j j 0 wr):=hI
    clear hI hJ
    go_wp2
    go_end0
    obtain ⟨q,hq1,hq2,hq3,hq4,hq5,hq6⟩:=HI2.out
    rw [Flm.left_end] at hq1
    have hq1':q=Flm.fills s z N ls (Flm.spots x y j) G:=hq1
    rw [HFEW.out,<- hq1']
    exact ⟨rfl,hq4,hq5⟩
end
section
open Go.RowKit
open Flm (Px FS)
set_option maxRecDepth 20000 in
theorem sh_few_great (w:World) (B p b g lg lc rg z:Nat) (fbs:List Nat) (s:ByteArray) (fs:FS) (h:ShAt w B p b g lg lc rg fbs s z fs) (hs:s.size<=maxLen) (x y n:Nat) (hx:x+n<=z) (hy:y+n<=z) (N:Int) (hN3:3<N) (hN:(Rdr.number s fs.r 200).1=N) :
  Calls Tryz.prog 153 #[.pointer (some ⟨p,0,none⟩),.int .i64 x,.int .i64 y,.int .i64 n] w fun e w'=>e=.returned (.tuple #[])/\ShAt w' B p b g lg lc rg fbs s z (Flm.few s z x y n fs)/\Frm (shS p b g rg (fbs.getD (Flm.now fs) 0)) w w':=by
 have hz16:z<=16:=by rcases h.zz with e|e|e <;> omega
 have i0:=h.c0
 have HN:=rnumber w B b g s fs.r 200 h.rd h.ok hs (by omega)
 rw [hN] at HN
 obtain ⟨r1,hr1⟩:∃ r1,r1=(Rdr.number s fs.r 200).2:=⟨_,rfl⟩
 rw [<- hr1] at HN
 have HNC:Hid (Calls Tryz.prog 176 #[.pointer (some ⟨b,0,none⟩),.int .i64 200] w fun x w'=>x=.returned (.int .i64 N)/\RdAt w' B b g s r1/\Rdr.Ok s r1/\0<=N/\N<=1022/\Frm (rdS b g) w w'):=HN
 have hpb:Hid (¬ rdS b g p):=fun e=>by rcases e with e|e;exact h.nes.1.1 e;exact h.nes.1.2.1 e
 have H:Hid (ShAt w B p b g lg lc rg fbs s z fs):=h
 have HFEW:Hid (Flm.few s z x y n fs={ fs with r:=Rdr.fail r1 8 }):=by
  unfold Hid Flm.few
  dsimp only
  rw [hN,if_pos hN3,<- hr1,Flm.colours_err (Rdr.fail_err (by decide))]
  exact Flm.fills_err (Rdr.fail_err (by decide))
 obtain ⟨F,hF⟩:∃ F,F=(Rdr.fail r1 8).err:=⟨_,rfl⟩
 have hF':(F == 0)=false:=by have:=Rdr.fail_err (r:=r1) (e:=8) (by decide);rw [<- hF] at this;simpa using this
 have HF:Hid (F=(Rdr.fail r1 8).err):=hF
 clear h HN hN hr1 hF
 go_enter Tryz.func153,Tryz.ntmps153
 go_upto_block 0 with (first
  | (go_at_call 176;refine HNC.out.mono ?_;rintro e w1 ⟨rfl,h1,o1,n0,n1,f1⟩;have j0:=f1.cell i0 hpb.out)
  | (go_at_call 128;refine (rfail _ B b g s _ 8 h1).mono ?_;rintro e w2 ⟨rfl,h2,f2⟩;have k0:=f2.cell j0 hpb.out;have k5:=h2.c5;rw [<- HF.out] at k5))
 have HR:Hid (ShAt w2 B p b g lg lc rg fbs s z { fs with r:=Rdr.fail r1 8 }):=H.out.reader h2 (o1.fail (by decide)) (f1.trans f2)
 have HFR:Hid (Frm (shS p b g rg (fbs.getD (Flm.now fs) 0)) w w2):=shS_rd (f1.trans f2)
 clear h1 o1 f1 h2 f2 j0 HNC i0
 go_wp2_with fail
 go_loop [9,10] (fun lv iv=>lv=.slice none 0 0/\iv=.int .i64 0) (fun _ _=>0)
 case atStart=>exact ⟨rfl,rfl⟩
 case round =>
  obtain ⟨rfl,rfl⟩:=hrel
  go_wp2_with fail
  go_loop [14] (fun jv=>∃ j:Nat,j<=n/\jv=.int .i64 ((y+j:Nat):Int)) (fun jv=>y+n-(intOf jv).toNat)
  case atStart=>exact ⟨0,by omega,rfl⟩
  case round =>
   obtain ⟨j,hj,rfl⟩:=hrel
   obtain ⟨J,hJ⟩:∃ J,J=y+j:=⟨_,rfl⟩
   rw [<- hJ]
   by_cases hlt:j<n
   ·have hlt':(J:Int)<(y:Int)+(n:Int):=by omega
    have hxn:(x:Int)<(x:Int)+(n:Int):=by omega
    have HJ:Hid (J=y+j):=hJ
    have hJ16:J<=16:=by omega
    clear hJ
    go_wp2_with fail
    go_loop [15] (fun iv=>iv=.int .i64 (x:Int)) (fun _=>0)
    case atStart=>exact rfl
    case round =>
     subst hrel
     go_wp2_with fail
     have hJe:=HJ.out
     refine ⟨⟨j+1,by omega,?_⟩,?_⟩
     ·rw [show ((y+(j+1):Nat):Int)=(J:Int)+1 by omega]
     ·simp [intOf];omega
   ·have hlt':¬ ((J:Int)<(y:Int)+(n:Int)):=by omega
    go_wp2_with fail
    go_end0
    rw [HFEW.out]
    exact ⟨rfl,HR.out,HFR.out⟩
theorem sh_few (w:World) (B p b g lg lc rg z:Nat) (fbs:List Nat) (s:ByteArray) (fs:FS) (h:ShAt w B p b g lg lc rg fbs s z fs) (hs:s.size<=maxLen) (x y n:Nat) (hx:x+n<=z) (hy:y+n<=z) :
  Calls Tryz.prog 153 #[.pointer (some ⟨p,0,none⟩),.int .i64 x,.int .i64 y,.int .i64 n] w fun e w'=>e=.returned (.tuple #[])/\ShAt w' B p b g lg lc rg fbs s z (Flm.few s z x y n fs)/\Frm (shS p b g rg (fbs.getD (Flm.now fs) 0)) w w':=by
 have hb:=Rdr.number_bd (s:=s) (k:=200) h.ok (by omega)
 by_cases h3:3<(Rdr.number s fs.r 200).1
 ·exact sh_few_great w B p b g lg lc rg z fbs s fs h hs x y n hx hy _ h3 rfl
 ·exact sh_few_some w B p b g lg lc rg z fbs s fs h hs x y n hx hy (Rdr.number s fs.r 200).1.toNat (by omega) (by omega)
end
end Go.Proofs.YtekfbphnoibnjaaGreatDoor
