/-
  ShBlk2 ShBlk3 ShArea
-/
import Derived.Test.YtekfbphnoibnjaaGreatDoorG06
set_option maxHeartbeats 4000000
namespace Go.Proofs.YtekfbphnoibnjaaGreatDoor
section
open Go.RowKit
open Flm (Px FS)
set_option maxRecDepth 20000 in
theorem sh_block2 (w:World) (B p b g lg lc rg z:Nat) (fbs:List Nat) (s:ByteArray) (fs:FS) (h:ShAt w B p b g lg lc rg fbs s z fs) (hs:s.size<=maxLen) (x y n:Nat) (hx:x+n<=z) (hy:y+n<=z) (hka:Rdr.bitV fs.r 2=1) (hkb:Rdr.bitV (Rdr.bitS s fs.r 2) (3+1)=0) (he:(Rdr.bitS s (Rdr.bitS s fs.r 2) (3+1)).err=0) :
  Calls Tryz.prog 130 #[.pointer (some ⟨p,0,none⟩),.int .i64 x,.int .i64 y,.int .i64 n] w fun e w'=>e=.returned (.tuple #[])/\ShAt w' B p b g lg lc rg fbs s z (Flm.block s z x y n fs)/\Frm (shS p b g rg (fbs.getD (Flm.now fs) 0)) w w':=by
 have hz16:z<=16:=by rcases h.zz with e|e|e <;> omega
 have i0:=h.c0
 obtain ⟨r1,hr1⟩:∃ r1,r1=Rdr.bitS s fs.r 2:=⟨_,rfl⟩
 have HA:Hid (Calls Tryz.prog 101 #[.pointer (some ⟨b,0,none⟩),.int .i64 2] w fun x w'=>x=.returned (.int .i64 1)/\RdAt w' B b g s r1/\Frm (rdS b g) w w'):=by
  have:=rbit w B b g s fs.r 2 h.rd h.ok hs (by decide)
  rw [hka,<- hr1] at this
  exact this
 have ok1:Rdr.Ok s r1:=by rw [hr1];exact h.ok.bitS (by decide)
 obtain ⟨r2,hr2⟩:∃ r2,r2=Rdr.bitS s r1 (3+1):=⟨_,rfl⟩
 rw [<- hr1] at hkb he
 rw [<- hr2] at he
 have HB:Hid (∀ wx,RdAt wx B b g s r1->Calls Tryz.prog 101 #[.pointer (some ⟨b,0,none⟩),.int .i64 4] wx fun x w'=>x=.returned (.int .i64 0)/\RdAt w' B b g s r2/\Frm (rdS b g) wx w'):=fun wx hx=>by
  have:=rbit wx B b g s r1 (3+1) hx ok1 hs (by decide)
  rw [hkb,<- hr2] at this
  exact this
 have HOK2:Hid (Rdr.Ok s r2):=by rw [hr2];exact ok1.bitS (by decide)
 have HBL:Hid (Flm.block s z x y n fs=Flm.seen z (Flm.spots x y n) (Flm.copies s z x y n 260 (Flm.now fs) { fs with r:=r2 })):=by
  unfold Hid Flm.block
  dsimp only
  rw [<- hr1,hka]
  rw [show (3+(1:Int).toNat)=3+1 from rfl,<- hr2,hkb]
  rw [if_pos he,if_neg (by decide),if_pos rfl]
  rfl
 have hpb:Hid (¬ rdS b g p):=fun e=>by rcases e with e|e;exact h.nes.1.1 e;exact h.nes.1.2.1 e
 have H:Hid (ShAt w B p b g lg lc rg fbs s z fs):=h
 have hn2:=h.n2
 have HSUB:Hid (((Flm.now fs:Nat):Int)=((fs.frs.length:Nat):Int)-1):=by unfold Hid Flm.now;omega
 have hnl:Flm.now fs<fs.frs.length:=by unfold Flm.now;omega
 have T1:Hid True:=trivial
 have HE:Hid (r2.err=0):=he
 have he':(r2.err == 0)=true:=by simpa using he
 clear h hr1 hr2 ok1 hka hkb he
 go_enter Tryz.func130,Tryz.ntmps130
 go_upto_block 1 with (first
  | (clear T1;go_at_call 101;refine HA.out.mono ?_;rintro e w1 ⟨rfl,h1,f1⟩;have j0:=f1.cell i0 hpb.out)
  | (go_at_call 101;refine (HB.out _ h1).mono ?_;rintro e w2 ⟨rfl,h2,f2⟩;have k0:=f2.cell j0 hpb.out;have k5:=h2.c5;have st2:ShAt w2 B p b g lg lc rg fbs s z { fs with r:=r2 }:=H.out.reader h2 HOK2.out (f1.trans f2);have k2:=st2.c2;have ST2:Hid (ShAt w2 B p b g lg lc rg fbs s z { fs with r:=r2 }):=st2;have FR2:Hid (Frm (rdS b g) w w2):=f1.trans f2;clear st2 f1 f2 h2 h1)
  | (go_at_call 154;have hcp:=sh_copies _ B p b g lg lc rg z fbs s _ ST2.out hs x y n 260 (Flm.now fs) hx hy (by decide) hnl;rw [show ((260:Nat):Int)=260 from rfl,HSUB.out] at hcp;refine hcp.mono ?_;clear hcp;rintro e w3 ⟨rfl,st3,f3⟩))
 obtain ⟨G,hG⟩:∃ G:FS,G=Flm.copies s z x y n 260 (Flm.now fs) { fs with r:=r2 }:=⟨_,rfl⟩
 have HI0:Hid (SeenI w B p b g lg lc rg z (fbs.getD (Flm.now fs) 0) fbs s G x y n 0 0 w3):=⟨G,by rw [Flm.left_zero],by rw [hG];exact st3,(shS_rd FR2.out).trans (f3)⟩
 have HBLG:Hid (Flm.block s z x y n fs=Flm.seen z (Flm.spots x y n) G):=by rw [hG];exact HBL.out
 clear st3 f3 hG ST2 FR2 HBL H HA HB k0 k2 k5 i0 j0
 go_wp2_with fail
 go_loopw [11] (fun jv wr=>∃ j:Nat,j<=n/\jv=.int .i64 ((y+j:Nat):Int)/\SeenI w B p b g lg lc rg z (fbs.getD (Flm.now fs) 0) fbs s G x y n j 0 wr) (fun jv _=>y+n-(intOf jv).toNat)
 case atStart=>exact ⟨0,by omega,rfl,HI0.out⟩
 case round =>
  clear HI0
  obtain ⟨j,hj,rfl,hI⟩:=hrel
  obtain ⟨J,hJ⟩:∃ J,J=y+j:=⟨_,rfl⟩
  rw [<- hJ]
  by_cases hlt:j<n
  ·have hlt':(J:Int)<(y:Int)+(n:Int):=by omega
   have hJz:J<z:=by omega
   have HI:Hid (SeenI w B p b g lg lc rg z (fbs.getD (Flm.now fs) 0) fbs s G x y n j 0 wr):=hI
   have HJ:Hid (J=y+j):=hJ
   clear hI hJ
   go_wp2_with fail
   go_loopw [12] (fun iv wr=>∃ i:Nat,i<=n/\iv=.int .i64 ((x+i:Nat):Int)/\SeenI w B p b g lg lc rg z (fbs.getD (Flm.now fs) 0) fbs s G x y n j i wr) (fun iv _=>x+n-(intOf iv).toNat)
   case atStart=>exact ⟨0,by omega,rfl,HI.out⟩
   case round =>
    clear HI
    obtain ⟨i,hi,rfl,hI⟩:=hrel
    obtain ⟨wi,rfl⟩:∃ wi,wi=wr:=⟨_,rfl⟩
    obtain ⟨I,hI0⟩:∃ I,I=x+i:=⟨_,rfl⟩
    rw [<- hI0]
    by_cases hlt2:i<n
    ·have hlt2':(I:Int)<(x:Int)+(n:Int):=by omega
     have hIz:I<z:=by omega
     obtain ⟨q,hq1,hq2,hq3⟩:=hI
     obtain ⟨w1',w2'⟩:=wrap_spot hq2.zzle hIz hJz
     have HT:Hid (Flm.seen z (Flm.left x y n j (i+1)) { q with rd:=q.rd.set (J*z+I) true }=Flm.seen z (Flm.spots x y n) G):=by unfold Hid;rw [<- hq1,seen_go hI0 HJ.out hlt hlt2]
     obtain ⟨T,hT⟩:∃ T,T=J*z+I:=⟨_,rfl⟩
     have hTZ:(T:Int)<((z*z:Nat):Int):=by rw [hT];exact Int.ofNat_lt.2 (spot_lt hIz hJz)
     have rc:=hq2.read.cell T (by rw [hT];exact spot_lt hIz hJz)
     have rf:=hq2.read.frozen T
     have q1:=hq2.c1
     have q3:=hq2.c3
     rw [<- hT] at w2' HT
     obtain ⟨Z,hZ⟩:∃ Z,Z=z*z:=⟨_,rfl⟩
     rw [<- hZ] at hTZ q3
     obtain ⟨rv,hrv⟩:∃ rv,rv=q.rd.getD T false:=⟨_,rfl⟩
     rw [<- hrv] at rc
     have HQ2:Hid (ShAt wi B p b g lg lc rg fbs s z q):=hq2
     have HQ3:Hid (Frm (shS p b g rg (fbs.getD (Flm.now fs) 0)) w wi):=hq3
     have HI0:Hid (I=x+i):=hI0
     clear hq1 hq2 hq3 hT hZ hrv hI0
     go_wp2_with fail
     go_region
     go_wp2_with fail
     have hI0:=HI0.out
     refine ⟨⟨i+1,by omega,?_,{ q with rd:=q.rd.set T true },HT.out,?_,?_⟩,?_⟩
     ·rw [show ((x+(i+1):Nat):Int)=(I:Int)+1 by omega]
     ·exact (HQ2.out.see T).below (below_drewN (Below.refl _ _) 1)
     ·exact (Frm.setCell (p:=⟨rg,T,none⟩) HQ3.out (.inl (.inr (.inr (.inr (.inl rfl))))) _).drew
     ·simp [intOf];omega
    ·have hlt2':¬ ((I:Int)<(x:Int)+(n:Int)):=by omega
     obtain rfl:i=n:=by omega
     have HI2:Hid (SeenI w B p b g lg lc rg z (fbs.getD (Flm.now fs) 0) fbs s G x y i j i wi):=hI
     clear hI hI0
     go_wp2_with fail
     have hJe:=HJ.out
     obtain ⟨q,hq1,hq2,hq3⟩:=HI2.out
     refine ⟨⟨j+1,by omega,?_,q,by rw [<- hq1,Flm.left_row],hq2,hq3⟩,?_⟩
     ·rw [show ((y+(j+1):Nat):Int)=(J:Int)+1 by omega]
     ·simp [intOf];omega
  ·have hlt':¬ ((J:Int)<(y:Int)+(n:Int)):=by omega
   obtain rfl:j=n:=by omega
   have HI2:Hid (SeenI w B p b g lg lc rg z (fbs.getD (Flm.now fs) 0) fbs s G x y j j 0 wr):=hI
   clear hI hJ
   go_wp2_with fail
   go_end0
   obtain ⟨q,hq1,hq2,hq3⟩:=HI2.out
   rw [Flm.left_end] at hq1
   have hq1':q=Flm.seen z (Flm.spots x y j) G:=hq1
   rw [HBLG.out,<- hq1']
   exact ⟨rfl,hq2,hq3⟩
set_option maxRecDepth 20000 in
theorem sh_block3 (w:World) (B p b g lg lc rg z:Nat) (fbs:List Nat) (s:ByteArray) (fs:FS) (h:ShAt w B p b g lg lc rg fbs s z fs) (hs:s.size<=maxLen) (x y n:Nat) (hx:x+n<=z) (hy:y+n<=z) (hka:Rdr.bitV fs.r 2=1) (hkb:Rdr.bitV (Rdr.bitS s fs.r 2) (3+1)=1) (he:(Rdr.bitS s (Rdr.bitS s fs.r 2) (3+1)).err=0) (hnow:Flm.now fs ≠ 0) :
  Calls Tryz.prog 130 #[.pointer (some ⟨p,0,none⟩),.int .i64 x,.int .i64 y,.int .i64 n] w fun e w'=>e=.returned (.tuple #[])/\ShAt w' B p b g lg lc rg fbs s z (Flm.block s z x y n fs)/\Frm (shS p b g rg (fbs.getD (Flm.now fs) 0)) w w':=by
 have hz16:z<=16:=by rcases h.zz with e|e|e <;> omega
 have i0:=h.c0
 obtain ⟨r1,hr1⟩:∃ r1,r1=Rdr.bitS s fs.r 2:=⟨_,rfl⟩
 have HA:Hid (Calls Tryz.prog 101 #[.pointer (some ⟨b,0,none⟩),.int .i64 2] w fun x w'=>x=.returned (.int .i64 1)/\RdAt w' B b g s r1/\Frm (rdS b g) w w'):=by
  have:=rbit w B b g s fs.r 2 h.rd h.ok hs (by decide)
  rw [hka,<- hr1] at this
  exact this
 have ok1:Rdr.Ok s r1:=by rw [hr1];exact h.ok.bitS (by decide)
 obtain ⟨r2,hr2⟩:∃ r2,r2=Rdr.bitS s r1 (3+1):=⟨_,rfl⟩
 rw [<- hr1] at hkb he
 rw [<- hr2] at he
 have HB:Hid (∀ wx,RdAt wx B b g s r1->Calls Tryz.prog 101 #[.pointer (some ⟨b,0,none⟩),.int .i64 4] wx fun x w'=>x=.returned (.int .i64 1)/\RdAt w' B b g s r2/\Frm (rdS b g) wx w'):=fun wx hx=>by
  have:=rbit wx B b g s r1 (3+1) hx ok1 hs (by decide)
  rw [hkb,<- hr2] at this
  exact this
 have HOK2:Hid (Rdr.Ok s r2):=by rw [hr2];exact ok1.bitS (by decide)
 have HBL:Hid (Flm.block s z x y n fs=Flm.seen z (Flm.spots x y n) (Flm.copies s z x y n 310 (Flm.now fs-1) { fs with r:=r2 })):=by
  unfold Hid Flm.block
  dsimp only
  rw [<- hr1,hka]
  rw [show (3+(1:Int).toNat)=3+1 from rfl,<- hr2,hkb]
  rw [if_pos he,if_neg (by decide),if_neg (by decide),if_neg (show ¬ Flm.now { fs with r:=r2 }=0 from hnow)]
  rfl
 have hpb:Hid (¬ rdS b g p):=fun e=>by rcases e with e|e;exact h.nes.1.1 e;exact h.nes.1.2.1 e
 have H:Hid (ShAt w B p b g lg lc rg fbs s z fs):=h
 have hn2:=h.n2
 have HSUB:Hid (((Flm.now fs:Nat):Int)=((fs.frs.length:Nat):Int)-1):=by unfold Hid Flm.now;omega
 have hnl:Flm.now fs<fs.frs.length:=by unfold Flm.now;omega
 have hn0:((fs.frs.length:Nat):Int)-1 ≠ 0:=by have:=HSUB.out;omega
 have hn0':((((fs.frs.length:Nat):Int)-1) == 0)=false:=by simpa using hn0
 have T1:Hid True:=trivial
 have HE:Hid (r2.err=0):=he
 have he':(r2.err == 0)=true:=by simpa using he
 clear h hr1 hr2 ok1 hka hkb he
 go_enter Tryz.func130,Tryz.ntmps130
 go_upto_block 1 with (first
  | (clear T1;go_at_call 101;refine HA.out.mono ?_;rintro e w1 ⟨rfl,h1,f1⟩;have j0:=f1.cell i0 hpb.out)
  | (go_at_call 101;refine (HB.out _ h1).mono ?_;rintro e w2 ⟨rfl,h2,f2⟩;have k0:=f2.cell j0 hpb.out;have k5:=h2.c5;have st2:ShAt w2 B p b g lg lc rg fbs s z { fs with r:=r2 }:=H.out.reader h2 HOK2.out (f1.trans f2);have k2:=st2.c2;have ST2:Hid (ShAt w2 B p b g lg lc rg fbs s z { fs with r:=r2 }):=st2;have FR2:Hid (Frm (rdS b g) w w2):=f1.trans f2;clear st2 f1 f2 h2 h1)
  | (go_at_call 154;have hcp:=sh_copies _ B p b g lg lc rg z fbs s _ ST2.out hs x y n 310 (Flm.now fs-1) hx hy (by decide) (by show Flm.now fs-1<fs.frs.length;omega);rw [show ((310:Nat):Int)=310 from rfl,show ((Flm.now fs-1:Nat):Int)=((fs.frs.length:Nat):Int)-1-1 by have:=HSUB.out;omega] at hcp;refine hcp.mono ?_;clear hcp;rintro e w3 ⟨rfl,st3,f3⟩))
 obtain ⟨G,hG⟩:∃ G:FS,G=Flm.copies s z x y n 310 (Flm.now fs-1) { fs with r:=r2 }:=⟨_,rfl⟩
 have HI0:Hid (SeenI w B p b g lg lc rg z (fbs.getD (Flm.now fs) 0) fbs s G x y n 0 0 w3):=⟨G,by rw [Flm.left_zero],by rw [hG];exact st3,(shS_rd FR2.out).trans (f3)⟩
 have HBLG:Hid (Flm.block s z x y n fs=Flm.seen z (Flm.spots x y n) G):=by rw [hG];exact HBL.out
 clear st3 f3 hG ST2 FR2 HBL H HA HB k0 k2 k5 i0 j0
 go_wp2_with fail
 go_loopw [11] (fun jv wr=>∃ j:Nat,j<=n/\jv=.int .i64 ((y+j:Nat):Int)/\SeenI w B p b g lg lc rg z (fbs.getD (Flm.now fs) 0) fbs s G x y n j 0 wr) (fun jv _=>y+n-(intOf jv).toNat)
 case atStart=>exact ⟨0,by omega,rfl,HI0.out⟩
 case round =>
  clear HI0
  obtain ⟨j,hj,rfl,hI⟩:=hrel
  obtain ⟨J,hJ⟩:∃ J,J=y+j:=⟨_,rfl⟩
  rw [<- hJ]
  by_cases hlt:j<n
  ·have hlt':(J:Int)<(y:Int)+(n:Int):=by omega
   have hJz:J<z:=by omega
   have HI:Hid (SeenI w B p b g lg lc rg z (fbs.getD (Flm.now fs) 0) fbs s G x y n j 0 wr):=hI
   have HJ:Hid (J=y+j):=hJ
   clear hI hJ
   go_wp2_with fail
   go_loopw [12] (fun iv wr=>∃ i:Nat,i<=n/\iv=.int .i64 ((x+i:Nat):Int)/\SeenI w B p b g lg lc rg z (fbs.getD (Flm.now fs) 0) fbs s G x y n j i wr) (fun iv _=>x+n-(intOf iv).toNat)
   case atStart=>exact ⟨0,by omega,rfl,HI.out⟩
   case round =>
    clear HI
    obtain ⟨i,hi,rfl,hI⟩:=hrel
    obtain ⟨wi,rfl⟩:∃ wi,wi=wr:=⟨_,rfl⟩
    obtain ⟨I,hI0⟩:∃ I,I=x+i:=⟨_,rfl⟩
    rw [<- hI0]
    by_cases hlt2:i<n
    ·have hlt2':(I:Int)<(x:Int)+(n:Int):=by omega
     have hIz:I<z:=by omega
     obtain ⟨q,hq1,hq2,hq3⟩:=hI
     obtain ⟨w1',w2'⟩:=wrap_spot hq2.zzle hIz hJz
     have HT:Hid (Flm.seen z (Flm.left x y n j (i+1)) { q with rd:=q.rd.set (J*z+I) true }=Flm.seen z (Flm.spots x y n) G):=by unfold Hid;rw [<- hq1,seen_go hI0 HJ.out hlt hlt2]
     obtain ⟨T,hT⟩:∃ T,T=J*z+I:=⟨_,rfl⟩
     have hTZ:(T:Int)<((z*z:Nat):Int):=by rw [hT];exact Int.ofNat_lt.2 (spot_lt hIz hJz)
     have rc:=hq2.read.cell T (by rw [hT];exact spot_lt hIz hJz)
     have rf:=hq2.read.frozen T
     have q1:=hq2.c1
     have q3:=hq2.c3
     rw [<- hT] at w2' HT
     obtain ⟨Z,hZ⟩:∃ Z,Z=z*z:=⟨_,rfl⟩
     rw [<- hZ] at hTZ q3
     obtain ⟨rv,hrv⟩:∃ rv,rv=q.rd.getD T false:=⟨_,rfl⟩
     rw [<- hrv] at rc
     have HQ2:Hid (ShAt wi B p b g lg lc rg fbs s z q):=hq2
     have HQ3:Hid (Frm (shS p b g rg (fbs.getD (Flm.now fs) 0)) w wi):=hq3
     have HI0:Hid (I=x+i):=hI0
     clear hq1 hq2 hq3 hT hZ hrv hI0
     go_wp2_with fail
     go_region
     go_wp2_with fail
     have hI0:=HI0.out
     refine ⟨⟨i+1,by omega,?_,{ q with rd:=q.rd.set T true },HT.out,?_,?_⟩,?_⟩
     ·rw [show ((x+(i+1):Nat):Int)=(I:Int)+1 by omega]
     ·exact (HQ2.out.see T).below (below_drewN (Below.refl _ _) 1)
     ·exact (Frm.setCell (p:=⟨rg,T,none⟩) HQ3.out (.inl (.inr (.inr (.inr (.inl rfl))))) _).drew
     ·simp [intOf];omega
    ·have hlt2':¬ ((I:Int)<(x:Int)+(n:Int)):=by omega
     obtain rfl:i=n:=by omega
     have HI2:Hid (SeenI w B p b g lg lc rg z (fbs.getD (Flm.now fs) 0) fbs s G x y i j i wi):=hI
     clear hI hI0
     go_wp2_with fail
     have hJe:=HJ.out
     obtain ⟨q,hq1,hq2,hq3⟩:=HI2.out
     refine ⟨⟨j+1,by omega,?_,q,by rw [<- hq1,Flm.left_row],hq2,hq3⟩,?_⟩
     ·rw [show ((y+(j+1):Nat):Int)=(J:Int)+1 by omega]
     ·simp [intOf];omega
  ·have hlt':¬ ((J:Int)<(y:Int)+(n:Int)):=by omega
   obtain rfl:j=n:=by omega
   have HI2:Hid (SeenI w B p b g lg lc rg z (fbs.getD (Flm.now fs) 0) fbs s G x y j j 0 wr):=hI
   clear hI hJ
   go_wp2_with fail
   go_end0
   obtain ⟨q,hq1,hq2,hq3⟩:=HI2.out
   rw [Flm.left_end] at hq1
   have hq1':q=Flm.seen z (Flm.spots x y j) G:=hq1
   rw [HBLG.out,<- hq1']
   exact ⟨rfl,hq2,hq3⟩
end
section
open Go.RowKit
open Flm (Px FS)
set_option maxRecDepth 20000 in
theorem sh_block_err0 (w:World) (B p b g lg lc rg z:Nat) (fbs:List Nat) (s:ByteArray) (fs:FS) (h:ShAt w B p b g lg lc rg fbs s z fs) (hs:s.size<=maxLen) (x y n:Nat) (v:Int) (hka:Rdr.bitV fs.r 2=0) (hkb:Rdr.bitV (Rdr.bitS s fs.r 2) (3+0)=v) (he:(Rdr.bitS s (Rdr.bitS s fs.r 2) (3+0)).err ≠ 0) :
  Calls Tryz.prog 130 #[.pointer (some ⟨p,0,none⟩),.int .i64 x,.int .i64 y,.int .i64 n] w fun e w'=>e=.returned (.tuple #[])/\ShAt w' B p b g lg lc rg fbs s z (Flm.block s z x y n fs)/\Frm (shS p b g rg (fbs.getD (Flm.now fs) 0)) w w':=by
 have i0:=h.c0
 obtain ⟨r1,hr1⟩:∃ r1,r1=Rdr.bitS s fs.r 2:=⟨_,rfl⟩
 have HA:Hid (Calls Tryz.prog 101 #[.pointer (some ⟨b,0,none⟩),.int .i64 2] w fun x w'=>x=.returned (.int .i64 0)/\RdAt w' B b g s r1/\Frm (rdS b g) w w'):=by
  have:=rbit w B b g s fs.r 2 h.rd h.ok hs (by decide)
  rw [hka,<- hr1] at this
  exact this
 have ok1:Rdr.Ok s r1:=by rw [hr1];exact h.ok.bitS (by decide)
 obtain ⟨r2,hr2⟩:∃ r2,r2=Rdr.bitS s r1 (3+0):=⟨_,rfl⟩
 rw [<- hr1] at hkb he
 rw [<- hr2] at he
 have HB:Hid (∀ wx,RdAt wx B b g s r1->Calls Tryz.prog 101 #[.pointer (some ⟨b,0,none⟩),.int .i64 3] wx fun x w'=>x=.returned (.int .i64 v)/\RdAt w' B b g s r2/\Frm (rdS b g) wx w'):=fun wx hx=>by
  have:=rbit wx B b g s r1 (3+0) hx ok1 hs (by decide)
  rw [hkb,<- hr2] at this
  exact this
 have HOK2:Hid (Rdr.Ok s r2):=by rw [hr2];exact ok1.bitS (by decide)
 have HBL:Hid (Flm.block s z x y n fs={ fs with r:=r2 }):=by
  unfold Hid Flm.block
  dsimp only
  rw [<- hr1,hka]
  rw [show (3+(0:Int).toNat)=3+0 from rfl,<- hr2,hkb]
  rw [if_neg he]
 have hpb:Hid (¬ rdS b g p):=fun e=>by rcases e with e|e;exact h.nes.1.1 e;exact h.nes.1.2.1 e
 have H:Hid (ShAt w B p b g lg lc rg fbs s z fs):=h
 have T1:Hid True:=trivial
 have he':(r2.err == 0)=false:=by simpa using he
 clear h hr1 hr2 ok1 hka hkb he
 go_enter Tryz.func130,Tryz.ntmps130
 go_wp2_with (first
  | (clear T1;go_at_call 101;refine HA.out.mono ?_;rintro e w1 ⟨rfl,h1,f1⟩;have j0:=f1.cell i0 hpb.out)
  | (go_at_call 101;refine (HB.out _ h1).mono ?_;rintro e w2 ⟨rfl,h2,f2⟩;have k0:=f2.cell j0 hpb.out;have k5:=h2.c5;have st2:ShAt w2 B p b g lg lc rg fbs s z { fs with r:=r2 }:=H.out.reader h2 HOK2.out (f1.trans f2);have k2:=st2.c2;have ST2:Hid (ShAt w2 B p b g lg lc rg fbs s z { fs with r:=r2 }):=st2;have FR2:Hid (Frm (rdS b g) w w2):=f1.trans f2;clear st2 f1 f2 h2 h1))
 go_returns
 rw [HBL.out]
 exact ⟨rfl,ST2.out,shS_rd FR2.out⟩
set_option maxRecDepth 20000 in
theorem sh_block_err1 (w:World) (B p b g lg lc rg z:Nat) (fbs:List Nat) (s:ByteArray) (fs:FS) (h:ShAt w B p b g lg lc rg fbs s z fs) (hs:s.size<=maxLen) (x y n:Nat) (v:Int) (hka:Rdr.bitV fs.r 2=1) (hkb:Rdr.bitV (Rdr.bitS s fs.r 2) (3+1)=v) (he:(Rdr.bitS s (Rdr.bitS s fs.r 2) (3+1)).err ≠ 0) :
  Calls Tryz.prog 130 #[.pointer (some ⟨p,0,none⟩),.int .i64 x,.int .i64 y,.int .i64 n] w fun e w'=>e=.returned (.tuple #[])/\ShAt w' B p b g lg lc rg fbs s z (Flm.block s z x y n fs)/\Frm (shS p b g rg (fbs.getD (Flm.now fs) 0)) w w':=by
 have i0:=h.c0
 obtain ⟨r1,hr1⟩:∃ r1,r1=Rdr.bitS s fs.r 2:=⟨_,rfl⟩
 have HA:Hid (Calls Tryz.prog 101 #[.pointer (some ⟨b,0,none⟩),.int .i64 2] w fun x w'=>x=.returned (.int .i64 1)/\RdAt w' B b g s r1/\Frm (rdS b g) w w'):=by
  have:=rbit w B b g s fs.r 2 h.rd h.ok hs (by decide)
  rw [hka,<- hr1] at this
  exact this
 have ok1:Rdr.Ok s r1:=by rw [hr1];exact h.ok.bitS (by decide)
 obtain ⟨r2,hr2⟩:∃ r2,r2=Rdr.bitS s r1 (3+1):=⟨_,rfl⟩
 rw [<- hr1] at hkb he
 rw [<- hr2] at he
 have HB:Hid (∀ wx,RdAt wx B b g s r1->Calls Tryz.prog 101 #[.pointer (some ⟨b,0,none⟩),.int .i64 4] wx fun x w'=>x=.returned (.int .i64 v)/\RdAt w' B b g s r2/\Frm (rdS b g) wx w'):=fun wx hx=>by
  have:=rbit wx B b g s r1 (3+1) hx ok1 hs (by decide)
  rw [hkb,<- hr2] at this
  exact this
 have HOK2:Hid (Rdr.Ok s r2):=by rw [hr2];exact ok1.bitS (by decide)
 have HBL:Hid (Flm.block s z x y n fs={ fs with r:=r2 }):=by
  unfold Hid Flm.block
  dsimp only
  rw [<- hr1,hka]
  rw [show (3+(1:Int).toNat)=3+1 from rfl,<- hr2,hkb]
  rw [if_neg he]
 have hpb:Hid (¬ rdS b g p):=fun e=>by rcases e with e|e;exact h.nes.1.1 e;exact h.nes.1.2.1 e
 have H:Hid (ShAt w B p b g lg lc rg fbs s z fs):=h
 have T1:Hid True:=trivial
 have he':(r2.err == 0)=false:=by simpa using he
 clear h hr1 hr2 ok1 hka hkb he
 go_enter Tryz.func130,Tryz.ntmps130
 go_wp2_with (first
  | (clear T1;go_at_call 101;refine HA.out.mono ?_;rintro e w1 ⟨rfl,h1,f1⟩;have j0:=f1.cell i0 hpb.out)
  | (go_at_call 101;refine (HB.out _ h1).mono ?_;rintro e w2 ⟨rfl,h2,f2⟩;have k0:=f2.cell j0 hpb.out;have k5:=h2.c5;have st2:ShAt w2 B p b g lg lc rg fbs s z { fs with r:=r2 }:=H.out.reader h2 HOK2.out (f1.trans f2);have k2:=st2.c2;have ST2:Hid (ShAt w2 B p b g lg lc rg fbs s z { fs with r:=r2 }):=st2;have FR2:Hid (Frm (rdS b g) w w2):=f1.trans f2;clear st2 f1 f2 h2 h1))
 go_returns
 rw [HBL.out]
 exact ⟨rfl,ST2.out,shS_rd FR2.out⟩
set_option maxRecDepth 20000 in
theorem sh_block_first (w:World) (B p b g lg lc rg z:Nat) (fbs:List Nat) (s:ByteArray) (fs:FS) (h:ShAt w B p b g lg lc rg fbs s z fs) (hs:s.size<=maxLen) (x y n:Nat) (hka:Rdr.bitV fs.r 2=1) (hkb:Rdr.bitV (Rdr.bitS s fs.r 2) (3+1)=1) (he:(Rdr.bitS s (Rdr.bitS s fs.r 2) (3+1)).err=0) (hnow:Flm.now fs=0) :
  Calls Tryz.prog 130 #[.pointer (some ⟨p,0,none⟩),.int .i64 x,.int .i64 y,.int .i64 n] w fun e w'=>e=.returned (.tuple #[])/\ShAt w' B p b g lg lc rg fbs s z (Flm.block s z x y n fs)/\Frm (shS p b g rg (fbs.getD (Flm.now fs) 0)) w w':=by
 have i0:=h.c0
 obtain ⟨r1,hr1⟩:∃ r1,r1=Rdr.bitS s fs.r 2:=⟨_,rfl⟩
 have HA:Hid (Calls Tryz.prog 101 #[.pointer (some ⟨b,0,none⟩),.int .i64 2] w fun x w'=>x=.returned (.int .i64 1)/\RdAt w' B b g s r1/\Frm (rdS b g) w w'):=by
  have:=rbit w B b g s fs.r 2 h.rd h.ok hs (by decide)
  rw [hka,<- hr1] at this
  exact this
 have ok1:Rdr.Ok s r1:=by rw [hr1];exact h.ok.bitS (by decide)
 obtain ⟨r2,hr2⟩:∃ r2,r2=Rdr.bitS s r1 (3+1):=⟨_,rfl⟩
 rw [<- hr1] at hkb he
 rw [<- hr2] at he
 have HB:Hid (∀ wx,RdAt wx B b g s r1->Calls Tryz.prog 101 #[.pointer (some ⟨b,0,none⟩),.int .i64 4] wx fun x w'=>x=.returned (.int .i64 1)/\RdAt w' B b g s r2/\Frm (rdS b g) wx w'):=fun wx hx=>by
  have:=rbit wx B b g s r1 (3+1) hx ok1 hs (by decide)
  rw [hkb,<- hr2] at this
  exact this
 have HOK2:Hid (Rdr.Ok s r2):=by rw [hr2];exact ok1.bitS (by decide)
 have HBL:Hid (Flm.block s z x y n fs={ fs with r:=Rdr.fail r2 10 }):=by
  unfold Hid Flm.block
  dsimp only
  rw [<- hr1,hka]
  rw [show (3+(1:Int).toNat)=3+1 from rfl,<- hr2,hkb]
  rw [if_pos he,if_neg (by decide),if_neg (by decide),if_pos (show Flm.now { fs with r:=r2 }=0 from hnow)]
 have hpb:Hid (¬ rdS b g p):=fun e=>by rcases e with e|e;exact h.nes.1.1 e;exact h.nes.1.2.1 e
 have H:Hid (ShAt w B p b g lg lc rg fbs s z fs):=h
 have hn2:=h.n2
 have hl1:fs.frs.length=1:=by unfold Flm.now at hnow;omega
 have T1:Hid True:=trivial
 have he':(r2.err == 0)=true:=by simpa using he
 clear h hr1 hr2 ok1 hka hkb he
 go_enter Tryz.func130,Tryz.ntmps130
 go_wp2_with (first
  | (clear T1;go_at_call 101;refine HA.out.mono ?_;rintro e w1 ⟨rfl,h1,f1⟩;have j0:=f1.cell i0 hpb.out)
  | (go_at_call 101;refine (HB.out _ h1).mono ?_;rintro e w2 ⟨rfl,h2,f2⟩;have k0:=f2.cell j0 hpb.out;have k5:=h2.c5;have st2:ShAt w2 B p b g lg lc rg fbs s z { fs with r:=r2 }:=H.out.reader h2 HOK2.out (f1.trans f2);have k2:=st2.c2;have ST2:Hid (ShAt w2 B p b g lg lc rg fbs s z { fs with r:=r2 }):=st2;have FR2:Hid (Frm (rdS b g) w w2):=f1.trans f2;clear st2 f1 f2 h2 h1;try (change _=some (Value.slice _ fs.frs.length _) at k2;rw [hl1] at k2))
  | (go_at_call 128;refine (rfail _ B b g s _ 10 ST2.out.rd).mono ?_;rintro e w3 ⟨rfl,h3,f3⟩))
 go_returns
 rw [HBL.out]
 exact ⟨rfl,ST2.out.reader h3 (HOK2.out.fail (by decide)) f3,shS_rd (FR2.out.trans f3)⟩
theorem sh_block (w:World) (B p b g lg lc rg z:Nat) (fbs:List Nat) (s:ByteArray) (fs:FS) (h:ShAt w B p b g lg lc rg fbs s z fs) (hs:s.size<=maxLen) (x y n:Nat) (hx:x+n<=z) (hy:y+n<=z) :
  Calls Tryz.prog 130 #[.pointer (some ⟨p,0,none⟩),.int .i64 x,.int .i64 y,.int .i64 n] w fun e w'=>e=.returned (.tuple #[])/\ShAt w' B p b g lg lc rg fbs s z (Flm.block s z x y n fs)/\Frm (shS p b g rg (fbs.getD (Flm.now fs) 0)) w w':=by
 rcases Rdr.bitV_cases fs.r 2 with ha|ha
 ·by_cases he:(Rdr.bitS s (Rdr.bitS s fs.r 2) (3+0)).err=0
  ·rcases Rdr.bitV_cases (Rdr.bitS s fs.r 2) (3+0) with hb|hb
   ·exact sh_block0 w B p b g lg lc rg z fbs s fs h hs x y n hx hy ha hb he
   ·exact sh_block1 w B p b g lg lc rg z fbs s fs h hs x y n hx hy ha hb he
  ·exact sh_block_err0 w B p b g lg lc rg z fbs s fs h hs x y n _ ha rfl he
 ·by_cases he:(Rdr.bitS s (Rdr.bitS s fs.r 2) (3+1)).err=0
  ·rcases Rdr.bitV_cases (Rdr.bitS s fs.r 2) (3+1) with hb|hb
   ·exact sh_block2 w B p b g lg lc rg z fbs s fs h hs x y n hx hy ha hb he
   ·by_cases hn:Flm.now fs=0
    ·exact sh_block_first w B p b g lg lc rg z fbs s fs h hs x y n ha hb he hn
    ·exact sh_block3 w B p b g lg lc rg z fbs s fs h hs x y n hx hy ha hb he hn
  ·exact sh_block_err1 w B p b g lg lc rg z fbs s fs h hs x y n _ ha rfl he
end
section
open Go.RowKit
open Flm (Px FS)
theorem ShAt.now_eq {w w':World} {B p b g lg lc lc' rg z:Nat} {fbs:List Nat} {s:ByteArray} {fs fs':FS} (h:ShAt w B p b g lg lc rg fbs s z fs) (h':ShAt w' B p b g lg lc' rg fbs s z fs'):Flm.now fs'=Flm.now fs:=by
 unfold Flm.now;rw [<- h.n1,<- h'.n1]
theorem Flm.area_err {s:ByteArray} {z x y n side:Nat} {fs:FS} (he:fs.r.err ≠ 0):Flm.area s z n x y side fs=fs:=by
 cases n <;> (unfold Flm.area;rw [if_neg he])
def AreaC (B p b g lg lc rg z:Nat) (fbs:List Nat) (s:ByteArray) (n side:Nat) (S:Int):Prop :=
 ∀ (w:World) (fs:FS) (x y:Nat) (X Y:Int),ShAt w B p b g lg lc rg fbs s z fs->X=x->Y=y->x+side<=z->y+side<=z ->
  Calls Tryz.prog 104 #[.pointer (some ⟨p,0,none⟩),.int .i64 X,.int .i64 Y,.int .i64 S] w fun e w'=>e=.returned (.tuple #[])/\ShAt w' B p b g lg lc rg fbs s z (Flm.area s z n x y side fs)/\Frm (shS p b g rg (fbs.getD (Flm.now fs) 0)) w w'
set_option maxRecDepth 20000 in
theorem sh_area_off (w:World) (B p b g lg lc rg z:Nat) (fbs:List Nat) (s:ByteArray) (fs:FS) (h:ShAt w B p b g lg lc rg fbs s z fs) (X Y S:Int) (he:fs.r.err ≠ 0) :
  Calls Tryz.prog 104 #[.pointer (some ⟨p,0,none⟩),.int .i64 X,.int .i64 Y,.int .i64 S] w fun e w'=>e=.returned (.tuple #[])/\w'=w:=by
 have i0:=h.c0
 have i5:=h.rd.c5
 have he':(fs.r.err == 0)=false:=by simpa using he
 have he2:(fs.r.err != 0)=true:=by simpa using he
 clear h
 go_enter Tryz.func104,Tryz.ntmps104
 go_wp2
 go_returns
 exact ⟨rfl,rfl⟩
set_option maxRecDepth 20000 in
theorem sh_area4 (B p b g lg lc rg z:Nat) (fbs:List Nat) (s:ByteArray) (hs:s.size<=maxLen):AreaC B p b g lg lc rg z fbs s 0 4 4:=by
 intro w fs x y X Y h hX hY hx hy
 by_cases he:fs.r.err=0
 ·subst hX hY
  have i0:=h.c0
  have i2:=h.c2
  have i4:=h.c4
  have i5:=h.c5
  have i6:=h.c6
  have e5:=h.rd.c5
  have f4:=h.fz 4
  have f5:=h.fz 5
  have f6:=h.fz 6
  have HAR:Hid (Flm.area s z 0 x y 4 fs=Flm.block s z x y 4 { fs with fr:=Flm.now fs,x:=x,y:=y }):=by unfold Hid Flm.area;rw [if_pos he]
  rw [he] at e5
  have hn2:=h.n2
  have hsub:((Flm.now fs:Nat):Int)=((fs.frs.length:Nat):Int)-1:=by unfold Flm.now;omega
  have hpl0:=h.place ((Flm.now fs:Nat):Int) x y
  have HBK:=sh_block _ B p b g lg lc rg z fbs s _ hpl0 hs x y 4 hx hy
  rw [show ((4:Nat):Int)=4 from rfl] at HBK
  have HBH:Hid (Calls Tryz.prog 130 #[.pointer (some ⟨p,0,none⟩),.int .i64 x,.int .i64 y,.int .i64 4] (((w.setCell ⟨p,4,none⟩ (.int .i64 (((fs.frs.length:Nat):Int)-1))).setCell ⟨p,5,none⟩ (.int .i64 (x:Int))).setCell ⟨p,6,none⟩ (.int .i64 (y:Int))) fun e w'=>e=.returned (.tuple #[])/\ShAt w' B p b g lg lc rg fbs s z (Flm.block s z x y 4 { fs with fr:=Flm.now fs,x:=x,y:=y })/\Frm (shS p b g rg (fbs.getD (Flm.now fs) 0)) (((w.setCell ⟨p,4,none⟩ (.int .i64 (((fs.frs.length:Nat):Int)-1))).setCell ⟨p,5,none⟩ (.int .i64 (x:Int))).setCell ⟨p,6,none⟩ (.int .i64 (y:Int))) w'):=by
   rw [<- hsub];exact HBK
  have hx16:x<=16:=by rcases h.zz with e|e|e <;> omega
  have hy16:y<=16:=by rcases h.zz with e|e|e <;> omega
  clear HBK hpl0 hsub
  have hne:p ≠ b:=h.nes.1.1
  have H:Hid (ShAt w B p b g lg lc rg fbs s z fs):=h
  clear h he
  go_enter Tryz.func104,Tryz.ntmps104
  go_wp2_with (go_at_call 130;refine HBH.out.mono ?_;rintro e w1 ⟨rfl,h1,f1⟩)
  go_end0
  rw [HAR.out]
  exact ⟨rfl,h1,(Frm.setCell (p:=⟨p,6,none⟩) (Frm.setCell (p:=⟨p,5,none⟩) (Frm.setCell (p:=⟨p,4,none⟩) (Frm.refl _ w) (.inl (.inl rfl)) _) (.inl (.inl rfl)) _) (.inl (.inl rfl)) _).trans f1⟩
 ·refine (sh_area_off w B p b g lg lc rg z fbs s fs h X Y _ he).mono ?_
  rintro e w1 ⟨rfl,rfl⟩
  rw [Flm.area_err he]
  exact ⟨rfl,h,Frm.refl _ _⟩
theorem shS_place {p b g rg fb:Nat} (w:World) (u v t:Value):Frm (shS p b g rg fb) w (((w.setCell ⟨p,4,none⟩ u).setCell ⟨p,5,none⟩ v).setCell ⟨p,6,none⟩ t) :=
 Frm.setCell (p:=⟨p,6,none⟩) (Frm.setCell (p:=⟨p,5,none⟩) (Frm.setCell (p:=⟨p,4,none⟩) (Frm.refl _ w) (.inl (.inl rfl)) _) (.inl (.inl rfl)) _) (.inl (.inl rfl)) _
set_option maxRecDepth 20000 in
theorem sh_area_cut (B p b g lg lc rg z:Nat) (fbs:List Nat) (s:ByteArray) (hs:s.size<=maxLen) (n side h2:Nat) (S H2 K:Int) (k:Nat) (hcase:(side=8/\S=8/\h2=4/\H2=4/\k=1/\K=1) \/ (side=16/\S=16/\h2=8/\H2=8/\k=0/\K=0)) (IH:AreaC B p b g lg lc rg z fbs s n h2 H2):AreaC B p b g lg lc rg z fbs s (n+1) side S:=by
 intro w fs x y X Y h hX hY hx hy
 by_cases he:fs.r.err=0
 ·subst hX hY
  have hk4:k<400:=by omega
  have hhs:side / 2=h2:=by omega
  have hkk:(if side=16 then 0 else 1)=k:=by rcases hcase with ⟨rfl,_,_,_,rfl,_⟩|⟨rfl,_,_,_,rfl,_⟩ <;> rfl
  have i0:=h.c0
  have i2:=h.c2
  have i4:=h.c4
  have i5:=h.c5
  have i6:=h.c6
  have e5:=h.rd.c5
  have f4:=h.fz 4
  have f5:=h.fz 5
  have f6:=h.fz 6
  rw [he] at e5
  have hn2:=h.n2
  have hne:p ≠ b:=h.nes.1.1
  have hnpg:Hid (¬ rdS b g p):=fun e=>by rcases e with e|e;exact h.nes.1.1 e;exact h.nes.1.2.1 e
  have hsub:((Flm.now fs:Nat):Int)=((fs.frs.length:Nat):Int)-1:=by unfold Flm.now;omega
  have hpl0:=h.place ((Flm.now fs:Nat):Int) x y
  rw [hsub] at hpl0
  obtain ⟨fs1,hfs1⟩:∃ fs1:FS,fs1={ fs with fr:=Flm.now fs,x:=x,y:=y }:=⟨_,rfl⟩
  obtain ⟨w1,hw1⟩:∃ w1,w1=(((w.setCell ⟨p,4,none⟩ (.int .i64 (((fs.frs.length:Nat):Int)-1))).setCell ⟨p,5,none⟩ (.int .i64 (x:Int))).setCell ⟨p,6,none⟩ (.int .i64 (y:Int))):=⟨_,rfl⟩
  rw [<- hw1] at hpl0
  have hpl:ShAt w1 B p b g lg lc rg fbs s z fs1:=by rw [hfs1,hsub];exact hpl0
  have hf1:Frm (shS p b g rg (fbs.getD (Flm.now fs) 0)) w w1:=by rw [hw1];exact shS_place w _ _ _
  have hr1:fs1.r=fs.r:=by rw [hfs1]
  have hnow1:Flm.now fs1=Flm.now fs:=by rw [hfs1];rfl
  have hx16:x+side<=16:=by rcases h.zz with e|e|e <;> omega
  have hy16:y+side<=16:=by rcases h.zz with e|e|e <;> omega
  have HB:=rbit w1 B b g s fs1.r k hpl.rd hpl.ok hs hk4
  rw [hr1] at HB
  obtain ⟨g1,hg1⟩:∃ g1:FS,g1={ fs1 with r:=Rdr.bitS s fs.r k }:=⟨_,rfl⟩
  have hst2:∀ w2,RdAt w2 B b g s (Rdr.bitS s fs.r k)->Frm (rdS b g) w1 w2->ShAt w2 B p b g lg lc rg fbs s z g1:=fun w2 a f=>by
   rw [hg1];exact hpl.reader a (by rw [<- hr1];exact hpl.ok.bitS hk4) f
  have HST2:Hid (∀ w2,RdAt w2 B b g s (Rdr.bitS s fs.r k)->Frm (rdS b g) w1 w2->ShAt w2 B p b g lg lc rg fbs s z g1):=hst2
  have HNG:Hid (Flm.now g1=Flm.now fs):=by rw [hg1];exact hnow1
  have HRG:Hid (g1.r=Rdr.bitS s fs.r k):=by rw [hg1];rfl
  have HF1:Hid (Frm (shS p b g rg (fbs.getD (Flm.now fs) 0)) w w1):=hf1
  have HIH:Hid (AreaC B p b g lg lc rg z fbs s n h2 H2):=IH
  have HW1:Hid (w1=(((w.setCell ⟨p,4,none⟩ (.int .i64 (((fs.frs.length:Nat):Int)-1))).setCell ⟨p,5,none⟩ (.int .i64 (x:Int))).setCell ⟨p,6,none⟩ (.int .i64 (y:Int)))):=hw1
  have HK:Hid ((k:Int)=K):=by unfold Hid;omega
  have HAR:Hid (Flm.area s z (n+1) x y side fs=if Rdr.bitV fs.r k=1 then Flm.area s z n (x+h2) (y+h2) h2 (Flm.area s z n x (y+h2) h2 (Flm.area s z n (x+h2) y h2 (Flm.area s z n x y h2 g1))) else if g1.r.err=0 then Flm.block s z x y side g1 else g1):=by
   unfold Hid
   rw [hg1,hfs1]
   conv=>lhs;unfold Flm.area
   rw [if_pos he,hkk,hhs]
  have HBb:Hid (Calls Tryz.prog 101 #[.pointer (some ⟨b,0,none⟩),.int .i64 k] w1 fun x w'=>x=.returned (.int .i64 (Rdr.bitV fs.r k))/\RdAt w' B b g s (Rdr.bitS s fs.r k)/\Frm (rdS b g) w1 w'):=HB
  have hs0:∀ w2,Frm (rdS b g) w1 w2->w2.cell? ⟨p,0,none⟩=some (.pointer (some ⟨b,0,none⟩)):=fun w2 f=>f.cell hpl.c0 hnpg.out
  have HS0:Hid (∀ w2,Frm (rdS b g) w1 w2->w2.cell? ⟨p,0,none⟩=some (.pointer (some ⟨b,0,none⟩))):=hs0
  clear h he hpl hpl0 HB hf1 hfs1 hst2 IH hs0 hsub hnow1 hr1 hkk hhs
  rcases hcase with ⟨rfl,rfl,rfl,rfl,rfl,rfl⟩|⟨rfl,rfl,rfl,rfl,rfl,rfl⟩
  ·
   rcases Rdr.bitV_cases fs.r 1 with hv|hv
   ·rw [hv] at HBb
    rw [hv,if_neg (by decide)] at HAR
    have HBH:Hid (Calls Tryz.prog 101 #[.pointer (some ⟨b,0,none⟩),.int .i64 1] (((w.setCell ⟨p,4,none⟩ (.int .i64 (((fs.frs.length:Nat):Int)-1))).setCell ⟨p,5,none⟩ (.int .i64 (x:Int))).setCell ⟨p,6,none⟩ (.int .i64 (y:Int))) fun x w'=>x=.returned (.int .i64 0)/\RdAt w' B b g s (Rdr.bitS s fs.r 1)/\Frm (rdS b g) w1 w'):=by
     rw [<- HW1.out];exact HBb
    by_cases hge:g1.r.err=0
    ·rw [if_pos hge] at HAR
     have HARH:Hid (Flm.area s z (n+1) x y 8 fs=Flm.block s z x y 8 g1):=HAR
     have HGE:Hid ((Rdr.bitS s fs.r 1).err=0):=by rw [<- HRG.out];exact hge
     have HBK:Hid (∀ w2,ShAt w2 B p b g lg lc rg fbs s z g1->Calls Tryz.prog 130 #[.pointer (some ⟨p,0,none⟩),.int .i64 x,.int .i64 y,.int .i64 8] w2 fun e w'=>e=.returned (.tuple #[])/\ShAt w' B p b g lg lc rg fbs s z (Flm.block s z x y 8 g1)/\Frm (shS p b g rg (fbs.getD (Flm.now fs) 0)) w2 w'):=fun w2 a=>by
      have:=sh_block w2 B p b g lg lc rg z fbs s g1 a hs x y 8 hx hy
      rw [HNG.out] at this
      exact this
     clear HBb HAR hv hge HIH hw1
     go_enter Tryz.func104,Tryz.ntmps104
     go_wp2_with (first
      | (go_at_call 101;refine HBH.out.mono ?_;rintro e w2 ⟨rfl,h2,f2⟩;have j0:=HS0.out w2 f2;have j5:=h2.c5;rw [HGE.out] at j5;have ST2:Hid (ShAt w2 B p b g lg lc rg fbs s z g1):=HST2.out w2 h2 f2;have FR2:Hid (Frm (shS p b g rg (fbs.getD (Flm.now fs) 0)) w w2):=HF1.out.trans (shS_rd f2);clear h2 f2)
      | (go_at_call 130;refine (HBK.out _ ST2.out).mono ?_;rintro e w3 ⟨rfl,h3,f3⟩))
     go_end0
     rw [HARH.out]
     exact ⟨rfl,h3,FR2.out.trans f3⟩
    ·rw [if_neg hge] at HAR
     have HARH:Hid (Flm.area s z (n+1) x y 8 fs=g1):=HAR
     have hge2:(Rdr.bitS s fs.r 1).err ≠ 0:=by rw [<- HRG.out];exact hge
     obtain ⟨ee,hee⟩:∃ ee,ee=(Rdr.bitS s fs.r 1).err:=⟨_,rfl⟩
     have he1:(ee == 0)=false:=by rw [hee];simpa using hge2
     have he2:(ee != 0)=true:=by rw [hee];simpa using hge2
     have HGE:Hid (ee=(Rdr.bitS s fs.r 1).err):=hee
     clear HBb HAR hv hge hge2 HIH hw1 hee
     go_enter Tryz.func104,Tryz.ntmps104
     go_wp2_with (go_at_call 101;refine HBH.out.mono ?_;rintro e w2 ⟨rfl,h2,f2⟩;have j0:=HS0.out w2 f2;have j5:=h2.c5;rw [<- HGE.out] at j5;have ST2:Hid (ShAt w2 B p b g lg lc rg fbs s z g1):=HST2.out w2 h2 f2;have FR2:Hid (Frm (shS p b g rg (fbs.getD (Flm.now fs) 0)) w w2):=HF1.out.trans (shS_rd f2);clear h2 f2)
     go_end0
     rw [HARH.out]
     exact ⟨rfl,ST2.out,FR2.out⟩
   ·rw [hv] at HBb
    rw [hv,if_pos rfl] at HAR
    have HARH:Hid (Flm.area s z (n+1) x y 8 fs=Flm.area s z n (x+4) (y+4) 4 (Flm.area s z n x (y+4) 4 (Flm.area s z n (x+4) y 4 (Flm.area s z n x y 4 g1)))):=HAR
    have HBH:Hid (Calls Tryz.prog 101 #[.pointer (some ⟨b,0,none⟩),.int .i64 1] (((w.setCell ⟨p,4,none⟩ (.int .i64 (((fs.frs.length:Nat):Int)-1))).setCell ⟨p,5,none⟩ (.int .i64 (x:Int))).setCell ⟨p,6,none⟩ (.int .i64 (y:Int))) fun x w'=>x=.returned (.int .i64 1)/\RdAt w' B b g s (Rdr.bitS s fs.r 1)/\Frm (rdS b g) w1 w'):=by
     rw [<- HW1.out];exact HBb
    have T1:Hid True:=trivial
    have T2:Hid True:=trivial
    have T3:Hid True:=trivial
    have hxe:((x+4:Nat):Int)=(x:Int)+4:=by omega
    have hye:((y+4:Nat):Int)=(y:Int)+4:=by omega
    have HXE:Hid (((x+4:Nat):Int)=(x:Int)+4):=hxe
    have HYE:Hid (((y+4:Nat):Int)=(y:Int)+4):=hye
    clear HBb HAR hv hw1 hxe hye
    go_enter Tryz.func104,Tryz.ntmps104
    go_wp2_with (first
     | (go_at_call 101;refine HBH.out.mono ?_;rintro e w2 ⟨rfl,h2,f2⟩;have ST2:Hid (ShAt w2 B p b g lg lc rg fbs s z g1):=HST2.out w2 h2 f2;have FR2:Hid (Frm (shS p b g rg (fbs.getD (Flm.now fs) 0)) w w2):=HF1.out.trans (shS_rd f2);clear h2 f2)
     | (clear T1;go_at_call 104;refine (HIH.out _ _ x y _ _ ST2.out rfl rfl (by omega) (by omega)).mono ?_;rintro e w3 ⟨rfl,h3,f3⟩;have ST3:Hid (ShAt w3 B p b g lg lc rg fbs s z (Flm.area s z n x y 4 g1)):=h3;have FR3:Hid (Frm (shS p b g rg (fbs.getD (Flm.now fs) 0)) w w3):=FR2.out.trans (by rw [<- HNG.out];exact f3);have NG3:Hid (Flm.now (Flm.area s z n x y 4 g1)=Flm.now fs):=(ST2.out.now_eq h3).trans HNG.out;clear h3 f3)
     | (clear T2;go_at_call 104;refine (HIH.out _ _ (x+4) y _ _ ST3.out HXE.out.symm rfl (by omega) (by omega)).mono ?_;rintro e w4 ⟨rfl,h4,f4⟩;have ST4:Hid (ShAt w4 B p b g lg lc rg fbs s z (Flm.area s z n (x+4) y 4 (Flm.area s z n x y 4 g1))):=h4;have FR4:Hid (Frm (shS p b g rg (fbs.getD (Flm.now fs) 0)) w w4):=FR3.out.trans (by rw [<- NG3.out];exact f4);have NG4:Hid (Flm.now (Flm.area s z n (x+4) y 4 (Flm.area s z n x y 4 g1))=Flm.now fs):=(ST3.out.now_eq h4).trans NG3.out;clear h4 f4)
     | (clear T3;go_at_call 104;refine (HIH.out _ _ x (y+4) _ _ ST4.out rfl HYE.out.symm (by omega) (by omega)).mono ?_;rintro e w5 ⟨rfl,h5,f5⟩;have ST5:Hid (ShAt w5 B p b g lg lc rg fbs s z (Flm.area s z n x (y+4) 4 (Flm.area s z n (x+4) y 4 (Flm.area s z n x y 4 g1)))):=h5;have FR5:Hid (Frm (shS p b g rg (fbs.getD (Flm.now fs) 0)) w w5):=FR4.out.trans (by rw [<- NG4.out];exact f5);have NG5:Hid (Flm.now (Flm.area s z n x (y+4) 4 (Flm.area s z n (x+4) y 4 (Flm.area s z n x y 4 g1)))=Flm.now fs):=(ST4.out.now_eq h5).trans NG4.out;clear h5 f5)
     | (go_at_call 104;refine (HIH.out _ _ (x+4) (y+4) _ _ ST5.out HXE.out.symm HYE.out.symm (by omega) (by omega)).mono ?_;rintro e w6 ⟨rfl,h6,f6⟩))
    go_returns
    rw [HARH.out]
    exact ⟨rfl,h6,FR5.out.trans (by rw [<- NG5.out];exact f6)⟩
  ·
   rcases Rdr.bitV_cases fs.r 0 with hv|hv
   ·rw [hv] at HBb
    rw [hv,if_neg (by decide)] at HAR
    have HBH:Hid (Calls Tryz.prog 101 #[.pointer (some ⟨b,0,none⟩),.int .i64 0] (((w.setCell ⟨p,4,none⟩ (.int .i64 (((fs.frs.length:Nat):Int)-1))).setCell ⟨p,5,none⟩ (.int .i64 (x:Int))).setCell ⟨p,6,none⟩ (.int .i64 (y:Int))) fun x w'=>x=.returned (.int .i64 0)/\RdAt w' B b g s (Rdr.bitS s fs.r 0)/\Frm (rdS b g) w1 w'):=by
     rw [<- HW1.out];exact HBb
    by_cases hge:g1.r.err=0
    ·rw [if_pos hge] at HAR
     have HARH:Hid (Flm.area s z (n+1) x y 16 fs=Flm.block s z x y 16 g1):=HAR
     have HGE:Hid ((Rdr.bitS s fs.r 0).err=0):=by rw [<- HRG.out];exact hge
     have HBK:Hid (∀ w2,ShAt w2 B p b g lg lc rg fbs s z g1->Calls Tryz.prog 130 #[.pointer (some ⟨p,0,none⟩),.int .i64 x,.int .i64 y,.int .i64 16] w2 fun e w'=>e=.returned (.tuple #[])/\ShAt w' B p b g lg lc rg fbs s z (Flm.block s z x y 16 g1)/\Frm (shS p b g rg (fbs.getD (Flm.now fs) 0)) w2 w'):=fun w2 a=>by
      have:=sh_block w2 B p b g lg lc rg z fbs s g1 a hs x y 16 hx hy
      rw [HNG.out] at this
      exact this
     clear HBb HAR hv hge HIH hw1
     go_enter Tryz.func104,Tryz.ntmps104
     go_wp2_with (first
      | (go_at_call 101;refine HBH.out.mono ?_;rintro e w2 ⟨rfl,h2,f2⟩;have j0:=HS0.out w2 f2;have j5:=h2.c5;rw [HGE.out] at j5;have ST2:Hid (ShAt w2 B p b g lg lc rg fbs s z g1):=HST2.out w2 h2 f2;have FR2:Hid (Frm (shS p b g rg (fbs.getD (Flm.now fs) 0)) w w2):=HF1.out.trans (shS_rd f2);clear h2 f2)
      | (go_at_call 130;refine (HBK.out _ ST2.out).mono ?_;rintro e w3 ⟨rfl,h3,f3⟩))
     go_end0
     rw [HARH.out]
     exact ⟨rfl,h3,FR2.out.trans f3⟩
    ·rw [if_neg hge] at HAR
     have HARH:Hid (Flm.area s z (n+1) x y 16 fs=g1):=HAR
     have hge2:(Rdr.bitS s fs.r 0).err ≠ 0:=by rw [<- HRG.out];exact hge
     obtain ⟨ee,hee⟩:∃ ee,ee=(Rdr.bitS s fs.r 0).err:=⟨_,rfl⟩
     have he1:(ee == 0)=false:=by rw [hee];simpa using hge2
     have he2:(ee != 0)=true:=by rw [hee];simpa using hge2
     have HGE:Hid (ee=(Rdr.bitS s fs.r 0).err):=hee
     clear HBb HAR hv hge hge2 HIH hw1 hee
     go_enter Tryz.func104,Tryz.ntmps104
     go_wp2_with (go_at_call 101;refine HBH.out.mono ?_;rintro e w2 ⟨rfl,h2,f2⟩;have j0:=HS0.out w2 f2;have j5:=h2.c5;rw [<- HGE.out] at j5;have ST2:Hid (ShAt w2 B p b g lg lc rg fbs s z g1):=HST2.out w2 h2 f2;have FR2:Hid (Frm (shS p b g rg (fbs.getD (Flm.now fs) 0)) w w2):=HF1.out.trans (shS_rd f2);clear h2 f2)
     go_end0
     rw [HARH.out]
     exact ⟨rfl,ST2.out,FR2.out⟩
   ·rw [hv] at HBb
    rw [hv,if_pos rfl] at HAR
    have HARH:Hid (Flm.area s z (n+1) x y 16 fs=Flm.area s z n (x+8) (y+8) 8 (Flm.area s z n x (y+8) 8 (Flm.area s z n (x+8) y 8 (Flm.area s z n x y 8 g1)))):=HAR
    have HBH:Hid (Calls Tryz.prog 101 #[.pointer (some ⟨b,0,none⟩),.int .i64 0] (((w.setCell ⟨p,4,none⟩ (.int .i64 (((fs.frs.length:Nat):Int)-1))).setCell ⟨p,5,none⟩ (.int .i64 (x:Int))).setCell ⟨p,6,none⟩ (.int .i64 (y:Int))) fun x w'=>x=.returned (.int .i64 1)/\RdAt w' B b g s (Rdr.bitS s fs.r 0)/\Frm (rdS b g) w1 w'):=by
     rw [<- HW1.out];exact HBb
    have T1:Hid True:=trivial
    have T2:Hid True:=trivial
    have T3:Hid True:=trivial
    have hxe:((x+8:Nat):Int)=(x:Int)+8:=by omega
    have hye:((y+8:Nat):Int)=(y:Int)+8:=by omega
    have HXE:Hid (((x+8:Nat):Int)=(x:Int)+8):=hxe
    have HYE:Hid (((y+8:Nat):Int)=(y:Int)+8):=hye
    clear HBb HAR hv hw1 hxe hye
    go_enter Tryz.func104,Tryz.ntmps104
    go_wp2_with (first
     | (go_at_call 101;refine HBH.out.mono ?_;rintro e w2 ⟨rfl,h2,f2⟩;have ST2:Hid (ShAt w2 B p b g lg lc rg fbs s z g1):=HST2.out w2 h2 f2;have FR2:Hid (Frm (shS p b g rg (fbs.getD (Flm.now fs) 0)) w w2):=HF1.out.trans (shS_rd f2);clear h2 f2)
     | (clear T1;go_at_call 104;refine (HIH.out _ _ x y _ _ ST2.out rfl rfl (by omega) (by omega)).mono ?_;rintro e w3 ⟨rfl,h3,f3⟩;have ST3:Hid (ShAt w3 B p b g lg lc rg fbs s z (Flm.area s z n x y 8 g1)):=h3;have FR3:Hid (Frm (shS p b g rg (fbs.getD (Flm.now fs) 0)) w w3):=FR2.out.trans (by rw [<- HNG.out];exact f3);have NG3:Hid (Flm.now (Flm.area s z n x y 8 g1)=Flm.now fs):=(ST2.out.now_eq h3).trans HNG.out;clear h3 f3)
     | (clear T2;go_at_call 104;refine (HIH.out _ _ (x+8) y _ _ ST3.out HXE.out.symm rfl (by omega) (by omega)).mono ?_;rintro e w4 ⟨rfl,h4,f4⟩;have ST4:Hid (ShAt w4 B p b g lg lc rg fbs s z (Flm.area s z n (x+8) y 8 (Flm.area s z n x y 8 g1))):=h4;have FR4:Hid (Frm (shS p b g rg (fbs.getD (Flm.now fs) 0)) w w4):=FR3.out.trans (by rw [<- NG3.out];exact f4);have NG4:Hid (Flm.now (Flm.area s z n (x+8) y 8 (Flm.area s z n x y 8 g1))=Flm.now fs):=(ST3.out.now_eq h4).trans NG3.out;clear h4 f4)
     | (clear T3;go_at_call 104;refine (HIH.out _ _ x (y+8) _ _ ST4.out rfl HYE.out.symm (by omega) (by omega)).mono ?_;rintro e w5 ⟨rfl,h5,f5⟩;have ST5:Hid (ShAt w5 B p b g lg lc rg fbs s z (Flm.area s z n x (y+8) 8 (Flm.area s z n (x+8) y 8 (Flm.area s z n x y 8 g1)))):=h5;have FR5:Hid (Frm (shS p b g rg (fbs.getD (Flm.now fs) 0)) w w5):=FR4.out.trans (by rw [<- NG4.out];exact f5);have NG5:Hid (Flm.now (Flm.area s z n x (y+8) 8 (Flm.area s z n (x+8) y 8 (Flm.area s z n x y 8 g1)))=Flm.now fs):=(ST4.out.now_eq h5).trans NG4.out;clear h5 f5)
     | (go_at_call 104;refine (HIH.out _ _ (x+8) (y+8) _ _ ST5.out HXE.out.symm HYE.out.symm (by omega) (by omega)).mono ?_;rintro e w6 ⟨rfl,h6,f6⟩))
    go_returns
    rw [HARH.out]
    exact ⟨rfl,h6,FR5.out.trans (by rw [<- NG5.out];exact f6)⟩
 ·refine (sh_area_off w B p b g lg lc rg z fbs s fs h X Y _ he).mono ?_
  rintro e w1 ⟨rfl,rfl⟩
  rw [Flm.area_err he]
  exact ⟨rfl,h,Frm.refl _ _⟩
end
end Go.Proofs.YtekfbphnoibnjaaGreatDoor
