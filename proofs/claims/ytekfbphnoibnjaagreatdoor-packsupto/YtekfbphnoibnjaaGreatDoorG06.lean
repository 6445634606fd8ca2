/-
  ShCopy ShBlk
-/
import Derived.Test.YtekfbphnoibnjaaGreatDoorG05
set_option maxHeartbeats 4000000
namespace Go.Proofs.YtekfbphnoibnjaaGreatDoor
section
open Go.RowKit
open Flm (Px FS)
namespace Flm
theorem all_left {x y n j i:Nat} {f:Nat × Nat->Bool} (hj:j<n) (hi:i<n):(left x y n j i).all f=(f (x+i,y+j) && (left x y n j (i+1)).all f):=by rw [left_cons x y n j i hj hi];rfl
theorem may_iff {z:Nat} {fs:FS} {own:Bool} {i j:Int}:may z fs own i j=true ↔ (0<=i/\0<=j/\i<z/\j<z)/\(own=true->fs.rd.getD (j.toNat*z+i.toNat) false=true):=by
 unfold may
 cases own <;> simp [and_assoc]
theorem may_in {z A C:Nat} {fs:FS} {ow:Bool} (hA:A<z) (hC:C<z):may z fs ow (A:Int) (C:Int)=(!ow || fs.rd.getD (C*z+A) false):=by
 unfold may
 rw [decide_eq_true (show (0:Int)<=(A:Int) by omega),decide_eq_true (show (0:Int)<=(C:Int) by omega),decide_eq_true (show (A:Int)<(z:Int) by omega),decide_eq_true (show (C:Int)<(z:Int) by omega),Int.toNat_natCast,Int.toNat_natCast]
 simp
end Flm
theorem wrap_spot {z A C:Nat} (hz:z*z<=256) (hA:A<z) (hC:C<z):wrap64 ((C:Int)*(z:Int))=(C:Int)*(z:Int)/\wrap64 ((C:Int)*(z:Int)+(A:Int))=((C*z+A:Nat):Int):=by
 have h:=spot_lt hA hC
 have e2:(C:Int)*(z:Int)+(A:Int)=((C*z+A:Nat):Int):=by rw [Int.natCast_add,Int.natCast_mul]
 rw [e2,<- Int.natCast_mul]
 unfold wrap64
 constructor <;> omega
theorem moves_go {z f:Nat} {dx dy:Int} {q:FS} {x y n j i I J A C:Nat} (hI:I=x+i) (hJ:J=y+j) (hj:j<n) (hi:i<n) (hA:(x:Int)+dx+(i:Int)=(A:Int)) (hC:(y:Int)+dy+(j:Int)=(C:Int)) :
  Flm.moves z f dx dy (Flm.left x y n j i) q=Flm.moves z f dx dy (Flm.left x y n j (i+1)) (Flm.put q (J*z+I) (Flm.px q f (C*z+A))):=by
 subst hI hJ
 rw [Flm.left_cons x y n j i hj hi]
 have e1:(((x+i:Nat):Int)+dx).toNat=A:=by omega
 have e2:(((y+j:Nat):Int)+dy).toNat=C:=by omega
 show Flm.moves z f dx dy (Flm.left x y n j (i+1)) (Flm.put q ((y+j)*z+(x+i)) (Flm.px q f ((((y+j:Nat):Int)+dy).toNat*z+(((x+i:Nat):Int)+dx).toNat)))=_
 rw [e1,e2]
def MovI (w:World) (B p b g lg lc rg z f:Nat) (dx dy:Int) (fbs:List Nat) (s:ByteArray) (fs G:FS) (x y n j i:Nat) (wr:World):Prop :=
 ∃ q:FS,Flm.moves z f dx dy (Flm.left x y n j i) q=Flm.moves z f dx dy (Flm.spots x y n) G/\q.frs.length=fs.frs.length/\ShAt wr B p b g lg lc rg fbs s z q/\Frm (shS p b g rg (fbs.getD (Flm.now fs) 0)) w wr
set_option maxRecDepth 20000 in
theorem sh_copies (w:World) (B p b g lg lc rg z:Nat) (fbs:List Nat) (s:ByteArray) (fs:FS) (h:ShAt w B p b g lg lc rg fbs s z fs) (hs:s.size<=maxLen) (x y n k f:Nat) (hx:x+n<=z) (hy:y+n<=z) (hk:k+46<=400) (hf:f<fs.frs.length) :
  Calls Tryz.prog 154 #[.pointer (some ⟨p,0,none⟩),.int .i64 x,.int .i64 y,.int .i64 n,.int .i64 k,.int .i64 f] w fun e w'=>e=.returned (.tuple #[])/\ShAt w' B p b g lg lc rg fbs s z (Flm.copies s z x y n k f fs)/\Frm (shS p b g rg (fbs.getD (Flm.now fs) 0)) w w':=by
 have hz16:z<=16:=by rcases h.zz with e|e|e <;> omega
 have i0:=h.c0
 obtain ⟨r1,hr1⟩:∃ r1,r1=(Rdr.number s fs.r k).2:=⟨_,rfl⟩
 obtain ⟨r2,hr2⟩:∃ r2,r2=(Rdr.number s r1 (k+24)).2:=⟨_,rfl⟩
 obtain ⟨dx,hdx⟩:∃ dx,dx=Rdr.signed s fs.r k:=⟨_,rfl⟩
 obtain ⟨dy,hdy⟩:∃ dy,dy=Rdr.signed s r1 (k+24):=⟨_,rfl⟩
 have HS1:Hid (Calls Tryz.prog 173 #[.pointer (some ⟨b,0,none⟩),.int .i64 (k:Int)] w fun x w'=>x=.returned (.int .i64 dx)/\RdAt w' B b g s r1/\Rdr.Ok s r1/\-512<=dx/\dx<=511/\Frm (rdS b g) w w'):=by
  rw [hdx,hr1];exact rsigned w B b g s fs.r k h.rd h.ok hs (by omega)
 have HS2:Hid (∀ wx,RdAt wx B b g s r1->Rdr.Ok s r1->Calls Tryz.prog 173 #[.pointer (some ⟨b,0,none⟩),.int .i64 ((k:Int)+24)] wx fun x w'=>x=.returned (.int .i64 dy)/\RdAt w' B b g s r2/\Rdr.Ok s r2/\-512<=dy/\dy<=511/\Frm (rdS b g) wx w'):=fun wx hx ho=>by
  rw [hdy,hr2]
  have:=rsigned wx B b g s r1 (k+24) hx ho hs (by omega)
  rw [show ((k+24:Nat):Int)=(k:Int)+24 by omega] at this
  exact this
 have hpb:Hid (¬ rdS b g p):=fun e=>by rcases e with e|e;exact h.nes.1.1 e;exact h.nes.1.2.1 e
 have H:Hid (ShAt w B p b g lg lc rg fbs s z fs):=h
 have HCP:Hid (Flm.copies s z x y n k f fs=if r2.err=0 then (if (Flm.spots x y n).all (fun p=>Flm.may z fs (f == Flm.now fs) ((p.1:Int)+dx) ((p.2:Int)+dy)) then Flm.moves z f dx dy (Flm.spots x y n) { fs with r:=r2 } else { fs with r:=Rdr.fail r2 9 }) else { fs with r:=r2 }):=by
  unfold Hid Flm.copies
  dsimp only
  rw [<- hr1,<- hr2,<- hdx,<- hdy]
 obtain ⟨E,hE⟩:∃ E,E=r2.err:=⟨_,rfl⟩
 have HE:Hid (E=r2.err):=hE
 have hkb:(k:Int)<=400:=by omega
 clear h hr1 hr2 hdx hdy hE
 by_cases hE0:E=0
 ·subst hE0
  go_enter Tryz.func154,Tryz.ntmps154
  have T1:Hid True:=trivial
  go_upto_block 0 with (first
   | (clear T1;go_at_call 173;refine HS1.out.mono ?_;rintro e w1 ⟨rfl,h1,o1,n0,n1,f1⟩;have j0:=f1.cell i0 hpb.out)
   | (go_at_call 173;refine (HS2.out _ h1 o1).mono ?_;rintro e w2 ⟨rfl,h2,o2,n2,n3,f2⟩;have k0:=f2.cell j0 hpb.out;have k5:=h2.c5;rw [<- HE.out] at k5;have k2:=(H.out.reader h2 o2 (f1.trans f2)).c2))
  have st2:ShAt w2 B p b g lg lc rg fbs s z { fs with r:=r2 }:=H.out.reader h2 o2 (f1.trans f2)
  have ST:Hid (ShAt w2 B p b g lg lc rg fbs s z { fs with r:=r2 }):=st2
  have FR:Hid (Frm (rdS b g) w w2):=f1.trans f2
  have hz2:=st2.zz
  obtain ⟨ow,how⟩:∃ ow,ow=(f == Flm.now fs):=⟨_,rfl⟩
  have hsl:((f:Int) == wrap64 (((fs.frs.length:Nat):Int)-1))=ow:=by
   have hn2:=H.out.n2
   have e1:wrap64 (((fs.frs.length:Nat):Int)-1)=((Flm.now fs:Nat):Int):=by unfold wrap64 Flm.now;omega
   rw [e1,how]
   by_cases hq:f=Flm.now fs
   ·rw [hq,beq_self_eq_true,beq_self_eq_true]
   ·have hi:¬ ((f:Int)=((Flm.now fs:Nat):Int)):=by omega
    rw [beq_eq_false_iff_ne.2 hq,beq_eq_false_iff_ne.2 hi]
  rw [hsl]
  have HOW:Hid (ow=(f == Flm.now fs)):=how
  clear hsl how st2 h1 o1 f1 h2 o2 f2 j0 k0 k5 k2 HS1 HS2
  have ALL:Hid ((Flm.left x y n 0 0).all (fun q=>Flm.may z fs ow ((q.1:Int)+dx) ((q.2:Int)+dy))=(Flm.spots x y n).all (fun q=>Flm.may z fs ow ((q.1:Int)+dx) ((q.2:Int)+dy))):=by rw [Flm.left_zero];exact rfl
  go_cut [] (fun wd=>(∃ m,wd=w2.drewN m)/\(Flm.spots x y n).all (fun q=>Flm.may z fs ow ((q.1:Int)+dx) ((q.2:Int)+dy))=true)
  case first =>
   go_wp2_with fail
   go_loopw [15] (fun jv wr=>∃ j m:Nat,j<=n/\jv=.int .i64 ((y:Int)+dy+(j:Int))/\wr=w2.drewN m/\(Flm.left x y n j 0).all (fun q=>Flm.may z fs ow ((q.1:Int)+dx) ((q.2:Int)+dy))=(Flm.spots x y n).all (fun q=>Flm.may z fs ow ((q.1:Int)+dx) ((q.2:Int)+dy))) (fun jv _=>((y:Int)+dy+(n:Int)-intOf jv).toNat)
   case atStart=>exact ⟨0,0,by omega,by go_num,rfl,ALL.out⟩
   case round =>
    clear ALL
    obtain ⟨j,m,hj,rfl,hwr,hall⟩:=hrel
    by_cases hlt:j<n
    ·obtain ⟨c,hc⟩:∃ c:Int,c=(y:Int)+dy+(j:Int):=⟨_,rfl⟩
     have hlt':c<(y:Int)+dy+(n:Int):=by omega
     have HALL:Hid ((Flm.left x y n j 0).all (fun q=>Flm.may z fs ow ((q.1:Int)+dx) ((q.2:Int)+dy))=(Flm.spots x y n).all (fun q=>Flm.may z fs ow ((q.1:Int)+dx) ((q.2:Int)+dy))):=hall
     have HWR:Hid (wr=w2.drewN m):=hwr
     have HC:Hid (c=(y:Int)+dy+(j:Int)):=hc
     have c0:-600<=c:=by omega
     have c1:c<=600:=by omega
     rw [<- hc]
     clear hall hwr hc
     go_wp2_with fail
     go_loopw [16] (fun iv wr=>∃ i m:Nat,i<=n/\iv=.int .i64 ((x:Int)+dx+(i:Int))/\wr=w2.drewN m/\(Flm.left x y n j i).all (fun q=>Flm.may z fs ow ((q.1:Int)+dx) ((q.2:Int)+dy))=(Flm.spots x y n).all (fun q=>Flm.may z fs ow ((q.1:Int)+dx) ((q.2:Int)+dy))) (fun iv _=>((x:Int)+dx+(n:Int)-intOf iv).toNat)
     case atStart=>exact ⟨0,m,by omega,by go_num,HWR.out,HALL.out⟩
     case round =>
      clear HALL HWR
      obtain ⟨i,m',hi,rfl,hwr,hall⟩:=hrel
      obtain ⟨wi,rfl⟩:∃ wi,wi=wr:=⟨_,rfl⟩
      by_cases hlt2:i<n
      ·obtain ⟨a,ha⟩:∃ a:Int,a=(x:Int)+dx+(i:Int):=⟨_,rfl⟩
       have hlt2':a<(x:Int)+dx+(n:Int):=by omega
       have HA:Hid (a=(x:Int)+dx+(i:Int)):=ha
       have a0:-600<=a:=by omega
       have a1:a<=600:=by omega
       have st:=(ST.out.below (below_drewN (Below.refl _ w2) m'))
       rw [<- hwr] at st
       have q0:=st.c0
       have q1:=st.c1
       have q3:=st.c3
       rw [<- ha]
       have SW:Hid (ShAt wi B p b g lg lc rg fbs s z { fs with r:=r2 }):=st
       have HWR:Hid (wi=w2.drewN m'):=hwr
       have hstep:(Flm.left x y n j i).all (fun q=>Flm.may z fs ow ((q.1:Int)+dx) ((q.2:Int)+dy))=(Flm.may z fs ow a c && (Flm.left x y n j (i+1)).all (fun q=>Flm.may z fs ow ((q.1:Int)+dx) ((q.2:Int)+dy))):=by
        rw [Flm.all_left hlt hlt2]
        dsimp only
        rw [show ((x+i:Nat):Int)+dx=a by omega,show ((y+j:Nat):Int)+dy=c by have:=HC.out;omega]
       rw [hstep] at hall
       have HALL:Hid ((Flm.may z fs ow a c && (Flm.left x y n j (i+1)).all (fun q=>Flm.may z fs ow ((q.1:Int)+dx) ((q.2:Int)+dy)))=(Flm.spots x y n).all (fun q=>Flm.may z fs ow ((q.1:Int)+dx) ((q.2:Int)+dy))):=hall
       have FIN:Hid (Flm.may z fs ow a c=false->∀ (nq:Nat) (w3:World),RdAt w3 B b g s (Rdr.fail r2 9)->Frm (rdS b g) (wi.drewN nq) w3->ShAt w3 B p b g lg lc rg fbs s z (Flm.copies s z x y n k f fs)/\Frm (shS p b g rg (fbs.getD (Flm.now fs) 0)) w w3):=fun hm nq w3 h3 f3=>by
        rw [HCP.out,if_pos HE.out.symm,<- HOW.out,<- HALL.out,hm,Bool.false_and,if_neg (by decide)]
        have hd:Frm (rdS b g) w (wi.drewN nq):=by rw [HWR.out];exact (FR.out.drewN m').drewN nq
        exact ⟨(SW.out.below (below_drewN (Below.refl _ wi) nq)).reader h3 (SW.out.ok.fail (by decide)) f3,shS_rd (hd.trans f3)⟩
       clear hall hwr hstep ha st
       by_cases ha0:a<0
       ·have HM:Hid (Flm.may z fs ow a c=false):=by unfold Hid Flm.may;rw [decide_eq_false (show ¬ 0<=a by omega)];rfl
        go_wp2_with fail
        go_quiet (fail)
        have r0:=(SW.out.below (below_drewN (Below.refl _ wi) nq))
        have y0:=r0.c0
        go_wp2_with (go_at_call 128;refine (rfail _ B b g s _ 9 r0.rd).mono ?_;rintro e w3 ⟨rfl,h3,f3⟩)
        go_returns
        exact ⟨rfl,FIN.out HM.out nq w3 h3 f3⟩
       by_cases hc0:c<0
       ·have ha0':decide (a<0)=false:=decide_eq_false ha0
        have HM:Hid (Flm.may z fs ow a c=false):=by unfold Hid Flm.may;rw [decide_eq_false (show ¬ 0<=c by omega)];simp
        go_wp2_with fail
        go_quiet (fail)
        have r0:=(SW.out.below (below_drewN (Below.refl _ wi) nq))
        have y0:=r0.c0
        go_wp2_with (go_at_call 128;refine (rfail _ B b g s _ 9 r0.rd).mono ?_;rintro e w3 ⟨rfl,h3,f3⟩)
        go_returns
        exact ⟨rfl,FIN.out HM.out nq w3 h3 f3⟩
       by_cases haz:(z:Int)<=a
       ·have ha0':decide (a<0)=false:=decide_eq_false ha0
        have hc0':decide (c<0)=false:=decide_eq_false hc0
        have HM:Hid (Flm.may z fs ow a c=false):=by unfold Hid Flm.may;rw [decide_eq_false (show ¬ a<(z:Int) by omega)];simp
        go_wp2_with fail
        go_quiet (fail)
        have r0:=(SW.out.below (below_drewN (Below.refl _ wi) nq))
        have y0:=r0.c0
        go_wp2_with (go_at_call 128;refine (rfail _ B b g s _ 9 r0.rd).mono ?_;rintro e w3 ⟨rfl,h3,f3⟩)
        go_returns
        exact ⟨rfl,FIN.out HM.out nq w3 h3 f3⟩
       by_cases hcz:(z:Int)<=c
       ·have ha0':decide (a<0)=false:=decide_eq_false ha0
        have hc0':decide (c<0)=false:=decide_eq_false hc0
        have haz':decide ((z:Int)<=a)=false:=decide_eq_false haz
        have HM:Hid (Flm.may z fs ow a c=false):=by unfold Hid Flm.may;rw [decide_eq_false (show ¬ c<(z:Int) by omega)];simp
        go_wp2_with fail
        go_quiet (fail)
        have r0:=(SW.out.below (below_drewN (Below.refl _ wi) nq))
        have y0:=r0.c0
        go_wp2_with (go_at_call 128;refine (rfail _ B b g s _ 9 r0.rd).mono ?_;rintro e w3 ⟨rfl,h3,f3⟩)
        go_returns
        exact ⟨rfl,FIN.out HM.out nq w3 h3 f3⟩
       have ha0':decide (a<0)=false:=decide_eq_false ha0
       have hc0':decide (c<0)=false:=decide_eq_false hc0
       have haz':decide ((z:Int)<=a)=false:=decide_eq_false haz
       have hcz':decide ((z:Int)<=c)=false:=decide_eq_false hcz
       obtain ⟨T,hTZ,rc,w1,w2',hmay⟩:∃ T:Nat,(T:Int)<((z*z:Nat):Int)/\wi.cell? ⟨rg,T,none⟩=some (.bool (fs.rd.getD T false))/\wrap64 (c*(z:Int))=c*(z:Int)/\wrap64 (c*(z:Int)+a)=(T:Int)/\Flm.may z fs ow a c=(!ow || fs.rd.getD T false):=by
        obtain ⟨A,hA⟩:=Int.eq_ofNat_of_zero_le (Int.not_lt.1 ha0)
        obtain ⟨C,hC⟩:=Int.eq_ofNat_of_zero_le (Int.not_lt.1 hc0)
        have hAz:A<z:=by omega
        have hCz:C<z:=by omega
        obtain ⟨w1,w2'⟩:=wrap_spot ST.out.zzle hAz hCz
        refine ⟨C*z+A,Int.ofNat_lt.2 (spot_lt hAz hCz),SW.out.read.cell (C*z+A) (spot_lt hAz hCz),?_,?_,?_⟩
        ·rw [hC];exact w1
        ·rw [hA,hC];exact w2'
        ·rw [hA,hC];exact Flm.may_in hAz hCz
       obtain ⟨Z,hZ⟩:∃ Z,Z=z*z:=⟨_,rfl⟩
       rw [<- hZ] at hTZ q3
       obtain ⟨rv,hrv⟩:∃ rv,rv=fs.rd.getD T false:=⟨_,rfl⟩
       rw [<- hrv] at rc hmay
       clear hrv hZ ha0 hc0 haz hcz
       have go:Hid (Flm.may z fs ow a c=true->∀ m3:Nat,∃ i' m:Nat,i'<=n/\Value.int .i64 (a+1)=.int .i64 ((x:Int)+dx+(i':Int))/\wi.drewN m3=w2.drewN m/\(Flm.left x y n j i').all (fun q=>Flm.may z fs ow ((q.1:Int)+dx) ((q.2:Int)+dy))=(Flm.spots x y n).all (fun q=>Flm.may z fs ow ((q.1:Int)+dx) ((q.2:Int)+dy))):=fun hm m3=>by
        refine ⟨i+1,m'+m3,by omega,?_,by rw [HWR.out,World.drewN_drewN],?_⟩
        ·have:=HA.out;rw [show (a+1)=(x:Int)+dx+((i+1:Nat):Int) by omega]
        ·rw [<- HALL.out,hm,Bool.true_and]
       cases ow with
       | false =>
        have HM:Hid (Flm.may z fs false a c=true):=by unfold Hid;rw [hmay];rfl
        clear hmay
        go_wp2_with fail
        go_quiet (fail)
        go_wp2_with fail
        refine ⟨go.out HM.out nq,?_⟩
        have:=HA.out
        simp [intOf];omega
       | true =>
        cases rv with
        | true =>
         have HM:Hid (Flm.may z fs true a c=true):=by unfold Hid;rw [hmay];rfl
         clear hmay
         go_wp2_with fail
         go_quiet (fail)
         go_wp2_with fail
         refine ⟨go.out HM.out nq,?_⟩
         have:=HA.out
         simp [intOf];omega
        | false =>
         have HM:Hid (Flm.may z fs true a c=false):=by unfold Hid;rw [hmay];rfl
         clear hmay
         go_wp2_with fail
         go_quiet (fail)
         have r0:=(SW.out.below (below_drewN (Below.refl _ wi) nq))
         have y0:=r0.c0
         go_wp2_with (go_at_call 128;refine (rfail _ B b g s _ 9 r0.rd).mono ?_;rintro e w3 ⟨rfl,h3,f3⟩)
         go_returns
         exact ⟨rfl,FIN.out HM.out nq w3 h3 f3⟩
      ·have hlt2':¬ ((x:Int)+dx+(i:Int)<(x:Int)+dx+(n:Int)):=by omega
       obtain rfl:i=n:=by omega
       have HALL:Hid ((Flm.left x y i (j+1) 0).all (fun q=>Flm.may z fs ow ((q.1:Int)+dx) ((q.2:Int)+dy))=(Flm.spots x y i).all (fun q=>Flm.may z fs ow ((q.1:Int)+dx) ((q.2:Int)+dy))):=by unfold Hid;rw [<- hall,Flm.left_row]
       have HWR:Hid (wi=w2.drewN m'):=hwr
       clear hall hwr
       go_wp2_with fail
       have hce:=HC.out
       refine ⟨⟨j+1,m',by omega,?_,HWR.out,HALL.out⟩,?_⟩
       ·rw [show c+1=(y:Int)+dy+((j+1:Nat):Int) by omega]
       ·simp [intOf];omega
    ·have hlt':¬ ((y:Int)+dy+(j:Int)<(y:Int)+dy+(n:Int)):=by omega
     obtain rfl:j=n:=by omega
     have HALL:Hid ((Flm.spots x y j).all (fun q=>Flm.may z fs ow ((q.1:Int)+dx) ((q.2:Int)+dy))=true):=by unfold Hid;rw [<- hall,Flm.left_end];rfl
     have HWR:Hid (wr=w2.drewN m):=hwr
     clear hall hwr
     go_wp2_with fail
     go_meet
     exact ⟨⟨m,HWR.out⟩,HALL.out⟩
  case rest =>
   obtain ⟨⟨m,hwc⟩,hall⟩:=hcut
   have st:=ST.out.below (below_drewN (Below.refl _ w2) m)
   rw [<- hwc] at st
   obtain ⟨G,hG⟩:∃ G:FS,G={ fs with r:=r2 }:=⟨_,rfl⟩
   have HCPG:Hid (Flm.copies s z x y n k f fs=Flm.moves z f dx dy (Flm.spots x y n) G):=by
    unfold Hid
    rw [HCP.out,if_pos HE.out.symm,<- HOW.out,hall,if_pos rfl,hG]
   have INR:Hid (∀ i j,i<n->j<n->∃ A C:Nat,(x:Int)+dx+(i:Int)=(A:Int)/\(y:Int)+dy+(j:Int)=(C:Int)/\A<z/\C<z):=fun i j hi hj=>by
    have:=List.all_eq_true.1 hall (x+i,y+j) (Flm.mem_spots.2 ⟨j,i,hj,hi,rfl⟩)
    obtain ⟨⟨b0,b1,b2,b3⟩,_⟩:=Flm.may_iff.1 this
    dsimp only at b0 b1 b2 b3
    exact ⟨((x:Int)+dx+i).toNat,((y:Int)+dy+j).toNat,by omega,by omega,by omega,by omega⟩
   have hfd:Frm (shS p b g rg (fbs.getD (Flm.now fs) 0)) w wc:=by rw [hwc];exact (shS_rd FR.out).drewN m
   have HI0:Hid (MovI w B p b g lg lc rg z f dx dy fbs s fs G x y n 0 0 wc):=⟨G,by rw [Flm.left_zero],by rw [hG],by rw [hG];exact st,hfd⟩
   clear hall hwc st hG hfd HCP FR ST H HOW HE
   go_wp2_with fail
   go_loopw [17] (fun jv wr=>∃ j:Nat,j<=n/\jv=.int .i64 (j:Int)/\MovI w B p b g lg lc rg z f dx dy fbs s fs G x y n j 0 wr) (fun jv _=>n-(intOf jv).toNat)
   case atStart=>exact ⟨0,by omega,rfl,HI0.out⟩
   case round =>
    clear HI0
    obtain ⟨j,hj,rfl,hI⟩:=hrel
    by_cases hlt:j<n
    ·have hlt':(j:Int)<(n:Int):=by omega
     have HI:Hid (MovI w B p b g lg lc rg z f dx dy fbs s fs G x y n j 0 wr):=hI
     clear hI
     go_wp2_with fail
     go_loopw [18] (fun iv wr=>∃ i:Nat,i<=n/\iv=.int .i64 (i:Int)/\MovI w B p b g lg lc rg z f dx dy fbs s fs G x y n j i wr) (fun iv _=>n-(intOf iv).toNat)
     case atStart=>exact ⟨0,by omega,rfl,HI.out⟩
     case round =>
      clear HI
      obtain ⟨i,hi,rfl,hI⟩:=hrel
      obtain ⟨wi,rfl⟩:∃ wi,wi=wr:=⟨_,rfl⟩
      by_cases hlt2:i<n
      ·have hlt2':(i:Int)<(n:Int):=by omega
       obtain ⟨q,hq1,hq2,hq3,hq4⟩:=hI
       obtain ⟨A,C,hA,hC,hAz,hCz⟩:=INR.out i j hlt2 hlt
       obtain ⟨I,hI0⟩:∃ I,I=x+i:=⟨_,rfl⟩
       obtain ⟨J,hJ0⟩:∃ J,J=y+j:=⟨_,rfl⟩
       have hxI:(x:Int)+(i:Int)=(I:Int):=by omega
       have hyJ:(y:Int)+(j:Int)=(J:Int):=by omega
       have hxd:wrap64 ((x:Int)+dx)=(x:Int)+dx:=by unfold wrap64;omega
       have hyd:wrap64 ((y:Int)+dy)=(y:Int)+dy:=by unfold wrap64;omega
       have hIz:I<z:=by omega
       have hJz:J<z:=by omega
       have hn:Flm.now q=Flm.now fs:=by unfold Flm.now;rw [hq2]
       obtain ⟨v,hv⟩:∃ v,v=Flm.px q f (C*z+A):=⟨_,rfl⟩
       have HAT:Hid (Calls Tryz.prog 177 #[.pointer (some ⟨p,0,none⟩),.int .i64 (f:Int),.int .i64 (A:Int),.int .i64 (C:Int)] wi fun e w'=>e=.returned (.agg #[.int .u8 v.1,.int .u8 v.2.1,.int .u8 v.2.2])/\Below wi.heap.size wi w'):=by rw [hv];exact sh_at hq3 f A C (by omega) hAz hCz
       have HOP:Hid (Flm.okPx v):=by rw [hv];exact hq3.px _ _
       have HQ1:Hid (Flm.moves z f dx dy (Flm.left x y n j (i+1)) (Flm.put q (J*z+I) v)=Flm.moves z f dx dy (Flm.spots x y n) G):=by unfold Hid;rw [<- hq1,moves_go hI0 hJ0 hlt hlt2 hA hC,hv]
       have HQ3:Hid (ShAt wi B p b g lg lc rg fbs s z q):=hq3
       have HQ4:Hid (Frm (shS p b g rg (fbs.getD (Flm.now fs) 0)) w wi):=hq4
       have HN:Hid (Flm.now q=Flm.now fs/\q.frs.length=fs.frs.length):=⟨hn,hq2⟩
       clear hq1 hq2 hq3 hq4 hv hI0 hJ0 hn
       go_wp2_with (first
        | (rw [<- HW5.out,<- HO5.out])
        | (go_at_call 177;refine HAT.out.mono ?_;rintro e w1 ⟨rfl,b1⟩;obtain ⟨W5,hW5⟩:∃ W,W=w1.alloc (.cells #[.int .u8 v.1,.int .u8 v.2.1,.int .u8 v.2.2] 50):=⟨_,rfl⟩;obtain ⟨O5,hO5⟩:∃ O,O=w1.heap.size:=⟨_,rfl⟩;have b5:Below wi.heap.size wi W5:=(by rw [hW5];exact b1.alloc b1.size _);have hh5:W5.heap[O5]?=some (.cells #[.int .u8 v.1,.int .u8 v.2.1,.int .u8 v.2.2] 50 (0,0)):=(by rw [hW5,hO5];show (w1.heap.push _)[w1.heap.size]?=_;simp);have s0:=cell_of_row W5 O5 0 _ _ _ hh5;have s1:=cell_of_row W5 O5 1 _ _ _ hh5;have s2:=cell_of_row W5 O5 2 _ _ _ hh5;simp at s0 s1 s2;have HW5:Hid (W5=w1.alloc (.cells #[.int .u8 v.1,.int .u8 v.2.1,.int .u8 v.2.2] 50)):=hW5;have HO5:Hid (O5=w1.heap.size):=hO5;have B5:Hid (Below wi.heap.size wi W5):=b5;clear hW5 hO5 b1 b5 hh5)
        | (go_at_call 175;refine (sh_put (HQ3.out.below B5.out) I J v hIz hJz HOP.out).mono ?_;rintro e w6 ⟨rfl,st6,f6⟩))
       rw [HN.out.1] at f6
       refine ⟨⟨i+1,by omega,by go_num,Flm.put q (J*z+I) v,HQ1.out,?_,st6,?_⟩,?_⟩
       ·rw [Flm.put_len];exact HN.out.2
       ·exact (HQ4.out.trans (Frm.of_below B5.out)).trans (f6.mono (fun _ _ e=>.inr (.inr (.inr (.inr e)))))
       ·simp [intOf];omega
      ·have hlt2':¬ ((i:Int)<(n:Int)):=by omega
       obtain rfl:i=n:=by omega
       have HI2:Hid (MovI w B p b g lg lc rg z f dx dy fbs s fs G x y i j i wi):=hI
       clear hI
       go_wp2_with fail
       obtain ⟨q,hq1,hq2,hq3,hq4⟩:=HI2.out
       refine ⟨⟨j+1,by omega,by go_num,q,by rw [<- hq1,Flm.left_row],hq2,hq3,hq4⟩,?_⟩
       simp [intOf];omega
    ·have hlt':¬ ((j:Int)<(n:Int)):=by omega
     obtain rfl:j=n:=by omega
     have HI2:Hid (MovI w B p b g lg lc rg z f dx dy fbs s fs G x y j j 0 wr):=hI
     clear hI
     go_wp2_with fail
     go_end0
     obtain ⟨q,hq1,hq2,hq3,hq4⟩:=HI2.out
     rw [Flm.left_end] at hq1
     have hq1':q=Flm.moves z f dx dy (Flm.spots x y j) G:=hq1
     rw [HCPG.out,<- hq1']
     exact ⟨rfl,hq3,hq4⟩
 ·have hE':(E == 0)=false:=by simpa using hE0
  have HEN:Hid (E ≠ 0):=hE0
  have T1:Hid True:=trivial
  clear hE0
  go_enter Tryz.func154,Tryz.ntmps154
  go_wp2_with (first
   | (clear T1;go_at_call 173;refine HS1.out.mono ?_;rintro e w1 ⟨rfl,h1,o1,n0,n1,f1⟩;have j0:=f1.cell i0 hpb.out)
   | (go_at_call 173;refine (HS2.out _ h1 o1).mono ?_;rintro e w2 ⟨rfl,h2,o2,n2,n3,f2⟩;have k0:=f2.cell j0 hpb.out;have k5:=h2.c5;rw [<- HE.out] at k5))
  go_returns
  rw [HCP.out,if_neg (by rw [<- HE.out];exact HEN.out)]
  exact ⟨rfl,H.out.reader h2 o2 (f1.trans f2),shS_rd (f1.trans f2)⟩
end
section
open Go.RowKit
open Flm (Px FS)
namespace Flm
theorem seen_frs {z:Nat}:∀ (ps:List (Nat × Nat)) (fs:FS),(seen z ps fs).frs=fs.frs
 | [],_=>rfl
 | (_,_) :: ps,_=>seen_frs ps _
end Flm
theorem seen_go {z:Nat} {q:FS} {x y n j i I J:Nat} (hI:I=x+i) (hJ:J=y+j) (hj:j<n) (hi:i<n):Flm.seen z (Flm.left x y n j i) q=Flm.seen z (Flm.left x y n j (i+1)) { q with rd:=q.rd.set (J*z+I) true }:=by
 subst hI hJ
 rw [Flm.left_cons x y n j i hj hi]
 rfl
def SeenI (w:World) (B p b g lg lc rg z fb:Nat) (fbs:List Nat) (s:ByteArray) (G:FS) (x y n j i:Nat) (wr:World):Prop :=
 ∃ q:FS,Flm.seen z (Flm.left x y n j i) q=Flm.seen z (Flm.spots x y n) G/\ShAt wr B p b g lg lc rg fbs s z q/\Frm (shS p b g rg fb) w wr
set_option maxRecDepth 20000 in
theorem sh_block0 (w:World) (B p b g lg lc rg z:Nat) (fbs:List Nat) (s:ByteArray) (fs:FS) (h:ShAt w B p b g lg lc rg fbs s z fs) (hs:s.size<=maxLen) (x y n:Nat) (hx:x+n<=z) (hy:y+n<=z) (hka:Rdr.bitV fs.r 2=0) (hkb:Rdr.bitV (Rdr.bitS s fs.r 2) (3+0)=0) (he:(Rdr.bitS s (Rdr.bitS s fs.r 2) (3+0)).err=0) :
  Calls Tryz.prog 130 #[.pointer (some ⟨p,0,none⟩),.int .i64 x,.int .i64 y,.int .i64 n] w fun e w'=>e=.returned (.tuple #[])/\ShAt w' B p b g lg lc rg fbs s z (Flm.block s z x y n fs)/\Frm (shS p b g rg (fbs.getD (Flm.now fs) 0)) w w':=by
 have hz16:z<=16:=by rcases h.zz with e|e|e <;> omega
 have i0:=h.c0
 obtain ⟨r1,hr1⟩:∃ r1,r1=Rdr.bitS s fs.r 2:=⟨_,rfl⟩
 have HA:Hid (Calls Tryz.prog 101 #[.pointer (some ⟨b,0,none⟩),.int .i64 2] w fun x w'=>x=.returned (.int .i64 0)/\RdAt w' B b g s r1/\Frm (rdS b g) w w'):=by
  have:=rbit w B b g s fs.r 2 h.rd h.ok hs (by decide)
  rw [hka,<- hr1] at this
  exact this
 have ok1:Rdr.Ok s r1:=by rw [hr1];exact h.ok.bitS (by decide)
 obtain ⟨r2,hr2⟩:∃ r2,r2=Rdr.bitS s r1 (3+0):=⟨_,rfl⟩
 rw [<- hr1] at hkb he
 rw [<- hr2] at he
 have HB:Hid (∀ wx,RdAt wx B b g s r1->Calls Tryz.prog 101 #[.pointer (some ⟨b,0,none⟩),.int .i64 3] wx fun x w'=>x=.returned (.int .i64 0)/\RdAt w' B b g s r2/\Frm (rdS b g) wx w'):=fun wx hx=>by
  have:=rbit wx B b g s r1 (3+0) hx ok1 hs (by decide)
  rw [hkb,<- hr2] at this
  exact this
 have HOK2:Hid (Rdr.Ok s r2):=by rw [hr2];exact ok1.bitS (by decide)
 have HBL:Hid (Flm.block s z x y n fs=Flm.seen z (Flm.spots x y n) (Flm.soft s z (Flm.spots x y n) { fs with r:=r2 })):=by
  unfold Hid Flm.block
  dsimp only
  rw [<- hr1,hka]
  rw [show (3+(0:Int).toNat)=3+0 from rfl,<- hr2,hkb]
  rw [if_pos he,if_pos rfl,if_pos rfl]
 have hpb:Hid (¬ rdS b g p):=fun e=>by rcases e with e|e;exact h.nes.1.1 e;exact h.nes.1.2.1 e
 have H:Hid (ShAt w B p b g lg lc rg fbs s z fs):=h
 have hn2:=h.n2
 have hw64:wrap64 (((fs.frs.length:Nat):Int)-1)=((Flm.now fs:Nat):Int):=by unfold wrap64 Flm.now;omega
 have hnl:Flm.now fs<fs.frs.length:=by unfold Flm.now;omega
 have T1:Hid True:=trivial
 have HE:Hid (r2.err=0):=he
 have he':(r2.err == 0)=true:=by simpa using he
 clear h hr1 hr2 ok1 hka hkb he
 go_enter Tryz.func130,Tryz.ntmps130
 go_upto_block 1 with (first
  | (clear T1;go_at_call 101;refine HA.out.mono ?_;rintro e w1 ⟨rfl,h1,f1⟩;have j0:=f1.cell i0 hpb.out)
  | (go_at_call 101;refine (HB.out _ h1).mono ?_;rintro e w2 ⟨rfl,h2,f2⟩;have k0:=f2.cell j0 hpb.out;have k5:=h2.c5;have st2:ShAt w2 B p b g lg lc rg fbs s z { fs with r:=r2 }:=H.out.reader h2 HOK2.out (f1.trans f2);have k2:=st2.c2;have ST2:Hid (ShAt w2 B p b g lg lc rg fbs s z { fs with r:=r2 }):=st2;have FR2:Hid (Frm (rdS b g) w w2):=f1.trans f2;clear st2 f1 f2 h2 h1)
  | (go_at_call 152;refine (sh_soft _ B p b g lg lc rg z fbs s _ ST2.out hs x y n hx hy HE.out).mono ?_;rintro e w3 ⟨rfl,st3,f3⟩))
 obtain ⟨G,hG⟩:∃ G:FS,G=Flm.soft s z (Flm.spots x y n) { fs with r:=r2 }:=⟨_,rfl⟩
 have HI0:Hid (SeenI w B p b g lg lc rg z (fbs.getD (Flm.now fs) 0) fbs s G x y n 0 0 w3):=⟨G,by rw [Flm.left_zero],by rw [hG];exact st3,(shS_rd FR2.out).trans (f3)⟩
 have HBLG:Hid (Flm.block s z x y n fs=Flm.seen z (Flm.spots x y n) G):=by rw [hG];exact HBL.out
 clear st3 f3 hG ST2 FR2 HBL H HA HB k0 k2 k5 i0 j0
 go_wp2_with fail
 go_loopw [11] (fun jv wr=>∃ j:Nat,j<=n/\jv=.int .i64 ((y+j:Nat):Int)/\SeenI w B p b g lg lc rg z (fbs.getD (Flm.now fs) 0) fbs s G x y n j 0 wr) (fun jv _=>y+n-(intOf jv).toNat)
 case atStart=>exact ⟨0,by omega,rfl,HI0.out⟩
 case round =>
  clear HI0
  obtain ⟨j,hj,rfl,hI⟩:=hrel
  obtain ⟨J,hJ⟩:∃ J,J=y+j:=⟨_,rfl⟩
  rw [<- hJ]
  by_cases hlt:j<n
  ·have hlt':(J:Int)<(y:Int)+(n:Int):=by omega
   have hJz:J<z:=by omega
   have HI:Hid (SeenI w B p b g lg lc rg z (fbs.getD (Flm.now fs) 0) fbs s G x y n j 0 wr):=hI
   have HJ:Hid (J=y+j):=hJ
   clear hI hJ
   go_wp2_with fail
   go_loopw [12] (fun iv wr=>∃ i:Nat,i<=n/\iv=.int .i64 ((x+i:Nat):Int)/\SeenI w B p b g lg lc rg z (fbs.getD (Flm.now fs) 0) fbs s G x y n j i wr) (fun iv _=>x+n-(intOf iv).toNat)
   case atStart=>exact ⟨0,by omega,rfl,HI.out⟩
   case round =>
    clear HI
    obtain ⟨i,hi,rfl,hI⟩:=hrel
    obtain ⟨wi,rfl⟩:∃ wi,wi=wr:=⟨_,rfl⟩
    obtain ⟨I,hI0⟩:∃ I,I=x+i:=⟨_,rfl⟩
    rw [<- hI0]
    by_cases hlt2:i<n
    ·have hlt2':(I:Int)<(x:Int)+(n:Int):=by omega
     have hIz:I<z:=by omega
     obtain ⟨q,hq1,hq2,hq3⟩:=hI
     obtain ⟨w1',w2'⟩:=wrap_spot hq2.zzle hIz hJz
     have HT:Hid (Flm.seen z (Flm.left x y n j (i+1)) { q with rd:=q.rd.set (J*z+I) true }=Flm.seen z (Flm.spots x y n) G):=by unfold Hid;rw [<- hq1,seen_go hI0 HJ.out hlt hlt2]
     obtain ⟨T,hT⟩:∃ T,T=J*z+I:=⟨_,rfl⟩
     have hTZ:(T:Int)<((z*z:Nat):Int):=by rw [hT];exact Int.ofNat_lt.2 (spot_lt hIz hJz)
     have rc:=hq2.read.cell T (by rw [hT];exact spot_lt hIz hJz)
     have rf:=hq2.read.frozen T
     have q1:=hq2.c1
     have q3:=hq2.c3
     rw [<- hT] at w2' HT
     obtain ⟨Z,hZ⟩:∃ Z,Z=z*z:=⟨_,rfl⟩
     rw [<- hZ] at hTZ q3
     obtain ⟨rv,hrv⟩:∃ rv,rv=q.rd.getD T false:=⟨_,rfl⟩
     rw [<- hrv] at rc
     have HQ2:Hid (ShAt wi B p b g lg lc rg fbs s z q):=hq2
     have HQ3:Hid (Frm (shS p b g rg (fbs.getD (Flm.now fs) 0)) w wi):=hq3
     have HI0:Hid (I=x+i):=hI0
     clear hq1 hq2 hq3 hT hZ hrv hI0
     go_wp2_with fail
     go_region
     go_wp2_with fail
     have hI0:=HI0.out
     refine ⟨⟨i+1,by omega,?_,{ q with rd:=q.rd.set T true },HT.out,?_,?_⟩,?_⟩
     ·rw [show ((x+(i+1):Nat):Int)=(I:Int)+1 by omega]
     ·exact (HQ2.out.see T).below (below_drewN (Below.refl _ _) 1)
     ·exact (Frm.setCell (p:=⟨rg,T,none⟩) HQ3.out (.inl (.inr (.inr (.inr (.inl rfl))))) _).drew
     ·simp [intOf];omega
    ·have hlt2':¬ ((I:Int)<(x:Int)+(n:Int)):=by omega
     obtain rfl:i=n:=by omega
     have HI2:Hid (SeenI w B p b g lg lc rg z (fbs.getD (Flm.now fs) 0) fbs s G x y i j i wi):=hI
     clear hI hI0
     go_wp2_with fail
     have hJe:=HJ.out
     obtain ⟨q,hq1,hq2,hq3⟩:=HI2.out
     refine ⟨⟨j+1,by omega,?_,q,by rw [<- hq1,Flm.left_row],hq2,hq3⟩,?_⟩
     ·rw [show ((y+(j+1):Nat):Int)=(J:Int)+1 by omega]
     ·simp [intOf];omega
  ·have hlt':¬ ((J:Int)<(y:Int)+(n:Int)):=by omega
   obtain rfl:j=n:=by omega
   have HI2:Hid (SeenI w B p b g lg lc rg z (fbs.getD (Flm.now fs) 0) fbs s G x y j j 0 wr):=hI
   clear hI hJ
   go_wp2_with fail
   go_end0
   obtain ⟨q,hq1,hq2,hq3⟩:=HI2.out
   rw [Flm.left_end] at hq1
   have hq1':q=Flm.seen z (Flm.spots x y j) G:=hq1
   rw [HBLG.out,<- hq1']
   exact ⟨rfl,hq2,hq3⟩
set_option maxRecDepth 20000 in
theorem sh_block1 (w:World) (B p b g lg lc rg z:Nat) (fbs:List Nat) (s:ByteArray) (fs:FS) (h:ShAt w B p b g lg lc rg fbs s z fs) (hs:s.size<=maxLen) (x y n:Nat) (hx:x+n<=z) (hy:y+n<=z) (hka:Rdr.bitV fs.r 2=0) (hkb:Rdr.bitV (Rdr.bitS s fs.r 2) (3+0)=1) (he:(Rdr.bitS s (Rdr.bitS s fs.r 2) (3+0)).err=0) :
  Calls Tryz.prog 130 #[.pointer (some ⟨p,0,none⟩),.int .i64 x,.int .i64 y,.int .i64 n] w fun e w'=>e=.returned (.tuple #[])/\ShAt w' B p b g lg lc rg fbs s z (Flm.block s z x y n fs)/\Frm (shS p b g rg (fbs.getD (Flm.now fs) 0)) w w':=by
 have hz16:z<=16:=by rcases h.zz with e|e|e <;> omega
 have i0:=h.c0
 obtain ⟨r1,hr1⟩:∃ r1,r1=Rdr.bitS s fs.r 2:=⟨_,rfl⟩
 have HA:Hid (Calls Tryz.prog 101 #[.pointer (some ⟨b,0,none⟩),.int .i64 2] w fun x w'=>x=.returned (.int .i64 0)/\RdAt w' B b g s r1/\Frm (rdS b g) w w'):=by
  have:=rbit w B b g s fs.r 2 h.rd h.ok hs (by decide)
  rw [hka,<- hr1] at this
  exact this
 have ok1:Rdr.Ok s r1:=by rw [hr1];exact h.ok.bitS (by decide)
 obtain ⟨r2,hr2⟩:∃ r2,r2=Rdr.bitS s r1 (3+0):=⟨_,rfl⟩
 rw [<- hr1] at hkb he
 rw [<- hr2] at he
 have HB:Hid (∀ wx,RdAt wx B b g s r1->Calls Tryz.prog 101 #[.pointer (some ⟨b,0,none⟩),.int .i64 3] wx fun x w'=>x=.returned (.int .i64 1)/\RdAt w' B b g s r2/\Frm (rdS b g) wx w'):=fun wx hx=>by
  have:=rbit wx B b g s r1 (3+0) hx ok1 hs (by decide)
  rw [hkb,<- hr2] at this
  exact this
 have HOK2:Hid (Rdr.Ok s r2):=by rw [hr2];exact ok1.bitS (by decide)
 have HBL:Hid (Flm.block s z x y n fs=Flm.seen z (Flm.spots x y n) (Flm.few s z x y n { fs with r:=r2 })):=by
  unfold Hid Flm.block
  dsimp only
  rw [<- hr1,hka]
  rw [show (3+(0:Int).toNat)=3+0 from rfl,<- hr2,hkb]
  rw [if_pos he,if_pos rfl,if_neg (by decide)]
 have hpb:Hid (¬ rdS b g p):=fun e=>by rcases e with e|e;exact h.nes.1.1 e;exact h.nes.1.2.1 e
 have H:Hid (ShAt w B p b g lg lc rg fbs s z fs):=h
 have hn2:=h.n2
 have hw64:wrap64 (((fs.frs.length:Nat):Int)-1)=((Flm.now fs:Nat):Int):=by unfold wrap64 Flm.now;omega
 have hnl:Flm.now fs<fs.frs.length:=by unfold Flm.now;omega
 have T1:Hid True:=trivial
 have HE:Hid (r2.err=0):=he
 have he':(r2.err == 0)=true:=by simpa using he
 clear h hr1 hr2 ok1 hka hkb he
 go_enter Tryz.func130,Tryz.ntmps130
 go_upto_block 1 with (first
  | (clear T1;go_at_call 101;refine HA.out.mono ?_;rintro e w1 ⟨rfl,h1,f1⟩;have j0:=f1.cell i0 hpb.out)
  | (go_at_call 101;refine (HB.out _ h1).mono ?_;rintro e w2 ⟨rfl,h2,f2⟩;have k0:=f2.cell j0 hpb.out;have k5:=h2.c5;have st2:ShAt w2 B p b g lg lc rg fbs s z { fs with r:=r2 }:=H.out.reader h2 HOK2.out (f1.trans f2);have k2:=st2.c2;have ST2:Hid (ShAt w2 B p b g lg lc rg fbs s z { fs with r:=r2 }):=st2;have FR2:Hid (Frm (rdS b g) w w2):=f1.trans f2;clear st2 f1 f2 h2 h1)
  | (go_at_call 153;refine (sh_few _ B p b g lg lc rg z fbs s _ ST2.out hs x y n hx hy).mono ?_;rintro e w3 ⟨rfl,st3,f3⟩))
 obtain ⟨G,hG⟩:∃ G:FS,G=Flm.few s z x y n { fs with r:=r2 }:=⟨_,rfl⟩
 have HI0:Hid (SeenI w B p b g lg lc rg z (fbs.getD (Flm.now fs) 0) fbs s G x y n 0 0 w3):=⟨G,by rw [Flm.left_zero],by rw [hG];exact st3,(shS_rd FR2.out).trans (f3)⟩
 have HBLG:Hid (Flm.block s z x y n fs=Flm.seen z (Flm.spots x y n) G):=by rw [hG];exact HBL.out
 clear st3 f3 hG ST2 FR2 HBL H HA HB k0 k2 k5 i0 j0
 go_wp2_with fail
 go_loopw [11] (fun jv wr=>∃ j:Nat,j<=n/\jv=.int .i64 ((y+j:Nat):Int)/\SeenI w B p b g lg lc rg z (fbs.getD (Flm.now fs) 0) fbs s G x y n j 0 wr) (fun jv _=>y+n-(intOf jv).toNat)
 case atStart=>exact ⟨0,by omega,rfl,HI0.out⟩
 case round =>
  clear HI0
  obtain ⟨j,hj,rfl,hI⟩:=hrel
  obtain ⟨J,hJ⟩:∃ J,J=y+j:=⟨_,rfl⟩
  rw [<- hJ]
  by_cases hlt:j<n
  ·have hlt':(J:Int)<(y:Int)+(n:Int):=by omega
   have hJz:J<z:=by omega
   have HI:Hid (SeenI w B p b g lg lc rg z (fbs.getD (Flm.now fs) 0) fbs s G x y n j 0 wr):=hI
   have HJ:Hid (J=y+j):=hJ
   clear hI hJ
   go_wp2_with fail
   go_loopw [12] (fun iv wr=>∃ i:Nat,i<=n/\iv=.int .i64 ((x+i:Nat):Int)/\SeenI w B p b g lg lc rg z (fbs.getD (Flm.now fs) 0) fbs s G x y n j i wr) (fun iv _=>x+n-(intOf iv).toNat)
   case atStart=>exact ⟨0,by omega,rfl,HI.out⟩
   case round =>
    clear HI
    obtain ⟨i,hi,rfl,hI⟩:=hrel
    obtain ⟨wi,rfl⟩:∃ wi,wi=wr:=⟨_,rfl⟩
    obtain ⟨I,hI0⟩:∃ I,I=x+i:=⟨_,rfl⟩
    rw [<- hI0]
    by_cases hlt2:i<n
    ·have hlt2':(I:Int)<(x:Int)+(n:Int):=by omega
     have hIz:I<z:=by omega
     obtain ⟨q,hq1,hq2,hq3⟩:=hI
     obtain ⟨w1',w2'⟩:=wrap_spot hq2.zzle hIz hJz
     have HT:Hid (Flm.seen z (Flm.left x y n j (i+1)) { q with rd:=q.rd.set (J*z+I) true }=Flm.seen z (Flm.spots x y n) G):=by unfold Hid;rw [<- hq1,seen_go hI0 HJ.out hlt hlt2]
     obtain ⟨T,hT⟩:∃ T,T=J*z+I:=⟨_,rfl⟩
     have hTZ:(T:Int)<((z*z:Nat):Int):=by rw [hT];exact Int.ofNat_lt.2 (spot_lt hIz hJz)
     have rc:=hq2.read.cell T (by rw [hT];exact spot_lt hIz hJz)
     have rf:=hq2.read.frozen T
     have q1:=hq2.c1
     have q3:=hq2.c3
     rw [<- hT] at w2' HT
     obtain ⟨Z,hZ⟩:∃ Z,Z=z*z:=⟨_,rfl⟩
     rw [<- hZ] at hTZ q3
     obtain ⟨rv,hrv⟩:∃ rv,rv=q.rd.getD T false:=⟨_,rfl⟩
     rw [<- hrv] at rc
     have HQ2:Hid (ShAt wi B p b g lg lc rg fbs s z q):=hq2
     have HQ3:Hid (Frm (shS p b g rg (fbs.getD (Flm.now fs) 0)) w wi):=hq3
     have HI0:Hid (I=x+i):=hI0
     clear hq1 hq2 hq3 hT hZ hrv hI0
     go_wp2_with fail
     go_region
     go_wp2_with fail
     have hI0:=HI0.out
     refine ⟨⟨i+1,by omega,?_,{ q with rd:=q.rd.set T true },HT.out,?_,?_⟩,?_⟩
     ·rw [show ((x+(i+1):Nat):Int)=(I:Int)+1 by omega]
     ·exact (HQ2.out.see T).below (below_drewN (Below.refl _ _) 1)
     ·exact (Frm.setCell (p:=⟨rg,T,none⟩) HQ3.out (.inl (.inr (.inr (.inr (.inl rfl))))) _).drew
     ·simp [intOf];omega
    ·have hlt2':¬ ((I:Int)<(x:Int)+(n:Int)):=by omega
     obtain rfl:i=n:=by omega
     have HI2:Hid (SeenI w B p b g lg lc rg z (fbs.getD (Flm.now fs) 0) fbs s G x y i j i wi):=hI
     clear hI hI0
     go_wp2_with fail
     have hJe:=HJ.out
     obtain ⟨q,hq1,hq2,hq3⟩:=HI2.out
     refine ⟨⟨j+1,by omega,?_,q,by rw [<- hq1,Flm.left_row],hq2,hq3⟩,?_⟩
     ·rw [show ((y+(j+1):Nat):Int)=(J:Int)+1 by omega]
     ·simp [intOf];omega
  ·have hlt':¬ ((J:Int)<(y:Int)+(n:Int)):=by omega
   obtain rfl:j=n:=by omega
   have HI2:Hid (SeenI w B p b g lg lc rg z (fbs.getD (Flm.now fs) 0) fbs s G x y j j 0 wr):=hI
   clear hI hJ
   go_wp2_with fail
   go_end0
   obtain ⟨q,hq1,hq2,hq3⟩:=HI2.out
   rw [Flm.left_end] at hq1
   have hq1':q=Flm.seen z (Flm.spots x y j) G:=hq1
   rw [HBLG.out,<- hq1']
   exact ⟨rfl,hq2,hq3⟩
end
end Go.Proofs.YtekfbphnoibnjaaGreatDoor
