/-
  A block is read by the document: the other kinds, and what is wrong at once. A block is read by the document, whatever its kind.
-/
import Derived.Test.YtekfbphnoibnjaaGreatDoorF07
namespace Go.Proofs.YtekfbphnoibnjaaGreatDoor
open Go.RowKit
open Flm (Px FS)
set_option maxHeartbeats 2000000 in
set_option maxRecDepth 20000 in
theorem sh_block2 (w : World) (B p b g lg lc rg z : Nat) (fbs : List Nat) (s : ByteArray) (fs : FS) (h : ShAt w B p b g lg lc rg fbs s z fs) (hs : s.size <= maxLen) (x y n : Nat) (hx : x + n <= z) (hy : y + n <= z) (hka : Rdr.bitV fs.r 2 = 1) (hkb : Rdr.bitV (Rdr.bitS s fs.r 2) (3 + 1) = 0) (he : (Rdr.bitS s (Rdr.bitS s fs.r 2) (3 + 1)).err = 0) :
  Calls Tryz.prog 130 #[.pointer (some ⟨p,0,none⟩),.int .i64 x,.int .i64 y,.int .i64 n] w fun e w' => e = .returned (.tuple #[]) /\ ShAt w' B p b g lg lc rg fbs s z (Flm.block s z x y n fs) /\ Frm (shS p b g rg (fbs.getD (Flm.now fs) 0)) w w':=by
 have hz16 : z <= 16:=by rcases h.zz with e | e | e <;> omega
 have i0:=h.c0
 obtain ⟨r1,hr1⟩ : ∃ r1,r1 = Rdr.bitS s fs.r 2:=⟨_,rfl⟩
 have HA : Hid (Calls Tryz.prog 101 #[.pointer (some ⟨b,0,none⟩),.int .i64 2] w fun x w' => x = .returned (.int .i64 1) /\ RdAt w' B b g s r1 /\ Frm (rdS b g) w w'):=by
  have:=rbit w B b g s fs.r 2 h.rd h.ok hs (by decide)
  rw [hka,<- hr1] at this
  exact this
 have ok1 : Rdr.Ok s r1:=by rw [hr1]; exact h.ok.bitS (by decide)
 obtain ⟨r2,hr2⟩ : ∃ r2,r2 = Rdr.bitS s r1 (3 + 1):=⟨_,rfl⟩
 rw [<- hr1] at hkb he
 rw [<- hr2] at he
 have HB : Hid (∀ wx,RdAt wx B b g s r1 -> Calls Tryz.prog 101 #[.pointer (some ⟨b,0,none⟩),.int .i64 4] wx fun x w' => x = .returned (.int .i64 0) /\ RdAt w' B b g s r2 /\ Frm (rdS b g) wx w'):=fun wx hx => by
  have:=rbit wx B b g s r1 (3 + 1) hx ok1 hs (by decide)
  rw [hkb,<- hr2] at this
  exact this
 have HOK2 : Hid (Rdr.Ok s r2):=by rw [hr2]; exact ok1.bitS (by decide)
 have HBL : Hid (Flm.block s z x y n fs = Flm.seen z (Flm.spots x y n) (Flm.copies s z x y n 260 (Flm.now fs) { fs with r:=r2 })):=by
  unfold Hid Flm.block
  dsimp only
  rw [<- hr1,hka]
  rw [show (3 + (1 : Int).toNat) = 3 + 1 from rfl,<- hr2,hkb]
  rw [if_pos he,if_neg (by decide),if_pos rfl]
  rfl
 have hpb : Hid (¬ rdS b g p):=fun e => by rcases e with e | e; exact h.nes.1.1 e; exact h.nes.1.2.1 e
 have H : Hid (ShAt w B p b g lg lc rg fbs s z fs):=h
 have hn2:=h.n2
 have HSUB : Hid (((Flm.now fs : Nat) : Int) = ((fs.frs.length : Nat) : Int) - 1):=by unfold Hid Flm.now; omega
 have hnl : Flm.now fs < fs.frs.length:=by unfold Flm.now; omega
 have T1 : Hid True:=trivial
 have HE : Hid (r2.err = 0):=he
 have he' : (r2.err == 0) = true:=by simpa using he
 clear h hr1 hr2 ok1 hka hkb he
 go_enter Tryz.func130,Tryz.ntmps130
 go_upto_block 1 with (first
  | (clear T1; go_at_call 101; refine HA.out.mono ?_; rintro e w1 ⟨rfl,h1,f1⟩; have j0:=f1.cell i0 hpb.out)
  | (go_at_call 101; refine (HB.out _ h1).mono ?_; rintro e w2 ⟨rfl,h2,f2⟩; have k0:=f2.cell j0 hpb.out; have k5:=h2.c5; have st2 : ShAt w2 B p b g lg lc rg fbs s z { fs with r:=r2 }:=H.out.reader h2 HOK2.out (f1.trans f2); have k2:=st2.c2; have ST2 : Hid (ShAt w2 B p b g lg lc rg fbs s z { fs with r:=r2 }):=st2; have FR2 : Hid (Frm (rdS b g) w w2):=f1.trans f2; clear st2 f1 f2 h2 h1)
  | (go_at_call 154; have hcp:=sh_copies _ B p b g lg lc rg z fbs s _ ST2.out hs x y n 260 (Flm.now fs) hx hy (by decide) hnl; rw [show ((260 : Nat) : Int) = 260 from rfl,HSUB.out] at hcp; refine hcp.mono ?_; clear hcp; rintro e w3 ⟨rfl,st3,f3⟩))
 obtain ⟨G,hG⟩ : ∃ G : FS,G = Flm.copies s z x y n 260 (Flm.now fs) { fs with r:=r2 }:=⟨_,rfl⟩
 have HI0 : Hid (SeenI w B p b g lg lc rg z (fbs.getD (Flm.now fs) 0) fbs s G x y n 0 0 w3):=⟨G,by rw [Flm.left_zero],by rw [hG]; exact st3,(shS_rd FR2.out).trans (f3)⟩
 have HBLG : Hid (Flm.block s z x y n fs = Flm.seen z (Flm.spots x y n) G):=by rw [hG]; exact HBL.out
 clear st3 f3 hG ST2 FR2 HBL H HA HB k0 k2 k5 i0 j0
 go_wp2_with fail
 go_loopw [11] (fun jv wr => ∃ j : Nat,j <= n /\ jv = .int .i64 ((y + j : Nat) : Int) /\ SeenI w B p b g lg lc rg z (fbs.getD (Flm.now fs) 0) fbs s G x y n j 0 wr) (fun jv _ => y + n - (intOf jv).toNat)
 case atStart => exact ⟨0,by omega,rfl,HI0.out⟩
 case round =>
  clear HI0
  obtain ⟨j,hj,rfl,hI⟩:=hrel
  obtain ⟨J,hJ⟩ : ∃ J,J = y + j:=⟨_,rfl⟩
  rw [<- hJ]
  by_cases hlt : j < n
  ·have hlt' : (J : Int) < (y : Int) + (n : Int):=by omega
   have hJz : J < z:=by omega
   have HI : Hid (SeenI w B p b g lg lc rg z (fbs.getD (Flm.now fs) 0) fbs s G x y n j 0 wr):=hI
   have HJ : Hid (J = y + j):=hJ
   clear hI hJ
   go_wp2_with fail
   go_loopw [12] (fun iv wr => ∃ i : Nat,i <= n /\ iv = .int .i64 ((x + i : Nat) : Int) /\ SeenI w B p b g lg lc rg z (fbs.getD (Flm.now fs) 0) fbs s G x y n j i wr) (fun iv _ => x + n - (intOf iv).toNat)
   case atStart => exact ⟨0,by omega,rfl,HI.out⟩
   case round =>
    clear HI
    obtain ⟨i,hi,rfl,hI⟩:=hrel
    obtain ⟨wi,rfl⟩ : ∃ wi,wi = wr:=⟨_,rfl⟩
    obtain ⟨I,hI0⟩ : ∃ I,I = x + i:=⟨_,rfl⟩
    rw [<- hI0]
    by_cases hlt2 : i < n
    ·have hlt2' : (I : Int) < (x : Int) + (n : Int):=by omega
     have hIz : I < z:=by omega
     obtain ⟨q,hq1,hq2,hq3⟩:=hI
     obtain ⟨w1',w2'⟩:=wrap_spot hq2.zzle hIz hJz
     have HT : Hid (Flm.seen z (Flm.left x y n j (i + 1)) { q with rd:=q.rd.set (J * z + I) true } = Flm.seen z (Flm.spots x y n) G):=by unfold Hid; rw [<- hq1,seen_go hI0 HJ.out hlt hlt2]
     obtain ⟨T,hT⟩ : ∃ T,T = J * z + I:=⟨_,rfl⟩
     have hTZ : (T : Int) < ((z * z : Nat) : Int):=by rw [hT]; exact Int.ofNat_lt.2 (spot_lt hIz hJz)
     have rc:=hq2.read.cell T (by rw [hT]; exact spot_lt hIz hJz)
     have rf:=hq2.read.frozen T
     have q1:=hq2.c1
     have q3:=hq2.c3
     rw [<- hT] at w2' HT
     obtain ⟨Z,hZ⟩ : ∃ Z,Z = z * z:=⟨_,rfl⟩
     rw [<- hZ] at hTZ q3
     obtain ⟨rv,hrv⟩ : ∃ rv,rv = q.rd.getD T false:=⟨_,rfl⟩
     rw [<- hrv] at rc
     have HQ2 : Hid (ShAt wi B p b g lg lc rg fbs s z q):=hq2
     have HQ3 : Hid (Frm (shS p b g rg (fbs.getD (Flm.now fs) 0)) w wi):=hq3
     have HI0 : Hid (I = x + i):=hI0
     clear hq1 hq2 hq3 hT hZ hrv hI0
     go_wp2_with fail
     go_region
     go_wp2_with fail
     have hI0:=HI0.out
     refine ⟨⟨i + 1,by omega,?_,{ q with rd:=q.rd.set T true },HT.out,?_,?_⟩,?_⟩
     ·rw [show ((x + (i + 1) : Nat) : Int) = (I : Int) + 1 by omega]
     ·exact (HQ2.out.see T).below (below_drewN (Below.refl _ _) 1)
     ·exact (Frm.setCell (p:=⟨rg,T,none⟩) HQ3.out (.inl (.inr (.inr (.inr (.inl rfl))))) _).drew
     ·simp [intOf]; omega
    ·have hlt2' : ¬ ((I : Int) < (x : Int) + (n : Int)):=by omega
     obtain rfl : i = n:=by omega
     have HI2 : Hid (SeenI w B p b g lg lc rg z (fbs.getD (Flm.now fs) 0) fbs s G x y i j i wi):=hI
     clear hI hI0
     go_wp2_with fail
     have hJe:=HJ.out
     obtain ⟨q,hq1,hq2,hq3⟩:=HI2.out
     refine ⟨⟨j + 1,by omega,?_,q,by rw [<- hq1,Flm.left_row],hq2,hq3⟩,?_⟩
     ·rw [show ((y + (j + 1) : Nat) : Int) = (J : Int) + 1 by omega]
     ·simp [intOf]; omega
  ·have hlt' : ¬ ((J : Int) < (y : Int) + (n : Int)):=by omega
   obtain rfl : j = n:=by omega
   have HI2 : Hid (SeenI w B p b g lg lc rg z (fbs.getD (Flm.now fs) 0) fbs s G x y j j 0 wr):=hI
   clear hI hJ
   go_wp2_with fail
   go_end0
   obtain ⟨q,hq1,hq2,hq3⟩:=HI2.out
   rw [Flm.left_end] at hq1
   have hq1' : q = Flm.seen z (Flm.spots x y j) G:=hq1
   rw [HBLG.out,<- hq1']
   exact ⟨rfl,hq2,hq3⟩
set_option maxHeartbeats 2000000 in
set_option maxRecDepth 20000 in
theorem sh_block3 (w : World) (B p b g lg lc rg z : Nat) (fbs : List Nat) (s : ByteArray) (fs : FS) (h : ShAt w B p b g lg lc rg fbs s z fs) (hs : s.size <= maxLen) (x y n : Nat) (hx : x + n <= z) (hy : y + n <= z) (hka : Rdr.bitV fs.r 2 = 1) (hkb : Rdr.bitV (Rdr.bitS s fs.r 2) (3 + 1) = 1) (he : (Rdr.bitS s (Rdr.bitS s fs.r 2) (3 + 1)).err = 0) (hnow : Flm.now fs ≠ 0) :
  Calls Tryz.prog 130 #[.pointer (some ⟨p,0,none⟩),.int .i64 x,.int .i64 y,.int .i64 n] w fun e w' => e = .returned (.tuple #[]) /\ ShAt w' B p b g lg lc rg fbs s z (Flm.block s z x y n fs) /\ Frm (shS p b g rg (fbs.getD (Flm.now fs) 0)) w w':=by
 have hz16 : z <= 16:=by rcases h.zz with e | e | e <;> omega
 have i0:=h.c0
 obtain ⟨r1,hr1⟩ : ∃ r1,r1 = Rdr.bitS s fs.r 2:=⟨_,rfl⟩
 have HA : Hid (Calls Tryz.prog 101 #[.pointer (some ⟨b,0,none⟩),.int .i64 2] w fun x w' => x = .returned (.int .i64 1) /\ RdAt w' B b g s r1 /\ Frm (rdS b g) w w'):=by
  have:=rbit w B b g s fs.r 2 h.rd h.ok hs (by decide)
  rw [hka,<- hr1] at this
  exact this
 have ok1 : Rdr.Ok s r1:=by rw [hr1]; exact h.ok.bitS (by decide)
 obtain ⟨r2,hr2⟩ : ∃ r2,r2 = Rdr.bitS s r1 (3 + 1):=⟨_,rfl⟩
 rw [<- hr1] at hkb he
 rw [<- hr2] at he
 have HB : Hid (∀ wx,RdAt wx B b g s r1 -> Calls Tryz.prog 101 #[.pointer (some ⟨b,0,none⟩),.int .i64 4] wx fun x w' => x = .returned (.int .i64 1) /\ RdAt w' B b g s r2 /\ Frm (rdS b g) wx w'):=fun wx hx => by
  have:=rbit wx B b g s r1 (3 + 1) hx ok1 hs (by decide)
  rw [hkb,<- hr2] at this
  exact this
 have HOK2 : Hid (Rdr.Ok s r2):=by rw [hr2]; exact ok1.bitS (by decide)
 have HBL : Hid (Flm.block s z x y n fs = Flm.seen z (Flm.spots x y n) (Flm.copies s z x y n 310 (Flm.now fs - 1) { fs with r:=r2 })):=by
  unfold Hid Flm.block
  dsimp only
  rw [<- hr1,hka]
  rw [show (3 + (1 : Int).toNat) = 3 + 1 from rfl,<- hr2,hkb]
  rw [if_pos he,if_neg (by decide),if_neg (by decide),if_neg (show ¬ Flm.now { fs with r:=r2 } = 0 from hnow)]
  rfl
 have hpb : Hid (¬ rdS b g p):=fun e => by rcases e with e | e; exact h.nes.1.1 e; exact h.nes.1.2.1 e
 have H : Hid (ShAt w B p b g lg lc rg fbs s z fs):=h
 have hn2:=h.n2
 have HSUB : Hid (((Flm.now fs : Nat) : Int) = ((fs.frs.length : Nat) : Int) - 1):=by unfold Hid Flm.now; omega
 have hnl : Flm.now fs < fs.frs.length:=by unfold Flm.now; omega
 have hn0 : ((fs.frs.length : Nat) : Int) - 1 ≠ 0:=by have:=HSUB.out; omega
 have hn0' : ((((fs.frs.length : Nat) : Int) - 1) == 0) = false:=by simpa using hn0
 have T1 : Hid True:=trivial
 have HE : Hid (r2.err = 0):=he
 have he' : (r2.err == 0) = true:=by simpa using he
 clear h hr1 hr2 ok1 hka hkb he
 go_enter Tryz.func130,Tryz.ntmps130
 go_upto_block 1 with (first
  | (clear T1; go_at_call 101; refine HA.out.mono ?_; rintro e w1 ⟨rfl,h1,f1⟩; have j0:=f1.cell i0 hpb.out)
  | (go_at_call 101; refine (HB.out _ h1).mono ?_; rintro e w2 ⟨rfl,h2,f2⟩; have k0:=f2.cell j0 hpb.out; have k5:=h2.c5; have st2 : ShAt w2 B p b g lg lc rg fbs s z { fs with r:=r2 }:=H.out.reader h2 HOK2.out (f1.trans f2); have k2:=st2.c2; have ST2 : Hid (ShAt w2 B p b g lg lc rg fbs s z { fs with r:=r2 }):=st2; have FR2 : Hid (Frm (rdS b g) w w2):=f1.trans f2; clear st2 f1 f2 h2 h1)
  | (go_at_call 154; have hcp:=sh_copies _ B p b g lg lc rg z fbs s _ ST2.out hs x y n 310 (Flm.now fs - 1) hx hy (by decide) (by show Flm.now fs - 1 < fs.frs.length; omega); rw [show ((310 : Nat) : Int) = 310 from rfl,show ((Flm.now fs - 1 : Nat) : Int) = ((fs.frs.length : Nat) : Int) - 1 - 1 by have:=HSUB.out; omega] at hcp; refine hcp.mono ?_; clear hcp; rintro e w3 ⟨rfl,st3,f3⟩))
 obtain ⟨G,hG⟩ : ∃ G : FS,G = Flm.copies s z x y n 310 (Flm.now fs - 1) { fs with r:=r2 }:=⟨_,rfl⟩
 have HI0 : Hid (SeenI w B p b g lg lc rg z (fbs.getD (Flm.now fs) 0) fbs s G x y n 0 0 w3):=⟨G,by rw [Flm.left_zero],by rw [hG]; exact st3,(shS_rd FR2.out).trans (f3)⟩
 have HBLG : Hid (Flm.block s z x y n fs = Flm.seen z (Flm.spots x y n) G):=by rw [hG]; exact HBL.out
 clear st3 f3 hG ST2 FR2 HBL H HA HB k0 k2 k5 i0 j0
 go_wp2_with fail
 go_loopw [11] (fun jv wr => ∃ j : Nat,j <= n /\ jv = .int .i64 ((y + j : Nat) : Int) /\ SeenI w B p b g lg lc rg z (fbs.getD (Flm.now fs) 0) fbs s G x y n j 0 wr) (fun jv _ => y + n - (intOf jv).toNat)
 case atStart => exact ⟨0,by omega,rfl,HI0.out⟩
 case round =>
  clear HI0
  obtain ⟨j,hj,rfl,hI⟩:=hrel
  obtain ⟨J,hJ⟩ : ∃ J,J = y + j:=⟨_,rfl⟩
  rw [<- hJ]
  by_cases hlt : j < n
  ·have hlt' : (J : Int) < (y : Int) + (n : Int):=by omega
   have hJz : J < z:=by omega
   have HI : Hid (SeenI w B p b g lg lc rg z (fbs.getD (Flm.now fs) 0) fbs s G x y n j 0 wr):=hI
   have HJ : Hid (J = y + j):=hJ
   clear hI hJ
   go_wp2_with fail
   go_loopw [12] (fun iv wr => ∃ i : Nat,i <= n /\ iv = .int .i64 ((x + i : Nat) : Int) /\ SeenI w B p b g lg lc rg z (fbs.getD (Flm.now fs) 0) fbs s G x y n j i wr) (fun iv _ => x + n - (intOf iv).toNat)
   case atStart => exact ⟨0,by omega,rfl,HI.out⟩
   case round =>
    clear HI
    obtain ⟨i,hi,rfl,hI⟩:=hrel
    obtain ⟨wi,rfl⟩ : ∃ wi,wi = wr:=⟨_,rfl⟩
    obtain ⟨I,hI0⟩ : ∃ I,I = x + i:=⟨_,rfl⟩
    rw [<- hI0]
    by_cases hlt2 : i < n
    ·have hlt2' : (I : Int) < (x : Int) + (n : Int):=by omega
     have hIz : I < z:=by omega
     obtain ⟨q,hq1,hq2,hq3⟩:=hI
     obtain ⟨w1',w2'⟩:=wrap_spot hq2.zzle hIz hJz
     have HT : Hid (Flm.seen z (Flm.left x y n j (i + 1)) { q with rd:=q.rd.set (J * z + I) true } = Flm.seen z (Flm.spots x y n) G):=by unfold Hid; rw [<- hq1,seen_go hI0 HJ.out hlt hlt2]
     obtain ⟨T,hT⟩ : ∃ T,T = J * z + I:=⟨_,rfl⟩
     have hTZ : (T : Int) < ((z * z : Nat) : Int):=by rw [hT]; exact Int.ofNat_lt.2 (spot_lt hIz hJz)
     have rc:=hq2.read.cell T (by rw [hT]; exact spot_lt hIz hJz)
     have rf:=hq2.read.frozen T
     have q1:=hq2.c1
     have q3:=hq2.c3
     rw [<- hT] at w2' HT
     obtain ⟨Z,hZ⟩ : ∃ Z,Z = z * z:=⟨_,rfl⟩
     rw [<- hZ] at hTZ q3
     obtain ⟨rv,hrv⟩ : ∃ rv,rv = q.rd.getD T false:=⟨_,rfl⟩
     rw [<- hrv] at rc
     have HQ2 : Hid (ShAt wi B p b g lg lc rg fbs s z q):=hq2
     have HQ3 : Hid (Frm (shS p b g rg (fbs.getD (Flm.now fs) 0)) w wi):=hq3
     have HI0 : Hid (I = x + i):=hI0
     clear hq1 hq2 hq3 hT hZ hrv hI0
     go_wp2_with fail
     go_region
     go_wp2_with fail
     have hI0:=HI0.out
     refine ⟨⟨i + 1,by omega,?_,{ q with rd:=q.rd.set T true },HT.out,?_,?_⟩,?_⟩
     ·rw [show ((x + (i + 1) : Nat) : Int) = (I : Int) + 1 by omega]
     ·exact (HQ2.out.see T).below (below_drewN (Below.refl _ _) 1)
     ·exact (Frm.setCell (p:=⟨rg,T,none⟩) HQ3.out (.inl (.inr (.inr (.inr (.inl rfl))))) _).drew
     ·simp [intOf]; omega
    ·have hlt2' : ¬ ((I : Int) < (x : Int) + (n : Int)):=by omega
     obtain rfl : i = n:=by omega
     have HI2 : Hid (SeenI w B p b g lg lc rg z (fbs.getD (Flm.now fs) 0) fbs s G x y i j i wi):=hI
     clear hI hI0
     go_wp2_with fail
     have hJe:=HJ.out
     obtain ⟨q,hq1,hq2,hq3⟩:=HI2.out
     refine ⟨⟨j + 1,by omega,?_,q,by rw [<- hq1,Flm.left_row],hq2,hq3⟩,?_⟩
     ·rw [show ((y + (j + 1) : Nat) : Int) = (J : Int) + 1 by omega]
     ·simp [intOf]; omega
  ·have hlt' : ¬ ((J : Int) < (y : Int) + (n : Int)):=by omega
   obtain rfl : j = n:=by omega
   have HI2 : Hid (SeenI w B p b g lg lc rg z (fbs.getD (Flm.now fs) 0) fbs s G x y j j 0 wr):=hI
   clear hI hJ
   go_wp2_with fail
   go_end0
   obtain ⟨q,hq1,hq2,hq3⟩:=HI2.out
   rw [Flm.left_end] at hq1
   have hq1' : q = Flm.seen z (Flm.spots x y j) G:=hq1
   rw [HBLG.out,<- hq1']
   exact ⟨rfl,hq2,hq3⟩
end Go.Proofs.YtekfbphnoibnjaaGreatDoor
namespace Go.Proofs.YtekfbphnoibnjaaGreatDoor
open Go.RowKit
open Flm (Px FS)
set_option maxHeartbeats 2000000 in
set_option maxRecDepth 20000 in
theorem sh_block_err0 (w : World) (B p b g lg lc rg z : Nat) (fbs : List Nat) (s : ByteArray) (fs : FS) (h : ShAt w B p b g lg lc rg fbs s z fs) (hs : s.size <= maxLen) (x y n : Nat) (v : Int) (hka : Rdr.bitV fs.r 2 = 0) (hkb : Rdr.bitV (Rdr.bitS s fs.r 2) (3 + 0) = v) (he : (Rdr.bitS s (Rdr.bitS s fs.r 2) (3 + 0)).err ≠ 0) :
  Calls Tryz.prog 130 #[.pointer (some ⟨p,0,none⟩),.int .i64 x,.int .i64 y,.int .i64 n] w fun e w' => e = .returned (.tuple #[]) /\ ShAt w' B p b g lg lc rg fbs s z (Flm.block s z x y n fs) /\ Frm (shS p b g rg (fbs.getD (Flm.now fs) 0)) w w':=by
 have i0:=h.c0
 obtain ⟨r1,hr1⟩ : ∃ r1,r1 = Rdr.bitS s fs.r 2:=⟨_,rfl⟩
 have HA : Hid (Calls Tryz.prog 101 #[.pointer (some ⟨b,0,none⟩),.int .i64 2] w fun x w' => x = .returned (.int .i64 0) /\ RdAt w' B b g s r1 /\ Frm (rdS b g) w w'):=by
  have:=rbit w B b g s fs.r 2 h.rd h.ok hs (by decide)
  rw [hka,<- hr1] at this
  exact this
 have ok1 : Rdr.Ok s r1:=by rw [hr1]; exact h.ok.bitS (by decide)
 obtain ⟨r2,hr2⟩ : ∃ r2,r2 = Rdr.bitS s r1 (3 + 0):=⟨_,rfl⟩
 rw [<- hr1] at hkb he
 rw [<- hr2] at he
 have HB : Hid (∀ wx,RdAt wx B b g s r1 -> Calls Tryz.prog 101 #[.pointer (some ⟨b,0,none⟩),.int .i64 3] wx fun x w' => x = .returned (.int .i64 v) /\ RdAt w' B b g s r2 /\ Frm (rdS b g) wx w'):=fun wx hx => by
  have:=rbit wx B b g s r1 (3 + 0) hx ok1 hs (by decide)
  rw [hkb,<- hr2] at this
  exact this
 have HOK2 : Hid (Rdr.Ok s r2):=by rw [hr2]; exact ok1.bitS (by decide)
 have HBL : Hid (Flm.block s z x y n fs = { fs with r:=r2 }):=by
  unfold Hid Flm.block
  dsimp only
  rw [<- hr1,hka]
  rw [show (3 + (0 : Int).toNat) = 3 + 0 from rfl,<- hr2,hkb]
  rw [if_neg he]
 have hpb : Hid (¬ rdS b g p):=fun e => by rcases e with e | e; exact h.nes.1.1 e; exact h.nes.1.2.1 e
 have H : Hid (ShAt w B p b g lg lc rg fbs s z fs):=h
 have T1 : Hid True:=trivial
 have he' : (r2.err == 0) = false:=by simpa using he
 clear h hr1 hr2 ok1 hka hkb he
 go_enter Tryz.func130,Tryz.ntmps130
 go_wp2_with (first
  | (clear T1; go_at_call 101; refine HA.out.mono ?_; rintro e w1 ⟨rfl,h1,f1⟩; have j0:=f1.cell i0 hpb.out)
  | (go_at_call 101; refine (HB.out _ h1).mono ?_; rintro e w2 ⟨rfl,h2,f2⟩; have k0:=f2.cell j0 hpb.out; have k5:=h2.c5; have st2 : ShAt w2 B p b g lg lc rg fbs s z { fs with r:=r2 }:=H.out.reader h2 HOK2.out (f1.trans f2); have k2:=st2.c2; have ST2 : Hid (ShAt w2 B p b g lg lc rg fbs s z { fs with r:=r2 }):=st2; have FR2 : Hid (Frm (rdS b g) w w2):=f1.trans f2; clear st2 f1 f2 h2 h1))
 go_returns
 rw [HBL.out]
 exact ⟨rfl,ST2.out,shS_rd FR2.out⟩
set_option maxHeartbeats 2000000 in
set_option maxRecDepth 20000 in
theorem sh_block_err1 (w : World) (B p b g lg lc rg z : Nat) (fbs : List Nat) (s : ByteArray) (fs : FS) (h : ShAt w B p b g lg lc rg fbs s z fs) (hs : s.size <= maxLen) (x y n : Nat) (v : Int) (hka : Rdr.bitV fs.r 2 = 1) (hkb : Rdr.bitV (Rdr.bitS s fs.r 2) (3 + 1) = v) (he : (Rdr.bitS s (Rdr.bitS s fs.r 2) (3 + 1)).err ≠ 0) :
  Calls Tryz.prog 130 #[.pointer (some ⟨p,0,none⟩),.int .i64 x,.int .i64 y,.int .i64 n] w fun e w' => e = .returned (.tuple #[]) /\ ShAt w' B p b g lg lc rg fbs s z (Flm.block s z x y n fs) /\ Frm (shS p b g rg (fbs.getD (Flm.now fs) 0)) w w':=by
 have i0:=h.c0
 obtain ⟨r1,hr1⟩ : ∃ r1,r1 = Rdr.bitS s fs.r 2:=⟨_,rfl⟩
 have HA : Hid (Calls Tryz.prog 101 #[.pointer (some ⟨b,0,none⟩),.int .i64 2] w fun x w' => x = .returned (.int .i64 1) /\ RdAt w' B b g s r1 /\ Frm (rdS b g) w w'):=by
  have:=rbit w B b g s fs.r 2 h.rd h.ok hs (by decide)
  rw [hka,<- hr1] at this
  exact this
 have ok1 : Rdr.Ok s r1:=by rw [hr1]; exact h.ok.bitS (by decide)
 obtain ⟨r2,hr2⟩ : ∃ r2,r2 = Rdr.bitS s r1 (3 + 1):=⟨_,rfl⟩
 rw [<- hr1] at hkb he
 rw [<- hr2] at he
 have HB : Hid (∀ wx,RdAt wx B b g s r1 -> Calls Tryz.prog 101 #[.pointer (some ⟨b,0,none⟩),.int .i64 4] wx fun x w' => x = .returned (.int .i64 v) /\ RdAt w' B b g s r2 /\ Frm (rdS b g) wx w'):=fun wx hx => by
  have:=rbit wx B b g s r1 (3 + 1) hx ok1 hs (by decide)
  rw [hkb,<- hr2] at this
  exact this
 have HOK2 : Hid (Rdr.Ok s r2):=by rw [hr2]; exact ok1.bitS (by decide)
 have HBL : Hid (Flm.block s z x y n fs = { fs with r:=r2 }):=by
  unfold Hid Flm.block
  dsimp only
  rw [<- hr1,hka]
  rw [show (3 + (1 : Int).toNat) = 3 + 1 from rfl,<- hr2,hkb]
  rw [if_neg he]
 have hpb : Hid (¬ rdS b g p):=fun e => by rcases e with e | e; exact h.nes.1.1 e; exact h.nes.1.2.1 e
 have H : Hid (ShAt w B p b g lg lc rg fbs s z fs):=h
 have T1 : Hid True:=trivial
 have he' : (r2.err == 0) = false:=by simpa using he
 clear h hr1 hr2 ok1 hka hkb he
 go_enter Tryz.func130,Tryz.ntmps130
 go_wp2_with (first
  | (clear T1; go_at_call 101; refine HA.out.mono ?_; rintro e w1 ⟨rfl,h1,f1⟩; have j0:=f1.cell i0 hpb.out)
  | (go_at_call 101; refine (HB.out _ h1).mono ?_; rintro e w2 ⟨rfl,h2,f2⟩; have k0:=f2.cell j0 hpb.out; have k5:=h2.c5; have st2 : ShAt w2 B p b g lg lc rg fbs s z { fs with r:=r2 }:=H.out.reader h2 HOK2.out (f1.trans f2); have k2:=st2.c2; have ST2 : Hid (ShAt w2 B p b g lg lc rg fbs s z { fs with r:=r2 }):=st2; have FR2 : Hid (Frm (rdS b g) w w2):=f1.trans f2; clear st2 f1 f2 h2 h1))
 go_returns
 rw [HBL.out]
 exact ⟨rfl,ST2.out,shS_rd FR2.out⟩
set_option maxHeartbeats 2000000 in
set_option maxRecDepth 20000 in
theorem sh_block_first (w : World) (B p b g lg lc rg z : Nat) (fbs : List Nat) (s : ByteArray) (fs : FS) (h : ShAt w B p b g lg lc rg fbs s z fs) (hs : s.size <= maxLen) (x y n : Nat) (hka : Rdr.bitV fs.r 2 = 1) (hkb : Rdr.bitV (Rdr.bitS s fs.r 2) (3 + 1) = 1) (he : (Rdr.bitS s (Rdr.bitS s fs.r 2) (3 + 1)).err = 0) (hnow : Flm.now fs = 0) :
  Calls Tryz.prog 130 #[.pointer (some ⟨p,0,none⟩),.int .i64 x,.int .i64 y,.int .i64 n] w fun e w' => e = .returned (.tuple #[]) /\ ShAt w' B p b g lg lc rg fbs s z (Flm.block s z x y n fs) /\ Frm (shS p b g rg (fbs.getD (Flm.now fs) 0)) w w':=by
 have i0:=h.c0
 obtain ⟨r1,hr1⟩ : ∃ r1,r1 = Rdr.bitS s fs.r 2:=⟨_,rfl⟩
 have HA : Hid (Calls Tryz.prog 101 #[.pointer (some ⟨b,0,none⟩),.int .i64 2] w fun x w' => x = .returned (.int .i64 1) /\ RdAt w' B b g s r1 /\ Frm (rdS b g) w w'):=by
  have:=rbit w B b g s fs.r 2 h.rd h.ok hs (by decide)
  rw [hka,<- hr1] at this
  exact this
 have ok1 : Rdr.Ok s r1:=by rw [hr1]; exact h.ok.bitS (by decide)
 obtain ⟨r2,hr2⟩ : ∃ r2,r2 = Rdr.bitS s r1 (3 + 1):=⟨_,rfl⟩
 rw [<- hr1] at hkb he
 rw [<- hr2] at he
 have HB : Hid (∀ wx,RdAt wx B b g s r1 -> Calls Tryz.prog 101 #[.pointer (some ⟨b,0,none⟩),.int .i64 4] wx fun x w' => x = .returned (.int .i64 1) /\ RdAt w' B b g s r2 /\ Frm (rdS b g) wx w'):=fun wx hx => by
  have:=rbit wx B b g s r1 (3 + 1) hx ok1 hs (by decide)
  rw [hkb,<- hr2] at this
  exact this
 have HOK2 : Hid (Rdr.Ok s r2):=by rw [hr2]; exact ok1.bitS (by decide)
 have HBL : Hid (Flm.block s z x y n fs = { fs with r:=Rdr.fail r2 10 }):=by
  unfold Hid Flm.block
  dsimp only
  rw [<- hr1,hka]
  rw [show (3 + (1 : Int).toNat) = 3 + 1 from rfl,<- hr2,hkb]
  rw [if_pos he,if_neg (by decide),if_neg (by decide),if_pos (show Flm.now { fs with r:=r2 } = 0 from hnow)]
 have hpb : Hid (¬ rdS b g p):=fun e => by rcases e with e | e; exact h.nes.1.1 e; exact h.nes.1.2.1 e
 have H : Hid (ShAt w B p b g lg lc rg fbs s z fs):=h
 have hn2:=h.n2
 have hl1 : fs.frs.length = 1:=by unfold Flm.now at hnow; omega
 have T1 : Hid True:=trivial
 have he' : (r2.err == 0) = true:=by simpa using he
 clear h hr1 hr2 ok1 hka hkb he
 go_enter Tryz.func130,Tryz.ntmps130
 go_wp2_with (first
  | (clear T1; go_at_call 101; refine HA.out.mono ?_; rintro e w1 ⟨rfl,h1,f1⟩; have j0:=f1.cell i0 hpb.out)
  | (go_at_call 101; refine (HB.out _ h1).mono ?_; rintro e w2 ⟨rfl,h2,f2⟩; have k0:=f2.cell j0 hpb.out; have k5:=h2.c5; have st2 : ShAt w2 B p b g lg lc rg fbs s z { fs with r:=r2 }:=H.out.reader h2 HOK2.out (f1.trans f2); have k2:=st2.c2; have ST2 : Hid (ShAt w2 B p b g lg lc rg fbs s z { fs with r:=r2 }):=st2; have FR2 : Hid (Frm (rdS b g) w w2):=f1.trans f2; clear st2 f1 f2 h2 h1; try (change _ = some (Value.slice _ fs.frs.length _) at k2; rw [hl1] at k2))
  | (go_at_call 128; refine (rfail _ B b g s _ 10 ST2.out.rd).mono ?_; rintro e w3 ⟨rfl,h3,f3⟩))
 go_returns
 rw [HBL.out]
 exact ⟨rfl,ST2.out.reader h3 (HOK2.out.fail (by decide)) f3,shS_rd (FR2.out.trans f3)⟩
theorem sh_block (w : World) (B p b g lg lc rg z : Nat) (fbs : List Nat) (s : ByteArray) (fs : FS) (h : ShAt w B p b g lg lc rg fbs s z fs) (hs : s.size <= maxLen) (x y n : Nat) (hx : x + n <= z) (hy : y + n <= z) :
  Calls Tryz.prog 130 #[.pointer (some ⟨p,0,none⟩),.int .i64 x,.int .i64 y,.int .i64 n] w fun e w' => e = .returned (.tuple #[]) /\ ShAt w' B p b g lg lc rg fbs s z (Flm.block s z x y n fs) /\ Frm (shS p b g rg (fbs.getD (Flm.now fs) 0)) w w':=by
 rcases Rdr.bitV_cases fs.r 2 with ha | ha
 ·by_cases he : (Rdr.bitS s (Rdr.bitS s fs.r 2) (3 + 0)).err = 0
  ·rcases Rdr.bitV_cases (Rdr.bitS s fs.r 2) (3 + 0) with hb | hb
   ·exact sh_block0 w B p b g lg lc rg z fbs s fs h hs x y n hx hy ha hb he
   ·exact sh_block1 w B p b g lg lc rg z fbs s fs h hs x y n hx hy ha hb he
  ·exact sh_block_err0 w B p b g lg lc rg z fbs s fs h hs x y n _ ha rfl he
 ·by_cases he : (Rdr.bitS s (Rdr.bitS s fs.r 2) (3 + 1)).err = 0
  ·rcases Rdr.bitV_cases (Rdr.bitS s fs.r 2) (3 + 1) with hb | hb
   ·exact sh_block2 w B p b g lg lc rg z fbs s fs h hs x y n hx hy ha hb he
   ·by_cases hn : Flm.now fs = 0
    ·exact sh_block_first w B p b g lg lc rg z fbs s fs h hs x y n ha hb he hn
    ·exact sh_block3 w B p b g lg lc rg z fbs s fs h hs x y n hx hy ha hb he hn
  ·exact sh_block_err1 w B p b g lg lc rg z fbs s fs h hs x y n _ ha rfl he
end Go.Proofs.YtekfbphnoibnjaaGreatDoor
