/-
  PState PKind PTake
-/
import Derived.Test.YtekfbphnoibnjaaGreatDoorF24
set_option maxHeartbeats 4000000
namespace Go.Proofs.YtekfbphnoibnjaaGreatDoor
section
open Go.RowKit
open Flm (Px FS)
structure PAt (w:World) (L p b nb rg:Nat) (Dv:Value) (dbs:List Nat) (s:ByteArray) (z:Nat) (fs:FS):Prop where
 pr:PR w b s fs.r
 ok:Rdr.Ok s fs.r
 err:fs.r.err=0
 c0:w.cell? ⟨p,0,none⟩=some (.pointer (some ⟨b,0,none⟩))
 c1:w.cell? ⟨p,1,none⟩=some (.int .i64 z)
 c2:w.cell? ⟨p,2,none⟩=some Dv
 c3:w.cell? ⟨p,3,none⟩=some (.int .i64 z)
 c4:w.cell? ⟨p,4,none⟩=some (.slice (some ⟨nb,0,none⟩) (z*z) (z*z))
 c5:w.cell? ⟨p,5,none⟩=some (.slice (some ⟨rg,0,none⟩) (z*z) (z*z))
 fz:∀ o,w.frozen? ⟨p,o,none⟩=false
 rows:w.ownsRow L 58 1 Dv (Flm.now fs) (rowVals (z*z) dbs)
 dn:∀ i,i<Flm.now fs->Pixs w L (dbs.getD i 0) (z*z) (fs.frs.getD i [])
 nw:Pixs w L nb (z*z) (fs.frs.getD (Flm.now fs) [])
 read:Bools w L rg (z*z) fs.rd
 n1:dbs.length=Flm.now fs
 n2:0<fs.frs.length/\fs.frs.length<=8
 zz:z=4 \/ z=8 \/ z=16
 ne:(p :: b :: rg :: nb :: dbs).Nodup
 nd:∀ k,Dv.ownBlock=some k->k ≠ p/\k ≠ b/\k ≠ rg/\k ≠ nb/\k ∉ dbs
 px:∀ i k,Flm.okPx (Flm.px fs i k)
 lo:L<=p/\L<=b
 up:p<w.heap.size/\b<w.heap.size
variable {w w':World} {L p b nb rg:Nat} {Dv:Value} {dbs:List Nat} {s:ByteArray} {z:Nat} {fs:FS}
theorem PAt.zzle (h:PAt w L p b nb rg Dv dbs s z fs):z*z<=256:=by
 rcases h.zz with e|e|e <;> subst e <;> decide
theorem PAt.z16 (h:PAt w L p b nb rg Dv dbs s z fs):z<=16:=by rcases h.zz with e|e|e <;> omega
theorem PAt.nes (h:PAt w L p b nb rg Dv dbs s z fs):(p ≠ b/\p ≠ rg/\p ≠ nb/\p ∉ dbs)/\(b ≠ rg/\b ≠ nb/\b ∉ dbs)/\(rg ≠ nb/\rg ∉ dbs)/\nb ∉ dbs/\dbs.Nodup:=by
 have:=h.ne
 simp only [List.nodup_cons,List.mem_cons,not_or] at this
 exact this
theorem PAt.db_mem (h:PAt w L p b nb rg Dv dbs s z fs) {i:Nat} (hi:i<Flm.now fs):dbs.getD i 0 ∈ dbs:=by
 have:=h.n1
 rw [List.getD_eq_getElem?_getD,List.getElem?_eq_getElem (by omega)]
 exact List.getElem_mem _
theorem PAt.frm {S:Nat->Prop} (h:PAt w L p b nb rg Dv dbs s z fs) (f:Frm S w w') (hn:∀ k,(k=p \/ k=b \/ k=rg \/ k=nb \/ k ∈ dbs \/ Dv.ownBlock=some k)->¬ S k):PAt w' L p b nb rg Dv dbs s z fs:=by
 have hp:=hn p (.inl rfl)
 refine ⟨h.pr.on (f.block b h.up.2 (hn b (.inr (.inl rfl)))),h.ok,h.err,f.cell h.c0 hp,f.cell h.c1 hp,f.cell h.c2 hp,f.cell h.c3 hp,f.cell h.c4 hp,f.cell h.c5 hp,fun o=>(World.frozen?_of_block (a:=⟨p,o,none⟩) (f.block p h.up.1 hp)).trans (h.fz o),
  f.owns h.rows (fun k e=>hn k (.inr (.inr (.inr (.inr (.inr e)))))),fun i hi=>f.pixs (h.dn i hi) (hn _ (.inr (.inr (.inr (.inr (.inl (h.db_mem hi))))))),f.pixs h.nw (hn _ (.inr (.inr (.inr (.inl rfl))))),f.bools h.read (hn _ (.inr (.inr (.inl rfl)))),h.n1,h.n2,h.zz,h.ne,h.nd,h.px,h.lo,Nat.lt_of_lt_of_le h.up.1 f.size,Nat.lt_of_lt_of_le h.up.2 f.size⟩
theorem PAt.below (h:PAt w L p b nb rg Dv dbs s z fs) (f:Below w.heap.size w w'):PAt w' L p b nb rg Dv dbs s z fs :=
 h.frm (Frm.of_below (S:=fun _=>False) f) (fun _ _ e=>e)
theorem PAt.reader (h:PAt w L p b nb rg Dv dbs s z fs) {r:RS} (hr:PR w' b s r) (hok:Rdr.Ok s r) (he:r.err=0) (f:Frm (oneS b) w w'):PAt w' L p b nb rg Dv dbs s z { fs with r:=r }:=by
 obtain ⟨⟨n1,n2,n3,n4⟩,⟨n5,n6,n7⟩,⟨n8,n9⟩,n10,n11⟩:=h.nes
 have hS:∀ k,k ≠ b->¬ oneS b k:=fun k h1 e=>h1 e
 have hp:=hS p n1
 refine ⟨hr,hok,he,f.cell h.c0 hp,f.cell h.c1 hp,f.cell h.c2 hp,f.cell h.c3 hp,f.cell h.c4 hp,f.cell h.c5 hp,fun o=>(World.frozen?_of_block (a:=⟨p,o,none⟩) (f.block p h.up.1 hp)).trans (h.fz o),
  f.owns h.rows (fun k e=>hS k (h.nd k e).2.1),fun i hi=>f.pixs (h.dn i hi) (hS _ (fun e=>n7 (e ▸ h.db_mem hi))),f.pixs h.nw (hS _ (Ne.symm n6)),f.bools h.read (hS _ (Ne.symm n5)),h.n1,h.n2,h.zz,h.ne,h.nd,h.px,h.lo,Nat.lt_of_lt_of_le h.up.1 f.size,Nat.lt_of_lt_of_le h.up.2 f.size⟩
theorem PAt.put (h:PAt w L p b nb rg Dv dbs s z fs) {k:Nat} (hk:k<z*z) {q:Px} (hq:Flm.okPx q):PAt (((w.setCell ⟨nb,k*3,none⟩ (.int .u8 q.1)).setCell ⟨nb,k*3+1,none⟩ (.int .u8 q.2.1)).setCell ⟨nb,k*3+2,none⟩ (.int .u8 q.2.2)) L p b nb rg Dv dbs s z (Flm.put fs k q):=by
 obtain ⟨⟨n1,n2,n3,n4⟩,⟨n5,n6,n7⟩,⟨n8,n9⟩,n10,n11⟩:=h.nes
 have hnow:Flm.now fs<fs.frs.length:=by have:=h.n2;unfold Flm.now;omega
 have f:Frm (fun k=>k=nb) w (((w.setCell ⟨nb,k*3,none⟩ (.int .u8 q.1)).setCell ⟨nb,k*3+1,none⟩ (.int .u8 q.2.1)).setCell ⟨nb,k*3+2,none⟩ (.int .u8 q.2.2)) :=
  Frm.setCell (p:=⟨nb,k*3+2,none⟩) (Frm.setCell (p:=⟨nb,k*3+1,none⟩) (Frm.setCell (p:=⟨nb,k*3,none⟩) (Frm.refl (fun k=>k=nb) w) (.inl rfl) _) (.inl rfl) _) (.inl rfl) _
 have hl:(Flm.put fs k q).frs.length=fs.frs.length:=Flm.put_len fs k q
 have hnw:Flm.now (Flm.put fs k q)=Flm.now fs:=by unfold Flm.now;rw [hl]
 refine ⟨h.pr.on (f.block b h.up.2 n6),h.ok,h.err,f.cell h.c0 n3,f.cell h.c1 n3,f.cell h.c2 n3,f.cell h.c3 n3,f.cell h.c4 n3,f.cell h.c5 n3,fun o=>(World.frozen?_of_block (a:=⟨p,o,none⟩) (f.block p h.up.1 n3)).trans (h.fz o),
  ?_,?_,?_,f.bools h.read n8,h.n1.trans hnw.symm,by rw [hl];exact h.n2,h.zz,h.ne,h.nd,?_,h.lo,Nat.lt_of_lt_of_le h.up.1 f.size,Nat.lt_of_lt_of_le h.up.2 f.size⟩
 ·rw [hnw];exact f.owns h.rows (fun k e=>(h.nd k e).2.2.2.1)
 ·intro i hi
  rw [hnw] at hi
  have e1:(Flm.put fs k q).frs.getD i []=fs.frs.getD i []:=by
   unfold Flm.put
   simp only [List.getD_eq_getElem?_getD,List.getElem?_set]
   rw [if_neg (by omega)]
  rw [e1]
  exact f.pixs (h.dn i hi) (fun e=>n10 (e ▸ h.db_mem hi))
 ·have e1:(Flm.put fs k q).frs.getD (Flm.now fs) []=(fs.frs.getD (Flm.now fs) []).set k q:=by
   unfold Flm.put
   simp [List.getD_eq_getElem?_getD,hnow]
  rw [hnw,e1]
  exact h.nw.store k hk q
 ·intro i j
  rcases Flm.px_put fs k q i j with e|e <;> rw [e]
  ·exact h.px i j
  ·exact hq
theorem PAt.see (h:PAt w L p b nb rg Dv dbs s z fs) (k:Nat):PAt (w.setCell ⟨rg,k,none⟩ (.bool true)) L p b nb rg Dv dbs s z { fs with rd:=fs.rd.set k true }:=by
 obtain ⟨⟨n1,n2,n3,n4⟩,⟨n5,n6,n7⟩,⟨n8,n9⟩,n10,n11⟩:=h.nes
 have f:Frm (fun k=>k=rg) w (w.setCell ⟨rg,k,none⟩ (.bool true)):=Frm.setCell (p:=⟨rg,k,none⟩) (Frm.refl (fun k=>k=rg) w) (.inl rfl) _
 exact ⟨h.pr.on (f.block b h.up.2 n5),h.ok,h.err,f.cell h.c0 n2,f.cell h.c1 n2,f.cell h.c2 n2,f.cell h.c3 n2,f.cell h.c4 n2,f.cell h.c5 n2,fun o=>(World.frozen?_of_block (a:=⟨p,o,none⟩) (f.block p h.up.1 n2)).trans (h.fz o),
  f.owns h.rows (fun k e=>(h.nd k e).2.2.1),fun i hi=>f.pixs (h.dn i hi) (fun e=>n9 (e ▸ h.db_mem hi)),f.pixs h.nw (fun e=>n8 e.symm),h.read.store k true,h.n1,h.n2,h.zz,h.ne,h.nd,h.px,h.lo,Nat.lt_of_lt_of_le h.up.1 f.size,Nat.lt_of_lt_of_le h.up.2 f.size⟩
theorem pSetP (h:PAt w L p b nb rg Dv dbs s z fs) (x y:Nat) (q:Px) (hx:x<z) (hy:y<z) (hq:Flm.okPx q) :
  Calls Tryz.prog 166 #[.agg #[.int .i64 z,.slice (some ⟨nb,0,none⟩) (z*z) (z*z)],.int .i64 x,.int .i64 y,.agg #[.int .u8 q.1,.int .u8 q.2.1,.int .u8 q.2.2]] w fun e w'=>e=.returned (.tuple #[])/\PAt w' L p b nb rg Dv dbs s z (Flm.put fs (y*z+x) q)/\Frm (fun k=>k=nb) w w':=by
 have hk:=spot_lt hx hy
 obtain ⟨k0,k1,k2⟩:=h.nw.cell (y*z+x) hk
 have fr:=h.nw.frozen
 refine (pSet_raw w nb (z*z) z x y q.1 q.2.1 q.2.2 _ _ _ _ rfl hk h.zzle k0 k1 k2 (fr _) (fr _) (fr _)).mono ?_
 rintro e w' ⟨rfl,rfl⟩
 have h1:=h.below (((Below.refl _ w).alloc (Nat.le_refl _) (.cells #[.int .i64 z,.slice (some ⟨nb,0,none⟩) (z*z) (z*z)] 89)).alloc (by simp) (.cells #[.int .u8 q.1,.int .u8 q.2.1,.int .u8 q.2.2] 50))
 refine ⟨rfl,h1.put hk hq,?_⟩
 exact Frm.setCell (p:=⟨nb,_,none⟩) (Frm.setCell (p:=⟨nb,_,none⟩) (Frm.setCell (p:=⟨nb,_,none⟩) (((Frm.refl (fun k=>k=nb) w).alloc _).alloc _) (.inl rfl) _) (.inl rfl) _) (.inl rfl) _
end
section
open Go.RowKit
open Flm (Px FS)
def goesOn (w':World) (L p b nb rg:Nat) (Dv:Value) (dbs:List Nat) (s:ByteArray) (z:Nat) (fs:FS) (r:RS):Prop:=r.err=0->PAt w' L p b nb rg Dv dbs s z { fs with r:=r }
theorem PAt.bit {w:World} {L p b nb rg:Nat} {Dv:Value} {dbs:List Nat} {s:ByteArray} {z:Nat} {fs:FS} {A:Nat->Addr} (h:PAt w L p b nb rg Dv dbs s z fs) (hs:s.size<=maxLen) (E:ErrsL w A L) (k:Nat) (hk:k<400) :
  Calls Tryz.prog 129 #[.pointer (some ⟨b,0,none⟩),.int .i64 k] w fun x w'=>x=numRet A (Rdr.bitV fs.r k) (Rdr.bitS s fs.r k).err/\goesOn w' L p b nb rg Dv dbs s z fs (Rdr.bitS s fs.r k)/\Frm (oneS b) w w':=by
 refine (pBitA w b L s fs.r k A h.pr h.ok h.err hs hk h.lo.2 E).mono ?_
 rintro x w' ⟨rfl,h1,h2⟩
 exact ⟨rfl,fun he=>h.reader (h1 he) (h.ok.bitS hk) he h2,h2⟩
theorem PAt.number {w:World} {L p b nb rg:Nat} {Dv:Value} {dbs:List Nat} {s:ByteArray} {z:Nat} {fs:FS} {A:Nat->Addr} (h:PAt w L p b nb rg Dv dbs s z fs) (hs:s.size<=maxLen) (E:ErrsL w A L) (hLw:L<=w.heap.size) (k:Nat) (hk:k+22<=400) :
  Calls Tryz.prog 167 #[.pointer (some ⟨b,0,none⟩),.int .i64 k] w fun x w'=>x=numRet A (Rdr.number s fs.r k).1 (Rdr.number s fs.r k).2.err/\goesOn w' L p b nb rg Dv dbs s z fs (Rdr.number s fs.r k).2/\Frm (oneS b) w w':=by
 refine (pNumber w b L s fs.r k A h.pr h.ok h.err hs hk h.lo.2 hLw E).mono ?_
 rintro x w' ⟨rfl,h1,h2⟩
 exact ⟨rfl,fun he=>h.reader (h1 he) (Rdr.number_ok h.ok hk) he h2,h2⟩
theorem PAt.signed {w:World} {L p b nb rg:Nat} {Dv:Value} {dbs:List Nat} {s:ByteArray} {z:Nat} {fs:FS} {A:Nat->Addr} (h:PAt w L p b nb rg Dv dbs s z fs) (hs:s.size<=maxLen) (E:ErrsL w A L) (hLw:L<=w.heap.size) (k:Nat) (hk:k+22<=400) :
  Calls Tryz.prog 165 #[.pointer (some ⟨b,0,none⟩),.int .i64 k] w fun x w'=>x=numRet A (Rdr.signed s fs.r k) (Rdr.number s fs.r k).2.err/\goesOn w' L p b nb rg Dv dbs s z fs (Rdr.number s fs.r k).2/\Frm (oneS b) w w':=by
 refine (pSigned w b L s fs.r k A h.pr h.ok h.err hs hk h.lo.2 hLw E).mono ?_
 rintro x w' ⟨rfl,h1,h2⟩
 exact ⟨rfl,fun he=>h.reader (h1 he) (Rdr.number_ok h.ok hk) he h2,h2⟩
theorem PAt.errs {w w':World} {L p b nb rg:Nat} {Dv:Value} {dbs:List Nat} {s:ByteArray} {z:Nat} {fs:FS} {A:Nat->Addr} (h:PAt w L p b nb rg Dv dbs s z fs) (hLw:L<=w.heap.size) (E:ErrsL w A L) (f:Frm (oneS b) w w'):ErrsL w' A L :=
 E.below (f.below hLw (fun k e=>by rw [show k=b from e];exact h.lo.2))
def Flm.kindR (s:ByteArray) (r:RS):RS:=if (Rdr.bitS s r 2).err=0 then Rdr.bitS s (Rdr.bitS s r 2) (3+(Rdr.bitV r 2).toNat) else Rdr.bitS s r 2
def Flm.kindV (s:ByteArray) (r:RS):Int:=2*Rdr.bitV r 2+Rdr.bitV (Rdr.bitS s r 2) (3+(Rdr.bitV r 2).toNat)
set_option maxRecDepth 20000 in
theorem pKind (w:World) (L p b nb rg:Nat) (Dv:Value) (dbs:List Nat) (s:ByteArray) (z:Nat) (fs:FS) (A:Nat->Addr) (h:PAt w L p b nb rg Dv dbs s z fs) (hs:s.size<=maxLen) (E:ErrsL w A L) (hLw:L<=w.heap.size) :
  Calls Tryz.prog 151 #[.pointer (some ⟨p,0,none⟩)] w fun x w'=>(∃ v,x=.returned (.tuple #[.int .i64 v,errA A (Flm.kindR s fs.r).err])/\((Flm.kindR s fs.r).err=0->v=Flm.kindV s fs.r))/\goesOn w' L p b nb rg Dv dbs s z fs (Flm.kindR s fs.r)/\Frm (oneS b) w w':=by
 have c0:=h.c0
 have hpb:¬ oneS b p:=h.nes.1.1
 have HB:=h.bit hs E 2 (by decide)
 have hr1:=Rdr.bitS_errs (s:=s) (k:=2) h.err
 obtain ⟨r1,hr1e⟩:∃ r1,r1=Rdr.bitS s fs.r 2:=⟨_,rfl⟩
 rw [<- hr1e] at HB hr1
 rw [show ((2:Nat):Int)=2 from rfl] at HB
 rcases hr1 with he|he
 ·rw [numRet_good A _ he] at HB
  rcases Rdr.bitV_cases fs.r 2 with hv|hv
  ·rw [hv] at HB
   have hr2:=Rdr.bitS_errs (s:=s) (k:=3) he
   obtain ⟨r2,hr2e⟩:∃ r2,r2=Rdr.bitS s r1 3:=⟨_,rfl⟩
   rw [<- hr2e] at hr2
   have HR:Hid (Flm.kindR s fs.r=r2):=by unfold Hid Flm.kindR;rw [<- hr1e,if_pos he,hv,hr2e];rfl
   have HV:Hid (Flm.kindV s fs.r=2*0+Rdr.bitV r1 3):=by unfold Hid Flm.kindV;rw [<- hr1e,hv];rfl
   have HBH:Hid (Calls Tryz.prog 129 #[.pointer (some ⟨b,0,none⟩),.int .i64 2] w fun x w'=>x=.returned (.tuple #[.int .i64 0,.nilIface])/\goesOn w' L p b nb rg Dv dbs s z fs r1/\Frm (oneS b) w w'):=HB
   have HB2:∀ w1,goesOn w1 L p b nb rg Dv dbs s z fs r1->Frm (oneS b) w w1->Calls Tryz.prog 129 #[.pointer (some ⟨b,0,none⟩),.int .i64 3] w1 fun x w'=>x=numRet A (Rdr.bitV r1 3) r2.err/\goesOn w' L p b nb rg Dv dbs s z fs r2/\Frm (oneS b) w1 w':=fun w1 g1 f1=>by
    have:=(g1 he).bit hs (h.errs hLw E f1) 3 (by decide)
    rw [hr2e]
    exact this
   have T1:Hid True:=trivial
   have hc0:Hid (∀ w1,Frm (oneS b) w w1->w1.cell? ⟨p,0,none⟩=some (.pointer (some ⟨b,0,none⟩))):=fun w1 f=>f.cell c0 hpb
   rcases hr2 with he2|he2
   ·obtain ⟨v2,hv2⟩:∃ v2,v2=Rdr.bitV r1 3:=⟨_,rfl⟩
    have hvb:v2=0 \/ v2=1:=by rw [hv2];exact Rdr.bitV_cases _ _
    have HV2:Hid (v2=Rdr.bitV r1 3):=hv2
    have HE2:Hid (r2.err=0):=he2
    have HB2H:Hid (∀ w1,goesOn w1 L p b nb rg Dv dbs s z fs r1->Frm (oneS b) w w1->Calls Tryz.prog 129 #[.pointer (some ⟨b,0,none⟩),.int .i64 3] w1 fun x w'=>x=.returned (.tuple #[.int .i64 v2,.nilIface])/\goesOn w' L p b nb rg Dv dbs s z fs r2/\Frm (oneS b) w1 w'):=by
     rw [numRet_good A _ he2,<- hv2] at HB2;exact HB2
    clear HB HB2 he he2 hr1e hr2e h E hv hv2 hpb
    go_enter Tryz.func151,Tryz.ntmps151
    go_wp2_with (first
     | (clear T1;go_at_call 129;refine HBH.out.mono ?_;rintro x w1 ⟨rfl,h1,f1⟩;have d0:=hc0.out w1 f1)
     | (go_at_call 129;refine (HB2H.out w1 h1 f1).mono ?_;rintro x w2 ⟨rfl,h2,f2⟩))
    all_goals
     go_ret2
     rw [HR.out,HE2.out,errA_zero]
     exact ⟨⟨_,rfl,fun _=>(by rw [HV.out,<- HV2.out];omega)⟩,h2,f1.trans f2⟩
   ·have HE2:Hid (r2.err=5):=he2
    have HB2H:Hid (∀ w1,goesOn w1 L p b nb rg Dv dbs s z fs r1->Frm (oneS b) w w1->Calls Tryz.prog 129 #[.pointer (some ⟨b,0,none⟩),.int .i64 3] w1 fun x w'=>x=.returned (.tuple #[.int .i64 0,.iface 278 (.pointer (some (A 5)))])/\goesOn w' L p b nb rg Dv dbs s z fs r2/\Frm (oneS b) w1 w'):=by
     rw [numRet_bad A _ (by rw [he2];decide),he2] at HB2;exact HB2
    clear HB HB2 he he2 hr1e hr2e h E hv hpb
    go_enter Tryz.func151,Tryz.ntmps151
    go_wp2_with (first
     | (clear T1;go_at_call 129;refine HBH.out.mono ?_;rintro x w1 ⟨rfl,h1,f1⟩;have d0:=hc0.out w1 f1)
     | (go_at_call 129;refine (HB2H.out w1 h1 f1).mono ?_;rintro x w2 ⟨rfl,h2,f2⟩))
    all_goals
     go_ret2
     rw [HR.out,HE2.out]
     exact ⟨⟨_,rfl,fun h=>absurd h (by decide)⟩,h2,f1.trans f2⟩
  ·rw [hv] at HB
   have hr2:=Rdr.bitS_errs (s:=s) (k:=4) he
   obtain ⟨r2,hr2e⟩:∃ r2,r2=Rdr.bitS s r1 4:=⟨_,rfl⟩
   rw [<- hr2e] at hr2
   have HR:Hid (Flm.kindR s fs.r=r2):=by unfold Hid Flm.kindR;rw [<- hr1e,if_pos he,hv,hr2e];rfl
   have HV:Hid (Flm.kindV s fs.r=2*1+Rdr.bitV r1 4):=by unfold Hid Flm.kindV;rw [<- hr1e,hv];rfl
   have HBH:Hid (Calls Tryz.prog 129 #[.pointer (some ⟨b,0,none⟩),.int .i64 2] w fun x w'=>x=.returned (.tuple #[.int .i64 1,.nilIface])/\goesOn w' L p b nb rg Dv dbs s z fs r1/\Frm (oneS b) w w'):=HB
   have HB2:∀ w1,goesOn w1 L p b nb rg Dv dbs s z fs r1->Frm (oneS b) w w1->Calls Tryz.prog 129 #[.pointer (some ⟨b,0,none⟩),.int .i64 4] w1 fun x w'=>x=numRet A (Rdr.bitV r1 4) r2.err/\goesOn w' L p b nb rg Dv dbs s z fs r2/\Frm (oneS b) w1 w':=fun w1 g1 f1=>by
    have:=(g1 he).bit hs (h.errs hLw E f1) 4 (by decide)
    rw [hr2e]
    exact this
   have T1:Hid True:=trivial
   have hc0:Hid (∀ w1,Frm (oneS b) w w1->w1.cell? ⟨p,0,none⟩=some (.pointer (some ⟨b,0,none⟩))):=fun w1 f=>f.cell c0 hpb
   rcases hr2 with he2|he2
   ·obtain ⟨v2,hv2⟩:∃ v2,v2=Rdr.bitV r1 4:=⟨_,rfl⟩
    have hvb:v2=0 \/ v2=1:=by rw [hv2];exact Rdr.bitV_cases _ _
    have HV2:Hid (v2=Rdr.bitV r1 4):=hv2
    have HE2:Hid (r2.err=0):=he2
    have HB2H:Hid (∀ w1,goesOn w1 L p b nb rg Dv dbs s z fs r1->Frm (oneS b) w w1->Calls Tryz.prog 129 #[.pointer (some ⟨b,0,none⟩),.int .i64 4] w1 fun x w'=>x=.returned (.tuple #[.int .i64 v2,.nilIface])/\goesOn w' L p b nb rg Dv dbs s z fs r2/\Frm (oneS b) w1 w'):=by
     rw [numRet_good A _ he2,<- hv2] at HB2;exact HB2
    clear HB HB2 he he2 hr1e hr2e h E hv hv2 hpb
    go_enter Tryz.func151,Tryz.ntmps151
    go_wp2_with (first
     | (clear T1;go_at_call 129;refine HBH.out.mono ?_;rintro x w1 ⟨rfl,h1,f1⟩;have d0:=hc0.out w1 f1)
     | (go_at_call 129;refine (HB2H.out w1 h1 f1).mono ?_;rintro x w2 ⟨rfl,h2,f2⟩))
    all_goals
     go_ret2
     rw [HR.out,HE2.out,errA_zero]
     exact ⟨⟨_,rfl,fun _=>(by rw [HV.out,<- HV2.out];omega)⟩,h2,f1.trans f2⟩
   ·have HE2:Hid (r2.err=5):=he2
    have HB2H:Hid (∀ w1,goesOn w1 L p b nb rg Dv dbs s z fs r1->Frm (oneS b) w w1->Calls Tryz.prog 129 #[.pointer (some ⟨b,0,none⟩),.int .i64 4] w1 fun x w'=>x=.returned (.tuple #[.int .i64 0,.iface 278 (.pointer (some (A 5)))])/\goesOn w' L p b nb rg Dv dbs s z fs r2/\Frm (oneS b) w1 w'):=by
     rw [numRet_bad A _ (by rw [he2];decide),he2] at HB2;exact HB2
    clear HB HB2 he he2 hr1e hr2e h E hv hpb
    go_enter Tryz.func151,Tryz.ntmps151
    go_wp2_with (first
     | (clear T1;go_at_call 129;refine HBH.out.mono ?_;rintro x w1 ⟨rfl,h1,f1⟩;have d0:=hc0.out w1 f1)
     | (go_at_call 129;refine (HB2H.out w1 h1 f1).mono ?_;rintro x w2 ⟨rfl,h2,f2⟩))
    all_goals
     go_ret2
     rw [HR.out,HE2.out]
     exact ⟨⟨_,rfl,fun h=>absurd h (by decide)⟩,h2,f1.trans f2⟩
 ·rw [numRet_bad A _ (by rw [he];decide),he] at HB
  have HR:Hid (Flm.kindR s fs.r=r1):=by unfold Hid Flm.kindR;rw [<- hr1e,if_neg (by rw [he];decide)]
  have HE:Hid (r1.err=5):=he
  have HBH:Hid (Calls Tryz.prog 129 #[.pointer (some ⟨b,0,none⟩),.int .i64 2] w fun x w'=>x=.returned (.tuple #[.int .i64 0,.iface 278 (.pointer (some (A 5)))])/\goesOn w' L p b nb rg Dv dbs s z fs r1/\Frm (oneS b) w w'):=HB
  clear HB he hr1e h E
  go_enter Tryz.func151,Tryz.ntmps151
  go_wp2_with (go_at_call 129;refine HBH.out.mono ?_;rintro x w1 ⟨rfl,h1,f1⟩)
  go_ret2
  rw [HR.out,HE.out]
  exact ⟨⟨0,rfl,fun h=>absurd h (by decide)⟩,fun h=>absurd h (by rw [HE.out];decide),f1⟩
end
section
open Go.RowKit Go.Shelf
open Flm (Px FS)
attribute [local go_sem] Oper.semAt_some
theorem Flm.moves_snoc (z f:Nat) (dx dy:Int) (i j:Nat):∀ (ps:List (Nat × Nat)) (fs:FS),Flm.moves z f dx dy (ps++[(i,j)]) fs=Flm.put (Flm.moves z f dx dy ps fs) (j*z+i) (Flm.px (Flm.moves z f dx dy ps fs) f (((j:Int)+dy).toNat*z+((i:Int)+dx).toNat))
 | [],fs=>rfl
 | p :: ps,fs=>by
  rw [List.cons_append]
  unfold Flm.moves
  exact Flm.moves_snoc z f dx dy i j ps _
def paB (p b nb rg:Nat) (Dv:Value) (dbs:List Nat) (k:Nat):Prop:=k=p \/ k=b \/ k=rg \/ k=nb \/ k ∈ dbs \/ Dv.ownBlock=some k
theorem PAt.lt {w:World} {L p b nb rg:Nat} {Dv:Value} {dbs:List Nat} {s:ByteArray} {z:Nat} {fs:FS} (h:PAt w L p b nb rg Dv dbs s z fs):∀ k,paB p b nb rg Dv dbs k->k<w.heap.size:=by
 rintro k (e|e|e|e|e|e)
 ·rw [e];exact h.up.1
 ·rw [e];exact h.up.2
 ·rw [e];exact h.read.lt.2
 ·rw [e];exact h.nw.lt.2
 ·obtain ⟨i,hi,rfl⟩:=List.getElem_of_mem e
  have:=(h.dn i (by rw [<- h.n1];exact hi)).lt.2
  rw [List.getD_eq_getElem?_getD,List.getElem?_eq_getElem hi] at this
  exact this
 ·exact (World.ownsRow.lt h.rows k e).2
theorem PAt.grown {w w':World} {L p b nb rg:Nat} {Dv:Value} {dbs:List Nat} {s:ByteArray} {z:Nat} {fs:FS} {B:Nat} {row:Option Nat} (h:PAt w L p b nb rg Dv dbs s z fs) (hB:∀ k,paB p b nb rg Dv dbs k->k<B) (hg:w.grownBy w' row) (hr:∀ r,row=some r->B<=r):PAt w' L p b nb rg Dv dbs s z fs :=
 h.frm (S:=fun k=>row=some k) ((Frm.refl _ w).grown hg (fun k e=>.inl e)) (fun k hk e=>by have:=hB k hk;have:=hr k e;omega)
structure Box4 (W:World) (H:Nat) (o0 o1 o2 o3:Obj):Prop where
 b0:W.heap[H]?=some o0
 b1:W.heap[H+1]?=some o1
 b2:W.heap[H+1+1]?=some o2
 b3:W.heap[H+1+1+1]?=some o3
theorem Box4.frm {S:Nat->Prop} {W W':World} {H:Nat} {o0 o1 o2 o3:Obj} (h:Box4 W H o0 o1 o2 o3) (f:Frm S W W') (hS:∀ k,S k->k<H \/ H+4<=k):Box4 W' H o0 o1 o2 o3 :=
 ⟨(f.block _ (heap_lt h.b0) (fun e=>by have:=hS _ e;omega)).trans h.b0,(f.block _ (heap_lt h.b1) (fun e=>by have:=hS _ e;omega)).trans h.b1,(f.block _ (heap_lt h.b2) (fun e=>by have:=hS _ e;omega)).trans h.b2,(f.block _ (heap_lt h.b3) (fun e=>by have:=hS _ e;omega)).trans h.b3⟩
set_option maxRecDepth 100000 in
theorem pTakeF (w:World) (L p b nb rg sb f:Nat) (Dv:Value) (dbs:List Nat) (s:ByteArray) (z:Nat) (fs:FS) (h:PAt w L p b nb rg Dv dbs s z fs) (x y n u v:Nat) (hx:x+n<=z) (hy:y+n<=z) (hu:u+n<=z) (hv:v+n<=z)
  (hsrc:∀ w' fs',PAt w' L p b nb rg Dv dbs s z fs'->Pixs w' L sb (z*z) (fs'.frs.getD f [])) :
  Calls Tryz.prog 171 #[.pointer (some ⟨p,0,none⟩),.agg #[.int .i64 x,.int .i64 y,.int .i64 n],.agg #[.int .i64 z,.slice (some ⟨sb,0,none⟩) (z*z) (z*z)],.agg #[.int .i64 u,.int .i64 v,.int .i64 n]] w fun e w'=>e=.returned (.tuple #[])/\PAt w' L p b nb rg Dv dbs s z (Flm.moves z f ((u:Int)-x) ((v:Int)-y) (Flm.spots x y n) fs)/\Frm (fun k=>k=nb) w w':=by
 obtain ⟨Z,hZ⟩:∃ Z,Z=z*z:=⟨_,rfl⟩
 have hz16:=h.z16
 have hzz:=h.zzle
 have HSRC:Hid (∀ w' fs',PAt w' L p b nb rg Dv dbs s z fs'->Pixs w' L sb (z*z) (fs'.frs.getD f [])):=hsrc
 obtain ⟨H,hH⟩:∃ H,H=w.heap.size:=⟨_,rfl⟩
 obtain ⟨W5,hW5⟩:∃ W5,W5=((((w.alloc (.cells #[.pointer (some ⟨p,0,none⟩)] 107)).alloc (.cells #[.int .i64 x,.int .i64 y,.int .i64 n] 100)).alloc (.cells #[.int .i64 z,.slice (some ⟨sb,0,none⟩) Z Z] 89)).alloc (.cells #[.int .i64 u,.int .i64 v,.int .i64 n] 100)).alloc (.cells #[.int .i64 x,.int .i64 y,.int .i64 n] 100):=⟨_,rfl⟩
 have hB5:Below w.heap.size w W5:=by rw [hW5];exact (((((Below.refl _ w).alloc (Nat.le_refl _) _).alloc (by simp) _).alloc (by simp;omega) _).alloc (by simp;omega) _).alloc (by simp;omega) _
 have hs5:W5.heap.size=H+5:=by rw [hW5,hH];simp
 have hx4:Box4 W5 H (.cells #[.pointer (some ⟨p,0,none⟩)] 107) (.cells #[.int .i64 x,.int .i64 y,.int .i64 n] 100) (.cells #[.int .i64 z,.slice (some ⟨sb,0,none⟩) Z Z] 89) (.cells #[.int .i64 u,.int .i64 v,.int .i64 n] 100):=by
  obtain ⟨o0,o1,o2,o3⟩:=box4 w (.cells #[.pointer (some ⟨p,0,none⟩)] 107) (.cells #[.int .i64 x,.int .i64 y,.int .i64 n] 100) (.cells #[.int .i64 z,.slice (some ⟨sb,0,none⟩) Z Z] 89) (.cells #[.int .i64 u,.int .i64 v,.int .i64 n] 100)
  rw [hW5,hH]
  exact ⟨(Below.heap_alloc _ _ _ (by simp only [World.size_alloc];omega)).trans o0,(Below.heap_alloc _ _ _ (by simp only [World.size_alloc];omega)).trans o1,(Below.heap_alloc _ _ _ (by simp only [World.size_alloc];omega)).trans o2,(Below.heap_alloc _ _ _ (by simp only [World.size_alloc];omega)).trans o3⟩
 have hit:W5.heap[H+1+1+1+1]?=some (.cells #[.int .i64 x,.int .i64 y,.int .i64 n] 100):=by
  have:=heap_alloc_last ((((w.alloc (.cells #[.pointer (some ⟨p,0,none⟩)] 107)).alloc (.cells #[.int .i64 x,.int .i64 y,.int .i64 n] 100)).alloc (.cells #[.int .i64 z,.slice (some ⟨sb,0,none⟩) Z Z] 89)).alloc (.cells #[.int .i64 u,.int .i64 v,.int .i64 n] 100)) (.cells #[.int .i64 x,.int .i64 y,.int .i64 n] 100)
  simp only [World.size_alloc] at this
  rw [hW5,hH]
  exact this
 have hlt:∀ k,paB p b nb rg Dv dbs k->k<H:=by rw [hH];exact h.lt
 have hP5:=h.below hB5
 have hnbH:nb<H:=hlt nb (.inr (.inr (.inr (.inl rfl))))
 have hmx:Tryz.prog.follows .mixedOrders=true:=by kernel_rfl
 have HW5:Hid (W5=((((w.alloc (.cells #[.pointer (some ⟨p,0,none⟩)] 107)).alloc (.cells #[.int .i64 x,.int .i64 y,.int .i64 n] 100)).alloc (.cells #[.int .i64 z,.slice (some ⟨sb,0,none⟩) Z Z] 89)).alloc (.cells #[.int .i64 u,.int .i64 v,.int .i64 n] 100)).alloc (.cells #[.int .i64 x,.int .i64 y,.int .i64 n] 100)):=hW5
 have HZ:Hid (Z=z*z):=hZ
 have HB5:Hid (Below w.heap.size w W5):=hB5
 have HP5:Hid (PAt W5 L p b nb rg Dv dbs s z fs):=hP5
 have HLT:Hid (∀ k,paB p b nb rg Dv dbs k->k<H):=hlt
 have HX4:Hid (Box4 W5 H (.cells #[.pointer (some ⟨p,0,none⟩)] 107) (.cells #[.int .i64 x,.int .i64 y,.int .i64 n] 100) (.cells #[.int .i64 z,.slice (some ⟨sb,0,none⟩) Z Z] 89) (.cells #[.int .i64 u,.int .i64 v,.int .i64 n] 100)):=hx4
 have HIT:Hid (W5.heap[H+1+1+1+1]?=some (.cells #[.int .i64 x,.int .i64 y,.int .i64 n] 100)):=hit
 have HH:Hid (H=w.heap.size):=hH
 rw [<- hZ]
 clear hW5 hsrc h hB5 hP5 hlt hx4 hit hZ hH
 refine (callsIn_wide (n:=5)).1 ?_
 refine callsIn_of_wp_marks Tryz.func171 rfl trivial ?_ rfl
 simp only [Tryz.ntmps171,List.size_toArray,List.length_cons,List.length_nil,Nat.reduceAdd,Nat.reduceSub,Array.replicate_succ,Array.replicate_zero,List.push_toArray,List.append_toArray,List.nil_append,List.cons_append]
 gi_wp2_with (refine ⟨trivial,?_⟩;gi_at_call 105;refine (callsIn_wide.2 (pPoints _ _ _ _)).mono ?_;rintro e wq ⟨rfl,rfl⟩)
 rw [<- HW5.out,<- HH.out]
 refine wpIn_rangeFunc_ownF rfl (by decide) (gf:=131) (lb:=#[.pointer (some ⟨H+1+1+1+1,0,none⟩)]) rfl trivial (enters_of Tryz.func131 (by kernel_rfl) rfl)
  (points_stops Fence.wide (5-1) trivial rfl (by decide) (H+1+1+1+1) x y n (by omega) (by omega) W5 HIT.out)
  (fun h1 h2=>h2.trans h1) (fun W l o o' hl _ _ _=>World.putObj_heap_other (by omega)) (Below.refl _ _) (fun _=>rfl)
  (fun pre W=>PAt W L p b nb rg Dv dbs s z (Flm.moves z f ((u:Int)-x) ((v:Int)-y) (pre.map (·.1)) fs)/\Box4 W H (.cells #[.pointer (some ⟨p,0,none⟩)] 107) (.cells #[.int .i64 x,.int .i64 y,.int .i64 n] 100) (.cells #[.int .i64 z,.slice (some ⟨sb,0,none⟩) Z Z] 89) (.cells #[.int .i64 u,.int .i64 v,.int .i64 n] 100)/\Frm (fun k=>k=nb) w W/\W.heap[H+1+1+1+1]?=some (.cells #[.int .i64 x,.int .i64 y,.int .i64 n] 100))
  (fun _ _ _=>False)
  ?own (fun _ _ _ _ _ hs _ _=>hs) ?start
  (fun pt=>{ tmps:=#[.pointer (some ⟨p,0,none⟩),.agg #[.int .i64 x,.int .i64 y,.int .i64 n],.agg #[.int .i64 z,.slice (some ⟨sb,0,none⟩) Z Z],.agg #[.int .i64 u,.int .i64 v,.int .i64 n],.pointer (some ⟨H,0,none⟩),.pointer (some ⟨H+1,0,none⟩),.pointer (some ⟨H+1+1,0,none⟩),.pointer (some ⟨H+1+1+1,0,none⟩),.int .i64 pt.1.1,.int .i64 pt.1.2,.agg #[.int .i64 x,.int .i64 y,.int .i64 n],.func (.func 131) #[] #[.pointer (some ⟨H+1+1+1+1,0,none⟩)],.int .i64 pt.1.1,.int .i64 pt.1.2,undef,undef,undef,undef,undef,undef,undef,undef,undef,undef,undef,undef,undef,undef,undef,undef,undef,undef,undef,undef,undef,undef,undef],defers:=[] }) ?assign ?body ?done ?stop
 case own =>
  rintro pre W W' row ⟨i1,i2,i3,i4⟩ hg hr
  have hr':∀ r,row=some r->H+5<=r:=fun r e=>by have:=(hr r e).1;omega
  have fg:Frm (fun k=>row=some k) W W':=(Frm.refl _ W).grown hg (fun k e=>.inl e)
  refine ⟨i1.grown (B:=H) HLT.out hg (fun r e=>by have:=hr' r e;omega),i2.frm fg (fun k e=>by have:=hr' k e;omega),?_,(fg.block _ (heap_lt i4) (fun e=>by have:=hr' _ e;omega)).trans i4⟩
  exact i3.grown hg (fun k e=>.inr (by have:=hr' k e;have:=HH.out;omega))
 case start=>exact ⟨HP5.out,HX4.out,Frm.of_below HB5.out,HIT.out⟩
 case assign =>
  intro l pt W K hK
  dsimp only [encPt]
  gi_wp2
  exact hK
 case body =>
  rintro l pre ⟨⟨PX,PY⟩,⟨hpx1,hpx2⟩,hpy1,hpy2⟩ W ⟨i1,i2,i3,i4⟩ hlen
  dsimp only at hpx1 hpx2 hpy1 hpy2 ⊢
  obtain ⟨q,hq⟩:∃ q,q=Flm.moves z f ((u:Int)-x) ((v:Int)-y) (pre.map (·.1)) fs:=⟨_,rfl⟩
  obtain ⟨UX,hUX⟩:∃ UX:Nat,UX=PX-x+u:=⟨_,rfl⟩
  obtain ⟨VY,hVY⟩:∃ VY:Nat,VY=PY-y+v:=⟨_,rfl⟩
  have hstep:Flm.moves z f ((u:Int)-x) ((v:Int)-y) ((pre++[(⟨(PX,PY),⟨hpx1,hpx2⟩,hpy1,hpy2⟩:Pt x y n)]).map (·.1)) fs=Flm.put q (PY*z+PX) (Flm.px q f (VY*z+UX)):=by
   rw [List.map_append,List.map_cons,List.map_nil,Flm.moves_snoc,<- hq]
   rw [show ((PY:Int)+((v:Int)-y)).toNat=VY by omega,show ((PX:Int)+((u:Int)-x)).toNat=UX by omega]
  rw [<- hq] at i1
  obtain ⟨Q,hQ⟩:∃ Q,Q=Flm.px q f (VY*z+UX):=⟨_,rfl⟩
  have hQok:Flm.okPx Q:=by rw [hQ];exact i1.px _ _
  have HAT:Hid (∀ wx,Below W.heap.size W wx->Calls Tryz.prog 113 #[.agg #[.int .i64 z,.slice (some ⟨sb,0,none⟩) Z Z],.int .i64 UX,.int .i64 VY] wx fun e w'=>e=.returned (.agg #[.int .u8 Q.1,.int .u8 Q.2.1,.int .u8 Q.2.2])/\Below wx.heap.size wx w'):=fun wx hb=>by
   have:=pAt (C:=z*z) wx sb z _ hzz (HSRC.out wx q (i1.below hb)).inn UX VY (by omega) (by omega)
   rw [HZ.out,hQ]
   exact this
  have HSET:Hid (∀ wx,Below W.heap.size W wx->Calls Tryz.prog 166 #[.agg #[.int .i64 z,.slice (some ⟨nb,0,none⟩) Z Z],.int .i64 PX,.int .i64 PY,.agg #[.int .u8 Q.1,.int .u8 Q.2.1,.int .u8 Q.2.2]] wx fun e w'=>e=.returned (.tuple #[])/\PAt w' L p b nb rg Dv dbs s z (Flm.put q (PY*z+PX) Q)/\Frm (fun k=>k=nb) wx w'):=fun wx hb=>by
   have:=pSetP (i1.below hb) PX PY Q (by omega) (by omega) hQok
   rw [HZ.out]
   exact this
  have d3:=i1.c3
  have d4:=i1.c4
  rw [<- HZ.out] at d4
  have k00:=cell_of_row _ _ 0 _ _ _ i2.b0
  have k10:=cell_of_row _ _ 0 _ _ _ i2.b1
  have k11:=cell_of_row _ _ 1 _ _ _ i2.b1
  have k20:=cell_of_row _ _ 0 _ _ _ i2.b2
  have k21:=cell_of_row _ _ 1 _ _ _ i2.b2
  have k30:=cell_of_row _ _ 0 _ _ _ i2.b3
  have k31:=cell_of_row _ _ 1 _ _ _ i2.b3
  simp at k00 k10 k11 k20 k21 k30 k31
  have hw1:IntKind.i64.wrap ((PX:Int)-x)=(PX:Int)-x:=by rw [IntKind.wrap_i64];omega
  have hw2:IntKind.i64.wrap ((PX:Int)-x+u)=(UX:Int):=by rw [IntKind.wrap_i64];omega
  have hw3:IntKind.i64.wrap ((PY:Int)-y)=(PY:Int)-y:=by rw [IntKind.wrap_i64];omega
  have hw4:IntKind.i64.wrap ((PY:Int)-y+v)=(VY:Int):=by rw [IntKind.wrap_i64];omega
  have HINV:Hid (Box4 W H (.cells #[.pointer (some ⟨p,0,none⟩)] 107) (.cells #[.int .i64 x,.int .i64 y,.int .i64 n] 100) (.cells #[.int .i64 z,.slice (some ⟨sb,0,none⟩) Z Z] 89) (.cells #[.int .i64 u,.int .i64 v,.int .i64 n] 100)/\Frm (fun k=>k=nb) w W/\W.heap[H+1+1+1+1]?=some (.cells #[.int .i64 x,.int .i64 y,.int .i64 n] 100)):=⟨i2,i3,i4⟩
  have HST:Hid (Flm.moves z f ((u:Int)-x) ((v:Int)-y) ((pre++[(⟨(PX,PY),⟨hpx1,hpx2⟩,hpy1,hpy2⟩:Pt x y n)]).map (·.1)) fs=Flm.put q (PY*z+PX) Q):=by rw [hQ];exact hstep
  have hnc:Hid (∃ v,W.cell? ⟨nb,0,none⟩=some v):=⟨_,(i1.nw.cell 0 (by rcases i1.zz with e|e|e <;> subst e <;> decide)).1⟩
  have hd:1<=5-1-1:=by decide
  have hpW:p<W.heap.size:=i1.up.1
  have hpnb:¬ p=nb:=i1.nes.1.2.2.1
  have hHW:H<W.heap.size:=heap_lt i2.b0
  have hHW1:H+1<W.heap.size:=heap_lt i2.b1
  have hHW2:H+1+1<W.heap.size:=heap_lt i2.b2
  have hHW3:H+1+1+1<W.heap.size:=heap_lt i2.b3
  clear hstep hq hQ hUX hVY i1 i2 i3 i4 hQok
  gi_wp2
  refine region_round_at (S:=fun w'=>w'.cell? ⟨H,0,none⟩=some (.pointer (some ⟨p,0,none⟩))/\w'.cell? ⟨H+1,0,none⟩=some (.int .i64 x)/\w'.cell? ⟨H+1,1,none⟩=some (.int .i64 y)/\w'.cell? ⟨H+1+1,0,none⟩=some (.int .i64 z)/\w'.cell? ⟨H+1+1,1,none⟩=some (.slice (some ⟨sb,0,none⟩) Z Z)/\w'.cell? ⟨H+1+1+1,0,none⟩=some (.int .i64 u)/\w'.cell? ⟨H+1+1+1,1,none⟩=some (.int .i64 v)/\w'.cell? ⟨p,3,none⟩=some (.int .i64 z)/\w'.cell? ⟨p,4,none⟩=some (.slice (some ⟨nb,0,none⟩) Z Z)/\Frm (fun k=>k=nb) W w') 23 #[false,false,false,false,false,false,false,false,false,false,false,false,false,false,false,false,false,false,false,false,false,false,false] rfl rfl hmx (by kernel_rfl) (fun ⟨_,_,h⟩=>h) ?_
  have hS0:(W.drew.cell? ⟨H,0,none⟩=some (.pointer (some ⟨p,0,none⟩))/\W.drew.cell? ⟨H+1,0,none⟩=some (.int .i64 x)/\W.drew.cell? ⟨H+1,1,none⟩=some (.int .i64 y)/\W.drew.cell? ⟨H+1+1,0,none⟩=some (.int .i64 z)/\W.drew.cell? ⟨H+1+1,1,none⟩=some (.slice (some ⟨sb,0,none⟩) Z Z)/\W.drew.cell? ⟨H+1+1+1,0,none⟩=some (.int .i64 u)/\W.drew.cell? ⟨H+1+1+1,1,none⟩=some (.int .i64 v)/\W.drew.cell? ⟨p,3,none⟩=some (.int .i64 z)/\W.drew.cell? ⟨p,4,none⟩=some (.slice (some ⟨nb,0,none⟩) Z Z)/\Frm (fun k=>k=nb) W W.drew):=⟨k00,k10,k11,k20,k21,k30,k31,d3,d4,(Frm.refl _ W).drew⟩
  refine tk_at 0 14 (.pointer (some ⟨p,0,none⟩)) #[true,false,false,false,false,false,false,false,false,false,false,false,false,false,false,false,false,false,false,false,false,false,false] rfl rfl rfl (by kernel_rfl) (by rfl) (by rintro w ⟨t00,t10,t11,t20,t21,t30,t31,t3,t4,tB⟩;go_simp) (by assumption) ?_
  simp only [sIb,sCs,sCz]
  refine tk_at 1 15 (.pointer (some ⟨p,0,none⟩)) #[true,true,false,false,false,false,false,false,false,false,false,false,false,false,false,false,false,false,false,false,false,false,false] rfl rfl rfl (by kernel_rfl) (by rfl) (by rintro w ⟨t00,t10,t11,t20,t21,t30,t31,t3,t4,tB⟩;go_simp) (by assumption) ?_
  simp only [sIb,sCs,sCz]
  refine tk_at 2 16 (.pointer (some ⟨p,3,none⟩)) #[true,true,true,false,false,false,false,false,false,false,false,false,false,false,false,false,false,false,false,false,false,false,false] rfl rfl rfl (by kernel_rfl) (by rfl) (by rintro w ⟨t00,t10,t11,t20,t21,t30,t31,t3,t4,tB⟩;go_simp) (by assumption) ?_
  simp only [sIb,sCs,sCz]
  refine tk_at 3 17 (.agg #[.int .i64 z,.slice (some ⟨nb,0,none⟩) Z Z]) #[true,true,true,true,false,false,false,false,false,false,false,false,false,false,false,false,false,false,false,false,false,false,false] rfl rfl rfl (by kernel_rfl) (by rfl) (by rintro w ⟨t00,t10,t11,t20,t21,t30,t31,t3,t4,tB⟩;go_simp) (by assumption) ?_
  simp only [sIb,sCs,sCz]
  refine tk_at 4 18 (.int .i64 PX) #[true,true,true,true,true,false,false,false,false,false,false,false,false,false,false,false,false,false,false,false,false,false,false] rfl rfl rfl (by kernel_rfl) (by rfl) (by rintro w ⟨t00,t10,t11,t20,t21,t30,t31,t3,t4,tB⟩;go_simp) (by assumption) ?_
  simp only [sIb,sCs,sCz]
  refine tk_at 5 19 (.int .i64 PY) #[true,true,true,true,true,true,false,false,false,false,false,false,false,false,false,false,false,false,false,false,false,false,false] rfl rfl rfl (by kernel_rfl) (by rfl) (by rintro w ⟨t00,t10,t11,t20,t21,t30,t31,t3,t4,tB⟩;go_simp) (by assumption) ?_
  simp only [sIb,sCs,sCz]
  refine tk_at 6 20 (.agg #[.int .i64 z,.slice (some ⟨sb,0,none⟩) Z Z]) #[true,true,true,true,true,true,true,false,false,false,false,false,false,false,false,false,false,false,false,false,false,false,false] rfl rfl rfl (by kernel_rfl) (by rfl) (by rintro w ⟨t00,t10,t11,t20,t21,t30,t31,t3,t4,tB⟩;go_simp) (by assumption) ?_
  simp only [sIb,sCs,sCz]
  refine tk_at 7 21 (.int .i64 PX) #[true,true,true,true,true,true,true,true,false,false,false,false,false,false,false,false,false,false,false,false,false,false,false] rfl rfl rfl (by kernel_rfl) (by rfl) (by rintro w ⟨t00,t10,t11,t20,t21,t30,t31,t3,t4,tB⟩;go_simp) (by assumption) ?_
  simp only [sIb,sCs,sCz]
  refine tk_at 8 22 (.pointer (some ⟨H+1,0,none⟩)) #[true,true,true,true,true,true,true,true,true,false,false,false,false,false,false,false,false,false,false,false,false,false,false] rfl rfl rfl (by kernel_rfl) (by rfl) (by rintro w ⟨t00,t10,t11,t20,t21,t30,t31,t3,t4,tB⟩;go_simp) (by assumption) ?_
  simp only [sIb,sCs,sCz]
  refine tk_at 9 23 (.int .i64 x) #[true,true,true,true,true,true,true,true,true,true,false,false,false,false,false,false,false,false,false,false,false,false,false] rfl rfl rfl (by kernel_rfl) (by rfl) (by rintro w ⟨t00,t10,t11,t20,t21,t30,t31,t3,t4,tB⟩;go_simp) (by assumption) ?_
  simp only [sIb,sCs,sCz]
  refine tk_at 10 24 (.int .i64 ((PX:Int)-x)) #[true,true,true,true,true,true,true,true,true,true,true,false,false,false,false,false,false,false,false,false,false,false,false] rfl rfl rfl (by kernel_rfl) (by rfl) (by rintro w ⟨t00,t10,t11,t20,t21,t30,t31,t3,t4,tB⟩;go_simp) (by assumption) ?_
  simp only [sIb,sCs,sCz]
  refine tk_at 11 25 (.pointer (some ⟨H+1+1+1,0,none⟩)) #[true,true,true,true,true,true,true,true,true,true,true,true,false,false,false,false,false,false,false,false,false,false,false] rfl rfl rfl (by kernel_rfl) (by rfl) (by rintro w ⟨t00,t10,t11,t20,t21,t30,t31,t3,t4,tB⟩;go_simp) (by assumption) ?_
  simp only [sIb,sCs,sCz]
  refine tk_at 12 26 (.int .i64 u) #[true,true,true,true,true,true,true,true,true,true,true,true,true,false,false,false,false,false,false,false,false,false,false] rfl rfl rfl (by kernel_rfl) (by rfl) (by rintro w ⟨t00,t10,t11,t20,t21,t30,t31,t3,t4,tB⟩;go_simp) (by assumption) ?_
  simp only [sIb,sCs,sCz]
  refine tk_at 13 27 (.int .i64 UX) #[true,true,true,true,true,true,true,true,true,true,true,true,true,true,false,false,false,false,false,false,false,false,false] rfl rfl rfl (by kernel_rfl) (by rfl) (by rintro w ⟨t00,t10,t11,t20,t21,t30,t31,t3,t4,tB⟩;go_simp) (by assumption) ?_
  simp only [sIb,sCs,sCz]
  refine tk_at 14 28 (.int .i64 PY) #[true,true,true,true,true,true,true,true,true,true,true,true,true,true,true,false,false,false,false,false,false,false,false] rfl rfl rfl (by kernel_rfl) (by rfl) (by rintro w ⟨t00,t10,t11,t20,t21,t30,t31,t3,t4,tB⟩;go_simp) (by assumption) ?_
  simp only [sIb,sCs,sCz]
  refine tk_at 15 29 (.pointer (some ⟨H+1,1,none⟩)) #[true,true,true,true,true,true,true,true,true,true,true,true,true,true,true,true,false,false,false,false,false,false,false] rfl rfl rfl (by kernel_rfl) (by rfl) (by rintro w ⟨t00,t10,t11,t20,t21,t30,t31,t3,t4,tB⟩;go_simp) (by assumption) ?_
  simp only [sIb,sCs,sCz]
  refine tk_at 16 30 (.int .i64 y) #[true,true,true,true,true,true,true,true,true,true,true,true,true,true,true,true,true,false,false,false,false,false,false] rfl rfl rfl (by kernel_rfl) (by rfl) (by rintro w ⟨t00,t10,t11,t20,t21,t30,t31,t3,t4,tB⟩;go_simp) (by assumption) ?_
  simp only [sIb,sCs,sCz]
  refine tk_at 17 31 (.int .i64 ((PY:Int)-y)) #[true,true,true,true,true,true,true,true,true,true,true,true,true,true,true,true,true,true,false,false,false,false,false] rfl rfl rfl (by kernel_rfl) (by rfl) (by rintro w ⟨t00,t10,t11,t20,t21,t30,t31,t3,t4,tB⟩;go_simp) (by assumption) ?_
  simp only [sIb,sCs,sCz]
  refine tk_at 18 32 (.pointer (some ⟨H+1+1+1,1,none⟩)) #[true,true,true,true,true,true,true,true,true,true,true,true,true,true,true,true,true,true,true,false,false,false,false] rfl rfl rfl (by kernel_rfl) (by rfl) (by rintro w ⟨t00,t10,t11,t20,t21,t30,t31,t3,t4,tB⟩;go_simp) (by assumption) ?_
  simp only [sIb,sCs,sCz]
  refine tk_at 19 33 (.int .i64 v) #[true,true,true,true,true,true,true,true,true,true,true,true,true,true,true,true,true,true,true,true,false,false,false] rfl rfl rfl (by kernel_rfl) (by rfl) (by rintro w ⟨t00,t10,t11,t20,t21,t30,t31,t3,t4,tB⟩;go_simp) (by assumption) ?_
  simp only [sIb,sCs,sCz]
  refine tk_at 20 34 (.int .i64 VY) #[true,true,true,true,true,true,true,true,true,true,true,true,true,true,true,true,true,true,true,true,true,false,false] rfl rfl rfl (by kernel_rfl) (by rfl) (by rintro w ⟨t00,t10,t11,t20,t21,t30,t31,t3,t4,tB⟩;go_simp) (by assumption) ?_
  simp only [sIb,sCs,sCz]
  refine enter_at (i:=21) (d:=35) (f:=113) (args:=#[.agg #[.int .i64 z,.slice (some ⟨sb,0,none⟩) Z Z],.int .i64 UX,.int .i64 VY]) #[true,true,true,true,true,true,true,true,true,true,true,true,true,true,true,true,true,true,true,true,true,true,false] (by kernel_rfl) rfl rfl rfl (by rfl) (by go_simp) (fun v w'=>v=.agg #[.int .u8 Q.1,.int .u8 Q.2.1,.int .u8 Q.2.2]/\Below W.drew.heap.size W.drew w') ((HAT.out _ (below_drewN (Below.refl _ W) 1)).mono (fun e w' he=>⟨_,he.1,rfl,he.2⟩)) ?_
  rintro va wa ⟨rfl,ba⟩
  have hBa:Below W.heap.size W wa:=(below_drewN (Below.refl _ W) 1).trans ba
  refine ⟨⟨(hBa.cell (p:=⟨H,0,none⟩) hHW).trans k00,(hBa.cell (p:=⟨H+1,0,none⟩) hHW1).trans k10,(hBa.cell (p:=⟨H+1,1,none⟩) hHW1).trans k11,(hBa.cell (p:=⟨H+1+1,0,none⟩) hHW2).trans k20,(hBa.cell (p:=⟨H+1+1,1,none⟩) hHW2).trans k21,(hBa.cell (p:=⟨H+1+1+1,0,none⟩) hHW3).trans k30,(hBa.cell (p:=⟨H+1+1+1,1,none⟩) hHW3).trans k31,(hBa.cell (p:=⟨p,3,none⟩) hpW).trans d3,(hBa.cell (p:=⟨p,4,none⟩) hpW).trans d4,Frm.of_below hBa⟩,?_⟩
  simp only [sIb,sCs,sCz]
  refine enter_at (i:=22) (d:=36) (f:=166) (args:=#[.agg #[.int .i64 z,.slice (some ⟨nb,0,none⟩) Z Z],.int .i64 PX,.int .i64 PY,.agg #[.int .u8 Q.1,.int .u8 Q.2.1,.int .u8 Q.2.2]]) #[true,true,true,true,true,true,true,true,true,true,true,true,true,true,true,true,true,true,true,true,true,true,true] (by kernel_rfl) rfl rfl rfl (by rfl) (by go_simp) (fun v w'=>v=.tuple #[]/\PAt w' L p b nb rg Dv dbs s z (Flm.put q (PY*z+PX) Q)/\Frm (fun k=>k=nb) wa w') ((HSET.out _ hBa).mono (fun e w' he=>⟨_,he.1,rfl,he.2⟩)) ?_
  rintro vb wb ⟨rfl,hPb,fb⟩
  have fW:Frm (fun k=>k=nb) W wb:=(Frm.of_below hBa).trans fb
  have hN0:¬ H=nb:=by omega
  have hN1:¬ H+1=nb:=by omega
  have hN2:¬ H+1+1=nb:=by omega
  have hN3:¬ H+1+1+1=nb:=by omega
  refine ⟨⟨fW.cell k00 hN0,fW.cell k10 hN1,fW.cell k11 hN1,fW.cell k20 hN2,fW.cell k21 hN2,fW.cell k30 hN3,fW.cell k31 hN3,fW.cell d3 hpnb,fW.cell d4 hpnb,fW⟩,?_⟩
  refine wpAnyH_done (by kernel_rfl) ?_ _
  obtain ⟨j1,j2,j3⟩:=HINV.out
  exact ⟨keeps_frm fW (fun k e=>by rw [e];exact hnc.out),fW.block _ (heap_lt j3) (by omega),by rw [HST.out];exact hPb,j1.frm fW (fun k e=>by omega),j2.trans fW,(fW.block _ (heap_lt j3) (by omega)).trans j3⟩
 case done =>
  rintro D ys W hD hys ⟨i1,i2,i3,i4⟩ hK
  have hDs:H+5<=D:=by omega
  rw [hys] at i1
  have HI1:Hid (PAt W L p b nb rg Dv dbs s z (Flm.moves z f ((u:Int)-x) ((v:Int)-y) (Flm.spots x y n) fs)/\Frm (fun k=>k=nb) w W):=⟨i1,i3⟩
  clear i1 i2 i3 i4
  gi_wp2
  refine ⟨by simp,.inl ⟨_,_,rfl,run_takeDeferred hK,?_⟩⟩
  have hg:=grownBy_putObj' W D (.deferred none)
  refine ⟨_,results_none rfl _ _ _,rfl,HI1.out.1.grown (B:=H) HLT.out hg (fun r e=>by cases e;omega),HI1.out.2.grown hg (fun k e=>by cases e;exact .inr (by have:=HH.out;omega))⟩
 case stop =>
  rintro D c pre W _ _ hh _
  exact hh.elim
end
end Go.Proofs.YtekfbphnoibnjaaGreatDoor
