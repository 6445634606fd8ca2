/-
  PSrc
-/
import Derived.Test.YtekfbphnoibnjaaGreatDoorF25
set_option maxHeartbeats 4000000
namespace Go.Proofs.YtekfbphnoibnjaaGreatDoor
section
open Go.RowKit
open Flm (Px FS)
set_option maxRecDepth 20000 in
theorem pMoved (w:World) (x y n dx dy:Int) (hx:-100000<=x+dx/\x+dx<=100000) (hy:-100000<=y+dy/\y+dy<=100000) :
  Calls Tryz.prog 182 #[.agg #[.int .i64 x,.int .i64 y,.int .i64 n],.int .i64 dx,.int .i64 dy] w fun e w'=>e=.returned (.agg #[.int .i64 (x+dx),.int .i64 (y+dy),.int .i64 n])/\Below w.heap.size w w':=by
 go_enter Tryz.func182,Tryz.ntmps182
 go_wp2
 refine bodyPost_ret (v:=.agg #[.int .i64 (x+dx),.int .i64 (y+dy),.int .i64 n]) (by simp [results,Tryz.results182,go_sem]) rfl ⟨rfl,?_⟩
 repeat (first|exact Below.refl _ _|refine Below.setCell ?_ (by simp) _|refine Below.alloc ?_ (by simp) _|refine below_drewN ?_ _)
def hasB (z x y n:Int):Bool:=decide (0<=x) && decide (0<=y) && decide (x+n<=z) && decide (y+n<=z)
set_option maxRecDepth 20000 in
theorem pHas (w:World) (z:Nat) (pv:Value) (x y n:Int) (hx:-100000<=x/\x<=100000) (hy:-100000<=y/\y<=100000) (hn:0<=n/\n<=16) (la:Option Addr) (ln lc:Nat) (hpv:pv=.slice la ln lc) :
  Calls Tryz.prog 183 #[.agg #[.int .i64 z,pv],.agg #[.int .i64 x,.int .i64 y,.int .i64 n]] w fun e w'=>e=.returned (.bool (hasB z x y n))/\Below w.heap.size w w':=by
 subst hpv
 obtain ⟨hb,hhb⟩:∃ hb,hb=hasB z x y n:=⟨_,rfl⟩
 rw [<- hhb]
 have HHB:Hid (hb=hasB z x y n):=hhb
 clear hhb
 have hbel:∀ o1 o2,Hid (Below w.heap.size w ((w.alloc o1).alloc o2)):=fun o1 o2=>((Below.refl _ w).alloc (Nat.le_refl _) _).alloc (by simp) _
 go_enter Tryz.func183,Tryz.ntmps183
 go_wp2
 all_goals
  go_ret
  refine ⟨?_,(hbel _ _).out⟩
  rw [HHB.out]
  unfold hasB
  simp only [Ending.returned.injEq]
  symm
  simp
  omega
def Flm.srcR (s:ByteArray) (r:RS) (kx ky:Nat):RS:=if (Rdr.number s r kx).2.err=0 then (Rdr.number s (Rdr.number s r kx).2 ky).2 else (Rdr.number s r kx).2
def Flm.srcX (s:ByteArray) (r:RS) (kx:Nat):Int:=Rdr.signed s r kx
def Flm.srcY (s:ByteArray) (r:RS) (kx ky:Nat):Int:=Rdr.signed s (Rdr.number s r kx).2 ky
theorem signed_bd {s:ByteArray} {r:RS} {k:Nat} (ok:Rdr.Ok s r) (hk:k+22<=400):-512<=Rdr.signed s r k/\Rdr.signed s r k<=511:=by
 have:=Rdr.number_bd (s:=s) ok hk
 unfold Rdr.signed
 split <;> omega
def SrcPost (A:Nat->Addr) (s:ByteArray) (z x y n:Nat) (r:RS) (kx ky:Nat) (e:Ending):Prop :=
 ((Flm.srcR s r kx ky).err ≠ 0->e=.returned (.tuple #[.agg #[.int .i64 0,.int .i64 0,.int .i64 0],errA A (Flm.srcR s r kx ky).err])) /\
 ((Flm.srcR s r kx ky).err=0->hasB z (x+Flm.srcX s r kx) (y+Flm.srcY s r kx ky) n=false->e=.returned (.tuple #[.agg #[.int .i64 0,.int .i64 0,.int .i64 0],errA A 9])) /\
 ((Flm.srcR s r kx ky).err=0->hasB z (x+Flm.srcX s r kx) (y+Flm.srcY s r kx ky) n=true->e=.returned (.tuple #[.agg #[.int .i64 (x+Flm.srcX s r kx),.int .i64 (y+Flm.srcY s r kx ky),.int .i64 n],.nilIface]))
theorem goesOn.frm {w w':World} {L p b nb rg:Nat} {Dv:Value} {dbs:List Nat} {s:ByteArray} {z:Nat} {fs:FS} {r:RS} {H:Nat} {S:Nat->Prop} (h:goesOn w L p b nb rg Dv dbs s z fs r) (hlt:∀ k,paB p b nb rg Dv dbs k->k<H) (f:Frm S w w') (hS:∀ k,S k->H<=k):goesOn w' L p b nb rg Dv dbs s z fs r :=
 fun he=>(h he).frm f (fun k hk e=>by have:=hlt k hk;have:=hS k e;omega)
theorem frm_new {S:Nat->Prop} {a b c:World} {G:Nat} (h:Frm S a b) (f:Frm (fun k=>k=G) b c) (hG:a.heap.size<=G):Frm S a c :=
 ⟨f.os.trans h.os,f.tape.trans h.tape,f.output.trans h.output,Nat.le_trans h.size f.size,fun k hk hs=>(f.block k (Nat.lt_of_lt_of_le hk h.size) (by omega)).trans (h.block k hk hs)⟩
set_option maxRecDepth 20000 in
theorem pSource1 (w:World) (L p b nb rg:Nat) (Dv:Value) (dbs:List Nat) (s:ByteArray) (z:Nat) (fs:FS) (A:Nat->Addr) (h:PAt w L p b nb rg Dv dbs s z fs) (hs:s.size<=maxLen) (E:ErrsL w A L) (hLw:L<=w.heap.size) (x y n kx ky:Nat) (hkx:kx+22<=400) (he:(Rdr.number s fs.r kx).2.err ≠ 0) :
  Calls Tryz.prog 170 #[.pointer (some ⟨p,0,none⟩),.agg #[.int .i64 x,.int .i64 y,.int .i64 n],.int .i64 kx,.int .i64 ky] w fun e w'=>SrcPost A s z x y n fs.r kx ky e/\goesOn w' L p b nb rg Dv dbs s z fs (Flm.srcR s fs.r kx ky)/\Frm (oneS b) w w':=by
 obtain ⟨W2,hW2⟩:∃ W2,W2=(w.alloc (.cells #[.int .i64 x,.int .i64 y,.int .i64 n] 100)).alloc (.cells #[.int .i64 0,.int .i64 0,.int .i64 0] 100):=⟨_,rfl⟩
 have hB2:Below w.heap.size w W2:=by rw [hW2];exact ((Below.refl _ w).alloc (Nat.le_refl _) _).alloc (by simp) _
 have hP2:=h.below hB2
 have c0:=hP2.c0
 have hH:W2.heap[w.heap.size+1]?=some (.cells #[.int .i64 0,.int .i64 0,.int .i64 0] 100):=by
  have:=heap_alloc_last (w.alloc (.cells #[.int .i64 x,.int .i64 y,.int .i64 n] 100)) (.cells #[.int .i64 0,.int .i64 0,.int .i64 0] 100)
  rw [World.size_alloc] at this
  rw [hW2];exact this
 have HB:=hP2.signed hs (E.below (hB2.mono hLw)) (by have:=hB2.size;omega) kx hkx
 have hR:Flm.srcR s fs.r kx ky=(Rdr.number s fs.r kx).2:=by unfold Flm.srcR;rw [if_neg he]
 rw [hR]
 have HPO:Hid (∀ e,e=.returned (.tuple #[.agg #[.int .i64 0,.int .i64 0,.int .i64 0],errA A (Rdr.number s fs.r kx).2.err])->SrcPost A s z x y n fs.r kx ky e):=fun e hee=>by
  unfold SrcPost
  rw [hR]
  exact ⟨fun _=>hee,fun h0=>absurd h0 he,fun h0=>absurd h0 he⟩
 rw [numRet_bad A _ he] at HB
 rw [errA_pos A he] at HPO
 obtain ⟨ea,hea⟩:∃ ea,ea=A (Rdr.number s fs.r kx).2.err.toNat:=⟨_,rfl⟩
 rw [<- hea] at HB HPO
 have HBH:Hid (Calls Tryz.prog 165 #[.pointer (some ⟨b,0,none⟩),.int .i64 kx] W2 fun x w'=>x=.returned (.tuple #[.int .i64 0,.iface 278 (.pointer (some ea))])/\goesOn w' L p b nb rg Dv dbs s z fs (Rdr.number s fs.r kx).2/\Frm (oneS b) W2 w'):=HB
 have hbH:b<w.heap.size:=h.up.2
 have HLT:Hid (∀ k,paB p b nb rg Dv dbs k->k<w.heap.size):=h.lt
 have HW2:Hid (W2=(w.alloc (.cells #[.int .i64 x,.int .i64 y,.int .i64 n] 100)).alloc (.cells #[.int .i64 0,.int .i64 0,.int .i64 0] 100)):=hW2
 have HH:Hid (∀ w1,Frm (oneS b) W2 w1->w1.heap[w.heap.size+1]?=some (.cells #[.int .i64 0,.int .i64 0,.int .i64 0] 100)):=fun w1 f=>(f.block _ (heap_lt hH) (fun e=>by have:w.heap.size+1=b:=e;omega)).trans hH
 have HF:Hid (Frm (oneS b) w W2):=Frm.of_below hB2
 clear HB hea he hR hW2 hB2 hP2 hH h E
 go_enter Tryz.func170,Tryz.ntmps170
 go_wp2_with (first
  | (rw [<- HW2.out])
  | (go_at_call 165;refine HBH.out.mono ?_;rintro e w1 ⟨rfl,h1,f1⟩;have hg:=HH.out w1 f1;have s0:=cell_of_row w1 _ 0 _ _ _ hg;have s1:=cell_of_row w1 _ 1 _ _ _ hg;have s2:=cell_of_row w1 _ 2 _ _ _ hg;have z0:=frozen_of_row w1 _ 0 _ _ hg;have z1:=frozen_of_row w1 _ 1 _ _ hg;have z2:=frozen_of_row w1 _ 2 _ _ hg;simp at s0 s1 s2))
 obtain ⟨X,hX⟩:∃ X,X=((w1.setCell ⟨w.heap.size+1,0,none⟩ (.int .i64 0)).setCell ⟨w.heap.size+1,1,none⟩ (.int .i64 0)).setCell ⟨w.heap.size+1,2,none⟩ (.int .i64 0):=⟨_,rfl⟩
 rw [<- hX]
 obtain ⟨q0,q1,q2,fX⟩:=three_set w1 (w.heap.size+1) _ _ _ s0 s1 s2 X hX
 refine bodyPost_ret (v:=.tuple #[.agg #[.int .i64 0,.int .i64 0,.int .i64 0],.iface 278 (.pointer (some ea))]) (by simp [results,Tryz.results170,go_sem,q0,q1,q2]) rfl ?_
 exact ⟨HPO.out _ rfl,h1.frm HLT.out fX (fun k e=>by omega),frm_new (HF.out.trans f1) fX (by omega)⟩
set_option maxRecDepth 20000 in
theorem pSource2 (w:World) (L p b nb rg:Nat) (Dv:Value) (dbs:List Nat) (s:ByteArray) (z:Nat) (fs:FS) (A:Nat->Addr) (h:PAt w L p b nb rg Dv dbs s z fs) (hs:s.size<=maxLen) (E:ErrsL w A L) (hLw:L<=w.heap.size) (x y n kx ky:Nat) (hkx:kx+22<=400) (hky:ky+22<=400) (he1:(Rdr.number s fs.r kx).2.err=0) (he2:(Rdr.number s (Rdr.number s fs.r kx).2 ky).2.err ≠ 0) :
  Calls Tryz.prog 170 #[.pointer (some ⟨p,0,none⟩),.agg #[.int .i64 x,.int .i64 y,.int .i64 n],.int .i64 kx,.int .i64 ky] w fun e w'=>SrcPost A s z x y n fs.r kx ky e/\goesOn w' L p b nb rg Dv dbs s z fs (Flm.srcR s fs.r kx ky)/\Frm (oneS b) w w':=by
 obtain ⟨W2,hW2⟩:∃ W2,W2=(w.alloc (.cells #[.int .i64 x,.int .i64 y,.int .i64 n] 100)).alloc (.cells #[.int .i64 0,.int .i64 0,.int .i64 0] 100):=⟨_,rfl⟩
 have hB2:Below w.heap.size w W2:=by rw [hW2];exact ((Below.refl _ w).alloc (Nat.le_refl _) _).alloc (by simp) _
 have hP2:=h.below hB2
 have c0:=hP2.c0
 have hH:W2.heap[w.heap.size+1]?=some (.cells #[.int .i64 0,.int .i64 0,.int .i64 0] 100):=by
  have:=heap_alloc_last (w.alloc (.cells #[.int .i64 x,.int .i64 y,.int .i64 n] 100)) (.cells #[.int .i64 0,.int .i64 0,.int .i64 0] 100)
  rw [World.size_alloc] at this
  rw [hW2];exact this
 have hH0:W2.heap[w.heap.size]?=some (.cells #[.int .i64 x,.int .i64 y,.int .i64 n] 100):=by
  rw [hW2,Below.heap_alloc _ _ _ (by simp)]
  exact heap_alloc_last w _
 have hL2:L<=W2.heap.size:=by have:=hB2.size;omega
 have E2:=E.below (hB2.mono hLw)
 have HB:=hP2.signed hs E2 hL2 kx hkx
 obtain ⟨r1,hr1⟩:∃ r1,r1=(Rdr.number s fs.r kx).2:=⟨_,rfl⟩
 rw [<- hr1] at HB he1
 rw [numRet_good A _ he1] at HB
 obtain ⟨dx,hdx⟩:∃ dx,dx=Rdr.signed s fs.r kx:=⟨_,rfl⟩
 rw [<- hdx] at HB
 obtain ⟨r2,hr2⟩:∃ r2,r2=(Rdr.number s r1 ky).2:=⟨_,rfl⟩
 have hR:Flm.srcR s fs.r kx ky=r2:=by unfold Flm.srcR;rw [<- hr1,if_pos he1,hr2]
 rw [hR]
 rw [<- hr1,<- hr2] at he2
 have HB2:∀ w1,goesOn w1 L p b nb rg Dv dbs s z fs r1->Frm (oneS b) W2 w1->Calls Tryz.prog 165 #[.pointer (some ⟨b,0,none⟩),.int .i64 ky] w1 fun x w'=>x=numRet A (Rdr.signed s r1 ky) r2.err/\goesOn w' L p b nb rg Dv dbs s z fs r2/\Frm (oneS b) w1 w':=fun w1 g1 f1=>by
  have:=(g1 he1).signed hs (hP2.errs hL2 E2 f1) (by have:=f1.size;omega) ky hky
  rw [hr2]
  exact this
 have hbH:b<w.heap.size:=h.up.2
 have hpb:¬ oneS b p:=h.nes.1.1
 have HC0:Hid (∀ w1,Frm (oneS b) W2 w1->w1.cell? ⟨p,0,none⟩=some (.pointer (some ⟨b,0,none⟩))):=fun w1 f=>f.cell c0 hpb
 have HLT:Hid (∀ k,paB p b nb rg Dv dbs k->k<w.heap.size):=h.lt
 have HBH:Hid (Calls Tryz.prog 165 #[.pointer (some ⟨b,0,none⟩),.int .i64 kx] W2 fun x w'=>x=.returned (.tuple #[.int .i64 dx,.nilIface])/\goesOn w' L p b nb rg Dv dbs s z fs r1/\Frm (oneS b) W2 w'):=HB
 have HW2:Hid (W2=(w.alloc (.cells #[.int .i64 x,.int .i64 y,.int .i64 n] 100)).alloc (.cells #[.int .i64 0,.int .i64 0,.int .i64 0] 100)):=hW2
 have HH:Hid (∀ w1,Frm (oneS b) W2 w1->w1.heap[w.heap.size+1]?=some (.cells #[.int .i64 0,.int .i64 0,.int .i64 0] 100)):=fun w1 f=>(f.block _ (heap_lt hH) (fun e=>by have:w.heap.size+1=b:=e;omega)).trans hH
 have HH0:Hid (∀ w1,Frm (oneS b) W2 w1->w1.heap[w.heap.size]?=some (.cells #[.int .i64 x,.int .i64 y,.int .i64 n] 100)):=fun w1 f=>(f.block _ (heap_lt hH0) (fun e=>by have:w.heap.size=b:=e;omega)).trans hH0
 have HF:Hid (Frm (oneS b) w W2):=Frm.of_below hB2
 have hszW2:W2.heap.size=w.heap.size+2:=by rw [hW2];simp
 have T1:Hid True:=trivial
 have HPO:Hid (∀ e,e=.returned (.tuple #[.agg #[.int .i64 0,.int .i64 0,.int .i64 0],errA A r2.err])->SrcPost A s z x y n fs.r kx ky e):=fun e hee=>by
  unfold SrcPost
  rw [hR]
  exact ⟨fun _=>hee,fun h0=>absurd h0 he2,fun h0=>absurd h0 he2⟩
 rw [numRet_bad A _ he2] at HB2
 rw [errA_pos A he2] at HPO
 obtain ⟨ea,hea⟩:∃ ea,ea=A r2.err.toNat:=⟨_,rfl⟩
 rw [<- hea] at HB2 HPO
 have HB2H:Hid (∀ w1,goesOn w1 L p b nb rg Dv dbs s z fs r1->Frm (oneS b) W2 w1->Calls Tryz.prog 165 #[.pointer (some ⟨b,0,none⟩),.int .i64 ky] w1 fun x w'=>x=.returned (.tuple #[.int .i64 0,.iface 278 (.pointer (some ea))])/\goesOn w' L p b nb rg Dv dbs s z fs r2/\Frm (oneS b) w1 w'):=HB2
 clear HB HB2 hea he1 he2 hR hW2 hB2 hP2 hH hH0 h E E2 hr1 hr2 hdx hpb
 go_enter Tryz.func170,Tryz.ntmps170
 go_wp2_with (first
  | (rw [<- HW2.out])
  | (clear T1;go_at_call 165;refine HBH.out.mono ?_;rintro e w1 ⟨rfl,h1,f1⟩;have d0:=HC0.out w1 f1)
  | (go_at_call 165;refine (HB2H.out w1 h1 f1).mono ?_;rintro e w2 ⟨rfl,h2,f2⟩;have hg:=HH.out w2 (f1.trans f2);have s0:=cell_of_row w2 _ 0 _ _ _ hg;have s1:=cell_of_row w2 _ 1 _ _ _ hg;have s2:=cell_of_row w2 _ 2 _ _ _ hg;have z0:=frozen_of_row w2 _ 0 _ _ hg;have z1:=frozen_of_row w2 _ 1 _ _ hg;have z2:=frozen_of_row w2 _ 2 _ _ hg;simp at s0 s1 s2))
 obtain ⟨X,hX⟩:∃ X,X=((w2.setCell ⟨w.heap.size+1,0,none⟩ (.int .i64 0)).setCell ⟨w.heap.size+1,1,none⟩ (.int .i64 0)).setCell ⟨w.heap.size+1,2,none⟩ (.int .i64 0):=⟨_,rfl⟩
 rw [<- hX]
 obtain ⟨q0,q1,q2,fX⟩:=three_set w2 (w.heap.size+1) _ _ _ s0 s1 s2 X hX
 refine bodyPost_ret (v:=.tuple #[.agg #[.int .i64 0,.int .i64 0,.int .i64 0],.iface 278 (.pointer (some ea))]) (by simp [results,Tryz.results170,go_sem,q0,q1,q2]) rfl ?_
 exact ⟨HPO.out _ rfl,h2.frm HLT.out fX (fun k e=>by omega),frm_new (HF.out.trans (f1.trans f2)) fX (by omega)⟩
set_option maxRecDepth 20000 in
theorem pSource3 (w:World) (L p b nb rg:Nat) (Dv:Value) (dbs:List Nat) (s:ByteArray) (z:Nat) (fs:FS) (A:Nat->Addr) (h:PAt w L p b nb rg Dv dbs s z fs) (hs:s.size<=maxLen) (E:ErrsL w A L) (hLw:L<=w.heap.size) (x y n kx ky:Nat) (hkx:kx+22<=400) (hky:ky+22<=400) (he1:(Rdr.number s fs.r kx).2.err=0) (he2:(Rdr.number s (Rdr.number s fs.r kx).2 ky).2.err=0) (hx:x<=16) (hy:y<=16) (hn:n<=16) (hhas:hasB z (x+Flm.srcX s fs.r kx) (y+Flm.srcY s fs.r kx ky) n=false) :
  Calls Tryz.prog 170 #[.pointer (some ⟨p,0,none⟩),.agg #[.int .i64 x,.int .i64 y,.int .i64 n],.int .i64 kx,.int .i64 ky] w fun e w'=>SrcPost A s z x y n fs.r kx ky e/\goesOn w' L p b nb rg Dv dbs s z fs (Flm.srcR s fs.r kx ky)/\Frm (oneS b) w w':=by
 have bdx:=signed_bd (s:=s) (k:=kx) h.ok hkx
 have bdy:=signed_bd (s:=s) (k:=ky) (Rdr.number_ok h.ok hkx) hky
 obtain ⟨W2,hW2⟩:∃ W2,W2=(w.alloc (.cells #[.int .i64 x,.int .i64 y,.int .i64 n] 100)).alloc (.cells #[.int .i64 0,.int .i64 0,.int .i64 0] 100):=⟨_,rfl⟩
 have hB2:Below w.heap.size w W2:=by rw [hW2];exact ((Below.refl _ w).alloc (Nat.le_refl _) _).alloc (by simp) _
 have hP2:=h.below hB2
 have c0:=hP2.c0
 have hH:W2.heap[w.heap.size+1]?=some (.cells #[.int .i64 0,.int .i64 0,.int .i64 0] 100):=by
  have:=heap_alloc_last (w.alloc (.cells #[.int .i64 x,.int .i64 y,.int .i64 n] 100)) (.cells #[.int .i64 0,.int .i64 0,.int .i64 0] 100)
  rw [World.size_alloc] at this
  rw [hW2];exact this
 have hH0:W2.heap[w.heap.size]?=some (.cells #[.int .i64 x,.int .i64 y,.int .i64 n] 100):=by
  rw [hW2,Below.heap_alloc _ _ _ (by simp)]
  exact heap_alloc_last w _
 have hL2:L<=W2.heap.size:=by have:=hB2.size;omega
 have E2:=E.below (hB2.mono hLw)
 have HB:=hP2.signed hs E2 hL2 kx hkx
 obtain ⟨r1,hr1⟩:∃ r1,r1=(Rdr.number s fs.r kx).2:=⟨_,rfl⟩
 rw [<- hr1] at HB he1
 rw [numRet_good A _ he1] at HB
 obtain ⟨dx,hdx⟩:∃ dx,dx=Rdr.signed s fs.r kx:=⟨_,rfl⟩
 rw [<- hdx] at HB
 obtain ⟨r2,hr2⟩:∃ r2,r2=(Rdr.number s r1 ky).2:=⟨_,rfl⟩
 have hR:Flm.srcR s fs.r kx ky=r2:=by unfold Flm.srcR;rw [<- hr1,if_pos he1,hr2]
 rw [hR]
 rw [<- hr1,<- hr2] at he2
 have HB2:∀ w1,goesOn w1 L p b nb rg Dv dbs s z fs r1->Frm (oneS b) W2 w1->Calls Tryz.prog 165 #[.pointer (some ⟨b,0,none⟩),.int .i64 ky] w1 fun x w'=>x=numRet A (Rdr.signed s r1 ky) r2.err/\goesOn w' L p b nb rg Dv dbs s z fs r2/\Frm (oneS b) w1 w':=fun w1 g1 f1=>by
  have:=(g1 he1).signed hs (hP2.errs hL2 E2 f1) (by have:=f1.size;omega) ky hky
  rw [hr2]
  exact this
 have hbH:b<w.heap.size:=h.up.2
 have hpb:¬ oneS b p:=h.nes.1.1
 have HC0:Hid (∀ w1,Frm (oneS b) W2 w1->w1.cell? ⟨p,0,none⟩=some (.pointer (some ⟨b,0,none⟩))):=fun w1 f=>f.cell c0 hpb
 have HLT:Hid (∀ k,paB p b nb rg Dv dbs k->k<w.heap.size):=h.lt
 have HBH:Hid (Calls Tryz.prog 165 #[.pointer (some ⟨b,0,none⟩),.int .i64 kx] W2 fun x w'=>x=.returned (.tuple #[.int .i64 dx,.nilIface])/\goesOn w' L p b nb rg Dv dbs s z fs r1/\Frm (oneS b) W2 w'):=HB
 have HW2:Hid (W2=(w.alloc (.cells #[.int .i64 x,.int .i64 y,.int .i64 n] 100)).alloc (.cells #[.int .i64 0,.int .i64 0,.int .i64 0] 100)):=hW2
 have HH:Hid (∀ w1,Frm (oneS b) W2 w1->w1.heap[w.heap.size+1]?=some (.cells #[.int .i64 0,.int .i64 0,.int .i64 0] 100)):=fun w1 f=>(f.block _ (heap_lt hH) (fun e=>by have:w.heap.size+1=b:=e;omega)).trans hH
 have HH0:Hid (∀ w1,Frm (oneS b) W2 w1->w1.heap[w.heap.size]?=some (.cells #[.int .i64 x,.int .i64 y,.int .i64 n] 100)):=fun w1 f=>(f.block _ (heap_lt hH0) (fun e=>by have:w.heap.size=b:=e;omega)).trans hH0
 have HF:Hid (Frm (oneS b) w W2):=Frm.of_below hB2
 have hszW2:W2.heap.size=w.heap.size+2:=by rw [hW2];simp
 have T1:Hid True:=trivial
 rw [<- hdx] at bdx
 rw [<- hr1] at bdy
 obtain ⟨dy,hdy⟩:∃ dy,dy=Rdr.signed s r1 ky:=⟨_,rfl⟩
 rw [<- hdy] at bdy
 have hX0:Flm.srcX s fs.r kx=dx:=hdx.symm
 have hY0:Flm.srcY s fs.r kx ky=dy:=by unfold Flm.srcY;rw [<- hr1,hdy]
 rw [hX0,hY0] at hhas
 have HPO:Hid (∀ e,e=.returned (.tuple #[.agg #[.int .i64 0,.int .i64 0,.int .i64 0],errA A 9])->SrcPost A s z x y n fs.r kx ky e):=fun e hee=>by
  unfold SrcPost
  rw [hR,hX0,hY0]
  exact ⟨fun h0=>absurd he2 h0,fun _ _=>hee,fun _ h1=>by rw [hhas] at h1;cases h1⟩
 rw [numRet_good A _ he2,<- hdy] at HB2
 have HB2H:Hid (∀ w1,goesOn w1 L p b nb rg Dv dbs s z fs r1->Frm (oneS b) W2 w1->Calls Tryz.prog 165 #[.pointer (some ⟨b,0,none⟩),.int .i64 ky] w1 fun x w'=>x=.returned (.tuple #[.int .i64 dy,.nilIface])/\goesOn w' L p b nb rg Dv dbs s z fs r2/\Frm (oneS b) w1 w'):=HB2
 have HMV:Hid (∀ wx,Calls Tryz.prog 182 #[.agg #[.int .i64 x,.int .i64 y,.int .i64 n],.int .i64 dx,.int .i64 dy] wx fun e w'=>e=.returned (.agg #[.int .i64 ((x:Int)+dx),.int .i64 ((y:Int)+dy),.int .i64 n])/\Below wx.heap.size wx w'):=fun wx=>pMoved wx x y n dx dy (by omega) (by omega)
 have HHS:Hid (∀ wx,Calls Tryz.prog 183 #[.agg #[.int .i64 z,.slice (some ⟨nb,0,none⟩) (z*z) (z*z)],.agg #[.int .i64 ((x:Int)+dx),.int .i64 ((y:Int)+dy),.int .i64 n]] wx fun e w'=>e=.returned (.bool false)/\Below wx.heap.size wx w'):=fun wx=>by
  have:=pHas wx z (.slice (some ⟨nb,0,none⟩) (z*z) (z*z)) ((x:Int)+dx) ((y:Int)+dy) n (by omega) (by omega) (by omega) _ _ _ rfl
  rw [hhas] at this
  exact this
 have H3W:Hid (∀ wx,goesOn wx L p b nb rg Dv dbs s z fs r2->wx.cell? ⟨p,3,none⟩=some (.int .i64 z)/\wx.cell? ⟨p,4,none⟩=some (.slice (some ⟨nb,0,none⟩) (z*z) (z*z))/\p<wx.heap.size):=fun wx g=>⟨(g he2).c3,(g he2).c4,(g he2).up.1⟩
 have H9L:Hid (4<L):=(E.v (9,4) (by decide)).1
 have HE9:Hid (∀ w2 wx,Frm (oneS b) W2 w2->Below w2.heap.size w2 wx->wx.cell? ⟨4,0,none⟩=some (.iface 278 (.pointer (some (A 9))))):=fun w2 wx f bw=>(((hP2.errs hL2 E2 f).below (bw.mono (by have:=f.size;omega))).v (9,4) (by decide)).2
 clear HB HB2 he1 he2 hR hW2 hB2 hP2 hH hH0 h E E2 hr1 hr2 hdx hdy hpb hX0 hY0 hhas
 go_enter Tryz.func170,Tryz.ntmps170
 go_wp2_with (first
  | (rw [<- HW2.out])
  | (clear T1;go_at_call 165;refine HBH.out.mono ?_;rintro e w1 ⟨rfl,h1,f1⟩;have d0:=HC0.out w1 f1)
  | (go_at_call 165;refine (HB2H.out w1 h1 f1).mono ?_;rintro e w2 ⟨rfl,h2,f2⟩;have ha:=HH0.out w2 (f1.trans f2);have a0:=cell_of_row w2 _ 0 _ _ _ ha;have a1:=cell_of_row w2 _ 1 _ _ _ ha;have a2:=cell_of_row w2 _ 2 _ _ _ ha;simp at a0 a1 a2)
  | (go_at_call 182;refine (HMV.out _).mono ?_;rintro e w3 ⟨rfl,b3⟩))
 obtain ⟨W4,hW4⟩:∃ W4,W4=w3.alloc (.cells #[.int .i64 ((x:Int)+dx),.int .i64 ((y:Int)+dy),.int .i64 n] 100):=⟨_,rfl⟩
 have b4:Below w2.heap.size w2 W4:=by rw [hW4];exact b3.alloc b3.size _
 have hG4:W4.heap[w3.heap.size]?=some (.cells #[.int .i64 ((x:Int)+dx),.int .i64 ((y:Int)+dy),.int .i64 n] 100):=by rw [hW4];exact heap_alloc_last w3 _
 obtain ⟨m3,m4,mp⟩:=H3W.out w2 h2
 have n3:W4.cell? ⟨p,3,none⟩=some (.int .i64 z):=(b4.cell mp).trans m3
 have n4:W4.cell? ⟨p,4,none⟩=some (.slice (some ⟨nb,0,none⟩) (z*z) (z*z)):=(b4.cell mp).trans m4
 have g0:=cell_of_row W4 _ 0 _ _ _ hG4
 have g1:=cell_of_row W4 _ 1 _ _ _ hG4
 have g2:=cell_of_row W4 _ 2 _ _ _ hG4
 simp at g0 g1 g2
 have hgo:=HH.out w2 (f1.trans f2)
 rw [<- hW4]
 clear hW4
 go_region_with (go_at_call 183;refine (HHS.out _).mono ?_;rintro e w5 ⟨rfl,b5⟩)
 all_goals
  have B5:Below w2.heap.size w2 w5:=Below.trans (by repeat (first|exact b4|apply below_drew|apply below_drewN)) (b5.mono b4.size)
  have k9:=HE9.out w2 w5 (f1.trans f2) B5
  have hg5:w5.heap[w.heap.size+1]?=some (.cells #[.int .i64 0,.int .i64 0,.int .i64 0] 100):=(B5.block _ (heap_lt hgo)).trans hgo
  have hg6:w5.heap[w3.heap.size]?=some (.cells #[.int .i64 ((x:Int)+dx),.int .i64 ((y:Int)+dy),.int .i64 n] 100):=(b5.block _ (heap_lt hG4)).trans hG4
  have s0:=cell_of_row w5 _ 0 _ _ _ hg5
  have s1:=cell_of_row w5 _ 1 _ _ _ hg5
  have s2:=cell_of_row w5 _ 2 _ _ _ hg5
  have z0:=frozen_of_row w5 _ 0 _ _ hg5
  have z1:=frozen_of_row w5 _ 1 _ _ hg5
  have z2:=frozen_of_row w5 _ 2 _ _ hg5
  have v0:=cell_of_row w5 _ 0 _ _ _ hg6
  have v1:=cell_of_row w5 _ 1 _ _ _ hg6
  have v2:=cell_of_row w5 _ 2 _ _ _ hg6
  simp at s0 s1 s2 v0 v1 v2
  clear hg5 hg6
  obtain ⟨X,hX⟩:∃ X,X=((w5.setCell ⟨w.heap.size+1,0,none⟩ (.int .i64 0)).setCell ⟨w.heap.size+1,1,none⟩ (.int .i64 0)).setCell ⟨w.heap.size+1,2,none⟩ (.int .i64 0):=⟨_,rfl⟩
  obtain ⟨q0,q1,q2,fX⟩:=three_set w5 (w.heap.size+1) _ _ _ s0 s1 s2 X hX
  have k9x:X.drew.cell? ⟨4,0,none⟩=some (.iface 278 (.pointer (some (A 9)))):=fX.cell k9 (fun e=>by have:=heap_lt hgo;have:=H9L.out;have e':4=w.heap.size+1:=e;omega)
  rw [hX] at k9x
  go_wp2
  go_region
  all_goals go_wp2
  all_goals rw [<- hX]
  all_goals
   refine bodyPost_ret (v:=.tuple #[.agg #[.int .i64 0,.int .i64 0,.int .i64 0],.iface 278 (.pointer (some (A 9)))]) (by simp [results,Tryz.results170,go_sem,q0,q1,q2]) rfl ?_
   first|(exact ⟨HPO.out _ rfl,(h2.frm (H:=w2.heap.size) ((fun k hk=>Nat.lt_of_lt_of_le (HLT.out k hk) (by have:=(HF.out.trans (f1.trans f2)).size;exact this))) (Frm.of_below (S:=fun k=>w2.heap.size<=k) B5) (fun k e=>e)).frm HLT.out fX (fun k e=>by omega),frm_new ((HF.out.trans (f1.trans f2)).trans (Frm.of_below B5)) (G:=w.heap.size+1) fX (by omega)⟩)|(exact ⟨HPO.out _ rfl,(h2.frm (H:=w2.heap.size) ((fun k hk=>Nat.lt_of_lt_of_le (HLT.out k hk) (by have:=(HF.out.trans (f1.trans f2)).size;exact this))) (Frm.of_below (S:=fun k=>w2.heap.size<=k) B5) (fun k e=>e)).frm HLT.out fX.drew (fun k e=>by omega),frm_new ((HF.out.trans (f1.trans f2)).trans (Frm.of_below B5)) (G:=w.heap.size+1) fX.drew (by omega)⟩)
set_option maxRecDepth 20000 in
theorem pSource4 (w:World) (L p b nb rg:Nat) (Dv:Value) (dbs:List Nat) (s:ByteArray) (z:Nat) (fs:FS) (A:Nat->Addr) (h:PAt w L p b nb rg Dv dbs s z fs) (hs:s.size<=maxLen) (E:ErrsL w A L) (hLw:L<=w.heap.size) (x y n kx ky:Nat) (hkx:kx+22<=400) (hky:ky+22<=400) (he1:(Rdr.number s fs.r kx).2.err=0) (he2:(Rdr.number s (Rdr.number s fs.r kx).2 ky).2.err=0) (hx:x<=16) (hy:y<=16) (hn:n<=16) (hhas:hasB z (x+Flm.srcX s fs.r kx) (y+Flm.srcY s fs.r kx ky) n=true) :
  Calls Tryz.prog 170 #[.pointer (some ⟨p,0,none⟩),.agg #[.int .i64 x,.int .i64 y,.int .i64 n],.int .i64 kx,.int .i64 ky] w fun e w'=>SrcPost A s z x y n fs.r kx ky e/\goesOn w' L p b nb rg Dv dbs s z fs (Flm.srcR s fs.r kx ky)/\Frm (oneS b) w w':=by
 have bdx:=signed_bd (s:=s) (k:=kx) h.ok hkx
 have bdy:=signed_bd (s:=s) (k:=ky) (Rdr.number_ok h.ok hkx) hky
 obtain ⟨W2,hW2⟩:∃ W2,W2=(w.alloc (.cells #[.int .i64 x,.int .i64 y,.int .i64 n] 100)).alloc (.cells #[.int .i64 0,.int .i64 0,.int .i64 0] 100):=⟨_,rfl⟩
 have hB2:Below w.heap.size w W2:=by rw [hW2];exact ((Below.refl _ w).alloc (Nat.le_refl _) _).alloc (by simp) _
 have hP2:=h.below hB2
 have c0:=hP2.c0
 have hH:W2.heap[w.heap.size+1]?=some (.cells #[.int .i64 0,.int .i64 0,.int .i64 0] 100):=by
  have:=heap_alloc_last (w.alloc (.cells #[.int .i64 x,.int .i64 y,.int .i64 n] 100)) (.cells #[.int .i64 0,.int .i64 0,.int .i64 0] 100)
  rw [World.size_alloc] at this
  rw [hW2];exact this
 have hH0:W2.heap[w.heap.size]?=some (.cells #[.int .i64 x,.int .i64 y,.int .i64 n] 100):=by
  rw [hW2,Below.heap_alloc _ _ _ (by simp)]
  exact heap_alloc_last w _
 have hL2:L<=W2.heap.size:=by have:=hB2.size;omega
 have E2:=E.below (hB2.mono hLw)
 have HB:=hP2.signed hs E2 hL2 kx hkx
 obtain ⟨r1,hr1⟩:∃ r1,r1=(Rdr.number s fs.r kx).2:=⟨_,rfl⟩
 rw [<- hr1] at HB he1
 rw [numRet_good A _ he1] at HB
 obtain ⟨dx,hdx⟩:∃ dx,dx=Rdr.signed s fs.r kx:=⟨_,rfl⟩
 rw [<- hdx] at HB
 obtain ⟨r2,hr2⟩:∃ r2,r2=(Rdr.number s r1 ky).2:=⟨_,rfl⟩
 have hR:Flm.srcR s fs.r kx ky=r2:=by unfold Flm.srcR;rw [<- hr1,if_pos he1,hr2]
 rw [hR]
 rw [<- hr1,<- hr2] at he2
 have HB2:∀ w1,goesOn w1 L p b nb rg Dv dbs s z fs r1->Frm (oneS b) W2 w1->Calls Tryz.prog 165 #[.pointer (some ⟨b,0,none⟩),.int .i64 ky] w1 fun x w'=>x=numRet A (Rdr.signed s r1 ky) r2.err/\goesOn w' L p b nb rg Dv dbs s z fs r2/\Frm (oneS b) w1 w':=fun w1 g1 f1=>by
  have:=(g1 he1).signed hs (hP2.errs hL2 E2 f1) (by have:=f1.size;omega) ky hky
  rw [hr2]
  exact this
 have hbH:b<w.heap.size:=h.up.2
 have hpb:¬ oneS b p:=h.nes.1.1
 have HC0:Hid (∀ w1,Frm (oneS b) W2 w1->w1.cell? ⟨p,0,none⟩=some (.pointer (some ⟨b,0,none⟩))):=fun w1 f=>f.cell c0 hpb
 have HLT:Hid (∀ k,paB p b nb rg Dv dbs k->k<w.heap.size):=h.lt
 have HBH:Hid (Calls Tryz.prog 165 #[.pointer (some ⟨b,0,none⟩),.int .i64 kx] W2 fun x w'=>x=.returned (.tuple #[.int .i64 dx,.nilIface])/\goesOn w' L p b nb rg Dv dbs s z fs r1/\Frm (oneS b) W2 w'):=HB
 have HW2:Hid (W2=(w.alloc (.cells #[.int .i64 x,.int .i64 y,.int .i64 n] 100)).alloc (.cells #[.int .i64 0,.int .i64 0,.int .i64 0] 100)):=hW2
 have HH:Hid (∀ w1,Frm (oneS b) W2 w1->w1.heap[w.heap.size+1]?=some (.cells #[.int .i64 0,.int .i64 0,.int .i64 0] 100)):=fun w1 f=>(f.block _ (heap_lt hH) (fun e=>by have:w.heap.size+1=b:=e;omega)).trans hH
 have HH0:Hid (∀ w1,Frm (oneS b) W2 w1->w1.heap[w.heap.size]?=some (.cells #[.int .i64 x,.int .i64 y,.int .i64 n] 100)):=fun w1 f=>(f.block _ (heap_lt hH0) (fun e=>by have:w.heap.size=b:=e;omega)).trans hH0
 have HF:Hid (Frm (oneS b) w W2):=Frm.of_below hB2
 have hszW2:W2.heap.size=w.heap.size+2:=by rw [hW2];simp
 have T1:Hid True:=trivial
 rw [<- hdx] at bdx
 rw [<- hr1] at bdy
 obtain ⟨dy,hdy⟩:∃ dy,dy=Rdr.signed s r1 ky:=⟨_,rfl⟩
 rw [<- hdy] at bdy
 have hX0:Flm.srcX s fs.r kx=dx:=hdx.symm
 have hY0:Flm.srcY s fs.r kx ky=dy:=by unfold Flm.srcY;rw [<- hr1,hdy]
 rw [hX0,hY0] at hhas
 have HPO:Hid (∀ e,e=.returned (.tuple #[.agg #[.int .i64 ((x:Int)+dx),.int .i64 ((y:Int)+dy),.int .i64 n],.nilIface])->SrcPost A s z x y n fs.r kx ky e):=fun e hee=>by
  unfold SrcPost
  rw [hR,hX0,hY0]
  exact ⟨fun h0=>absurd he2 h0,fun _ h1=>(by rw [hhas] at h1;cases h1),fun _ _=>hee⟩
 rw [numRet_good A _ he2,<- hdy] at HB2
 have HB2H:Hid (∀ w1,goesOn w1 L p b nb rg Dv dbs s z fs r1->Frm (oneS b) W2 w1->Calls Tryz.prog 165 #[.pointer (some ⟨b,0,none⟩),.int .i64 ky] w1 fun x w'=>x=.returned (.tuple #[.int .i64 dy,.nilIface])/\goesOn w' L p b nb rg Dv dbs s z fs r2/\Frm (oneS b) w1 w'):=HB2
 have HMV:Hid (∀ wx,Calls Tryz.prog 182 #[.agg #[.int .i64 x,.int .i64 y,.int .i64 n],.int .i64 dx,.int .i64 dy] wx fun e w'=>e=.returned (.agg #[.int .i64 ((x:Int)+dx),.int .i64 ((y:Int)+dy),.int .i64 n])/\Below wx.heap.size wx w'):=fun wx=>pMoved wx x y n dx dy (by omega) (by omega)
 have HHS:Hid (∀ wx,Calls Tryz.prog 183 #[.agg #[.int .i64 z,.slice (some ⟨nb,0,none⟩) (z*z) (z*z)],.agg #[.int .i64 ((x:Int)+dx),.int .i64 ((y:Int)+dy),.int .i64 n]] wx fun e w'=>e=.returned (.bool true)/\Below wx.heap.size wx w'):=fun wx=>by
  have:=pHas wx z (.slice (some ⟨nb,0,none⟩) (z*z) (z*z)) ((x:Int)+dx) ((y:Int)+dy) n (by omega) (by omega) (by omega) _ _ _ rfl
  rw [hhas] at this
  exact this
 have H3W:Hid (∀ wx,goesOn wx L p b nb rg Dv dbs s z fs r2->wx.cell? ⟨p,3,none⟩=some (.int .i64 z)/\wx.cell? ⟨p,4,none⟩=some (.slice (some ⟨nb,0,none⟩) (z*z) (z*z))/\p<wx.heap.size):=fun wx g=>⟨(g he2).c3,(g he2).c4,(g he2).up.1⟩
 clear HB HB2 he1 he2 hR hW2 hB2 hP2 hH hH0 h E E2 hr1 hr2 hdx hdy hpb hX0 hY0 hhas
 go_enter Tryz.func170,Tryz.ntmps170
 go_wp2_with (first
  | (rw [<- HW2.out])
  | (clear T1;go_at_call 165;refine HBH.out.mono ?_;rintro e w1 ⟨rfl,h1,f1⟩;have d0:=HC0.out w1 f1)
  | (go_at_call 165;refine (HB2H.out w1 h1 f1).mono ?_;rintro e w2 ⟨rfl,h2,f2⟩;have ha:=HH0.out w2 (f1.trans f2);have a0:=cell_of_row w2 _ 0 _ _ _ ha;have a1:=cell_of_row w2 _ 1 _ _ _ ha;have a2:=cell_of_row w2 _ 2 _ _ _ ha;simp at a0 a1 a2)
  | (go_at_call 182;refine (HMV.out _).mono ?_;rintro e w3 ⟨rfl,b3⟩))
 obtain ⟨W4,hW4⟩:∃ W4,W4=w3.alloc (.cells #[.int .i64 ((x:Int)+dx),.int .i64 ((y:Int)+dy),.int .i64 n] 100):=⟨_,rfl⟩
 have b4:Below w2.heap.size w2 W4:=by rw [hW4];exact b3.alloc b3.size _
 have hG4:W4.heap[w3.heap.size]?=some (.cells #[.int .i64 ((x:Int)+dx),.int .i64 ((y:Int)+dy),.int .i64 n] 100):=by rw [hW4];exact heap_alloc_last w3 _
 obtain ⟨m3,m4,mp⟩:=H3W.out w2 h2
 have n3:W4.cell? ⟨p,3,none⟩=some (.int .i64 z):=(b4.cell mp).trans m3
 have n4:W4.cell? ⟨p,4,none⟩=some (.slice (some ⟨nb,0,none⟩) (z*z) (z*z)):=(b4.cell mp).trans m4
 have g0:=cell_of_row W4 _ 0 _ _ _ hG4
 have g1:=cell_of_row W4 _ 1 _ _ _ hG4
 have g2:=cell_of_row W4 _ 2 _ _ _ hG4
 simp at g0 g1 g2
 have hgo:=HH.out w2 (f1.trans f2)
 rw [<- hW4]
 clear hW4
 go_region_with (go_at_call 183;refine (HHS.out _).mono ?_;rintro e w5 ⟨rfl,b5⟩)
 all_goals
  have B5:Below w2.heap.size w2 w5:=Below.trans (by repeat (first|exact b4|apply below_drew|apply below_drewN)) (b5.mono b4.size)
  have hg5:w5.heap[w.heap.size+1]?=some (.cells #[.int .i64 0,.int .i64 0,.int .i64 0] 100):=(B5.block _ (heap_lt hgo)).trans hgo
  have hg6:w5.heap[w3.heap.size]?=some (.cells #[.int .i64 ((x:Int)+dx),.int .i64 ((y:Int)+dy),.int .i64 n] 100):=(b5.block _ (heap_lt hG4)).trans hG4
  have s0:=cell_of_row w5 _ 0 _ _ _ hg5
  have s1:=cell_of_row w5 _ 1 _ _ _ hg5
  have s2:=cell_of_row w5 _ 2 _ _ _ hg5
  have z0:=frozen_of_row w5 _ 0 _ _ hg5
  have z1:=frozen_of_row w5 _ 1 _ _ hg5
  have z2:=frozen_of_row w5 _ 2 _ _ hg5
  have v0:=cell_of_row w5 _ 0 _ _ _ hg6
  have v1:=cell_of_row w5 _ 1 _ _ _ hg6
  have v2:=cell_of_row w5 _ 2 _ _ _ hg6
  simp at s0 s1 s2 v0 v1 v2
  clear hg5 hg6
  obtain ⟨X,hX⟩:∃ X,X=((w5.setCell ⟨w.heap.size+1,0,none⟩ (.int .i64 ((x:Int)+dx))).setCell ⟨w.heap.size+1,1,none⟩ (.int .i64 ((y:Int)+dy))).setCell ⟨w.heap.size+1,2,none⟩ (.int .i64 n):=⟨_,rfl⟩
  obtain ⟨q0,q1,q2,fX⟩:=three_set w5 (w.heap.size+1) _ _ _ s0 s1 s2 X hX
  go_wp2
  rw [<- hX]
  refine bodyPost_ret (v:=.tuple #[.agg #[.int .i64 ((x:Int)+dx),.int .i64 ((y:Int)+dy),.int .i64 n],.nilIface]) (by simp [results,Tryz.results170,go_sem,q0,q1,q2]) rfl ?_
  exact ⟨HPO.out _ rfl,(h2.frm (H:=w2.heap.size) ((fun k hk=>Nat.lt_of_lt_of_le (HLT.out k hk) (by have:=(HF.out.trans (f1.trans f2)).size;exact this))) (Frm.of_below (S:=fun k=>w2.heap.size<=k) B5) (fun k e=>e)).frm HLT.out fX (fun k e=>by omega),frm_new ((HF.out.trans (f1.trans f2)).trans (Frm.of_below B5)) (G:=w.heap.size+1) fX (by omega)⟩
theorem pSource (w:World) (L p b nb rg:Nat) (Dv:Value) (dbs:List Nat) (s:ByteArray) (z:Nat) (fs:FS) (A:Nat->Addr) (h:PAt w L p b nb rg Dv dbs s z fs) (hs:s.size<=maxLen) (E:ErrsL w A L) (hLw:L<=w.heap.size) (x y n kx ky:Nat) (hkx:kx+22<=400) (hky:ky+22<=400) (hx:x<=16) (hy:y<=16) (hn:n<=16) :
  Calls Tryz.prog 170 #[.pointer (some ⟨p,0,none⟩),.agg #[.int .i64 x,.int .i64 y,.int .i64 n],.int .i64 kx,.int .i64 ky] w fun e w'=>SrcPost A s z x y n fs.r kx ky e/\goesOn w' L p b nb rg Dv dbs s z fs (Flm.srcR s fs.r kx ky)/\Frm (oneS b) w w':=by
 by_cases h1:(Rdr.number s fs.r kx).2.err=0
 ·by_cases h2:(Rdr.number s (Rdr.number s fs.r kx).2 ky).2.err=0
  ·cases h3:hasB z (x+Flm.srcX s fs.r kx) (y+Flm.srcY s fs.r kx ky) n
   ·exact pSource3 w L p b nb rg Dv dbs s z fs A h hs E hLw x y n kx ky hkx hky h1 h2 hx hy hn h3
   ·exact pSource4 w L p b nb rg Dv dbs s z fs A h hs E hLw x y n kx ky hkx hky h1 h2 hx hy hn h3
  ·exact pSource2 w L p b nb rg Dv dbs s z fs A h hs E hLw x y n kx ky hkx hky h1 h2
 ·exact pSource1 w L p b nb rg Dv dbs s z fs A h hs E hLw x y n kx ky hkx h1
end
end Go.Proofs.YtekfbphnoibnjaaGreatDoor
