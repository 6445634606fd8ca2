/-
  PFew
-/
import Derived.Test.YtekfbphnoibnjaaGreatDoorF29
set_option maxHeartbeats 4000000
namespace Go.Proofs.YtekfbphnoibnjaaGreatDoor
section
open Go.RowKit Go.Shelf
open Flm (Px FS)
attribute [local go_sem] Oper.semAt_some
structure FewB (W:World) (H G p x y n N:Nat) (cs:List Px) (e:Value):Prop where
 fb:FBox W H p x y n e
 nn:W.heap[G]?=some (.cells #[.int .i64 N] 3 (0,0))
 px:Pixs W (H+1) (G+1) (N+1) cs
 sl:W.heap[G+1+1]?=some (.cells #[.slice (some ⟨G+1,0,none⟩) (N+1) (N+1)] 58 (0,0))
theorem FewB.frm {S:Nat->Prop} {W W':World} {H G p x y n N:Nat} {cs:List Px} {e:Value} (h:FewB W H G p x y n N cs e) (f:Frm S W W') (hG:H+3<=G) (hS:∀ k,S k->k<H \/ G+3<=k):FewB W' H G p x y n N cs e :=
 ⟨h.fb.frm f (fun k e=>by have:=hS k e;omega),(f.block _ (heap_lt h.nn) (fun e=>by have:=hS _ e;omega)).trans h.nn,f.pixs h.px (fun e=>by have:=hS _ e;omega),(f.block _ (heap_lt h.sl) (fun e=>by have:=hS _ e;omega)).trans h.sl⟩
def FewL (w W:World) (L p b nb rg:Nat) (Dv:Value) (dbs:List Nat) (s:ByteArray) (z:Nat) (fs:FS) (H G x y n N:Nat) (r1:RS) (k:Nat):Prop :=
 ∃ (ls cs:List Px) (r:RS),Flm.colK s r1 N k ls r/\cs.take k=ls/\PAt W L p b nb rg Dv dbs s z { fs with r:=r }/\FewB W H G p x y n N cs .nilIface/\Frm (oneS b) w W
def FewJ (w W:World) (L p b nb rg:Nat) (Dv:Value) (dbs:List Nat) (s:ByteArray) (z:Nat) (fs:FS) (H G T x y n N:Nat) (cs:List Px) (pre:List (Pt x y n)):Prop :=
 PAt W L p b nb rg Dv dbs s z ((pre.map (·.1)).foldl (Flm.fill1 s z N cs) fs)/\FewB W H G p x y n N cs .nilIface/\W.heap[T]?=some (.cells #[.int .i64 x,.int .i64 y,.int .i64 n] 100 (0,0))/\Frm (blkS b nb) w W
def FewY (A:Nat->Addr) (w W:World) (b nb:Nat) (s:ByteArray) (z:Nat) (fs:FS) (H p x y n N:Nat) (cs:List Px) (c:Code) (pre:List (Pt x y n)):Prop :=
 c=.ret/\FBox W H p x y n (.iface 278 (.pointer (some (A ((pre.map (·.1)).foldl (Flm.fill1 s z N cs) fs).r.err.toNat))))/\((pre.map (·.1)).foldl (Flm.fill1 s z N cs) fs).r.err ≠ 0/\Frm (blkS b nb) w W
set_option maxRecDepth 100000 in
theorem pFew_in (w:World) (L p b nb rg:Nat) (Dv:Value) (dbs:List Nat) (s:ByteArray) (z:Nat) (fs:FS) (A:Nat->Addr) (h:PAt w L p b nb rg Dv dbs s z fs) (hs:s.size<=maxLen) (E:ErrsL w A L) (hLw:L<=w.heap.size) (x y n:Nat) (hx:x+n<=z) (hy:y+n<=z) (N:Nat) (hN:N<=3) (r1:RS)
  (hnum:∀ wx,Below w.heap.size w wx->Calls Tryz.prog 167 #[.pointer (some ⟨b,0,none⟩),.int .i64 200] wx fun e w'=>e=.returned (.tuple #[.int .i64 N,.nilIface])/\PAt w' L p b nb rg Dv dbs s z { fs with r:=r1 }/\Frm (oneS b) wx w') :
  Calls Tryz.prog 148 #[.pointer (some ⟨p,0,none⟩),.agg #[.int .i64 x,.int .i64 y,.int .i64 n]] w (BlkPost A w L p b nb rg Dv dbs s z ((Flm.spots x y n).foldl (Flm.fill1 s z N (Flm.colours s (N+1) r1).1) { fs with r:=(Flm.colours s (N+1) r1).2 })):=by
 obtain ⟨FR,hFR⟩:∃ FR,FR=(Flm.spots x y n).foldl (Flm.fill1 s z N (Flm.colours s (N+1) r1).1) { fs with r:=(Flm.colours s (N+1) r1).2 }:=⟨_,rfl⟩
 rw [<- hFR]
 have HFR:Hid (FR=(Flm.spots x y n).foldl (Flm.fill1 s z N (Flm.colours s (N+1) r1).1) { fs with r:=(Flm.colours s (N+1) r1).2 }):=hFR
 clear hFR
 obtain ⟨Z,hZ⟩:∃ Z,Z=z*z:=⟨_,rfl⟩
 have hz16:=h.z16
 obtain ⟨H,hH⟩:∃ H,H=w.heap.size:=⟨_,rfl⟩
 obtain ⟨W3,hW3⟩:∃ W3,W3=((w.alloc (.cells #[.pointer (some ⟨p,0,none⟩)] 107)).alloc (.cells #[.int .i64 x,.int .i64 y,.int .i64 n] 100)).alloc (.cells #[.nilIface] 62):=⟨_,rfl⟩
 have hB3:Below w.heap.size w W3:=by rw [hW3];exact below3 w _ _ _
 have hF3:FBox W3 H p x y n .nilIface:=by rw [hW3,hH];exact fbox_new w p x y n
 have hs3:W3.heap.size=H+3:=by rw [hW3,hH];simp
 have HN:Hid (Calls Tryz.prog 167 #[.pointer (some ⟨b,0,none⟩),.int .i64 200] W3 fun e w'=>e=.returned (.tuple #[.int .i64 N,.nilIface])/\PAt w' L p b nb rg Dv dbs s z { fs with r:=r1 }/\Frm (oneS b) W3 w'):=hnum W3 hB3
 have hlt:∀ k,paB p b nb rg Dv dbs k->k<H:=by rw [hH];exact h.lt
 have hbH:b<H:=hlt b (.inr (.inl rfl))
 have hnbH:nb<H:=hlt nb (.inr (.inr (.inr (.inl rfl))))
 have hpH:p<H:=hlt p (.inl rfl)
 have hmx:Tryz.prog.follows .mixedOrders=true:=by kernel_rfl
 have HLT:Hid (∀ k,paB p b nb rg Dv dbs k->k<H):=hlt
 have HW3:Hid (W3=((w.alloc (.cells #[.pointer (some ⟨p,0,none⟩)] 107)).alloc (.cells #[.int .i64 x,.int .i64 y,.int .i64 n] 100)).alloc (.cells #[.nilIface] 62)):=hW3
 have HF:Hid (Frm (oneS b) w W3):=Frm.of_below hB3
 have HC:Hid (∀ w1,Frm (oneS b) W3 w1->FBox w1 H p x y n .nilIface):=fun w1 f=>hF3.frm f (fun k e=>by have e':k=b:=e;omega)
 have HES:Hid (∀ wx,Frm (oneS b) w wx->ErrsL wx A L/\L<=wx.heap.size):=fun wx f=>⟨h.errs hLw E f,by have:=f.size;omega⟩
 have HES2:Hid (∀ wx,Frm (blkS b nb) w wx->ErrsL wx A L/\L<=wx.heap.size):=fun wx f=>⟨E.below (f.below hLw (fun k e=>e.elim (fun e=>by rw [e];exact h.lo.2) (fun e=>by rw [e];exact h.nw.lt.1))),by have:=f.size;omega⟩
 have HH:Hid (H=w.heap.size):=hH
 have HZ:Hid (Z=z*z):=hZ
 have k00:=cell_of_row _ _ 0 _ _ _ hF3.b0
 simp at k00
 have c0:=(h.below hB3).c0
 have hmk:=makePx (N+1) (by omega)
 rw [show (((N+1:Nat)):Int)=(N:Int)+1 by omega] at hmk
 have hLH:L<=H:=by omega
 clear hnum h E hW3 hB3 hF3 hH hZ hlt
 refine (callsIn_wide (n:=5)).1 ?_
 refine callsIn_of_wp_marks Tryz.func148 rfl trivial ?_ rfl
 simp only [Tryz.ntmps148,List.size_toArray,List.length_cons,List.length_nil,Nat.reduceAdd,Nat.reduceSub,Array.replicate_succ,Array.replicate_zero,List.push_toArray,List.append_toArray,List.nil_append,List.cons_append]
 refine wpIn_wide.2 ?_
 go_wp2_with (first
  | (rw [<- HW3.out,<- HH.out])
  | (go_at_call 167;refine HN.out.mono ?_;rintro e w1 ⟨rfl,h1,f1⟩;obtain ⟨G,hG⟩:∃ G,G=w1.heap.size:=⟨_,rfl⟩;have HG:Hid (G=w1.heap.size):=hG;clear hG))
 obtain ⟨W6,hW6⟩:∃ W6,W6=((w1.alloc (.cells #[.int .i64 N] 3)).alloc (.cells (madeCells #[.int .u8 0,.int .u8 0,.int .u8 0] ((N+1)*3)) 50)).alloc (.cells #[.slice (some ⟨w1.heap.size+1,0,none⟩) (N+1) (N+1)] 58):=⟨_,rfl⟩
 have hB6:Below w1.heap.size w1 W6:=by rw [hW6];exact below3 w1 _ _ _
 have hs6:W6.heap.size=G+3:=by rw [hW6,HG.out];simp
 have hHG:H+3<=G:=by rw [HG.out];have:=f1.size;omega
 have hb6:FewB W6 H G p x y n N (List.replicate (N+1) (0,0,0)) .nilIface:=by
  have g0:=heap_alloc_last w1 (.cells #[.int .i64 N] 3)
  have g1:=made_pixs (w1.alloc (.cells #[.int .i64 N] 3)) (H+1) (N+1) (by rw [World.size_alloc];have:=HG.out;omega) (by omega)
  have g2:=heap_alloc_last ((w1.alloc (.cells #[.int .i64 N] 3)).alloc (.cells (madeCells #[.int .u8 0,.int .u8 0,.int .u8 0] ((N+1)*3)) 50)) (.cells #[.slice (some ⟨w1.heap.size+1,0,none⟩) (N+1) (N+1)] 58)
  simp only [World.size_alloc] at g1 g2
  refine ⟨(HC.out w1 f1).below hB6,?_,?_,?_⟩
  ·rw [hW6,HG.out,Below.heap_alloc _ _ _ (by simp only [World.size_alloc];omega),Below.heap_alloc _ _ _ (by simp only [World.size_alloc];omega)];exact g0
  ·rw [hW6,HG.out];exact Frm.pixs (S:=fun _=>False) ((Frm.refl _ _).alloc _) g1 (fun e=>e)
  ·rw [hW6,HG.out];exact g2
 have HL0:Hid (FewL w W6 L p b nb rg Dv dbs s z fs H G x y n N r1 0):=⟨[],List.replicate (N+1) (0,0,0),r1,⟨rfl,by simp⟩,rfl,h1.below hB6,hb6,(HF.out.trans f1).trans (Frm.of_below hB6)⟩
 rw [<- HG.out] at hW6
 rw [<- HG.out,<- hW6]
 clear hW6 hB6 hb6 h1 f1 k00 c0 hmk
 go_loopw [32] (fun kv wr=>∃ k:Nat,k<=N+1/\kv=.int .i64 k/\FewL w wr L p b nb rg Dv dbs s z fs H G x y n N r1 k) (fun kv _=>N+1-(intOf kv).toNat)
 case atStart=>exact ⟨0,by omega,rfl,HL0.out⟩
 case round =>
  clear HL0
  obtain ⟨k,hk,rfl,ls,cs,r,hck,htk,hp,hbx,hfr⟩:=hrel
  have hcl:=hbx.px.len
  have k00:=cell_of_row _ _ 0 _ _ _ hbx.fb.b0
  have kS0:=cell_of_row _ _ 0 _ _ _ hbx.sl
  simp at k00 kS0
  by_cases hkn:k<N+1
  ·have hkn':(k:Int)<(N:Int)+1:=by omega
   have HP:=pPixel wr.drew L p b nb rg Dv dbs s z { fs with r:=r } A (hp.below (below_drew (Below.refl _ wr))) hs ((HES.out wr hfr).1.below (below_drew (Below.refl _ wr))) (HES.out wr hfr).2
   obtain ⟨kf,zf⟩:wr.cell? ⟨H+1+1,0,none⟩=some .nilIface/\wr.frozen? ⟨H+1+1,0,none⟩=false:=⟨cell_of_row _ _ 0 _ _ _ hbx.fb.b2,frozen_of_row _ _ 0 _ _ hbx.fb.b2⟩
   have HI:Hid (Flm.colK s r1 N k ls r/\cs.take k=ls/\PAt wr L p b nb rg Dv dbs s z { fs with r:=r }/\FewB wr H G p x y n N cs .nilIface/\Frm (oneS b) w wr):=⟨hck,htk,hp,hbx,hfr⟩
   have hre:r.err=0:=hp.err
   dsimp only at HP
   by_cases hce:(Flm.colour s r).2.err=0
   ·obtain ⟨C,hC⟩:∃ C,C=(Flm.colour s r).1:=⟨_,rfl⟩
    have HPH:Hid (Calls Tryz.prog 168 #[.pointer (some ⟨p,0,none⟩)] wr.drew fun e w'=>∃ v,e=.returned v/\v=.tuple #[.agg #[.int .u8 C.1,.int .u8 C.2.1,.int .u8 C.2.2],.nilIface]/\PAt w' L p b nb rg Dv dbs s z { fs with r:=(Flm.colour s r).2 }/\Frm (oneS b) wr w'):=HP.mono (fun e w' he=>⟨_,he.1,(by rw [if_pos hce,hce,hC];rfl),he.2.1 hce,((Frm.refl (oneS b) wr).drew).trans he.2.2⟩)
    have HC2:Hid (C=(Flm.colour s r).1/\(Flm.colour s r).2.err=0/\r.err=0):=⟨hC,hce,hre⟩
    clear HP hck htk hp hbx hfr hce hC hre
    go_wp2_with fail
    refine region_calm (S:=fun w'=>w'.cell? ⟨H,0,none⟩=some (.pointer (some ⟨p,0,none⟩))/\w'.cell? ⟨G+1+1,0,none⟩=some (.slice (some ⟨G+1,0,none⟩) (N+1) (N+1))) 10 #[false,false,false,false,false,false,false,false,false,false] rfl rfl hmx ?_
    have hS0:(wr.drew.cell? ⟨H,0,none⟩=some (.pointer (some ⟨p,0,none⟩))/\wr.drew.cell? ⟨G+1+1,0,none⟩=some (.slice (some ⟨G+1,0,none⟩) (N+1) (N+1))):=⟨k00,kS0⟩
    refine tk_at 0 36 (.slice (some ⟨G+1,0,none⟩) (N+1) (N+1)) #[true,false,false,false,false,false,false,false,false,false] rfl rfl rfl (by kernel_rfl) (by rfl) (by rintro w ⟨t0,t1⟩;go_simp) (by assumption) ?_
    simp only [sIb,sCs,sCz]
    refine tk_at 1 37 (.int .i64 k) #[true,true,false,false,false,false,false,false,false,false] rfl rfl rfl (by kernel_rfl) (by rfl) (by rintro w ⟨t0,t1⟩;go_simp) (by assumption) ?_
    simp only [sIb,sCs,sCz]
    refine tk_at 2 38 (.pointer (some ⟨p,0,none⟩)) #[true,true,true,false,false,false,false,false,false,false] rfl rfl rfl (by kernel_rfl) (by rfl) (by rintro w ⟨t0,t1⟩;go_simp) (by assumption) ?_
    simp only [sIb,sCs,sCz]
    refine enter_at (i:=3) (d:=39) (f:=168) (args:=#[.pointer (some ⟨p,0,none⟩)]) #[true,true,true,true,false,false,false,false,false,false] (by kernel_rfl) rfl rfl rfl (by rfl) (by go_simp) (fun v w'=>v=.tuple #[.agg #[.int .u8 C.1,.int .u8 C.2.1,.int .u8 C.2.2],.nilIface]/\PAt w' L p b nb rg Dv dbs s z { fs with r:=(Flm.colour s r).2 }/\Frm (oneS b) wr w') HPH.out ?_
    rintro va wa ⟨rfl,ha,fa⟩
    have hN0:¬ oneS b H:=by show ¬ H=b;omega
    have hN2:¬ oneS b (G+1+1):=by show ¬ G+1+1=b;omega
    have hS1:(wa.cell? ⟨H,0,none⟩=some (.pointer (some ⟨p,0,none⟩))/\wa.cell? ⟨G+1+1,0,none⟩=some (.slice (some ⟨G+1,0,none⟩) (N+1) (N+1))):=⟨fa.cell k00 hN0,fa.cell kS0 hN2⟩
    refine ⟨hS1,?_⟩
    simp only [sIb,sCs,sCz]
    refine tk_at 4 35 (.tuple #[.agg #[.int .u8 C.1,.int .u8 C.2.1,.int .u8 C.2.2],.nilIface]) #[true,true,true,true,true,false,false,false,false,false] rfl rfl rfl (by kernel_rfl) (by rfl) (by rintro w ⟨t0,t1⟩;go_simp) (by assumption) ?_
    simp only [sIb,sCs,sCz]
    refine tk_at 5 40 (.agg #[.int .u8 C.1,.int .u8 C.2.1,.int .u8 C.2.2]) #[true,true,true,true,true,true,false,false,false,false] rfl rfl rfl (by kernel_rfl) (by rfl) (by rintro w ⟨t0,t1⟩;go_simp) (by assumption) ?_
    simp only [sIb,sCs,sCz]
    refine tk_at 6 41 (.nilIface) #[true,true,true,true,true,true,true,false,false,false] rfl rfl rfl (by kernel_rfl) (by rfl) (by rintro w ⟨t0,t1⟩;go_simp) (by assumption) ?_
    simp only [sIb,sCs,sCz]
    refine tk_at 7 42 (.pointer (some ⟨G+1,k*3,none⟩)) #[true,true,true,true,true,true,true,true,false,false] rfl rfl rfl (by kernel_rfl) (by rfl) (by rintro w ⟨t0,t1⟩;go_simp) (by assumption) ?_
    simp only [sIb,sCs,sCz]
    have hba:FewB wa H G p x y n N cs .nilIface:=HI.out.2.2.2.1.frm fa hHG (fun k' e=>by have e':k'=b:=e;omega)
    obtain ⟨p0,p1,p2⟩:=hba.px.cell k (by omega)
    have z0:=hba.px.frozen (k*3)
    have z1:=hba.px.frozen (k*3+1)
    have z2:=hba.px.frozen (k*3+2)
    obtain ⟨wb,hwb⟩:∃ wb,wb=((wa.setCell ⟨G+1,k*3,none⟩ (.int .u8 C.1)).setCell ⟨G+1,k*3+1,none⟩ (.int .u8 C.2.1)).setCell ⟨G+1,k*3+2,none⟩ (.int .u8 C.2.2):=⟨_,rfl⟩
    have fb:Frm (fun t=>t=G+1) wa wb:=by rw [hwb];exact Frm.setCell (p:=⟨G+1,_,none⟩) (Frm.setCell (p:=⟨G+1,_,none⟩) (Frm.setCell (p:=⟨G+1,_,none⟩) (Frm.refl (fun t=>t=G+1) wa) (.inl rfl) _) (.inl rfl) _) (.inl rfl) _
    have hpb:Pixs wb (H+1) (G+1) (N+1) (cs.set k C):=by rw [hwb];exact hba.px.store k (by omega) C
    have hM0:¬ H=G+1:=by omega
    have hM2:¬ G+1+1=G+1:=by omega
    have hS2:(wb.cell? ⟨H,0,none⟩=some (.pointer (some ⟨p,0,none⟩))/\wb.cell? ⟨G+1+1,0,none⟩=some (.slice (some ⟨G+1,0,none⟩) (N+1) (N+1))):=⟨fb.cell hS1.1 hM0,fb.cell hS1.2 hM2⟩
    refine store_at (i:=8) (w':=wb) #[true,true,true,true,true,true,true,true,true,false] (by kernel_rfl) rfl rfl rfl (by rfl) ?sg hS2 ?_
    case sg=>rw [hwb];go_simp
    clear p0 p1 p2 z0 z1 z2
    refine tk_at 9 6 (.nilIface) #[true,true,true,true,true,true,true,true,true,true] rfl rfl rfl (by kernel_rfl) (by rfl) (by rintro w ⟨t0,t1⟩;go_simp) (by assumption) ?_
    simp only [sIb,sCs,sCz]
    refine wpAnyH_done (by kernel_rfl) ?_ _
    dsimp only [calmPost]
    have HB:Hid (PAt wb L p b nb rg Dv dbs s z { fs with r:=(Flm.colour s r).2 }/\FewB wb H G p x y n N (cs.set k C) .nilIface/\Frm (oneS b) w wb):=by
     refine ⟨ha.frm fb (fun t ht e=>by have:=HLT.out t ht;omega),⟨hba.fb.frm fb (fun t e=>by omega),(fb.block _ (heap_lt hba.nn) (by omega)).trans hba.nn,hpb,(fb.block _ (heap_lt hba.sl) (by omega)).trans hba.sl⟩,?_⟩
     exact frm_new (HI.out.2.2.2.2.trans fa) (G:=G+1) fb (by have:=HH.out;omega)
    clear ha fa hba fb hpb hwb hS0 hS1 hS2 k00 kS0
    go_wp2_with fail
    go_roundw
    case rel =>
     obtain ⟨b1,b2,b3⟩:=HB.out
     obtain ⟨i1,i2,i3,i4,i5⟩:=HI.out
     obtain ⟨c1,c2,c3⟩:=HC2.out
     refine ⟨k+1,by omega,by go_num,ls++[C],cs.set k C,(Flm.colour s r).2,?_,Flm.take_set i2 (by omega) C,b1,b2,b3⟩
     rw [c1]
     exact i1.step c3 hkn
    case measure=>simp [intOf];omega
   ·obtain ⟨ea,hea⟩:∃ ea,ea=A (Flm.colour s r).2.err.toNat:=⟨_,rfl⟩
    have HPH:Hid (Calls Tryz.prog 168 #[.pointer (some ⟨p,0,none⟩)] wr.drew fun e w'=>∃ v,e=.returned v/\v=.tuple #[.agg #[.int .u8 0,.int .u8 0,.int .u8 0],.iface 278 (.pointer (some ea))]/\Frm (oneS b) wr w'):=HP.mono (fun e w' he=>⟨_,he.1,(by rw [if_neg hce,errA_pos A hce,hea]),((Frm.refl (oneS b) wr).drew).trans he.2.2⟩)
    have HC2:Hid (ea=A (Flm.colour s r).2.err.toNat/\(Flm.colour s r).2.err ≠ 0/\r.err=0):=⟨hea,hce,hre⟩
    clear HP hck htk hp hbx hfr hce hea hre
    go_wp2_with fail
    refine region_calm (S:=fun w'=>w'.cell? ⟨H,0,none⟩=some (.pointer (some ⟨p,0,none⟩))/\w'.cell? ⟨G+1+1,0,none⟩=some (.slice (some ⟨G+1,0,none⟩) (N+1) (N+1))) 10 #[false,false,false,false,false,false,false,false,false,false] rfl rfl hmx ?_
    have hS0:(wr.drew.cell? ⟨H,0,none⟩=some (.pointer (some ⟨p,0,none⟩))/\wr.drew.cell? ⟨G+1+1,0,none⟩=some (.slice (some ⟨G+1,0,none⟩) (N+1) (N+1))):=⟨k00,kS0⟩
    refine tk_at 0 36 (.slice (some ⟨G+1,0,none⟩) (N+1) (N+1)) #[true,false,false,false,false,false,false,false,false,false] rfl rfl rfl (by kernel_rfl) (by rfl) (by rintro w ⟨t0,t1⟩;go_simp) (by assumption) ?_
    simp only [sIb,sCs,sCz]
    refine tk_at 1 37 (.int .i64 k) #[true,true,false,false,false,false,false,false,false,false] rfl rfl rfl (by kernel_rfl) (by rfl) (by rintro w ⟨t0,t1⟩;go_simp) (by assumption) ?_
    simp only [sIb,sCs,sCz]
    refine tk_at 2 38 (.pointer (some ⟨p,0,none⟩)) #[true,true,true,false,false,false,false,false,false,false] rfl rfl rfl (by kernel_rfl) (by rfl) (by rintro w ⟨t0,t1⟩;go_simp) (by assumption) ?_
    simp only [sIb,sCs,sCz]
    refine enter_at (i:=3) (d:=39) (f:=168) (args:=#[.pointer (some ⟨p,0,none⟩)]) #[true,true,true,true,false,false,false,false,false,false] (by kernel_rfl) rfl rfl rfl (by rfl) (by go_simp) (fun v w'=>v=.tuple #[.agg #[.int .u8 0,.int .u8 0,.int .u8 0],.iface 278 (.pointer (some ea))]/\Frm (oneS b) wr w') HPH.out ?_
    rintro va wa ⟨rfl,fa⟩
    have hN0:¬ oneS b H:=by show ¬ H=b;omega
    have hN2:¬ oneS b (G+1+1):=by show ¬ G+1+1=b;omega
    have hS1:(wa.cell? ⟨H,0,none⟩=some (.pointer (some ⟨p,0,none⟩))/\wa.cell? ⟨G+1+1,0,none⟩=some (.slice (some ⟨G+1,0,none⟩) (N+1) (N+1))):=⟨fa.cell k00 hN0,fa.cell kS0 hN2⟩
    refine ⟨hS1,?_⟩
    simp only [sIb,sCs,sCz]
    refine tk_at 4 35 (.tuple #[.agg #[.int .u8 0,.int .u8 0,.int .u8 0],.iface 278 (.pointer (some ea))]) #[true,true,true,true,true,false,false,false,false,false] rfl rfl rfl (by kernel_rfl) (by rfl) (by rintro w ⟨t0,t1⟩;go_simp) (by assumption) ?_
    simp only [sIb,sCs,sCz]
    refine tk_at 5 40 (.agg #[.int .u8 0,.int .u8 0,.int .u8 0]) #[true,true,true,true,true,true,false,false,false,false] rfl rfl rfl (by kernel_rfl) (by rfl) (by rintro w ⟨t0,t1⟩;go_simp) (by assumption) ?_
    simp only [sIb,sCs,sCz]
    refine tk_at 6 41 (.iface 278 (.pointer (some ea))) #[true,true,true,true,true,true,true,false,false,false] rfl rfl rfl (by kernel_rfl) (by rfl) (by rintro w ⟨t0,t1⟩;go_simp) (by assumption) ?_
    simp only [sIb,sCs,sCz]
    refine tk_at 7 42 (.pointer (some ⟨G+1,k*3,none⟩)) #[true,true,true,true,true,true,true,true,false,false] rfl rfl rfl (by kernel_rfl) (by rfl) (by rintro w ⟨t0,t1⟩;go_simp) (by assumption) ?_
    simp only [sIb,sCs,sCz]
    have hba:FewB wa H G p x y n N cs .nilIface:=HI.out.2.2.2.1.frm fa hHG (fun k' e=>by have e':k'=b:=e;omega)
    obtain ⟨p0,p1,p2⟩:=hba.px.cell k (by omega)
    have z0:=hba.px.frozen (k*3)
    have z1:=hba.px.frozen (k*3+1)
    have z2:=hba.px.frozen (k*3+2)
    obtain ⟨wb,hwb⟩:∃ wb,wb=((wa.setCell ⟨G+1,k*3,none⟩ (.int .u8 0)).setCell ⟨G+1,k*3+1,none⟩ (.int .u8 0)).setCell ⟨G+1,k*3+2,none⟩ (.int .u8 0):=⟨_,rfl⟩
    have fb:Frm (fun t=>t=G+1) wa wb:=by rw [hwb];exact Frm.setCell (p:=⟨G+1,_,none⟩) (Frm.setCell (p:=⟨G+1,_,none⟩) (Frm.setCell (p:=⟨G+1,_,none⟩) (Frm.refl (fun t=>t=G+1) wa) (.inl rfl) _) (.inl rfl) _) (.inl rfl) _
    have hM0:¬ H=G+1:=by omega
    have hM2:¬ G+1+1=G+1:=by omega
    have hS2:(wb.cell? ⟨H,0,none⟩=some (.pointer (some ⟨p,0,none⟩))/\wb.cell? ⟨G+1+1,0,none⟩=some (.slice (some ⟨G+1,0,none⟩) (N+1) (N+1))):=⟨fb.cell hS1.1 hM0,fb.cell hS1.2 hM2⟩
    refine store_at (i:=8) (w':=wb) #[true,true,true,true,true,true,true,true,true,false] (by kernel_rfl) rfl rfl rfl (by rfl) ?sg hS2 ?_
    case sg=>rw [hwb];go_simp
    clear p0 p1 p2 z0 z1 z2
    refine tk_at 9 6 (.iface 278 (.pointer (some ea))) #[true,true,true,true,true,true,true,true,true,true] rfl rfl rfl (by kernel_rfl) (by rfl) (by rintro w ⟨t0,t1⟩;go_simp) (by assumption) ?_
    simp only [sIb,sCs,sCz]
    refine wpAnyH_done (by kernel_rfl) ?_ _
    dsimp only [calmPost]
    have HB:Hid (Frm (oneS b) w wb):=frm_new (HI.out.2.2.2.2.trans fa) (G:=G+1) fb (by have:=HH.out;omega)
    have hM3:¬ H+1+1=G+1:=by omega
    have hN3:¬ oneS b (H+1+1):=by show ¬ H+1+1=b;omega
    have kf2:wb.cell? ⟨H+1+1,0,none⟩=some .nilIface:=fb.cell (fa.cell kf hN3) hM3
    have zf2:wb.frozen? ⟨H+1+1,0,none⟩=false:=(World.frozen?_of_block (a:=⟨H+1+1,0,none⟩) (fb.block _ (heap_lt hba.fb.b2) hM3)).trans (frozen_of_row _ _ 0 _ _ hba.fb.b2)
    clear fa hba fb hwb hS0 hS1 hS2 k00 kS0 kf zf
    go_wp2_with fail
    obtain ⟨X,hX⟩:∃ X,X=wb.setCell ⟨H+1+1,0,none⟩ (.iface 278 (.pointer (some ea))):=⟨_,rfl⟩
    rw [<- hX]
    have fX:Frm (fun t=>t=H+1+1) wb X:=by rw [hX];exact Frm.setCell (p:=⟨H+1+1,0,none⟩) (Frm.refl (fun t=>t=H+1+1) wb) (.inl rfl) _
    have q0:X.cell? ⟨H+1+1,0,none⟩=some (.iface 278 (.pointer (some ea))):=by rw [hX];exact World.cell?_setCell_same _ _ _ kf2
    refine retM_none (v:=.iface 278 (.pointer (some ea))) rfl (by simp [results,Tryz.results148,go_sem,q0]) ?_
    obtain ⟨c1,c2,c3⟩:=HC2.out
    have hF:FR.r=(Flm.colour s r).2:=by
     rw [HFR.out,<- HI.out.1.bad c3 hkn c2,Flm.foldl_off (fun fs p hh=>Flm.fill1_off hh p)]
     dsimp only
     rw [HI.out.1.bad c3 hkn c2]
     exact c2
    refine ⟨by rw [hF,errA_pos A c2,c1],fun he=>absurd he (by rw [hF];exact c2),?_⟩
    exact frm_one_blk (frm_new HB.out (G:=H+1+1) fX (by have:=HH.out;omega))
  ·have hkn':¬ ((k:Int)<(N:Int)+1):=by omega
   have ek:k=N+1:=by omega
   rw [ek] at hck htk
   clear ek
   have hdn:=hck.done
   have hcs:cs=ls:=by rw [<- htk,List.take_of_length_le (by omega)]
   subst hcs
   have hlen:=hck.1
   have k10:=cell_of_row _ _ 0 _ _ _ hbx.fb.b1
   have k11:=cell_of_row _ _ 1 _ _ _ hbx.fb.b1
   have k12:=cell_of_row _ _ 2 _ _ _ hbx.fb.b1
   simp at k10 k11 k12
   have HFR2:Hid (FR=(Flm.spots x y n).foldl (Flm.fill1 s z N cs) { fs with r:=r }):=by unfold Hid;rw [HFR.out,hdn]
   have HOKC:Hid (∀ i,Flm.okPx (cs.getD i (0,0,0))):=fun i=>by
    have hm:=Flm.colours_okPx (s:=s) (N+1) r1
    rw [hdn] at hm
    rw [List.getD_eq_getElem?_getD]
    rcases Nat.lt_or_ge i cs.length with hi|hi
    ·rw [List.getElem?_eq_getElem hi];exact hm _ (List.getElem_mem _)
    ·rw [List.getElem?_eq_none hi];exact ⟨⟨by decide,by decide⟩,⟨by decide,by decide⟩,⟨by decide,by decide⟩⟩
   have HI:Hid (PAt wr L p b nb rg Dv dbs s z { fs with r:=r }/\FewB wr H G p x y n N cs .nilIface/\Frm (oneS b) w wr):=⟨hp,hbx,hfr⟩
   obtain ⟨T,hT⟩:∃ T,T=wr.heap.size:=⟨_,rfl⟩
   have HT:Hid (T=wr.heap.size):=hT
   have hTG:G+3<=T:=by rw [hT];exact heap_lt hbx.sl
   clear hck htk hp hbx hfr hdn hT k00 kS0
   go_wp2_with (go_at_call 105;refine (pPoints _ _ _ _).mono ?_;rintro e wq ⟨rfl,rfl⟩)
   clear k10 k11 k12
   rw [<- HT.out]
   obtain ⟨W7,hW7⟩:∃ W7,W7=wr.alloc (.cells #[.int .i64 x,.int .i64 y,.int .i64 n] 100):=⟨_,rfl⟩
   have hB7:Below wr.heap.size wr W7:=by rw [hW7];exact (Below.refl _ wr).alloc (Nat.le_refl _) _
   have hs7:W7.heap.size=T+1:=by rw [hW7,HT.out];simp
   have hit:W7.heap[T]?=some (.cells #[.int .i64 x,.int .i64 y,.int .i64 n] 100 (0,0)):=by rw [hW7,HT.out];exact heap_alloc_last wr _
   have HI0:Hid (FewJ w W7 L p b nb rg Dv dbs s z { fs with r:=r } H G T x y n N cs []):=⟨HI.out.1.below hB7,HI.out.2.1.frm (Frm.of_below (S:=fun _=>False) hB7) hHG (fun _ e=>e.elim),hit,frm_one_blk (HI.out.2.2.trans (Frm.of_below hB7))⟩
   rw [<- hW7]
   clear hW7 hB7 HI
   refine (wpIn_wide (n:=5)).1 ?_
   refine wpIn_rangeFunc_ownF rfl (by decide) (gf:=131) (lb:=#[.pointer (some ⟨T,0,none⟩)]) rfl trivial (enters_of Tryz.func131 (by kernel_rfl) rfl)
    (points_stops Fence.wide (5-1) trivial rfl (by decide) T x y n (by omega) (by omega) W7 hit)
    (fun h1 h2=>h2.trans h1) (fun W l o o' hl _ _ _=>World.putObj_heap_other (by omega)) (Below.refl _ _) (fun _=>rfl)
    (fun pre W=>FewJ w W L p b nb rg Dv dbs s z { fs with r:=r } H G T x y n N cs pre)
    (fun c pre W=>FewY A w W b nb s z { fs with r:=r } H p x y n N cs c pre)
    ?own ?ownx HI0.out
    (fun pt=>{ tmps:=#[.pointer (some ⟨p,0,none⟩),.agg #[.int .i64 x,.int .i64 y,.int .i64 n],.pointer (some ⟨H,0,none⟩),.pointer (some ⟨H+1,0,none⟩),.pointer (some ⟨H+1+1,0,none⟩),.pointer (some ⟨G,0,none⟩),u6,.pointer (some ⟨G+1+1,0,none⟩),u8,.int .i64 pt.1.1,.int .i64 pt.1.2,undef,undef,.tuple #[.int .i64 N,.nilIface],.pointer (some ⟨p,0,none⟩),.pointer (some ⟨p,0,none⟩),.pointer (some ⟨p,0,none⟩),.pointer (some ⟨b,0,none⟩),.tuple #[.int .i64 N,.nilIface],.int .i64 N,.nilIface,.nilIface,.bool false,undef,.int .i64 N,.bool (decide ((4:Int)<=(N:Int))),undef,.int .i64 N,.int .i64 ((N:Int)+1),.slice (some ⟨G+1,0,none⟩) (N+1) (N+1),.slice (some ⟨G+1,0,none⟩) (N+1) (N+1),.int .i64 ((N:Int)+1),.int .i64 k,.bool false,u34,u35,u36,u37,u38,u39,u40,u41,u42,u43,u44,u45,u46,.agg #[.int .i64 x,.int .i64 y,.int .i64 n],.func (.func 131) #[] #[.pointer (some ⟨T,0,none⟩)],.int .i64 pt.1.1,.int .i64 pt.1.2,undef,undef,undef,undef,undef,undef,undef,undef,undef,undef,undef,undef,undef,undef,undef,undef,undef,undef,undef,undef],defers:=[] }) ?assign ?body ?done ?stop
   case own =>
    rintro pre W W' row ⟨i1,i2,i3,i4⟩ hg hr
    have hr':∀ r,row=some r->T+1<=r:=fun r e=>by have:=(hr r e).1;omega
    have fg:Frm (fun k=>row=some k) W W':=(Frm.refl _ W).grown hg (fun k e=>.inl e)
    refine ⟨i1.grown (B:=H) HLT.out hg (fun r e=>by have:=hr' r e;omega),i2.frm fg hHG (fun k e=>by have:=hr' k e;omega),(fg.block _ (heap_lt i3) (fun e=>by have:=hr' _ e;omega)).trans i3,?_⟩
    exact i4.grown hg (fun k e=>.inr (by have:=hr' k e;have:=HH.out;omega))
   case ownx =>
    rintro c pre W W' row ⟨i1,i2,i3,i4⟩ hg hr
    have hr':∀ r,row=some r->T+1<=r:=fun r e=>by have:=(hr r e).1;omega
    have fg:Frm (fun k=>row=some k) W W':=(Frm.refl _ W).grown hg (fun k e=>.inl e)
    exact ⟨i1,i2.frm fg (fun k e=>by have:=hr' k e;omega),i3,i4.grown hg (fun k e=>.inr (by have:=hr' k e;have:=HH.out;omega))⟩
   case assign =>
    intro l pt W K hK
    dsimp only [encPt]
    gi_wp2
    exact hK
   case body =>
    rintro l pre ⟨⟨PX,PY⟩,⟨hpx1,hpx2⟩,hpy1,hpy2⟩ W ⟨i1,i2,i3,i4⟩ hlen
    dsimp only at hpx1 hpx2 hpy1 hpy2 ⊢
    obtain ⟨g,hg⟩:∃ g,g=(pre.map (·.1)).foldl (Flm.fill1 s z N cs) { fs with r:=r }:=⟨_,rfl⟩
    rw [<- hg] at i1
    have HST:Hid (((pre++[(⟨(PX,PY),⟨hpx1,hpx2⟩,hpy1,hpy2⟩:Pt x y n)]).map (·.1)).foldl (Flm.fill1 s z N cs) { fs with r:=r }=Flm.fill1 s z N cs g (PX,PY)):=by
     rw [List.map_append,List.foldl_append,<- hg];rfl
    have HCH:=pChoice W L p b nb rg Dv dbs s z g A i1 hs (HES2.out W i4).1 (HES2.out W i4).2 N hN
    have hge:Hid (g.r.err=0):=i1.err
    have k00:=cell_of_row _ _ 0 _ _ _ i2.fb.b0
    have kn0:=cell_of_row _ _ 0 _ _ _ i2.nn
    simp at k00 kn0
    have kf:W.cell? ⟨H+1+1,0,none⟩=some .nilIface:=cell_of_row _ _ 0 _ _ _ i2.fb.b2
    have zf:=frozen_of_row _ _ 0 _ _ i2.fb.b2
    have HI:Hid (PAt W L p b nb rg Dv dbs s z g/\FewB W H G p x y n N cs .nilIface/\W.heap[T]?=some (.cells #[.int .i64 x,.int .i64 y,.int .i64 n] 100 (0,0))/\Frm (blkS b nb) w W):=⟨i1,i2,i3,i4⟩
    clear i1 i2 i3 i4 hg
    by_cases hce:(Flm.which s N 0 g.r).2.err=0
    ·obtain ⟨K,hK⟩:∃ K,K=(Flm.which s N 0 g.r).1:=⟨_,rfl⟩
     have hKN:K<N+1:=by have:=which_le (s:=s) N 0 g.r;omega
     rw [numRet_good A _ hce,<- hK] at HCH
     have HCHH:Hid (Calls Tryz.prog 169 #[.pointer (some ⟨p,0,none⟩),.int .i64 N] W fun e w'=>e=.returned (.tuple #[.int .i64 K,.nilIface])/\goesOn w' L p b nb rg Dv dbs s z g (Flm.which s N 0 g.r).2/\Frm (oneS b) W w'):=HCH
     have HCE:Hid (K=(Flm.which s N 0 g.r).1/\(Flm.which s N 0 g.r).2.err=0):=⟨hK,hce⟩
     clear HCH hce hK
     gi_wp2_with (refine ⟨trivial,?_⟩;gi_at_call 169;refine (CallsIn.inRound l (callsIn_wide.2 HCHH.out)).mono ?_;rintro e wa ⟨rfl,ha,fa⟩)
     have ha:=ha HCE.out.2
     obtain ⟨Q,hQ⟩:∃ Q,Q=cs.getD K (0,0,0):=⟨_,rfl⟩
     have hQok:Flm.okPx Q:=by rw [hQ];exact HOKC.out K
     have hba:FewB wa H G p x y n N cs .nilIface:=HI.out.2.1.frm fa hHG (fun k' e=>by have e':k'=b:=e;omega)
     have HSET:Hid (∀ wx,Below wa.heap.size wa wx->Calls Tryz.prog 166 #[.agg #[.int .i64 z,.slice (some ⟨nb,0,none⟩) Z Z],.int .i64 PX,.int .i64 PY,.agg #[.int .u8 Q.1,.int .u8 Q.2.1,.int .u8 Q.2.2]] wx fun e w'=>e=.returned (.tuple #[])/\PAt w' L p b nb rg Dv dbs s z (Flm.put { g with r:=(Flm.which s N 0 g.r).2 } (PY*z+PX) Q)/\Frm (fun k=>k=nb) wx w'):=fun wx hb=>by
      have:=pSetP (ha.below hb) PX PY Q (by omega) (by omega) hQok
      rw [HZ.out]
      exact this
     have d3:=ha.c3
     have d4:=ha.c4
     rw [<- HZ.out] at d4
     have a00:=cell_of_row _ _ 0 _ _ _ hba.fb.b0
     have aS0:=cell_of_row _ _ 0 _ _ _ hba.sl
     simp at a00 aS0
     obtain ⟨q0,q1,q2⟩:=hba.px.cell K hKN
     rw [<- hQ] at q0 q1 q2
     have hpnb:¬ p=nb:=ha.nes.1.2.2.1
     have hKN':(K:Int)<(N:Int)+1:=by omega
     have HWA:Hid (FewB wa H G p x y n N cs .nilIface/\Frm (oneS b) W wa/\Q=cs.getD K (0,0,0)):=⟨hba,fa,hQ⟩
     clear ha hba fa k00 kn0 kf zf hQ hQok
     refine region_round_at (S:=fun w'=>w'.cell? ⟨H,0,none⟩=some (.pointer (some ⟨p,0,none⟩))/\w'.cell? ⟨p,3,none⟩=some (.int .i64 z)/\w'.cell? ⟨p,4,none⟩=some (.slice (some ⟨nb,0,none⟩) Z Z)/\w'.cell? ⟨G+1+1,0,none⟩=some (.slice (some ⟨G+1,0,none⟩) (N+1) (N+1))/\w'.cell? ⟨G+1,K*3,none⟩=some (.int .u8 Q.1)/\w'.cell? ⟨G+1,K*3+1,none⟩=some (.int .u8 Q.2.1)/\w'.cell? ⟨G+1,K*3+2,none⟩=some (.int .u8 Q.2.2)) 11 #[false,false,false,false,false,false,false,false,false,false,false] rfl rfl hmx (by kernel_rfl) (fun ⟨_,_,h⟩=>h) ?_
     have hS0:(wa.drew.cell? ⟨H,0,none⟩=some (.pointer (some ⟨p,0,none⟩))/\wa.drew.cell? ⟨p,3,none⟩=some (.int .i64 z)/\wa.drew.cell? ⟨p,4,none⟩=some (.slice (some ⟨nb,0,none⟩) Z Z)/\wa.drew.cell? ⟨G+1+1,0,none⟩=some (.slice (some ⟨G+1,0,none⟩) (N+1) (N+1))/\wa.drew.cell? ⟨G+1,K*3,none⟩=some (.int .u8 Q.1)/\wa.drew.cell? ⟨G+1,K*3+1,none⟩=some (.int .u8 Q.2.1)/\wa.drew.cell? ⟨G+1,K*3+2,none⟩=some (.int .u8 Q.2.2)):=⟨a00,d3,d4,aS0,q0,q1,q2⟩
     refine tk_at 0 60 (.pointer (some ⟨p,0,none⟩)) #[true,false,false,false,false,false,false,false,false,false,false] rfl rfl rfl (by kernel_rfl) (by rfl) (by rintro w ⟨t0,t3,t4,t5,t6,t7,t8⟩;go_simp) (by assumption) ?_
     simp only [sIb,sCs,sCz]
     refine tk_at 1 61 (.pointer (some ⟨p,0,none⟩)) #[true,true,false,false,false,false,false,false,false,false,false] rfl rfl rfl (by kernel_rfl) (by rfl) (by rintro w ⟨t0,t3,t4,t5,t6,t7,t8⟩;go_simp) (by assumption) ?_
     simp only [sIb,sCs,sCz]
     refine tk_at 2 62 (.pointer (some ⟨p,3,none⟩)) #[true,true,true,false,false,false,false,false,false,false,false] rfl rfl rfl (by kernel_rfl) (by rfl) (by rintro w ⟨t0,t3,t4,t5,t6,t7,t8⟩;go_simp) (by assumption) ?_
     simp only [sIb,sCs,sCz]
     refine tk_at 3 63 (.agg #[.int .i64 z,.slice (some ⟨nb,0,none⟩) Z Z]) #[true,true,true,true,false,false,false,false,false,false,false] rfl rfl rfl (by kernel_rfl) (by rfl) (by rintro w ⟨t0,t3,t4,t5,t6,t7,t8⟩;go_simp) (by assumption) ?_
     simp only [sIb,sCs,sCz]
     refine tk_at 4 64 (.int .i64 PX) #[true,true,true,true,true,false,false,false,false,false,false] rfl rfl rfl (by kernel_rfl) (by rfl) (by rintro w ⟨t0,t3,t4,t5,t6,t7,t8⟩;go_simp) (by assumption) ?_
     simp only [sIb,sCs,sCz]
     refine tk_at 5 65 (.int .i64 PY) #[true,true,true,true,true,true,false,false,false,false,false] rfl rfl rfl (by kernel_rfl) (by rfl) (by rintro w ⟨t0,t3,t4,t5,t6,t7,t8⟩;go_simp) (by assumption) ?_
     simp only [sIb,sCs,sCz]
     refine tk_at 6 66 (.slice (some ⟨G+1,0,none⟩) (N+1) (N+1)) #[true,true,true,true,true,true,true,false,false,false,false] rfl rfl rfl (by kernel_rfl) (by rfl) (by rintro w ⟨t0,t3,t4,t5,t6,t7,t8⟩;go_simp) (by assumption) ?_
     simp only [sIb,sCs,sCz]
     refine tk_at 7 67 (.int .i64 K) #[true,true,true,true,true,true,true,true,false,false,false] rfl rfl rfl (by kernel_rfl) (by rfl) (by rintro w ⟨t0,t3,t4,t5,t6,t7,t8⟩;go_simp) (by assumption) ?_
     simp only [sIb,sCs,sCz]
     refine tk_at 8 68 (.pointer (some ⟨G+1,K*3,none⟩)) #[true,true,true,true,true,true,true,true,true,false,false] rfl rfl rfl (by kernel_rfl) (by rfl) (by rintro w ⟨t0,t3,t4,t5,t6,t7,t8⟩;go_simp) (by assumption) ?_
     simp only [sIb,sCs,sCz]
     refine tk_at 9 69 (.agg #[.int .u8 Q.1,.int .u8 Q.2.1,.int .u8 Q.2.2]) #[true,true,true,true,true,true,true,true,true,true,false] rfl rfl rfl (by kernel_rfl) (by rfl) (by rintro w ⟨t0,t3,t4,t5,t6,t7,t8⟩;go_simp) (by assumption) ?_
     simp only [sIb,sCs,sCz]
     refine enter_at (i:=10) (d:=70) (f:=166) (args:=#[.agg #[.int .i64 z,.slice (some ⟨nb,0,none⟩) Z Z],.int .i64 PX,.int .i64 PY,.agg #[.int .u8 Q.1,.int .u8 Q.2.1,.int .u8 Q.2.2]]) #[true,true,true,true,true,true,true,true,true,true,true] (by kernel_rfl) rfl rfl rfl (by rfl) (by go_simp) (fun v' w'=>v'=.tuple #[]/\PAt w' L p b nb rg Dv dbs s z (Flm.put { g with r:=(Flm.which s N 0 g.r).2 } (PY*z+PX) Q)/\Frm (fun k=>k=nb) wa w') ((HSET.out _ (below_drewN (Below.refl _ wa) 1)).mono (fun e w' he=>⟨_,he.1,rfl,he.2.1,((Frm.refl (fun k=>k=nb) wa).drew).trans he.2.2⟩)) ?_
     rintro va wb ⟨rfl,hb,fb⟩
     have hN0:¬ H=nb:=by omega
     have hN2:¬ G+1+1=nb:=by omega
     have hN3:¬ G+1=nb:=by omega
     refine ⟨⟨fb.cell a00 hN0,fb.cell d3 hpnb,fb.cell d4 hpnb,fb.cell aS0 hN2,fb.cell q0 hN3,fb.cell q1 hN3,fb.cell q2 hN3⟩,?_⟩
     refine wpAnyH_done (by kernel_rfl) ?_ _
     obtain ⟨j1,j2,j3,j4⟩:=HI.out
     obtain ⟨hba,fa,hQ⟩:=HWA.out
     have fW:Frm (blkS b nb) W wb:=(frm_one_blk fa).trans (frm_nb_blk fb)
     have hTb:¬ blkS b nb T:=by rintro (e|e) <;> omega
     refine ⟨keeps_frm fW j1.isCells,fW.block _ (heap_lt j3) hTb,?_,hba.frm fb hHG (fun k e=>by omega),(fW.block _ (heap_lt j3) hTb).trans j3,j4.trans fW⟩
     rw [HST.out,Flm.fill1_good hge.out HCE.out.2,<- HCE.out.1,<- hQ]
     exact hb
    ·rw [numRet_bad A _ hce] at HCH
     obtain ⟨ea,hea⟩:∃ ea,ea=A (Flm.which s N 0 g.r).2.err.toNat:=⟨_,rfl⟩
     rw [<- hea] at HCH
     have HCHH:Hid (Calls Tryz.prog 169 #[.pointer (some ⟨p,0,none⟩),.int .i64 N] W fun e w'=>e=.returned (.tuple #[.int .i64 0,.iface 278 (.pointer (some ea))])/\goesOn w' L p b nb rg Dv dbs s z g (Flm.which s N 0 g.r).2/\Frm (oneS b) W w'):=HCH
     have HCE:Hid (ea=A (Flm.which s N 0 g.r).2.err.toNat/\(Flm.which s N 0 g.r).2.err ≠ 0):=⟨hea,hce⟩
     have HFS:Hid (∀ wx,Frm (oneS b) W wx->wx.cell? ⟨H+1+1,0,none⟩=some .nilIface/\wx.frozen? ⟨H+1+1,0,none⟩=false):=fun wx f=>⟨f.cell kf (by show ¬ H+1+1=b;omega),(World.frozen?_of_block (a:=⟨H+1+1,0,none⟩) (f.block _ (heap_lt HI.out.2.1.fb.b2) (by show ¬ H+1+1=b;omega))).trans zf⟩
     clear HCH hce hea kf zf
     gi_wp2_with (refine ⟨trivial,?_⟩;gi_at_call 169;refine (CallsIn.inRound l (callsIn_wide.2 HCHH.out)).mono ?_;rintro e wa ⟨rfl,ha,fa⟩;obtain ⟨kf,zf⟩:=HFS.out wa fa)
     obtain ⟨j1,j2,j3,j4⟩:=HI.out
     obtain ⟨X,hX⟩:∃ X,X=wa.setCell ⟨H+1+1,0,none⟩ (.iface 278 (.pointer (some ea))):=⟨_,rfl⟩
     have fX:Frm (fun k=>k=H+1+1) wa X:=by rw [hX];exact Frm.setCell (p:=⟨H+1+1,0,none⟩) (Frm.refl (fun k=>k=H+1+1) wa) (.inl rfl) _
     rw [<- hX]
     have hfa:FBox wa H p x y n .nilIface:=j2.fb.frm fa (fun k e=>by have e':k=b:=e;omega)
     have fW:Frm (fun k=>blkS b nb k \/ k=H+1+1) W X:=((frm_one_blk (nb:=nb) fa).mono (fun _ _ e=>.inl e)).trans (fX.mono (fun _ _ e=>.inr e))
     refine ⟨keeps_frm fW (fun k e=>e.elim (j1.isCells k) (fun e=>by rw [e];exact ⟨_,cell_of_row _ _ 0 _ _ _ j2.fb.b2⟩)),rfl,?_,?_,?_⟩
     ·rw [HST.out,Flm.fill1_bad hge.out HCE.out.2,<- HCE.out.1]
      refine ⟨(fX.block _ (heap_lt hfa.b0) (by omega)).trans hfa.b0,(fX.block _ (heap_lt hfa.b1) (by omega)).trans hfa.b1,?_⟩
      rw [hX,Go.heap_setCell_same _ _ _ _ _ _ hfa.b2]
      rfl
     ·rw [HST.out,Flm.fill1_bad hge.out HCE.out.2]
      exact HCE.out.2
     ·exact frm_new (j4.trans (frm_one_blk fa)) (G:=H+1+1) fX (by have:=HH.out;omega)
   case done =>
    rintro D ys W hD hys ⟨i1,i2,i3,i4⟩ hK
    have hDs:T+1<=D:=by omega
    rw [hys,<- HFR2.out] at i1
    have kf:W.cell? ⟨H+1+1,0,none⟩=some .nilIface:=cell_of_row _ _ 0 _ _ _ i2.fb.b2
    have zf:=frozen_of_row _ _ 0 _ _ i2.fb.b2
    have HI:Hid (PAt W L p b nb rg Dv dbs s z FR/\Frm (blkS b nb) w W/\W.heap[D]?=some (.deferred (some []))):=⟨i1,i4,hK⟩
    clear i1 i2 i3 i4 hK
    go_wp2_with fail
    obtain ⟨X,hX⟩:∃ X,X=W.setCell ⟨H+1+1,0,none⟩ .nilIface:=⟨_,rfl⟩
    rw [<- hX]
    obtain ⟨ha,fa,hKa⟩:=HI.out
    have fX:Frm (fun k=>k=H+1+1) W X:=by rw [hX];exact Frm.setCell (p:=⟨H+1+1,0,none⟩) (Frm.refl (fun k=>k=H+1+1) W) (.inl rfl) _
    have q0:X.cell? ⟨H+1+1,0,none⟩=some .nilIface:=by rw [hX];exact World.cell?_setCell_same _ _ _ kf
    have hKX:X.heap[D]?=some (.deferred (some [])):=(fX.block _ (heap_lt hKa) (by omega)).trans hKa
    have hg:=grownBy_putObj' X D (.deferred none)
    have fg:Frm (fun k=>k=D) X (X.putObj D (.deferred none)):=(Frm.refl _ X).grown hg (fun k e=>by cases e;exact .inl rfl)
    have q1:(X.putObj D (.deferred none)).cell? ⟨H+1+1,0,none⟩=some .nilIface:=fg.cell q0 (by show ¬ H+1+1=D;omega)
    refine retM_mark (v:=.nilIface) rfl hKX (by simp [results,Tryz.results148,go_sem,q1]) ?_
    refine ⟨by rw [ha.err];rfl,fun _=>(ha.frm fX (fun k hk e=>by have:=HLT.out k hk;omega)).frm fg (fun k hk e=>by have:=HLT.out k hk;omega),?_⟩
    exact frm_new (frm_new fa (G:=H+1+1) fX (by have:=HH.out;omega)) (G:=D) fg (by have:=HH.out;omega)
   case stop =>
    rintro D c pre W hD hpre ⟨rfl,i2,i3,i4⟩ hK
    have hDs:T+1<=D:=by omega
    have HE:Hid (FR=(pre.map (·.1)).foldl (Flm.fill1 s z N cs) { fs with r:=r }):=by
     rw [HFR2.out]
     exact Flm.foldl_pre (fun fs p hh=>Flm.fill1_off hh p) hpre i3
    rw [<- HE.out] at i2 i3
    have q0:W.cell? ⟨H+1+1,0,none⟩=some (.iface 278 (.pointer (some (A FR.r.err.toNat)))):=cell_of_row _ _ 0 _ _ _ i2.b2
    have HR:Hid (FR.r.err ≠ 0/\Frm (blkS b nb) w W/\W.heap[D]?=some (.deferred (some []))):=⟨i3,i4,hK⟩
    clear i2 i3 i4 hK hpre
    refine wpIn_wide.2 ?_
    go_wp2_with fail
    obtain ⟨r1,r2,r3⟩:=HR.out
    have hg:=grownBy_putObj' W D (.deferred none)
    have fg:Frm (fun k=>k=D) W (W.putObj D (.deferred none)):=(Frm.refl _ W).grown hg (fun k e=>by cases e;exact .inl rfl)
    have q1:(W.putObj D (.deferred none)).cell? ⟨H+1+1,0,none⟩=some (.iface 278 (.pointer (some (A FR.r.err.toNat)))):=fg.cell q0 (by show ¬ H+1+1=D;omega)
    refine retM_mark (v:=.iface 278 (.pointer (some (A FR.r.err.toNat)))) rfl r3 (by simp [results,Tryz.results148,go_sem,q1]) ?_
    exact ⟨by rw [errA_pos A r1],fun he=>absurd he r1,frm_new r2 (G:=D) fg (by have:=HH.out;omega)⟩
set_option maxRecDepth 100000 in
theorem pFew_a (w:World) (L p b nb rg:Nat) (Dv:Value) (dbs:List Nat) (s:ByteArray) (z:Nat) (fs:FS) (h:PAt w L p b nb rg Dv dbs s z fs) (x y n:Nat) (ea:Addr)
  (hnum:∀ wx,Below w.heap.size w wx->Calls Tryz.prog 167 #[.pointer (some ⟨b,0,none⟩),.int .i64 200] wx fun e w'=>e=.returned (.tuple #[.int .i64 0,.iface 278 (.pointer (some ea))])/\Frm (oneS b) wx w') :
  Calls Tryz.prog 148 #[.pointer (some ⟨p,0,none⟩),.agg #[.int .i64 x,.int .i64 y,.int .i64 n]] w fun e w'=>e=.returned (.iface 278 (.pointer (some ea)))/\Frm (oneS b) w w':=by
 obtain ⟨H,hH⟩:∃ H,H=w.heap.size:=⟨_,rfl⟩
 obtain ⟨W3,hW3⟩:∃ W3,W3=((w.alloc (.cells #[.pointer (some ⟨p,0,none⟩)] 107)).alloc (.cells #[.int .i64 x,.int .i64 y,.int .i64 n] 100)).alloc (.cells #[.nilIface] 62):=⟨_,rfl⟩
 have hB3:Below w.heap.size w W3:=by rw [hW3];exact below3 w _ _ _
 have hF3:FBox W3 H p x y n .nilIface:=by rw [hW3,hH];exact fbox_new w p x y n
 have hs3:W3.heap.size=H+3:=by rw [hW3,hH];simp
 have HN:Hid (Calls Tryz.prog 167 #[.pointer (some ⟨b,0,none⟩),.int .i64 200] W3 fun e w'=>e=.returned (.tuple #[.int .i64 0,.iface 278 (.pointer (some ea))])/\Frm (oneS b) W3 w'):=hnum W3 hB3
 have hbH:b<H:=by rw [hH];exact h.up.2
 have HW3:Hid (W3=((w.alloc (.cells #[.pointer (some ⟨p,0,none⟩)] 107)).alloc (.cells #[.int .i64 x,.int .i64 y,.int .i64 n] 100)).alloc (.cells #[.nilIface] 62)):=hW3
 have HF:Hid (Frm (oneS b) w W3):=Frm.of_below hB3
 have HC:Hid (∀ w1,Frm (oneS b) W3 w1->FBox w1 H p x y n .nilIface):=fun w1 f=>hF3.frm f (fun k e=>by have e':k=b:=e;omega)
 have HH:Hid (H=w.heap.size):=hH
 have k00:=cell_of_row _ _ 0 _ _ _ hF3.b0
 simp at k00
 have c0:=(h.below hB3).c0
 clear hnum h hW3 hB3 hF3 hH
 refine (callsIn_wide (n:=5)).1 ?_
 refine callsIn_of_wp_marks Tryz.func148 rfl trivial ?_ rfl
 simp only [Tryz.ntmps148,List.size_toArray,List.length_cons,List.length_nil,Nat.reduceAdd,Nat.reduceSub,Array.replicate_succ,Array.replicate_zero,List.push_toArray,List.append_toArray,List.nil_append,List.cons_append]
 refine wpIn_wide.2 ?_
 go_wp2_with (first
  | (rw [<- HW3.out,<- HH.out])
  | (go_at_call 167;refine HN.out.mono ?_;rintro e w1 ⟨rfl,f1⟩;have hc1:=HC.out w1 f1;have kf:w1.cell? ⟨H+1+1,0,none⟩=some .nilIface:=cell_of_row _ _ 0 _ _ _ hc1.b2;have zf:=frozen_of_row _ _ 0 _ _ hc1.b2;have hl1:H+1+1<w1.heap.size:=heap_lt hc1.b2))
 obtain ⟨X,hX⟩:∃ X,X=(w1.setCell ⟨H+1+1,0,none⟩ (.iface 278 (.pointer (some ea)))).alloc (.cells #[.int .i64 0] 3):=⟨_,rfl⟩
 rw [<- hX]
 have q0:X.cell? ⟨H+1+1,0,none⟩=some (.iface 278 (.pointer (some ea))):=by
  rw [hX]
  exact (World.cell?_of_block (w:=w1.setCell ⟨H+1+1,0,none⟩ _) (a:=⟨H+1+1,0,none⟩) (Below.heap_alloc _ _ _ (by rw [World.size_setCell];exact hl1))).trans (World.cell?_setCell_same _ _ _ kf)
 refine retM_none (v:=.iface 278 (.pointer (some ea))) rfl (by simp [results,Tryz.results148,go_sem,q0]) ⟨rfl,?_⟩
 have fX:Frm (fun k=>k=H+1+1) w1 X:=by rw [hX];exact (Frm.setCell (p:=⟨H+1+1,0,none⟩) (Frm.refl (fun k=>k=H+1+1) w1) (.inl rfl) _).alloc _
 exact frm_new (HF.out.trans f1) (G:=H+1+1) fX (by have:=HH.out;omega)
set_option maxRecDepth 100000 in
theorem pFew_b (w:World) (L p b nb rg:Nat) (Dv:Value) (dbs:List Nat) (s:ByteArray) (z:Nat) (fs:FS) (A:Nat->Addr) (h:PAt w L p b nb rg Dv dbs s z fs) (E:ErrsL w A L) (hLw:L<=w.heap.size) (x y n:Nat) (N:Int) (hN:4<=N)
  (hnum:∀ wx,Below w.heap.size w wx->Calls Tryz.prog 167 #[.pointer (some ⟨b,0,none⟩),.int .i64 200] wx fun e w'=>e=.returned (.tuple #[.int .i64 N,.nilIface])/\Frm (oneS b) wx w') :
  Calls Tryz.prog 148 #[.pointer (some ⟨p,0,none⟩),.agg #[.int .i64 x,.int .i64 y,.int .i64 n]] w fun e w'=>e=.returned (.iface 278 (.pointer (some (A 8))))/\Frm (oneS b) w w':=by
 obtain ⟨H,hH⟩:∃ H,H=w.heap.size:=⟨_,rfl⟩
 obtain ⟨ea,hea⟩:∃ ea,ea=A 8:=⟨_,rfl⟩
 obtain ⟨W3,hW3⟩:∃ W3,W3=((w.alloc (.cells #[.pointer (some ⟨p,0,none⟩)] 107)).alloc (.cells #[.int .i64 x,.int .i64 y,.int .i64 n] 100)).alloc (.cells #[.nilIface] 62):=⟨_,rfl⟩
 have hB3:Below w.heap.size w W3:=by rw [hW3];exact below3 w _ _ _
 have hF3:FBox W3 H p x y n .nilIface:=by rw [hW3,hH];exact fbox_new w p x y n
 have hs3:W3.heap.size=H+3:=by rw [hW3,hH];simp
 have HN:Hid (Calls Tryz.prog 167 #[.pointer (some ⟨b,0,none⟩),.int .i64 200] W3 fun e w'=>e=.returned (.tuple #[.int .i64 N,.nilIface])/\Frm (oneS b) W3 w'):=hnum W3 hB3
 have hbH:b<H:=by rw [hH];exact h.up.2
 have HW3:Hid (W3=((w.alloc (.cells #[.pointer (some ⟨p,0,none⟩)] 107)).alloc (.cells #[.int .i64 x,.int .i64 y,.int .i64 n] 100)).alloc (.cells #[.nilIface] 62)):=hW3
 have HF:Hid (Frm (oneS b) w W3):=Frm.of_below hB3
 have HC:Hid (∀ w1,Frm (oneS b) W3 w1->FBox w1 H p x y n .nilIface/\w1.cell? ⟨3,0,none⟩=some (.iface 278 (.pointer (some ea)))):=fun w1 f=>⟨hF3.frm f (fun k e=>by have e':k=b:=e;omega),by rw [hea];exact ((h.errs hLw E ((Frm.of_below hB3).trans f)).v (8,3) (by decide)).2⟩
 have HH:Hid (H=w.heap.size):=hH
 have H8:Hid (3<H):=by have:=(E.v (8,3) (by decide)).1;unfold Hid;omega
 have k00:=cell_of_row _ _ 0 _ _ _ hF3.b0
 simp at k00
 have c0:=(h.below hB3).c0
 rw [<- hea]
 clear hnum h E hW3 hB3 hF3 hH hea
 refine (callsIn_wide (n:=5)).1 ?_
 refine callsIn_of_wp_marks Tryz.func148 rfl trivial ?_ rfl
 simp only [Tryz.ntmps148,List.size_toArray,List.length_cons,List.length_nil,Nat.reduceAdd,Nat.reduceSub,Array.replicate_succ,Array.replicate_zero,List.push_toArray,List.append_toArray,List.nil_append,List.cons_append]
 refine wpIn_wide.2 ?_
 go_wp2_with (first
  | (rw [<- HW3.out,<- HH.out])
  | (go_at_call 167;refine HN.out.mono ?_;rintro e w1 ⟨rfl,f1⟩;obtain ⟨hc1,k8⟩:=HC.out w1 f1;have kf:w1.cell? ⟨H+1+1,0,none⟩=some .nilIface:=cell_of_row _ _ 0 _ _ _ hc1.b2;have zf:=frozen_of_row _ _ 0 _ _ hc1.b2;have hl1:H+1+1<w1.heap.size:=heap_lt hc1.b2;have hl8:3<w1.heap.size:=by have:=H8.out;omega))
 obtain ⟨X,hX⟩:∃ X,X=(w1.setCell ⟨H+1+1,0,none⟩ (.iface 278 (.pointer (some ea)))).alloc (.cells #[.int .i64 N] 3):=⟨_,rfl⟩
 rw [<- hX]
 have q0:X.cell? ⟨H+1+1,0,none⟩=some (.iface 278 (.pointer (some ea))):=by
  rw [hX]
  exact (World.cell?_of_block (w:=w1.setCell ⟨H+1+1,0,none⟩ _) (a:=⟨H+1+1,0,none⟩) (Below.heap_alloc _ _ _ (by rw [World.size_setCell];exact hl1))).trans (World.cell?_setCell_same _ _ _ kf)
 refine retM_none (v:=.iface 278 (.pointer (some ea))) rfl (by simp [results,Tryz.results148,go_sem,q0]) ⟨rfl,?_⟩
 have fX:Frm (fun k=>k=H+1+1) w1 X:=by rw [hX];exact (Frm.setCell (p:=⟨H+1+1,0,none⟩) (Frm.refl (fun k=>k=H+1+1) w1) (.inl rfl) _).alloc _
 exact frm_new (HF.out.trans f1) (G:=H+1+1) fX (by have:=HH.out;omega)
theorem pFew (w:World) (L p b nb rg:Nat) (Dv:Value) (dbs:List Nat) (s:ByteArray) (z:Nat) (fs:FS) (A:Nat->Addr) (h:PAt w L p b nb rg Dv dbs s z fs) (hs:s.size<=maxLen) (E:ErrsL w A L) (hLw:L<=w.heap.size) (x y n:Nat) (hx:x+n<=z) (hy:y+n<=z) :
  Calls Tryz.prog 148 #[.pointer (some ⟨p,0,none⟩),.agg #[.int .i64 x,.int .i64 y,.int .i64 n]] w (BlkPost A w L p b nb rg Dv dbs s z (Flm.few s z x y n fs)):=by
 have HN:=fun wx (hb:Below w.heap.size w wx)=>(h.below hb).number hs (E.below (hb.mono hLw)) (by have:=hb.size;omega) 200 (by decide)
 by_cases e1:(Rdr.number s fs.r 200).2.err=0
 ·by_cases e2:3<(Rdr.number s fs.r 200).1
  ·refine (pFew_b w L p b nb rg Dv dbs s z fs A h E hLw x y n (Rdr.number s fs.r 200).1 (by omega) (fun wx hb=>(HN wx hb).mono ?_)).mono ?_
   ·rintro e w' ⟨rfl,_,f⟩
    exact ⟨numRet_good A _ e1,f⟩
   ·rintro e w' ⟨rfl,f⟩
    have e9:(Rdr.fail (Rdr.number s fs.r 200).2 8).err=8:=Rdr.fail_zero e1
    rw [Flm.few_bad s z x y n fs _ (if_pos e2) (by rw [e9];decide)]
    refine ⟨?_,fun he=>?_,frm_one_blk f⟩
    ·dsimp only;rw [e9];rfl
    ·dsimp only at he;rw [e9] at he;cases he
  ·have h0:0<=(Rdr.number s fs.r 200).1:=(Rdr.number_bd h.ok (by decide)).1
   obtain ⟨N,hN⟩:∃ N:Nat,(N:Int)=(Rdr.number s fs.r 200).1:=⟨_,Int.toNat_of_nonneg h0⟩
   rw [Flm.few_eq s z x y n fs _ N (by omega) (if_neg e2)]
   refine pFew_in w L p b nb rg Dv dbs s z fs A h hs E hLw x y n hx hy N (by omega) _ (fun wx hb=>(HN wx hb).mono ?_)
   rintro e w' ⟨rfl,hg,f⟩
   refine ⟨?_,hg e1,f⟩
   rw [hN]
   exact numRet_good A _ e1
 ·refine (pFew_a w L p b nb rg Dv dbs s z fs h x y n (A (Rdr.number s fs.r 200).2.err.toNat) (fun wx hb=>(HN wx hb).mono ?_)).mono ?_
  ·rintro e w' ⟨rfl,_,f⟩
   exact ⟨numRet_bad A _ e1,f⟩
  ·rintro e w' ⟨rfl,f⟩
   have er:(if 3<(Rdr.number s fs.r 200).1 then Rdr.fail (Rdr.number s fs.r 200).2 8 else (Rdr.number s fs.r 200).2)=(Rdr.number s fs.r 200).2:=by
    split
    ·exact Rdr.fail_of e1
    ·rfl
   rw [Flm.few_bad s z x y n fs _ er e1]
   exact ⟨by rw [errA_pos A e1],fun he=>absurd he e1,frm_one_blk f⟩
end
end Go.Proofs.YtekfbphnoibnjaaGreatDoor
