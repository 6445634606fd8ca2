/-
  PFrm PHead PStr
-/
import Derived.Test.YtekfbphnoibnjaaGreatDoorF35
set_option maxHeartbeats 4000000
namespace Go.Proofs.YtekfbphnoibnjaaGreatDoor
section
open Go.RowKit
open Flm (Px FS)
theorem made_bools (n:Nat):(madeCells #[Value.bool false] n).toList=(List.replicate n false).map .bool:=by
 apply List.ext_getElem?
 intro i
 by_cases h:i<n
 ·simp only [madeCells,Array.toList_map,List.getElem?_map,Array.toList_range,List.getElem?_range h,Option.map_some,List.getElem?_replicate]
  simp [h,Nat.mod_one]
 ·rw [List.getElem?_eq_none (by simp [size_madeCells];omega),List.getElem?_eq_none (by simp;omega)]
set_option maxRecDepth 100000 in
theorem pFrame (w:World) (L p b:Nat) (Dv:Value) (dbs:List Nat) (s:ByteArray) (z:Nat) (q:FS) (A:Nat->Addr) (h:PL w L p b Dv dbs s z q) (h8:q.frs.length<8) (hs:s.size<=maxLen) (E:ErrsL w A L) (SG:SoftG w L) (hLw:L<=w.heap.size) :
  Calls Tryz.prog 46 #[.pointer (some ⟨p,0,none⟩)] w fun e w'=>e=.returned (fltV A (Flm.plc (Flm.area s z (Flm.cuts z) 0 0 z (Flm.begin z q))) (Flm.area s z (Flm.cuts z) 0 0 z (Flm.begin z q)).r.err)/\((Flm.area s z (Flm.cuts z) 0 0 z (Flm.begin z q)).r.err=0->∃ Dv' dbs',PL w' L p b Dv' dbs' s z (Flm.area s z (Flm.cuts z) 0 0 z (Flm.begin z q))/\dbs'.length=dbs.length+1)/\Below L w w':=by
 obtain ⟨FR,hFR⟩:∃ FR,FR=Flm.area s z (Flm.cuts z) 0 0 z (Flm.begin z q):=⟨_,rfl⟩
 rw [<- hFR]
 have hmx:Tryz.prog.follows .mixedOrders=true:=by kernel_rfl
 have hz16:=h.z16
 obtain ⟨Z,hZ⟩:∃ Z,Z=z*z:=⟨_,rfl⟩
 have hZ16:Z<=256:=by rw [hZ];exact Nat.mul_le_mul hz16 hz16
 have hmb:=makeBool Z (by omega)
 have hw0:(z:Int)*(z:Int)=(Z:Int):=by rw [hZ,Int.natCast_mul]
 have hw1:IntKind.i64.wrap ((z:Int)*(z:Int))=(Z:Int):=by rw [IntKind.wrap_i64];omega
 have hwZ:IntKind.i64.wrap (Z:Int)=(Z:Int):=by rw [IntKind.wrap_i64];omega
 obtain ⟨nb,hnb⟩:∃ nb,nb=w.heap.size+1:=⟨_,rfl⟩
 have HNP:Hid (Calls Tryz.prog 86 #[.int .i64 z] w fun e w'=>e=.returned (.agg #[.int .i64 z,.slice (some ⟨nb,0,none⟩) Z Z])/\Pixs w' L nb Z (List.replicate Z (0,0,0))/\Below w.heap.size w w'):=by rw [hnb];exact pNewPicture w L z Z hLw hz16 hZ
 have HP:Hid (PL w L p b Dv dbs s z q):=h
 have c1:=h.c1
 have hup:=h.up.1
 have HC:Hid (∀ w1,Below w.heap.size w w1->∃ v3 v4,w1.cell? ⟨p,3,none⟩=some v3/\w1.cell? ⟨p,4,none⟩=some v4/\w1.frozen? ⟨p,3,none⟩=false/\w1.frozen? ⟨p,4,none⟩=false):=fun w1 hb=>by
  obtain ⟨v3,e3⟩:=h.k3
  obtain ⟨v4,e4⟩:=h.k4
  have hbl:=hb.block p hup
  exact ⟨v3,v4,(World.cell?_of_block (a:=⟨p,3,none⟩) hbl).trans e3,(World.cell?_of_block (a:=⟨p,4,none⟩) hbl).trans e4,(World.frozen?_of_block (a:=⟨p,3,none⟩) hbl).trans (h.fz 3),(World.frozen?_of_block (a:=⟨p,4,none⟩) hbl).trans (h.fz 4)⟩
 have HZ:Hid (Z=z*z):=hZ
 have HNB:Hid (nb=w.heap.size+1):=hnb
 have HFR:Hid (FR=Flm.area s z (Flm.cuts z) 0 0 z (Flm.begin z q)):=hFR
 clear h hZ hnb hFR
 go_enter Tryz.func46,Tryz.ntmps46
 go_wp2_with (go_at_call 86;refine HNP.out.mono ?_;rintro e w1 ⟨rfl,x1,b1⟩;obtain ⟨v3,v4,m3,m4,z3,z4⟩:=HC.out w1 b1)
 obtain ⟨W2,hW2⟩:∃ W2,W2=(w1.setCell ⟨p,3,none⟩ (.int .i64 z)).setCell ⟨p,4,none⟩ (.slice (some ⟨nb,0,none⟩) Z Z):=⟨_,rfl⟩
 rw [<- hW2]
 have hp1:p<w1.heap.size:=Nat.lt_of_lt_of_le hup b1.size
 have hs2:W2.heap.size=w1.heap.size:=by rw [hW2,World.size_setCell,World.size_setCell]
 have C2:Hid (∀ o,o ≠ 3->o ≠ 4->W2.cell? ⟨p,o,none⟩=w.cell? ⟨p,o,none⟩):=fun o h3 h4=>by
  rw [hW2,World.cell?_setCell_other,World.cell?_setCell_other]
  ·exact World.cell?_of_block (a:=⟨p,o,none⟩) (b1.block p hup)
  ·intro e;simp only [Addr.mk.injEq,and_true,true_and] at e;exact h3 e.symm
  ·intro e;simp only [Addr.mk.injEq,and_true,true_and] at e;exact h4 e.symm
 have z2:Hid (∀ o,W2.frozen? ⟨p,o,none⟩=false):=fun o=>by
  rw [hW2,World.frozen?_setCell,World.frozen?_setCell]
  exact (World.frozen?_of_block (a:=⟨p,o,none⟩) (b1.block p hup)).trans (HP.out.fz o)
 have e3:W2.cell? ⟨p,3,none⟩=some (.int .i64 z):=by
  rw [hW2,World.cell?_setCell_other]
  ·exact World.cell?_setCell_same _ _ _ m3
  ·intro e;simp at e
 have e4:W2.cell? ⟨p,4,none⟩=some (.slice (some ⟨nb,0,none⟩) Z Z):=by
  have m4':(w1.setCell ⟨p,3,none⟩ (.int .i64 z)).cell? ⟨p,4,none⟩=some v4:=by
   rw [World.cell?_setCell_other]
   ·exact m4
   ·intro e;simp at e
  rw [hW2]
  exact World.cell?_setCell_same _ _ _ m4'
 have f2:Frm (fun k=>k=p) w1 W2:=by rw [hW2];exact Frm.setCell (p:=⟨p,4,none⟩) (Frm.setCell (p:=⟨p,3,none⟩) (Frm.refl (fun k=>k=p) w1) (.inl rfl) _) (.inl rfl) _
 have x2:Pixs W2 L nb Z (List.replicate Z (0,0,0)):=f2.pixs x1 (by have:=HNB.out;omega)
 have d1:W2.cell? ⟨p,1,none⟩=some (.int .i64 z):=(C2.out 1 (by decide) (by decide)).trans c1
 obtain ⟨v5,hv5⟩:=HP.out.k5
 have d5:W2.cell? ⟨p,5,none⟩=some v5:=(C2.out 5 (by decide) (by decide)).trans hv5
 have HF2:Hid (Frm (fun k=>k=p) w W2):=(Frm.of_below b1).trans f2
 obtain ⟨rg,hrg⟩:∃ rg,rg=W2.heap.size:=⟨_,rfl⟩
 obtain ⟨W3,hW3⟩:∃ W3,W3=W2.drew.alloc (.cells (madeCells #[.bool false] Z) 4):=⟨_,rfl⟩
 have hpW2:p<W2.heap.size:=by rw [hs2];exact hp1
 have b3:Below W2.heap.size W2 W3:=by rw [hW3];exact (below_drewN (Below.refl _ W2) 1).alloc (Nat.le_refl _) _
 have C3:∀ o,W3.cell? ⟨p,o,none⟩=W2.cell? ⟨p,o,none⟩:=fun o=>World.cell?_of_block (a:=⟨p,o,none⟩) (b3.block p hpW2)
 have hrg3:Bools W3 L rg Z (List.replicate Z false):=by
  have hLs:L<=W2.drew.heap.size:=by show L<=W2.heap.size;rw [hs2];have:=b1.size;omega
  have:=World.ownsRow_lit (base:=L) (e:=4) (size:=1) W2.drew (madeCells #[.bool false] Z) Z hLs (by unfold maxLen;omega) (by rw [size_madeCells];omega)
  rw [made_bools] at this
  rw [hW3,hrg]
  exact this
 obtain ⟨w5,hw5⟩:∃ w5,w5=W3.setCell ⟨p,5,none⟩ (.slice (some ⟨rg,0,none⟩) Z Z):=⟨_,rfl⟩
 have f5:Frm (fun k=>k=p) W3 w5:=by rw [hw5];exact Frm.setCell (p:=⟨p,5,none⟩) (Frm.refl (fun k=>k=p) W3) (.inl rfl) _
 have C5:∀ o,o ≠ 5->w5.cell? ⟨p,o,none⟩=W2.cell? ⟨p,o,none⟩:=fun o ho=>by
  rw [hw5,World.cell?_setCell_other]
  ·exact C3 o
  ·intro e;simp only [Addr.mk.injEq,and_true,true_and] at e;exact ho e.symm
 have hwnb:w.heap.size<=nb:=by have:=HNB.out;omega
 have hwrg:w.heap.size<=rg:=by rw [hrg,hs2];exact b1.size
 have hnbW:nb<W2.heap.size:=x2.lt.2
 have h5:PAt w5 L p b nb rg Dv dbs s z (Flm.begin z q):=by
  have hZ:=HZ.out
  refine HP.out.toAt h8 (((HF2.out).trans (Frm.of_below b3)).trans f5) ((C5 0 (by decide)).trans ((C2.out 0 (by decide) (by decide)).trans HP.out.c0)) ((C5 1 (by decide)).trans d1) ((C5 2 (by decide)).trans ((C2.out 2 (by decide) (by decide)).trans HP.out.c2)) ((C5 3 (by decide)).trans e3) ?_ ?_ ?_ ?_ ?_ hwnb hwrg (by omega)
  ·rw [<- hZ];exact (C5 4 (by decide)).trans e4
  ·rw [<- hZ,hw5];exact World.cell?_setCell_same _ _ _ ((C3 5).trans d5)
  ·intro o
   rw [hw5,World.frozen?_setCell]
   exact (World.frozen?_of_block (a:=⟨p,o,none⟩) (b3.block p hpW2)).trans (z2.out o)
  ·rw [<- hZ];exact f5.pixs ((Frm.of_below (S:=fun _=>False) b3).pixs x2 (fun e=>e)) (by omega)
  ·rw [<- hZ];exact f5.bools hrg3 (by omega)
 have HF5:Hid (Frm (fun k=>k=p) w w5):=((HF2.out).trans (Frm.of_below b3)).trans f5
 have d13:=(C3 1).trans d1
 have d53:=(C3 5).trans d5
 have z53:W3.frozen? ⟨p,5,none⟩=false:=(World.frozen?_of_block (a:=⟨p,5,none⟩) (b3.block p hpW2)).trans (z2.out 5)
 have d15:=(C5 1 (by decide)).trans d1
 have H5:Hid (PAt w5 L p b nb rg Dv dbs s z (Flm.begin z q)):=h5
 have HW3:Hid (W3=W2.drew.alloc (.cells (madeCells #[.bool false] Z) 4)):=hW3
 have HRG:Hid (rg=W2.heap.size):=hrg
 have HW5:Hid (w5=W3.setCell ⟨p,5,none⟩ (.slice (some ⟨rg,0,none⟩) Z Z)):=hw5
 clear hW3 hrg hw5 hs2 x1 b1 m3 m4 z3 z4 f2 x2 C3 hrg3 C5 h5 f5 b3 e3 e4 hv5 C2 z2 hW2 HNP HC hwnb hwrg hnbW
 refine region_calm (S:=fun w'=>w'.cell? ⟨p,1,none⟩=some (.int .i64 z)) 14 #[false,false,false,false,false,false,false,false,false,false,false,false,false,false] rfl rfl hmx ?_
 have hS0:(W2.drew.cell? ⟨p,1,none⟩=some (.int .i64 z)):=d1
 refine tk_at 0 12 (.pointer (some ⟨p,0,none⟩)) #[true,false,false,false,false,false,false,false,false,false,false,false,false,false] rfl rfl rfl (by kernel_rfl) (by rfl) (by rintro w t0;go_simp) (by assumption) ?_
 simp only [sIb,sCs,sCz]
 refine tk_at 1 13 (.pointer (some ⟨p,0,none⟩)) #[true,true,false,false,false,false,false,false,false,false,false,false,false,false] rfl rfl rfl (by kernel_rfl) (by rfl) (by rintro w t0;go_simp) (by assumption) ?_
 simp only [sIb,sCs,sCz]
 refine tk_at 2 14 (.pointer (some ⟨p,0,none⟩)) #[true,true,true,false,false,false,false,false,false,false,false,false,false,false] rfl rfl rfl (by kernel_rfl) (by rfl) (by rintro w t0;go_simp) (by assumption) ?_
 simp only [sIb,sCs,sCz]
 refine tk_at 3 15 (.pointer (some ⟨p,1,none⟩)) #[true,true,true,true,false,false,false,false,false,false,false,false,false,false] rfl rfl rfl (by kernel_rfl) (by rfl) (by rintro w t0;go_simp) (by assumption) ?_
 simp only [sIb,sCs,sCz]
 refine tk_at 4 16 (.int .i64 z) #[true,true,true,true,true,false,false,false,false,false,false,false,false,false] rfl rfl rfl (by kernel_rfl) (by rfl) (by rintro w t0;go_simp) (by assumption) ?_
 simp only [sIb,sCs,sCz]
 refine tk_at 5 17 (.pointer (some ⟨p,0,none⟩)) #[true,true,true,true,true,true,false,false,false,false,false,false,false,false] rfl rfl rfl (by kernel_rfl) (by rfl) (by rintro w t0;go_simp) (by assumption) ?_
 simp only [sIb,sCs,sCz]
 refine tk_at 6 18 (.pointer (some ⟨p,0,none⟩)) #[true,true,true,true,true,true,true,false,false,false,false,false,false,false] rfl rfl rfl (by kernel_rfl) (by rfl) (by rintro w t0;go_simp) (by assumption) ?_
 simp only [sIb,sCs,sCz]
 refine tk_at 7 19 (.pointer (some ⟨p,1,none⟩)) #[true,true,true,true,true,true,true,true,false,false,false,false,false,false] rfl rfl rfl (by kernel_rfl) (by rfl) (by rintro w t0;go_simp) (by assumption) ?_
 simp only [sIb,sCs,sCz]
 refine tk_at 8 20 (.int .i64 z) #[true,true,true,true,true,true,true,true,true,false,false,false,false,false] rfl rfl rfl (by kernel_rfl) (by rfl) (by rintro w t0;go_simp) (by assumption) ?_
 simp only [sIb,sCs,sCz]
 refine tk_at 9 21 (.int .i64 Z) #[true,true,true,true,true,true,true,true,true,true,false,false,false,false] rfl rfl rfl (by kernel_rfl) (by rfl) (by rintro w t0;go_simp) (by assumption) ?_
 simp only [sIb,sCs,sCz]
 refine val_at (i:=10) (d:=22) (v:=.slice (some ⟨rg,0,none⟩) Z Z) (w':=W3) #[true,true,true,true,true,true,true,true,true,true,true,false,false,false] (by kernel_rfl) rfl rfl rfl (by rfl) ?vr d13 ?_
 case vr=>rw [HW3.out,HRG.out];go_simp
 simp only [sIb,sCs,sCz]
 refine tk_at 11 23 (.pointer (some ⟨p,0,none⟩)) #[true,true,true,true,true,true,true,true,true,true,true,true,false,false] rfl rfl rfl (by kernel_rfl) (by rfl) (by rintro w t0;go_simp) (by assumption) ?_
 simp only [sIb,sCs,sCz]
 refine tk_at 12 24 (.pointer (some ⟨p,5,none⟩)) #[true,true,true,true,true,true,true,true,true,true,true,true,true,false] rfl rfl rfl (by kernel_rfl) (by rfl) (by rintro w t0;go_simp) (by assumption) ?_
 simp only [sIb,sCs,sCz]
 refine store_at (i:=13) (w':=w5) #[true,true,true,true,true,true,true,true,true,true,true,true,true,true] (by kernel_rfl) rfl rfl rfl (by rfl) ?sg d15 ?_
 case sg=>rw [HW5.out];go_simp
 refine wpAnyH_done (by kernel_rfl) ?_ _
 dsimp only [calmPost]
 clear d13 d53 z53 hS0 d1 d5 hmb hw0 hw1
 have HAR:Hid (Calls Tryz.prog 87 #[.pointer (some ⟨p,0,none⟩),.agg #[.int .i64 0,.int .i64 0,.int .i64 z]] w5 (AreaPost A w5 L p b nb rg Dv dbs s z FR)):=by
  have hb:Below L w w5:=HF5.out.below hLw (fun k e=>by rw [show k=p from e];exact HP.out.lo.1)
  have hc:Flm.cuts z<=2/\z=4*2 ^ Flm.cuts z:=by rcases HP.out.zz with e|e|e <;> subst e <;> decide
  have:=pArea A s z L p b nb rg Dv dbs hs (Flm.cuts z) hc.1 w5 (Flm.begin z q) H5.out (E.below hb) (SG.below hb) (by have:=HF5.out.size;omega) 0 0 z hc.2 (by omega) (by omega)
  rw [HFR.out]
  exact this
 by_cases he:FR.r.err=0
 ·have HAG:Hid (Calls Tryz.prog 87 #[.pointer (some ⟨p,0,none⟩),.agg #[.int .i64 0,.int .i64 0,.int .i64 z]] w5 fun e w'=>e=.returned .nilIface/\PAt w' L p b nb rg Dv dbs s z FR/\Frm (blkT b nb rg) w5 w'):=HAR.out.mono (fun e w' hp=>⟨by rw [hp.1,fltV_zero A _ he],hp.2.1 he,hp.2.2⟩)
  have HE:Hid (FR.r.err=0):=he
  clear HAR he
  go_wp2_with (go_at_call 87;refine HAG.out.mono ?_;rintro e w6 ⟨rfl,h6,f6⟩)
  obtain ⟨da,dc,hD⟩:=h6.row
  obtain ⟨N,hN⟩:∃ N,N=Flm.now FR:=⟨_,rfl⟩
  rw [<- hN] at hD
  have HN:Hid (N=Flm.now FR):=hN
  have c2:w6.cell? ⟨p,2,none⟩=some (.slice da N dc):=by rw [<- hD];exact h6.c2
  have c4:w6.cell? ⟨p,4,none⟩=some (.slice (some ⟨nb,0,none⟩) Z Z):=by rw [HZ.out];exact h6.c4
  have hp6:p<w6.heap.size:=h6.up.1
  obtain ⟨NB,hNB⟩:∃ NB,NB=w6.heap.size:=⟨_,rfl⟩
  obtain ⟨w7,hw7⟩:∃ w7,w7=w6.drew.alloc (.cells #[.slice (some ⟨nb,0,none⟩) Z Z] 58):=⟨_,rfl⟩
  have b7:Below w6.heap.size w6 w7:=by rw [hw7];exact (below_drewN (Below.refl _ w6) 1).alloc (Nat.le_refl _) _
  have hnw:w7.heap[NB]?=some (.cells #[.slice (some ⟨nb,0,none⟩) Z Z] 58 (0,0)):=by rw [hw7,hNB];exact heap_alloc_last w6.drew _
  have hLw6:L<=w6.heap.size:=by have:=HF5.out.size;have:=f6.size;omega
  have hown:w7.ownsRow L 58 1 (.slice da N dc) N (rowVals Z dbs):=by
   have:=h6.rows
   rw [<- hN,hD,<- HZ.out] at this
   exact (Frm.of_below (S:=fun _=>False) b7).owns this (fun _ _ e=>e)
  have hN8:N<=8:=by have:=h6.n2.2;rw [hN];unfold Flm.now;omega
  obtain ⟨i0,hi,y0,y1,y2⟩:=info_parts infoRow
  obtain ⟨gg,cap,w8,hrun,r1,_,r3,r4⟩:=run_append_keep (P:=Tryz.prog) w7 L 25 25 58 i0 _ 1 24 Tryz.underlying25 hi y0 y1 y2 rfl (by omega) (.slice da N dc) N (rowVals Z dbs) hown ⟨NB,0,none⟩ 1 1 [.slice (some ⟨nb,0,none⟩) Z Z] rfl (World.news_of_block (cs:=#[.slice (some ⟨nb,0,none⟩) Z Z]) (t:=58) (fr:=(0,0)) hnw) (by simp [Value.oneCell']) (by unfold maxLen;omega) (by omega) (Nat.le_trans hLw6 b7.size) (by omega)
  have hpo:¬ (Value.slice da N dc).ownBlock=some p:=fun e=>(h6.nd p (by rw [hD];exact e)).1 rfl
  have f7:Frm (fun k=>(Value.slice da N dc).ownBlock=some k) w7 w8:=(Frm.refl _ w7).grown r3 (fun k e=>.inl e)
  have f8:Frm (fun k=>(Value.slice da N dc).ownBlock=some k) w6 w8:=(Frm.of_below b7).trans f7
  have C7:∀ o v,w6.cell? ⟨p,o,none⟩=some v->w7.cell? ⟨p,o,none⟩=some v:=fun o v e=>(World.cell?_of_block (a:=⟨p,o,none⟩) (b7.block p hp6)).trans e
  have C8:∀ o v,w6.cell? ⟨p,o,none⟩=some v->w8.cell? ⟨p,o,none⟩=some v:=fun o v e=>f7.cell (C7 o v e) hpo
  have d7:=And.intro (C7 2 _ c2) (C7 4 _ c4)
  have d8:=And.intro (C8 2 _ c2) (C8 4 _ c4)
  have z8:w8.frozen? ⟨p,2,none⟩=false:=(World.frozen?_of_block (a:=⟨p,2,none⟩) (f8.block p hp6 hpo)).trans (h6.fz 2)
  obtain ⟨w9,hw9⟩:∃ w9,w9=w8.setCell ⟨p,2,none⟩ (.slice (some ⟨gg,0,none⟩) (N+1) cap):=⟨_,rfl⟩
  have HL9:Hid (PL w9 L p b (.slice (some ⟨gg,0,none⟩) (N+1) cap) (dbs++[nb]) s z FR):=by
   unfold Hid
   rw [hw9,hN]
   refine h6.toL ?_ (by rw [hD];exact f8) ?_
   ·rw [<- hN,<- HZ.out];exact r1
   ·rw [hD]
    rcases r4 with e|e
    ·exact .inl e
    ·exact .inr (Nat.le_trans b7.size e.1)
  have f9:Frm (fun k=>(Value.slice da N dc).ownBlock=some k \/ k=p) w6 w9:=by rw [hw9];exact (f8.mono (fun _ _ e=>.inl e)).setCell (p:=⟨p,2,none⟩) (.inl (.inr rfl)) _
  have HB9:Hid (Below L w w9):=by
   have hb:Below L w w5:=HF5.out.below hLw (fun k e=>by rw [show k=p from e];exact HP.out.lo.1)
   refine (hb.trans (blkT_below H5.out (by have:=HF5.out.size;omega) f6)).trans (f9.below hLw6 ?_)
   rintro k (e|e)
   ·exact (World.ownsRow.lt h6.rows k (by rw [hD];exact e)).1
   ·rw [e];exact h6.lo.1
  have HRUN:Hid ((Builtin.append_ #[25,25] 25 #[.slice da N dc,.slice (some ⟨NB,0,none⟩) 1 1]).run Tryz.prog w7=.ok (.slice (some ⟨gg,0,none⟩) (N+1) cap) w8):=hrun
  have HW7:Hid (w7=w6.drew.alloc (.cells #[.slice (some ⟨nb,0,none⟩) Z Z] 58)):=hw7
  have HNBB:Hid (NB=w6.heap.size):=hNB
  have HW9:Hid (w9=w8.setCell ⟨p,2,none⟩ (.slice (some ⟨gg,0,none⟩) (N+1) cap)):=hw9
  have d9:w9.cell? ⟨p,4,none⟩=some (.slice (some ⟨nb,0,none⟩) Z Z):=by
   rw [hw9,World.cell?_setCell_other]
   ·exact d8.2
   ·intro e;simp at e
  clear h6 f6 hD hN hw7 hNB hw9 hrun b7 hnw hown r1 r3 r4 f7 f8 f9 C7 C8 hi y0 y1 y2 hpo HAG H5
  refine region_calm (S:=fun w'=>w'.cell? ⟨p,4,none⟩=some (.slice (some ⟨nb,0,none⟩) Z Z)) 15 #[false,false,false,false,false,false,false,false,false,false,false,false,false,false,false] rfl rfl hmx ?_
  have hS0:w6.drew.cell? ⟨p,4,none⟩=some (.slice (some ⟨nb,0,none⟩) Z Z):=c4
  have c2d:w6.drew.cell? ⟨p,2,none⟩=some (.slice da N dc):=c2
  have d72:=d7.1
  refine tk_at 0 35 (.pointer (some ⟨p,0,none⟩)) #[true,false,false,false,false,false,false,false,false,false,false,false,false,false,false] rfl rfl rfl (by kernel_rfl) (by rfl) (by rintro w t0;go_simp) (by assumption) ?_
  simp only [sIb,sCs,sCz]
  refine tk_at 1 36 (.pointer (some ⟨p,0,none⟩)) #[true,true,false,false,false,false,false,false,false,false,false,false,false,false,false] rfl rfl rfl (by kernel_rfl) (by rfl) (by rintro w t0;go_simp) (by assumption) ?_
  simp only [sIb,sCs,sCz]
  refine tk_at 2 37 (.pointer (some ⟨p,0,none⟩)) #[true,true,true,false,false,false,false,false,false,false,false,false,false,false,false] rfl rfl rfl (by kernel_rfl) (by rfl) (by rintro w t0;go_simp) (by assumption) ?_
  simp only [sIb,sCs,sCz]
  refine tk_at 3 38 (.pointer (some ⟨p,2,none⟩)) #[true,true,true,true,false,false,false,false,false,false,false,false,false,false,false] rfl rfl rfl (by kernel_rfl) (by rfl) (by rintro w t0;go_simp) (by assumption) ?_
  simp only [sIb,sCs,sCz]
  refine tk_at 5 40 (.pointer (some ⟨p,0,none⟩)) #[true,true,true,true,false,true,false,false,false,false,false,false,false,false,false] rfl rfl rfl (by kernel_rfl) (by rfl) (by rintro w t0;go_simp) (by assumption) ?_
  simp only [sIb,sCs,sCz]
  refine tk_at 6 41 (.pointer (some ⟨p,0,none⟩)) #[true,true,true,true,false,true,true,false,false,false,false,false,false,false,false] rfl rfl rfl (by kernel_rfl) (by rfl) (by rintro w t0;go_simp) (by assumption) ?_
  simp only [sIb,sCs,sCz]
  refine tk_at 7 42 (.pointer (some ⟨p,3,none⟩)) #[true,true,true,true,false,true,true,true,false,false,false,false,false,false,false] rfl rfl rfl (by kernel_rfl) (by rfl) (by rintro w t0;go_simp) (by assumption) ?_
  simp only [sIb,sCs,sCz]
  refine tk_at 8 43 (.pointer (some ⟨p,4,none⟩)) #[true,true,true,true,false,true,true,true,true,false,false,false,false,false,false] rfl rfl rfl (by kernel_rfl) (by rfl) (by rintro w t0;go_simp) (by assumption) ?_
  simp only [sIb,sCs,sCz]
  refine tk_at 9 44 (.slice (some ⟨nb,0,none⟩) Z Z) #[true,true,true,true,false,true,true,true,true,true,false,false,false,false,false] rfl rfl rfl (by kernel_rfl) (by rfl) (by rintro w t0;go_simp) (by assumption) ?_
  simp only [sIb,sCs,sCz]
  refine pair_at (i:=4) (j:=10) (di:=39) (dj:=45) (vi:=.slice da N dc) (vj:=.slice (some ⟨NB,0,none⟩) 1 1) (w':=w7) #[true,true,true,true,true,true,true,true,true,true,false,false,false,false,false] #[true,true,true,true,false,true,true,true,true,true,true,false,false,false,false] #[true,true,true,true,true,true,true,true,true,true,true,false,false,false,false] rfl rfl rfl rfl (by kernel_rfl) (by kernel_rfl) (by kernel_rfl) rfl rfl rfl rfl rfl rfl rfl rfl (by rfl) (by rfl) (by rfl) (by rfl) ?g1 ?g2 ?g3 ?g4 hS0 d7.2 ?_
  case g1=>go_simp
  case g2=>rw [HW7.out,HNBB.out];go_simp
  case g3=>rw [HW7.out,HNBB.out];go_simp
  case g4=>go_simp
  simp only [sIb,sCs,sCz]
  refine val_at (i:=11) (d:=46) (v:=.slice (some ⟨gg,0,none⟩) (N+1) cap) (w':=w8) #[true,true,true,true,true,true,true,true,true,true,true,true,false,false,false] (by kernel_rfl) rfl rfl rfl (by rfl) (append_run _ _ _ rfl rfl rfl HRUN.out) d8.2 ?_
  simp only [sIb,sCs,sCz]
  have d84:=d8.2
  have d82:=d8.1
  refine tk_at 12 47 (.pointer (some ⟨p,0,none⟩)) #[true,true,true,true,true,true,true,true,true,true,true,true,true,false,false] rfl rfl rfl (by kernel_rfl) (by rfl) (by rintro w t0;go_simp) (by assumption) ?_
  simp only [sIb,sCs,sCz]
  refine tk_at 13 48 (.pointer (some ⟨p,2,none⟩)) #[true,true,true,true,true,true,true,true,true,true,true,true,true,true,false] rfl rfl rfl (by kernel_rfl) (by rfl) (by rintro w t0;go_simp) (by assumption) ?_
  simp only [sIb,sCs,sCz]
  refine store_at (i:=14) (w':=w9) #[true,true,true,true,true,true,true,true,true,true,true,true,true,true,true] (by kernel_rfl) rfl rfl rfl (by rfl) ?sg6 d9 ?_
  case sg6=>rw [HW9.out];go_simp
  refine wpAnyH_done (by kernel_rfl) ?_ _
  dsimp only [calmPost]
  clear c2 c4 d7 d8 d9 z8 hS0 c2d d72 d82 d84
  go_wp2_with fail
  go_ret
  exact ⟨by rw [fltV_zero A _ HE.out];rfl,fun _=>⟨_,_,HL9.out,by simp⟩,HB9.out⟩
 ·obtain ⟨fv,hfv⟩:∃ fv,fv=Value.agg #[.int .i64 (Flm.plc FR).1,.int .i64 (Flm.plc FR).2.1,.int .i64 (Flm.plc FR).2.2,.iface 278 (.pointer (some (A FR.r.err.toNat)))]:=⟨_,rfl⟩
  have HAG:Hid (Calls Tryz.prog 87 #[.pointer (some ⟨p,0,none⟩),.agg #[.int .i64 0,.int .i64 0,.int .i64 z]] w5 fun e w'=>e=.returned (.iface 113 fv)/\Frm (blkT b nb rg) w5 w'):=HAR.out.mono (fun e w' hp=>⟨by rw [hp.1,fltV_pos A _ he,hfv],hp.2.2⟩)
  have HFV:Hid (.iface 113 fv=fltV A (Flm.plc FR) FR.r.err/\FR.r.err ≠ 0):=⟨by rw [fltV_pos A _ he,hfv],he⟩
  clear HAR he hfv
  go_wp2_with (go_at_call 87;refine HAG.out.mono ?_;rintro e w6 ⟨rfl,f6⟩)
  go_ret
  have hb:Below L w w5:=HF5.out.below hLw (fun k e=>by rw [show k=p from e];exact HP.out.lo.1)
  exact ⟨congrArg Ending.returned HFV.out.1,fun he=>absurd he HFV.out.2,hb.trans (blkT_below H5.out (by have:=HF5.out.size;omega) f6)⟩
end
section
open Go.RowKit
open Flm (Px FS)
set_option maxRecDepth 20000 in
theorem pHead_short (w:World) (s:ByteArray) (ea:Addr) (k4:w.cell? ⟨0,0,none⟩=some (.iface 278 (.pointer (some ea)))) (h:s.size<4) :
  Calls Tryz.prog 44 #[.string s] w fun e w'=>e=.returned (.tuple #[.int .i64 0,.int .i64 0,.iface 278 (.pointer (some ea))])/\Below w.heap.size w w':=by
 have hmx:Tryz.prog.follows .mixedOrders=true:=by kernel_rfl
 have h':(s.size:Int)<4:=by omega
 go_enter Tryz.func44,Tryz.ntmps44
 go_wp2
 refine region_calm (S:=fun w'=>w'.cell? ⟨0,0,none⟩=some (.iface 278 (.pointer (some ea)))) 4 #[false,false,false,false] rfl rfl hmx ?_
 have hSw.drew:w.drew.cell? ⟨0,0,none⟩=some (.iface 278 (.pointer (some ea))):=k4
 refine tk_at 0 13 (.iface 278 (.pointer (some ea))) #[true,false,false,false] rfl rfl rfl (by kernel_rfl) (by rfl) (by rintro w t0;go_simp) (by assumption) ?_
 simp only [sIb,sCs,sCz]
 refine tk_at 1 2 (.int .i64 0) #[true,true,false,false] rfl rfl rfl (by kernel_rfl) (by rfl) (by rintro w t0;go_simp) (by assumption) ?_
 simp only [sIb,sCs,sCz]
 refine tk_at 2 3 (.int .i64 0) #[true,true,true,false] rfl rfl rfl (by kernel_rfl) (by rfl) (by rintro w t0;go_simp) (by assumption) ?_
 simp only [sIb,sCs,sCz]
 refine tk_at 3 4 (.iface 278 (.pointer (some ea))) #[true,true,true,true] rfl rfl rfl (by kernel_rfl) (by rfl) (by rintro w t0;go_simp) (by assumption) ?_
 simp only [sIb,sCs,sCz]
 refine wpAnyH_done (by kernel_rfl) ?_ _
 dsimp only [calmPost]
 go_wp2_with fail
 refine bodyPost_ret (v:=.tuple #[.int .i64 0,.int .i64 0,.iface 278 (.pointer (some ea))]) (by simp [results,Tryz.results44,go_sem]) rfl ?_
 exact ⟨rfl,below_drewN (Below.refl _ w) 1⟩
set_option maxRecDepth 20000 in
theorem pHead_marks (w:World) (s:ByteArray) (ea:Addr) (k4:w.cell? ⟨0,0,none⟩=some (.iface 278 (.pointer (some ea)))) (h:4<=s.size) (t:ByteArray) (ht:s.extract 0 2=t) (hm:¬ t.toList=[70,66]) :
  Calls Tryz.prog 44 #[.string s] w fun e w'=>e=.returned (.tuple #[.int .i64 0,.int .i64 0,.iface 278 (.pointer (some ea))])/\Below w.heap.size w w':=by
 have hmx:Tryz.prog.follows .mixedOrders=true:=by kernel_rfl
 have h':¬ ((s.size:Int)<4):=by omega
 have h2:(2:Int)<=(s.size:Int):=by omega
 have h2n:2<=s.size:=by omega
 have h2s:(2:Int)<(s.size:Int):=by omega
 have h3s:(3:Int)<(s.size:Int):=by omega
 have hm2:(t.toList == [70,66])=false:=by simpa using hm
 go_enter Tryz.func44,Tryz.ntmps44
 go_wp2
 refine region_calm (S:=fun w'=>w'.cell? ⟨0,0,none⟩=some (.iface 278 (.pointer (some ea)))) 4 #[false,false,false,false] rfl rfl hmx ?_
 have hSw.drew:w.drew.cell? ⟨0,0,none⟩=some (.iface 278 (.pointer (some ea))):=k4
 refine tk_at 0 13 (.iface 278 (.pointer (some ea))) #[true,false,false,false] rfl rfl rfl (by kernel_rfl) (by rfl) (by rintro w t0;go_simp) (by assumption) ?_
 simp only [sIb,sCs,sCz]
 refine tk_at 1 2 (.int .i64 0) #[true,true,false,false] rfl rfl rfl (by kernel_rfl) (by rfl) (by rintro w t0;go_simp) (by assumption) ?_
 simp only [sIb,sCs,sCz]
 refine tk_at 2 3 (.int .i64 0) #[true,true,true,false] rfl rfl rfl (by kernel_rfl) (by rfl) (by rintro w t0;go_simp) (by assumption) ?_
 simp only [sIb,sCs,sCz]
 refine tk_at 3 4 (.iface 278 (.pointer (some ea))) #[true,true,true,true] rfl rfl rfl (by kernel_rfl) (by rfl) (by rintro w t0;go_simp) (by assumption) ?_
 simp only [sIb,sCs,sCz]
 refine wpAnyH_done (by kernel_rfl) ?_ _
 dsimp only [calmPost]
 go_wp2_with fail
 refine bodyPost_ret (v:=.tuple #[.int .i64 0,.int .i64 0,.iface 278 (.pointer (some ea))]) (by simp [results,Tryz.results44,go_sem]) rfl ?_
 exact ⟨rfl,below_drewN (Below.refl _ w) 1⟩
set_option maxRecDepth 20000 in
theorem pHead_size (w:World) (s:ByteArray) (ea:Addr) (k4:w.cell? ⟨0,0,none⟩=some (.iface 278 (.pointer (some ea)))) (h:4<=s.size) (ht:(s.extract 0 2).toList=[70,66]) (Z N:Nat) (hZ:((s[2]'(by omega)).toNat:Int)=Z) (hN:((s[3]'(by omega)).toNat:Int)=N) (hz:¬ (Z=4 \/ Z=8 \/ Z=16)) :
  Calls Tryz.prog 44 #[.string s] w fun e w'=>e=.returned (.tuple #[.int .i64 0,.int .i64 0,.iface 278 (.pointer (some ea))])/\Below w.heap.size w w':=by
 have hmx:Tryz.prog.follows .mixedOrders=true:=by kernel_rfl
 have h':¬ ((s.size:Int)<4):=by omega
 have h2:(2:Int)<=(s.size:Int):=by omega
 have h2n:2<=s.size:=by omega
 have h2s:(2:Int)<(s.size:Int):=by omega
 have h3s:(3:Int)<(s.size:Int):=by omega
 have hm2:((s.extract 0 2).toList == [70,66])=true:=by rw [ht];rfl
 obtain ⟨t,hte⟩:∃ t,s.extract 0 2=t:=⟨_,rfl⟩
 rw [hte] at hm2 ht
 have hZ8:(Z:Int)<256:=by rw [<- hZ];have:=(s[2]'(by omega)).toNat_lt;omega
 have hN8:(N:Int)<256:=by rw [<- hN];have:=(s[3]'(by omega)).toNat_lt;omega
 have hwZ:IntKind.i64.wrap (Z:Int)=(Z:Int):=by rw [IntKind.wrap_i64];omega
 have hwN:IntKind.i64.wrap (N:Int)=(N:Int):=by rw [IntKind.wrap_i64];omega
 have HIS:Hid (∀ wx,Calls Tryz.prog 38 #[.int .i64 Z] wx fun e w'=>e=.returned (.bool false)/\w'=wx):=fun wx=>pIsSize wx Z false (by simp [hz])
 clear hz
 go_enter Tryz.func44,Tryz.ntmps44
 go_wp2
 refine region_calm (S:=fun w'=>w'.cell? ⟨0,0,none⟩=some (.iface 278 (.pointer (some ea)))) 8 #[false,false,false,false,false,false,false,false] rfl rfl hmx ?_
 have hS0:w.drew.cell? ⟨0,0,none⟩=some (.iface 278 (.pointer (some ea))):=k4
 refine tk_at 0 14 (.string s) #[true,false,false,false,false,false,false,false] rfl rfl rfl (by kernel_rfl) (by rfl) (by rintro w t0;go_simp) (by assumption) ?_
 simp only [sIb,sCs,sCz]
 refine tk_at 1 15 (.int .u8 Z) #[true,true,false,false,false,false,false,false] rfl rfl rfl (by kernel_rfl) (by rfl) (by rintro w t0;go_simp) (by assumption) ?_
 simp only [sIb,sCs,sCz]
 refine tk_at 2 16 (.int .i64 Z) #[true,true,true,false,false,false,false,false] rfl rfl rfl (by kernel_rfl) (by rfl) (by rintro w t0;go_simp) (by assumption) ?_
 simp only [sIb,sCs,sCz]
 refine tk_at 3 17 (.string s) #[true,true,true,true,false,false,false,false] rfl rfl rfl (by kernel_rfl) (by rfl) (by rintro w t0;go_simp) (by assumption) ?_
 simp only [sIb,sCs,sCz]
 refine tk_at 4 18 (.int .u8 N) #[true,true,true,true,true,false,false,false] rfl rfl rfl (by kernel_rfl) (by rfl) (by rintro w t0;go_simp) (by assumption) ?_
 simp only [sIb,sCs,sCz]
 refine tk_at 5 19 (.int .i64 N) #[true,true,true,true,true,true,false,false] rfl rfl rfl (by kernel_rfl) (by rfl) (by rintro w t0;go_simp) (by assumption) ?_
 simp only [sIb,sCs,sCz]
 refine tk_at 6 2 (.int .i64 Z) #[true,true,true,true,true,true,true,false] rfl rfl rfl (by kernel_rfl) (by rfl) (by rintro w t0;go_simp) (by assumption) ?_
 simp only [sIb,sCs,sCz]
 refine tk_at 7 3 (.int .i64 N) #[true,true,true,true,true,true,true,true] rfl rfl rfl (by kernel_rfl) (by rfl) (by rintro w t0;go_simp) (by assumption) ?_
 simp only [sIb,sCs,sCz]
 refine wpAnyH_done (by kernel_rfl) ?_ _
 dsimp only [calmPost]
 go_wp2_with (go_at_call 38;refine (HIS.out _).mono ?_;rintro e w1 ⟨rfl,rfl⟩)
 refine region_calm (S:=fun w'=>w'.cell? ⟨0,0,none⟩=some (.iface 278 (.pointer (some ea)))) 4 #[false,false,false,false] rfl rfl hmx ?_
 have hSw.drew.drew:w.drew.drew.cell? ⟨0,0,none⟩=some (.iface 278 (.pointer (some ea))):=k4
 refine tk_at 0 27 (.iface 278 (.pointer (some ea))) #[true,false,false,false] rfl rfl rfl (by kernel_rfl) (by rfl) (by rintro w t0;go_simp) (by assumption) ?_
 simp only [sIb,sCs,sCz]
 refine tk_at 1 2 (.int .i64 0) #[true,true,false,false] rfl rfl rfl (by kernel_rfl) (by rfl) (by rintro w t0;go_simp) (by assumption) ?_
 simp only [sIb,sCs,sCz]
 refine tk_at 2 3 (.int .i64 0) #[true,true,true,false] rfl rfl rfl (by kernel_rfl) (by rfl) (by rintro w t0;go_simp) (by assumption) ?_
 simp only [sIb,sCs,sCz]
 refine tk_at 3 4 (.iface 278 (.pointer (some ea))) #[true,true,true,true] rfl rfl rfl (by kernel_rfl) (by rfl) (by rintro w t0;go_simp) (by assumption) ?_
 simp only [sIb,sCs,sCz]
 refine wpAnyH_done (by kernel_rfl) ?_ _
 dsimp only [calmPost]
 go_wp2_with fail
 refine bodyPost_ret (v:=.tuple #[.int .i64 0,.int .i64 0,.iface 278 (.pointer (some ea))]) (by simp [results,Tryz.results44,go_sem]) rfl ?_
 exact ⟨rfl,below_drewN (Below.refl _ w) 2⟩
set_option maxRecDepth 20000 in
theorem pHead_frames (w:World) (s:ByteArray) (ea:Addr) (k4:w.cell? ⟨0,0,none⟩=some (.iface 278 (.pointer (some ea)))) (h:4<=s.size) (ht:(s.extract 0 2).toList=[70,66]) (Z N:Nat) (hZ:((s[2]'(by omega)).toNat:Int)=Z) (hN:((s[3]'(by omega)).toNat:Int)=N) (hz:Z=4 \/ Z=8 \/ Z=16) (hn:8<N) :
  Calls Tryz.prog 44 #[.string s] w fun e w'=>e=.returned (.tuple #[.int .i64 0,.int .i64 0,.iface 278 (.pointer (some ea))])/\Below w.heap.size w w':=by
 have hmx:Tryz.prog.follows .mixedOrders=true:=by kernel_rfl
 have h':¬ ((s.size:Int)<4):=by omega
 have h2:(2:Int)<=(s.size:Int):=by omega
 have h2n:2<=s.size:=by omega
 have h2s:(2:Int)<(s.size:Int):=by omega
 have h3s:(3:Int)<(s.size:Int):=by omega
 have hm2:((s.extract 0 2).toList == [70,66])=true:=by rw [ht];rfl
 obtain ⟨t,hte⟩:∃ t,s.extract 0 2=t:=⟨_,rfl⟩
 rw [hte] at hm2 ht
 have hZ8:(Z:Int)<256:=by rw [<- hZ];have:=(s[2]'(by omega)).toNat_lt;omega
 have hN8:(N:Int)<256:=by rw [<- hN];have:=(s[3]'(by omega)).toNat_lt;omega
 have hwZ:IntKind.i64.wrap (Z:Int)=(Z:Int):=by rw [IntKind.wrap_i64];omega
 have hwN:IntKind.i64.wrap (N:Int)=(N:Int):=by rw [IntKind.wrap_i64];omega
 have HIS:Hid (∀ wx,Calls Tryz.prog 38 #[.int .i64 Z] wx fun e w'=>e=.returned (.bool true)/\w'=wx):=fun wx=>pIsSize wx Z true (by simp [hz])
 have hn':(8:Int)<(N:Int):=by omega
 clear hz
 go_enter Tryz.func44,Tryz.ntmps44
 go_wp2
 refine region_calm (S:=fun w'=>w'.cell? ⟨0,0,none⟩=some (.iface 278 (.pointer (some ea)))) 8 #[false,false,false,false,false,false,false,false] rfl rfl hmx ?_
 have hS0:w.drew.cell? ⟨0,0,none⟩=some (.iface 278 (.pointer (some ea))):=k4
 refine tk_at 0 14 (.string s) #[true,false,false,false,false,false,false,false] rfl rfl rfl (by kernel_rfl) (by rfl) (by rintro w t0;go_simp) (by assumption) ?_
 simp only [sIb,sCs,sCz]
 refine tk_at 1 15 (.int .u8 Z) #[true,true,false,false,false,false,false,false] rfl rfl rfl (by kernel_rfl) (by rfl) (by rintro w t0;go_simp) (by assumption) ?_
 simp only [sIb,sCs,sCz]
 refine tk_at 2 16 (.int .i64 Z) #[true,true,true,false,false,false,false,false] rfl rfl rfl (by kernel_rfl) (by rfl) (by rintro w t0;go_simp) (by assumption) ?_
 simp only [sIb,sCs,sCz]
 refine tk_at 3 17 (.string s) #[true,true,true,true,false,false,false,false] rfl rfl rfl (by kernel_rfl) (by rfl) (by rintro w t0;go_simp) (by assumption) ?_
 simp only [sIb,sCs,sCz]
 refine tk_at 4 18 (.int .u8 N) #[true,true,true,true,true,false,false,false] rfl rfl rfl (by kernel_rfl) (by rfl) (by rintro w t0;go_simp) (by assumption) ?_
 simp only [sIb,sCs,sCz]
 refine tk_at 5 19 (.int .i64 N) #[true,true,true,true,true,true,false,false] rfl rfl rfl (by kernel_rfl) (by rfl) (by rintro w t0;go_simp) (by assumption) ?_
 simp only [sIb,sCs,sCz]
 refine tk_at 6 2 (.int .i64 Z) #[true,true,true,true,true,true,true,false] rfl rfl rfl (by kernel_rfl) (by rfl) (by rintro w t0;go_simp) (by assumption) ?_
 simp only [sIb,sCs,sCz]
 refine tk_at 7 3 (.int .i64 N) #[true,true,true,true,true,true,true,true] rfl rfl rfl (by kernel_rfl) (by rfl) (by rintro w t0;go_simp) (by assumption) ?_
 simp only [sIb,sCs,sCz]
 refine wpAnyH_done (by kernel_rfl) ?_ _
 dsimp only [calmPost]
 go_wp2_with (go_at_call 38;refine (HIS.out _).mono ?_;rintro e w1 ⟨rfl,rfl⟩)
 refine region_calm (S:=fun w'=>w'.cell? ⟨0,0,none⟩=some (.iface 278 (.pointer (some ea)))) 4 #[false,false,false,false] rfl rfl hmx ?_
 have hSw.drew.drew:w.drew.drew.cell? ⟨0,0,none⟩=some (.iface 278 (.pointer (some ea))):=k4
 refine tk_at 0 27 (.iface 278 (.pointer (some ea))) #[true,false,false,false] rfl rfl rfl (by kernel_rfl) (by rfl) (by rintro w t0;go_simp) (by assumption) ?_
 simp only [sIb,sCs,sCz]
 refine tk_at 1 2 (.int .i64 0) #[true,true,false,false] rfl rfl rfl (by kernel_rfl) (by rfl) (by rintro w t0;go_simp) (by assumption) ?_
 simp only [sIb,sCs,sCz]
 refine tk_at 2 3 (.int .i64 0) #[true,true,true,false] rfl rfl rfl (by kernel_rfl) (by rfl) (by rintro w t0;go_simp) (by assumption) ?_
 simp only [sIb,sCs,sCz]
 refine tk_at 3 4 (.iface 278 (.pointer (some ea))) #[true,true,true,true] rfl rfl rfl (by kernel_rfl) (by rfl) (by rintro w t0;go_simp) (by assumption) ?_
 simp only [sIb,sCs,sCz]
 refine wpAnyH_done (by kernel_rfl) ?_ _
 dsimp only [calmPost]
 go_wp2_with fail
 refine bodyPost_ret (v:=.tuple #[.int .i64 0,.int .i64 0,.iface 278 (.pointer (some ea))]) (by simp [results,Tryz.results44,go_sem]) rfl ?_
 exact ⟨rfl,below_drewN (Below.refl _ w) 2⟩
set_option maxRecDepth 20000 in
theorem pHead_good (w:World) (s:ByteArray) (h:4<=s.size) (ht:(s.extract 0 2).toList=[70,66]) (Z N:Nat) (hZ:((s[2]'(by omega)).toNat:Int)=Z) (hN:((s[3]'(by omega)).toNat:Int)=N) (hz:Z=4 \/ Z=8 \/ Z=16) (hn:N<=8) :
  Calls Tryz.prog 44 #[.string s] w fun e w'=>e=.returned (.tuple #[.int .i64 Z,.int .i64 N,.nilIface])/\Below w.heap.size w w':=by
 have hmx:Tryz.prog.follows .mixedOrders=true:=by kernel_rfl
 have h':¬ ((s.size:Int)<4):=by omega
 have h2:(2:Int)<=(s.size:Int):=by omega
 have h2n:2<=s.size:=by omega
 have h2s:(2:Int)<(s.size:Int):=by omega
 have h3s:(3:Int)<(s.size:Int):=by omega
 have hm2:((s.extract 0 2).toList == [70,66])=true:=by rw [ht];rfl
 obtain ⟨t,hte⟩:∃ t,s.extract 0 2=t:=⟨_,rfl⟩
 rw [hte] at hm2 ht
 have hZ8:(Z:Int)<256:=by rw [<- hZ];have:=(s[2]'(by omega)).toNat_lt;omega
 have hN8:(N:Int)<256:=by rw [<- hN];have:=(s[3]'(by omega)).toNat_lt;omega
 have hwZ:IntKind.i64.wrap (Z:Int)=(Z:Int):=by rw [IntKind.wrap_i64];omega
 have hwN:IntKind.i64.wrap (N:Int)=(N:Int):=by rw [IntKind.wrap_i64];omega
 have HIS:Hid (∀ wx,Calls Tryz.prog 38 #[.int .i64 Z] wx fun e w'=>e=.returned (.bool true)/\w'=wx):=fun wx=>pIsSize wx Z true (by simp [hz])
 have hn':¬ ((8:Int)<(N:Int)):=by omega
 clear hz
 go_enter Tryz.func44,Tryz.ntmps44
 go_wp2
 refine region_calm (S:=fun w'=>True) 8 #[false,false,false,false,false,false,false,false] rfl rfl hmx ?_
 have hS0:True:=trivial
 refine tk_at 0 14 (.string s) #[true,false,false,false,false,false,false,false] rfl rfl rfl (by kernel_rfl) (by rfl) (by rintro w t0;go_simp) (by assumption) ?_
 simp only [sIb,sCs,sCz]
 refine tk_at 1 15 (.int .u8 Z) #[true,true,false,false,false,false,false,false] rfl rfl rfl (by kernel_rfl) (by rfl) (by rintro w t0;go_simp) (by assumption) ?_
 simp only [sIb,sCs,sCz]
 refine tk_at 2 16 (.int .i64 Z) #[true,true,true,false,false,false,false,false] rfl rfl rfl (by kernel_rfl) (by rfl) (by rintro w t0;go_simp) (by assumption) ?_
 simp only [sIb,sCs,sCz]
 refine tk_at 3 17 (.string s) #[true,true,true,true,false,false,false,false] rfl rfl rfl (by kernel_rfl) (by rfl) (by rintro w t0;go_simp) (by assumption) ?_
 simp only [sIb,sCs,sCz]
 refine tk_at 4 18 (.int .u8 N) #[true,true,true,true,true,false,false,false] rfl rfl rfl (by kernel_rfl) (by rfl) (by rintro w t0;go_simp) (by assumption) ?_
 simp only [sIb,sCs,sCz]
 refine tk_at 5 19 (.int .i64 N) #[true,true,true,true,true,true,false,false] rfl rfl rfl (by kernel_rfl) (by rfl) (by rintro w t0;go_simp) (by assumption) ?_
 simp only [sIb,sCs,sCz]
 refine tk_at 6 2 (.int .i64 Z) #[true,true,true,true,true,true,true,false] rfl rfl rfl (by kernel_rfl) (by rfl) (by rintro w t0;go_simp) (by assumption) ?_
 simp only [sIb,sCs,sCz]
 refine tk_at 7 3 (.int .i64 N) #[true,true,true,true,true,true,true,true] rfl rfl rfl (by kernel_rfl) (by rfl) (by rintro w t0;go_simp) (by assumption) ?_
 simp only [sIb,sCs,sCz]
 refine wpAnyH_done (by kernel_rfl) ?_ _
 dsimp only [calmPost]
 go_wp2_with (go_at_call 38;refine (HIS.out _).mono ?_;rintro e w1 ⟨rfl,rfl⟩)
 refine bodyPost_ret (v:=.tuple #[.int .i64 Z,.int .i64 N,.nilIface]) (by simp [results,Tryz.results44,go_sem]) rfl ?_
 exact ⟨rfl,below_drewN (Below.refl _ w) 1⟩
theorem toList_of (s:ByteArray) (h:4<=s.size):(s.extract 0 2).toList=[s[0]'(by omega),s[1]'(by omega)]:=by
 rw [ByteArray.toList_eq]
 apply List.ext_getElem?
 intro i
 rcases (by omega:i=0 \/ i=1 \/ 2<=i) with rfl|rfl|hi
 ·rw [Array.getElem?_toList,ByteArray.data_extract,Array.getElem?_extract]
  simp [ByteArray.getElem_eq_getElem_data]
  omega
 ·rw [Array.getElem?_toList,ByteArray.data_extract,Array.getElem?_extract]
  simp [ByteArray.getElem_eq_getElem_data]
  omega
 ·rw [List.getElem?_eq_none (by simp;omega),List.getElem?_eq_none (by simp;omega)]
theorem marks_iff (s:ByteArray) (h:4<=s.size):(s.extract 0 2).toList=[70,66] ↔ Rdr.byteAt s 0=70/\Rdr.byteAt s 1=66:=by
 have key:∀ (u:UInt8) (n:Nat),n<256->(u=UInt8.ofNat n ↔ ((u.toNat:Nat):Int)=n):=fun u n hn=>by
  constructor
  ·rintro rfl;simp;omega
  ·intro hu
   apply UInt8.toNat_inj.1
   simp;omega
 rw [toList_of s h,byteAt_get s 0 (by omega),byteAt_get s 1 (by omega)]
 constructor
 ·intro e
  simp only [List.cons.injEq,and_true] at e
  exact ⟨(key _ 70 (by decide)).1 e.1,(key _ 66 (by decide)).1 e.2⟩
 ·rintro ⟨e0,e1⟩
  simp only [List.cons.injEq,and_true]
  exact ⟨(key _ 70 (by decide)).2 e0,(key _ 66 (by decide)).2 e1⟩
theorem pReadHead (w:World) (s:ByteArray) (A:Nat->Addr) (E:ErrsA w A) :
  Calls Tryz.prog 44 #[.string s] w fun e w'=>(HeadOk s->e=.returned (.tuple #[.int .i64 (Rdr.byteAt s 2),.int .i64 (Rdr.byteAt s 3),.nilIface]))/\(¬ HeadOk s->e=.returned (.tuple #[.int .i64 0,.int .i64 0,.iface 278 (.pointer (some (A 4)))]))/\Below w.heap.size w w':=by
 have k4:=E.v (4,0) (by decide)
 by_cases h:s.size<4
 ·refine (pHead_short w s (A 4) k4 h).mono ?_
  rintro e w' ⟨rfl,b⟩
  exact ⟨fun hh=>absurd hh.1 (by omega),fun _=>rfl,b⟩
 ·have h4:4<=s.size:=by omega
  have b2:=byteAt_get s 2 (by omega)
  have b3:=byteAt_get s 3 (by omega)
  by_cases hm:(s.extract 0 2).toList=[70,66]
  ·obtain ⟨m0,m1⟩:=(marks_iff s h4).1 hm
   by_cases hz:Rdr.byteAt s 2=4 \/ Rdr.byteAt s 2=8 \/ Rdr.byteAt s 2=16
   ·by_cases hn:Rdr.byteAt s 3<=8
    ·refine (pHead_good w s h4 hm (s[2]'(by omega)).toNat (s[3]'(by omega)).toNat rfl rfl (by omega) (by omega)).mono ?_
     rintro e w' ⟨rfl,b⟩
     exact ⟨fun _=>by rw [b2,b3],fun hh=>absurd ⟨h4,m0,m1,hz,hn⟩ hh,b⟩
    ·refine (pHead_frames w s (A 4) k4 h4 hm (s[2]'(by omega)).toNat (s[3]'(by omega)).toNat rfl rfl (by omega) (by omega)).mono ?_
     rintro e w' ⟨rfl,b⟩
     exact ⟨fun hh=>absurd hh.2.2.2.2 hn,fun _=>rfl,b⟩
   ·refine (pHead_size w s (A 4) k4 h4 hm (s[2]'(by omega)).toNat (s[3]'(by omega)).toNat rfl rfl (by omega)).mono ?_
    rintro e w' ⟨rfl,b⟩
    exact ⟨fun hh=>absurd hh.2.2.2.1 hz,fun _=>rfl,b⟩
  ·refine (pHead_marks w s (A 4) k4 h4 _ rfl hm).mono ?_
   rintro e w' ⟨rfl,b⟩
   exact ⟨fun hh=>absurd ((marks_iff s h4).2 ⟨hh.2.1,hh.2.2.1⟩) hm,fun _=>rfl,b⟩
end
section
open Go.RowKit
theorem start_err (s:ByteArray) (ch:List Int):(Rdr.start s ch).err=0 \/ (Rdr.start s ch).err=5 \/ (Rdr.start s ch).err=7:=by
 have h4:∀ n,(Rdr.four s (Rdr.r0 ch) n).err=0 \/ (Rdr.four s (Rdr.r0 ch) n).err=5:=by
  intro n
  induction n with
  | zero=>exact .inl rfl
  | succ n ih =>
   rw [Rdr.four_succ]
   show (Rdr.octS s (Rdr.four s (Rdr.r0 ch) n)).err=0 \/ (Rdr.octS s (Rdr.four s (Rdr.r0 ch) n)).err=5
   unfold Rdr.octS
   split
   ·exact ih
   ·show (if (Rdr.four s (Rdr.r0 ch) n).err=0 then (5:Int) else (Rdr.four s (Rdr.r0 ch) n).err)=0 \/ (if (Rdr.four s (Rdr.r0 ch) n).err=0 then (5:Int) else (Rdr.four s (Rdr.r0 ch) n).err)=5
    rcases ih with ih|ih <;> rw [ih]
    ·exact .inr rfl
    ·exact .inr rfl
 rw [Rdr.start_eq]
 by_cases h:(Rdr.four s (Rdr.r0 ch) 4).err=0/\4294967295<=(Rdr.four s (Rdr.r0 ch) 4).code
 ·rw [if_pos h]
  refine .inr (.inr ?_)
  unfold Rdr.fail
  show (if (Rdr.four s (Rdr.r0 ch) 4).err=0 then (7:Int) else (Rdr.four s (Rdr.r0 ch) 4).err)=7
  rw [if_pos h.1]
 ·rw [if_neg h]
  rcases h4 4 with h4|h4
  ·exact .inl h4
  ·exact .inr (.inl h4)
end
end Go.Proofs.YtekfbphnoibnjaaGreatDoor
