/-
  PArea2 PFrm0
-/
import Derived.Test.YtekfbphnoibnjaaGreatDoorF33
set_option maxHeartbeats 4000000
namespace Go.Proofs.YtekfbphnoibnjaaGreatDoor
section
open Go.RowKit
open Flm (Px FS)
def AreaPost (A:Nat->Addr) (w:World) (L p b nb rg:Nat) (Dv:Value) (dbs:List Nat) (s:ByteArray) (z:Nat) (fs':FS) (e:Ending) (w':World):Prop :=
 e=.returned (fltV A (Flm.plc fs') fs'.r.err)/\(fs'.r.err=0->PAt w' L p b nb rg Dv dbs s z fs')/\Frm (blkT b nb rg) w w'
theorem PAt.place {w:World} {L p b nb rg:Nat} {Dv:Value} {dbs:List Nat} {s:ByteArray} {z:Nat} {fs:FS} (h:PAt w L p b nb rg Dv dbs s z fs) (f x y:Int):PAt w L p b nb rg Dv dbs s z { fs with fr:=f,x:=x,y:=y } :=
 ⟨h.pr,h.ok,h.err,h.c0,h.c1,h.c2,h.c3,h.c4,h.c5,h.fz,h.rows,h.dn,h.nw,h.read,h.n1,h.n2,h.zz,h.ne,h.nd,h.px,h.lo,h.up⟩
set_option maxRecDepth 100000 in
theorem pArea_leaf_g (w:World) (L p b nb rg:Nat) (Dv:Value) (dbs:List Nat) (s:ByteArray) (z:Nat) (g1 g2:FS) (x y n:Nat) (hlt:∀ k,paB p b nb rg Dv dbs k->k<w.heap.size)
  (hsp:∀ wx,Below w.heap.size w wx->Calls Tryz.prog 119 #[.pointer (some ⟨p,0,none⟩),.agg #[.int .i64 x,.int .i64 y,.int .i64 n]] wx fun e w'=>e=.returned (.tuple #[.bool false,.nilIface])/\PAt w' L p b nb rg Dv dbs s z g1/\Frm (oneS b) wx w')
  (hbl:∀ wx,PAt wx L p b nb rg Dv dbs s z g1->Frm (oneS b) w wx->Calls Tryz.prog 121 #[.pointer (some ⟨p,0,none⟩),.agg #[.int .i64 x,.int .i64 y,.int .i64 n]] wx fun e w'=>e=.returned .nilIface/\PAt w' L p b nb rg Dv dbs s z g2/\Frm (blkT b nb rg) wx w') :
  Calls Tryz.prog 87 #[.pointer (some ⟨p,0,none⟩),.agg #[.int .i64 x,.int .i64 y,.int .i64 n]] w fun e w'=>e=.returned .nilIface/\PAt w' L p b nb rg Dv dbs s z g2/\Frm (blkT b nb rg) w w':=by
 have hmx:Tryz.prog.follows .mixedOrders=true:=by kernel_rfl
 have hbH:b<w.heap.size:=hlt b (.inr (.inl rfl))
 have hnbH:nb<w.heap.size:=hlt nb (.inr (.inr (.inr (.inl rfl))))
 have hrgH:rg<w.heap.size:=hlt rg (.inr (.inr (.inl rfl)))
 have hpH:p<w.heap.size:=hlt p (.inl rfl)
 have HLT:Hid (∀ k,paB p b nb rg Dv dbs k->k<w.heap.size):=hlt
 obtain ⟨W,hW⟩:∃ W,W=w.alloc (.cells #[.int .i64 x,.int .i64 y,.int .i64 n] 100):=⟨_,rfl⟩
 have HW:Hid (W=w.alloc (.cells #[.int .i64 x,.int .i64 y,.int .i64 n] 100)):=hW
 have hB:Below w.heap.size w W:=by rw [hW];exact (Below.refl _ w).alloc (Nat.le_refl _) _
 have HB:Hid (Below w.heap.size w W):=hB
 have hr:W.heap[w.heap.size]?=some (.cells #[.int .i64 x,.int .i64 y,.int .i64 n] 100 (0,0)):=by rw [hW];exact heap_alloc_last w _
 have HROW:Hid (W.heap[w.heap.size]?=some (.cells #[.int .i64 x,.int .i64 y,.int .i64 n] 100 (0,0))):=hr
 have k0:=cell_of_row _ _ 0 _ _ _ hr
 have k1:=cell_of_row _ _ 1 _ _ _ hr
 have k2:=cell_of_row _ _ 2 _ _ _ hr
 simp at k0 k1 k2
 have HSP:Hid (Calls Tryz.prog 119 #[.pointer (some ⟨p,0,none⟩),.agg #[.int .i64 x,.int .i64 y,.int .i64 n]] W fun e w'=>e=.returned (.tuple #[.bool false,.nilIface])/\PAt w' L p b nb rg Dv dbs s z g1/\Frm (oneS b) W w'):=hsp W hB
 have HBL:Hid (∀ wx,PAt wx L p b nb rg Dv dbs s z g1->Frm (oneS b) w wx->Calls Tryz.prog 121 #[.pointer (some ⟨p,0,none⟩),.agg #[.int .i64 x,.int .i64 y,.int .i64 n]] wx fun e w'=>e=.returned .nilIface/\PAt w' L p b nb rg Dv dbs s z g2/\Frm (blkT b nb rg) wx w'):=hbl
 clear hW hB hr hsp hbl hlt
 go_enter Tryz.func87,Tryz.ntmps87
 go_wp2_with (first
  | (rw [<- HW.out])
  | (go_at_call 119;refine HSP.out.mono ?_;rintro e w1 ⟨rfl,h1,f1⟩))
 have hNb:¬ oneS b w.heap.size:=by show ¬ w.heap.size=b;omega
 have hNt:¬ blkT b nb rg w.heap.size:=by rintro (e|e|e) <;> omega
 have d0:=f1.cell k0 hNb
 have d1:=f1.cell k1 hNb
 have d2:=f1.cell k2 hNb
 have HBC:Hid (Calls Tryz.prog 121 #[.pointer (some ⟨p,0,none⟩),.agg #[.int .i64 x,.int .i64 y,.int .i64 n]] w1.drew fun e w'=>e=.returned .nilIface/\PAt w' L p b nb rg Dv dbs s z g2/\Frm (blkT b nb rg) w1.drew w'):=HBL.out w1.drew (h1.frm (Frm.refl (fun _=>False) w1).drew (fun _ _ e=>e)) (((Frm.of_below HB.out).trans f1).drew)
 have hp1:p<w1.heap.size:=h1.up.1
 have HF1:Hid (Frm (oneS b) W w1):=f1
 clear k0 k1 k2 h1 f1
 refine region_calm (S:=fun w'=>w'.cell? ⟨w.heap.size,0,none⟩=some (.int .i64 x)/\w'.cell? ⟨w.heap.size,1,none⟩=some (.int .i64 y)/\w'.cell? ⟨w.heap.size,2,none⟩=some (.int .i64 n)) 7 #[false,false,false,false,false,false,false] rfl rfl hmx ?_
 have hS0:(w1.drew.cell? ⟨w.heap.size,0,none⟩=some (.int .i64 x)/\w1.drew.cell? ⟨w.heap.size,1,none⟩=some (.int .i64 y)/\w1.drew.cell? ⟨w.heap.size,2,none⟩=some (.int .i64 n)):=⟨d0,d1,d2⟩
 refine tk_at 0 24 (.pointer (some ⟨p,0,none⟩)) #[true,false,false,false,false,false,false] rfl rfl rfl (by kernel_rfl) (by rfl) (by rintro w ⟨t0,t1,t2⟩;go_simp) (by assumption) ?_
 simp only [sIb,sCs,sCz]
 refine tk_at 1 25 (.agg #[.int .i64 x,.int .i64 y,.int .i64 n]) #[true,true,false,false,false,false,false] rfl rfl rfl (by kernel_rfl) (by rfl) (by rintro w ⟨t0,t1,t2⟩;go_simp) (by assumption) ?_
 simp only [sIb,sCs,sCz]
 refine tk_at 2 26 (.pointer (some ⟨p,0,none⟩)) #[true,true,true,false,false,false,false] rfl rfl rfl (by kernel_rfl) (by rfl) (by rintro w ⟨t0,t1,t2⟩;go_simp) (by assumption) ?_
 simp only [sIb,sCs,sCz]
 refine tk_at 3 27 (.agg #[.int .i64 x,.int .i64 y,.int .i64 n]) #[true,true,true,true,false,false,false] rfl rfl rfl (by kernel_rfl) (by rfl) (by rintro w ⟨t0,t1,t2⟩;go_simp) (by assumption) ?_
 simp only [sIb,sCs,sCz]
 refine enter_at (i:=4) (d:=28) (f:=121) (args:=#[.pointer (some ⟨p,0,none⟩),.agg #[.int .i64 x,.int .i64 y,.int .i64 n]]) #[true,true,true,true,true,false,false] (by kernel_rfl) rfl rfl rfl (by rfl) (by go_simp) (fun v' w'=>v'=.nilIface/\PAt w' L p b nb rg Dv dbs s z g2/\Frm (blkT b nb rg) w1 w') (HBC.out.mono (fun e w' he=>⟨_,he.1,rfl,he.2.1,((Frm.refl (blkT b nb rg) w1).drew).trans he.2.2⟩)) ?_
 rintro va wa ⟨rfl,ha,fa⟩
 have hSA:(wa.cell? ⟨w.heap.size,0,none⟩=some (.int .i64 x)/\wa.cell? ⟨w.heap.size,1,none⟩=some (.int .i64 y)/\wa.cell? ⟨w.heap.size,2,none⟩=some (.int .i64 n)):=⟨fa.cell d0 hNt,fa.cell d1 hNt,fa.cell d2 hNt⟩
 refine ⟨hSA,?_⟩
 simp only [sIb,sCs,sCz]
 have hwwa:w.heap.size<wa.heap.size:=Nat.lt_of_lt_of_le (heap_lt HROW.out) (Nat.le_trans HF1.out.size fa.size)
 have HFC:=pFault_nil wa p x y n
 refine enter_at (i:=5) (d:=29) (f:=120) (args:=#[.pointer (some ⟨p,0,none⟩),.agg #[.int .i64 x,.int .i64 y,.int .i64 n],.nilIface]) #[true,true,true,true,true,true,false] (by kernel_rfl) rfl rfl rfl (by rfl) (by go_simp) (fun v' w'=>v'=.nilIface/\Below wa.heap.size wa w') (HFC.mono (fun e w' he=>⟨_,he.1,rfl,he.2⟩)) ?_
 rintro vb wb ⟨rfl,bb⟩
 have hSB:(wb.cell? ⟨w.heap.size,0,none⟩=some (.int .i64 x)/\wb.cell? ⟨w.heap.size,1,none⟩=some (.int .i64 y)/\wb.cell? ⟨w.heap.size,2,none⟩=some (.int .i64 n)):=⟨(World.cell?_of_block (a:=⟨w.heap.size,0,none⟩) (bb.block _ hwwa)).trans hSA.1,(World.cell?_of_block (a:=⟨w.heap.size,1,none⟩) (bb.block _ hwwa)).trans hSA.2.1,(World.cell?_of_block (a:=⟨w.heap.size,2,none⟩) (bb.block _ hwwa)).trans hSA.2.2⟩
 refine ⟨hSB,?_⟩
 simp only [sIb,sCs,sCz]
 refine tk_at 6 4 (.nilIface) #[true,true,true,true,true,true,true] rfl rfl rfl (by kernel_rfl) (by rfl) (by rintro w ⟨t0,t1,t2⟩;go_simp) (by assumption) ?_
 simp only [sIb,sCs,sCz]
 refine wpAnyH_done (by kernel_rfl) ?_ _
 dsimp only [calmPost]
 have HR:Hid (PAt wb L p b nb rg Dv dbs s z g2/\Frm (blkT b nb rg) w wb):=⟨ha.below bb,((((Frm.of_below HB.out).trans (frm_one_t HF1.out)).trans fa).trans (Frm.of_below bb))⟩
 clear d0 d1 d2 hS0 hSA hSB ha fa bb HFC
 go_wp2_with fail
 go_ret
 exact ⟨rfl,HR.out.1,HR.out.2⟩
set_option maxRecDepth 100000 in
theorem pArea_leaf_b (w:World) (L p b nb rg:Nat) (Dv:Value) (dbs:List Nat) (s:ByteArray) (z:Nat) (g1:FS) (x y n:Nat) (N:Nat) (da:Option Addr) (dc:Nat) (hDv:Dv=.slice da N dc) (ea:Addr) (hlt:∀ k,paB p b nb rg Dv dbs k->k<w.heap.size)
  (hsp:∀ wx,Below w.heap.size w wx->Calls Tryz.prog 119 #[.pointer (some ⟨p,0,none⟩),.agg #[.int .i64 x,.int .i64 y,.int .i64 n]] wx fun e w'=>e=.returned (.tuple #[.bool false,.nilIface])/\PAt w' L p b nb rg Dv dbs s z g1/\Frm (oneS b) wx w')
  (hbl:∀ wx,PAt wx L p b nb rg Dv dbs s z g1->Frm (oneS b) w wx->Calls Tryz.prog 121 #[.pointer (some ⟨p,0,none⟩),.agg #[.int .i64 x,.int .i64 y,.int .i64 n]] wx fun e w'=>e=.returned (.iface 278 (.pointer (some ea)))/\Frm (blkT b nb rg) wx w') :
  Calls Tryz.prog 87 #[.pointer (some ⟨p,0,none⟩),.agg #[.int .i64 x,.int .i64 y,.int .i64 n]] w fun e w'=>e=.returned (.iface 113 (.agg #[.int .i64 N,.int .i64 x,.int .i64 y,.iface 278 (.pointer (some ea))]))/\Frm (blkT b nb rg) w w':=by
 have hmx:Tryz.prog.follows .mixedOrders=true:=by kernel_rfl
 have hbH:b<w.heap.size:=hlt b (.inr (.inl rfl))
 have hnbH:nb<w.heap.size:=hlt nb (.inr (.inr (.inr (.inl rfl))))
 have hrgH:rg<w.heap.size:=hlt rg (.inr (.inr (.inl rfl)))
 have hpH:p<w.heap.size:=hlt p (.inl rfl)
 have HLT:Hid (∀ k,paB p b nb rg Dv dbs k->k<w.heap.size):=hlt
 obtain ⟨W,hW⟩:∃ W,W=w.alloc (.cells #[.int .i64 x,.int .i64 y,.int .i64 n] 100):=⟨_,rfl⟩
 have HW:Hid (W=w.alloc (.cells #[.int .i64 x,.int .i64 y,.int .i64 n] 100)):=hW
 have hB:Below w.heap.size w W:=by rw [hW];exact (Below.refl _ w).alloc (Nat.le_refl _) _
 have HB:Hid (Below w.heap.size w W):=hB
 have hr:W.heap[w.heap.size]?=some (.cells #[.int .i64 x,.int .i64 y,.int .i64 n] 100 (0,0)):=by rw [hW];exact heap_alloc_last w _
 have HROW:Hid (W.heap[w.heap.size]?=some (.cells #[.int .i64 x,.int .i64 y,.int .i64 n] 100 (0,0))):=hr
 have k0:=cell_of_row _ _ 0 _ _ _ hr
 have k1:=cell_of_row _ _ 1 _ _ _ hr
 have k2:=cell_of_row _ _ 2 _ _ _ hr
 simp at k0 k1 k2
 have HSP:Hid (Calls Tryz.prog 119 #[.pointer (some ⟨p,0,none⟩),.agg #[.int .i64 x,.int .i64 y,.int .i64 n]] W fun e w'=>e=.returned (.tuple #[.bool false,.nilIface])/\PAt w' L p b nb rg Dv dbs s z g1/\Frm (oneS b) W w'):=hsp W hB
 have HBL:Hid (∀ wx,PAt wx L p b nb rg Dv dbs s z g1->Frm (oneS b) w wx->Calls Tryz.prog 121 #[.pointer (some ⟨p,0,none⟩),.agg #[.int .i64 x,.int .i64 y,.int .i64 n]] wx fun e w'=>e=.returned (.iface 278 (.pointer (some ea)))/\Frm (blkT b nb rg) wx w'):=hbl
 clear hW hB hr hsp hbl hlt
 go_enter Tryz.func87,Tryz.ntmps87
 go_wp2_with (first
  | (rw [<- HW.out])
  | (go_at_call 119;refine HSP.out.mono ?_;rintro e w1 ⟨rfl,h1,f1⟩))
 have hNb:¬ oneS b w.heap.size:=by show ¬ w.heap.size=b;omega
 have hNt:¬ blkT b nb rg w.heap.size:=by rintro (e|e|e) <;> omega
 have d0:=f1.cell k0 hNb
 have d1:=f1.cell k1 hNb
 have d2:=f1.cell k2 hNb
 have HBC:Hid (Calls Tryz.prog 121 #[.pointer (some ⟨p,0,none⟩),.agg #[.int .i64 x,.int .i64 y,.int .i64 n]] w1.drew fun e w'=>e=.returned (.iface 278 (.pointer (some ea)))/\Frm (blkT b nb rg) w1.drew w'):=HBL.out w1.drew (h1.frm (Frm.refl (fun _=>False) w1).drew (fun _ _ e=>e)) (((Frm.of_below HB.out).trans f1).drew)
 have hp1:p<w1.heap.size:=h1.up.1
 have c2:=h1.c2
 rw [hDv] at c2
 have hpT:¬ blkT b nb rg p:=by obtain ⟨⟨n1,n2,n3,_⟩,_⟩:=h1.nes;rintro (e|e|e) <;> contradiction
 have HF1:Hid (Frm (oneS b) W w1):=f1
 clear k0 k1 k2 h1 f1
 refine region_calm (S:=fun w'=>w'.cell? ⟨w.heap.size,0,none⟩=some (.int .i64 x)/\w'.cell? ⟨w.heap.size,1,none⟩=some (.int .i64 y)/\w'.cell? ⟨w.heap.size,2,none⟩=some (.int .i64 n)) 7 #[false,false,false,false,false,false,false] rfl rfl hmx ?_
 have hS0:(w1.drew.cell? ⟨w.heap.size,0,none⟩=some (.int .i64 x)/\w1.drew.cell? ⟨w.heap.size,1,none⟩=some (.int .i64 y)/\w1.drew.cell? ⟨w.heap.size,2,none⟩=some (.int .i64 n)):=⟨d0,d1,d2⟩
 refine tk_at 0 24 (.pointer (some ⟨p,0,none⟩)) #[true,false,false,false,false,false,false] rfl rfl rfl (by kernel_rfl) (by rfl) (by rintro w ⟨t0,t1,t2⟩;go_simp) (by assumption) ?_
 simp only [sIb,sCs,sCz]
 refine tk_at 1 25 (.agg #[.int .i64 x,.int .i64 y,.int .i64 n]) #[true,true,false,false,false,false,false] rfl rfl rfl (by kernel_rfl) (by rfl) (by rintro w ⟨t0,t1,t2⟩;go_simp) (by assumption) ?_
 simp only [sIb,sCs,sCz]
 refine tk_at 2 26 (.pointer (some ⟨p,0,none⟩)) #[true,true,true,false,false,false,false] rfl rfl rfl (by kernel_rfl) (by rfl) (by rintro w ⟨t0,t1,t2⟩;go_simp) (by assumption) ?_
 simp only [sIb,sCs,sCz]
 refine tk_at 3 27 (.agg #[.int .i64 x,.int .i64 y,.int .i64 n]) #[true,true,true,true,false,false,false] rfl rfl rfl (by kernel_rfl) (by rfl) (by rintro w ⟨t0,t1,t2⟩;go_simp) (by assumption) ?_
 simp only [sIb,sCs,sCz]
 refine enter_at (i:=4) (d:=28) (f:=121) (args:=#[.pointer (some ⟨p,0,none⟩),.agg #[.int .i64 x,.int .i64 y,.int .i64 n]]) #[true,true,true,true,true,false,false] (by kernel_rfl) rfl rfl rfl (by rfl) (by go_simp) (fun v' w'=>v'=.iface 278 (.pointer (some ea))/\Frm (blkT b nb rg) w1 w') (HBC.out.mono (fun e w' he=>⟨_,he.1,rfl,((Frm.refl (blkT b nb rg) w1).drew).trans he.2⟩)) ?_
 rintro va wa ⟨rfl,fa⟩
 have hSA:(wa.cell? ⟨w.heap.size,0,none⟩=some (.int .i64 x)/\wa.cell? ⟨w.heap.size,1,none⟩=some (.int .i64 y)/\wa.cell? ⟨w.heap.size,2,none⟩=some (.int .i64 n)):=⟨fa.cell d0 hNt,fa.cell d1 hNt,fa.cell d2 hNt⟩
 refine ⟨hSA,?_⟩
 simp only [sIb,sCs,sCz]
 have hwwa:w.heap.size<wa.heap.size:=Nat.lt_of_lt_of_le (heap_lt HROW.out) (Nat.le_trans HF1.out.size fa.size)
 have HFC:=pFault_some wa p x y n N da dc (Nat.lt_of_lt_of_le hp1 fa.size) (fa.cell c2 hpT) ea
 refine enter_at (i:=5) (d:=29) (f:=120) (args:=#[.pointer (some ⟨p,0,none⟩),.agg #[.int .i64 x,.int .i64 y,.int .i64 n],.iface 278 (.pointer (some ea))]) #[true,true,true,true,true,true,false] (by kernel_rfl) rfl rfl rfl (by rfl) (by go_simp) (fun v' w'=>v'=.iface 113 (.agg #[.int .i64 N,.int .i64 x,.int .i64 y,.iface 278 (.pointer (some ea))])/\Below wa.heap.size wa w') (HFC.mono (fun e w' he=>⟨_,he.1,rfl,he.2⟩)) ?_
 rintro vb wb ⟨rfl,bb⟩
 have hSB:(wb.cell? ⟨w.heap.size,0,none⟩=some (.int .i64 x)/\wb.cell? ⟨w.heap.size,1,none⟩=some (.int .i64 y)/\wb.cell? ⟨w.heap.size,2,none⟩=some (.int .i64 n)):=⟨(World.cell?_of_block (a:=⟨w.heap.size,0,none⟩) (bb.block _ hwwa)).trans hSA.1,(World.cell?_of_block (a:=⟨w.heap.size,1,none⟩) (bb.block _ hwwa)).trans hSA.2.1,(World.cell?_of_block (a:=⟨w.heap.size,2,none⟩) (bb.block _ hwwa)).trans hSA.2.2⟩
 refine ⟨hSB,?_⟩
 simp only [sIb,sCs,sCz]
 refine tk_at 6 4 (.iface 113 (.agg #[.int .i64 N,.int .i64 x,.int .i64 y,.iface 278 (.pointer (some ea))])) #[true,true,true,true,true,true,true] rfl rfl rfl (by kernel_rfl) (by rfl) (by rintro w ⟨t0,t1,t2⟩;go_simp) (by assumption) ?_
 simp only [sIb,sCs,sCz]
 refine wpAnyH_done (by kernel_rfl) ?_ _
 dsimp only [calmPost]
 have HR:Hid (Frm (blkT b nb rg) w wb):=((((Frm.of_below HB.out).trans (frm_one_t HF1.out)).trans fa).trans (Frm.of_below bb))
 clear d0 d1 d2 hS0 hSA hSB fa bb HFC
 go_wp2_with fail
 go_ret
 exact ⟨rfl,HR.out⟩
set_option maxRecDepth 100000 in
theorem pArea_bad (w:World) (p b x y n N:Nat) (da:Option Addr) (dc:Nat) (ea:Addr) (hp:p<w.heap.size) (hb:b<w.heap.size) (hpb:p ≠ b) (c2:w.cell? ⟨p,2,none⟩=some (.slice da N dc))
  (hsp:∀ wx,Below w.heap.size w wx->Calls Tryz.prog 119 #[.pointer (some ⟨p,0,none⟩),.agg #[.int .i64 x,.int .i64 y,.int .i64 n]] wx fun e w'=>e=.returned (.tuple #[.bool false,.iface 278 (.pointer (some ea))])/\Frm (oneS b) wx w') :
  Calls Tryz.prog 87 #[.pointer (some ⟨p,0,none⟩),.agg #[.int .i64 x,.int .i64 y,.int .i64 n]] w fun e w'=>e=.returned (.iface 113 (.agg #[.int .i64 N,.int .i64 x,.int .i64 y,.iface 278 (.pointer (some ea))]))/\Frm (oneS b) w w':=by
 obtain ⟨W,hW⟩:∃ W,W=w.alloc (.cells #[.int .i64 x,.int .i64 y,.int .i64 n] 100):=⟨_,rfl⟩
 have HW:Hid (W=w.alloc (.cells #[.int .i64 x,.int .i64 y,.int .i64 n] 100)):=hW
 have hB:Below w.heap.size w W:=by rw [hW];exact (Below.refl _ w).alloc (Nat.le_refl _) _
 have HB:Hid (Below w.heap.size w W):=hB
 have hr:W.heap[w.heap.size]?=some (.cells #[.int .i64 x,.int .i64 y,.int .i64 n] 100 (0,0)):=by rw [hW];exact heap_alloc_last w _
 have HROW:Hid (W.heap[w.heap.size]?=some (.cells #[.int .i64 x,.int .i64 y,.int .i64 n] 100 (0,0))):=hr
 have k0:=cell_of_row _ _ 0 _ _ _ hr
 have k1:=cell_of_row _ _ 1 _ _ _ hr
 have k2:=cell_of_row _ _ 2 _ _ _ hr
 simp at k0 k1 k2
 have HSP:Hid (Calls Tryz.prog 119 #[.pointer (some ⟨p,0,none⟩),.agg #[.int .i64 x,.int .i64 y,.int .i64 n]] W fun e w'=>e=.returned (.tuple #[.bool false,.iface 278 (.pointer (some ea))])/\Frm (oneS b) W w'):=hsp W hB
 have HCS:Hid (∀ w1,Frm (oneS b) W w1->w1.cell? ⟨w.heap.size,0,none⟩=some (.int .i64 x)/\w1.cell? ⟨w.heap.size,1,none⟩=some (.int .i64 y)/\w1.cell? ⟨w.heap.size,2,none⟩=some (.int .i64 n)/\Calls Tryz.prog 120 #[.pointer (some ⟨p,0,none⟩),.agg #[.int .i64 x,.int .i64 y,.int .i64 n],.iface 278 (.pointer (some ea))] w1 fun e w'=>e=.returned (.iface 113 (.agg #[.int .i64 N,.int .i64 x,.int .i64 y,.iface 278 (.pointer (some ea))]))/\Below w1.heap.size w1 w'):=fun w1 f=>by
  have hNb:¬ oneS b w.heap.size:=by show ¬ w.heap.size=b;omega
  have d2:W.cell? ⟨p,2,none⟩=some (.slice da N dc):=(World.cell?_of_block (a:=⟨p,2,none⟩) (hB.block p hp)).trans c2
  exact ⟨f.cell k0 hNb,f.cell k1 hNb,f.cell k2 hNb,pFault_some w1 p x y n N da dc (Nat.lt_of_lt_of_le (Nat.lt_of_lt_of_le hp hB.size) f.size) (f.cell d2 hpb) ea⟩
 clear hW hB hr hsp c2
 go_enter Tryz.func87,Tryz.ntmps87
 go_wp2_with (first
  | (rw [<- HW.out])
  | (go_at_call 119;refine HSP.out.mono ?_;rintro e w1 ⟨rfl,f1⟩;obtain ⟨d0,d1,d2,HFC⟩:=HCS.out w1 f1;have HFF:Hid (Calls Tryz.prog 120 #[.pointer (some ⟨p,0,none⟩),.agg #[.int .i64 x,.int .i64 y,.int .i64 n],.iface 278 (.pointer (some ea))] w1 fun e w'=>e=.returned (.iface 113 (.agg #[.int .i64 N,.int .i64 x,.int .i64 y,.iface 278 (.pointer (some ea))]))/\Below w1.heap.size w1 w'):=HFC;clear HFC)
  | (go_at_call 120;refine HFF.out.mono ?_;rintro e w2 ⟨rfl,b2⟩))
 go_ret
 exact ⟨rfl,((Frm.of_below HB.out).trans f1).trans (Frm.of_below b2)⟩
def qX (x h k:Nat):Nat:=if k=1 \/ k=3 then x+h else x
def qY (y h k:Nat):Nat:=if 2<=k then y+h else y
theorem quarterIx (x y h k:Nat) (hk:k<4) (QX QY:Nat) (h1:QX=qX x h k) (h2:QY=qY y h k) (w:World):Sem.run Tryz.prog (Instr.index 208 (.agg #[.int .i64 x,.int .i64 y,.int .i64 h,.int .i64 ((x+h:Nat):Int),.int .i64 y,.int .i64 h,.int .i64 x,.int .i64 ((y+h:Nat):Int),.int .i64 h,.int .i64 ((x+h:Nat):Int),.int .i64 ((y+h:Nat):Int),.int .i64 h]) (.int .i64 k)) w=.ok (.agg #[.int .i64 QX,.int .i64 QY,.int .i64 h]) w:=by
 subst h1;subst h2
 rcases (by omega:k=0 \/ k=1 \/ k=2 \/ k=3) with rfl|rfl|rfl|rfl <;> kernel_rfl
set_option maxRecDepth 100000 in
theorem pArea_node (w:World) (L p b nb rg:Nat) (Dv:Value) (dbs:List Nat) (s:ByteArray) (z:Nat) (A:Nat->Addr) (x y n h:Nat) (hx:x<=16) (hy:y<=16) (hn:n=2*h) (hh:h<=8) (hbH:b<w.heap.size) (F:Nat->FS)
  (hoff:∀ k,(F k).r.err ≠ 0->F (k+1)=F k)
  (hsp:∀ wx,Below w.heap.size w wx->Calls Tryz.prog 119 #[.pointer (some ⟨p,0,none⟩),.agg #[.int .i64 x,.int .i64 y,.int .i64 n]] wx fun e w'=>e=.returned (.tuple #[.bool true,.nilIface])/\PAt w' L p b nb rg Dv dbs s z (F 0)/\Frm (oneS b) wx w')
  (har:∀ k,k<4->∀ wx,PAt wx L p b nb rg Dv dbs s z (F k)->Frm (blkT b nb rg) w wx->Calls Tryz.prog 87 #[.pointer (some ⟨p,0,none⟩),.agg #[.int .i64 (qX x h k),.int .i64 (qY y h k),.int .i64 h]] wx (AreaPost A wx L p b nb rg Dv dbs s z (F (k+1)))) :
  Calls Tryz.prog 87 #[.pointer (some ⟨p,0,none⟩),.agg #[.int .i64 x,.int .i64 y,.int .i64 n]] w (AreaPost A w L p b nb rg Dv dbs s z (F 4)):=by
 obtain ⟨W,hW⟩:∃ W,W=w.alloc (.cells #[.int .i64 x,.int .i64 y,.int .i64 n] 100):=⟨_,rfl⟩
 have HW:Hid (W=w.alloc (.cells #[.int .i64 x,.int .i64 y,.int .i64 n] 100)):=hW
 have hB:Below w.heap.size w W:=by rw [hW];exact (Below.refl _ w).alloc (Nat.le_refl _) _
 have HB:Hid (Below w.heap.size w W):=hB
 have hr:W.heap[w.heap.size]?=some (.cells #[.int .i64 x,.int .i64 y,.int .i64 n] 100 (0,0)):=by rw [hW];exact heap_alloc_last w _
 have HROW:Hid (W.heap[w.heap.size]?=some (.cells #[.int .i64 x,.int .i64 y,.int .i64 n] 100 (0,0))):=hr
 have k0:=cell_of_row _ _ 0 _ _ _ hr
 have k1:=cell_of_row _ _ 1 _ _ _ hr
 have k2:=cell_of_row _ _ 2 _ _ _ hr
 simp at k0 k1 k2
 have HSP:Hid (Calls Tryz.prog 119 #[.pointer (some ⟨p,0,none⟩),.agg #[.int .i64 x,.int .i64 y,.int .i64 n]] W fun e w'=>e=.returned (.tuple #[.bool true,.nilIface])/\PAt w' L p b nb rg Dv dbs s z (F 0)/\Frm (oneS b) W w'):=hsp W hB
 have HCS:Hid (∀ w1,Frm (oneS b) W w1->w1.cell? ⟨w.heap.size,0,none⟩=some (.int .i64 x)/\w1.cell? ⟨w.heap.size,1,none⟩=some (.int .i64 y)/\w1.cell? ⟨w.heap.size,2,none⟩=some (.int .i64 n)):=fun w1 f=>by
  have hNb:¬ oneS b w.heap.size:=by show ¬ w.heap.size=b;omega
  exact ⟨f.cell k0 hNb,f.cell k1 hNb,f.cell k2 hNb⟩
 have HQ:Hid (∀ wx,Calls Tryz.prog 116 #[.agg #[.int .i64 x,.int .i64 y,.int .i64 n]] wx fun e w'=>e=.returned (.agg #[.int .i64 x,.int .i64 y,.int .i64 h,.int .i64 ((x+h:Nat):Int),.int .i64 y,.int .i64 h,.int .i64 x,.int .i64 ((y+h:Nat):Int),.int .i64 h,.int .i64 ((x+h:Nat):Int),.int .i64 ((y+h:Nat):Int),.int .i64 h])/\Below wx.heap.size wx w'):=fun wx=>pQuarters wx x y n h hx hy hn hh
 have HAR:Hid (∀ k,k<4->∀ wx,PAt wx L p b nb rg Dv dbs s z (F k)->Frm (blkT b nb rg) w wx->Calls Tryz.prog 87 #[.pointer (some ⟨p,0,none⟩),.agg #[.int .i64 (qX x h k),.int .i64 (qY y h k),.int .i64 h]] wx (AreaPost A wx L p b nb rg Dv dbs s z (F (k+1)))):=har
 have HOFF:Hid (∀ k,(F k).r.err ≠ 0->F (k+1)=F k):=hoff
 clear hW hB hr hsp har hoff hn
 go_enter Tryz.func87,Tryz.ntmps87
 go_wp2_with (first
  | (rw [<- HW.out])
  | (go_at_call 119;refine HSP.out.mono ?_;rintro e w1 ⟨rfl,h1,f1⟩;obtain ⟨d0,d1,d2⟩:=HCS.out w1 f1)
  | (go_at_call 116;refine (HQ.out _).mono ?_;rintro e w2 ⟨rfl,b2⟩))
 have HL0:Hid (PAt w2 L p b nb rg Dv dbs s z (F 0)/\Frm (blkT b nb rg) w w2):=⟨h1.below b2,((Frm.of_below HB.out).trans (frm_one_t f1)).trans (Frm.of_below b2)⟩
 clear h1 f1 b2 d0 d1 d2 k0 k1 k2
 go_loopw [32] (fun kv wr=>∃ k:Nat,k<=4/\kv=.int .i64 k/\PAt wr L p b nb rg Dv dbs s z (F k)/\Frm (blkT b nb rg) w wr) (fun kv _=>4-(intOf kv).toNat)
 case atStart=>exact ⟨0,by omega,rfl,HL0.out⟩
 case round =>
  clear HL0
  obtain ⟨k,hk,rfl,j1,j2⟩:=hrel
  by_cases hk4:k<4
  ·have hk4':(k:Int)<4:=by omega
   obtain ⟨QX,hQX⟩:∃ QX,QX=qX x h k:=⟨_,rfl⟩
   obtain ⟨QY,hQY⟩:∃ QY,QY=qY y h k:=⟨_,rfl⟩
   have hix:=quarterIx x y h k hk4 QX QY hQX hQY
   rw [Int.natCast_add,Int.natCast_add] at hix
   have HA:Hid (∀ wx,Below wr.heap.size wr wx->Calls Tryz.prog 87 #[.pointer (some ⟨p,0,none⟩),.agg #[.int .i64 QX,.int .i64 QY,.int .i64 h]] wx (AreaPost A wx L p b nb rg Dv dbs s z (F (k+1)))):=fun wx hb=>by rw [hQX,hQY];exact HAR.out k hk4 wx (j1.below hb) (j2.trans (Frm.of_below hb))
   have HF:Hid (∀ wx,Below wr.heap.size wr wx->Frm (blkT b nb rg) w wx):=fun wx hb=>j2.trans (Frm.of_below hb)
   obtain ⟨wx,hwx⟩:∃ wx,wx=wr.alloc (.cells #[.int .i64 QX,.int .i64 QY,.int .i64 h] 100):=⟨_,rfl⟩
   have hbx:Below wr.heap.size wr wx:=by rw [hwx];exact (Below.refl _ wr).alloc (Nat.le_refl _) _
   have HAX:=HA.out wx hbx
   have HFX:Hid (Frm (blkT b nb rg) w wx):=HF.out wx hbx
   clear j1 j2 hQX hQY HA HF hbx
   by_cases he:(F (k+1)).r.err=0
   ·have HAG:Hid (Calls Tryz.prog 87 #[.pointer (some ⟨p,0,none⟩),.agg #[.int .i64 QX,.int .i64 QY,.int .i64 h]] wx fun e w'=>e=.returned .nilIface/\PAt w' L p b nb rg Dv dbs s z (F (k+1))/\Frm (blkT b nb rg) wx w'):=HAX.mono (fun e w' hp=>⟨by rw [hp.1,fltV_zero A _ he],hp.2.1 he,hp.2.2⟩)
    rw [hwx] at HAG HFX
    clear HAX he hwx
    go_wp2_with (go_at_call 87;refine HAG.out.mono ?_;rintro e w3 ⟨rfl,h3,f3⟩)
    go_roundw
    case rel=>exact ⟨k+1,by omega,by go_num,h3,HFX.out.trans f3⟩
    case measure=>simp [intOf];omega
   ·obtain ⟨fv,hfv⟩:∃ fv,fv=Value.agg #[.int .i64 (Flm.plc (F (k+1))).1,.int .i64 (Flm.plc (F (k+1))).2.1,.int .i64 (Flm.plc (F (k+1))).2.2,.iface 278 (.pointer (some (A (F (k+1)).r.err.toNat)))]:=⟨_,rfl⟩
    have HAG:Hid (Calls Tryz.prog 87 #[.pointer (some ⟨p,0,none⟩),.agg #[.int .i64 QX,.int .i64 QY,.int .i64 h]] wx fun e w'=>e=.returned (.iface 113 fv)/\Frm (blkT b nb rg) wx w'):=HAX.mono (fun e w' hp=>⟨by rw [hp.1,fltV_pos A _ he,hfv],hp.2.2⟩)
    have HFV:Hid (.iface 113 fv=fltV A (Flm.plc (F (k+1))) (F (k+1)).r.err/\(F (k+1)).r.err ≠ 0):=⟨by rw [fltV_pos A _ he,hfv],he⟩
    rw [hwx] at HAG HFX
    clear HAX he hwx hfv
    go_wp2_with (go_at_call 87;refine HAG.out.mono ?_;rintro e w3 ⟨rfl,f3⟩)
    go_ret
    have hoffs:F 4=F (k+1):=by
     obtain ⟨_,he⟩:=HFV.out
     rcases (by omega:k=0 \/ k=1 \/ k=2 \/ k=3) with rfl|rfl|rfl|rfl
     ·have e2:=HOFF.out 1 he
      have e3:=HOFF.out 2 (by rw [e2];exact he)
      have e4:=HOFF.out 3 (by rw [e3,e2];exact he)
      rw [e4,e3,e2]
     ·have e3:=HOFF.out 2 he
      have e4:=HOFF.out 3 (by rw [e3];exact he)
      rw [e4,e3]
     ·exact HOFF.out 3 he
     ·rfl
    rw [hoffs]
    exact ⟨congrArg Ending.returned HFV.out.1,fun he=>absurd he HFV.out.2,HFX.out.trans f3⟩
  ·have hk4':¬ ((k:Int)<4):=by omega
   have e4:k=4:=by omega
   rw [e4] at j1
   clear e4
   have HE:Hid (PAt wr L p b nb rg Dv dbs s z (F 4)/\Frm (blkT b nb rg) w wr):=⟨j1,j2⟩
   clear j1 j2
   go_wp2_with fail
   go_ret
   exact ⟨by rw [fltV_zero A _ HE.out.1.err];rfl,fun _=>HE.out.1,HE.out.2⟩
noncomputable def Flm.quart (s:ByteArray) (z c x y h:Nat) (g:FS):Nat->FS
 | 0=>g
 | k+1=>Flm.area s z c (qX x h k) (qY y h k) h (Flm.quart s z c x y h g k)
theorem Flm.quart_four (s:ByteArray) (z c x y h:Nat) (g:FS):Flm.quart s z c x y h g 4=Flm.area s z c (x+h) (y+h) h (Flm.area s z c x (y+h) h (Flm.area s z c (x+h) y h (Flm.area s z c x y h g))):=by
 simp [Flm.quart,qX,qY]
theorem Flm.area_zero {s:ByteArray} {z x y n:Nat} {fs:FS} (h:fs.r.err=0):Flm.area s z 0 x y n fs=Flm.block s z x y n { fs with fr:=Flm.now fs,x:=x,y:=y }:=by
 unfold Flm.area
 rw [if_pos h]
theorem Flm.area_bit {s:ByteArray} {z c x y n k:Nat} {fs:FS} (h:fs.r.err=0) (hk:k=if n=16 then 0 else 1):Flm.area s z (c+1) x y n fs=if Rdr.bitV fs.r k=1 then Flm.quart s z c x y (n / 2) { fs with fr:=Flm.now fs,x:=x,y:=y,r:=Rdr.bitS s fs.r k } 4 else if (Rdr.bitS s fs.r k).err=0 then Flm.block s z x y n { fs with fr:=Flm.now fs,x:=x,y:=y,r:=Rdr.bitS s fs.r k } else { fs with fr:=Flm.now fs,x:=x,y:=y,r:=Rdr.bitS s fs.r k }:=by
 rw [Flm.quart_four,hk]
 conv=>lhs;unfold Flm.area
 rw [if_pos h]
theorem blkT_below {w wx:World} {L p b nb rg:Nat} {Dv:Value} {dbs:List Nat} {s:ByteArray} {z:Nat} {fs:FS} (h:PAt w L p b nb rg Dv dbs s z fs) (hLw:L<=w.heap.size) (f:Frm (blkT b nb rg) w wx):Below L w wx :=
 f.below hLw (fun k e=>by rcases e with e|e|e <;> rw [e];exact h.lo.2;exact h.nw.lt.1;exact h.read.lt.1)
theorem pArea_leaf (w:World) (L p b nb rg:Nat) (Dv:Value) (dbs:List Nat) (s:ByteArray) (z:Nat) (fs g1:FS) (A:Nat->Addr) (h:PAt w L p b nb rg Dv dbs s z fs) (hs:s.size<=maxLen) (E:ErrsL w A L) (SG:SoftG w L) (hLw:L<=w.heap.size) (x y n:Nat) (hn:0<n) (hx:x+n<=z) (hy:y+n<=z) (hpl:Flm.plc g1=((Flm.now fs:Int),(x:Int),(y:Int)))
  (hsp:∀ wx,Below w.heap.size w wx->Calls Tryz.prog 119 #[.pointer (some ⟨p,0,none⟩),.agg #[.int .i64 x,.int .i64 y,.int .i64 n]] wx fun e w'=>e=.returned (.tuple #[.bool false,.nilIface])/\PAt w' L p b nb rg Dv dbs s z g1/\Frm (oneS b) wx w') :
  Calls Tryz.prog 87 #[.pointer (some ⟨p,0,none⟩),.agg #[.int .i64 x,.int .i64 y,.int .i64 n]] w (AreaPost A w L p b nb rg Dv dbs s z (Flm.block s z x y n g1)):=by
 have hbl:∀ wx,PAt wx L p b nb rg Dv dbs s z g1->Frm (oneS b) w wx->Calls Tryz.prog 121 #[.pointer (some ⟨p,0,none⟩),.agg #[.int .i64 x,.int .i64 y,.int .i64 n]] wx (BlockPost A wx L p b nb rg Dv dbs s z (Flm.block s z x y n g1)):=fun wx hp f=>by
  have hb:=blkT_below h hLw (frm_one_t f)
  exact pBlock wx L p b nb rg Dv dbs s z g1 A hp hs (E.below hb) (SG.below hb) (by have:=f.size;omega) x y n hn hx hy
 by_cases he:(Flm.block s z x y n g1).r.err=0
 ·refine (pArea_leaf_g w L p b nb rg Dv dbs s z g1 (Flm.block s z x y n g1) x y n h.lt hsp (fun wx hp f=>(hbl wx hp f).mono ?_)).mono ?_
  ·rintro e w' ⟨rfl,h2,f2⟩
   exact ⟨by rw [he];rfl,h2 he,f2⟩
  ·rintro e w' ⟨rfl,h2,f2⟩
   exact ⟨by rw [fltV_zero A _ he],fun _=>h2,f2⟩
 ·obtain ⟨da,dc,hD⟩:=h.row
  refine (pArea_leaf_b w L p b nb rg Dv dbs s z g1 x y n (Flm.now fs) da dc hD (A (Flm.block s z x y n g1).r.err.toNat) h.lt hsp (fun wx hp f=>(hbl wx hp f).mono ?_)).mono ?_
  ·rintro e w' ⟨rfl,_,f2⟩
   exact ⟨by rw [errA_pos A he],f2⟩
  ·rintro e w' ⟨rfl,f2⟩
   refine ⟨?_,fun h0=>absurd h0 he,f2⟩
   rw [fltV_pos A _ he,Flm.plc_block,hpl]
theorem pArea (A:Nat->Addr) (s:ByteArray) (z:Nat) (L p b nb rg:Nat) (Dv:Value) (dbs:List Nat) (hs:s.size<=maxLen):∀ (c:Nat),c<=2->∀ (w:World) (fs:FS),PAt w L p b nb rg Dv dbs s z fs->ErrsL w A L->SoftG w L->L<=w.heap.size->∀ (x y n:Nat),n=4*2 ^ c->x+n<=z->y+n<=z ->
  Calls Tryz.prog 87 #[.pointer (some ⟨p,0,none⟩),.agg #[.int .i64 x,.int .i64 y,.int .i64 n]] w (AreaPost A w L p b nb rg Dv dbs s z (Flm.area s z c x y n fs))
 | 0,_,w,fs,h,E,SG,hLw,x,y,n,hn,hx,hy=>by
  obtain rfl:n=4:=hn
  rw [Flm.area_zero h.err]
  refine pArea_leaf w L p b nb rg Dv dbs s z fs _ A h hs E SG hLw x y 4 (by decide) hx hy rfl (fun wx hb=>(pSplit4 wx p x y).mono ?_)
  rintro e w' ⟨rfl,b2⟩
  exact ⟨rfl,((h.place _ _ _).below hb).below b2,Frm.of_below b2⟩
 | c+1,hc,w,fs,h,E,SG,hLw,x,y,n,hn,hx,hy=>by
  obtain ⟨hf,hhf⟩:∃ hf,hf=4*2 ^ c:=⟨_,rfl⟩
  have hn2:n=2*hf:=by rw [hn,hhf,Nat.pow_succ];omega
  have h8:hf<=8:=by rw [hhf];rcases (by omega:c=0 \/ c=1) with rfl|rfl <;> decide
  have h4:4<=hf:=by rw [hhf];have:=Nat.one_le_two_pow (n:=c);omega
  have hz16:=h.z16
  obtain ⟨k,hk⟩:∃ k:Nat,k=if n=16 then 0 else 1:=⟨_,rfl⟩
  have HS:=fun wx (hb:Below w.heap.size w wx)=>pSplit wx L p b nb rg Dv dbs s z fs A (h.below hb) hs (E.below (hb.mono hLw)) (by have:=hb.size;omega) x y n k (by omega) hk
  rw [Flm.area_bit h.err hk]
  by_cases e1:(Rdr.bitS s fs.r k).err=0
  ·rcases Rdr.bitV_cases fs.r k with hv|hv
   ·rw [if_neg (by rw [hv];decide),if_pos e1]
    refine pArea_leaf w L p b nb rg Dv dbs s z fs _ A h hs E SG hLw x y n (by omega) hx hy rfl (fun wx hb=>(HS wx hb).mono ?_)
    rintro e w' ⟨⟨h1,_⟩,hg,f⟩
    refine ⟨?_,(hg e1).place _ _ _,f⟩
    rw [h1 e1,hv];rfl
   ·rw [if_pos hv,show n / 2=hf by omega]
    refine pArea_node w L p b nb rg Dv dbs s z A x y n hf (by omega) (by omega) hn2 h8 h.up.2 (Flm.quart s z c x y hf _) (fun k he=>Flm.area_err he) (fun wx hb=>(HS wx hb).mono ?_) (fun j hj wx hp f=>?_)
    ·rintro e w' ⟨⟨h1,_⟩,hg,f⟩
     refine ⟨?_,(hg e1).place _ _ _,f⟩
     rw [h1 e1,hv];rfl
    ·have hb:=blkT_below h hLw f
     have q1:qX x hf j+hf<=z:=by unfold qX;split <;> omega
     have q2:qY y hf j+hf<=z:=by unfold qY;split <;> omega
     exact pArea A s z L p b nb rg Dv dbs hs c (by omega) wx _ hp (E.below hb) (SG.below hb) (by have:=f.size;omega) _ _ hf hhf q1 q2
  ·obtain ⟨da,dc,hD⟩:=h.row
   have hres:(if Rdr.bitV fs.r k=1 then Flm.quart s z c x y (n / 2) { fs with fr:=Flm.now fs,x:=x,y:=y,r:=Rdr.bitS s fs.r k } 4 else if (Rdr.bitS s fs.r k).err=0 then Flm.block s z x y n { fs with fr:=Flm.now fs,x:=x,y:=y,r:=Rdr.bitS s fs.r k } else { fs with fr:=Flm.now fs,x:=x,y:=y,r:=Rdr.bitS s fs.r k })={ fs with fr:=Flm.now fs,x:=x,y:=y,r:=Rdr.bitS s fs.r k }:=by
    split
    ·rw [Flm.quart_four,Flm.area_err (fs:={ fs with fr:=Flm.now fs,x:=x,y:=y,r:=Rdr.bitS s fs.r k }) e1,Flm.area_err (fs:={ fs with fr:=Flm.now fs,x:=x,y:=y,r:=Rdr.bitS s fs.r k }) e1,Flm.area_err (fs:={ fs with fr:=Flm.now fs,x:=x,y:=y,r:=Rdr.bitS s fs.r k }) e1,Flm.area_err (fs:={ fs with fr:=Flm.now fs,x:=x,y:=y,r:=Rdr.bitS s fs.r k }) e1]
    ·rfl
   rw [hres]
   refine (pArea_bad w p b x y n (Flm.now fs) da dc (A (Rdr.bitS s fs.r k).err.toNat) h.up.1 h.up.2 h.nes.1.1 (hD ▸ h.c2) (fun wx hb=>(HS wx hb).mono ?_)).mono ?_
   ·rintro e w' ⟨⟨_,h1⟩,_,f⟩
    exact ⟨h1 e1,f⟩
   ·rintro e w' ⟨rfl,f⟩
    refine ⟨?_,fun h0=>absurd h0 e1,frm_one_t f⟩
    rw [fltV_pos A _ e1]
    rfl
end
section
open Go.RowKit
open Flm (Px FS)
set_option maxRecDepth 20000 in
theorem pNewPicture (w:World) (L z Z:Nat) (hL:L<=w.heap.size) (hz:z<=16) (hZ:Z=z*z) :
  Calls Tryz.prog 86 #[.int .i64 z] w fun e w'=>e=.returned (.agg #[.int .i64 z,.slice (some ⟨w.heap.size+1,0,none⟩) Z Z])/\Pixs w' L (w.heap.size+1) Z (List.replicate Z (0,0,0))/\Below w.heap.size w w':=by
 have hZ16:Z<=256:=by rw [hZ];exact Nat.mul_le_mul hz hz
 have hmk:=makePx Z (by omega)
 have hw0:(z:Int)*(z:Int)=(Z:Int):=by rw [hZ,Int.natCast_mul]
 have hw1:IntKind.i64.wrap ((z:Int)*(z:Int))=(Z:Int):=by rw [IntKind.wrap_i64];omega
 clear hZ
 go_enter Tryz.func86,Tryz.ntmps86
 go_wp2
 refine bodyPost_ret (v:=.agg #[.int .i64 z,.slice (some ⟨w.heap.size+1,0,none⟩) Z Z]) (by simp [results,Tryz.results86,go_sem]) rfl ?_
 refine ⟨rfl,?_,((Below.refl _ _).alloc (Nat.le_refl _) _).alloc (by simp) _⟩
 have:=made_pixs (w.alloc (.cells #[.int .i64 z,.slice (some ⟨w.heap.size+1,0,none⟩) Z Z] 89)) L Z (by simp;omega) (by omega)
 rw [World.size_alloc] at this
 exact this
structure PL (w:World) (L p b:Nat) (Dv:Value) (dbs:List Nat) (s:ByteArray) (z:Nat) (q:FS):Prop where
 pr:PR w b s q.r
 ok:Rdr.Ok s q.r
 err:q.r.err=0
 c0:w.cell? ⟨p,0,none⟩=some (.pointer (some ⟨b,0,none⟩))
 c1:w.cell? ⟨p,1,none⟩=some (.int .i64 z)
 c2:w.cell? ⟨p,2,none⟩=some Dv
 k3:∃ v,w.cell? ⟨p,3,none⟩=some v
 k4:∃ v,w.cell? ⟨p,4,none⟩=some v
 k5:∃ v,w.cell? ⟨p,5,none⟩=some v
 fz:∀ o,w.frozen? ⟨p,o,none⟩=false
 rows:w.ownsRow L 58 1 Dv q.frs.length (rowVals (z*z) dbs)
 dn:∀ i,i<q.frs.length->Pixs w L (dbs.getD i 0) (z*z) (q.frs.getD i [])
 n1:dbs.length=q.frs.length
 zz:z=4 \/ z=8 \/ z=16
 ne:(p :: b :: dbs).Nodup
 nd:∀ k,Dv.ownBlock=some k->k ≠ p/\k ≠ b/\k ∉ dbs
 px:∀ i k,Flm.okPx (Flm.px q i k)
 lo:L<=p/\L<=b
 up:p<w.heap.size/\b<w.heap.size
theorem PL.z16 {w:World} {L p b:Nat} {Dv:Value} {dbs:List Nat} {s:ByteArray} {z:Nat} {q:FS} (h:PL w L p b Dv dbs s z q):z<=16:=by rcases h.zz with e|e|e <;> omega
theorem PL.nes {w:World} {L p b:Nat} {Dv:Value} {dbs:List Nat} {s:ByteArray} {z:Nat} {q:FS} (h:PL w L p b Dv dbs s z q):(p ≠ b/\p ∉ dbs)/\b ∉ dbs/\dbs.Nodup:=by
 have:=h.ne
 simp only [List.nodup_cons,List.mem_cons,not_or] at this
 exact this
theorem PL.db_mem {w:World} {L p b:Nat} {Dv:Value} {dbs:List Nat} {s:ByteArray} {z:Nat} {q:FS} (h:PL w L p b Dv dbs s z q) {i:Nat} (hi:i<q.frs.length):dbs.getD i 0 ∈ dbs:=by
 have:=h.n1
 rw [List.getD_eq_getElem?_getD,List.getElem?_eq_getElem (by omega)]
 exact List.getElem_mem _
theorem PL.db_lt {w:World} {L p b:Nat} {Dv:Value} {dbs:List Nat} {s:ByteArray} {z:Nat} {q:FS} (h:PL w L p b Dv dbs s z q):∀ k,k ∈ dbs->k<w.heap.size:=fun k hk=>by
 obtain ⟨i,hi,rfl⟩:=List.getElem_of_mem hk
 have:=(h.dn i (by rw [<- h.n1];exact hi)).lt.2
 rw [List.getD_eq_getElem?_getD,List.getElem?_eq_getElem hi] at this
 exact this
def Flm.begin (z:Nat) (q:FS):FS:={ Flm.more z q with rd:=List.replicate (z*z) false }
theorem PL.toAt {w w5:World} {L p b nb rg:Nat} {Dv:Value} {dbs:List Nat} {s:ByteArray} {z:Nat} {q:FS} (h:PL w L p b Dv dbs s z q) (h8:q.frs.length<8) (f:Frm (fun k=>k=p) w w5)
  (d0:w5.cell? ⟨p,0,none⟩=some (.pointer (some ⟨b,0,none⟩))) (d1:w5.cell? ⟨p,1,none⟩=some (.int .i64 z)) (d2:w5.cell? ⟨p,2,none⟩=some Dv) (d3:w5.cell? ⟨p,3,none⟩=some (.int .i64 z)) (d4:w5.cell? ⟨p,4,none⟩=some (.slice (some ⟨nb,0,none⟩) (z*z) (z*z))) (d5:w5.cell? ⟨p,5,none⟩=some (.slice (some ⟨rg,0,none⟩) (z*z) (z*z)))
  (fz5:∀ o,w5.frozen? ⟨p,o,none⟩=false) (hnb:Pixs w5 L nb (z*z) (List.replicate (z*z) (0,0,0))) (hrg:Bools w5 L rg (z*z) (List.replicate (z*z) false)) (hn1:w.heap.size<=nb) (hr1:w.heap.size<=rg) (hne:rg ≠ nb):PAt w5 L p b nb rg Dv dbs s z (Flm.begin z q):=by
 obtain ⟨⟨n1,n2⟩,n3,n4⟩:=h.nes
 have hl:(Flm.begin z q).frs.length=q.frs.length+1:=by unfold Flm.begin Flm.more;simp
 have hnow:Flm.now (Flm.begin z q)=q.frs.length:=by unfold Flm.now;rw [hl];rfl
 have hup:=h.up
 have hdl:=h.db_lt
 refine ⟨h.pr.on (f.block b h.up.2 (fun e=>n1 e.symm)),h.ok,h.err,d0,d1,d2,d3,d4,d5,fz5,?_,?_,?_,hrg,h.n1.trans hnow.symm,⟨by omega,by omega⟩,h.zz,?_,?_,?_,h.lo,⟨Nat.lt_of_lt_of_le h.up.1 f.size,Nat.lt_of_lt_of_le h.up.2 f.size⟩⟩
 ·rw [hnow];exact f.owns h.rows (fun k e=>(h.nd k e).1)
 ·intro i hi
  rw [hnow] at hi
  rw [show (Flm.begin z q).frs.getD i []=q.frs.getD i [] by unfold Flm.begin Flm.more;exact getD_snoc_lt _ _ _ i hi]
  exact f.pixs (h.dn i hi) (fun e=>n2 (e ▸ h.db_mem hi))
 ·rw [hnow,show (Flm.begin z q).frs.getD q.frs.length []=List.replicate (z*z) (0,0,0) by unfold Flm.begin Flm.more;exact getD_snoc_eq _ _ _]
  exact hnb
 ·simp only [List.nodup_cons,List.mem_cons,not_or]
  exact ⟨⟨n1,by omega,by omega,n2⟩,⟨by omega,by omega,n3⟩,⟨hne,fun hm=>by have:=hdl rg hm;omega⟩,fun hm=>by have:=hdl nb hm;omega,n4⟩
 ·intro k hk
  obtain ⟨a1,a2,a3⟩:=h.nd k hk
  have:=(World.ownsRow.lt h.rows k hk).2
  exact ⟨a1,a2,by omega,by omega,a3⟩
 ·intro i k
  show Flm.okPx (Flm.px (Flm.more z q) i k)
  unfold Flm.px Flm.more
  by_cases hi:i<q.frs.length
  ·rw [getD_snoc_lt _ _ _ i hi];exact h.px i k
  ·by_cases he:i=q.frs.length
   ·subst he
    rw [getD_snoc_eq]
    rw [List.getD_eq_getElem?_getD,List.getElem?_replicate]
    split <;> simp [Flm.okPx]
   ·rw [List.getD_eq_getElem?_getD (l:=q.frs++_),List.getElem?_eq_none (by simp;omega)]
    simp [Flm.okPx]
theorem PAt.toL {w w5:World} {L p b nb rg:Nat} {Dv:Value} {dbs:List Nat} {s:ByteArray} {z:Nat} {fs:FS} (h:PAt w L p b nb rg Dv dbs s z fs) {gg cap:Nat}
  (ho:w5.ownsRow L 58 1 (.slice (some ⟨gg,0,none⟩) (Flm.now fs+1) cap) (Flm.now fs+1) (rowVals (z*z) dbs++[.slice (some ⟨nb,0,none⟩) (z*z) (z*z)]))
  (f:Frm (fun k=>Dv.ownBlock=some k) w w5) (hat:Dv.ownBlock=some gg \/ w.heap.size<=gg) :
  PL (w5.setCell ⟨p,2,none⟩ (.slice (some ⟨gg,0,none⟩) (Flm.now fs+1) cap)) L p b (.slice (some ⟨gg,0,none⟩) (Flm.now fs+1) cap) (dbs++[nb]) s z fs:=by
 obtain ⟨⟨n1,n2,n3,n4⟩,⟨n5,n6,n7⟩,⟨n8,n9⟩,n10,n11⟩:=h.nes
 have hup:=h.up
 have hdl:∀ k,k ∈ dbs->k<w.heap.size:=fun k hk=>h.lt k (.inr (.inr (.inr (.inr (.inl hk)))))
 have hl:fs.frs.length=Flm.now fs+1:=by have:=h.n2;unfold Flm.now;omega
 have hp5:w5.heap[p]?=w.heap[p]?:=f.block p hup.1 (fun e=>(h.nd p e).1 rfl)
 have fp:Frm (fun k=>k=p) w5 (w5.setCell ⟨p,2,none⟩ (.slice (some ⟨gg,0,none⟩) (Flm.now fs+1) cap)):=Frm.setCell (p:=⟨p,2,none⟩) (Frm.refl (fun k=>k=p) w5) (.inl rfl) _
 have f6:Frm (fun k=>k=p \/ Dv.ownBlock=some k) w (w5.setCell ⟨p,2,none⟩ (.slice (some ⟨gg,0,none⟩) (Flm.now fs+1) cap)):=(f.mono (fun k _ e=>.inr e)).trans (fp.mono (fun k _ e=>.inl e))
 have C:∀ o,o ≠ 2->(w5.setCell ⟨p,2,none⟩ (.slice (some ⟨gg,0,none⟩) (Flm.now fs+1) cap)).cell? ⟨p,o,none⟩=w.cell? ⟨p,o,none⟩:=fun o ho=>by
  rw [World.cell?_setCell_other]
  ·exact World.cell?_of_block (a:=⟨p,o,none⟩) hp5
  ·intro e;simp only [Addr.mk.injEq,and_true,true_and] at e;exact ho e.symm
 have hgg:gg ≠ p:=by
  rcases hat with e|e
  ·exact (h.nd gg e).1
  ·omega
 refine ⟨h.pr.on (f6.block b hup.2 ?_),h.ok,h.err,(C 0 (by decide)).trans h.c0,(C 1 (by decide)).trans h.c1,?_,⟨_,(C 3 (by decide)).trans h.c3⟩,⟨_,(C 4 (by decide)).trans h.c4⟩,⟨_,(C 5 (by decide)).trans h.c5⟩,?_,?_,?_,?_,h.zz,?_,?_,h.px,h.lo,⟨Nat.lt_of_lt_of_le hup.1 f6.size,Nat.lt_of_lt_of_le hup.2 f6.size⟩⟩
 ·rintro (e|e)
  ·exact n1 e.symm
  ·exact (h.nd b e).2.1 rfl
 ·exact World.cell?_setCell_same' _ _ _ (by rw [World.cell?_of_block (a:=⟨p,2,none⟩) hp5,h.c2];rfl)
 ·intro o
  rw [World.frozen?_setCell]
  exact (World.frozen?_of_block (a:=⟨p,o,none⟩) hp5).trans (h.fz o)
 ·rw [hl,show rowVals (z*z) (dbs++[nb])=rowVals (z*z) dbs++[.slice (some ⟨nb,0,none⟩) (z*z) (z*z)] by unfold rowVals;simp]
  exact ho.kept (grown_setCell w5 p 2 _) (.inr (by simp [Value.ownBlock];exact hgg))
 ·intro i hi
  rw [hl] at hi
  by_cases he:i=Flm.now fs
  ·subst he
   rw [show (dbs++[nb]).getD (Flm.now fs) 0=nb by rw [<- h.n1];exact getD_snoc_eq _ _ _]
   refine f6.pixs h.nw ?_
   rintro (e|e)
   ·exact n3 e.symm
   ·exact (h.nd _ e).2.2.2.1 rfl
  ·rw [getD_snoc_lt dbs _ _ i (by rw [h.n1];omega)]
   refine f6.pixs (h.dn i (by omega)) ?_
   rintro (e|e)
   ·exact n4 (e ▸ h.db_mem (by omega))
   ·exact (h.nd _ e).2.2.2.2 (h.db_mem (by omega))
 ·rw [List.length_append,h.n1,hl];rfl
 ·simp only [List.nodup_cons,List.mem_cons,not_or,List.mem_append,List.not_mem_nil,or_false]
  refine ⟨⟨n1,n4,n3⟩,⟨n7,n6⟩,?_⟩
  rw [List.nodup_append]
  refine ⟨n11,by simp,fun a ha c hc=>?_⟩
  simp only [List.mem_cons,List.not_mem_nil,or_false] at hc
  rintro rfl
  exact n10 (hc ▸ ha)
 ·intro k hk
  obtain rfl:gg=k:=by simpa [Value.ownBlock] using hk
  simp only [List.mem_append,List.mem_cons,List.not_mem_nil,or_false,not_or]
  rcases hat with e|e
  ·obtain ⟨a1,a2,a3,a4,a5⟩:=h.nd gg e
   exact ⟨a1,a2,a5,a4⟩
  ·have:=h.nw.lt.2
   exact ⟨by omega,by omega,fun hm=>by have:=hdl gg hm;omega,by omega⟩
end
end Go.Proofs.YtekfbphnoibnjaaGreatDoor
