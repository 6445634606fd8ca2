/-
  PStill PChoice PFewM PSoftM
-/
import Derived.Test.YtekfbphnoibnjaaGreatDoorF28
set_option maxHeartbeats 4000000
namespace Go.Proofs.YtekfbphnoibnjaaGreatDoor
section
open Go.RowKit
open Flm (Px FS)
theorem PAt.row {w:World} {L p b nb rg:Nat} {Dv:Value} {dbs:List Nat} {s:ByteArray} {z:Nat} {fs:FS} (h:PAt w L p b nb rg Dv dbs s z fs):∃ a c,Dv=.slice a (Flm.now fs) c:=by
 obtain ⟨a,c,e,_⟩:=owns_form h.rows
 exact ⟨a,c,e⟩
set_option maxRecDepth 20000 in
theorem pStill0 (w:World) (L p b nb rg:Nat) (Dv:Value) (dbs:List Nat) (s:ByteArray) (z:Nat) (fs:FS) (A:Nat->Addr) (h:PAt w L p b nb rg Dv dbs s z fs) (E:ErrsL w A L) (hLw:L<=w.heap.size) (x y n:Nat) (h0:Flm.now fs=0) :
  Calls Tryz.prog 150 #[.pointer (some ⟨p,0,none⟩),.agg #[.int .i64 x,.int .i64 y,.int .i64 n]] w fun e w'=>e=.returned (.iface 278 (.pointer (some (A 10))))/\Frm (blkS b nb) w w':=by
 obtain ⟨da,dc,hD⟩:=h.row
 obtain ⟨W1,hW1⟩:∃ W1,W1=w.alloc (.cells #[.int .i64 x,.int .i64 y,.int .i64 n] 100):=⟨_,rfl⟩
 have hB1:Below w.heap.size w W1:=by rw [hW1];exact (Below.refl _ w).alloc (Nat.le_refl _) _
 have c2:=(h.below hB1).c2
 rw [hD,h0] at c2
 have k10:=((E.below (hB1.mono hLw)).v (10,2) (by decide)).2
 have HF:Hid (Frm (blkS b nb) w W1):=Frm.of_below hB1
 have HW1:Hid (W1=w.alloc (.cells #[.int .i64 x,.int .i64 y,.int .i64 n] 100)):=hW1
 clear h E hW1 hB1 hD h0
 go_enter Tryz.func150,Tryz.ntmps150
 go_wp2_with (rw [<- HW1.out])
 go_ret
 exact ⟨rfl,HF.out⟩
set_option maxRecDepth 20000 in
theorem pStill_bad (w:World) (L p b nb rg:Nat) (Dv:Value) (dbs:List Nat) (s:ByteArray) (z:Nat) (fs:FS) (h:PAt w L p b nb rg Dv dbs s z fs) (x y n:Nat) (h0:Flm.now fs ≠ 0) (ea:Addr)
  (hsrc:∀ wx,Below w.heap.size w wx->Calls Tryz.prog 170 #[.pointer (some ⟨p,0,none⟩),.agg #[.int .i64 x,.int .i64 y,.int .i64 n],.int .i64 310,.int .i64 334] wx fun e w'=>e=.returned (.tuple #[.agg #[.int .i64 0,.int .i64 0,.int .i64 0],.iface 278 (.pointer (some ea))])/\Frm (oneS b) wx w') :
  Calls Tryz.prog 150 #[.pointer (some ⟨p,0,none⟩),.agg #[.int .i64 x,.int .i64 y,.int .i64 n]] w fun e w'=>e=.returned (.iface 278 (.pointer (some ea)))/\Frm (blkS b nb) w w':=by
 obtain ⟨da,dc,hD⟩:=h.row
 obtain ⟨N,hN⟩:∃ N,Flm.now fs=N+1:=⟨Flm.now fs-1,by omega⟩
 obtain ⟨W1,hW1⟩:∃ W1,W1=w.alloc (.cells #[.int .i64 x,.int .i64 y,.int .i64 n] 100):=⟨_,rfl⟩
 have hB1:Below w.heap.size w W1:=by rw [hW1];exact (Below.refl _ w).alloc (Nat.le_refl _) _
 have c2:=(h.below hB1).c2
 rw [hD,hN] at c2
 have hrow:W1.heap[w.heap.size]?=some (.cells #[.int .i64 x,.int .i64 y,.int .i64 n] 100 (0,0)):=by rw [hW1];exact heap_alloc_last w _
 have k10:=cell_of_row _ _ 0 _ _ _ hrow
 have k11:=cell_of_row _ _ 1 _ _ _ hrow
 have k12:=cell_of_row _ _ 2 _ _ _ hrow
 simp at k10 k11 k12
 have HS:Hid (Calls Tryz.prog 170 #[.pointer (some ⟨p,0,none⟩),.agg #[.int .i64 x,.int .i64 y,.int .i64 n],.int .i64 310,.int .i64 334] W1 fun e w'=>e=.returned (.tuple #[.agg #[.int .i64 0,.int .i64 0,.int .i64 0],.iface 278 (.pointer (some ea))])/\Frm (oneS b) W1 w'):=hsrc W1 hB1
 have HF:Hid (Frm (oneS b) w W1):=Frm.of_below hB1
 have HW1:Hid (W1=w.alloc (.cells #[.int .i64 x,.int .i64 y,.int .i64 n] 100)):=hW1
 have hn0:¬ ((N:Int)+1=0):=by omega
 clear h hW1 hB1 hD hN h0 hsrc
 go_enter Tryz.func150,Tryz.ntmps150
 go_wp2_with (first|(rw [<- HW1.out])|(go_at_call 170;refine HS.out.mono ?_;rintro e w1 ⟨rfl,f1⟩))
 go_ret
 exact ⟨rfl,frm_one_blk ((HF.out.trans f1).alloc _)⟩
set_option maxRecDepth 100000 in
theorem pStill_in (w:World) (L p b nb rg:Nat) (Dv:Value) (dbs:List Nat) (s:ByteArray) (z:Nat) (fs:FS) (h:PAt w L p b nb rg Dv dbs s z fs) (x y n:Nat) (h0:Flm.now fs ≠ 0) (fs1:FS) (u v:Nat) (hu:u+n<=z) (hv:v+n<=z) (hx:x+n<=z) (hy:y+n<=z) (hfs:Flm.now fs1=Flm.now fs)
  (hsrc:∀ wx,Below w.heap.size w wx->Calls Tryz.prog 170 #[.pointer (some ⟨p,0,none⟩),.agg #[.int .i64 x,.int .i64 y,.int .i64 n],.int .i64 310,.int .i64 334] wx fun e w'=>e=.returned (.tuple #[.agg #[.int .i64 u,.int .i64 v,.int .i64 n],.nilIface])/\PAt w' L p b nb rg Dv dbs s z fs1/\Frm (oneS b) wx w') :
  Calls Tryz.prog 150 #[.pointer (some ⟨p,0,none⟩),.agg #[.int .i64 x,.int .i64 y,.int .i64 n]] w fun e w'=>e=.returned .nilIface/\PAt w' L p b nb rg Dv dbs s z (Flm.moves z (Flm.now fs1-1) ((u:Int)-x) ((v:Int)-y) (Flm.spots x y n) fs1)/\Frm (blkS b nb) w w':=by
 obtain ⟨N,hN⟩:∃ N,Flm.now fs=N+1:=⟨Flm.now fs-1,by omega⟩
 obtain ⟨dv,dc,hD⟩:∃ dv dc,Dv=.slice (some ⟨dv,0,none⟩) (N+1) dc:=by
  have:=h.rows
  rw [hN] at this
  obtain ⟨g,c,e⟩:=owns_succ this
  exact ⟨g,c,e⟩
 obtain ⟨Z,hZ⟩:∃ Z,Z=z*z:=⟨_,rfl⟩
 have hN1:Flm.now fs1=N+1:=by rw [hfs];exact hN
 obtain ⟨sb,hsb⟩:∃ sb,sb=dbs.getD N 0:=⟨_,rfl⟩
 obtain ⟨H,hH⟩:∃ H,H=w.heap.size:=⟨_,rfl⟩
 obtain ⟨W1,hW1⟩:∃ W1,W1=w.alloc (.cells #[.int .i64 x,.int .i64 y,.int .i64 n] 100):=⟨_,rfl⟩
 have hB1:Below w.heap.size w W1:=by rw [hW1];exact (Below.refl _ w).alloc (Nat.le_refl _) _
 have c2:=(h.below hB1).c2
 rw [hD] at c2
 have hs1:W1.heap.size=H+1:=by rw [hW1,hH];simp
 have hrow:W1.heap[H]?=some (.cells #[.int .i64 x,.int .i64 y,.int .i64 n] 100 (0,0)):=by rw [hW1,hH];exact heap_alloc_last w _
 have k10:=cell_of_row _ _ 0 _ _ _ hrow
 have k11:=cell_of_row _ _ 1 _ _ _ hrow
 have k12:=cell_of_row _ _ 2 _ _ _ hrow
 simp at k10 k11 k12
 have HS:Hid (Calls Tryz.prog 170 #[.pointer (some ⟨p,0,none⟩),.agg #[.int .i64 x,.int .i64 y,.int .i64 n],.int .i64 310,.int .i64 334] W1 fun e w'=>e=.returned (.tuple #[.agg #[.int .i64 u,.int .i64 v,.int .i64 n],.nilIface])/\PAt w' L p b nb rg Dv dbs s z fs1/\Frm (oneS b) W1 w'):=hsrc W1 hB1
 have hlt:∀ k,paB p b nb rg Dv dbs k->k<H:=by rw [hH];exact h.lt
 have hbH:b<H:=hlt b (.inr (.inl rfl))
 have hnbH:nb<H:=hlt nb (.inr (.inr (.inr (.inl rfl))))
 have hpH:p<H:=hlt p (.inl rfl)
 have hdvH:dv<H:=hlt dv (.inr (.inr (.inr (.inr (.inr (by rw [hD];rfl))))))
 have hdvnb:¬ dv=nb:=(h.nd dv (by rw [hD];rfl)).2.2.2.1
 have hpnb:¬ p=nb:=h.nes.1.2.2.1
 have hmx:Tryz.prog.follows .mixedOrders=true:=by kernel_rfl
 have HF:Hid (Frm (oneS b) w W1):=Frm.of_below hB1
 have HW1:Hid (W1=w.alloc (.cells #[.int .i64 x,.int .i64 y,.int .i64 n] 100)):=hW1
 have HROW:Hid (W1.heap[H]?=some (.cells #[.int .i64 x,.int .i64 y,.int .i64 n] 100 (0,0))):=hrow
 have HH:Hid (H=w.heap.size):=hH
 have HZ:Hid (Z=z*z):=hZ
 have HNW:Hid (∀ w' fs',PAt w' L p b nb rg Dv dbs s z fs'->Pixs w' L sb (z*z) (fs'.frs.getD N [])):=fun w' fs' h'=>by
  have:=h'.dn N (by rw [<- h'.n1,h.n1];omega)
  rw [hsb];exact this
 have HDV:Hid (∀ w',PAt w' L p b nb rg Dv dbs s z fs1->w'.cell? ⟨p,1,none⟩=some (.int .i64 z)/\w'.cell? ⟨p,2,none⟩=some (.slice (some ⟨dv,0,none⟩) (N+1) dc)/\w'.cell? ⟨dv,N,none⟩=some (.slice (some ⟨sb,0,none⟩) Z Z)):=fun w' h'=>by
  refine ⟨h'.c1,hD ▸ h'.c2,?_⟩
  have hr:=h'.rows
  rw [hD,hN1] at hr
  have hl:dbs.length=N+1:=by rw [h'.n1,hN1]
  have:=World.ownsRow.cellAt hr N (by omega)
  rw [this,hZ,hsb]
  unfold rowVals
  simp [List.getD_eq_getElem?_getD,hl]
 have hN8:N<=8:=by have:=h.n2.2;unfold Flm.now at hN;omega
 have hn0:¬ ((N:Int)+1=0):=by omega
 have hN1':Flm.now fs1-1=N:=by omega
 rw [hN1']
 clear h hW1 hB1 hD hN h0 hsrc hlt hZ hH hrow hN1 hN1' hsb
 go_enter Tryz.func150,Tryz.ntmps150
 go_wp2_with (first
  | (rw [<- HW1.out,<- HH.out])
  | (go_at_call 170;refine HS.out.mono ?_;rintro e w1 ⟨rfl,h1,f1⟩;obtain ⟨G,hG⟩:∃ G,G=w1.heap.size:=⟨_,rfl⟩;have HG:Hid (G=w1.heap.size):=hG;clear hG))
 clear k10 k11 k12 c2
 obtain ⟨W4,hW4⟩:∃ W4,W4=w1.alloc (.cells #[.int .i64 u,.int .i64 v,.int .i64 n] 100):=⟨_,rfl⟩
 have hB4:Below w1.heap.size w1 W4:=by rw [hW4];exact (Below.refl _ w1).alloc (Nat.le_refl _) _
 have hg4:W4.heap[G]?=some (.cells #[.int .i64 u,.int .i64 v,.int .i64 n] 100 (0,0)):=by rw [hW4,HG.out];exact heap_alloc_last w1 _
 have hGH:H+1<=G:=by rw [HG.out];have:=f1.size;omega
 have hrow4:W4.heap[H]?=some (.cells #[.int .i64 x,.int .i64 y,.int .i64 n] 100 (0,0)):=(hB4.block _ (by have:=f1.size;omega)).trans ((f1.block _ (heap_lt HROW.out) (by show ¬ H=b;omega)).trans HROW.out)
 have h4:=h1.below hB4
 obtain ⟨d1,d2,dN⟩:=HDV.out W4 h4
 have k10:=cell_of_row _ _ 0 _ _ _ hrow4
 have k11:=cell_of_row _ _ 1 _ _ _ hrow4
 have k12:=cell_of_row _ _ 2 _ _ _ hrow4
 have k20:=cell_of_row _ _ 0 _ _ _ hg4
 have k21:=cell_of_row _ _ 1 _ _ _ hg4
 have k22:=cell_of_row _ _ 2 _ _ _ hg4
 simp at k10 k11 k12 k20 k21 k22
 have HTK:Hid (∀ wx,Below W4.heap.size W4 wx->Calls Tryz.prog 171 #[.pointer (some ⟨p,0,none⟩),.agg #[.int .i64 x,.int .i64 y,.int .i64 n],.agg #[.int .i64 z,.slice (some ⟨sb,0,none⟩) Z Z],.agg #[.int .i64 u,.int .i64 v,.int .i64 n]] wx fun e w'=>e=.returned (.tuple #[])/\PAt w' L p b nb rg Dv dbs s z (Flm.moves z N ((u:Int)-x) ((v:Int)-y) (Flm.spots x y n) fs1)/\Frm (fun k=>k=nb) wx w'):=fun wx hb=>by
  have:=pTakeF wx L p b nb rg sb N Dv dbs s z fs1 (h4.below hb) x y n u v hx hy hu hv HNW.out
  rw [HZ.out]
  exact this
 have HF4:Hid (Frm (oneS b) w W4):=(HF.out.trans f1).trans (Frm.of_below hB4)
 rw [<- HG.out,<- hW4]
 have hwN:IntKind.i64.wrap (N:Int)=(N:Int):=by rw [IntKind.wrap_i64];omega
 have hNlt:(N:Int)<(N:Int)+1:=by omega
 clear hW4 hB4 hg4 hrow4 h1 f1 h4
 refine region_calm (S:=fun w'=>w'.cell? ⟨H,0,none⟩=some (.int .i64 x)/\w'.cell? ⟨H,1,none⟩=some (.int .i64 y)/\w'.cell? ⟨H,2,none⟩=some (.int .i64 n)/\w'.cell? ⟨p,1,none⟩=some (.int .i64 z)/\w'.cell? ⟨p,2,none⟩=some (.slice (some ⟨dv,0,none⟩) (N+1) dc)/\w'.cell? ⟨dv,N,none⟩=some (.slice (some ⟨sb,0,none⟩) Z Z)/\w'.cell? ⟨G,0,none⟩=some (.int .i64 u)/\w'.cell? ⟨G,1,none⟩=some (.int .i64 v)/\w'.cell? ⟨G,2,none⟩=some (.int .i64 n)) 21 #[false,false,false,false,false,false,false,false,false,false,false,false,false,false,false,false,false,false,false,false,false] rfl rfl hmx ?_
 have hS0:(W4.drew.cell? ⟨H,0,none⟩=some (.int .i64 x)/\W4.drew.cell? ⟨H,1,none⟩=some (.int .i64 y)/\W4.drew.cell? ⟨H,2,none⟩=some (.int .i64 n)/\W4.drew.cell? ⟨p,1,none⟩=some (.int .i64 z)/\W4.drew.cell? ⟨p,2,none⟩=some (.slice (some ⟨dv,0,none⟩) (N+1) dc)/\W4.drew.cell? ⟨dv,N,none⟩=some (.slice (some ⟨sb,0,none⟩) Z Z)/\W4.drew.cell? ⟨G,0,none⟩=some (.int .i64 u)/\W4.drew.cell? ⟨G,1,none⟩=some (.int .i64 v)/\W4.drew.cell? ⟨G,2,none⟩=some (.int .i64 n)):=⟨k10,k11,k12,d1,d2,dN,k20,k21,k22⟩
 refine tk_at 0 23 (.pointer (some ⟨p,0,none⟩)) #[true,false,false,false,false,false,false,false,false,false,false,false,false,false,false,false,false,false,false,false,false] rfl rfl rfl (by kernel_rfl) (by rfl) (by rintro w ⟨t0,t1,t2,t3,t4,t5,t6,t7,t8⟩;go_simp) (by assumption) ?_
 simp only [sIb,sCs,sCz]
 refine tk_at 1 24 (.agg #[.int .i64 x,.int .i64 y,.int .i64 n]) #[true,true,false,false,false,false,false,false,false,false,false,false,false,false,false,false,false,false,false,false,false] rfl rfl rfl (by kernel_rfl) (by rfl) (by rintro w ⟨t0,t1,t2,t3,t4,t5,t6,t7,t8⟩;go_simp) (by assumption) ?_
 simp only [sIb,sCs,sCz]
 refine tk_at 2 25 (.pointer (some ⟨p,0,none⟩)) #[true,true,true,false,false,false,false,false,false,false,false,false,false,false,false,false,false,false,false,false,false] rfl rfl rfl (by kernel_rfl) (by rfl) (by rintro w ⟨t0,t1,t2,t3,t4,t5,t6,t7,t8⟩;go_simp) (by assumption) ?_
 simp only [sIb,sCs,sCz]
 refine tk_at 3 26 (.pointer (some ⟨p,0,none⟩)) #[true,true,true,true,false,false,false,false,false,false,false,false,false,false,false,false,false,false,false,false,false] rfl rfl rfl (by kernel_rfl) (by rfl) (by rintro w ⟨t0,t1,t2,t3,t4,t5,t6,t7,t8⟩;go_simp) (by assumption) ?_
 simp only [sIb,sCs,sCz]
 refine tk_at 4 27 (.pointer (some ⟨p,1,none⟩)) #[true,true,true,true,true,false,false,false,false,false,false,false,false,false,false,false,false,false,false,false,false] rfl rfl rfl (by kernel_rfl) (by rfl) (by rintro w ⟨t0,t1,t2,t3,t4,t5,t6,t7,t8⟩;go_simp) (by assumption) ?_
 simp only [sIb,sCs,sCz]
 refine tk_at 5 28 (.int .i64 z) #[true,true,true,true,true,true,false,false,false,false,false,false,false,false,false,false,false,false,false,false,false] rfl rfl rfl (by kernel_rfl) (by rfl) (by rintro w ⟨t0,t1,t2,t3,t4,t5,t6,t7,t8⟩;go_simp) (by assumption) ?_
 simp only [sIb,sCs,sCz]
 refine tk_at 6 29 (.pointer (some ⟨p,0,none⟩)) #[true,true,true,true,true,true,true,false,false,false,false,false,false,false,false,false,false,false,false,false,false] rfl rfl rfl (by kernel_rfl) (by rfl) (by rintro w ⟨t0,t1,t2,t3,t4,t5,t6,t7,t8⟩;go_simp) (by assumption) ?_
 simp only [sIb,sCs,sCz]
 refine tk_at 7 30 (.pointer (some ⟨p,0,none⟩)) #[true,true,true,true,true,true,true,true,false,false,false,false,false,false,false,false,false,false,false,false,false] rfl rfl rfl (by kernel_rfl) (by rfl) (by rintro w ⟨t0,t1,t2,t3,t4,t5,t6,t7,t8⟩;go_simp) (by assumption) ?_
 simp only [sIb,sCs,sCz]
 refine tk_at 8 31 (.pointer (some ⟨p,2,none⟩)) #[true,true,true,true,true,true,true,true,true,false,false,false,false,false,false,false,false,false,false,false,false] rfl rfl rfl (by kernel_rfl) (by rfl) (by rintro w ⟨t0,t1,t2,t3,t4,t5,t6,t7,t8⟩;go_simp) (by assumption) ?_
 simp only [sIb,sCs,sCz]
 refine tk_at 9 32 ((.slice (some ⟨dv,0,none⟩) (N+1) dc)) #[true,true,true,true,true,true,true,true,true,true,false,false,false,false,false,false,false,false,false,false,false] rfl rfl rfl (by kernel_rfl) (by rfl) (by rintro w ⟨t0,t1,t2,t3,t4,t5,t6,t7,t8⟩;go_simp) (by assumption) ?_
 simp only [sIb,sCs,sCz]
 refine tk_at 10 33 (.pointer (some ⟨p,0,none⟩)) #[true,true,true,true,true,true,true,true,true,true,true,false,false,false,false,false,false,false,false,false,false] rfl rfl rfl (by kernel_rfl) (by rfl) (by rintro w ⟨t0,t1,t2,t3,t4,t5,t6,t7,t8⟩;go_simp) (by assumption) ?_
 simp only [sIb,sCs,sCz]
 refine tk_at 11 34 (.pointer (some ⟨p,0,none⟩)) #[true,true,true,true,true,true,true,true,true,true,true,true,false,false,false,false,false,false,false,false,false] rfl rfl rfl (by kernel_rfl) (by rfl) (by rintro w ⟨t0,t1,t2,t3,t4,t5,t6,t7,t8⟩;go_simp) (by assumption) ?_
 simp only [sIb,sCs,sCz]
 refine tk_at 12 35 (.pointer (some ⟨p,2,none⟩)) #[true,true,true,true,true,true,true,true,true,true,true,true,true,false,false,false,false,false,false,false,false] rfl rfl rfl (by kernel_rfl) (by rfl) (by rintro w ⟨t0,t1,t2,t3,t4,t5,t6,t7,t8⟩;go_simp) (by assumption) ?_
 simp only [sIb,sCs,sCz]
 refine tk_at 13 36 ((.slice (some ⟨dv,0,none⟩) (N+1) dc)) #[true,true,true,true,true,true,true,true,true,true,true,true,true,true,false,false,false,false,false,false,false] rfl rfl rfl (by kernel_rfl) (by rfl) (by rintro w ⟨t0,t1,t2,t3,t4,t5,t6,t7,t8⟩;go_simp) (by assumption) ?_
 simp only [sIb,sCs,sCz]
 refine tk_at 14 37 (.int .i64 ((N:Int)+1)) #[true,true,true,true,true,true,true,true,true,true,true,true,true,true,true,false,false,false,false,false,false] rfl rfl rfl (by kernel_rfl) (by rfl) (by rintro w ⟨t0,t1,t2,t3,t4,t5,t6,t7,t8⟩;go_simp) (by assumption) ?_
 simp only [sIb,sCs,sCz]
 refine tk_at 15 38 (.int .i64 N) #[true,true,true,true,true,true,true,true,true,true,true,true,true,true,true,true,false,false,false,false,false] rfl rfl rfl (by kernel_rfl) (by rfl) (by rintro w ⟨t0,t1,t2,t3,t4,t5,t6,t7,t8⟩;go_simp) (by assumption) ?_
 simp only [sIb,sCs,sCz]
 refine tk_at 16 39 (.pointer (some ⟨dv,N,none⟩)) #[true,true,true,true,true,true,true,true,true,true,true,true,true,true,true,true,true,false,false,false,false] rfl rfl rfl (by kernel_rfl) (by rfl) (by rintro w ⟨t0,t1,t2,t3,t4,t5,t6,t7,t8⟩;go_simp) (by assumption) ?_
 simp only [sIb,sCs,sCz]
 refine tk_at 17 40 (.slice (some ⟨sb,0,none⟩) Z Z) #[true,true,true,true,true,true,true,true,true,true,true,true,true,true,true,true,true,true,false,false,false] rfl rfl rfl (by kernel_rfl) (by rfl) (by rintro w ⟨t0,t1,t2,t3,t4,t5,t6,t7,t8⟩;go_simp) (by assumption) ?_
 simp only [sIb,sCs,sCz]
 refine tk_at 18 41 (.agg #[.int .i64 z,.slice (some ⟨sb,0,none⟩) Z Z]) #[true,true,true,true,true,true,true,true,true,true,true,true,true,true,true,true,true,true,true,false,false] rfl rfl rfl (by kernel_rfl) (by rfl) (by rintro w ⟨t0,t1,t2,t3,t4,t5,t6,t7,t8⟩;go_simp) (by assumption) ?_
 simp only [sIb,sCs,sCz]
 refine tk_at 19 42 (.agg #[.int .i64 u,.int .i64 v,.int .i64 n]) #[true,true,true,true,true,true,true,true,true,true,true,true,true,true,true,true,true,true,true,true,false] rfl rfl rfl (by kernel_rfl) (by rfl) (by rintro w ⟨t0,t1,t2,t3,t4,t5,t6,t7,t8⟩;go_simp) (by assumption) ?_
 simp only [sIb,sCs,sCz]
 refine enter_at (i:=20) (d:=43) (f:=171) (args:=#[.pointer (some ⟨p,0,none⟩),.agg #[.int .i64 x,.int .i64 y,.int .i64 n],.agg #[.int .i64 z,.slice (some ⟨sb,0,none⟩) Z Z],.agg #[.int .i64 u,.int .i64 v,.int .i64 n]]) #[true,true,true,true,true,true,true,true,true,true,true,true,true,true,true,true,true,true,true,true,true] (by kernel_rfl) rfl rfl rfl (by rfl) (by go_simp) (fun v' w'=>v'=.tuple #[]/\PAt w' L p b nb rg Dv dbs s z (Flm.moves z N ((u:Int)-x) ((v:Int)-y) (Flm.spots x y n) fs1)/\Frm (fun k=>k=nb) W4 w') ((HTK.out _ (below_drewN (Below.refl _ W4) 1)).mono (fun e w' he=>⟨_,he.1,rfl,he.2.1,((Frm.refl (fun k=>k=nb) W4).drew).trans he.2.2⟩)) ?_
 rintro va wa ⟨rfl,ha,fa⟩
 have hN0:¬ H=nb:=by omega
 have hNG:¬ G=nb:=by omega
 refine ⟨⟨fa.cell k10 hN0,fa.cell k11 hN0,fa.cell k12 hN0,fa.cell d1 hpnb,fa.cell d2 hpnb,fa.cell dN hdvnb,fa.cell k20 hNG,fa.cell k21 hNG,fa.cell k22 hNG⟩,?_⟩
 refine wpAnyH_done (by kernel_rfl) ?_ _
 dsimp only [calmPost]
 simp only [sIb,sCs,sCz]
 have HWA:Hid (PAt wa L p b nb rg Dv dbs s z (Flm.moves z N ((u:Int)-x) ((v:Int)-y) (Flm.spots x y n) fs1)/\Frm (fun k=>k=nb) W4 wa):=⟨ha,fa⟩
 clear k10 k11 k12 d1 d2 dN k20 k21 k22 hS0 ha fa
 go_wp2_with fail
 go_ret
 exact ⟨rfl,HWA.out.1,(frm_one_blk HF4.out).trans (frm_nb_blk HWA.out.2)⟩
def Flm.stillF (s:ByteArray) (z x y n:Nat) (fs:FS):FS:=if Flm.now fs=0 then { fs with r:=Rdr.fail fs.r 10 } else Flm.copies s z x y n 310 (Flm.now fs-1) fs
theorem pStill (w:World) (L p b nb rg:Nat) (Dv:Value) (dbs:List Nat) (s:ByteArray) (z:Nat) (fs:FS) (A:Nat->Addr) (h:PAt w L p b nb rg Dv dbs s z fs) (hs:s.size<=maxLen) (E:ErrsL w A L) (hLw:L<=w.heap.size) (x y n:Nat) (hn:0<n) (hx:x+n<=z) (hy:y+n<=z) :
  Calls Tryz.prog 150 #[.pointer (some ⟨p,0,none⟩),.agg #[.int .i64 x,.int .i64 y,.int .i64 n]] w (BlkPost A w L p b nb rg Dv dbs s z (Flm.stillF s z x y n fs)):=by
 have hz16:=h.z16
 have HS:=fun wx (hb:Below w.heap.size w wx)=>pSource wx L p b nb rg Dv dbs s z fs A (h.below hb) hs (E.below (hb.mono hLw)) (by have:=hb.size;omega) x y n 310 334 (by decide) (by decide) (by omega) (by omega) (by omega)
 unfold Flm.stillF
 by_cases h0:Flm.now fs=0
 ·rw [if_pos h0]
  refine (pStill0 w L p b nb rg Dv dbs s z fs A h E hLw x y n h0).mono ?_
  rintro e w' ⟨rfl,f⟩
  have e9:(Rdr.fail fs.r 10).err=10:=Rdr.fail_zero h.err
  refine ⟨?_,fun he=>?_,f⟩
  ·dsimp only;rw [e9];rfl
  ·dsimp only at he;rw [e9] at he;cases he
 ·rw [if_neg h0]
  by_cases e1:(Flm.srcR s fs.r 310 (310+24)).err=0
  ·cases hB:hasB z (x+Flm.srcX s fs.r 310) (y+Flm.srcY s fs.r 310 (310+24)) n
   ·refine (pStill_bad w L p b nb rg Dv dbs s z fs h x y n h0 (A 9) (fun wx hb=>(HS wx hb).mono ?_)).mono ?_
    ·rintro e w' ⟨⟨_,h2,_⟩,_,f⟩
     exact ⟨h2 e1 hB,f⟩
    ·rintro e w' ⟨rfl,f⟩
     rw [Flm.copies_out e1 hn hB]
     have e9:(Rdr.fail (Flm.srcR s fs.r 310 (310+24)) 9).err=9:=Rdr.fail_zero e1
     refine ⟨?_,fun he=>?_,f⟩
     ·dsimp only;rw [e9];rfl
     ·dsimp only at he;rw [e9] at he;cases he
   ·obtain ⟨u,v,hu,hv,hu1,hv1⟩:=hasB_nat hB
    refine (pStill_in w L p b nb rg Dv dbs s z fs h x y n h0 { fs with r:=Flm.srcR s fs.r 310 (310+24) } u v hu1 hv1 hx hy rfl (fun wx hb=>(HS wx hb).mono ?_)).mono ?_
    ·rintro e w' ⟨⟨_,_,h3⟩,hg,f⟩
     refine ⟨?_,hg e1,f⟩
     rw [hu,hv]
     exact h3 e1 hB
    ·rintro e w' ⟨rfl,hp,f⟩
     rw [Flm.copies_in e1 hu hv hu1 hv1 (fun hh=>by omega)]
     have he:=hp.err
     refine ⟨?_,fun _=>hp,f⟩
     exact congrArg Ending.returned (by rw [show (Flm.moves z (Flm.now fs-1) ((u:Int)-x) ((v:Int)-y) (Flm.spots x y n) { fs with r:=Flm.srcR s fs.r 310 (310+24) }).r.err=0 from he];rfl)
  ·refine (pStill_bad w L p b nb rg Dv dbs s z fs h x y n h0 (A (Flm.srcR s fs.r 310 (310+24)).err.toNat) (fun wx hb=>(HS wx hb).mono ?_)).mono ?_
   ·rintro e w' ⟨⟨h1,_,_⟩,_,f⟩
    refine ⟨?_,f⟩
    rw [<- errA_pos A e1]
    exact h1 e1
   ·rintro e w' ⟨rfl,f⟩
    rw [Flm.copies_err e1]
    refine ⟨?_,fun he=>absurd he e1,f⟩
    rw [errA_pos A e1]
end
section
open Go.RowKit
open Flm (Px FS)
theorem Flm.which_off {s:ByteArray}:∀ (f k:Nat) {r:RS},r.err ≠ 0->(Flm.which s f k r).2=r
 | 0,_,_,_=>rfl
 | f+1,k,r,h=>by
  have e:Rdr.bitS s r (250+k)=r:=by unfold Rdr.bitS;rw [if_neg h]
  unfold Flm.which
  split
  ·exact e
  ·rw [e];exact Flm.which_off f (k+1) h
set_option maxRecDepth 20000 in
theorem pChoice (w:World) (L p b nb rg:Nat) (Dv:Value) (dbs:List Nat) (s:ByteArray) (z:Nat) (fs:FS) (A:Nat->Addr) (h:PAt w L p b nb rg Dv dbs s z fs) (hs:s.size<=maxLen) (E:ErrsL w A L) (hLw:L<=w.heap.size) (n:Nat) (hn:n<=3) :
  Calls Tryz.prog 169 #[.pointer (some ⟨p,0,none⟩),.int .i64 n] w fun x w'=>x=numRet A (Flm.which s n 0 fs.r).1 (Flm.which s n 0 fs.r).2.err/\goesOn w' L p b nb rg Dv dbs s z fs (Flm.which s n 0 fs.r).2/\Frm (oneS b) w w':=by
 have HP:Hid (PAt w L p b nb rg Dv dbs s z fs):=h
 have HE:Hid (ErrsL w A L):=E
 have hpb:Hid (¬ oneS b p):=h.nes.1.1
 have c0:Hid (w.cell? ⟨p,0,none⟩=some (.pointer (some ⟨b,0,none⟩))):=h.c0
 clear h E
 go_enter Tryz.func169,Tryz.ntmps169
 go_wp2_with fail
 go_loopw [10] (fun kv wr=>∃ (k:Nat) (q:RS),k<=n/\kv=.int .i64 k/\Flm.which s (n-k) k q=Flm.which s n 0 fs.r/\PAt wr L p b nb rg Dv dbs s z { fs with r:=q }/\Frm (oneS b) w wr) (fun kv _=>n-(intOf kv).toNat)
 case atStart=>exact ⟨0,fs.r,by omega,rfl,rfl,HP.out,Frm.refl _ _⟩
 case round =>
  obtain ⟨k,q,hk,rfl,hw,hq,hfr⟩:=hrel
  by_cases hkn:k<n
  ·have hkn':(k:Int)<(n:Int):=by omega
   have hqe:q.err=0:=hq.err
   have hun:Flm.which s (n-k) k q=if Rdr.bitV q (250+k)=0 then (k,Rdr.bitS s q (250+k)) else Flm.which s (n-(k+1)) (k+1) (Rdr.bitS s q (250+k)):=by
    rw [show n-k=(n-(k+1))+1 by omega]
    conv=>lhs;unfold Flm.which
   rw [hun] at hw
   have HB:=hq.bit hs (HP.out.errs hLw HE.out hfr) (250+k) (by omega)
   have d0:wr.cell? ⟨p,0,none⟩=some (.pointer (some ⟨b,0,none⟩)):=hq.c0
   obtain ⟨r1,hr1⟩:∃ r1,r1=Rdr.bitS s q (250+k):=⟨_,rfl⟩
   have her:=Rdr.bitS_errs (s:=s) (k:=250+k) hqe
   dsimp only at HB
   rw [<- hr1] at HB hw her
   have HFR:Hid (Frm (oneS b) w wr):=hfr
   rw [show (((250+k:Nat)):Int)=250+(k:Int) by omega] at HB
   rcases her with he|he
   ·rw [numRet_good A _ he] at HB
    have HBE:Hid (r1.err=0):=he
    rcases Rdr.bitV_cases q (250+k) with hv|hv
    ·rw [hv] at HB hw
     rw [if_pos rfl] at hw
     have HWH:Hid (Flm.which s n 0 fs.r=(k,r1)):=hw.symm
     have HBH:Hid (Calls Tryz.prog 129 #[.pointer (some ⟨b,0,none⟩),.int .i64 (250+(k:Int))] wr fun x w'=>x=.returned (.tuple #[.int .i64 0,.nilIface])/\goesOn w' L p b nb rg Dv dbs s z { fs with r:=q } r1/\Frm (oneS b) wr w'):=HB
     clear HB hun hw hq hfr hr1 he hv hqe
     go_wp2_with (go_at_call 129;refine HBH.out.mono ?_;rintro x w2 ⟨rfl,h2,f2⟩)
     go_ret2
     rw [HWH.out,numRet_good A _ HBE.out]
     exact ⟨rfl,h2,HFR.out.trans f2⟩
    ·rw [hv] at HB hw
     rw [if_neg (by decide)] at hw
     have HWH:Hid (Flm.which s (n-(k+1)) (k+1) r1=Flm.which s n 0 fs.r):=hw
     have HBH:Hid (Calls Tryz.prog 129 #[.pointer (some ⟨b,0,none⟩),.int .i64 (250+(k:Int))] wr fun x w'=>x=.returned (.tuple #[.int .i64 1,.nilIface])/\goesOn w' L p b nb rg Dv dbs s z { fs with r:=q } r1/\Frm (oneS b) wr w'):=HB
     clear HB hun hw hq hfr hr1 he hv hqe
     go_wp2_with (go_at_call 129;refine HBH.out.mono ?_;rintro x w2 ⟨rfl,h2,f2⟩)
     go_roundw
     case rel=>exact ⟨k+1,r1,by omega,by go_num,HWH.out,h2 HBE.out,HFR.out.trans f2⟩
     case measure=>simp [intOf];omega
   ·rw [numRet_bad A _ (by rw [he];decide),he] at HB
    have HWH:Hid ((Flm.which s n 0 fs.r).2=r1):=by
     unfold Hid
     rw [<- hw]
     split
     ·rfl
     ·exact Flm.which_off _ _ (by rw [he];decide)
    have HBE:Hid (r1.err=5):=he
    have HBH:Hid (Calls Tryz.prog 129 #[.pointer (some ⟨b,0,none⟩),.int .i64 (250+(k:Int))] wr fun x w'=>x=.returned (.tuple #[.int .i64 0,.iface 278 (.pointer (some (A 5)))])/\goesOn w' L p b nb rg Dv dbs s z { fs with r:=q } r1/\Frm (oneS b) wr w'):=HB
    clear HB hun hw hq hfr hr1 he hqe
    go_wp2_with (go_at_call 129;refine HBH.out.mono ?_;rintro x w2 ⟨rfl,h2,f2⟩)
    go_ret2
    rw [HWH.out,numRet_bad A _ (by rw [HBE.out];decide),HBE.out]
    exact ⟨rfl,h2,HFR.out.trans f2⟩
  ·have hkn':¬ (k:Int)<(n:Int):=by omega
   obtain rfl:k=n:=by omega
   have HWH:Hid (Flm.which s k 0 fs.r=(k,q)):=by rw [Nat.sub_self] at hw;exact hw.symm
   have HPQ:Hid (PAt wr L p b nb rg Dv dbs s z { fs with r:=q }/\Frm (oneS b) w wr):=⟨hq,hfr⟩
   clear hw hq hfr
   go_wp2_with fail
   go_ret2
   rw [HWH.out,numRet_good A _ HPQ.out.1.err]
   exact ⟨rfl,fun _=>HPQ.out.1,HPQ.out.2⟩
end
section
open Go.RowKit
open Flm (Px FS)
namespace Flm
def fill1 (s:ByteArray) (z n:Nat) (l:List Px) (fs:FS) (p:Nat × Nat):FS :=
 if fs.r.err=0 then
  if (which s n 0 fs.r).2.err=0 then put { fs with r:=(which s n 0 fs.r).2 } (p.2*z+p.1) (l.getD (which s n 0 fs.r).1 (0,0,0)) else { fs with r:=(which s n 0 fs.r).2 }
 else fs
theorem fill1_off {s:ByteArray} {z n:Nat} {l:List Px} {fs:FS} (h:fs.r.err ≠ 0) (p:Nat × Nat):fill1 s z n l fs p=fs:=by unfold fill1;rw [if_neg h]
theorem foldl_off {f:FS->Nat × Nat->FS} (hf:∀ fs p,fs.r.err ≠ 0->f fs p=fs):∀ (ps:List (Nat × Nat)) {fs:FS},fs.r.err ≠ 0->ps.foldl f fs=fs
 | [],_,_=>rfl
 | p :: ps,fs,h=>by rw [List.foldl_cons,hf fs p h];exact foldl_off hf ps h
theorem foldl_pre {f:FS->Nat × Nat->FS} (hf:∀ fs p,fs.r.err ≠ 0->f fs p=fs) {ps qs:List (Nat × Nat)} {fs:FS} (hp:ps <+: qs) (h:(ps.foldl f fs).r.err ≠ 0):qs.foldl f fs=ps.foldl f fs:=by
 obtain ⟨t,rfl⟩:=hp
 rw [List.foldl_append]
 exact foldl_off hf t h
theorem fills_fold (s:ByteArray) (z n:Nat) (l:List Px):∀ (ps:List (Nat × Nat)) (fs:FS),fills s z n l ps fs=ps.foldl (fill1 s z n l) fs
 | [],fs=>rfl
 | (i,j) :: ps,fs=>by
  rw [List.foldl_cons,<- fills_fold s z n l ps]
  by_cases h:fs.r.err=0
  ·show (if fs.r.err=0 then (if (which s n 0 fs.r).2.err=0 then _ else _) else _)=_
   rw [if_pos h]
   unfold fill1
   rw [if_pos h]
   split <;> rfl
  ·rw [fill1_off h,fills_err h,fills_err h]
theorem fill1_good {s:ByteArray} {z n:Nat} {l:List Px} {fs:FS} {p:Nat × Nat} (h:fs.r.err=0) (h2:(which s n 0 fs.r).2.err=0):fill1 s z n l fs p=put { fs with r:=(which s n 0 fs.r).2 } (p.2*z+p.1) (l.getD (which s n 0 fs.r).1 (0,0,0)):=by
 unfold fill1;rw [if_pos h,if_pos h2]
theorem fill1_bad {s:ByteArray} {z n:Nat} {l:List Px} {fs:FS} {p:Nat × Nat} (h:fs.r.err=0) (h2:(which s n 0 fs.r).2.err ≠ 0):fill1 s z n l fs p={ fs with r:=(which s n 0 fs.r).2 }:=by
 unfold fill1;rw [if_pos h,if_neg h2]
theorem few_eq (s:ByteArray) (z x y n:Nat) (fs:FS) (r:RS) (N:Nat) (hN:((Rdr.number s fs.r 200).1).toNat=N) (hr:(if 3<(Rdr.number s fs.r 200).1 then Rdr.fail (Rdr.number s fs.r 200).2 8 else (Rdr.number s fs.r 200).2)=r) :
  few s z x y n fs=(spots x y n).foldl (fill1 s z N (colours s (N+1) r).1) { fs with r:=(colours s (N+1) r).2 }:=by
 unfold few
 dsimp only
 rw [hN,hr,fills_fold]
theorem few_bad (s:ByteArray) (z x y n:Nat) (fs:FS) (r:RS) (hr:(if 3<(Rdr.number s fs.r 200).1 then Rdr.fail (Rdr.number s fs.r 200).2 8 else (Rdr.number s fs.r 200).2)=r) (h:r.err ≠ 0) :
  few s z x y n fs={ fs with r:=r }:=by
 rw [few_eq s z x y n fs r _ rfl hr,colours_err h,foldl_off (fun fs p hh=>fill1_off hh p) _ h]
def colK (s:ByteArray) (r0:RS) (N k:Nat) (ls:List Px) (r:RS):Prop:=ls.length=k/\colours s (N+1) r0=(ls++(colours s (N+1-k) r).1,(colours s (N+1-k) r).2)
theorem colK.step {s:ByteArray} {r0:RS} {N k:Nat} {ls:List Px} {r:RS} (h:colK s r0 N k ls r) (he:r.err=0) (hk:k<N+1):colK s r0 N (k+1) (ls++[(colour s r).1]) (colour s r).2:=by
 obtain ⟨h1,h2⟩:=h
 refine ⟨by simp [h1],?_⟩
 rw [h2,show N+1-k=(N+1-(k+1))+1 by omega,colours_succ he]
 simp
theorem colK.bad {s:ByteArray} {r0:RS} {N k:Nat} {ls:List Px} {r:RS} (h:colK s r0 N k ls r) (he:r.err=0) (hk:k<N+1) (hb:(colour s r).2.err ≠ 0):(colours s (N+1) r0).2=(colour s r).2:=by
 rw [h.2,show N+1-k=(N+1-(k+1))+1 by omega,colours_succ he,colours_err hb]
theorem colK.done {s:ByteArray} {r0:RS} {N:Nat} {ls:List Px} {r:RS} (h:colK s r0 N (N+1) ls r):colours s (N+1) r0=(ls,r):=by
 rw [h.2,Nat.sub_self]
 show (ls++[],r)=_
 simp
theorem take_set {cs ls:List Px} {k:Nat} (h:cs.take k=ls) (hk:k<cs.length) (c:Px):(cs.set k c).take (k+1)=ls++[c]:=by
 subst h
 rw [List.take_add_one,List.take_set_of_le (by omega)]
 simp [hk]
end Flm
theorem made_pixs (w:World) (L n:Nat) (hL:L<=w.heap.size) (hn:n<=1000):Pixs (w.alloc (.cells (madeCells #[.int .u8 0,.int .u8 0,.int .u8 0] (n*3)) 50)) L w.heap.size n (List.replicate n (0,0,0)):=by
 unfold Pixs
 rw [<- made_px]
 exact World.ownsRow_lit w _ n hL (by unfold maxLen;omega) (size_madeCells _ _)
theorem PAt.isCells {w:World} {L p b nb rg:Nat} {Dv:Value} {dbs:List Nat} {s:ByteArray} {z:Nat} {fs:FS} (h:PAt w L p b nb rg Dv dbs s z fs):∀ k,blkS b nb k->∃ v,w.cell? ⟨k,0,none⟩=some v:=by
 rintro k (e|e)
 ·rw [e];exact ⟨_,h.pr.c0⟩
 ·rw [e];exact ⟨_,(h.nw.cell 0 (by rcases h.zz with e|e|e <;> subst e <;> decide)).1⟩
end
section
open Go.RowKit
open Flm (Px FS)
namespace Flm
noncomputable def softF (s:ByteArray) (z:Nat) (fs:FS) (p:Nat × Nat):FS :=
 if fs.r.err=0 then
  if (soft1 s z fs p.1 p.2).1.r.err=0 then put (soft1 s z fs p.1 p.2).1 (p.2*z+p.1) (soft1 s z fs p.1 p.2).2 else (soft1 s z fs p.1 p.2).1
 else fs
theorem softF_off {s:ByteArray} {z:Nat} {fs:FS} (h:fs.r.err ≠ 0) (p:Nat × Nat):softF s z fs p=fs:=by unfold softF;rw [if_neg h]
theorem soft_fold (s:ByteArray) (z:Nat):∀ (ps:List (Nat × Nat)) (fs:FS),fs.r.err=0->soft s z ps fs=ps.foldl (softF s z) fs
 | [],_,_=>rfl
 | (i,j) :: ps,fs,h=>by
  rw [List.foldl_cons]
  have e:softF s z fs (i,j)=if (soft1 s z fs i j).1.r.err=0 then put (soft1 s z fs i j).1 (j*z+i) (soft1 s z fs i j).2 else (soft1 s z fs i j).1:=by unfold softF;rw [if_pos h]
  rw [e]
  show (if (soft1 s z fs i j).1.r.err=0 then soft s z ps (put (soft1 s z fs i j).1 (j*z+i) (soft1 s z fs i j).2) else (soft1 s z fs i j).1)=_
  by_cases h2:(soft1 s z fs i j).1.r.err=0
  ·rw [if_pos h2,if_pos h2]
   exact soft_fold s z ps _ h2
  ·rw [if_neg h2,if_neg h2,foldl_off (fun fs p hh=>softF_off hh p) _ h2]
theorem rAt_off {s:ByteArray} {r:RS} {k:Nat} (h:(rAt s r k).err ≠ 0):∀ j,rAt s r (k+j)=rAt s r k
 | 0=>rfl
 | j+1=>by
  show (Rdr.number s (rAt s r (k+j)) (100+24*(k+j))).2=_
  rw [rAt_off h j,Rdr.number_off h]
theorem softF_bad {s:ByteArray} {z:Nat} {fs:FS} {p:Nat × Nat} {k:Nat} (h0:fs.r.err=0) (hk:k<=3) (h:(rAt s fs.r k).err ≠ 0):softF s z fs p={ fs with r:=rAt s fs.r k }:=by
 have e:rAt s fs.r 3=rAt s fs.r k:=by
  have:=rAt_off h (3-k)
  rw [show k+(3-k)=3 by omega] at this
  exact this
 have e1:(soft1 s z fs p.1 p.2).1={ fs with r:=rAt s fs.r k }:=by
  rw [soft1_eq,e]
  dsimp only
  split
  ·rfl
  ·rw [Rdr.fail_of h]
 unfold softF
 rw [if_pos h0,if_neg (by rw [e1];exact h),e1]
theorem softF_colour {s:ByteArray} {z:Nat} {fs:FS} {p:Nat × Nat} (h0:fs.r.err=0) (hb:¬ Pix.isPix (cOf s z fs p.1 p.2 0) (cOf s z fs p.1 p.2 1) (cOf s z fs p.1 p.2 2)):softF s z fs p={ fs with r:=Rdr.fail (rAt s fs.r 3) 2 }:=by
 have e0:back (cOf s z fs p.1 p.2 0,cOf s z fs p.1 p.2 1,cOf s z fs p.1 p.2 2)=((0,0,0),2):=by unfold back;rw [if_neg hb]
 have e1:(soft1 s z fs p.1 p.2).1={ fs with r:=Rdr.fail (rAt s fs.r 3) 2 }:=by
  rw [soft1_eq,e0]
  rfl
 unfold softF
 rw [if_pos h0,if_neg (by rw [e1];exact Rdr.fail_err (by decide)),e1]
theorem softF_good {s:ByteArray} {z:Nat} {fs:FS} {p:Nat × Nat} (h0:fs.r.err=0) (h:(rAt s fs.r 3).err=0) (hb:Pix.isPix (cOf s z fs p.1 p.2 0) (cOf s z fs p.1 p.2 1) (cOf s z fs p.1 p.2 2)) :
  softF s z fs p=put { fs with r:=rAt s fs.r 3 } (p.2*z+p.1) (Pix.bR (cOf s z fs p.1 p.2 0) (cOf s z fs p.1 p.2 1) (cOf s z fs p.1 p.2 2),Pix.bG (cOf s z fs p.1 p.2 0) (cOf s z fs p.1 p.2 2),Pix.bB (cOf s z fs p.1 p.2 0) (cOf s z fs p.1 p.2 1) (cOf s z fs p.1 p.2 2)):=by
 have e0:back (cOf s z fs p.1 p.2 0,cOf s z fs p.1 p.2 1,cOf s z fs p.1 p.2 2)=((Pix.bR (cOf s z fs p.1 p.2 0) (cOf s z fs p.1 p.2 1) (cOf s z fs p.1 p.2 2),Pix.bG (cOf s z fs p.1 p.2 0) (cOf s z fs p.1 p.2 2),Pix.bB (cOf s z fs p.1 p.2 0) (cOf s z fs p.1 p.2 1) (cOf s z fs p.1 p.2 2)),0):=by unfold back;rw [if_pos hb]
 have e1:soft1 s z fs p.1 p.2=({ fs with r:=rAt s fs.r 3 },(Pix.bR (cOf s z fs p.1 p.2 0) (cOf s z fs p.1 p.2 1) (cOf s z fs p.1 p.2 2),Pix.bG (cOf s z fs p.1 p.2 0) (cOf s z fs p.1 p.2 2),Pix.bB (cOf s z fs p.1 p.2 0) (cOf s z fs p.1 p.2 1) (cOf s z fs p.1 p.2 2))):=by
  rw [soft1_eq,e0]
  rfl
 unfold softF
 rw [if_pos h0,e1,if_pos h]
theorem seen_fold (z:Nat):∀ (ps:List (Nat × Nat)) (fs:FS),seen z ps fs=ps.foldl (fun fs p=>{ fs with rd:=fs.rd.set (p.2*z+p.1) true }) fs
 | [],_=>rfl
 | (i,j) :: ps,fs=>by
  rw [List.foldl_cons]
  exact seen_fold z ps _
end Flm
end
end Go.Proofs.YtekfbphnoibnjaaGreatDoor
