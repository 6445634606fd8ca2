/-
  PCopy
-/
import Derived.Test.YtekfbphnoibnjaaGreatDoorF27
set_option maxHeartbeats 4000000
namespace Go.Proofs.YtekfbphnoibnjaaGreatDoor
section
open Go.RowKit Go.Shelf
open Flm (Px FS)
attribute [local go_sem] Oper.semAt_some
def blkS (b nb:Nat):Nat->Prop:=fun k=>k=b \/ k=nb
def BlkPost (A:Nat->Addr) (w:World) (L p b nb rg:Nat) (Dv:Value) (dbs:List Nat) (s:ByteArray) (z:Nat) (fs':FS) (e:Ending) (w':World):Prop :=
 e=.returned (errA A fs'.r.err)/\(fs'.r.err=0->PAt w' L p b nb rg Dv dbs s z fs')/\Frm (blkS b nb) w w'
theorem frm_one_blk {b nb:Nat} {w w':World} (f:Frm (oneS b) w w'):Frm (blkS b nb) w w':=f.mono (fun _ _ e=>.inl e)
theorem frm_nb_blk {b nb:Nat} {w w':World} (f:Frm (fun k=>k=nb) w w'):Frm (blkS b nb) w w':=f.mono (fun _ _ e=>.inr e)
set_option maxRecDepth 100000 in
theorem pCopied_bad (w:World) (L p b nb rg:Nat) (Dv:Value) (dbs:List Nat) (s:ByteArray) (z:Nat) (fs:FS) (h:PAt w L p b nb rg Dv dbs s z fs) (x y n:Nat) (ea:Addr)
  (hsrc:∀ wx,Below w.heap.size w wx->Calls Tryz.prog 170 #[.pointer (some ⟨p,0,none⟩),.agg #[.int .i64 x,.int .i64 y,.int .i64 n],.int .i64 260,.int .i64 284] wx fun e w'=>e=.returned (.tuple #[.agg #[.int .i64 0,.int .i64 0,.int .i64 0],.iface 278 (.pointer (some ea))])/\Frm (oneS b) wx w') :
  Calls Tryz.prog 149 #[.pointer (some ⟨p,0,none⟩),.agg #[.int .i64 x,.int .i64 y,.int .i64 n]] w fun e w'=>e=.returned (.iface 278 (.pointer (some ea)))/\Frm (oneS b) w w':=by
 obtain ⟨H,hH⟩:∃ H,H=w.heap.size:=⟨_,rfl⟩
 obtain ⟨W3,hW3⟩:∃ W3,W3=((w.alloc (.cells #[.pointer (some ⟨p,0,none⟩)] 107)).alloc (.cells #[.int .i64 x,.int .i64 y,.int .i64 n] 100)).alloc (.cells #[.nilIface] 62):=⟨_,rfl⟩
 have hB3:Below w.heap.size w W3:=by rw [hW3];exact below3 w _ _ _
 have hF3:FBox W3 H p x y n .nilIface:=by rw [hW3,hH];exact fbox_new w p x y n
 have hs3:W3.heap.size=H+3:=by rw [hW3,hH];simp
 have HS:Hid (Calls Tryz.prog 170 #[.pointer (some ⟨p,0,none⟩),.agg #[.int .i64 x,.int .i64 y,.int .i64 n],.int .i64 260,.int .i64 284] W3 fun e w'=>e=.returned (.tuple #[.agg #[.int .i64 0,.int .i64 0,.int .i64 0],.iface 278 (.pointer (some ea))])/\Frm (oneS b) W3 w'):=hsrc W3 hB3
 have hbH:b<H:=by rw [hH];exact h.up.2
 have HW3:Hid (W3=((w.alloc (.cells #[.pointer (some ⟨p,0,none⟩)] 107)).alloc (.cells #[.int .i64 x,.int .i64 y,.int .i64 n] 100)).alloc (.cells #[.nilIface] 62)):=hW3
 have HF:Hid (Frm (oneS b) w W3):=Frm.of_below hB3
 have HC:Hid (∀ w1,Frm (oneS b) W3 w1->FBox w1 H p x y n .nilIface):=fun w1 f=>hF3.frm f (fun k e=>by have e':k=b:=e;omega)
 have HH:Hid (H=w.heap.size):=hH
 have k00:=cell_of_row _ _ 0 _ _ _ hF3.b0
 have k10:=cell_of_row _ _ 0 _ _ _ hF3.b1
 have k11:=cell_of_row _ _ 1 _ _ _ hF3.b1
 have k12:=cell_of_row _ _ 2 _ _ _ hF3.b1
 simp at k00 k10 k11 k12
 clear hsrc h hW3 hB3 hF3 hH
 refine (callsIn_wide (n:=5)).1 ?_
 refine callsIn_of_wp_marks Tryz.func149 rfl trivial ?_ rfl
 simp only [Tryz.ntmps149,List.size_toArray,List.length_cons,List.length_nil,Nat.reduceAdd,Nat.reduceSub,Array.replicate_succ,Array.replicate_zero,List.push_toArray,List.append_toArray,List.nil_append,List.cons_append]
 refine wpIn_wide.2 ?_
 go_wp2_with (first
  | (rw [<- HW3.out,<- HH.out])
  | (go_at_call 170;refine HS.out.mono ?_;rintro e w1 ⟨rfl,f1⟩;have hc1:=HC.out w1 f1;have kf:w1.cell? ⟨H+1+1,0,none⟩=some .nilIface:=cell_of_row _ _ 0 _ _ _ hc1.b2;have zf:=frozen_of_row _ _ 0 _ _ hc1.b2;have hl1:H+1+1<w1.heap.size:=heap_lt hc1.b2))
 obtain ⟨X,hX⟩:∃ X,X=(w1.setCell ⟨H+1+1,0,none⟩ (.iface 278 (.pointer (some ea)))).alloc (.cells #[.int .i64 0,.int .i64 0,.int .i64 0] 100):=⟨_,rfl⟩
 rw [<- hX]
 have q0:X.cell? ⟨H+1+1,0,none⟩=some (.iface 278 (.pointer (some ea))):=by
  rw [hX]
  exact (World.cell?_of_block (w:=w1.setCell ⟨H+1+1,0,none⟩ _) (a:=⟨H+1+1,0,none⟩) (Below.heap_alloc _ _ _ (by rw [World.size_setCell];exact hl1))).trans (World.cell?_setCell_same _ _ _ kf)
 refine retM_none (v:=.iface 278 (.pointer (some ea))) rfl (by simp [results,Tryz.results149,go_sem,q0]) ⟨rfl,?_⟩
 have fX:Frm (fun k=>k=H+1+1) w1 X:=by rw [hX];exact (Frm.setCell (p:=⟨H+1+1,0,none⟩) (Frm.refl (fun k=>k=H+1+1) w1) (.inl rfl) _).alloc _
 exact frm_new (HF.out.trans f1) (G:=H+1+1) fX (by have:=HH.out;omega)
def CopyI (w W:World) (L p b nb rg:Nat) (Dv:Value) (dbs:List Nat) (s:ByteArray) (z:Nat) (fs:FS) (H G x y n u v:Nat) (pre:List (Pt u v n)):Prop :=
 PAt W L p b nb rg Dv dbs s z fs/\FBox W H p x y n .nilIface/\W.heap[G]?=some (.cells #[.int .i64 u,.int .i64 v,.int .i64 n] 100 (0,0))/\W.heap[G+1]?=some (.cells #[.int .i64 u,.int .i64 v,.int .i64 n] 100 (0,0))/\Frm (oneS b) w W/\∀ q ∈ pre,fs.rd.getD (q.1.2*z+q.1.1) false=true
def CopyX (A:Nat->Addr) (w W:World) (b z:Nat) (fs:FS) (H p x y n u v:Nat) (c:Code) (pre:List (Pt u v n)):Prop :=
 c=.ret/\FBox W H p x y n (.iface 278 (.pointer (some (A 9))))/\Frm (oneS b) w W/\∃ q ∈ pre,fs.rd.getD (q.1.2*z+q.1.1) false=false
set_option maxRecDepth 100000 in
theorem pCopied_in (w:World) (L p b nb rg:Nat) (Dv:Value) (dbs:List Nat) (s:ByteArray) (z:Nat) (fs:FS) (A:Nat->Addr) (h:PAt w L p b nb rg Dv dbs s z fs) (E:ErrsL w A L) (hLw:L<=w.heap.size) (x y n:Nat) (fs1:FS) (u v:Nat) (hu:u+n<=z) (hv:v+n<=z) (hx:x+n<=z) (hy:y+n<=z) (hfs:Flm.now fs1=Flm.now fs)
  (hsrc:∀ wx,Below w.heap.size w wx->Calls Tryz.prog 170 #[.pointer (some ⟨p,0,none⟩),.agg #[.int .i64 x,.int .i64 y,.int .i64 n],.int .i64 260,.int .i64 284] wx fun e w'=>e=.returned (.tuple #[.agg #[.int .i64 u,.int .i64 v,.int .i64 n],.nilIface])/\PAt w' L p b nb rg Dv dbs s z fs1/\Frm (oneS b) wx w') :
  Calls Tryz.prog 149 #[.pointer (some ⟨p,0,none⟩),.agg #[.int .i64 x,.int .i64 y,.int .i64 n]] w fun e w' =>
   ((∀ q ∈ Flm.spots u v n,fs1.rd.getD (q.2*z+q.1) false=true)/\e=.returned .nilIface/\PAt w' L p b nb rg Dv dbs s z (Flm.moves z (Flm.now fs1) ((u:Int)-x) ((v:Int)-y) (Flm.spots x y n) fs1)/\Frm (blkS b nb) w w') \/
   ((∃ q ∈ Flm.spots u v n,fs1.rd.getD (q.2*z+q.1) false=false)/\e=.returned (.iface 278 (.pointer (some (A 9))))/\Frm (blkS b nb) w w'):=by
 obtain ⟨Z,hZ⟩:∃ Z,Z=z*z:=⟨_,rfl⟩
 have hz16:=h.z16
 have hzz:=h.zzle
 obtain ⟨H,hH⟩:∃ H,H=w.heap.size:=⟨_,rfl⟩
 obtain ⟨W3,hW3⟩:∃ W3,W3=((w.alloc (.cells #[.pointer (some ⟨p,0,none⟩)] 107)).alloc (.cells #[.int .i64 x,.int .i64 y,.int .i64 n] 100)).alloc (.cells #[.nilIface] 62):=⟨_,rfl⟩
 have hB3:Below w.heap.size w W3:=by rw [hW3];exact below3 w _ _ _
 have hF3:FBox W3 H p x y n .nilIface:=by rw [hW3,hH];exact fbox_new w p x y n
 have hs3:W3.heap.size=H+3:=by rw [hW3,hH];simp
 have HS:Hid (Calls Tryz.prog 170 #[.pointer (some ⟨p,0,none⟩),.agg #[.int .i64 x,.int .i64 y,.int .i64 n],.int .i64 260,.int .i64 284] W3 fun e w'=>e=.returned (.tuple #[.agg #[.int .i64 u,.int .i64 v,.int .i64 n],.nilIface])/\PAt w' L p b nb rg Dv dbs s z fs1/\Frm (oneS b) W3 w'):=hsrc W3 hB3
 have hlt:∀ k,paB p b nb rg Dv dbs k->k<H:=by rw [hH];exact h.lt
 have hbH:b<H:=hlt b (.inr (.inl rfl))
 have hnbH:nb<H:=hlt nb (.inr (.inr (.inr (.inl rfl))))
 have hpH:p<H:=hlt p (.inl rfl)
 have hrgH:rg<H:=hlt rg (.inr (.inr (.inl rfl)))
 have hmx:Tryz.prog.follows .mixedOrders=true:=by kernel_rfl
 have HLT:Hid (∀ k,paB p b nb rg Dv dbs k->k<H):=hlt
 have HW3:Hid (W3=((w.alloc (.cells #[.pointer (some ⟨p,0,none⟩)] 107)).alloc (.cells #[.int .i64 x,.int .i64 y,.int .i64 n] 100)).alloc (.cells #[.nilIface] 62)):=hW3
 have HF:Hid (Frm (oneS b) w W3):=Frm.of_below hB3
 have HC:Hid (∀ w1,Frm (oneS b) W3 w1->FBox w1 H p x y n .nilIface):=fun w1 f=>hF3.frm f (fun k e=>by have e':k=b:=e;omega)
 have HE9:Hid (∀ wx,Frm (oneS b) w wx->wx.cell? ⟨4,0,none⟩=some (.iface 278 (.pointer (some (A 9))))):=fun wx f=>((h.errs hLw E f).v (9,4) (by decide)).2
 have HNW:Hid (∀ w' fs',PAt w' L p b nb rg Dv dbs s z fs'->Pixs w' L nb (z*z) (fs'.frs.getD (Flm.now fs1) [])):=fun w' fs' h'=>by
  have e:Flm.now fs1=Flm.now fs':=by rw [hfs,<- h.n1,h'.n1]
  rw [e];exact h'.nw
 have H9L:Hid (4<L):=(E.v (9,4) (by decide)).1
 have HH:Hid (H=w.heap.size):=hH
 have HZ:Hid (Z=z*z):=hZ
 have k00:=cell_of_row _ _ 0 _ _ _ hF3.b0
 have k10:=cell_of_row _ _ 0 _ _ _ hF3.b1
 have k11:=cell_of_row _ _ 1 _ _ _ hF3.b1
 have k12:=cell_of_row _ _ 2 _ _ _ hF3.b1
 simp at k00 k10 k11 k12
 have hLH:L<=H:=by omega
 clear hsrc h E hW3 hB3 hF3 hH hZ hlt
 refine (callsIn_wide (n:=5)).1 ?_
 refine callsIn_of_wp_marks Tryz.func149 rfl trivial ?_ rfl
 simp only [Tryz.ntmps149,List.size_toArray,List.length_cons,List.length_nil,Nat.reduceAdd,Nat.reduceSub,Array.replicate_succ,Array.replicate_zero,List.push_toArray,List.append_toArray,List.nil_append,List.cons_append]
 refine wpIn_wide.2 ?_
 go_wp2_with (first
  | (rw [<- HW3.out,<- HH.out])
  | (go_at_call 170;refine HS.out.mono ?_;rintro e w1 ⟨rfl,h1,f1⟩;obtain ⟨G,hG⟩:∃ G,G=w1.heap.size:=⟨_,rfl⟩;have HG:Hid (G=w1.heap.size):=hG;clear hG)
  | (go_at_call 105;refine (pPoints _ _ _ _).mono ?_;rintro e wq ⟨rfl,rfl⟩))
 clear k00 k10 k11 k12
 obtain ⟨W5,hW5⟩:∃ W5,W5=(w1.alloc (.cells #[.int .i64 u,.int .i64 v,.int .i64 n] 100)).alloc (.cells #[.int .i64 u,.int .i64 v,.int .i64 n] 100):=⟨_,rfl⟩
 have hB5:Below w1.heap.size w1 W5:=by rw [hW5];exact ((Below.refl _ w1).alloc (Nat.le_refl _) _).alloc (by simp) _
 have hs5:W5.heap.size=G+2:=by rw [hW5,HG.out];simp
 have hit:W5.heap[G+1]?=some (.cells #[.int .i64 u,.int .i64 v,.int .i64 n] 100 (0,0)):=by
  have:=heap_alloc_last (w1.alloc (.cells #[.int .i64 u,.int .i64 v,.int .i64 n] 100)) (.cells #[.int .i64 u,.int .i64 v,.int .i64 n] 100)
  rw [World.size_alloc] at this
  rw [hW5,HG.out];exact this
 have hfr5:W5.heap[G]?=some (.cells #[.int .i64 u,.int .i64 v,.int .i64 n] 100 (0,0)):=by
  rw [hW5,HG.out,Below.heap_alloc _ _ _ (by simp)]
  exact heap_alloc_last w1 _
 have hHG:H+3<=G:=by rw [HG.out];have:=f1.size;omega
 have HI0:Hid (CopyI w W5 L p b nb rg Dv dbs s z fs1 H G x y n u v []):=⟨h1.below hB5,(HC.out w1 f1).below hB5,hfr5,hit,(HF.out.trans f1).trans (Frm.of_below hB5),fun q hq=>by cases hq⟩
 rw [<- HG.out,<- hW5]
 clear hW5 hB5 hfr5 h1 f1
 refine (wpIn_wide (n:=5)).1 ?_
 refine wpIn_rangeFunc_ownF rfl (by decide) (gf:=131) (lb:=#[.pointer (some ⟨G+1,0,none⟩)]) rfl trivial (enters_of Tryz.func131 (by kernel_rfl) rfl)
  (points_stops Fence.wide (5-1) trivial rfl (by decide) (G+1) u v n (by omega) (by omega) W5 hit)
  (fun h1 h2=>h2.trans h1) (fun W l o o' hl _ _ _=>World.putObj_heap_other (by omega)) (Below.refl _ _) (fun _=>rfl)
  (fun pre W=>CopyI w W L p b nb rg Dv dbs s z fs1 H G x y n u v pre)
  (fun c pre W=>CopyX A w W b z fs1 H p x y n u v c pre)
  ?own ?ownx HI0.out
  (fun pt=>{ tmps:=#[.pointer (some ⟨p,0,none⟩),.agg #[.int .i64 x,.int .i64 y,.int .i64 n],.pointer (some ⟨H,0,none⟩),.pointer (some ⟨H+1,0,none⟩),.pointer (some ⟨H+1+1,0,none⟩),.pointer (some ⟨G,0,none⟩),.nilIface,.int .i64 pt.1.1,.int .i64 pt.1.2,.tuple #[.agg #[.int .i64 u,.int .i64 v,.int .i64 n],.nilIface],.pointer (some ⟨p,0,none⟩),.agg #[.int .i64 x,.int .i64 y,.int .i64 n],.tuple #[.agg #[.int .i64 u,.int .i64 v,.int .i64 n],.nilIface],.agg #[.int .i64 u,.int .i64 v,.int .i64 n],.nilIface,.nilIface,.bool false,undef,.agg #[.int .i64 u,.int .i64 v,.int .i64 n],.func (.func 131) #[] #[.pointer (some ⟨G+1,0,none⟩)],.int .i64 pt.1.1,.int .i64 pt.1.2,undef,undef,undef,undef,undef,undef,undef,undef,undef,undef,undef,undef,undef,undef,undef,undef,undef,undef,undef,undef,undef,undef,undef,undef],defers:=[] }) ?assign ?body ?done ?stop
 case own =>
  rintro pre W W' row ⟨i1,i2,i3,i4,i5,i6⟩ hg hr
  have hr':∀ r,row=some r->G+2<=r:=fun r e=>by have:=(hr r e).1;omega
  have fg:Frm (fun k=>row=some k) W W':=(Frm.refl _ W).grown hg (fun k e=>.inl e)
  refine ⟨i1.grown (B:=H) HLT.out hg (fun r e=>by have:=hr' r e;omega),i2.frm fg (fun k e=>by have:=hr' k e;omega),(fg.block _ (heap_lt i3) (fun e=>by have:=hr' _ e;omega)).trans i3,(fg.block _ (heap_lt i4) (fun e=>by have:=hr' _ e;omega)).trans i4,?_,i6⟩
  exact i5.grown hg (fun k e=>.inr (by have:=hr' k e;have:=HH.out;omega))
 case ownx =>
  rintro c pre W W' row ⟨i1,i2,i3,i4⟩ hg hr
  have hr':∀ r,row=some r->G+2<=r:=fun r e=>by have:=(hr r e).1;omega
  have fg:Frm (fun k=>row=some k) W W':=(Frm.refl _ W).grown hg (fun k e=>.inl e)
  exact ⟨i1,i2.frm fg (fun k e=>by have:=hr' k e;omega),i3.grown hg (fun k e=>.inr (by have:=hr' k e;have:=HH.out;omega)),i4⟩
 case assign =>
  intro l pt W K hK
  dsimp only [encPt]
  gi_wp2
  exact hK
 case body =>
  rintro l pre ⟨⟨PX,PY⟩,⟨hpx1,hpx2⟩,hpy1,hpy2⟩ W ⟨i1,i2,i3,i4,i5,i6⟩ hlen
  dsimp only at hpx1 hpx2 hpy1 hpy2 ⊢
  obtain ⟨K,hK⟩:∃ K,K=PY*z+PX:=⟨_,rfl⟩
  have hKz:K<z*z:=by rw [hK];exact spot_lt (by omega) (by omega)
  have hKZ:K<Z:=by rw [HZ.out];exact hKz
  obtain ⟨BV,hBV⟩:∃ BV,BV=fs1.rd.getD K false:=⟨_,rfl⟩
  have d1:=i1.c1
  have d5:=i1.c5
  rw [<- HZ.out] at d5
  have dk:=i1.read.cell K hKz
  rw [<- hBV] at dk
  have k00:=cell_of_row _ _ 0 _ _ _ i2.b0
  simp at k00
  have hw0:(PY:Int)*z+PX=(K:Int):=by rw [hK];simp
  have hwb:(PY:Int)*z<=256/\0<=(PY:Int)*z:=⟨by omega,by rw [<- Int.natCast_mul];omega⟩
  have hw1:IntKind.i64.wrap ((PY:Int)*z)=(PY:Int)*z:=by rw [IntKind.wrap_i64];omega
  have hw2:IntKind.i64.wrap ((PY:Int)*z+PX)=(K:Int):=by rw [IntKind.wrap_i64];omega
  have hKZ':(K:Int)<(Z:Int):=by omega
  have k9:=HE9.out W i5
  have kf:W.cell? ⟨H+1+1,0,none⟩=some .nilIface:=cell_of_row _ _ 0 _ _ _ i2.b2
  have zf:=frozen_of_row _ _ 0 _ _ i2.b2
  have HI:Hid (CopyI w W L p b nb rg Dv dbs s z fs1 H G x y n u v pre):=⟨i1,i2,i3,i4,i5,i6⟩
  have HBV:Hid (BV=fs1.rd.getD (PY*z+PX) false):=by rw [<- hK];exact hBV
  clear i1 i2 i3 i4 i5 i6 hBV hK hwb hw0
  gi_wp2
  refine region_round_at (S:=fun w'=>w'.cell? ⟨H,0,none⟩=some (.pointer (some ⟨p,0,none⟩))/\w'.cell? ⟨p,1,none⟩=some (.int .i64 z)/\w'.cell? ⟨p,5,none⟩=some (.slice (some ⟨rg,0,none⟩) Z Z)/\w'.cell? ⟨rg,K,none⟩=some (.bool BV)) 15 #[false,false,false,false,false,false,false,false,false,false,false,false,false,false,false] rfl rfl hmx (by kernel_rfl) (fun ⟨_,_,h⟩=>h) ?_
  have hS0:(W.drew.cell? ⟨H,0,none⟩=some (.pointer (some ⟨p,0,none⟩))/\W.drew.cell? ⟨p,1,none⟩=some (.int .i64 z)/\W.drew.cell? ⟨p,5,none⟩=some (.slice (some ⟨rg,0,none⟩) Z Z)/\W.drew.cell? ⟨rg,K,none⟩=some (.bool BV)):=⟨k00,d1,d5,dk⟩
  refine tk_at 0 22 (.pointer (some ⟨p,0,none⟩)) #[true,false,false,false,false,false,false,false,false,false,false,false,false,false,false] rfl rfl rfl (by kernel_rfl) (by rfl) (by rintro w ⟨t0,t1,t5,tk⟩;go_simp) (by assumption) ?_
  simp only [sIb,sCs,sCz]
  refine tk_at 1 23 (.pointer (some ⟨p,0,none⟩)) #[true,true,false,false,false,false,false,false,false,false,false,false,false,false,false] rfl rfl rfl (by kernel_rfl) (by rfl) (by rintro w ⟨t0,t1,t5,tk⟩;go_simp) (by assumption) ?_
  simp only [sIb,sCs,sCz]
  refine tk_at 2 24 (.pointer (some ⟨p,5,none⟩)) #[true,true,true,false,false,false,false,false,false,false,false,false,false,false,false] rfl rfl rfl (by kernel_rfl) (by rfl) (by rintro w ⟨t0,t1,t5,tk⟩;go_simp) (by assumption) ?_
  simp only [sIb,sCs,sCz]
  refine tk_at 3 25 (.slice (some ⟨rg,0,none⟩) Z Z) #[true,true,true,true,false,false,false,false,false,false,false,false,false,false,false] rfl rfl rfl (by kernel_rfl) (by rfl) (by rintro w ⟨t0,t1,t5,tk⟩;go_simp) (by assumption) ?_
  simp only [sIb,sCs,sCz]
  refine tk_at 4 26 (.int .i64 PY) #[true,true,true,true,true,false,false,false,false,false,false,false,false,false,false] rfl rfl rfl (by kernel_rfl) (by rfl) (by rintro w ⟨t0,t1,t5,tk⟩;go_simp) (by assumption) ?_
  simp only [sIb,sCs,sCz]
  refine tk_at 5 27 (.pointer (some ⟨p,0,none⟩)) #[true,true,true,true,true,true,false,false,false,false,false,false,false,false,false] rfl rfl rfl (by kernel_rfl) (by rfl) (by rintro w ⟨t0,t1,t5,tk⟩;go_simp) (by assumption) ?_
  simp only [sIb,sCs,sCz]
  refine tk_at 6 28 (.pointer (some ⟨p,0,none⟩)) #[true,true,true,true,true,true,true,false,false,false,false,false,false,false,false] rfl rfl rfl (by kernel_rfl) (by rfl) (by rintro w ⟨t0,t1,t5,tk⟩;go_simp) (by assumption) ?_
  simp only [sIb,sCs,sCz]
  refine tk_at 7 29 (.pointer (some ⟨p,1,none⟩)) #[true,true,true,true,true,true,true,true,false,false,false,false,false,false,false] rfl rfl rfl (by kernel_rfl) (by rfl) (by rintro w ⟨t0,t1,t5,tk⟩;go_simp) (by assumption) ?_
  simp only [sIb,sCs,sCz]
  refine tk_at 8 30 (.int .i64 z) #[true,true,true,true,true,true,true,true,true,false,false,false,false,false,false] rfl rfl rfl (by kernel_rfl) (by rfl) (by rintro w ⟨t0,t1,t5,tk⟩;go_simp) (by assumption) ?_
  simp only [sIb,sCs,sCz]
  refine tk_at 9 31 (.int .i64 ((PY:Int)*z)) #[true,true,true,true,true,true,true,true,true,true,false,false,false,false,false] rfl rfl rfl (by kernel_rfl) (by rfl) (by rintro w ⟨t0,t1,t5,tk⟩;go_simp) (by assumption) ?_
  simp only [sIb,sCs,sCz]
  refine tk_at 10 32 (.int .i64 PX) #[true,true,true,true,true,true,true,true,true,true,true,false,false,false,false] rfl rfl rfl (by kernel_rfl) (by rfl) (by rintro w ⟨t0,t1,t5,tk⟩;go_simp) (by assumption) ?_
  simp only [sIb,sCs,sCz]
  refine tk_at 11 33 (.int .i64 K) #[true,true,true,true,true,true,true,true,true,true,true,true,false,false,false] rfl rfl rfl (by kernel_rfl) (by rfl) (by rintro w ⟨t0,t1,t5,tk⟩;go_simp) (by assumption) ?_
  simp only [sIb,sCs,sCz]
  refine tk_at 12 34 (.pointer (some ⟨rg,K,none⟩)) #[true,true,true,true,true,true,true,true,true,true,true,true,true,false,false] rfl rfl rfl (by kernel_rfl) (by rfl) (by rintro w ⟨t0,t1,t5,tk⟩;go_simp) (by assumption) ?_
  simp only [sIb,sCs,sCz]
  refine tk_at 13 35 (.bool BV) #[true,true,true,true,true,true,true,true,true,true,true,true,true,true,false] rfl rfl rfl (by kernel_rfl) (by rfl) (by rintro w ⟨t0,t1,t5,tk⟩;go_simp) (by assumption) ?_
  simp only [sIb,sCs,sCz]
  refine tk_at 14 36 (.bool (!BV)) #[true,true,true,true,true,true,true,true,true,true,true,true,true,true,true] rfl rfl rfl (by kernel_rfl) (by rfl) (by rintro w ⟨t0,t1,t5,tk⟩;go_simp) (by assumption) ?_
  simp only [sIb,sCs,sCz]
  refine wpAnyH_done (by kernel_rfl) ?_ _
  cases BV
  ·gi_wp2
   obtain ⟨i1,i2,i3,i4,i5,i6⟩:=HI.out
   obtain ⟨X,hX⟩:∃ X,X=W.drew.setCell ⟨H+1+1,0,none⟩ (.iface 278 (.pointer (some (A 9)))):=⟨_,rfl⟩
   have fX:Frm (fun k=>k=H+1+1) W X:=by rw [hX];exact Frm.setCell (p:=⟨H+1+1,0,none⟩) ((Frm.refl (fun k=>k=H+1+1) W).drew) (.inl rfl) _
   first|rw [<- hX]|(rw [show (W.setCell ⟨H+1+1,0,none⟩ (.iface 278 (.pointer (some (A 9))))).drew=X from hX.symm])
   refine ⟨keeps_frm fX (fun k e=>by rw [e];exact ⟨_,kf⟩),rfl,?_,frm_new i5 (G:=H+1+1) fX (by have:=HH.out;omega),⟨⟨(PX,PY),⟨hpx1,hpx2⟩,hpy1,hpy2⟩,by simp,HBV.out.symm⟩⟩
   refine ⟨(fX.block _ (heap_lt i2.b0) (by omega)).trans i2.b0,(fX.block _ (heap_lt i2.b1) (by omega)).trans i2.b1,?_⟩
   rw [hX]
   have hd:W.drew.heap[H+1+1]?=some (.cells #[.nilIface] 62 (0,0)):=i2.b2
   rw [Go.heap_setCell_same _ _ _ _ _ _ hd]
   rfl
  ·gi_wp2
   obtain ⟨i1,i2,i3,i4,i5,i6⟩:=HI.out
   have fd:Frm (fun _=>False) W W.drew:=(Frm.refl _ _).drew
   refine ⟨keeps_frm fd (fun k e=>e.elim),rfl,i1.frm fd (fun _ _ e=>e),i2.frm fd (fun _ e=>e.elim),i3,i4,i5.drew,?_⟩
   intro q hq
   rcases List.mem_append.1 hq with hq|hq
   ·exact i6 q hq
   ·obtain rfl:=List.mem_singleton.1 hq
    exact HBV.out.symm
 case done =>
  rintro D ys W hD hys ⟨i1,i2,i3,i4,i5,i6⟩ hK
  have hDs:G+2<=D:=by omega
  have HALL:Hid (∀ q ∈ Flm.spots u v n,fs1.rd.getD (q.2*z+q.1) false=true):=fun q hq=>by
   rw [<- hys] at hq
   obtain ⟨q',hq',rfl⟩:=List.mem_map.1 hq
   exact i6 q' hq'
  have d3:=i1.c3
  have d4:=i1.c4
  rw [<- HZ.out] at d4
  have k00:=cell_of_row _ _ 0 _ _ _ i2.b0
  have k10:=cell_of_row _ _ 0 _ _ _ i2.b1
  have k11:=cell_of_row _ _ 1 _ _ _ i2.b1
  have k12:=cell_of_row _ _ 2 _ _ _ i2.b1
  have k20:=cell_of_row _ _ 0 _ _ _ i3
  have k21:=cell_of_row _ _ 1 _ _ _ i3
  have k22:=cell_of_row _ _ 2 _ _ _ i3
  simp at k00 k10 k11 k12 k20 k21 k22
  have HTK:Hid (∀ wx,Below W.heap.size W wx->Calls Tryz.prog 171 #[.pointer (some ⟨p,0,none⟩),.agg #[.int .i64 x,.int .i64 y,.int .i64 n],.agg #[.int .i64 z,.slice (some ⟨nb,0,none⟩) Z Z],.agg #[.int .i64 u,.int .i64 v,.int .i64 n]] wx fun e w'=>e=.returned (.tuple #[])/\PAt w' L p b nb rg Dv dbs s z (Flm.moves z (Flm.now fs1) ((u:Int)-x) ((v:Int)-y) (Flm.spots x y n) fs1)/\Frm (fun k=>k=nb) wx w'):=fun wx hb=>by
   have:=pTakeF wx L p b nb rg nb (Flm.now fs1) Dv dbs s z fs1 (i1.below hb) x y n u v hx hy hu hv HNW.out
   rw [HZ.out]
   exact this
  have HI:Hid (FBox W H p x y n .nilIface/\Frm (oneS b) w W/\W.heap[D]?=some (.deferred (some []))):=⟨i2,i5,hK⟩
  have hpW:p<W.heap.size:=i1.up.1
  have hHW:H<W.heap.size:=heap_lt i2.b0
  have hHW1:H+1<W.heap.size:=heap_lt i2.b1
  have hGW:G<W.heap.size:=heap_lt i3
  have hpnb:¬ p=nb:=i1.nes.1.2.2.1
  clear i1 i2 i3 i4 i5 i6 hK
  go_wp2_with fail
  refine region_calm (S:=fun w'=>w'.cell? ⟨H,0,none⟩=some (.pointer (some ⟨p,0,none⟩))/\w'.cell? ⟨H+1,0,none⟩=some (.int .i64 x)/\w'.cell? ⟨H+1,1,none⟩=some (.int .i64 y)/\w'.cell? ⟨H+1,2,none⟩=some (.int .i64 n)/\w'.cell? ⟨p,3,none⟩=some (.int .i64 z)/\w'.cell? ⟨p,4,none⟩=some (.slice (some ⟨nb,0,none⟩) Z Z)/\w'.cell? ⟨G,0,none⟩=some (.int .i64 u)/\w'.cell? ⟨G,1,none⟩=some (.int .i64 v)/\w'.cell? ⟨G,2,none⟩=some (.int .i64 n)) 8 #[false,false,false,false,false,false,false,false] rfl rfl hmx ?_
  have hS0:(W.drew.cell? ⟨H,0,none⟩=some (.pointer (some ⟨p,0,none⟩))/\W.drew.cell? ⟨H+1,0,none⟩=some (.int .i64 x)/\W.drew.cell? ⟨H+1,1,none⟩=some (.int .i64 y)/\W.drew.cell? ⟨H+1,2,none⟩=some (.int .i64 n)/\W.drew.cell? ⟨p,3,none⟩=some (.int .i64 z)/\W.drew.cell? ⟨p,4,none⟩=some (.slice (some ⟨nb,0,none⟩) Z Z)/\W.drew.cell? ⟨G,0,none⟩=some (.int .i64 u)/\W.drew.cell? ⟨G,1,none⟩=some (.int .i64 v)/\W.drew.cell? ⟨G,2,none⟩=some (.int .i64 n)):=⟨k00,k10,k11,k12,d3,d4,k20,k21,k22⟩
  refine tk_at 0 38 (.pointer (some ⟨p,0,none⟩)) #[true,false,false,false,false,false,false,false] rfl rfl rfl (by kernel_rfl) (by rfl) (by rintro w ⟨t0,t1,t2,t3,t4,t5,t6,t7,t8⟩;go_simp) (by assumption) ?_
  simp only [sIb,sCs,sCz]
  refine tk_at 1 39 (.agg #[.int .i64 x,.int .i64 y,.int .i64 n]) #[true,true,false,false,false,false,false,false] rfl rfl rfl (by kernel_rfl) (by rfl) (by rintro w ⟨t0,t1,t2,t3,t4,t5,t6,t7,t8⟩;go_simp) (by assumption) ?_
  simp only [sIb,sCs,sCz]
  refine tk_at 2 40 (.pointer (some ⟨p,0,none⟩)) #[true,true,true,false,false,false,false,false] rfl rfl rfl (by kernel_rfl) (by rfl) (by rintro w ⟨t0,t1,t2,t3,t4,t5,t6,t7,t8⟩;go_simp) (by assumption) ?_
  simp only [sIb,sCs,sCz]
  refine tk_at 3 41 (.pointer (some ⟨p,0,none⟩)) #[true,true,true,true,false,false,false,false] rfl rfl rfl (by kernel_rfl) (by rfl) (by rintro w ⟨t0,t1,t2,t3,t4,t5,t6,t7,t8⟩;go_simp) (by assumption) ?_
  simp only [sIb,sCs,sCz]
  refine tk_at 4 42 (.pointer (some ⟨p,3,none⟩)) #[true,true,true,true,true,false,false,false] rfl rfl rfl (by kernel_rfl) (by rfl) (by rintro w ⟨t0,t1,t2,t3,t4,t5,t6,t7,t8⟩;go_simp) (by assumption) ?_
  simp only [sIb,sCs,sCz]
  refine tk_at 5 43 (.agg #[.int .i64 z,.slice (some ⟨nb,0,none⟩) Z Z]) #[true,true,true,true,true,true,false,false] rfl rfl rfl (by kernel_rfl) (by rfl) (by rintro w ⟨t0,t1,t2,t3,t4,t5,t6,t7,t8⟩;go_simp) (by assumption) ?_
  simp only [sIb,sCs,sCz]
  refine tk_at 6 44 (.agg #[.int .i64 u,.int .i64 v,.int .i64 n]) #[true,true,true,true,true,true,true,false] rfl rfl rfl (by kernel_rfl) (by rfl) (by rintro w ⟨t0,t1,t2,t3,t4,t5,t6,t7,t8⟩;go_simp) (by assumption) ?_
  simp only [sIb,sCs,sCz]
  refine enter_at (i:=7) (d:=45) (f:=171) (args:=#[.pointer (some ⟨p,0,none⟩),.agg #[.int .i64 x,.int .i64 y,.int .i64 n],.agg #[.int .i64 z,.slice (some ⟨nb,0,none⟩) Z Z],.agg #[.int .i64 u,.int .i64 v,.int .i64 n]]) #[true,true,true,true,true,true,true,true] (by kernel_rfl) rfl rfl rfl (by rfl) (by go_simp) (fun v' w'=>v'=.tuple #[]/\PAt w' L p b nb rg Dv dbs s z (Flm.moves z (Flm.now fs1) ((u:Int)-x) ((v:Int)-y) (Flm.spots x y n) fs1)/\Frm (fun k=>k=nb) W w') ((HTK.out _ (below_drewN (Below.refl _ W) 1)).mono (fun e w' he=>⟨_,he.1,rfl,he.2.1,((Frm.refl (fun k=>k=nb) W).drew).trans he.2.2⟩)) ?_
  rintro va wa ⟨rfl,ha,fa⟩
  have hN0:¬ H=nb:=by omega
  have hN1:¬ H+1=nb:=by omega
  have hNG:¬ G=nb:=by omega
  refine ⟨⟨fa.cell k00 hN0,fa.cell k10 hN1,fa.cell k11 hN1,fa.cell k12 hN1,fa.cell d3 hpnb,fa.cell d4 hpnb,fa.cell k20 hNG,fa.cell k21 hNG,fa.cell k22 hNG⟩,?_⟩
  refine wpAnyH_done (by kernel_rfl) ?_ _
  dsimp only [calmPost]
  simp only [sIb,sCs,sCz]
  clear k00 k10 k11 k12 d3 d4 k20 k21 k22 hS0
  have hfa:FBox wa H p x y n .nilIface:=HI.out.1.frm fa (fun k e=>by omega)
  have kf:wa.cell? ⟨H+1+1,0,none⟩=some .nilIface:=cell_of_row _ _ 0 _ _ _ hfa.b2
  have zf:=frozen_of_row _ _ 0 _ _ hfa.b2
  have hKa:wa.heap[D]?=some (.deferred (some [])):=(fa.block _ (heap_lt HI.out.2.2) (by omega)).trans HI.out.2.2
  have HWA:Hid (PAt wa L p b nb rg Dv dbs s z (Flm.moves z (Flm.now fs1) ((u:Int)-x) ((v:Int)-y) (Flm.spots x y n) fs1)/\Frm (fun k=>k=nb) W wa/\wa.heap[D]?=some (.deferred (some []))):=⟨ha,fa,hKa⟩
  clear ha fa hfa hKa
  go_wp2_with fail
  obtain ⟨X,hX⟩:∃ X,X=wa.setCell ⟨H+1+1,0,none⟩ .nilIface:=⟨_,rfl⟩
  rw [<- hX]
  obtain ⟨ha,fa,hKa⟩:=HWA.out
  have fX:Frm (fun k=>k=H+1+1) wa X:=by rw [hX];exact Frm.setCell (p:=⟨H+1+1,0,none⟩) (Frm.refl (fun k=>k=H+1+1) wa) (.inl rfl) _
  have q0:X.cell? ⟨H+1+1,0,none⟩=some .nilIface:=by rw [hX];exact World.cell?_setCell_same _ _ _ kf
  have hKX:X.heap[D]?=some (.deferred (some [])):=(fX.block _ (heap_lt hKa) (by omega)).trans hKa
  have hg:=grownBy_putObj' X D (.deferred none)
  have fg:Frm (fun k=>k=D) X (X.putObj D (.deferred none)):=(Frm.refl _ X).grown hg (fun k e=>by cases e;exact .inl rfl)
  have q1:(X.putObj D (.deferred none)).cell? ⟨H+1+1,0,none⟩=some .nilIface:=fg.cell q0 (by show ¬ H+1+1=D;omega)
  refine retM_mark (v:=.nilIface) rfl hKX (by simp [results,Tryz.results149,go_sem,q1]) ?_
  refine .inl ⟨HALL.out,rfl,(ha.frm fX (fun k hk e=>by have:=HLT.out k hk;omega)).frm fg (fun k hk e=>by have:=HLT.out k hk;omega),?_⟩
  have fW:Frm (blkS b nb) w wa:=(frm_one_blk HI.out.2.1).trans (frm_nb_blk fa)
  exact frm_new (frm_new fW (G:=H+1+1) fX (by have:=HH.out;omega)) (G:=D) fg (by have:=HH.out;omega)
 case stop =>
  rintro D c pre W hD hpre ⟨rfl,i2,i3,q,hq,hq0⟩ hK
  have hDs:G+2<=D:=by omega
  have q0:W.cell? ⟨H+1+1,0,none⟩=some (.iface 278 (.pointer (some (A 9)))):=cell_of_row _ _ 0 _ _ _ i2.b2
  have hqs:q.1 ∈ Flm.spots u v n:=hpre.subset (List.mem_map.2 ⟨q,hq,rfl⟩)
  have HR:Hid ((∃ q ∈ Flm.spots u v n,fs1.rd.getD (q.2*z+q.1) false=false)/\Frm (oneS b) w W/\W.heap[D]?=some (.deferred (some []))):=⟨⟨q.1,hqs,hq0⟩,i3,hK⟩
  clear i2 i3 hq hq0 hK hqs hpre
  refine wpIn_wide.2 ?_
  go_wp2_with fail
  obtain ⟨r1,r2,r3⟩:=HR.out
  have hg:=grownBy_putObj' W D (.deferred none)
  have fg:Frm (fun k=>k=D) W (W.putObj D (.deferred none)):=(Frm.refl _ W).grown hg (fun k e=>by cases e;exact .inl rfl)
  have q1:(W.putObj D (.deferred none)).cell? ⟨H+1+1,0,none⟩=some (.iface 278 (.pointer (some (A 9)))):=fg.cell q0 (by show ¬ H+1+1=D;omega)
  refine retM_mark (v:=.iface 278 (.pointer (some (A 9)))) rfl r3 (by simp [results,Tryz.results149,go_sem,q1]) ?_
  exact .inr ⟨r1,rfl,frm_new (frm_one_blk r2) (G:=D) fg (by have:=HH.out;omega)⟩
theorem hasB_nat {z n:Nat} {a b:Int} (h:hasB z a b n=true):∃ u v:Nat,(u:Int)=a/\(v:Int)=b/\u+n<=z/\v+n<=z:=by
 rw [Flm.hasB_iff] at h
 exact ⟨a.toNat,b.toNat,by omega,by omega,by omega,by omega⟩
theorem pCopied (w:World) (L p b nb rg:Nat) (Dv:Value) (dbs:List Nat) (s:ByteArray) (z:Nat) (fs:FS) (A:Nat->Addr) (h:PAt w L p b nb rg Dv dbs s z fs) (hs:s.size<=maxLen) (E:ErrsL w A L) (hLw:L<=w.heap.size) (x y n:Nat) (hn:0<n) (hx:x+n<=z) (hy:y+n<=z) :
  Calls Tryz.prog 149 #[.pointer (some ⟨p,0,none⟩),.agg #[.int .i64 x,.int .i64 y,.int .i64 n]] w (BlkPost A w L p b nb rg Dv dbs s z (Flm.copies s z x y n 260 (Flm.now fs) fs)):=by
 have hz16:=h.z16
 have HS:=fun wx (hb:Below w.heap.size w wx)=>pSource wx L p b nb rg Dv dbs s z fs A (h.below hb) hs (E.below (hb.mono hLw)) (by have:=hb.size;omega) x y n 260 284 (by decide) (by decide) (by omega) (by omega) (by omega)
 by_cases e1:(Flm.srcR s fs.r 260 (260+24)).err=0
 ·cases hB:hasB z (x+Flm.srcX s fs.r 260) (y+Flm.srcY s fs.r 260 (260+24)) n
  ·refine (pCopied_bad w L p b nb rg Dv dbs s z fs h x y n (A 9) (fun wx hb=>(HS wx hb).mono ?_)).mono ?_
   ·rintro e w' ⟨⟨_,h2,_⟩,_,f⟩
    exact ⟨h2 e1 hB,f⟩
   ·rintro e w' ⟨rfl,f⟩
    rw [Flm.copies_out e1 hn hB]
    have e9:(Rdr.fail (Flm.srcR s fs.r 260 (260+24)) 9).err=9:=Rdr.fail_zero e1
    refine ⟨?_,fun he=>?_,frm_one_blk f⟩
    ·dsimp only;rw [e9];rfl
    ·dsimp only at he;rw [e9] at he;cases he
  ·obtain ⟨u,v,hu,hv,hu1,hv1⟩:=hasB_nat hB
   refine (pCopied_in w L p b nb rg Dv dbs s z fs A h E hLw x y n { fs with r:=Flm.srcR s fs.r 260 (260+24) } u v hu1 hv1 hx hy rfl (fun wx hb=>(HS wx hb).mono ?_)).mono ?_
   ·rintro e w' ⟨⟨_,_,h3⟩,hg,f⟩
    refine ⟨?_,hg e1,f⟩
    rw [hu,hv]
    exact h3 e1 hB
   ·rintro e w' (⟨hr,rfl,hp,f⟩|⟨⟨q,hq,hq0⟩,rfl,f⟩)
    ·rw [Flm.copies_in e1 hu hv hu1 hv1 (fun _=>hr)]
     have he:=hp.err
     refine ⟨?_,fun _=>hp,f⟩
     exact congrArg Ending.returned (by rw [show (Flm.moves z (Flm.now fs) ((u:Int)-x) ((v:Int)-y) (Flm.spots x y n) { fs with r:=Flm.srcR s fs.r 260 (260+24) }).r.err=0 from he];rfl)
    ·rw [Flm.copies_unread e1 hu hv hq hq0]
     have e9:(Rdr.fail (Flm.srcR s fs.r 260 (260+24)) 9).err=9:=Rdr.fail_zero e1
     refine ⟨?_,fun he=>?_,f⟩
     ·dsimp only;rw [e9];rfl
     ·dsimp only at he;rw [e9] at he;cases he
 ·refine (pCopied_bad w L p b nb rg Dv dbs s z fs h x y n (A (Flm.srcR s fs.r 260 (260+24)).err.toNat) (fun wx hb=>(HS wx hb).mono ?_)).mono ?_
  ·rintro e w' ⟨⟨h1,_,_⟩,_,f⟩
   refine ⟨?_,f⟩
   rw [<- errA_pos A e1]
   exact h1 e1
  ·rintro e w' ⟨rfl,f⟩
   rw [Flm.copies_err e1]
   refine ⟨?_,fun he=>absurd he e1,frm_one_blk f⟩
   rw [errA_pos A e1]
end
end Go.Proofs.YtekfbphnoibnjaaGreatDoor
