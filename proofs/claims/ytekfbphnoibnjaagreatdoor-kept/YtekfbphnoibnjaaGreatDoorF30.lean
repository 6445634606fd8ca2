/-
  PSoft
-/
import Derived.Test.YtekfbphnoibnjaaGreatDoorF29
set_option maxHeartbeats 4000000
namespace Go.Proofs.YtekfbphnoibnjaaGreatDoor
section
open Go.RowKit Go.Shelf
open Flm (Px FS)
attribute [local go_sem] Oper.semAt_some
def mix3 (f g:Nat->Int) (k:Nat):Px:=(if 0<k then g 0 else f 0,if 1<k then g 1 else f 1,if 2<k then g 2 else f 2)
theorem Box3.mix {w:World} {A:Nat} {f g:Nat->Int} {k:Nat} (h:Box3 w A (mix3 f g k)) (hk:k<3):Box3 (w.setCell ⟨A,k,none⟩ (.int .i64 (g k))) A (mix3 f g (k+1)):=by
 unfold Box3
 rw [heap_setCell_same w A k _ _ _ h]
 rcases (by omega:k=0 \/ k=1 \/ k=2) with rfl|rfl|rfl <;> simp [mix3]
theorem mix3_at {f g:Nat->Int} {k:Nat} (hk:k<3):Flm.pick (mix3 f g k) k=f k:=by
 rcases (by omega:k=0 \/ k=1 \/ k=2) with rfl|rfl|rfl <;> simp [mix3,Flm.pick]
theorem exp3_bd {w:World} {L p b nb rg:Nat} {Dv:Value} {dbs:List Nat} {s:ByteArray} {z:Nat} {fs:FS} (h:PAt w L p b nb rg Dv dbs s z fs) (x y k:Nat):-255<=Flm.exp3 z fs x y k/\Flm.exp3 z fs x y k<=255 :=
 Flm.expected_bd (Flm.near_bd h.px _ _ k).1 (Flm.near_bd h.px _ _ k).2 (Flm.near_bd h.px _ _ k).1 (Flm.near_bd h.px _ _ k).2
def SoftR (W wr:World) (L p b nb rg:Nat) (Dv:Value) (dbs:List Nat) (s:ByteArray) (z:Nat) (g:FS) (ex:Nat->Int) (H T O x y n PX PY k:Nat):Prop :=
 PAt wr L p b nb rg Dv dbs s z { g with r:=Flm.rAt s g.r k }/\FBox wr H p x y n .nilIface/\wr.heap[T]?=some (.cells #[.int .i64 x,.int .i64 y,.int .i64 n] 100 (0,0))/\Box3 wr O (mix3 ex (Flm.cOf s z g PX PY) k)/\Frm (oneS b) W wr
def SoftJ (w W:World) (L p b nb rg:Nat) (Dv:Value) (dbs:List Nat) (s:ByteArray) (z:Nat) (fs:FS) (H T x y n:Nat) (pre:List (Pt x y n)):Prop :=
 PAt W L p b nb rg Dv dbs s z ((pre.map (·.1)).foldl (Flm.softF s z) fs)/\FBox W H p x y n .nilIface/\W.heap[T]?=some (.cells #[.int .i64 x,.int .i64 y,.int .i64 n] 100 (0,0))/\Frm (blkS b nb) w W
def SoftY (A:Nat->Addr) (w W:World) (b nb:Nat) (s:ByteArray) (z:Nat) (fs:FS) (H p x y n:Nat) (c:Code) (pre:List (Pt x y n)):Prop :=
 c=.ret/\FBox W H p x y n (.iface 278 (.pointer (some (A ((pre.map (·.1)).foldl (Flm.softF s z) fs).r.err.toNat))))/\((pre.map (·.1)).foldl (Flm.softF s z) fs).r.err ≠ 0/\Frm (blkS b nb) w W
set_option maxRecDepth 100000 in
theorem pSoft (w:World) (L p b nb rg:Nat) (Dv:Value) (dbs:List Nat) (s:ByteArray) (z:Nat) (fs:FS) (A:Nat->Addr) (h:PAt w L p b nb rg Dv dbs s z fs) (hs:s.size<=maxLen) (E:ErrsL w A L) (SG:SoftG w L) (hLw:L<=w.heap.size) (x y n:Nat) (hx:x+n<=z) (hy:y+n<=z) :
  Calls Tryz.prog 147 #[.pointer (some ⟨p,0,none⟩),.agg #[.int .i64 x,.int .i64 y,.int .i64 n]] w (BlkPost A w L p b nb rg Dv dbs s z (Flm.soft s z (Flm.spots x y n) fs)):=by
 rw [Flm.soft_fold s z _ _ h.err]
 obtain ⟨FR,hFR⟩:∃ FR,FR=(Flm.spots x y n).foldl (Flm.softF s z) fs:=⟨_,rfl⟩
 rw [<- hFR]
 have HFR:Hid (FR=(Flm.spots x y n).foldl (Flm.softF s z) fs):=hFR
 clear hFR
 obtain ⟨Z,hZ⟩:∃ Z,Z=z*z:=⟨_,rfl⟩
 have hz16:=h.z16
 obtain ⟨H,hH⟩:∃ H,H=w.heap.size:=⟨_,rfl⟩
 obtain ⟨W3,hW3⟩:∃ W3,W3=((w.alloc (.cells #[.pointer (some ⟨p,0,none⟩)] 107)).alloc (.cells #[.int .i64 x,.int .i64 y,.int .i64 n] 100)).alloc (.cells #[.nilIface] 62):=⟨_,rfl⟩
 have hB3:Below w.heap.size w W3:=by rw [hW3];exact below3 w _ _ _
 have hF3:FBox W3 H p x y n .nilIface:=by rw [hW3,hH];exact fbox_new w p x y n
 have hs3:W3.heap.size=H+3:=by rw [hW3,hH];simp
 have hlt:∀ k,paB p b nb rg Dv dbs k->k<H:=by rw [hH];exact h.lt
 have hbH:b<H:=hlt b (.inr (.inl rfl))
 have hnbH:nb<H:=hlt nb (.inr (.inr (.inr (.inl rfl))))
 have hpH:p<H:=hlt p (.inl rfl)
 have hmx:Tryz.prog.follows .mixedOrders=true:=by kernel_rfl
 have HLT:Hid (∀ k,paB p b nb rg Dv dbs k->k<H):=hlt
 have HW3:Hid (W3=((w.alloc (.cells #[.pointer (some ⟨p,0,none⟩)] 107)).alloc (.cells #[.int .i64 x,.int .i64 y,.int .i64 n] 100)).alloc (.cells #[.nilIface] 62)):=hW3
 have HES2:Hid (∀ wx,Frm (blkS b nb) w wx->ErrsL wx A L/\L<=wx.heap.size/\SoftG wx L):=fun wx f=>by
  have hb:=f.below hLw (fun k e=>e.elim (fun e=>by rw [e];exact h.lo.2) (fun e=>by rw [e];exact h.nw.lt.1))
  exact ⟨E.below hb,by have:=f.size;omega,SG.below hb⟩
 have HH:Hid (H=w.heap.size):=hH
 have HZ:Hid (Z=z*z):=hZ
 obtain ⟨T,hT⟩:∃ T,T=W3.heap.size:=⟨_,rfl⟩
 have HT:Hid (T=W3.heap.size):=hT
 have HTH:Hid (T=H+3):=by unfold Hid;rw [hT];exact hs3
 have hTH:H+3<=T:=by rw [hT,hs3];omega
 obtain ⟨W7,hW7⟩:∃ W7,W7=W3.alloc (.cells #[.int .i64 x,.int .i64 y,.int .i64 n] 100):=⟨_,rfl⟩
 have HW7:Hid (W7=W3.alloc (.cells #[.int .i64 x,.int .i64 y,.int .i64 n] 100)):=hW7
 have hB7:Below W3.heap.size W3 W7:=by rw [hW7];exact (Below.refl _ W3).alloc (Nat.le_refl _) _
 have hs7:W7.heap.size=T+1:=by rw [hW7,hT];simp
 have hit:W7.heap[T]?=some (.cells #[.int .i64 x,.int .i64 y,.int .i64 n] 100 (0,0)):=by rw [hW7,hT];exact heap_alloc_last W3 _
 have HI0:Hid (SoftJ w W7 L p b nb rg Dv dbs s z fs H T x y n []):=⟨(h.below hB3).below hB7,hF3.below hB7,hit,(Frm.of_below hB3).trans (Frm.of_below hB7)⟩
 have k10:=cell_of_row _ _ 0 _ _ _ hF3.b1
 have k11:=cell_of_row _ _ 1 _ _ _ hF3.b1
 have k12:=cell_of_row _ _ 2 _ _ _ hF3.b1
 simp at k10 k11 k12
 clear h E SG hW3 hB3 hF3 hH hZ hlt hW7 hB7 hT
 refine (callsIn_wide (n:=5)).1 ?_
 refine callsIn_of_wp_marks Tryz.func147 rfl trivial ?_ rfl
 simp only [Tryz.ntmps147,List.size_toArray,List.length_cons,List.length_nil,Nat.reduceAdd,Nat.reduceSub,Array.replicate_succ,Array.replicate_zero,List.push_toArray,List.append_toArray,List.nil_append,List.cons_append]
 refine wpIn_wide.2 ?_
 go_wp2_with (first
  | (rw [<- HW3.out,<- HH.out])
  | (go_at_call 105;refine (pPoints _ _ _ _).mono ?_;rintro e wq ⟨rfl,rfl⟩))
 clear k10 k11 k12
 rw [<- HTH.out,<- HW7.out]
 refine (wpIn_wide (n:=5)).1 ?_
 refine wpIn_rangeFunc_ownF rfl (by decide) (gf:=131) (lb:=#[.pointer (some ⟨T,0,none⟩)]) rfl trivial (enters_of Tryz.func131 (by kernel_rfl) rfl)
  (points_stops Fence.wide (5-1) trivial rfl (by decide) T x y n (by omega) (by omega) W7 hit)
  (fun h1 h2=>h2.trans h1) (fun W l o o' hl _ _ _=>World.putObj_heap_other (by omega)) (Below.refl _ _) (fun _=>rfl)
  (fun pre W=>SoftJ w W L p b nb rg Dv dbs s z fs H T x y n pre)
  (fun c pre W=>SoftY A w W b nb s z fs H p x y n c pre)
  ?own ?ownx HI0.out
  (fun pt=>{ tmps:=#[.pointer (some ⟨p,0,none⟩),.agg #[.int .i64 x,.int .i64 y,.int .i64 n],.pointer (some ⟨H,0,none⟩),.pointer (some ⟨H+1,0,none⟩),.pointer (some ⟨H+1+1,0,none⟩),.int .i64 pt.1.1,.int .i64 pt.1.2,undef,undef,undef,undef,undef,undef,undef,.agg #[.int .i64 x,.int .i64 y,.int .i64 n],.func (.func 131) #[] #[.pointer (some ⟨T,0,none⟩)],.int .i64 pt.1.1,.int .i64 pt.1.2,undef,undef,undef,undef,undef,undef,undef,undef,undef,undef,undef,undef,undef,undef,undef,undef,undef,undef,undef,undef,undef,undef,undef,undef,undef,undef,undef,undef,undef,undef,undef,undef,undef,undef,undef,undef,undef,undef,undef,undef,undef,undef,undef,undef,undef,undef,undef],defers:=[] }) ?assign ?body ?done ?stop
 case own =>
  rintro pre W W' row ⟨i1,i2,i3,i4⟩ hg hr
  have hr':∀ r,row=some r->T+1<=r:=fun r e=>by have:=(hr r e).1;omega
  have fg:Frm (fun k=>row=some k) W W':=(Frm.refl _ W).grown hg (fun k e=>.inl e)
  refine ⟨i1.grown (B:=H) HLT.out hg (fun r e=>by have:=hr' r e;omega),i2.frm fg (fun k e=>by have:=hr' k e;omega),(fg.block _ (heap_lt i3) (fun e=>by have:=hr' _ e;omega)).trans i3,?_⟩
  exact i4.grown hg (fun k e=>.inr (by have:=hr' k e;have:=HH.out;omega))
 case ownx =>
  rintro c pre W W' row ⟨i1,i2,i3,i4⟩ hg hr
  have hr':∀ r,row=some r->T+1<=r:=fun r e=>by have:=(hr r e).1;omega
  have fg:Frm (fun k=>row=some k) W W':=(Frm.refl _ W).grown hg (fun k e=>.inl e)
  exact ⟨i1,i2.frm fg (fun k e=>by have:=hr' k e;omega),i3,i4.grown hg (fun k e=>.inr (by have:=hr' k e;have:=HH.out;omega))⟩
 case assign =>
  intro l pt W K hK
  dsimp only [encPt]
  gi_wp2
  exact hK
 case body =>
  rintro l pre ⟨⟨PX,PY⟩,⟨hpx1,hpx2⟩,hpy1,hpy2⟩ W ⟨i1,i2,i3,i4⟩ hlen
  dsimp only at hpx1 hpx2 hpy1 hpy2 ⊢
  obtain ⟨g,hg⟩:∃ g,g=(pre.map (·.1)).foldl (Flm.softF s z) fs:=⟨_,rfl⟩
  rw [<- hg] at i1
  have HST:Hid (((pre++[(⟨(PX,PY),⟨hpx1,hpx2⟩,hpy1,hpy2⟩:Pt x y n)]).map (·.1)).foldl (Flm.softF s z) fs=Flm.softF s z g (PX,PY)):=by
   rw [List.map_append,List.foldl_append,<- hg];rfl
  have hge:Hid (g.r.err=0):=i1.err
  obtain ⟨ex,hex⟩:∃ ex,ex=Flm.exp3 z g PX PY:=⟨_,rfl⟩
  have HEXP:Hid (Calls Tryz.prog 133 #[.agg #[.int .i64 z,.slice (some ⟨nb,0,none⟩) Z Z],.int .i64 PX,.int .i64 PY] W fun e w'=>e=.returned (.agg #[.int .i64 (ex 0),.int .i64 (ex 1),.int .i64 (ex 2)])/\Below W.heap.size W w'):=by
   have:=pExpected (C:=z*z) W nb z (g.frs.getD (Flm.now g) []) i1.zzle i1.z16 i1.nw.inn (fun k=>i1.px _ k) g rfl i1.px PX PY (by omega) (by omega)
   rw [HZ.out,hex];exact this
  have HEB:Hid (∀ k,-255<=ex k/\ex k<=255):=by rw [hex];exact fun k=>exp3_bd i1 PX PY k
  have HCO:Hid (∀ k,Flm.cOf s z g PX PY k=ex k+Flm.sAt s g.r k):=fun k=>by rw [hex];rfl
  have HW:Hid (PAt W L p b nb rg Dv dbs s z g/\FBox W H p x y n .nilIface/\W.heap[T]?=some (.cells #[.int .i64 x,.int .i64 y,.int .i64 n] 100 (0,0))/\Frm (blkS b nb) w W):=⟨i1,i2,i3,i4⟩
  have HG9:Hid (∀ wx,Below W.heap.size W wx->wx.cell? ⟨9,0,none⟩=some (.int .i64 100)/\wx.cell? ⟨9,1,none⟩=some (.int .i64 124)/\wx.cell? ⟨9,2,none⟩=some (.int .i64 148)/\9<wx.heap.size):=fun wx hb=>by
   obtain ⟨_,e2,e3⟩:=HES2.out W i4
   have e4:=e3.below (hb.mono e2)
   exact ⟨e4.v.1,e4.v.2.1,e4.v.2.2,World.block_lt_of_cell? _ _ e4.v.1⟩
  have d3:=i1.c3
  have d4:=i1.c4
  rw [<- HZ.out] at d4
  have k00:=cell_of_row _ _ 0 _ _ _ i2.b0
  simp at k00
  clear i1 i2 i3 i4 hg hex
  gi_wp2_with (refine ⟨trivial,?_⟩;gi_at_call 133;refine (CallsIn.inRound l (callsIn_wide.2 HEXP.out)).mono ?_;rintro e wa ⟨rfl,ba⟩;obtain ⟨g0,g1,g2,g9⟩:=HG9.out wa ba)
  clear d3 d4 k00
  obtain ⟨O,hO⟩:∃ O,O=wa.heap.size:=⟨_,rfl⟩
  have HO:Hid (O=wa.heap.size):=hO
  obtain ⟨W5,hW5⟩:∃ W5,W5=wa.alloc (.cells #[.int .i64 (ex 0),.int .i64 (ex 1),.int .i64 (ex 2)] 48):=⟨_,rfl⟩
  have hB5:Below wa.heap.size wa W5:=by rw [hW5];exact (Below.refl _ wa).alloc (Nat.le_refl _) _
  have hB6:Below W.heap.size W W5:=ba.trans (hB5.mono ba.size)
  have hOW:W.heap.size<=O:=by rw [hO];exact ba.size
  have HL0:Hid (SoftR W W5 L p b nb rg Dv dbs s z g ex H T O x y n PX PY 0):=by
   obtain ⟨j1,j2,j3,j4⟩:=HW.out
   refine ⟨j1.below hB6,j2.below hB6,(hB6.block _ (heap_lt j3)).trans j3,?_,Frm.of_below hB6⟩
   rw [hW5,hO]
   exact Box3.new wa (ex 0,ex 1,ex 2)
  have hHO:H+3<=O:=by have:=heap_lt HW.out.2.1.b2;omega
  have hTO:T<O:=by have:=heap_lt HW.out.2.2.1;omega
  rw [<- hO,<- hW5]
  clear hW5 hB5 hB6 ba g0 g1 g2 g9 hO
  gi_loopw [26] (fun kv wr=>∃ k:Nat,k<=3/\kv=.int .i64 k/\SoftR W wr L p b nb rg Dv dbs s z g ex H T O x y n PX PY k) (fun kv _=>3-(intOf kv).toNat)
  case atStart=>exact ⟨0,by omega,rfl,HL0.out⟩
  case round =>
   clear HL0
   obtain ⟨k,hk,rfl,j1,j2,j3,j4,j5⟩:=hrel
   by_cases hk3:k<3
   ·have hk3':(k:Int)<3:=by omega
    obtain ⟨kc,hkc⟩:∃ kc,kc=100+24*k:=⟨_,rfl⟩
    have hix:=softIx k kc hk3 hkc
    obtain ⟨e1,e2,e3⟩:=HES2.out wr (HW.out.2.2.2.trans (frm_one_blk j5))
    have HSG:=j1.signed hs e1 e2 kc (by omega)
    have d0:=j1.c0
    have k00:=cell_of_row _ _ 0 _ _ _ j2.b0
    simp at k00
    have hre:Hid ((Flm.rAt s g.r k).err=0):=j1.err
    have HSN:Hid ((Rdr.number s (Flm.rAt s g.r k) kc).2=Flm.rAt s g.r (k+1)):=by rw [hkc];rfl
    have hsb:=signed_bd (s:=s) (r:=Flm.rAt s g.r k) (k:=kc) j1.ok (by omega)
    obtain ⟨sv,hsv⟩:∃ sv,sv=Rdr.signed s (Flm.rAt s g.r k) kc:=⟨_,rfl⟩
    have HCK:Hid (Flm.cOf s z g PX PY k=ex k+sv):=by unfold Hid;rw [HCO.out k,hsv,hkc];rfl
    obtain ⟨xb0,xb1⟩:=HEB.out k
    dsimp only at HSG
    rw [HSN.out,<- hsv] at HSG
    rw [<- hsv] at hsb
    have kO:=j4.cell k hk3
    rw [mix3_at hk3] at kO
    have zO:=j4.frozen k
    have HJ:Hid (SoftR W wr L p b nb rg Dv dbs s z g ex H T O x y n PX PY k):=⟨j1,j2,j3,j4,j5⟩
    have kf:wr.cell? ⟨H+1+1,0,none⟩=some .nilIface:=cell_of_row _ _ 0 _ _ _ j2.b2
    have zf:=frozen_of_row _ _ 0 _ _ j2.b2
    clear j1 j2 j3 j4 j5 hkc e1 e2 e3 hsv
    by_cases hce:(Flm.rAt s g.r (k+1)).err=0
    ·rw [numRet_good A _ hce] at HSG
     have HSH:Hid (Calls Tryz.prog 165 #[.pointer (some ⟨b,0,none⟩),.int .i64 kc] wr fun e w'=>e=.returned (.tuple #[.int .i64 sv,.nilIface])/\goesOn w' L p b nb rg Dv dbs s z { g with r:=Flm.rAt s g.r k } (Flm.rAt s g.r (k+1))/\Frm (oneS b) wr w'):=HSG
     have HCE:Hid ((Flm.rAt s g.r (k+1)).err=0):=hce
     have HFS:Hid (∀ wx,Frm (oneS b) wr wx->wx.cell? ⟨O,k,none⟩=some (.int .i64 (ex k))/\wx.frozen? ⟨O,k,none⟩=false):=fun wx f=>⟨f.cell kO (by show ¬ O=b;omega),(World.frozen?_of_block (a:=⟨O,k,none⟩) (f.block _ HJ.out.2.2.2.1.lt (by show ¬ O=b;omega))).trans zO⟩
     clear HSG hce kO zO kf zf
     gi_wp2_with (refine ⟨trivial,?_⟩;gi_at_call 165;refine (CallsIn.inRound l (callsIn_wide.2 HSH.out)).mono ?_;rintro e wb ⟨rfl,hb,fb⟩;obtain ⟨kO,zO⟩:=HFS.out wb fb)
     obtain ⟨j1,j2,j3,j4,j5⟩:=HJ.out
     obtain ⟨X,hX⟩:∃ X,X=wb.setCell ⟨O,k,none⟩ (.int .i64 (ex k+sv)):=⟨_,rfl⟩
     have fX:Frm (fun t=>t=O) wb X:=by rw [hX];exact Frm.setCell (p:=⟨O,k,none⟩) (Frm.refl (fun t=>t=O) wb) (.inl rfl) _
     have hnb:∀ t,H<=t->¬ oneS b t:=fun t ht e=>by have e':t=b:=e;omega
     refine ⟨⟨k+1,by omega,by go_num,?_,?_,?_,?_,?_⟩,by simp [intOf];omega⟩
     ·rw [<- hX]
      exact (hb HCE.out).frm fX (fun t ht e=>by have:=HLT.out t ht;omega)
     ·rw [<- hX]
      exact (j2.frm fb (fun t e=>by have e':t=b:=e;omega)).frm fX (fun t e=>by omega)
     ·rw [<- hX]
      exact (fX.block _ (Nat.lt_of_lt_of_le (heap_lt j3) fb.size) (by omega)).trans ((fb.block _ (heap_lt j3) (hnb T (by omega))).trans j3)
     ·have:=(j4.frm fb (hnb O (by omega))).mix (f:=ex) (g:=Flm.cOf s z g PX PY) hk3
      rw [HCK.out] at this
      exact this
     ·rw [<- hX]
      exact frm_new (j5.trans fb) (G:=O) fX hOW
    ·rw [numRet_bad A _ hce] at HSG
     obtain ⟨ea,hea⟩:∃ ea,ea=A (Flm.rAt s g.r (k+1)).err.toNat:=⟨_,rfl⟩
     rw [<- hea] at HSG
     have HSH:Hid (Calls Tryz.prog 165 #[.pointer (some ⟨b,0,none⟩),.int .i64 kc] wr fun e w'=>e=.returned (.tuple #[.int .i64 0,.iface 278 (.pointer (some ea))])/\goesOn w' L p b nb rg Dv dbs s z { g with r:=Flm.rAt s g.r k } (Flm.rAt s g.r (k+1))/\Frm (oneS b) wr w'):=HSG
     have HCE:Hid (ea=A (Flm.rAt s g.r (k+1)).err.toNat/\(Flm.rAt s g.r (k+1)).err ≠ 0):=⟨hea,hce⟩
     have HFS:Hid (∀ wx,Frm (oneS b) wr wx->wx.cell? ⟨H+1+1,0,none⟩=some .nilIface/\wx.frozen? ⟨H+1+1,0,none⟩=false):=fun wx f=>⟨f.cell kf (by show ¬ H+1+1=b;omega),(World.frozen?_of_block (a:=⟨H+1+1,0,none⟩) (f.block _ (heap_lt HJ.out.2.1.b2) (by show ¬ H+1+1=b;omega))).trans zf⟩
     clear HSG hce kO zO kf zf hea
     gi_wp2_with (refine ⟨trivial,?_⟩;gi_at_call 165;refine (CallsIn.inRound l (callsIn_wide.2 HSH.out)).mono ?_;rintro e wb ⟨rfl,hb,fb⟩;obtain ⟨kf,zf⟩:=HFS.out wb fb)
     obtain ⟨j1,j2,j3,j4,j5⟩:=HJ.out
     obtain ⟨i1,i2,i3,i4⟩:=HW.out
     obtain ⟨X,hX⟩:∃ X,X=wb.setCell ⟨H+1+1,0,none⟩ (.iface 278 (.pointer (some ea))):=⟨_,rfl⟩
     have fX:Frm (fun k=>k=H+1+1) wb X:=by rw [hX];exact Frm.setCell (p:=⟨H+1+1,0,none⟩) (Frm.refl (fun k=>k=H+1+1) wb) (.inl rfl) _
     have hfb:FBox wb H p x y n .nilIface:=j2.frm fb (fun t e=>by have e':t=b:=e;omega)
     have fW:Frm (fun k=>blkS b nb k \/ k=H+1+1) W X:=((frm_one_blk (nb:=nb) (j5.trans fb)).mono (fun _ _ e=>.inl e)).trans (fX.mono (fun _ _ e=>.inr e))
     rw [<- hX]
     refine ⟨keeps_frm fW (fun k e=>e.elim (i1.isCells k) (fun e=>by rw [e];exact ⟨_,cell_of_row _ _ 0 _ _ _ i2.b2⟩)),rfl,?_,?_,?_⟩
     ·rw [HST.out,Flm.softF_bad hge.out (by omega) HCE.out.2,<- HCE.out.1]
      refine ⟨(fX.block _ (heap_lt hfb.b0) (by omega)).trans hfb.b0,(fX.block _ (heap_lt hfb.b1) (by omega)).trans hfb.b1,?_⟩
      rw [hX,Go.heap_setCell_same _ _ _ _ _ _ hfb.b2]
      rfl
     ·rw [HST.out,Flm.softF_bad hge.out (by omega) HCE.out.2]
      exact HCE.out.2
     ·exact frm_new (i4.trans (frm_one_blk (j5.trans fb))) (G:=H+1+1) fX (by have:=HH.out;omega)
   ·have hk3':¬ ((k:Int)<3):=by omega
    have e3:k=3:=by omega
    rw [e3] at j1 j4
    clear e3
    obtain ⟨C0,hC0⟩:∃ C,C=Flm.cOf s z g PX PY 0:=⟨_,rfl⟩
    obtain ⟨C1,hC1⟩:∃ C,C=Flm.cOf s z g PX PY 1:=⟨_,rfl⟩
    obtain ⟨C2,hC2⟩:∃ C,C=Flm.cOf s z g PX PY 2:=⟨_,rfl⟩
    have v0:wr.cell? ⟨O,0,none⟩=some (.int .i64 C0):=by rw [hC0];exact j4.cell 0 (by decide)
    have v1:wr.cell? ⟨O,1,none⟩=some (.int .i64 C1):=by rw [hC1];exact j4.cell 1 (by decide)
    have v2:wr.cell? ⟨O,2,none⟩=some (.int .i64 C2):=by rw [hC2];exact j4.cell 2 (by decide)
    have HCC:Hid (C0=Flm.cOf s z g PX PY 0/\C1=Flm.cOf s z g PX PY 1/\C2=Flm.cOf s z g PX PY 2):=⟨hC0,hC1,hC2⟩
    have HJ:Hid (PAt wr L p b nb rg Dv dbs s z { g with r:=Flm.rAt s g.r 3 }/\FBox wr H p x y n .nilIface/\wr.heap[T]?=some (.cells #[.int .i64 x,.int .i64 y,.int .i64 n] 100 (0,0))/\Frm (oneS b) W wr):=⟨j1,j2,j3,j5⟩
    clear j1 j2 j3 j4 j5 hC0 hC1 hC2
    by_cases hpx:Pix.isPix C0 C1 C2
    ·obtain ⟨Q,hQ⟩:∃ Q:Px,Q=(Pix.bR C0 C1 C2,Pix.bG C0 C2,Pix.bB C0 C1 C2):=⟨_,rfl⟩
     have HBK:=colBack_in C0 C1 C2 wr hpx
     have HBH:Hid (Calls Tryz.prog 98 #[.agg #[.int .i64 C0,.int .i64 C1,.int .i64 C2]] wr fun e w'=>e=.returned (.tuple #[.agg #[.int .u8 Q.1,.int .u8 Q.2.1,.int .u8 Q.2.2],.bool true])/\Below wr.heap.size wr w'):=by rw [hQ];exact HBK
     have HQ:Hid (Q=(Pix.bR C0 C1 C2,Pix.bG C0 C2,Pix.bB C0 C1 C2)):=hQ
     have HPX:Hid (Pix.isPix C0 C1 C2):=hpx
     clear HBK hQ hpx
     gi_wp2_with (refine ⟨trivial,?_⟩;gi_at_call 98;refine (CallsIn.inRound l (callsIn_wide.2 HBH.out)).mono ?_;rintro e wb ⟨rfl,bb⟩)
     clear v0 v1 v2
     obtain ⟨U,hU⟩:∃ U,U=wb.heap.size:=⟨_,rfl⟩
     obtain ⟨wc,hwc⟩:∃ wc,wc=wb.alloc (.cells #[.int .u8 Q.1,.int .u8 Q.2.1,.int .u8 Q.2.2] 50):=⟨_,rfl⟩
     have bc:Below wb.heap.size wb wc:=by rw [hwc];exact (Below.refl _ wb).alloc (Nat.le_refl _) _
     have bd:Below wr.heap.size wr wc:=bb.trans (bc.mono bb.size)
     have xU:BoxP wc U Q:=by rw [hwc,hU];exact BoxP.new wb Q
     obtain ⟨j1,j2,j3,j5⟩:=HJ.out
     obtain ⟨i1,i2,i3,i4⟩:=HW.out
     have hUW:W.heap.size<=U:=by rw [hU];have:=bb.size;have:=j5.size;omega
     have hHU:H+3<=U:=by have:=heap_lt i2.b2;omega
     have hc:PAt wc L p b nb rg Dv dbs s z { g with r:=Flm.rAt s g.r 3 }:=j1.below bd
     have hre:(Flm.rAt s g.r 3).err=0:=j1.err
     have hQok:Flm.okPx Q:=by rw [HQ.out];exact HPX.out
     have hcb:FBox wc H p x y n .nilIface:=j2.below bd
     have HSET:Hid (∀ wx,Below wc.heap.size wc wx->Calls Tryz.prog 166 #[.agg #[.int .i64 z,.slice (some ⟨nb,0,none⟩) Z Z],.int .i64 PX,.int .i64 PY,.agg #[.int .u8 Q.1,.int .u8 Q.2.1,.int .u8 Q.2.2]] wx fun e w'=>e=.returned (.tuple #[])/\PAt w' L p b nb rg Dv dbs s z (Flm.put { g with r:=Flm.rAt s g.r 3 } (PY*z+PX) Q)/\Frm (fun k=>k=nb) wx w'):=fun wx hb=>by
      have:=pSetP (hc.below hb) PX PY Q (by omega) (by omega) hQok
      rw [HZ.out]
      exact this
     have d3:=hc.c3
     have d4:=hc.c4
     rw [<- HZ.out] at d4
     have a00:=cell_of_row _ _ 0 _ _ _ hcb.b0
     simp at a00
     have q0:wc.cell? ⟨U,0,none⟩=some (.int .u8 Q.1):=xU.cell 0 (by decide)
     have q1:wc.cell? ⟨U,1,none⟩=some (.int .u8 Q.2.1):=xU.cell 1 (by decide)
     have q2:wc.cell? ⟨U,2,none⟩=some (.int .u8 Q.2.2):=xU.cell 2 (by decide)
     have hpnb:¬ p=nb:=hc.nes.1.2.2.1
     have HWC:Hid (FBox wc H p x y n .nilIface/\Frm (oneS b) W wc/\(Flm.rAt s g.r 3).err=0):=⟨hcb,j5.trans (Frm.of_below bd),hre⟩
     rw [<- hU,<- hwc]
     clear hc hcb i1 i2 i3 i4 j1 j2 j3 j5 xU bb bc bd hwc hU hre hQok
     refine region_round_at (S:=fun w'=>w'.cell? ⟨H,0,none⟩=some (.pointer (some ⟨p,0,none⟩))/\w'.cell? ⟨p,3,none⟩=some (.int .i64 z)/\w'.cell? ⟨p,4,none⟩=some (.slice (some ⟨nb,0,none⟩) Z Z)/\w'.cell? ⟨U,0,none⟩=some (.int .u8 Q.1)/\w'.cell? ⟨U,1,none⟩=some (.int .u8 Q.2.1)/\w'.cell? ⟨U,2,none⟩=some (.int .u8 Q.2.2)) 8 #[false,false,false,false,false,false,false,false] rfl rfl hmx (by kernel_rfl) (fun ⟨_,_,h⟩=>h) ?_
     have hS0:(wc.drew.cell? ⟨H,0,none⟩=some (.pointer (some ⟨p,0,none⟩))/\wc.drew.cell? ⟨p,3,none⟩=some (.int .i64 z)/\wc.drew.cell? ⟨p,4,none⟩=some (.slice (some ⟨nb,0,none⟩) Z Z)/\wc.drew.cell? ⟨U,0,none⟩=some (.int .u8 Q.1)/\wc.drew.cell? ⟨U,1,none⟩=some (.int .u8 Q.2.1)/\wc.drew.cell? ⟨U,2,none⟩=some (.int .u8 Q.2.2)):=⟨a00,d3,d4,q0,q1,q2⟩
     refine tk_at 0 57 (.pointer (some ⟨p,0,none⟩)) #[true,false,false,false,false,false,false,false] rfl rfl rfl (by kernel_rfl) (by rfl) (by rintro w ⟨t0,t3,t4,t5,t6,t7⟩;go_simp) (by assumption) ?_
     simp only [sIb,sCs,sCz]
     refine tk_at 1 58 (.pointer (some ⟨p,0,none⟩)) #[true,true,false,false,false,false,false,false] rfl rfl rfl (by kernel_rfl) (by rfl) (by rintro w ⟨t0,t3,t4,t5,t6,t7⟩;go_simp) (by assumption) ?_
     simp only [sIb,sCs,sCz]
     refine tk_at 2 59 (.pointer (some ⟨p,3,none⟩)) #[true,true,true,false,false,false,false,false] rfl rfl rfl (by kernel_rfl) (by rfl) (by rintro w ⟨t0,t3,t4,t5,t6,t7⟩;go_simp) (by assumption) ?_
     simp only [sIb,sCs,sCz]
     refine tk_at 3 60 (.agg #[.int .i64 z,.slice (some ⟨nb,0,none⟩) Z Z]) #[true,true,true,true,false,false,false,false] rfl rfl rfl (by kernel_rfl) (by rfl) (by rintro w ⟨t0,t3,t4,t5,t6,t7⟩;go_simp) (by assumption) ?_
     simp only [sIb,sCs,sCz]
     refine tk_at 4 61 (.int .i64 PX) #[true,true,true,true,true,false,false,false] rfl rfl rfl (by kernel_rfl) (by rfl) (by rintro w ⟨t0,t3,t4,t5,t6,t7⟩;go_simp) (by assumption) ?_
     simp only [sIb,sCs,sCz]
     refine tk_at 5 62 (.int .i64 PY) #[true,true,true,true,true,true,false,false] rfl rfl rfl (by kernel_rfl) (by rfl) (by rintro w ⟨t0,t3,t4,t5,t6,t7⟩;go_simp) (by assumption) ?_
     simp only [sIb,sCs,sCz]
     refine tk_at 6 63 (.agg #[.int .u8 Q.1,.int .u8 Q.2.1,.int .u8 Q.2.2]) #[true,true,true,true,true,true,true,false] rfl rfl rfl (by kernel_rfl) (by rfl) (by rintro w ⟨t0,t3,t4,t5,t6,t7⟩;go_simp) (by assumption) ?_
     simp only [sIb,sCs,sCz]
     refine enter_at (i:=7) (d:=64) (f:=166) (args:=#[.agg #[.int .i64 z,.slice (some ⟨nb,0,none⟩) Z Z],.int .i64 PX,.int .i64 PY,.agg #[.int .u8 Q.1,.int .u8 Q.2.1,.int .u8 Q.2.2]]) #[true,true,true,true,true,true,true,true] (by kernel_rfl) rfl rfl rfl (by rfl) (by go_simp) (fun v' w'=>v'=.tuple #[]/\PAt w' L p b nb rg Dv dbs s z (Flm.put { g with r:=Flm.rAt s g.r 3 } (PY*z+PX) Q)/\Frm (fun k=>k=nb) wc w') ((HSET.out _ (below_drewN (Below.refl _ wc) 1)).mono (fun e w' he=>⟨_,he.1,rfl,he.2.1,((Frm.refl (fun k=>k=nb) wc).drew).trans he.2.2⟩)) ?_
     rintro va wd ⟨rfl,hd,fd⟩
     have hN0:¬ H=nb:=by omega
     have hN2:¬ U=nb:=by omega
     refine ⟨⟨fd.cell a00 hN0,fd.cell d3 hpnb,fd.cell d4 hpnb,fd.cell q0 hN2,fd.cell q1 hN2,fd.cell q2 hN2⟩,?_⟩
     refine wpAnyH_done (by kernel_rfl) ?_ _
     gi_wp2
     obtain ⟨i1,i2,i3,i4⟩:=HW.out
     obtain ⟨hcb,fc,hre⟩:=HWC.out
     obtain ⟨hC0,hC1,hC2⟩:=HCC.out
     have fW:Frm (blkS b nb) W wd:=(frm_one_blk fc).trans (frm_nb_blk fd)
     have hTb:¬ blkS b nb T:=by rintro (e|e) <;> omega
     refine ⟨keeps_frm fW i1.isCells,fW.block _ (heap_lt i3) hTb,?_,hcb.frm fd (fun k e=>by omega),(fW.block _ (heap_lt i3) hTb).trans i3,i4.trans fW⟩
     have hpx:=HPX.out
     rw [hC0,hC1,hC2] at hpx
     rw [HST.out,Flm.softF_good (p:=(PX,PY)) hge.out hre hpx]
     dsimp only
     rw [<- hC0,<- hC1,<- hC2,<- HQ.out]
     exact hd
    ·obtain ⟨ea,hea⟩:∃ ea,ea=A 2:=⟨_,rfl⟩
     have HBK:=colBack_out C0 C1 C2 wr hpx
     have HBH:Hid (Calls Tryz.prog 98 #[.agg #[.int .i64 C0,.int .i64 C1,.int .i64 C2]] wr fun e w'=>e=.returned (.tuple #[.agg #[.int .u8 0,.int .u8 0,.int .u8 0],.bool false])/\Below wr.heap.size wr w'):=HBK
     have HPX:Hid (¬ Pix.isPix C0 C1 C2):=hpx
     have HEA:Hid (ea=A 2):=hea
     have HFS:Hid (∀ wx,Below wr.heap.size wr wx->wx.cell? ⟨H+1+1,0,none⟩=some .nilIface/\wx.frozen? ⟨H+1+1,0,none⟩=false/\wx.cell? ⟨5,0,none⟩=some (.iface 278 (.pointer (some ea)))/\5<wx.heap.size/\H+1+1<wx.heap.size):=fun wx hb=>by
      obtain ⟨e1,e2,e3⟩:=HES2.out wr (HW.out.2.2.2.trans (frm_one_blk HJ.out.2.2.2))
      obtain ⟨e4,e5⟩:=(e1.below (hb.mono e2)).v (2,5) (by decide)
      have e6:=(HJ.out.2.1.below hb).b2
      exact ⟨cell_of_row _ _ 0 _ _ _ e6,frozen_of_row _ _ 0 _ _ e6,by rw [hea];exact e5,by have:=hb.size;omega,heap_lt e6⟩
     clear HBK hpx hea
     gi_wp2_with (refine ⟨trivial,?_⟩;gi_at_call 98;refine (CallsIn.inRound l (callsIn_wide.2 HBH.out)).mono ?_;rintro e wb ⟨rfl,bb⟩;obtain ⟨kf,zf,k5,l5,l2⟩:=HFS.out wb bb)
     obtain ⟨j1,j2,j3,j5⟩:=HJ.out
     obtain ⟨i1,i2,i3,i4⟩:=HW.out
     obtain ⟨X,hX⟩:∃ X,X=(wb.setCell ⟨H+1+1,0,none⟩ (.iface 278 (.pointer (some ea)))).alloc (.cells #[.int .u8 0,.int .u8 0,.int .u8 0] 50):=⟨_,rfl⟩
     have fX:Frm (fun k=>k=H+1+1) wb X:=by rw [hX];exact (Frm.setCell (p:=⟨H+1+1,0,none⟩) (Frm.refl (fun k=>k=H+1+1) wb) (.inl rfl) _).alloc _
     have hfb:FBox wb H p x y n .nilIface:=j2.below bb
     have fWb:Frm (blkS b nb) W wb:=(frm_one_blk j5).trans (Frm.of_below bb)
     have fW:Frm (fun k=>blkS b nb k \/ k=H+1+1) W X:=(fWb.mono (fun _ _ e=>.inl e)).trans (fX.mono (fun _ _ e=>.inr e))
     have HSF:Flm.softF s z g (PX,PY)={ g with r:=Rdr.fail (Flm.rAt s g.r 3) 2 }:=by
      obtain ⟨hC0,hC1,hC2⟩:=HCC.out
      have hpx:=HPX.out
      rw [hC0,hC1,hC2] at hpx
      exact Flm.softF_colour (p:=(PX,PY)) hge.out hpx
     have e2:(Rdr.fail (Flm.rAt s g.r 3) 2).err=2:=Rdr.fail_zero j1.err
     rw [<- hX]
     refine ⟨keeps_frm fW (fun k e=>e.elim (i1.isCells k) (fun e=>by rw [e];exact ⟨_,cell_of_row _ _ 0 _ _ _ i2.b2⟩)),rfl,?_,?_,?_⟩
     ·rw [HST.out,HSF]
      dsimp only
      rw [e2,show (2:Int).toNat=2 from rfl,<- HEA.out]
      refine ⟨(fX.block _ (heap_lt hfb.b0) (by omega)).trans hfb.b0,(fX.block _ (heap_lt hfb.b1) (by omega)).trans hfb.b1,?_⟩
      rw [hX,Below.heap_alloc _ _ _ (by rw [World.size_setCell];exact l2),Go.heap_setCell_same _ _ _ _ _ _ hfb.b2]
      rfl
     ·rw [HST.out,HSF]
      dsimp only
      rw [e2]
      decide
     ·exact frm_new (i4.trans fWb) (G:=H+1+1) fX (by have:=HH.out;omega)
 case done =>
  rintro D ys W hD hys ⟨i1,i2,i3,i4⟩ hK
  have hDs:T+1<=D:=by omega
  rw [hys,<- HFR.out] at i1
  have kf:W.cell? ⟨H+1+1,0,none⟩=some .nilIface:=cell_of_row _ _ 0 _ _ _ i2.b2
  have zf:=frozen_of_row _ _ 0 _ _ i2.b2
  have HI:Hid (PAt W L p b nb rg Dv dbs s z FR/\Frm (blkS b nb) w W/\W.heap[D]?=some (.deferred (some []))):=⟨i1,i4,hK⟩
  clear i1 i2 i3 i4 hK
  go_wp2_with fail
  obtain ⟨X,hX⟩:∃ X,X=W.setCell ⟨H+1+1,0,none⟩ .nilIface:=⟨_,rfl⟩
  rw [<- hX]
  obtain ⟨ha,fa,hKa⟩:=HI.out
  have fX:Frm (fun k=>k=H+1+1) W X:=by rw [hX];exact Frm.setCell (p:=⟨H+1+1,0,none⟩) (Frm.refl (fun k=>k=H+1+1) W) (.inl rfl) _
  have q0:X.cell? ⟨H+1+1,0,none⟩=some .nilIface:=by rw [hX];exact World.cell?_setCell_same _ _ _ kf
  have hKX:X.heap[D]?=some (.deferred (some [])):=(fX.block _ (heap_lt hKa) (by omega)).trans hKa
  have hg:=grownBy_putObj' X D (.deferred none)
  have fg:Frm (fun k=>k=D) X (X.putObj D (.deferred none)):=(Frm.refl _ X).grown hg (fun k e=>by cases e;exact .inl rfl)
  have q1:(X.putObj D (.deferred none)).cell? ⟨H+1+1,0,none⟩=some .nilIface:=fg.cell q0 (by show ¬ H+1+1=D;omega)
  refine retM_mark (v:=.nilIface) rfl hKX (by simp [results,Tryz.results147,go_sem,q1]) ?_
  refine ⟨by rw [ha.err];rfl,fun _=>(ha.frm fX (fun k hk e=>by have:=HLT.out k hk;omega)).frm fg (fun k hk e=>by have:=HLT.out k hk;omega),?_⟩
  exact frm_new (frm_new fa (G:=H+1+1) fX (by have:=HH.out;omega)) (G:=D) fg (by have:=HH.out;omega)
 case stop =>
  rintro D c pre W hD hpre ⟨rfl,i2,i3,i4⟩ hK
  have hDs:T+1<=D:=by omega
  have HE:Hid (FR=(pre.map (·.1)).foldl (Flm.softF s z) fs):=by
   unfold Hid
   rw [HFR.out]
   exact Flm.foldl_pre (fun fs p hh=>Flm.softF_off hh p) hpre i3
  rw [<- HE.out] at i2 i3
  have q0:W.cell? ⟨H+1+1,0,none⟩=some (.iface 278 (.pointer (some (A FR.r.err.toNat)))):=cell_of_row _ _ 0 _ _ _ i2.b2
  have HR:Hid (FR.r.err ≠ 0/\Frm (blkS b nb) w W/\W.heap[D]?=some (.deferred (some []))):=⟨i3,i4,hK⟩
  clear i2 i3 i4 hK hpre
  refine wpIn_wide.2 ?_
  go_wp2_with fail
  obtain ⟨r1,r2,r3⟩:=HR.out
  have hg:=grownBy_putObj' W D (.deferred none)
  have fg:Frm (fun k=>k=D) W (W.putObj D (.deferred none)):=(Frm.refl _ W).grown hg (fun k e=>by cases e;exact .inl rfl)
  have q1:(W.putObj D (.deferred none)).cell? ⟨H+1+1,0,none⟩=some (.iface 278 (.pointer (some (A FR.r.err.toNat)))):=fg.cell q0 (by show ¬ H+1+1=D;omega)
  refine retM_mark (v:=.iface 278 (.pointer (some (A FR.r.err.toNat)))) rfl r3 (by simp [results,Tryz.results147,go_sem,q1]) ?_
  exact ⟨by rw [errA_pos A r1],fun he=>absurd he r1,frm_new r2 (G:=D) fg (by have:=HH.out;omega)⟩
end
end Go.Proofs.YtekfbphnoibnjaaGreatDoor
