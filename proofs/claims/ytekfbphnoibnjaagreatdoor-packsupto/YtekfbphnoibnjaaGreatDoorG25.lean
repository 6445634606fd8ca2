/-
  PCont PInL PCols0
-/
import Derived.Test.YtekfbphnoibnjaaGreatDoorG24
import Derived.Test.YtekfbphnoibnjaaGreatDoorG23
set_option maxHeartbeats 4000000
namespace Go.Proofs.YtekfbphnoibnjaaGreatDoor
section
open Go.RowKit Go.Shelf
open Flm (Px FS)
attribute [local go_sem] Oper.semAt_some
theorem off_lt {k:Nat} (h:k<256):0<1+k*3/\1+k*3<769/\1+k*3+1<769/\1+k*3+2<769:=by omega
theorem cont_cell {w:World} {A n:Nat} {ps:List Px} (h:w.heap[A]?=some (.cells (contL n ps).toArray 200 (0,0))) (hp:ps.length<=256) {j:Nat} (h0:0<j) (h1:j<769):∃ c,w.cell? ⟨A,j,none⟩=some (.int .u8 c):=by
 obtain ⟨c,hc⟩:=contL_get (n:=n) hp h0 h1
 have h2:=cell_of_row w A j _ _ _ h
 rw [List.getElem?_toArray,hc] at h2
 exact ⟨c,h2⟩
theorem cont_store {w:World} {A n k:Nat} {ps:List Px} (h:w.heap[A]?=some (.cells (contL n ps).toArray 200 (0,0))) (hp:ps.length=k) (hk:k<256) (g0 g1 g2:Int) :
  (((w.setCell ⟨A,1+k*3,none⟩ (.int .u8 g0)).setCell ⟨A,1+k*3+1,none⟩ (.int .u8 g1)).setCell ⟨A,1+k*3+2,none⟩ (.int .u8 g2)).heap[A]?=some (.cells (contL n (ps++[(g0,g1,g2)])).toArray 200 (0,0)):=by
 rw [Go.heap_setCell_same _ _ _ _ _ _ (Go.heap_setCell_same _ _ _ _ _ _ (Go.heap_setCell_same _ _ _ _ _ _ h)),List.setIfInBounds_toArray,List.setIfInBounds_toArray,List.setIfInBounds_toArray,<- contL_set (by omega) (g0,g1,g2),hp]
def ContJ (z:Nat) (T:List Px) (n:Nat) (A I:Nat) (XG W:World) {x y:Nat} (pre:List (Pt x y n)):Prop:=W.heap[A]?=some (.cells (contL n ((pre.map (·.1)).map (Pk.pixT z T))).toArray 200 (0,0))/\W.heap[I]?=some (.cells #[.int .i64 pre.length] 3 (0,0))/\Frm (fun k=>k=A \/ k=I) XG W
set_option maxRecDepth 100000 in
theorem pContent {C:Nat} (w:World) (nb z:Nat) (T:List Px) (hz:z=4 \/ z=8 \/ z=16) (h:PixIn w nb (z*z) T) (x y n:Nat) (hx:x+n<=z) (hy:y+n<=z) :
  Calls Tryz.prog 106 #[.agg #[.int .i64 z,.slice (some ⟨nb,0,none⟩) (z*z) C],.agg #[.int .i64 x,.int .i64 y,.int .i64 n]] w fun e w'=>e=.returned (.agg (contL n (Pk.content z T n (x,y))).toArray)/\Below w.heap.size w w':=by
 have hz16:z<=16/\z*z<=256:=by rcases hz with rfl|rfl|rfl <;> decide
 have hnn:n*n<=256:=Nat.le_trans (Nat.mul_le_mul (by omega) (by omega)) hz16.2
 obtain ⟨Z,hZ⟩:∃ Z,Z=z*z:=⟨_,rfl⟩
 obtain ⟨H,hH⟩:∃ H,H=w.heap.size:=⟨_,rfl⟩
 have hmx:Tryz.prog.follows .mixedOrders=true:=by kernel_rfl
 obtain ⟨hzero,hsize⟩:=zero_of_info contInfo
 obtain ⟨O,hO⟩:∃ O,O=(contL 0 []).toArray:=⟨_,rfl⟩
 rw [<- hO] at hzero
 have hOs:O.size=769:=by rw [hO,List.size_toArray];exact contL_len (by decide)
 have hOn:O ≠ #[]:=fun e=>by rw [e] at hOs;exact absurd hOs (by decide)
 have hOset:O.setIfInBounds 0 (.int .i64 n)=(contL n []).toArray:=by rw [hO,List.setIfInBounds_toArray];rfl
 obtain ⟨F,hF⟩:∃ F,F=(contL n []).toArray:=⟨_,rfl⟩
 rw [<- hF] at hOset
 have hFs:F.size=769:=by rw [hF,List.size_toArray];exact contL_len (by decide)
 have hF1:F.all (·.oneCell')=true:=by rw [hF];exact all_oneCell_toArray (contL_one n [])
 obtain ⟨W3,hW3⟩:∃ W3,W3=((w.alloc (.cells #[.int .i64 z,.slice (some ⟨nb,0,none⟩) Z C] 89)).alloc (.cells #[.int .i64 x,.int .i64 y,.int .i64 n] 100)).alloc (.cells O 200):=⟨_,rfl⟩
 have hs3:W3.heap.size=H+1+1+1:=by rw [hW3,hH];simp
 have hB3:Below w.heap.size w W3:=by rw [hW3];exact below3 w _ _ _
 have hx0:W3.heap[H]?=some (.cells #[.int .i64 z,.slice (some ⟨nb,0,none⟩) Z C] 89):=by
  rw [hW3,hH];exact (Below.heap_alloc _ _ _ (by simp only [World.size_alloc];omega)).trans ((Below.heap_alloc _ _ _ (by simp only [World.size_alloc];omega)).trans (heap_alloc_last w _))
 have hx1:W3.heap[H+1]?=some (.cells #[.int .i64 x,.int .i64 y,.int .i64 n] 100):=by
  have:=heap_alloc_last (w.alloc (.cells #[.int .i64 z,.slice (some ⟨nb,0,none⟩) Z C] 89)) (.cells #[.int .i64 x,.int .i64 y,.int .i64 n] 100)
  rw [World.size_alloc] at this
  rw [hW3,hH];exact (Below.heap_alloc _ _ _ (by simp only [World.size_alloc];omega)).trans this
 have hx2:W3.heap[H+1+1]?=some (.cells O 200):=by
  have:=heap_alloc_last ((w.alloc (.cells #[.int .i64 z,.slice (some ⟨nb,0,none⟩) Z C] 89)).alloc (.cells #[.int .i64 x,.int .i64 y,.int .i64 n] 100)) (.cells O 200)
  simp only [World.size_alloc] at this
  rw [hW3,hH];exact this
 have k10:=cell_of_row _ _ 0 _ _ _ hx1
 have k11:=cell_of_row _ _ 1 _ _ _ hx1
 have k12:=cell_of_row _ _ 2 _ _ _ hx1
 simp at k10 k11 k12
 have hB5:Below W3.heap.size W3 ((W3.alloc (.cells F 200)).alloc (.cells #[.int .i64 0] 3)):=((Below.refl _ W3).alloc (Nat.le_refl _) _).alloc (by simp) _
 have hlt1:H+1<W3.heap.size:=by omega
 have j10:=(hB5.cell (p:=⟨H+1,0,none⟩) hlt1).trans k10
 have j11:=(hB5.cell (p:=⟨H+1,1,none⟩) hlt1).trans k11
 have j12:=(hB5.cell (p:=⟨H+1,2,none⟩) hlt1).trans k12
 have HB5:Hid (Below W3.heap.size W3 ((W3.alloc (.cells F 200)).alloc (.cells #[.int .i64 0] 3))):=hB5
 have HW3:Hid (W3=((w.alloc (.cells #[.int .i64 z,.slice (some ⟨nb,0,none⟩) Z C] 89)).alloc (.cells #[.int .i64 x,.int .i64 y,.int .i64 n] 100)).alloc (.cells O 200)):=hW3
 have HSZ:Hid ((Tryz.prog.info? 200).map (·.size)=some 769):=hsize
 have HF:Hid (F=(contL n []).toArray):=hF
 have HH:Hid (H=w.heap.size/\W3.heap.size=H+1+1+1/\Below w.heap.size w W3):=⟨hH,hs3,hB3⟩
 have HX:Hid (W3.heap[H]?=some (.cells #[.int .i64 z,.slice (some ⟨nb,0,none⟩) Z C] 89)/\W3.heap[H+1]?=some (.cells #[.int .i64 x,.int .i64 y,.int .i64 n] 100)/\W3.heap[H+1+1]?=some (.cells O 200)):=⟨hx0,hx1,hx2⟩
 have HP:Hid (PixIn W3 nb (z*z) T):=h.below hB3
 have HZ:Hid (Z=z*z):=hZ
 rw [<- hZ]
 clear hW3 hx0 hx1 hx2 hB3 hsize hO hF hs3 h hZ hH hB5 hlt1
 refine (callsIn_wide (n:=5)).1 ?_
 refine callsIn_of_wp_marks Tryz.func106 rfl trivial ?_ rfl
 simp only [Tryz.ntmps106,List.size_toArray,List.length_cons,List.length_nil,Nat.reduceAdd,Nat.reduceSub,Array.replicate_succ,Array.replicate_zero,List.push_toArray,List.append_toArray,List.nil_append,List.cons_append]
 refine wpIn_wide.2 ?_
 go_wp2_with (first
  | (rw [<- HW3.out,<- HH.out.1])
  | (refine wpList_store_row rfl 200 _ _ rfl W3.heap.size F rfl rfl 200 O (heap_alloc_last W3 _) (by rw [HSZ.out,hFs]) (by rw [hOs,hFs]) hF1 ?_;rw [World.setRow_alloc_new])
  | (go_at_call 105;refine (pPoints _ _ _ _).mono ?_;rintro e wq ⟨rfl,rfl⟩))
 clear j10 j11 j12 k10 k11 k12
 obtain ⟨A,hA⟩:∃ A,A=W3.heap.size:=⟨_,rfl⟩
 obtain ⟨G,hG⟩:∃ G,G=A+1+1:=⟨_,rfl⟩
 obtain ⟨XG,hXG⟩:∃ XG,XG=(((W3.alloc (.cells F 200)).alloc (.cells #[.int .i64 0] 3)).alloc (.cells #[.int .i64 x,.int .i64 y,.int .i64 n] 100)):=⟨_,rfl⟩
 have hBX:Below W3.heap.size W3 XG:=by rw [hXG];exact HB5.out.alloc HB5.out.size _
 have hsX:XG.heap.size=A+1+1+1:=by rw [hXG,hA];simp
 have hit:XG.heap[G]?=some (.cells #[.int .i64 x,.int .i64 y,.int .i64 n] 100 (0,0)):=by
  have:=heap_alloc_last ((W3.alloc (.cells F 200)).alloc (.cells #[.int .i64 0] 3)) (.cells #[.int .i64 x,.int .i64 y,.int .i64 n] 100)
  simp only [World.size_alloc] at this
  rw [hXG,hG,hA];exact this
 have hxA:XG.heap[A]?=some (.cells F 200 (0,0)):=by
  rw [hXG,hA];exact (Below.heap_alloc _ _ _ (by simp only [World.size_alloc];omega)).trans ((Below.heap_alloc _ _ _ (by simp only [World.size_alloc];omega)).trans (heap_alloc_last W3 _))
 have hxI:XG.heap[A+1]?=some (.cells #[.int .i64 0] 3 (0,0)):=by
  have:=heap_alloc_last (W3.alloc (.cells F 200)) (.cells #[.int .i64 0] 3)
  simp only [World.size_alloc] at this
  rw [hXG,hA];exact (Below.heap_alloc _ _ _ (by simp only [World.size_alloc];omega)).trans this
 have hAH:A=H+1+1+1:=by rw [hA];exact HH.out.2.1
 have HI0:Hid (ContJ z T n A (A+1) XG XG ([]:List (Pt x y n))):=⟨by rw [hxA,HF.out];rfl,hxI,Frm.refl _ _⟩
 have HXG:Hid (Below W3.heap.size W3 XG/\A=W3.heap.size):=⟨hBX,hA⟩
 rw [<- hA,<- hXG,<- hG]
 have hHA:H+1+1<A:=by omega
 have hGA:A+1<G:=by omega
 have hXA:G<XG.heap.size:=by omega
 have HEQ:Hid (G=A+1+1/\A=H+1+1+1/\XG.heap.size=A+1+1+1):=⟨hG,hAH,hsX⟩
 clear hXG hBX hxA hxI hA hG hAH hsX
 refine (wpIn_wide (n:=5)).1 ?_
 refine wpIn_rangeFunc_ownF rfl (by decide) (gf:=131) (lb:=#[.pointer (some ⟨G,0,none⟩)]) rfl trivial (enters_of Tryz.func131 (by kernel_rfl) rfl)
  (points_stops Fence.wide (5-1) trivial rfl (by decide) G x y n (by omega) (by omega) XG hit)
  (fun h1 h2=>h2.trans h1) (fun W l o o' hl _ _ _=>World.putObj_heap_other (by omega)) (Below.refl _ _) (fun _=>rfl)
  (fun pre W=>ContJ z T n A (A+1) XG W pre)
  (fun _ _ _=>False)
  ?own (fun _ _ _ _ _ hs _ _=>hs) HI0.out
  (fun pt=>{ tmps:=#[.agg #[.int .i64 z,.slice (some ⟨nb,0,none⟩) Z C],.agg #[.int .i64 x,.int .i64 y,.int .i64 n],.pointer (some ⟨H,0,none⟩),.pointer (some ⟨H+1,0,none⟩),.pointer (some ⟨H+1+1,0,none⟩),.pointer (some ⟨A,0,none⟩),.pointer (some ⟨A+1,0,none⟩),.int .i64 pt.1.1,.int .i64 pt.1.2,.pointer (some ⟨H+1,2,none⟩),.int .i64 n,.agg F,.agg #[.int .i64 x,.int .i64 y,.int .i64 n],.func (.func 131) #[] #[.pointer (some ⟨G,0,none⟩)],.int .i64 pt.1.1,.int .i64 pt.1.2,undef,undef,undef,undef,undef,undef,undef,undef,undef,undef],defers:=[] }) ?assign ?body ?done ?stop
 case own =>
  rintro pre W W' row ⟨i1,i2,i3⟩ hg hr
  have hr':∀ r,row=some r->A+1<r:=fun r e=>by have:=(hr r e).1;omega
  have fg:Frm (fun k=>row=some k) W W':=(Frm.refl _ W).grown hg (fun k e=>.inl e)
  exact ⟨(fg.block _ (heap_lt0 i1) (fun e=>by have:=hr' _ e;omega)).trans i1,(fg.block _ (heap_lt0 i2) (fun e=>by have:=hr' _ e;omega)).trans i2,i3.grown hg (fun k e=>.inr (hr k e).1)⟩
 case assign =>
  intro l pt W K hK
  dsimp only [encPt]
  gi_wp2
  exact hK
 case body =>
  rintro lb pre ⟨⟨PX,PY⟩,⟨hpx1,hpx2⟩,hpy1,hpy2⟩ W ⟨i1,i2,i3⟩ hlen
  dsimp only at hpx1 hpx2 hpy1 hpy2 ⊢
  obtain ⟨ps,hps⟩:∃ ps,ps=(pre.map (·.1)).map (Pk.pixT z T):=⟨_,rfl⟩
  rw [<- hps] at i1
  obtain ⟨k,hk⟩:∃ k,k=pre.length:=⟨_,rfl⟩
  have hpl:ps.length=k:=by rw [hps,hk];simp
  have hk256:k<256:=by omega
  rw [<- hk] at i2
  obtain ⟨g0,g1,g2,hg⟩:∃ g0 g1 g2,T.getD (PY*z+PX) (0,0,0)=(g0,g1,g2):=⟨_,_,_,rfl⟩
  have hfar:∀ j,j<A->¬ (j=A \/ j=A+1):=fun j hj e=>by omega
  have HPW:Hid (PixIn W nb (z*z) T):=(HP.out.below HXG.out.1).frm i3 (hfar nb (by have:=HP.out.1;have:=HXG.out.2;omega))
  have HA:Hid (Calls Tryz.prog 113 #[.agg #[.int .i64 z,.slice (some ⟨nb,0,none⟩) Z C],.int .i64 PX,.int .i64 PY] W.drew fun e w'=>e=.returned (.agg #[.int .u8 g0,.int .u8 g1,.int .u8 g2])/\Below W.heap.size W w'):=by
   have:=pAt (C:=C) W.drew nb z T hz16.2 (HPW.out.below ⟨rfl,rfl,rfl,Nat.le_refl _,fun _ _=>rfl⟩) PX PY (by omega) (by omega)
   rw [hg] at this
   rw [Hid,HZ.out]
   exact this.mono fun e w' he=>⟨he.1,(⟨rfl,rfl,rfl,Nat.le_refl _,fun _ _=>rfl⟩:Below W.heap.size W W.drew).trans he.2⟩
  have hcH:=HX.out.1
  have c0:W.cell? ⟨H,0,none⟩=some (.int .i64 z):=i3.cell ((HXG.out.1.cell (p:=⟨H,0,none⟩) (by rw [<- HXG.out.2];show H<A;omega)).trans (cell_of_row _ _ 0 _ _ _ hcH)) (hfar H (by omega))
  have c1:W.cell? ⟨H,1,none⟩=some (.slice (some ⟨nb,0,none⟩) Z C):=i3.cell ((HXG.out.1.cell (p:=⟨H,1,none⟩) (by rw [<- HXG.out.2];show H<A;omega)).trans (cell_of_row _ _ 1 _ _ _ hcH)) (hfar H (by omega))
  have ck:W.cell? ⟨A+1,0,none⟩=some (.int .i64 k):=cell_of_row _ _ 0 _ _ _ i2
  have hk':(k:Int)<256:=by omega
  have wk:wrap64 ((k:Int)+1)=(k:Int)+1:=by unfold wrap64;omega
  have HI:Hid (W.heap[A]?=some (.cells (contL n ps).toArray 200 (0,0))/\W.heap[A+1]?=some (.cells #[.int .i64 k] 3 (0,0))/\Frm (fun k=>k=A \/ k=A+1) XG W):=⟨i1,i2,i3⟩
  have HPS:Hid (ps=(pre.map (·.1)).map (Pk.pixT z T)/\k=pre.length/\Pk.pixT z T (PX,PY)=(g0,g1,g2)):=⟨hps,hk,hg⟩
  clear i1 i2 i3 hps hk hg hcH
  gi_wp2
  refine region_round_at (S:=fun w'=>w'.cell? ⟨A+1,0,none⟩=some (.int .i64 k)/\w'.cell? ⟨H,0,none⟩=some (.int .i64 z)/\w'.cell? ⟨H,1,none⟩=some (.slice (some ⟨nb,0,none⟩) Z C)) 8 #[false,false,false,false,false,false,false,false] rfl rfl hmx (by kernel_rfl) (fun ⟨_,_,h⟩=>h) ?_
  have hS0:(W.drew.cell? ⟨A+1,0,none⟩=some (.int .i64 k)/\W.drew.cell? ⟨H,0,none⟩=some (.int .i64 z)/\W.drew.cell? ⟨H,1,none⟩=some (.slice (some ⟨nb,0,none⟩) Z C)):=⟨ck,c0,c1⟩
  refine tk_at 0 16 (.int .i64 k) #[true,false,false,false,false,false,false,false] rfl rfl rfl (by kernel_rfl) (by rfl) (by rintro w ⟨t0,t1,t2⟩;go_simp) (by assumption) ?_
  simp only [sIb,sCs,sCz]
  refine tk_at 1 17 (.agg #[.int .i64 z,.slice (some ⟨nb,0,none⟩) Z C]) #[true,true,false,false,false,false,false,false] rfl rfl rfl (by kernel_rfl) (by rfl) (by rintro w ⟨t0,t1,t2⟩;go_simp) (by assumption) ?_
  simp only [sIb,sCs,sCz]
  refine tk_at 2 18 (.int .i64 PX) #[true,true,true,false,false,false,false,false] rfl rfl rfl (by kernel_rfl) (by rfl) (by rintro w ⟨t0,t1,t2⟩;go_simp) (by assumption) ?_
  simp only [sIb,sCs,sCz]
  refine tk_at 3 19 (.int .i64 PY) #[true,true,true,true,false,false,false,false] rfl rfl rfl (by kernel_rfl) (by rfl) (by rintro w ⟨t0,t1,t2⟩;go_simp) (by assumption) ?_
  simp only [sIb,sCs,sCz]
  refine tk_at 5 21 (.pointer (some ⟨A,1,none⟩)) #[true,true,true,true,false,true,false,false] rfl rfl rfl (by kernel_rfl) (by rfl) (by rintro w ⟨t0,t1,t2⟩;go_simp) (by assumption) ?_
  simp only [sIb,sCs,sCz]
  refine enter_at (i:=4) (d:=20) (f:=113) (args:=#[.agg #[.int .i64 z,.slice (some ⟨nb,0,none⟩) Z C],.int .i64 PX,.int .i64 PY]) #[true,true,true,true,true,true,false,false] (by kernel_rfl) rfl rfl rfl (by rfl) (by go_simp) (fun r w'=>r=.agg #[.int .u8 g0,.int .u8 g1,.int .u8 g2]/\Below W.heap.size W w') (HA.out.mono (fun r w' he=>⟨_,he.1,rfl,he.2⟩)) ?_
  rintro va wa ⟨rfl,ba⟩
  have cc:∀ (a:Addr) (v:Value),W.cell? a=some v->wa.cell? a=some v:=fun a v e=>(ba.cell (World.block_lt_of_cell? W _ e)).trans e
  have hSA:(wa.cell? ⟨A+1,0,none⟩=some (.int .i64 k)/\wa.cell? ⟨H,0,none⟩=some (.int .i64 z)/\wa.cell? ⟨H,1,none⟩=some (.slice (some ⟨nb,0,none⟩) Z C)):=⟨cc _ _ ck,cc _ _ c0,cc _ _ c1⟩
  refine ⟨hSA,?_⟩
  simp only [sIb,sCs,sCz]
  refine tk_at 6 22 (.pointer (some ⟨A,1+k*3,none⟩)) #[true,true,true,true,true,true,true,false] rfl rfl rfl (by kernel_rfl) (by rfl) (by rintro w ⟨t0,t1,t2⟩;go_simp) (by assumption) ?_
  simp only [sIb,sCs,sCz]
  obtain ⟨i1,i2,i3⟩:=HI.out
  have hAa:wa.heap[A]?=some (.cells (contL n ps).toArray 200 (0,0)):=(ba.block A (heap_lt0 i1)).trans i1
  have hIa:wa.heap[A+1]?=some (.cells #[.int .i64 k] 3 (0,0)):=(ba.block (A+1) (heap_lt0 i2)).trans i2
  have hp256:ps.length<=256:=by rw [hpl];exact Nat.le_of_lt hk256
  obtain ⟨q0,m0⟩:=cont_cell hAa hp256 (j:=1+k*3) (off_lt hk256).1 (off_lt hk256).2.1
  obtain ⟨q1,m1⟩:=cont_cell hAa hp256 (j:=1+k*3+1) (Nat.succ_pos _) (off_lt hk256).2.2.1
  obtain ⟨q2,m2⟩:=cont_cell hAa hp256 (j:=1+k*3+2) (Nat.succ_pos _) (off_lt hk256).2.2.2
  have n0:=frozen_of_row _ _ (1+k*3) _ _ hAa
  have n1:=frozen_of_row _ _ (1+k*3+1) _ _ hAa
  have n2:=frozen_of_row _ _ (1+k*3+2) _ _ hAa
  obtain ⟨X,hX⟩:∃ X,X=((wa.setCell ⟨A,1+k*3,none⟩ (.int .u8 g0)).setCell ⟨A,1+k*3+1,none⟩ (.int .u8 g1)).setCell ⟨A,1+k*3+2,none⟩ (.int .u8 g2):=⟨_,rfl⟩
  have fX:Frm (fun j=>j=A) wa X:=by rw [hX];exact (((Frm.refl (fun j=>j=A) wa).setCell (p:=⟨A,1+k*3,none⟩) (.inl rfl) _).setCell (p:=⟨A,1+k*3+1,none⟩) (.inl rfl) _).setCell (p:=⟨A,1+k*3+2,none⟩) (.inl rfl) _
  have hAX:X.heap[A]?=some (.cells (contL n (ps++[(g0,g1,g2)])).toArray 200 (0,0)):=by rw [hX];exact cont_store hAa hpl hk256 g0 g1 g2
  have hIX:X.heap[A+1]?=some (.cells #[.int .i64 k] 3 (0,0)):=(fX.block (A+1) (heap_lt0 hIa) (by omega)).trans hIa
  have hHne:¬ H=A:=by omega
  have HE0:Hid True:=trivial
  have hS2:(X.cell? ⟨A+1,0,none⟩=some (.int .i64 k)/\X.cell? ⟨H,0,none⟩=some (.int .i64 z)/\X.cell? ⟨H,1,none⟩=some (.slice (some ⟨nb,0,none⟩) Z C)):=⟨cell_of_row _ _ 0 _ _ _ hIX,fX.cell (cc _ _ c0) hHne,fX.cell (cc _ _ c1) hHne⟩
  refine store_at (i:=7) (w':=X) #[true,true,true,true,true,true,true,true] (by kernel_rfl) rfl rfl rfl (by rfl) ?y7 hS2 ?r7
  case y7 =>
   rw [hX]
   clear hX fX hAX hIX hS2 hSA hS0 cc hAa hIa HI HE0 i1 i2 i3 ck c0 c1 ba HA HPW
   go_simp
  case r7 =>
  refine wpAnyH_done (by kernel_rfl) ?_ _
  have cX:X.cell? ⟨A+1,0,none⟩=some (.int .i64 k):=cell_of_row _ _ 0 _ _ _ hIX
  have zX:X.frozen? ⟨A+1,0,none⟩=false:=frozen_of_row _ _ 0 _ _ hIX
  have HE:Hid (X.heap[A]?=some (.cells (contL n (ps++[(g0,g1,g2)])).toArray 200 (0,0))/\X.heap[A+1]?=some (.cells #[.int .i64 k] 3 (0,0))/\Frm (fun j=>j=A) wa X/\Below W.heap.size W wa):=⟨hAX,hIX,fX,ba⟩
  clear hAa hIa m0 m1 m2 n0 n1 n2 hX fX hAX hIX hS2 hSA hS0 cc ck c0 c1 i1 i2 i3 ba
  clear hnn hz16 hlen hOs hFs hOset hF1 hzero hOn hz hx hy hp256 hpl hk256 hfar HPW HA hk' hHne
  gi_wp2
  obtain ⟨i1,i2,i3⟩:=HI.out
  obtain ⟨j1,j2,j3,j4⟩:=HE.out
  have fW:Frm (fun j=>j=A \/ j=A+1) W (X.setCell ⟨A+1,0,none⟩ (.int .i64 ((k:Int)+1))):=((Frm.of_below (S:=fun j=>j=A \/ j=A+1) j4).trans (j3.mono fun _ _ e=>.inl e)).setCell (.inl (.inr rfl)) _
  refine ⟨keeps_cells fW (fun j e=>e.elim (fun e=>by rw [e];exact ⟨_,_,_,i1⟩) (fun e=>by rw [e];exact ⟨_,_,_,i2⟩)),fW.block G (Nat.lt_of_lt_of_le hXA i3.size) (fun e=>e.elim (fun e=>by rw [e] at hGA;exact absurd hGA (Nat.not_lt.2 (Nat.le_succ _))) (fun e=>by rw [e] at hGA;exact absurd hGA (Nat.lt_irrefl _))),?_,?_,i3.trans fW⟩
  ·rw [List.map_append,List.map_append,<- HPS.out.1,Below.heap_setCell _ ⟨A+1,0,none⟩ _ A (by show ¬ A=A+1;omega),j1]
   show some (Obj.cells (contL n (ps++[(g0,g1,g2)])).toArray _ _)=some (Obj.cells (contL n (ps++[Pk.pixT z T (PX,PY)])).toArray _ _)
   rw [HPS.out.2.2]
  ·rw [Go.heap_setCell_same _ _ _ _ _ _ j2,List.length_append,<- HPS.out.2.1]
   simp
 case done =>
  rintro D xs W hD hxs ⟨i1,i2,i3⟩ hK
  have hps:(xs.map (·.1)).map (Pk.pixT z T)=Pk.content z T n (x,y):=by rw [hxs];rfl
  rw [hps] at i1
  obtain ⟨R,hR⟩:∃ R,R=contL n (Pk.content z T n (x,y)):=⟨_,rfl⟩
  have hRl:R.length=769:=by rw [hR];exact contL_len (by rw [Pk.content,List.length_map,Flm.spots_len];exact hnn)
  have hR1:R.toArray.all (·.oneCell')=true:=by rw [hR];exact all_oneCell_toArray (contL_one _ _)
  rw [<- hR] at i1
  have HR:Hid (R=contL n (Pk.content z T n (x,y))):=hR
  clear hR hps
  have hrg:W.rangeAt A 0 R:=fun j v hv=>by rw [Nat.zero_add,cell_of_row _ _ j _ _ _ i1,List.getElem?_toArray];exact hv
  have hH2:H+1+1<W3.heap.size:=by rw [<- HXG.out.2];exact hHA
  have hO2:W.heap[H+1+1]?=some (.cells O 200 (0,0)):=(i3.block (H+1+1) (Nat.lt_of_lt_of_le hH2 HXG.out.1.size) (fun e=>e.elim (fun e=>by rw [e] at hHA;exact absurd hHA (Nat.lt_irrefl _)) (fun e=>by rw [e] at hHA;exact absurd hHA (Nat.not_lt.2 (Nat.le_succ _))))).trans ((HXG.out.1.block (H+1+1) hH2).trans HX.out.2.2)
  have HK:Hid (W.heap[D]?=some (.deferred (some []))/\Frm (fun k=>k=A \/ k=A+1) XG W/\XG.heap.size<=D/\W.heap[H+1+1]?=some (.cells O 200 (0,0))):=⟨hK,i3,hD,hO2⟩
  clear hnn hz16 hFs hOset hF1 hzero hOn hz hx hy i1 i2 i3 hxs hK hit hD
  go_wp2_with (first
   | (refine wpList_load_mid rfl 200 (.tmp 5) rfl A 0 rfl R _ hrg Tryz.underlying200 rfl (by rw [HSZ.out,hRl]) ?_)
   | (refine wpList_store_row rfl 200 _ _ rfl (H+1+1) R.toArray rfl rfl 200 O hO2 (by rw [HSZ.out,List.size_toArray,hRl]) (by rw [hOs,List.size_toArray,hRl]) hR1 ?_))
  obtain ⟨r1,r2,r3,r4⟩:=HK.out
  obtain ⟨X2,hX2⟩:∃ X2,X2=W.setRow (H+1+1) R.toArray:=⟨_,rfl⟩
  rw [<- hX2]
  have hDH:D ≠ H+1+1:=by omega
  have g2:X2.heap[H+1+1]?=some (.cells R.toArray 200 (0,0)):=by rw [hX2];exact setRow_heap W _ O _ _ _ r4
  have fX:Frm (fun k=>k=H+1+1) W X2:=by rw [hX2];exact ⟨rfl,rfl,rfl,by simp [World.setRow],fun k _ hn=>setRow_other W (H+1+1) k R.toArray hn⟩
  have hKX:X2.heap[D]?=some (.deferred (some [])):=(fX.block D (heap_lt0 r1) hDH).trans r1
  have hg:=grownBy_putObj' X2 D (.deferred none)
  have fg:Frm (fun k=>k=D) X2 (X2.putObj D (.deferred none)):=(Frm.refl _ X2).grown hg (fun k e=>by cases e;exact .inl rfl)
  have g3:(X2.putObj D (.deferred none)).heap[H+1+1]?=some (.cells R.toArray 200 (0,0)):=(fg.block _ (heap_lt0 g2) (Ne.symm hDH)).trans g2
  have hld:=run_loadVar_row (P:=Tryz.prog) (X2.putObj D (.deferred none)) (H+1+1) 200 200 R.toArray (0,0) _ g3 Tryz.underlying200 rfl (by rw [HSZ.out,List.size_toArray,hRl])
  refine retM_mark (v:=.agg R.toArray) rfl hKX (by simp [results,Tryz.results106,Act.put,asAddr,hld]) ⟨by rw [HR.out],?_⟩
  have hw:=HH.out.1
  have hb0:Below w.heap.size w XG:=HH.out.2.2.trans (HXG.out.1.mono HH.out.2.2.size)
  have hb1:Below w.heap.size w W:=hb0.trans (r2.below hb0.size (fun k e=>by omega))
  have hb2:Below w.heap.size w X2:=hb1.trans (fX.below hb1.size (fun k e=>by omega))
  exact hb2.trans (fg.below hb2.size (fun k e=>by have:=hb0.size;omega))
 case stop =>
  rintro D c pre W hD hpre hf hK
  exact hf.elim
end
section
open Go.RowKit Go.Shelf
section
variable {F:Fence} {n:Nat} {P:Program} {ops:Array Oper} {rest:List Oper} {o:Oper} {a:Act} {w w':World} {Q:Exit->Act->World->Prop}
theorem wpListIn_val (hg:o.guard=none) (hd:∀ c,o.op ≠ Op.defer c) (hab:o.about P w a.eval=none) {v:Value} (hr:(execOp a.eval o).run P w=.ok (.value v) w') (h:wpListIn F n P ops Q rest (a.put o.dst v) w'):wpListIn F n P ops Q (o :: rest) a w:=by
 refine wpListIn_plain hg fun K hK=>?_
 unfold Oper.wpIn
 refine ⟨fun f e=>(by rw [hab] at e;cases e),?_⟩
 rw [Oper.semAt_plain F _ _ hd,hr]
 exact hK _ _ h
theorem wpListIn_skipped (hg:o.guard=none) (hd:∀ c,o.op ≠ Op.defer c) (hab:o.about P w a.eval=none) (hr:(execOp a.eval o).run P w=.ok .skip w') (h:wpListIn F n P ops Q rest (a.put o.dst undef) w'):wpListIn F n P ops Q (o :: rest) a w:=by
 refine wpListIn_plain hg fun K hK=>?_
 unfold Oper.wpIn
 refine ⟨fun f e=>(by rw [hab] at e;cases e),?_⟩
 rw [Oper.semAt_plain F _ _ hd,hr]
 exact hK _ _ h
theorem wpListIn_store_row (hgd:o.guard=none) (ty:TypeId) (x y:Operand) (ho:o.op=.store ty x y)
  (g:Nat) (cells:Array Value) (hx:a.eval x=.pointer (some ⟨g,0,none⟩)) (hy:a.eval y=.agg cells)
  (t:TypeId) (old:Array Value) (hg:w.heap[g]?=some (.cells old t (0,0))) (hi:(P.info? ty).map (·.size)=some cells.size)
  (hold:old.size=cells.size) (h1:cells.all (·.oneCell')=true)
  (h:wpListIn F n P ops Q rest (a.put o.dst undef) (w.setRow g cells)):wpListIn F n P ops Q (o :: rest) a w:=by
 refine wpListIn_skipped hgd (fun c e=>by rw [ho] at e;cases e) (by simp [Oper.about,ho]) ?_ h
 unfold execOp
 simp only [ho,hx,hy,Instr.storeAt,Instr.sureAddr,Sem.run_bind,Sem.run_pure,Result.andThen_ok,run_storeVar_row w g t ty old cells hg hi hold h1]
theorem wpListIn_load_mid (hgd:o.guard=none) (ty:TypeId) (x:Operand) (ho:o.op=.load ty x)
  (b k:Nat) (hx:a.eval x=.pointer (some ⟨b,k,none⟩)) (cs:List Value) (d:TypeDesc) (hc:w.rangeAt b k cs)
  (hu:P.underlying ty=some d) (hd:d.isRow=true) (hi:(P.info? ty).map (·.size)=some cs.length)
  (h:wpListIn F n P ops Q rest (a.put o.dst (.agg cs.toArray)) w):wpListIn F n P ops Q (o :: rest) a w:=by
 refine wpListIn_val hgd (fun c e=>by rw [ho] at e;cases e) (by simp [Oper.about,ho]) ?_ h
 unfold execOp
 simp only [ho,hx,Instr.loadAt,Instr.sureAddr,Sem.run_bind,Sem.run_pure,Result.andThen_ok,run_loadVar_mid w b k ty cs d hc hu hd hi]
theorem wpListIn_mapEntry (hgd:o.guard=none) (t:TypeId) (m x:Operand) (ho:o.op=.mapEntry t m x) {mv kv v:Value} (hm:a.eval m=mv) (hx:a.eval x=kv) (hr:(Instr.mapEntry t mv kv).run P w=.ok v w')
  (h:wpListIn F n P ops Q rest (a.put o.dst v) w'):wpListIn F n P ops Q (o :: rest) a w:=by
 refine wpListIn_val hgd (fun c e=>by rw [ho] at e;cases e) (by simp [Oper.about,ho]) ?_ h
 unfold execOp
 simp only [ho,hm,hx,Sem.run_bind,hr,Result.andThen_ok,Sem.run_pure]
theorem wpListIn_append_run (hgd:o.guard=none) (t:TypeId) (s x:Operand) (ho:o.op=.call { callee:=.builtin .append,args:=#[s,x],argTypes:=#[t,t] }) {sv xv v:Value} (hs:a.eval s=sv) (hx:a.eval x=xv) (hr:(Builtin.append_ #[t,t] o.type #[sv,xv]).run P w=.ok v w')
  (h:wpListIn F n P ops Q rest (a.put o.dst v) w'):wpListIn F n P ops Q (o :: rest) a w:=by
 refine wpListIn_val hgd (fun c e=>by rw [ho] at e;cases e) (by simp [Oper.about,ho,resolve,Target.leads,Sem.run_pure]) ?_ h
 unfold execOp
 simp only [ho,resolve,invoke,builtin,Sem.run_bind,Sem.run_pure,Result.andThen_ok,List.map_toArray,List.map_cons,List.map_nil,hs,hx,hr]
theorem wpListIn_entryStore (hgd:o.guard=none) (t:TypeId) (m s v:Operand) (ho:o.op=.entryStore t m s v) {mv sv vv:Value} (hm:a.eval m=mv) (hs:a.eval s=sv) (hv:a.eval v=vv) (hr:(Instr.entryStore t mv sv vv).run P w=.ok () w')
  (h:wpListIn F n P ops Q rest (a.put o.dst undef) w'):wpListIn F n P ops Q (o :: rest) a w:=by
 refine wpListIn_skipped hgd (fun c e=>by rw [ho] at e;cases e) (by simp [Oper.about,ho]) ?_ h
 unfold execOp
 simp only [ho,hm,hs,hv,Sem.run_bind,hr,Result.andThen_ok,Sem.run_pure]
end
theorem leavesM_marks {P:Program} {F:Fence} {n:Nat} {fn:Func} {tmps:Array Value} {R:Ending->World->Prop}:∀ (Ds:List Nat) (W:World),Ds.Nodup->(∀ D ∈ Ds,W.heap[D]?=some (.deferred (some []))) ->
  (∀ W',Frm (fun k=>k ∈ Ds) W W'->∃ v,(results fn tmps).run P W'=.ok v W'/\R (.returned v) W')->LeavesInM F n P fn tmps R (Ds.map fun D=>{ target:=.collected D,args:=#[] }) .returning W
 | [],W,_,_,h=>by
  obtain ⟨v,h1,h2⟩:=h W (Frm.refl _ _)
  exact ⟨v,h1,h2⟩
 | D :: Ds,W,hn,hD,h=>by
  have hn:=List.nodup_cons.1 hn
  have hg:=grownBy_putObj' W D (.deferred none)
  have hD0:=hD D (by simp)
  refine ⟨by simp,.inl ⟨D,_,rfl,run_takeDeferred hD0,?_⟩⟩
  refine leavesM_marks Ds _ hn.2 (fun E hE=>?_) (fun W' f=>h W' ?_)
  ·have hne:E ≠ D:=fun e=>hn.1 (e ▸ hE)
   exact (World.putObj_heap_other hne).trans (hD E (by simp [hE]))
  ·have f0:Frm (fun k=>k ∈ D :: Ds) W (W.putObj D (.deferred none)):=(Frm.refl _ W).grown hg (fun k e=>by cases e;exact .inl (by simp))
   exact f0.trans (f.mono fun k _ hk=>by simp [hk])
end
section
open Go.RowKit Go.Shelf
open Flm (Px FS okPx)
open Pk (find tally tallies coloursL sorts)
theorem boxes5 (w:World) (a b c d e:Obj) {H:Nat} (hH:H=w.heap.size) {W:World} (hW:W=((((w.alloc a).alloc b).alloc c).alloc d).alloc e) :
  W.heap[H]?=some a/\W.heap[H+1]?=some b/\W.heap[H+1+1]?=some c/\W.heap[H+1+1+1]?=some d/\W.heap[H+1+1+1+1]?=some e/\W.heap.size=H+5/\Below w.heap.size w W:=by
 subst hH
 subst hW
 have s1:(w.alloc a).heap.size=w.heap.size+1:=by simp
 have s2:((w.alloc a).alloc b).heap.size=w.heap.size+1+1:=by simp
 have s3:(((w.alloc a).alloc b).alloc c).heap.size=w.heap.size+1+1+1:=by simp
 have s4:((((w.alloc a).alloc b).alloc c).alloc d).heap.size=w.heap.size+1+1+1+1:=by simp
 have h1:=heap_alloc_last w a
 have h2:=heap_alloc_last (w.alloc a) b
 have h3:=heap_alloc_last ((w.alloc a).alloc b) c
 have h4:=heap_alloc_last (((w.alloc a).alloc b).alloc c) d
 have h5:=heap_alloc_last ((((w.alloc a).alloc b).alloc c).alloc d) e
 rw [s1] at h2
 rw [s2] at h3
 rw [s3] at h4
 rw [s4] at h5
 have up:∀ (W:World) (o p:Obj) (k:Nat),W.heap[k]?=some p->(W.alloc o).heap[k]?=some p:=fun W o p k h=>(Below.heap_alloc _ _ _ (heap_lt0 h)).trans h
 exact ⟨up _ _ _ _ (up _ _ _ _ (up _ _ _ _ (up _ _ _ _ h1))),up _ _ _ _ (up _ _ _ _ (up _ _ _ _ h2)),up _ _ _ _ (up _ _ _ _ h3),up _ _ _ _ h4,h5,by simp,(((((Below.refl _ w).alloc (Nat.le_refl _) _).alloc (by simp) _).alloc (by simp;omega) _).alloc (by simp;omega) _).alloc (by simp;omega) _⟩
theorem len_run {P:Program} {t e ty:TypeId} (ht:P.underlying t=some (.slice e)) {a:Option Addr} {N cp:Nat} (w:World):Sem.run P (Builtin.len_ #[t] ty #[.slice a N cp]) w=.ok (.int .i64 N) w:=by
 simp [Builtin.len_,run_underlying ht,goInt]
theorem pxInfo4:(Tryz.prog.info? 50).map (fun i=>(i.zero,i.size,i.bytes))=some (some (.agg #[.int .u8 0,.int .u8 0,.int .u8 0]),3,3):=by kernel_rfl
theorem makePx4 (n:Nat) (hn:n<=4) (w:World):Sem.run Tryz.prog (Instr.makeSlice 58 (.int .i64 n) (.int .i64 n)) w=.ok (.slice (some ⟨w.heap.size,0,none⟩) n n) (w.alloc (.cells (madeCells #[.int .u8 0,.int .u8 0,.int .u8 0] (n*3)) 50)):=by
 obtain ⟨i0,hi,h0,h1,h2⟩:=info_parts pxInfo4
 have:=run_make (P:=Tryz.prog) w 58 50 i0 _ Tryz.underlying58 hi h0 .i64 .i64 n n (by omega) (Int.le_refl _) (by rw [h2];omega) (by omega)
 rw [h1] at this
 simpa [Value.cells] using this
theorem madeCells_size (z:Array Value) (n:Nat):(madeCells z n).size=n:=by simp [madeCells]
theorem three_head {α:Type} (r:List α) (h:3<=r.length):∃ a b c r',r=a :: b :: c :: r':=by
 match r,h with
 | a :: b :: c :: r',_=>exact ⟨a,b,c,r',rfl⟩
theorem px_snoc (A:List Px) (a b c:Value) (r:List Value) (p:Px) {n:Nat} (h:(pxCells A).length=n):((((pxCells A++a :: b :: c :: r).set n (.int .u8 p.1)).set (n+1) (.int .u8 p.2.1)).set (n+2) (.int .u8 p.2.2))=pxCells (A++[p])++r:=by
 subst h
 rw [pxCells_app]
 rw [List.set_append_right _ _ (Nat.le_refl _),Nat.sub_self,List.set_cons_zero,List.set_append_right _ _ (by omega),Nat.add_sub_cancel_left,List.set_cons_succ,List.set_cons_zero,List.set_append_right _ _ (by omega),Nat.add_sub_cancel_left,List.set_cons_succ,List.set_cons_succ,List.set_cons_zero,List.append_assoc]
 rfl
theorem talInfo:(Tryz.prog.info? 258).map (fun i=>(i.zero,i.size,i.bytes))=some (some (.agg #[.int .u8 0,.int .u8 0,.int .u8 0,.int .i64 0]),4,16):=by kernel_rfl
theorem talCells_app (a b:List Tl):talCells (a++b)=talCells a++talCells b:=by simp [talCells]
theorem talCells_cnt:∀ (l:List Tl) (k:Nat) (t:Tl) (v:Int),l[k]?=some t->(talCells l).set (k*4+3) (.int .i64 v)=talCells (l.set k (t.1,v))
 | [],_,_,_,h=>by simp at h
 | p :: l,0,t,v,h=>by
  obtain rfl:p=t:=by simpa using h
  rfl
 | p :: l,k+1,t,v,h=>by
  have e1:(k+1)*4+3=k*4+3+1+1+1+1:=by omega
  have e2:talCells ((p :: l).set (k+1) (t.1,v))=.int .u8 p.1.1 :: .int .u8 p.1.2.1 :: .int .u8 p.1.2.2 :: .int .i64 p.2 :: talCells (l.set k (t.1,v)):=rfl
  rw [talCells_cons,e1,e2,<- talCells_cnt l k t v (by simpa using h)]
  simp only [List.set_cons_succ]
theorem tallies_len:∀ (cs:List Px) (l r:List Tl),tallies cs l=some r->l.length<=4->r.length<=4
 | [],l,r,h,h4=>by rw [tallies_nil] at h;cases h;exact h4
 | c :: cs,l,r,h,h4=>by
  rw [tallies_cons] at h
  split at h
  ·rename_i hf
   exact tallies_len cs _ r h (Pk.tally_len hf h4).1
  ·cases h
theorem tally_pos (l:List Tl) (c:Px):0<(tally l c).length:=by
 unfold Pk.tally
 split
 ·rename_i h;rw [List.length_set];omega
 ·rw [List.length_append];simp
theorem tallies_pos:∀ (cs:List Px) (l r:List Tl),tallies cs l=some r->(cs ≠ [] \/ 0<l.length)->0<r.length
 | [],l,r,h,h1=>by
  rw [tallies_nil] at h
  cases h
  exact h1.resolve_left (fun e=>e rfl)
 | c :: cs,l,r,h,_=>by
  rw [tallies_cons] at h
  split at h
  ·exact tallies_pos cs _ r h (.inr (tally_pos l c))
  ·cases h
theorem Frm.onto {S S':Nat->Prop} {a b c:World} (h:Frm S a b) (k:Frm S' b c) (hs:∀ i,S' i->S i \/ a.heap.size<=i):Frm S a c :=
 ⟨k.os.trans h.os,k.tape.trans h.tape,k.output.trans h.output,Nat.le_trans h.size k.size,fun i hi hn=>(k.block i (Nat.lt_of_lt_of_le hi h.size) fun e=>(hs i e).elim hn (fun e=>by omega)).trans (h.block i hi hn)⟩
structure TJ (XG W:World) (K6 B:Nat) (L:List Tl) (v:Value):Prop where
 fr:Frm (fun k=>k=K6) XG W
 c6:W.cell? ⟨K6,0,none⟩=some v
 f6:W.frozen? ⟨K6,0,none⟩=false
 own:W.ownsRow B 258 4 v L.length (talCells L)
 hB:B=XG.heap.size
 hK:K6<B
section
variable {XG W W':World} {K6 B:Nat} {L:List Tl} {v:Value}
theorem TJ.ne (h:TJ XG W K6 B L v):∀ k,v.ownBlock=some k->k ≠ K6:=fun k e e0=>by
 have:=(World.ownsRow.lt h.own k e).1
 have:=h.hK
 omega
theorem TJ.lt6 (h:TJ XG W K6 B L v):K6<W.heap.size:=World.block_lt_of_cell? W _ h.c6
theorem TJ.frm {S:Nat->Prop} (h:TJ XG W K6 B L v) (f:Frm S W W') (hs:∀ k,S k->B<=k) (hv:∀ k,v.ownBlock=some k->¬ S k):TJ XG W' K6 B L v:=by
 have hns:¬ S K6:=fun e=>by have:=hs _ e;have:=h.hK;omega
 exact ⟨h.fr.onto f (fun k e=>.inr (by rw [<- h.hB];exact hs k e)),f.cell h.c6 hns,(World.frozen?_of_block (a:=⟨K6,0,none⟩) (f.block K6 h.lt6 hns)).trans h.f6,f.owns h.own hv,h.hB,h.hK⟩
theorem TJ.below (h:TJ XG W K6 B L v) (f:Below W.heap.size W W'):TJ XG W' K6 B L v:=h.frm (Frm.of_below (S:=fun _=>False) f) (fun _ e=>e.elim) (fun _ _ e=>e)
theorem TJ.form (h:TJ XG W K6 B L v):∃ a cap,v=.slice a L.length cap/\(L.length=0 \/ ∃ g,a=some ⟨g,0,none⟩/\TalB W g L):=by
 rcases h.own.2 with ⟨h1,h2⟩|⟨g,cap,cur,h1,h2,h3,h4,h5,h6,h7⟩
 ·exact ⟨none,0,by rw [h1,h2],.inl h2⟩
 ·refine ⟨_,cap,h1,.inr ⟨g,rfl,cur.toList.drop (L.length*4),?_⟩⟩
  rw [h3,<- h7,List.take_append_drop]
theorem TJ.count {g n cap:Nat} (h:TJ XG W K6 B L (.slice (some ⟨g,0,none⟩) n cap)) {i:Nat} {c:Px} {m:Int} (hi:L[i]?=some (c,m)) (hn:L.length=n):W.cell? ⟨g,i*4+3,none⟩=some (.int .i64 m)/\W.frozen? ⟨g,i*4+3,none⟩=false/\TJ XG (W.setCell ⟨g,i*4+3,none⟩ (.int .i64 (m+1))) K6 B (L.set i (c,m+1)) (.slice (some ⟨g,0,none⟩) n cap):=by
 subst hn
 have hil:=(List.getElem?_eq_some_iff.1 hi).1
 have hgk:g ≠ K6:=h.ne g rfl
 have hgB:B<=g:=(World.ownsRow.lt h.own g rfl).1
 have hc:=World.ownsRow.cellAt h.own (i*4+3) (by omega)
 have hg:=(talCells_get L [] hi).2.2.2
 rw [List.append_nil] at hg
 have hs:=(World.ownsRow.stored h.own (i*4+3) (.int .i64 (m+1))).1
 rw [talCells_cnt L i _ _ hi] at hs
 have f:Frm (fun k=>k=g) W (W.setCell ⟨g,i*4+3,none⟩ (.int .i64 (m+1))):=Frm.setCell (p:=⟨g,i*4+3,none⟩) (Frm.refl (fun k=>k=g) W) (.inl rfl) _
 refine ⟨hc.trans hg,World.ownsRow.frozenAt h.own _,h.fr.onto f (fun k e=>.inr (by rw [<- h.hB,e];exact hgB)),f.cell h.c6 (fun e=>hgk e.symm),(World.frozen?_of_block (a:=⟨K6,0,none⟩) (f.block K6 h.lt6 (fun e=>hgk e.symm))).trans h.f6,?_,h.hB,h.hK⟩
 rw [List.length_set]
 exact hs
theorem TJ.app (h:TJ XG W K6 B L v) (h4:L.length<=4) (c:Px) :
  ∃ g cap w2,(Builtin.append_ #[255,255] 255 #[v,.slice (some ⟨W.heap.size,0,none⟩) 1 1]).run Tryz.prog (W.alloc (.cells #[.int .u8 c.1,.int .u8 c.2.1,.int .u8 c.2.2,.int .i64 0] 258))=.ok (.slice (some ⟨g,0,none⟩) (L.length+1) cap) w2 /\
   w2.cell? ⟨K6,0,none⟩=some v/\w2.frozen? ⟨K6,0,none⟩=false/\TJ XG (w2.setCell ⟨K6,0,none⟩ (.slice (some ⟨g,0,none⟩) (L.length+1) cap)) K6 B (L++[(c,0)]) (.slice (some ⟨g,0,none⟩) (L.length+1) cap)/\Frm (fun k=>k=K6 \/ v.ownBlock=some k) W (w2.setCell ⟨K6,0,none⟩ (.slice (some ⟨g,0,none⟩) (L.length+1) cap))/\(v.ownBlock=some g \/ W.heap.size<=g):=by
 obtain ⟨W1,hW1⟩:∃ W1,W1=W.alloc (.cells #[.int .u8 c.1,.int .u8 c.2.1,.int .u8 c.2.2,.int .i64 0] 258):=⟨_,rfl⟩
 have hb:Below W.heap.size W W1:=by rw [hW1];exact (Below.refl _ W).alloc (Nat.le_refl _) _
 have hq:W1.heap[W.heap.size]?=some (.cells #[.int .u8 c.1,.int .u8 c.2.1,.int .u8 c.2.2,.int .i64 0] 258 (0,0)):=by rw [hW1];exact heap_alloc_last W _
 rw [<- hW1]
 have h1:=h.below hb
 obtain ⟨i,i1,i2,i3,i4⟩:=info_parts talInfo
 obtain ⟨v',w2,r2,o2,g2,n2,at2⟩:=run_append_own_at (P:=Tryz.prog) W1 B 255 255 258 i _ 4 16 Tryz.underlying255 i1 i2 i3 i4 rfl (by decide) v _ _ h1.own ⟨W.heap.size,0,none⟩ 1 1 (talCells [(c,0)]) rfl
  (fun j u hu=>by
   have:=cell_of_row _ _ j _ _ _ hq
   have e:(⟨W.heap.size,0,none⟩:Addr).add j=⟨W.heap.size,j,none⟩:=by rw [Addr.add_mid,Nat.zero_add]
   rw [e,this]
   exact List.getElem?_toArray.trans hu)
  (fun u hu=>by
   unfold talCells at hu
   simp at hu
   rcases hu with rfl|rfl|rfl|rfl <;> rfl)
  (by simp only [maxLen];omega) (by omega) (by rw [h.hB];exact Nat.le_trans h.fr.size hb.size)
 rw [<- talCells_app] at o2
 obtain ⟨g,cap,hv'⟩:∃ g cap,v'=.slice (some ⟨g,0,none⟩) (L.length+1) cap:=by
  rcases o2.2 with ⟨e1,_⟩|⟨g,cap,cur,e1,_⟩
  ·exact absurd (n2.1 e1).2 (by decide)
  ·exact ⟨g,cap,e1⟩
 subst hv'
 have hne:=h1.ne
 have hn2:∀ k,v.ownBlock=some k->B<=k:=fun k e=>(World.ownsRow.lt h.own k e).1
 have f2:Frm (fun k=>v.ownBlock=some k) W1 w2:=(Frm.refl _ W1).grown g2 (fun k e=>.inl e)
 have hn6:¬ v.ownBlock=some K6:=fun e=>h.ne K6 e rfl
 have c2:=f2.cell h1.c6 hn6
 have z2:w2.frozen? ⟨K6,0,none⟩=false:=(World.frozen?_of_block (a:=⟨K6,0,none⟩) (f2.block K6 h1.lt6 hn6)).trans h1.f6
 have hgK:g ≠ K6:=fun e=>by have:=(World.ownsRow.lt o2 g rfl).1;have:=h.hK;omega
 have f3:Frm (fun k=>k=K6) w2 (w2.setCell ⟨K6,0,none⟩ (.slice (some ⟨g,0,none⟩) (L.length+1) cap)):=Frm.setCell (p:=⟨K6,0,none⟩) (Frm.refl (fun k=>k=K6) w2) (.inl rfl) _
 refine ⟨g,cap,w2,r2,c2,z2,⟨?_,World.cell?_setCell_same _ _ _ c2,?_,?_,h.hB,h.hK⟩,?_,?_⟩
 ·exact ((h1.fr.onto f2 (fun k e=>.inr (by rw [<- h.hB];exact hn2 k e))).trans f3)
 ·rw [World.frozen?_setCell];exact z2
 ·rw [List.length_append,List.length_cons,List.length_nil]
  exact f3.owns o2 (fun k e e0=>by simp [Value.ownBlock] at e;omega)
 ·exact ((Frm.of_below hb).trans (f2.mono fun k _ e=>.inr e)).trans (f3.mono fun k _ e=>.inl e)
 ·rcases at2 with e|e
  ·exact .inl e.symm
  ·exact .inr (by simp [Value.ownBlock] at e;rw [e];exact hb.size)
end
end
end Go.Proofs.YtekfbphnoibnjaaGreatDoor
