/-
  PCols PLook0
-/
import Derived.Test.YtekfbphnoibnjaaGreatDoorG25
set_option maxHeartbeats 4000000
namespace Go.Proofs.YtekfbphnoibnjaaGreatDoor
section
open Go.RowKit Go.Shelf
open Flm (Px FS okPx)
open Pk (find tally tallies coloursL sorts)
attribute [local go_sem] Oper.semAt_some
def ColPost (w:World) (o:Option (List Px)) (e:Ending) (w':World):Prop:=Below w.heap.size w w'/\match o with
 | none=>e=.returned (.tuple #[.slice none 0 0,.bool false])
 | some cs=>∃ g,e=.returned (.tuple #[.slice (some ⟨g,0,none⟩) cs.length cs.length,.bool true])/\ColsAt w' g cs/\w.heap.size<=g
def ColJ (z:Nat) (T:List Px) (XG W:World) (K6 B:Nat) {x y n:Nat} (pre:List (Pt x y n)):Prop:=∃ v L,tallies ((pre.map (·.1)).map (Pk.pixT z T)) []=some L/\CntOk pre.length L/\TJ XG W K6 B L v
def ColX (z:Nat) (T:List Px) (XG W:World) (K4 K5 K6:Nat) (c:Code) {x y n:Nat} (pre:List (Pt x y n)):Prop:=c=.ret/\Frm (fun k=>k=K4 \/ k=K5 \/ k=K6) XG W/\W.cell? ⟨K4,0,none⟩=some (.slice none 0 0)/\W.cell? ⟨K5,0,none⟩=some (.bool false)/\tallies ((pre.map (·.1)).map (Pk.pixT z T)) []=none
theorem isCells_of {W:World} {a:Addr} {v:Value} (h:W.cell? a=some v):∃ cs t fr,W.heap[a.block]?=some (.cells cs t fr):=by
 obtain ⟨o',h1,h2⟩:=cells_of_cell h
 cases o' with
 | cells cs t fr=>exact ⟨cs,t,fr,h1⟩
 | _=>cases h2
theorem TJ.isCells {XG W:World} {K6 B:Nat} {L:List Tl} {v:Value} (h:TJ XG W K6 B L v):∀ k,(k=K6 \/ v.ownBlock=some k)->∃ cs t fr,W.heap[k]?=some (.cells cs t fr):=by
 rintro k (rfl|e)
 ·obtain ⟨o',h1,h2⟩:=cells_of_cell h.c6
  cases o' with
  | cells cs t fr=>exact ⟨cs,t,fr,h1⟩
  | _=>cases h2
 ·rcases h.own.2 with ⟨rfl,_⟩|⟨g,cap,cur,rfl,_,hg,_⟩
  ·simp [Value.ownBlock] at e
  ·simp [Value.ownBlock] at e
   subst e
   exact ⟨_,_,_,hg⟩
set_option maxRecDepth 100000 in
theorem pColours (w:World) (q z nb C:Nat) (mh mb:Value) (T:List Px) (h:FwAt w q z nb C mh mb T) (x y n:Nat) (hx:x+n<=z) (hy:y+n<=z) (hn:0<n) :
  Calls Tryz.prog 135 #[.pointer (some ⟨q,0,none⟩),.agg #[.int .i64 x,.int .i64 y,.int .i64 n]] w (ColPost w (coloursL z T x y n)):=by
 obtain ⟨Z,hZ⟩:∃ Z,Z=z*z:=⟨_,rfl⟩
 obtain ⟨hz16,hzz⟩:=h.z16
 obtain ⟨H,hH⟩:∃ H,H=w.heap.size:=⟨_,rfl⟩
 have hmx:Tryz.prog.follows .mixedOrders=true:=by kernel_rfl
 obtain ⟨W5,hW5⟩:∃ W5,W5=((((w.alloc (.cells #[.pointer (some ⟨q,0,none⟩)] 87)).alloc (.cells #[.int .i64 x,.int .i64 y,.int .i64 n] 100)).alloc (.cells #[.slice none 0 0] 58)).alloc (.cells #[.bool false] 4)).alloc (.cells #[.slice none 0 0] 255):=⟨_,rfl⟩
 obtain ⟨x0,x1,x2,x3,x4,hs5,hB5⟩:=boxes5 w _ _ _ _ _ hH hW5
 obtain ⟨G,hG⟩:∃ G,G=W5.heap.size:=⟨_,rfl⟩
 obtain ⟨XG,hXG⟩:∃ XG,XG=W5.alloc (.cells #[.int .i64 x,.int .i64 y,.int .i64 n] 100):=⟨_,rfl⟩
 have hit:XG.heap[G]?=some (.cells #[.int .i64 x,.int .i64 y,.int .i64 n] 100 (0,0)):=by rw [hXG,hG];exact heap_alloc_last W5 _
 have hBG:Below W5.heap.size W5 XG:=by rw [hXG];exact (Below.refl _ W5).alloc (Nat.le_refl _) _
 have hB:Below w.heap.size w XG:=hB5.trans (hBG.mono hB5.size)
 have hsG:XG.heap.size=G+1:=by rw [hXG,hG];simp
 have hGH:G=H+5:=by rw [hG,hs5]
 have r0:=cell_of_row _ _ 0 _ _ _ x1
 have r1:=cell_of_row _ _ 1 _ _ _ x1
 have r2:=cell_of_row _ _ 2 _ _ _ x1
 simp at r0 r1 r2
 have up:∀ k o,W5.heap[k]?=some o->XG.heap[k]?=some o:=fun k o e=>(hBG.block k (heap_lt0 e)).trans e
 have hqH:q<H:=by rw [hH];exact h.up
 have hnH':nb<H:=by rw [hH];exact h.px.1
 have HR:Hid (∀ W,Frm (fun k=>k=H+1+1+1+1) XG W->FwAt W q z nb C mh mb T/\W.cell? ⟨H,0,none⟩=some (.pointer (some ⟨q,0,none⟩))/\(W.cell? ⟨H+1+1,0,none⟩=some (.slice none 0 0)/\W.frozen? ⟨H+1+1,0,none⟩=false)/\(W.cell? ⟨H+1+1+1,0,none⟩=some (.bool false)/\W.frozen? ⟨H+1+1+1,0,none⟩=false)/\W.heap[G]?=some (.cells #[.int .i64 x,.int .i64 y,.int .i64 n] 100 (0,0))):=fun W f=>by
  have bl:∀ k o,W5.heap[k]?=some o->k ≠ H+1+1+1+1->W.heap[k]?=some o:=fun k o e hk=>(f.block k (heap_lt0 (up k o e)) hk).trans (up k o e)
  refine ⟨(h.below hB).frm f (by omega) (by omega),cell_of_row _ _ 0 _ _ _ (bl H _ x0 (Nat.ne_of_lt (by omega))),⟨cell_of_row _ _ 0 _ _ _ (bl _ _ x2 (by omega)),frozen_of_row _ _ 0 _ _ (bl _ _ x2 (by omega))⟩,⟨cell_of_row _ _ 0 _ _ _ (bl _ _ x3 (by omega)),frozen_of_row _ _ 0 _ _ (bl _ _ x3 (by omega))⟩,(f.block G (by rw [hsG];exact Nat.lt_succ_self _) (by show ¬ G=_;omega)).trans hit⟩
 have HW5:Hid (W5=((((w.alloc (.cells #[.pointer (some ⟨q,0,none⟩)] 87)).alloc (.cells #[.int .i64 x,.int .i64 y,.int .i64 n] 100)).alloc (.cells #[.slice none 0 0] 58)).alloc (.cells #[.bool false] 4)).alloc (.cells #[.slice none 0 0] 255)):=hW5
 have HXG:Hid (XG=W5.alloc (.cells #[.int .i64 x,.int .i64 y,.int .i64 n] 100)):=hXG
 have HH:Hid (H=w.heap.size/\G=W5.heap.size/\Below w.heap.size w XG/\G=H+5/\XG.heap.size=G+1):=⟨hH,hG,hB,hGH,hsG⟩
 have HI0:Hid (ColJ z T XG XG (H+1+1+1+1) (G+1) ([]:List (Pt x y n))):=by
  refine ⟨_,[],rfl,fun t ht=>absurd ht (List.not_mem_nil),Frm.refl _ _,cell_of_row _ _ 0 _ _ _ (up _ _ x4),frozen_of_row _ _ 0 _ _ (up _ _ x4),World.ownsRow_nil _ _ _ _,hsG.symm,by omega⟩
 have HZ:Hid (Z=z*z):=hZ
 have HN:Hid (0<n):=hn
 have HGH:Hid (G=H+5):=hGH
 clear hW5 x0 x1 x2 x3 x4 hs5 hB5 hXG hG hBG hB hGH hZ h hH up hn
 refine (callsIn_wide (n:=5)).1 ?_
 refine callsIn_of_wp_marks Tryz.func135 rfl trivial ?_ rfl
 simp only [Tryz.ntmps135,List.size_toArray,List.length_cons,List.length_nil,Nat.reduceAdd,Nat.reduceSub,Array.replicate_succ,Array.replicate_zero,List.push_toArray,List.append_toArray,List.nil_append,List.cons_append]
 refine wpIn_wide.2 ?_
 go_wp2_with (first
  | (rw [<- HW5.out,<- HH.out.1])
  | (go_at_call 105;refine (pPoints _ _ _ _).mono ?_;rintro e wq ⟨rfl,rfl⟩))
 clear r0 r1 r2
 rw [<- HH.out.2.1,<- HXG.out]
 refine (wpIn_wide (n:=5)).1 ?_
 refine wpIn_rangeFunc_ownF rfl (by decide) (gf:=131) (lb:=#[.pointer (some ⟨G,0,none⟩)]) rfl trivial (enters_of Tryz.func131 (by kernel_rfl) rfl)
  (points_stops Fence.wide (5-1) trivial rfl (by decide) G x y n (by omega) (by omega) XG hit)
  (fun h1 h2=>h2.trans h1) (fun W l o o' hl _ _ _=>World.putObj_heap_other (by omega)) (Below.refl _ _) (fun _=>rfl)
  (fun pre W=>ColJ z T XG W (H+1+1+1+1) (G+1) pre)
  (fun c pre W=>ColX z T XG W (H+1+1) (H+1+1+1) (H+1+1+1+1) c pre)
  ?own ?ownx HI0.out
  (fun pt=>{ tmps:=#[.pointer (some ⟨q,0,none⟩),.agg #[.int .i64 x,.int .i64 y,.int .i64 n],.pointer (some ⟨H,0,none⟩),.pointer (some ⟨H+1,0,none⟩),.pointer (some ⟨H+1+1,0,none⟩),.pointer (some ⟨H+1+1+1,0,none⟩),.pointer (some ⟨H+1+1+1+1,0,none⟩),.int .i64 pt.1.1,.int .i64 pt.1.2,undef,undef,undef,undef,undef,.agg #[.int .i64 x,.int .i64 y,.int .i64 n],.func (.func 131) #[] #[.pointer (some ⟨G,0,none⟩)],.int .i64 pt.1.1,.int .i64 pt.1.2,undef,undef,undef,undef,undef,undef,undef,undef,undef,undef,undef,undef,undef,undef,undef,undef,undef,undef,undef,undef,undef,undef,undef,undef,undef,undef,undef,undef,undef,undef,undef,undef,undef,undef,undef,undef,undef,undef,undef,undef,undef,undef,undef,undef,undef,undef,undef,undef],defers:=[] }) ?assign ?body ?done ?stop
 case own =>
  rintro pre W W' row ⟨v,L,j1,j2,j3⟩ hg hr
  have hsG:=HH.out.2.2.2.2
  have hr':∀ k,row=some k->G+1<=k:=fun k e=>by have:=(hr k e).1;omega
  have fg:Frm (fun k=>row=some k) W W':=(Frm.refl _ W).grown hg (fun k e=>.inl e)
  refine ⟨v,L,j1,j2,j3.frm fg hr' (fun k e hk=>?_)⟩
  obtain ⟨_,o,ho,hc⟩:=hr k hk
  obtain ⟨cs,tt,fr,h1⟩:=j3.isCells k (.inr e)
  rw [ho] at h1
  cases h1
  cases hc
 case ownx =>
  rintro c pre W W' row ⟨i1,i2,i3,i4,i5⟩ hg hr
  have hsG:=HH.out.2.2.2.2
  have hGH:=HH.out.2.2.2.1
  have hr':∀ k,row=some k->G+1<=k:=fun k e=>by have:=(hr k e).1;omega
  have fg:Frm (fun k=>row=some k) W W':=(Frm.refl _ W).grown hg (fun k e=>.inl e)
  exact ⟨i1,i2.grown hg (fun k e=>.inr (by have:=hr' k e;omega)),fg.cell i3 (fun e=>by have h9:G+1<=H+1+1:=hr' _ e;omega),fg.cell i4 (fun e=>by have h9:G+1<=H+1+1+1:=hr' _ e;omega),i5⟩
 case assign =>
  intro l pt W K hK
  dsimp only [encPt]
  gi_wp2
  exact hK
 case body =>
  rintro l pre ⟨⟨PX,PY⟩,⟨hpx1,hpx2⟩,hpy1,hpy2⟩ W ⟨v,L,j1,j2,j3⟩ hlen
  dsimp only at hpx1 hpx2 hpy1 hpy2 ⊢
  obtain ⟨f1,k00,⟨c4,z4⟩,⟨c5,z5⟩,hWG⟩:=HR.out W j3.fr
  obtain ⟨g0,g1,g2,hg⟩:∃ g0 g1 g2,T.getD (PY*z+PX) (0,0,0)=(g0,g1,g2):=⟨_,_,_,rfl⟩
  have HA:Hid (∀ wx,Below W.heap.size W wx->Calls Tryz.prog 113 #[.agg #[.int .i64 z,.slice (some ⟨nb,0,none⟩) Z C],.int .i64 PX,.int .i64 PY] wx fun e w'=>e=.returned (.agg #[.int .u8 g0,.int .u8 g1,.int .u8 g2])/\Below wx.heap.size wx w'):=fun wx hb=>by
   have:=pAt (C:=C) wx nb z T hzz (f1.px.below hb) PX PY (by omega) (by omega)
   rw [hg] at this
   rw [HZ.out]
   exact this
  have hL4:=tallies_len _ _ _ j1 (by simp)
  obtain ⟨a,cp,hv,hform⟩:=j3.form
  obtain ⟨N,hN⟩:∃ N,N=L.length:=⟨_,rfl⟩
  rw [<- hN] at hv hform hL4
  subst hv
  have d0:=f1.c0
  have d1:=f1.c1
  rw [<- HZ.out] at d1
  have hnx:tallies (((pre++[⟨(PX,PY),⟨hpx1,hpx2⟩,hpy1,hpy2⟩]:List (Pt x y n)).map (·.1)).map (Pk.pixT z T)) []=if find (g0,g1,g2) L<N \/ N<4 then some (tally L (g0,g1,g2)) else none:=by
   rw [List.map_append,List.map_append,List.map_cons,List.map_nil,List.map_cons,List.map_nil,tallies_snoc,j1,hN]
   show (if find (T.getD (PY*z+PX) (0,0,0)) L<L.length \/ L.length<4 then some (tally L (T.getD (PY*z+PX) (0,0,0))) else none)=_
   rw [hg]
  have hcn:CntOk (pre++[⟨(PX,PY),⟨hpx1,hpx2⟩,hpy1,hpy2⟩]:List (Pt x y n)).length (tally L (g0,g1,g2)):=by rw [List.length_append];exact j2.tally _
  have hWl:pre.length<=1000:=by
   have hnn:n*n<=16*16:=Nat.mul_le_mul (by omega) (by omega)
   omega
  have HBX:Hid (∀ wa,Below W.heap.size W wa->∃ wb K,Hid (wb=wa.alloc (.cells #[.int .u8 g0,.int .u8 g1,.int .u8 g2] 50))/\Hid (K=wa.heap.size)/\wb.cell? ⟨H+1+1+1+1,0,none⟩=some (.slice a N cp)/\Hid (Below W.heap.size W wb/\(wb.cell? ⟨K,0,none⟩=some (.int .u8 g0)/\wb.cell? ⟨K,1,none⟩=some (.int .u8 g1)/\wb.cell? ⟨K,2,none⟩=some (.int .u8 g2))/\Calls Tryz.prog 157 #[.slice a N cp,.func (.func 158) #[] #[.pointer (some ⟨K,0,none⟩)]] wb fun e w'=>e=.returned (.int .i64 (findI (g0,g1,g2) L))/\Below wb.heap.size wb w')):=by
   intro wa ba
   obtain ⟨wb,hwb⟩:∃ wb,wb=wa.alloc (.cells #[.int .u8 g0,.int .u8 g1,.int .u8 g2] 50):=⟨_,rfl⟩
   obtain ⟨K,hK⟩:∃ K,K=wa.heap.size:=⟨_,rfl⟩
   have hk:wb.heap[K]?=some (.cells #[.int .u8 g0,.int .u8 g1,.int .u8 g2] 50):=by rw [hwb,hK];exact heap_alloc_last wa _
   have bb:Below W.heap.size W wb:=ba.trans (by rw [hwb];exact (Below.refl _ wa).alloc (Nat.le_refl _) _ |>.mono ba.size)
   have t:=j3.below bb
   have c0:=cell_of_row _ _ 0 _ _ _ hk
   have c1:=cell_of_row _ _ 1 _ _ _ hk
   have c2:=cell_of_row _ _ 2 _ _ _ hk
   simp at c0 c1 c2
   refine ⟨wb,K,hwb,hK,t.c6,bb,⟨c0,c1,c2⟩,pIndexFunc wb a N cp K L (g0,g1,g2) hN.symm hL4 ?_ c0 c1 c2⟩
   exact hform.imp id (fun ⟨g,e1,e2⟩=>⟨g,e1,fun k t ht=>(e2.below bb).at ht⟩)
  have HJ:Hid (TJ XG W (H+1+1+1+1) (G+1) L (.slice a N cp)/\N=L.length/\CntOk pre.length L):=⟨j3,hN,j2⟩
  have HNX:Hid (tallies (((pre++[⟨(PX,PY),⟨hpx1,hpx2⟩,hpy1,hpy2⟩]:List (Pt x y n)).map (·.1)).map (Pk.pixT z T)) []=if find (g0,g1,g2) L<N \/ N<4 then some (tally L (g0,g1,g2)) else none):=hnx
  have HCN:Hid (CntOk (pre++[⟨(PX,PY),⟨hpx1,hpx2⟩,hpy1,hpy2⟩]:List (Pt x y n)).length (tally L (g0,g1,g2))):=hcn
  have HWG:Hid (W.heap[G]?=some (.cells #[.int .i64 x,.int .i64 y,.int .i64 n] 100 (0,0))):=hWG
  have hGH:=HH.out.2.2.2.1
  by_cases hf:find (g0,g1,g2) L<N
  ·obtain ⟨cnt,hcnt⟩:=find_get (by rw [<- hN];exact hf)
   obtain ⟨g,ha,_⟩:=hform.resolve_left (by omega)
   subst ha
   obtain ⟨i,hi⟩:∃ i,i=find (g0,g1,g2) L:=⟨_,rfl⟩
   rw [<- hi] at hcnt hf
   have hcb:=j2 _ (List.mem_of_getElem? hcnt)
   have HIX:Hid (∀ wb K,Below W.heap.size W wb->(Calls Tryz.prog 157 #[.slice (some ⟨g,0,none⟩) N cp,.func (.func 158) #[] #[.pointer (some ⟨K,0,none⟩)]] wb fun e w'=>e=.returned (.int .i64 (findI (g0,g1,g2) L))/\Below wb.heap.size wb w')->Calls Tryz.prog 157 #[.slice (some ⟨g,0,none⟩) N cp,.func (.func 158) #[] #[.pointer (some ⟨K,0,none⟩)]] wb fun e w'=>e=.returned (.int .i64 i)/\w'.cell? ⟨H+1+1+1+1,0,none⟩=some (.slice (some ⟨g,0,none⟩) N cp)/\w'.cell? ⟨g,i*4+3,none⟩=some (.int .i64 cnt)/\w'.frozen? ⟨g,i*4+3,none⟩=false/\Hid (Below W.heap.size W w'/\TJ XG (w'.setCell ⟨g,i*4+3,none⟩ (.int .i64 (cnt+1))) (H+1+1+1+1) (G+1) (L.set i ((g0,g1,g2),cnt+1)) (.slice (some ⟨g,0,none⟩) N cp))):=fun wb K bb hc=>hc.mono fun e w' he=>by
    have b2:=bb.trans (he.2.mono bb.size)
    have t:=HJ.out.1.below b2
    obtain ⟨t1,t2,t3⟩:=t.count hcnt HJ.out.2.1.symm
    exact ⟨by rw [he.1,findI_lt (by rw [<- hi,<- HJ.out.2.1];exact hf),<- hi],t.c6,t1,t2,b2,t3⟩
   have hi0:¬ ((i:Int)<0):=by omega
   have hi4:¬ ((i:Int)=4):=by omega
   have hiN:(i:Int)<(N:Int):=by omega
   have hcw:wrap64 (cnt+1)=cnt+1:=by unfold wrap64;dsimp only at hcb;omega
   have HI:Hid (i=find (g0,g1,g2) L/\i<N/\L[i]?=some ((g0,g1,g2),cnt)):=⟨hi,hf,hcnt⟩
   clear hi hf hcnt hcb hnx hcn hN hform j1 j2 j3 hWG f1 c4 z4 c5 z5 hg hlen hWl hL4
   gi_wp2_with (first
    | (refine ⟨trivial,?_⟩;gi_at_call 113;refine (CallsIn.inRound l (callsIn_wide.2 (HA.out W (Below.refl _ _)))).mono ?_;rintro e wa ⟨rfl,ba⟩;obtain ⟨wb,K,HWB,HK,c6,HBB⟩:=HBX.out wa ba)
    | (rw [<- HWB.out,<- HK.out];clear HWB HK)
    | (refine ⟨trivial,?_⟩;gi_at_call 157;refine (CallsIn.inRound l (callsIn_wide.2 (HIX.out wb K HBB.out.1 HBB.out.2.2))).mono ?_;rintro e wc ⟨rfl,c61,cn,fn,HF⟩))
   obtain ⟨b1,t1⟩:=HF.out
   obtain ⟨i1,i2,i3⟩:=HI.out
   have hgB:G+1<=g:=(World.ownsRow.lt HJ.out.1.own g rfl).1
   have fX:Frm (fun k=>k=g) W (wc.setCell ⟨g,i*4+3,none⟩ (.int .i64 (cnt+1))):=Frm.setCell (p:=⟨g,i*4+3,none⟩) (Frm.of_below (S:=fun k=>k=g) b1) (.inl rfl) _
   refine ⟨keeps_cells fX (fun k e=>HJ.out.1.isCells k (.inr (by rw [e];rfl))),fX.block G (heap_lt0 HWG.out) (show ¬ G=g by omega),⟨.slice (some ⟨g,0,none⟩) N cp,tally L (g0,g1,g2),?_,HCN.out,?_⟩⟩
   ·rw [HNX.out,if_pos (.inl (by rw [<- i1];exact i2))]
   ·rw [tally_old (by rw [<- i1,<- HJ.out.2.1];exact i2),<- i1,show (L.getD i tl0).2=cnt by rw [getD_some i3]]
    exact t1
  ·have hfN:find (g0,g1,g2) L=N:=by have:=find_le (g0,g1,g2) L;omega
   obtain ⟨V,hV⟩:∃ V,V=Value.slice a N cp:=⟨_,rfl⟩
   rw [<- hV] at HBX HJ
   have HIX:Hid (∀ wb K,Below W.heap.size W wb->(wb.cell? ⟨K,0,none⟩=some (.int .u8 g0)/\wb.cell? ⟨K,1,none⟩=some (.int .u8 g1)/\wb.cell? ⟨K,2,none⟩=some (.int .u8 g2))->(Calls Tryz.prog 157 #[V,.func (.func 158) #[] #[.pointer (some ⟨K,0,none⟩)]] wb fun e w'=>e=.returned (.int .i64 (findI (g0,g1,g2) L))/\Below wb.heap.size wb w')->Calls Tryz.prog 157 #[V,.func (.func 158) #[] #[.pointer (some ⟨K,0,none⟩)]] wb fun e w'=>e=.returned (.int .i64 (-1))/\∃ gg cap w2 w3,w'.cell? ⟨H+1+1+1+1,0,none⟩=some V/\(w'.cell? ⟨K,0,none⟩=some (.int .u8 g0)/\w'.cell? ⟨K,1,none⟩=some (.int .u8 g1)/\w'.cell? ⟨K,2,none⟩=some (.int .u8 g2)) /\
     (Builtin.append_ #[255,255] 255 #[V,.slice (some ⟨w'.heap.size,0,none⟩) 1 1]).run Tryz.prog (w'.alloc (.cells #[.int .u8 g0,.int .u8 g1,.int .u8 g2,.int .i64 0] 258))=.ok (.slice (some ⟨gg,0,none⟩) (N+1) cap) w2/\(w2.cell? ⟨H+1+1+1+1,0,none⟩=some V/\w2.frozen? ⟨H+1+1+1+1,0,none⟩=false)/\Hid (w3=w2.setCell ⟨H+1+1+1+1,0,none⟩ (.slice (some ⟨gg,0,none⟩) (N+1) cap)) /\
     (w3.cell? ⟨H+1+1,0,none⟩=some (.slice none 0 0)/\w3.frozen? ⟨H+1+1,0,none⟩=false)/\(w3.cell? ⟨H+1+1+1,0,none⟩=some (.bool false)/\w3.frozen? ⟨H+1+1+1,0,none⟩=false)/\w3.cell? ⟨H+1+1+1+1,0,none⟩=some (.slice (some ⟨gg,0,none⟩) (N+1) cap)/\(w3.cell? ⟨gg,N*4+3,none⟩=some (.int .i64 0)/\w3.frozen? ⟨gg,N*4+3,none⟩=false) /\
     Hid (TJ XG w3 (H+1+1+1+1) (G+1) (L++[((g0,g1,g2),0)]) (.slice (some ⟨gg,0,none⟩) (N+1) cap)/\TJ XG (w3.setCell ⟨gg,N*4+3,none⟩ (.int .i64 1)) (H+1+1+1+1) (G+1) (L++[((g0,g1,g2),1)]) (.slice (some ⟨gg,0,none⟩) (N+1) cap)/\Frm (fun k=>k=H+1+1+1+1 \/ V.ownBlock=some k) W w3/\(gg ≠ G/\(V.ownBlock=some gg \/ W.heap.size<=gg)))):=fun wb K bb hk hc=>hc.mono fun e w' he=>by
    have b2:=bb.trans (he.2.mono bb.size)
    have cc:∀ (a:Addr) (v:Value),wb.cell? a=some v->w'.cell? a=some v:=fun a v e=>(he.2.cell (World.block_lt_of_cell? wb _ e)).trans e
    have t:=HJ.out.1.below b2
    have hN:=HJ.out.2.1
    obtain ⟨gg,cap,w2,t1,t2,t3,t4,t5,t6⟩:=t.app (by rw [<- hN];exact hL4) (g0,g1,g2)
    rw [<- hN] at t1 t4 t5
    obtain ⟨w3,hw3⟩:∃ w3,w3=w2.setCell ⟨H+1+1+1+1,0,none⟩ (.slice (some ⟨gg,0,none⟩) (N+1) cap):=⟨_,rfl⟩
    rw [<- hw3] at t4 t5
    obtain ⟨_,_,y4,y5,y6⟩:=HR.out w3 t4.fr
    obtain ⟨u1,u2,u3⟩:=t4.count (i:=N) (c:=(g0,g1,g2)) (m:=0) (by rw [hN,List.getElem?_append_right (Nat.le_refl _),Nat.sub_self];rfl) (by rw [List.length_append,hN];rfl)
    rw [hN,snoc_set,<- hN] at u3
    have hgB:G+1<=gg:=(World.ownsRow.lt t4.own gg rfl).1
    refine ⟨by rw [he.1,findI_ge (by rw [<- hN];exact hf)],gg,cap,w2,w3,t.c6,⟨cc _ _ hk.1,cc _ _ hk.2.1,cc _ _ hk.2.2⟩,t1,⟨t2,t3⟩,hw3,y4,y5,t4.c6,⟨u1,u2⟩,t4,u3,(Frm.of_below b2).trans t5,by omega,t6.imp id (fun e=>Nat.le_trans b2.size e)⟩
   have HFN:Hid (find (g0,g1,g2) L=N):=hfN
   have H45:Hid (W.cell? ⟨H+1+1,0,none⟩=some (.slice none 0 0)/\W.cell? ⟨H+1+1+1,0,none⟩=some (.bool false)):=⟨c4,c5⟩
   have HLEN:Hid (∀ w:World,Sem.run Tryz.prog (Builtin.len_ #[255] 3 #[V]) w=.ok (.int .i64 N) w):=fun w=>by rw [hV];exact len_run Tryz.underlying255 w
   have hN1:(N:Int)<((N+1:Nat):Int):=by omega
   have hNw:wrap64 (0+1)=1:=by unfold wrap64;decide
   clear hf hfN hnx hcn hN hform j1 j2 j3 hWG f1 c4 z4 c5 z5 hg hlen hWl hV
   by_cases h4:N=4
   ·have h4b:(((N:Nat):Int) == 4)=true:=by simp;omega
    have H4:Hid (N=4):=h4
    clear h4 hL4
    gi_wp2_with (first
     | (refine ⟨trivial,?_⟩;gi_at_call 113;refine (CallsIn.inRound l (callsIn_wide.2 (HA.out W (Below.refl _ _)))).mono ?_;rintro e wa ⟨rfl,ba⟩;obtain ⟨wb,K,HWB,HK,c6,HBB⟩:=HBX.out wa ba)
     | (rw [<- HWB.out,<- HK.out];clear HWB HK)
     | (refine ⟨trivial,?_⟩;gi_at_call 157;refine (CallsIn.inRound l (callsIn_wide.2 (HIX.out wb K HBB.out.1 HBB.out.2.1 HBB.out.2.2))).mono ?_;rintro e wc ⟨rfl,gg,cap,w2,w3,v1,⟨v2,v3,v4⟩,ra,⟨v5,v6⟩,HW3,⟨v7,v8⟩,⟨v9,v10⟩,v11,⟨v12,v13⟩,HF⟩))
    rw [HLEN.out]
    gi_wp2_with (first
     | (rw [<- HW3.out];clear HW3)
     | (with_reducible show wpListIn _ _ _ _ _ _ _ _;refine wpListIn_append_run (sv:=V) (xv:=.slice (some ⟨wc.heap.size,0,none⟩) 1 1) (v:=.slice (some ⟨gg,0,none⟩) (N+1) cap) (w':=w2) rfl 255 (.tmp 32) (.tmp 35) rfl rfl rfl ra ?_;clear ra))
    obtain ⟨t1,_,t3,_⟩:=HF.out
    obtain ⟨X,hX⟩:∃ X,X=(w3.setCell ⟨H+1+1,0,none⟩ (.slice none 0 0)).setCell ⟨H+1+1+1,0,none⟩ (.bool false):=⟨_,rfl⟩
    have fX:Frm (fun k=>k=H+1+1 \/ k=H+1+1+1) w3 X:=by rw [hX];exact Frm.setCell (p:=⟨H+1+1+1,0,none⟩) (Frm.setCell (p:=⟨H+1+1,0,none⟩) (Frm.refl _ w3) (.inl (.inl rfl)) _) (.inl (.inr rfl)) _
    have fW:Frm (fun k=>(k=H+1+1+1+1 \/ V.ownBlock=some k) \/ k=H+1+1 \/ k=H+1+1+1) W X:=(t3.mono fun k _ e=>.inl e).trans (fX.mono fun k _ e=>.inr e)
    have q4:X.cell? ⟨H+1+1,0,none⟩=some (.slice none 0 0):=by
     rw [hX]
     exact (Frm.setCell (p:=⟨H+1+1+1,0,none⟩) (Frm.refl (fun k=>k=H+1+1+1) (w3.setCell ⟨H+1+1,0,none⟩ (.slice none 0 0))) (.inl rfl) _).cell (World.cell?_setCell_same _ _ _ v7) (by show ¬ H+1+1=H+1+1+1;omega)
    have q5:X.cell? ⟨H+1+1+1,0,none⟩=some (.bool false):=by
     rw [hX]
     exact World.cell?_setCell_same _ _ _ ((Frm.setCell (p:=⟨H+1+1,0,none⟩) (Frm.refl (fun k=>k=H+1+1) w3) (.inl rfl) _).cell v9 (by show ¬ H+1+1+1=H+1+1;omega))
    rw [<- hX]
    refine ⟨keeps_cells fW (fun k e=>?_),rfl,(t1.fr.mono fun k _ e=>.inr (.inr e)).trans (fX.mono fun k _ e=>e.imp id .inl),q4,q5,?_⟩
    ·rcases e with e|e|e
     ·exact HJ.out.1.isCells k e
     ·rw [e];exact isCells_of H45.out.1
     ·rw [e];exact isCells_of H45.out.2
    ·rw [HNX.out,if_neg (by rw [HFN.out,H4.out];decide)]
   ·have h4b:(((N:Nat):Int) == 4)=false:=by simp;omega
    have H4:Hid (N<4):=by rw [Hid];omega
    clear h4 hL4
    gi_wp2_with (first
     | (refine ⟨trivial,?_⟩;gi_at_call 113;refine (CallsIn.inRound l (callsIn_wide.2 (HA.out W (Below.refl _ _)))).mono ?_;rintro e wa ⟨rfl,ba⟩;obtain ⟨wb,K,HWB,HK,c6,HBB⟩:=HBX.out wa ba)
     | (rw [<- HWB.out,<- HK.out];clear HWB HK)
     | (refine ⟨trivial,?_⟩;gi_at_call 157;refine (CallsIn.inRound l (callsIn_wide.2 (HIX.out wb K HBB.out.1 HBB.out.2.1 HBB.out.2.2))).mono ?_;rintro e wc ⟨rfl,gg,cap,w2,w3,v1,⟨v2,v3,v4⟩,ra,⟨v5,v6⟩,HW3,⟨v7,v8⟩,⟨v9,v10⟩,v11,⟨v12,v13⟩,HF⟩))
    rw [HLEN.out]
    gi_wp2_with (first
     | (rw [<- HW3.out];clear HW3)
     | (with_reducible show wpListIn _ _ _ _ _ _ _ _;refine wpListIn_append_run (sv:=V) (xv:=.slice (some ⟨wc.heap.size,0,none⟩) 1 1) (v:=.slice (some ⟨gg,0,none⟩) (N+1) cap) (w':=w2) rfl 255 (.tmp 32) (.tmp 35) rfl rfl rfl ra ?_;clear ra))
    obtain ⟨_,t2,t3,t4,t5⟩:=HF.out
    have fW:Frm (fun k=>k=H+1+1+1+1 \/ V.ownBlock=some k) W (w3.setCell ⟨gg,N*4+3,none⟩ (.int .i64 1)):=t3.setCell (p:=⟨gg,N*4+3,none⟩) (t5.imp .inr id) _
    have hGV:¬ (G=H+1+1+1+1 \/ V.ownBlock=some G):=fun e=>e.elim (fun e=>by omega) (fun e=>by have:=(World.ownsRow.lt HJ.out.1.own G e).1;omega)
    refine ⟨keeps_cells fW (fun k e=>HJ.out.1.isCells k e),fW.block G (heap_lt0 HWG.out) hGV,⟨.slice (some ⟨gg,0,none⟩) (N+1) cap,tally L (g0,g1,g2),?_,HCN.out,?_⟩⟩
    ·rw [HNX.out,if_pos (.inr H4.out)]
    ·rw [tally_new (by rw [<- HJ.out.2.1];have:=HFN.out;omega)]
     exact t2
 case done =>
  rintro D xs W hD hxs ⟨v,L,j1,j2,j3⟩ hK
  rw [hxs] at j1
  have hsp:(Flm.spots x y n).map (Pk.pixT z T) ≠ []:=fun e0=>by
   have h1:=congrArg List.length e0
   rw [List.length_map,Flm.spots_len] at h1
   have h2:0<n*n:=Nat.mul_pos HN.out HN.out
   simp only [List.length_nil] at h1
   omega
  have hpos:=tallies_pos _ _ _ j1 (.inl hsp)
  have hL4:=tallies_len _ _ _ j1 (by simp)
  obtain ⟨a,cp,hv,hform⟩:=j3.form
  obtain ⟨N,hN⟩:∃ N,N=L.length:=⟨_,rfl⟩
  rw [<- hN] at hv hform hL4 hpos
  subst hv
  obtain ⟨g,ha,hT⟩:=hform.resolve_left (by omega)
  subst ha
  obtain ⟨_,_,⟨c4,z4⟩,⟨c5,z5⟩,_⟩:=HR.out W j3.fr
  have hgB:G+1<=g:=(World.ownsRow.lt j3.own g rfl).1
  have hgW:g<W.heap.size:=hT.lt
  have c6:=j3.c6
  have hGH:=HH.out.2.2.2.1
  obtain ⟨cs,hcs⟩:∃ cs,cs=((sorts N L).map (·.1)):=⟨_,rfl⟩
  have hcsl:cs.length=N:=by rw [hcs,List.length_map,(Pk.sorts_facts N L (by omega)).1,hN]
  have HCO:Hid (coloursL z T x y n=some cs):=by
   unfold Hid coloursL
   rw [j1,hcs,hN]
   rfl
  have HSO:Hid (Calls Tryz.prog 159 #[.slice (some ⟨g,0,none⟩) N cp,.func (.func 160) #[] #[]] W fun e w'=>e=.returned (.tuple #[])/\(w'.cell? ⟨H+1+1+1+1,0,none⟩=some (.slice (some ⟨g,0,none⟩) N cp))/\(∀ o,(w'.alloc o).cell? ⟨H+1+1+1+1,0,none⟩=some (.slice (some ⟨g,0,none⟩) N cp))/\Hid (TalB w' g (sorts N L)/\Frm (fun k=>k=g) W w')):=by
   refine (pSortStable W g N cp L hN.symm hpos hL4 hT).mono fun e w' he=>?_
   have h6:=he.2.2.cell c6 (show ¬ H+1+1+1+1=g by omega)
   exact ⟨he.1,h6,fun o=>((Below.refl _ w').alloc (Nat.le_refl _) o |>.cell (World.block_lt_of_cell? w' _ h6)).trans h6,he.2⟩
  have HD:Hid (W.heap[D]?=some (.deferred (some []))/\Frm (fun k=>k=H+1+1+1+1) XG W/\D ≠ g/\G+1<=g/\cs=((sorts N L).map (·.1))/\cs.length=N/\g<W.heap.size/\(W.cell? ⟨H+1+1,0,none⟩=some (.slice none 0 0)/\W.frozen? ⟨H+1+1,0,none⟩=false)/\(W.cell? ⟨H+1+1+1,0,none⟩=some (.bool false)/\W.frozen? ⟨H+1+1+1,0,none⟩=false)):=by
   refine ⟨hK,j3.fr,fun e=>?_,hgB,hcs,hcsl,hgW,⟨c4,z4⟩,⟨c5,z5⟩⟩
   obtain ⟨r,hr⟩:=hT
   rw [e,hr] at hK
   cases hK
  have hmk:=makePx4 N hL4
  have hDK:Hid (D ≠ H+1+1/\D ≠ H+1+1+1/\D ≠ H+1+1+1+1):=by
   refine ⟨fun e=>?_,fun e=>?_,fun e=>?_⟩
   ·obtain ⟨_,_,_,h1⟩:=isCells_of c4
    rw [e] at hK
    rw [hK] at h1
    cases h1
   ·obtain ⟨_,_,_,h1⟩:=isCells_of c5
    rw [e] at hK
    rw [hK] at h1
    cases h1
   ·obtain ⟨_,_,_,h1⟩:=isCells_of c6
    rw [e] at hK
    rw [hK] at h1
    cases h1
  have hN0:(0:Int)<=(N:Int):=by omega
  have HLN:Hid (N=L.length):=hN
  clear hxs j1 j2 j3 hsp hT c4 z4 c5 z5 hK hcs hcsl hN
  go_wp2_with (go_at_call 159;refine HSO.out.mono ?_;rintro e w2 ⟨rfl,c62,c63,HT2⟩)
  obtain ⟨M,hM⟩:∃ M,M=w2.heap.size:=⟨_,rfl⟩
  obtain ⟨W3,hW3⟩:∃ W3,W3=w2.alloc (.cells (madeCells #[.int .u8 0,.int .u8 0,.int .u8 0] (N*3)) 50):=⟨_,rfl⟩
  rw [<- hM,<- hW3]
  have b3:Below w2.heap.size w2 W3:=by rw [hW3];exact (Below.refl _ w2).alloc (Nat.le_refl _) _
  have hMB:W3.heap[M]?=some (.cells (madeCells #[.int .u8 0,.int .u8 0,.int .u8 0] (N*3)) 50 (0,0)):=by rw [hW3,hM];exact heap_alloc_last w2 _
  have hgM:g<M:=by rw [hM];exact Nat.lt_of_lt_of_le HD.out.2.2.2.2.2.2.1 HT2.out.2.size
  have HWM:Hid (W.heap.size<=M):=by rw [Hid,hM];exact HT2.out.2.size
  have HP:Hid (TalB W3 g (sorts N L)/\Frm (fun k=>k=g) W W3/\w2.cell? ⟨H+1+1+1+1,0,none⟩=some (.slice (some ⟨g,0,none⟩) N cp)):=⟨HT2.out.1.below b3,HT2.out.2.trans (Frm.of_below b3),c62⟩
  have HMB:Hid (W3.heap[M]?=some (.cells (pxCells (cs.take 0)++(madeCells #[Value.int .u8 0,.int .u8 0,.int .u8 0] (N*3)).toList).toArray 50 (0,0))/\(madeCells #[Value.int .u8 0,.int .u8 0,.int .u8 0] (N*3)).toList.length=(N-0)*3):=by
   refine ⟨by rw [hMB];rfl,?_⟩
   rw [Array.length_toList,madeCells_size]
   rfl
  clear hmk hM hW3 b3 hMB c62 c63 c6 HT2 HSO
  go_loopw [54] (fun v54 wr=>∃ (j:Nat) (r:List Value),j<=N/\v54=.int .i64 j/\Frm (fun k=>k=M) W3 wr/\wr.heap[M]?=some (.cells (pxCells (cs.take j)++r).toArray 50 (0,0))/\r.length=(N-j)*3) (fun v54 _=>N-(intOf v54).toNat)
  case atStart=>exact ⟨0,_,Nat.zero_le _,rfl,Frm.refl _ _,HMB.out.1,HMB.out.2⟩
  case round =>
   clear HMB
   obtain ⟨j,r,hj,rfl,hF,hR,hrl⟩:=hrel
   by_cases hlt:j<N
   ·have hlt':(j:Int)<(N:Int):=by omega
    obtain ⟨u0,u1,u2,r',rfl⟩:=three_head r (by omega)
    obtain ⟨d1,d2,d3,d4,d5,d6,d7,d8⟩:=HD.out
    have hsl:(sorts N L).length=N:=by rw [d5,List.length_map] at d6;exact d6
    obtain ⟨t,ht⟩:∃ t,(sorts N L)[j]?=some t:=⟨(sorts N L)[j]'(by omega),List.getElem?_eq_getElem _⟩
    obtain ⟨⟨t0,t1,t2⟩,tc⟩:=t
    have hcj:cs[j]?=some (t0,t1,t2):=by rw [d5,List.getElem?_map,ht];rfl
    obtain ⟨k0,k1,k2,k3⟩:=(HP.out.1.frm hF (by omega)).at ht
    dsimp only at k0 k1 k2 k3
    have htl:(pxCells (cs.take j)).length=j*3:=by rw [pxCells_len,List.length_take,d6,Nat.min_eq_left (by omega)]
    have m0:wr.cell? ⟨M,j*3,none⟩=some u0:=by
     rw [cell_of_row _ _ _ _ _ _ hR,List.getElem?_toArray,<- htl,List.getElem?_append_right (Nat.le_refl _),Nat.sub_self];rfl
    have m1:wr.cell? ⟨M,j*3+1,none⟩=some u1:=by
     rw [cell_of_row _ _ _ _ _ _ hR,List.getElem?_toArray,<- htl,List.getElem?_append_right (by omega),Nat.add_sub_cancel_left];rfl
    have m2:wr.cell? ⟨M,j*3+2,none⟩=some u2:=by
     rw [cell_of_row _ _ _ _ _ _ hR,List.getElem?_toArray,<- htl,List.getElem?_append_right (by omega),Nat.add_sub_cancel_left];rfl
    have n0:=frozen_of_row _ _ (j*3) _ _ hR
    have n1:=frozen_of_row _ _ (j*3+1) _ _ hR
    have n2:=frozen_of_row _ _ (j*3+2) _ _ hR
    have hMw:M<wr.heap.size:=heap_lt0 hR
    have HNX:Hid (Frm (fun k=>k=M) W3 ((((wr.setCell ⟨M,j*3,none⟩ (.int .u8 t0)).setCell ⟨M,j*3+1,none⟩ (.int .u8 t1)).setCell ⟨M,j*3+2,none⟩ (.int .u8 t2)).alloc (.cells #[.int .u8 t0,.int .u8 t1,.int .u8 t2,.int .i64 tc] 258))/\((((wr.setCell ⟨M,j*3,none⟩ (.int .u8 t0)).setCell ⟨M,j*3+1,none⟩ (.int .u8 t1)).setCell ⟨M,j*3+2,none⟩ (.int .u8 t2)).alloc (.cells #[.int .u8 t0,.int .u8 t1,.int .u8 t2,.int .i64 tc] 258)).heap[M]?=some (.cells (pxCells (cs.take (j+1))++r').toArray 50 (0,0))/\r'.length=(N-(j+1))*3):=by
     refine ⟨(Frm.setCell (p:=⟨M,j*3+2,none⟩) (Frm.setCell (p:=⟨M,j*3+1,none⟩) (Frm.setCell (p:=⟨M,j*3,none⟩) hF (.inl rfl) _) (.inl rfl) _) (.inl rfl) _).alloc _,?_,by simp only [List.length_cons] at hrl;omega⟩
     rw [Below.heap_alloc _ _ _ (by simp only [World.size_setCell];exact hMw),Go.heap_setCell_same _ _ _ _ _ _ (Go.heap_setCell_same _ _ _ _ _ _ (Go.heap_setCell_same _ _ _ _ _ _ hR)),List.setIfInBounds_toArray,List.setIfInBounds_toArray,List.setIfInBounds_toArray,take_snoc hcj,<- px_snoc _ u0 u1 u2 r' (t0,t1,t2) htl]
    clear hF hR hrl d1 d2 d3 d4 d5 d6 d7 d8 hsl ht hcj htl
    go_wp2
    go_roundw
    case rel=>exact ⟨j+1,r',hlt,by go_num,HNX.out⟩
    case measure=>simp [intOf];omega
   ·have hlt':¬ (j:Int)<(N:Int):=by omega
    have hjN:j=N:=by omega
    obtain ⟨d1,d2,d3,d4,d5,d6,d7,⟨d8,d9⟩,⟨d10,d11⟩⟩:=HD.out
    obtain ⟨p1,p2,p3⟩:=HP.out
    have hMw:W.heap.size<=M:=HWM.out
    have fW:Frm (fun k=>k=g \/ k=M) W wr:=(p2.mono fun k _ e=>.inl e).trans (hF.mono fun k _ e=>.inr e)
    have k4:H+1+1<W.heap.size:=World.block_lt_of_cell? W _ d8
    have k5:H+1+1+1<W.heap.size:=World.block_lt_of_cell? W _ d10
    have n4:¬ (H+1+1=g \/ H+1+1=M):=by omega
    have n5:¬ (H+1+1+1=g \/ H+1+1+1=M):=by omega
    have q4:=fW.cell d8 n4
    have q5:=fW.cell d10 n5
    have y4:=(World.frozen?_of_block (a:=⟨H+1+1,0,none⟩) (fW.block _ k4 n4)).trans d9
    have y5:=(World.frozen?_of_block (a:=⟨H+1+1+1,0,none⟩) (fW.block _ k5 n5)).trans d11
    have hDM:¬ (D=g \/ D=M):=fun e=>by have:=heap_lt0 d1;omega
    have HE:Hid (ColsAt wr M cs/\Frm (fun k=>k=g \/ k=M) W wr/\wr.heap[D]?=some (.deferred (some []))/\W.heap.size<=M/\M<wr.heap.size):=by
     refine ⟨fun k c hk=>?_,fW,(fW.block D (heap_lt0 d1) hDM).trans d1,hMw,heap_lt0 hR⟩
     have hkl:=(List.getElem?_eq_some_iff.1 hk).1
     rw [hjN,<- d6,List.take_length] at hR
     obtain ⟨e1,e2,e3⟩:=pxCells_get cs k hkl
     have ec:cs.getD k (0,0,0)=c:=by rw [List.getD_eq_getElem?_getD,hk];rfl
     rw [ec] at e1 e2 e3
     have hl:=pxCells_len cs
     refine ⟨?_,?_,?_⟩ <;> rw [cell_of_row _ _ _ _ _ _ hR,List.getElem?_toArray,List.getElem?_append_left (by omega)] <;> assumption
    have HX:Hid (wr.cell? ⟨H+1+1,0,none⟩=some (.slice none 0 0)/\wr.cell? ⟨H+1+1+1,0,none⟩=some (.bool false)):=⟨q4,q5⟩
    clear d1 d2 d3 d4 d5 d6 d7 d8 d9 d10 d11 p1 p2 p3 hF hR hrl fW hDM n4 n5 k4 k5 hMw
    go_wp2_with fail
    obtain ⟨X2,hX2⟩:∃ X2,X2=(wr.setCell ⟨H+1+1,0,none⟩ (.slice (some ⟨M,0,none⟩) N N)).setCell ⟨H+1+1+1,0,none⟩ (.bool true):=⟨_,rfl⟩
    rw [<- hX2]
    obtain ⟨e1,e2,e3,e4,e5⟩:=HE.out
    obtain ⟨x4,x5⟩:=HX.out
    have f1:Frm (fun k=>k=H+1+1) wr (wr.setCell ⟨H+1+1,0,none⟩ (.slice (some ⟨M,0,none⟩) N N)):=Frm.setCell (p:=⟨H+1+1,0,none⟩) (Frm.refl (fun k=>k=H+1+1) wr) (.inl rfl) _
    have f2:Frm (fun k=>k=H+1+1+1) (wr.setCell ⟨H+1+1,0,none⟩ (.slice (some ⟨M,0,none⟩) N N)) X2:=by rw [hX2];exact Frm.setCell (p:=⟨H+1+1+1,0,none⟩) (Frm.refl (fun k=>k=H+1+1+1) _) (.inl rfl) _
    have fX:Frm (fun k=>k=H+1+1 \/ k=H+1+1+1) wr X2:=(f1.mono fun k _ e=>.inl e).trans (f2.mono fun k _ e=>.inr e)
    have r4:X2.cell? ⟨H+1+1,0,none⟩=some (.slice (some ⟨M,0,none⟩) N N):=f2.cell (World.cell?_setCell_same _ _ _ x4) (by show ¬ H+1+1=H+1+1+1;omega)
    have r5:X2.cell? ⟨H+1+1+1,0,none⟩=some (.bool true):=by rw [hX2];exact World.cell?_setCell_same _ _ _ (f1.cell x5 (by show ¬ H+1+1+1=H+1+1;omega))
    have hKX:X2.heap[D]?=some (.deferred (some [])):=(fX.block _ (heap_lt0 e3) (fun e=>e.elim hDK.out.1 hDK.out.2.1)).trans e3
    have hg:=grownBy_putObj' X2 D (.deferred none)
    have fg:Frm (fun k=>k=D) X2 (X2.putObj D (.deferred none)):=(Frm.refl _ X2).grown hg (fun k e=>by cases e;exact .inl rfl)
    have s4:(X2.putObj D (.deferred none)).cell? ⟨H+1+1,0,none⟩=some (.slice (some ⟨M,0,none⟩) N N):=fg.cell r4 (fun e=>hDK.out.1 e.symm)
    have s5:(X2.putObj D (.deferred none)).cell? ⟨H+1+1+1,0,none⟩=some (.bool true):=fg.cell r5 (fun e=>hDK.out.2.1 e.symm)
    have hDM:M ≠ D:=fun e=>by
     have h1:=heap_lt0 HD.out.1
     omega
    refine retM_mark (v:=.tuple #[.slice (some ⟨M,0,none⟩) N N,.bool true]) rfl hKX (by simp [results,Tryz.results135,go_sem,s4,s5]) ?_
    obtain ⟨hw,_,hb0,hG5,hsG2⟩:=HH.out
    have hfXG:=HD.out.2.1
    have b1:Below w.heap.size w W:=hb0.trans (hfXG.below (by have:=hb0.size;omega) (fun k e=>by omega))
    have b2:Below w.heap.size w wr:=b1.trans (e2.below (by have:=b1.size;omega) (fun k e=>by have:=HD.out.2.2.2.1;have:=b1.size;omega))
    have b3:Below w.heap.size w X2:=b2.trans (fX.below (by have:=b2.size;omega) (fun k e=>by omega))
    have b4:Below w.heap.size w (X2.putObj D (.deferred none)):=b3.trans (fg.below (by have:=b3.size;omega) (fun k e=>by omega))
    rw [HCO.out]
    refine ⟨b4,M,by rw [HD.out.2.2.2.2.2.1],(e1.frm fX (by have:=b1.size;omega)).frm fg hDM,by have:=b1.size;omega⟩
 case stop =>
  rintro D c pre W hD hpre ⟨rfl,i2,i3,i4,i5⟩ hK
  have HCO:Hid (coloursL z T x y n=none):=by
   obtain ⟨ys,hys⟩:=hpre
   unfold Hid coloursL
   rw [<- hys,List.map_append,tallies_none _ _ _ i5]
   rfl
  have HQ:Hid (Frm (fun k=>k=H+1+1 \/ k=H+1+1+1 \/ k=H+1+1+1+1) XG W/\W.cell? ⟨H+1+1,0,none⟩=some (.slice none 0 0)/\W.cell? ⟨H+1+1+1,0,none⟩=some (.bool false)/\W.heap[D]?=some (.deferred (some []))):=⟨i2,i3,i4,hK⟩
  clear i2 i3 i4 i5 hK hpre
  refine wpIn_wide.2 ?_
  go_wp2_with fail
  obtain ⟨r1,r2,r3,r4⟩:=HQ.out
  have hg:=grownBy_putObj' W D (.deferred none)
  have fg:Frm (fun k=>k=D) W (W.putObj D (.deferred none)):=(Frm.refl _ W).grown hg (fun k e=>by cases e;exact .inl rfl)
  obtain ⟨hw,_,hb0,hG5,hsG2⟩:=HH.out
  have s4:(W.putObj D (.deferred none)).cell? ⟨H+1+1,0,none⟩=some (.slice none 0 0):=fg.cell r2 (by show ¬ H+1+1=D;omega)
  have s5:(W.putObj D (.deferred none)).cell? ⟨H+1+1+1,0,none⟩=some (.bool false):=fg.cell r3 (by show ¬ H+1+1+1=D;omega)
  refine retM_mark (v:=.tuple #[.slice none 0 0,.bool false]) rfl r4 (by simp [results,Tryz.results135,go_sem,s4,s5]) ?_
  have b1:Below w.heap.size w W:=hb0.trans (r1.below (by have:=hb0.size;omega) (fun k e=>by omega))
  rw [HCO.out]
  exact ⟨b1.trans (fg.below (by have:=b1.size;omega) (fun k e=>by omega)),rfl⟩
end
section
open Go.RowKit Go.Shelf
open Flm (Px FS okPx)
def kap (z:Nat) (T:List Px) (a:Ar):Kt:=(a.2,Pk.content z T a.2 a.1)
theorem kap_good {z:Nat} {T:List Px} (hT:∀ p ∈ T,okPx p) {n:Nat} (hn:n<=16) (q:Nat × Nat):GoodK (kap z T (q,n)):=by
 refine ⟨hn,?_,fun p hp=>?_⟩
 ·show (Pk.content z T n q).length=n*n
  unfold Pk.content
  rw [List.length_map,Flm.spots_len]
 ·have hp:p ∈ Pk.content z T n q:=hp
  unfold Pk.content at hp
  obtain ⟨r,_,rfl⟩:=List.mem_map.1 hp
  exact Pk.getD_ok hT _
def corners (z n:Nat):List Ar:=(Flm.spots 0 0 (z-n+1)).map fun q=>(q,n)
theorem corners_len (z n:Nat):(corners z n).length=(z-n+1)*(z-n+1):=by unfold corners;rw [List.length_map,Flm.spots_len]
def areasL (z:Nat):Nat->List Ar
 | 0=>[]
 | i+1=>areasL z i++corners z (4*2 ^ i)
theorem MapAt.off {w:World} {base b:Nat} {κ:Ar->Kt} {L:List Ar} {es:Array MapEntry} {clock:Nat} (h:MapAt w base b κ L es clock) {k:Nat} {o:Obj} (hk:w.heap[k]?=some o) (hb:k ≠ b) (ho:∀ cs,o ≠ .cells cs 100 (0,0)):Off es b k:=by
 refine ⟨hb,fun e he e0=>?_⟩
 obtain ⟨q,_,_,rk,pk⟩:=h.ent e he
 obtain ⟨g,cur,e1,_,e2⟩:=row_block rk pk
 rw [e0] at e1
 obtain rfl:=Option.some.inj e1
 rw [hk] at e2
 exact ho cur (Option.some.inj e2)
theorem MapAt.off_new {w:World} {base b:Nat} {κ:Ar->Kt} {L:List Ar} {es:Array MapEntry} {clock:Nat} (h:MapAt w base b κ L es clock) {k:Nat} (hk:w.heap.size<=k):Off es b k:=by
 have hb:b<w.heap.size:=(Array.getElem?_eq_some_iff.1 h.heap).1
 refine ⟨by omega,fun e he e0=>?_⟩
 obtain ⟨q,_,_,rk,pk⟩:=h.ent e he
 have:=(rk.lt k e0).2
 omega
theorem MapAt.off_low {w:World} {base b:Nat} {κ:Ar->Kt} {L:List Ar} {es:Array MapEntry} {clock:Nat} (h:MapAt w base b κ L es clock) {k:Nat} (hb:base<=b) (hk:k<base):Off es b k:=by
 refine ⟨by omega,fun e he e0=>?_⟩
 obtain ⟨q,_,_,rk,pk⟩:=h.ent e he
 have:=(rk.lt k e0).1
 omega
structure LkW (w:World) (z nb C:Nat) (T:List Px) (H n A4:Nat) (Ds:List Nat) (L:List Ar) (W:World):Prop where
 hH:H=w.heap.size
 b0:Below w.heap.size w W
 p0:W.heap[H]?=some (.cells #[.int .i64 z,.slice (some ⟨nb,0,none⟩) (z*z) C] 89 (0,0))
 p2:W.heap[H+1+1]?=some (.cells #[.map (some (H+1))] 91 (0,0))
 p4:W.heap[A4]?=some (.cells #[.int .i64 n] 3 (0,0))
 ds:∀ D ∈ Ds,W.heap[D]?=some (.deferred (some []))/\H<=D
 nd:Ds.Nodup
 mp:∃ es clock,MapAt W H (H+1) (kap z T) L es clock
theorem LkW.frm {w:World} {z nb C:Nat} {T:List Px} {H n A4:Nat} {Ds:List Nat} {L:List Ar} {W W':World} (h:LkW w z nb C T H n A4 Ds L W) {S:Nat->Prop} (f:Frm S W W') (hS:∀ k,k<W.heap.size->S k->w.heap.size<=k/\k ≠ H+1/\k ∉ Ds/\∀ o,W.heap[k]?=some o->o.isCells=false):LkW w z nb C T H n A4 Ds L W':=by
 have hc:∀ {k:Nat} {cs:Array Value} {t:TypeId} {q:Nat × Nat},W.heap[k]?=some (.cells cs t q)->W'.heap[k]?=some (.cells cs t q):=fun {k cs t q} hk=>by
  refine (f.block k (heap_lt0 hk) fun hs=>?_).trans hk
  have:=(hS k (heap_lt0 hk) hs).2.2.2 _ hk
  cases this
 have hlt:w.heap.size<=W.heap.size:=h.b0.size
 refine ⟨h.hH,h.b0.trans ⟨f.os,f.tape,f.output,f.size,fun k hk=>f.block k (by omega) fun hs=>by have:=(hS k (by omega) hs).1;omega⟩,hc h.p0,hc h.p2,hc h.p4,fun D hD=>⟨(f.block D (heap_lt0 (h.ds D hD).1) fun hs=>(hS D (heap_lt0 (h.ds D hD).1) hs).2.2.1 hD).trans (h.ds D hD).1,(h.ds D hD).2⟩,h.nd,?_⟩
 obtain ⟨es,clock,m⟩:=h.mp
 refine ⟨es,clock,m.frm f (fun hs=>(hS _ (heap_lt0 m.heap) hs).2.1 rfl) fun e he g hg hs=>?_⟩
 obtain ⟨q,_,_,rk,pk⟩:=m.ent e he
 obtain ⟨g',cur,e1,_,e2⟩:=row_block rk pk
 rw [hg] at e1
 obtain rfl:=Option.some.inj e1
 have:=(hS g (heap_lt0 e2) hs).2.2.2 _ e2
 cases this
theorem LkW.below {w:World} {z nb C:Nat} {T:List Px} {H n A4:Nat} {Ds:List Nat} {L:List Ar} {W W':World} (h:LkW w z nb C T H n A4 Ds L W) (f:Below W.heap.size W W'):LkW w z nb C T H n A4 Ds L W':=h.frm (Frm.of_below (S:=fun _=>False) f) (fun _ _ e=>e.elim)
theorem LkW.add {w:World} {z nb C:Nat} {T:List Px} {H n A4:Nat} {Ds:List Nat} {L L':List Ar} {W W3:World} (h:LkW w z nb C T H n A4 Ds L W) {es es':Array MapEntry} {clock clock':Nat} (m:MapAt W H (H+1) (kap z T) L es clock) (m3:MapAt W3 H (H+1) (kap z T) L' es' clock') (f:Frm (fun k=>¬ Off es (H+1) k) W W3):LkW w z nb C T H n A4 Ds L' W3:=by
 have hlt:w.heap.size<=W.heap.size:=h.b0.size
 have hc:∀ {k:Nat} {o:Obj},W.heap[k]?=some o->k ≠ H+1->(∀ cs,o ≠ .cells cs 100 (0,0))->W3.heap[k]?=some o:=fun {k o} hk h1 h2=>(f.block k (heap_lt0 hk) (fun hs=>hs (m.off hk h1 h2))).trans hk
 have hn:∀ {cs:Array Value} {t:TypeId},t ≠ 100->∀ cs',Obj.cells cs t (0,0) ≠ .cells cs' 100 (0,0):=fun {cs t} ht cs' e=>by
  injection e with _ e _
  exact ht e
 have h4:A4 ≠ H+1:=fun e=>by
  have:=h.p4
  rw [e,m.heap] at this
  cases this
 refine ⟨h.hH,h.b0.trans ⟨f.os,f.tape,f.output,f.size,fun k hk=>f.block k (by omega) fun hs=>hs (m.off_low (by omega) (by have:=h.hH;omega))⟩,hc h.p0 (by omega) (hn (by decide)),hc h.p2 (by omega) (hn (by decide)),hc h.p4 h4 (hn (by decide)),fun D hD=>⟨hc (h.ds D hD).1 (fun e=>?_) (fun cs e=>by cases e),(h.ds D hD).2⟩,h.nd,⟨es',clock',m3⟩⟩
 have:=(h.ds D hD).1
 rw [e,m.heap] at this
 cases this
def cnt (z:Nat):Nat:=if z=4 then 1 else if z=8 then 2 else 3
theorem cnt_lt {z i:Nat} (hz:z=4 \/ z=8 \/ z=16):(i<cnt z->4*2 ^ i<=z/\4*2 ^ i<=16/\4<=4*2 ^ i/\i<=2)/\(i=cnt z->z<4*2 ^ i):=by
 rcases hz with rfl|rfl|rfl
 ·refine ⟨fun h=>?_,fun h=>by rw [h];decide⟩
  have:i<1:=h
  obtain rfl:i=0:=by omega
  decide
 ·refine ⟨fun h=>?_,fun h=>by rw [h];decide⟩
  have:i<2:=h
  rcases (by omega:i=0 \/ i=1) with rfl|rfl <;> decide
 ·refine ⟨fun h=>?_,fun h=>by rw [h];decide⟩
  have:i<3:=h
  rcases (by omega:i=0 \/ i=1 \/ i=2) with rfl|rfl|rfl <;> decide
theorem corners_le {z n:Nat} (hz:z<=16) (hn:4<=n):(corners z n).length<=169:=by
 rw [corners_len]
 have h:z-n+1<=13:=by omega
 exact Nat.mul_le_mul h h
theorem areasL_len {z:Nat} (hz:z<=16):∀ i,i<=3->(areasL z i).length<=i*169
 | 0,_=>Nat.le_refl _
 | i+1,hi=>by
  have h1:=areasL_len hz i (by omega)
  have h2:=corners_le hz (n:=4*2 ^ i) (by have:0<2 ^ i:=Nat.two_pow_pos i;omega)
  unfold areasL
  rw [List.length_append]
  omega
end
end Go.Proofs.YtekfbphnoibnjaaGreatDoor
