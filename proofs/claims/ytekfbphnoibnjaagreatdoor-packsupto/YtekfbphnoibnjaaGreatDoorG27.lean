/-
  PLook PRank PAhead
-/
import Derived.Test.YtekfbphnoibnjaaGreatDoorG26
set_option maxHeartbeats 4000000
namespace Go.Proofs.YtekfbphnoibnjaaGreatDoor
section
open Go.RowKit Go.Shelf
open Flm (Px FS okPx)
attribute [local go_sem] Oper.semAt_some
def LkI (w:World) (z nb C Z:Nat) (T:List Px) (H:Nat) (k:Nat) (a:Act) (W:World):Prop:=∃ (i A4:Nat) (Ds:List Nat) (u5 u6 u7 u8 u9 u11 u12 u13 u14 u15 u16 u17 u18 u19 u20 u21 u22 u23 u24 u25 u26 u27 u28 u29 u30 u31 u32 u33 u34 u35 u36 u37 u38 u39 u40 u41 u42:Value),i+k=cnt z/\a={ tmps:=#[.agg #[.int .i64 z,.slice (some ⟨nb,0,none⟩) Z C],.pointer (some ⟨H,0,none⟩),.map none,.pointer (some ⟨H+1+1,0,none⟩),.pointer (some ⟨A4,0,none⟩),u5,u6,u7,u8,u9,.map (some (H+1)),u11,u12,u13,u14,u15,u16,u17,u18,u19,u20,u21,u22,u23,u24,u25,u26,u27,u28,u29,u30,u31,u32,u33,u34,u35,u36,u37,u38,u39,u40,u41,u42,undef],defers:=Ds.map fun D=>{ target:=.collected D,args:=#[] } }/\LkW w z nb C T H (4*2 ^ i) A4 Ds (areasL z i) W
def LkJ (w:World) (z nb C:Nat) (T:List Px) (H n A4:Nat) (Ds:List Nat) (L:List Ar) (G m:Nat) (W:World) (pre:List (Pt 0 0 m)):Prop:=LkW w z nb C T H n A4 Ds (L++pre.map fun p=>(p.1,n)) W/\W.heap[G]?=some (.cells #[.int .i64 (0:Nat),.int .i64 (0:Nat),.int .i64 m] 100 (0,0))/\∀ es clock,W.heap[H+1]?=some (.map es clock)->Off es (H+1) G
def LookPost (w:World) (z:Nat) (T:List Px) (e:Ending) (w':World):Prop:=∃ b es clock,e=.returned (.map (some b))/\w.heap.size<=b/\MapAt w' w.heap.size b (kap z T) (areasL z (cnt z)) es clock/\Below w.heap.size w w'
set_option maxRecDepth 100000 in
theorem pLookOver {C:Nat} (w:World) (nb z:Nat) (T:List Px) (hz:z=4 \/ z=8 \/ z=16) (h:PixIn w nb (z*z) T) (hT:∀ p ∈ T,okPx p) :
  Calls Tryz.prog 76 #[.agg #[.int .i64 z,.slice (some ⟨nb,0,none⟩) (z*z) C]] w (LookPost w z T):=by
 have hz16:z<=16/\z*z<=256:=by rcases hz with rfl|rfl|rfl <;> decide
 obtain ⟨Z,hZ⟩:∃ Z,Z=z*z:=⟨_,rfl⟩
 obtain ⟨H,hH⟩:∃ H,H=w.heap.size:=⟨_,rfl⟩
 have hmk:∀ u:World,(Instr.makeMap 91 none).run Tryz.prog u=.ok (.map (some u.heap.size)) (u.alloc (.map #[] 0)):=fun u=>rfl
 obtain ⟨hzero,hsize⟩:=zero_of_info contInfo
 obtain ⟨O,hO⟩:∃ O,O=(contL 0 []).toArray:=⟨_,rfl⟩
 rw [<- hO] at hzero
 have hOs:O.size=769:=by rw [hO,List.size_toArray];exact contL_len (by decide)
 have hOn:O ≠ #[]:=fun e=>by rw [e] at hOs;exact absurd hOs (by decide)
 have HP:Hid (PixIn w nb (z*z) T):=h
 have HZ:Hid (Z=z*z):=hZ
 have HSZ:Hid ((Tryz.prog.info? 200).map (·.size)=some 769):=hsize
 have HT:Hid (∀ p ∈ T,okPx p):=hT
 obtain ⟨W4,hW4⟩:∃ W4,W4=(((w.alloc (.cells #[.int .i64 z,.slice (some ⟨nb,0,none⟩) Z C] 89)).alloc (.map #[] 0)).alloc (.cells #[.map (some (H+1))] 91)).alloc (.cells #[.int .i64 4] 3):=⟨_,rfl⟩
 have hB4:Below w.heap.size w W4:=by rw [hW4];exact ((((Below.refl _ w).alloc (Nat.le_refl _) _).alloc (by simp) _).alloc (by simp only [World.size_alloc];omega) _).alloc (by simp only [World.size_alloc];omega) _
 have hx0:W4.heap[H]?=some (.cells #[.int .i64 z,.slice (some ⟨nb,0,none⟩) Z C] 89):=by
  rw [hW4,hH];exact (Below.heap_alloc _ _ _ (by simp only [World.size_alloc];omega)).trans ((Below.heap_alloc _ _ _ (by simp only [World.size_alloc];omega)).trans ((Below.heap_alloc _ _ _ (by simp only [World.size_alloc];omega)).trans (heap_alloc_last w _)))
 have hx1:W4.heap[H+1]?=some (.map #[] 0):=by
  have:=heap_alloc_last (w.alloc (.cells #[.int .i64 z,.slice (some ⟨nb,0,none⟩) Z C] 89)) (.map #[] 0)
  rw [World.size_alloc] at this
  rw [hW4,hH];exact (Below.heap_alloc _ _ _ (by simp only [World.size_alloc];omega)).trans ((Below.heap_alloc _ _ _ (by simp only [World.size_alloc];omega)).trans this)
 have hx2:W4.heap[H+1+1]?=some (.cells #[.map (some (H+1))] 91):=by
  have:=heap_alloc_last ((w.alloc (.cells #[.int .i64 z,.slice (some ⟨nb,0,none⟩) Z C] 89)).alloc (.map #[] 0)) (.cells #[.map (some (H+1))] 91)
  simp only [World.size_alloc] at this
  rw [hH] at hW4 ⊢
  rw [hW4];exact (Below.heap_alloc _ _ _ (by simp only [World.size_alloc];omega)).trans (by rw [hH] at this;exact this)
 have hx3:W4.heap[H+1+1+1]?=some (.cells #[.int .i64 4] 3):=by
  have:=heap_alloc_last (((w.alloc (.cells #[.int .i64 z,.slice (some ⟨nb,0,none⟩) Z C] 89)).alloc (.map #[] 0)).alloc (.cells #[.map (some (H+1))] 91)) (.cells #[.int .i64 4] 3)
  simp only [World.size_alloc] at this
  rw [<- hW4,<- hH] at this
  exact this
 have HL0:Hid (LkW w z nb C T H 4 (H+1+1+1) [] [] W4):=⟨hH,hB4,by rw [hx0,hZ],hx2,hx3,fun D hD=>absurd hD (List.not_mem_nil),List.nodup_nil,_,_,MapAt.empty hx1⟩
 have HW4:Hid (W4=(((w.alloc (.cells #[.int .i64 z,.slice (some ⟨nb,0,none⟩) Z C] 89)).alloc (.map #[] 0)).alloc (.cells #[.map (some (H+1))] 91)).alloc (.cells #[.int .i64 4] 3)):=hW4
 have HH:Hid (H=w.heap.size):=hH
 rw [<- hZ]
 clear hW4 hx0 hx1 hx2 hx3 hB4 hsize hO h hZ hH hT
 refine (callsIn_wide (n:=5)).1 ?_
 refine callsIn_of_wp_marks Tryz.func76 rfl trivial ?_ rfl
 simp only [Tryz.ntmps76,List.size_toArray,List.length_cons,List.length_nil,Nat.reduceAdd,Nat.reduceSub,Array.replicate_succ,Array.replicate_zero,List.push_toArray,List.append_toArray,List.nil_append,List.cons_append]
 refine wpIn_wide.2 ?_
 go_wp2
 rw [<- HH.out]
 rw [<- HW4.out]
 refine wp_loop_ghost_k (LkI w z nb C Z T H) (cnt z) ⟨0,H+1+1+1,[],_,_,_,_,_,_,_,_,_,_,_,_,_,_,_,_,_,_,_,_,_,_,_,_,_,_,_,_,_,_,_,_,_,_,_,_,_,Nat.zero_add _,rfl,HL0.out⟩ ?_
 clear HL0 HW4
 rintro k a W ⟨i,A4,Ds,u5,u6,u7,u8,u9,u11,u12,u13,u14,u15,u16,u17,u18,u19,u20,u21,u22,u23,u24,u25,u26,u27,u28,u29,u30,u31,u32,u33,u34,u35,u36,u37,u38,u39,u40,u41,u42,hik,rfl,hL⟩ J K hJ hK
 obtain ⟨n,hn⟩:∃ n,n=4*2 ^ i:=⟨_,rfl⟩
 rw [<- hn] at hL
 have c0:=cell_of_row _ _ 0 _ _ _ hL.p4
 have c1:=cell_of_row _ _ 0 _ _ _ hL.p0
 simp at c0 c1
 have HL:Hid (LkW w z nb C T H n A4 Ds (areasL z i) W):=hL
 have HN:Hid (n=4*2 ^ i/\i+k=cnt z):=⟨hn,hik⟩
 have HJ:Hid (∀ k a' w',LkI w z nb C Z T H k a' w'->J k a' w'):=hJ
 obtain ⟨q1,q2⟩:=cnt_lt (i:=i) hz
 rw [<- hn] at q1 q2
 by_cases hlt:i<cnt z
 ·obtain ⟨n1,n2,n3,n4⟩:=q1 hlt
  clear q1 q2 hL hn hik hJ
  have hle:(n:Int)<=(z:Int):=by omega
  obtain ⟨m,hm⟩:∃ m,m=z-n+1:=⟨_,rfl⟩
  have hm1:(z:Int)-(n:Int)+1=(m:Int):=by omega
  have hm13:m<=13:=by omega
  have hmz:∀ p,p<m->p+n<=z:=fun p hp=>by omega
  clear hm
  have wk1:wrap64 ((z:Int)-(n:Int))=(z:Int)-(n:Int):=by unfold wrap64;omega
  have wk2:wrap64 ((z:Int)-(n:Int)+1)=(m:Int):=by unfold wrap64;omega
  go_wp2_with (go_at_call 105;refine (pPoints _ _ _ _).mono ?_;rintro e wq ⟨rfl,rfl⟩)
  clear c0 c1 wk1 wk2
  obtain ⟨A5,hA5⟩:∃ A5,A5=W.heap.size:=⟨_,rfl⟩
  obtain ⟨XG,hXG⟩:∃ XG,XG=(W.alloc (.cells #[.int .i64 0,.int .i64 0,.int .i64 m] 100)).alloc (.cells #[.int .i64 0,.int .i64 0,.int .i64 m] 100):=⟨_,rfl⟩
  have hBX:Below W.heap.size W XG:=by rw [hXG];exact ((Below.refl _ W).alloc (Nat.le_refl _) _).alloc (by simp) _
  have hsX:XG.heap.size=A5+1+1:=by rw [hXG,hA5];simp
  have hit:XG.heap[A5+1]?=some (.cells #[.int .i64 (0:Nat),.int .i64 (0:Nat),.int .i64 m] 100 (0,0)):=by
   have:=heap_alloc_last (W.alloc (.cells #[.int .i64 0,.int .i64 0,.int .i64 m] 100)) (.cells #[.int .i64 0,.int .i64 0,.int .i64 m] 100)
   simp only [World.size_alloc] at this
   rw [hXG,hA5];exact this
  have HI0:Hid (LkJ w z nb C T H n A4 Ds (areasL z i) (A5+1) m XG []):=by
   refine ⟨by simpa using HL.out.below hBX,hit,fun es clock he=>?_⟩
   obtain ⟨es0,clock0,m0⟩:=HL.out.mp
   have:=(hBX.block (H+1) (heap_lt0 m0.heap)).trans m0.heap
   rw [he] at this
   injection this with this
   injection this with e1 e2
   subst e1
   exact m0.off_new (by omega)
  have HDS:Hid ((∀ D ∈ Ds,D<XG.heap.size)/\H+1<XG.heap.size/\w.heap.size<=XG.heap.size/\XG.heap.size=A5+1+1):=by
   obtain ⟨es0,clock0,m0⟩:=HL.out.mp
   exact ⟨fun D hD=>by have:=heap_lt0 (HL.out.ds D hD).1;omega,by have:=heap_lt0 m0.heap;omega,Nat.le_trans HL.out.b0.size hBX.size,hsX⟩
  have HHW:Hid (H=w.heap.size/\H+1<A5):=by
   obtain ⟨es0,clock0,m0⟩:=HL.out.mp
   exact ⟨HL.out.hH,by have:=heap_lt0 m0.heap;omega⟩
  rw [<- hA5,<- hXG]
  have hGX:A5+1<XG.heap.size:=by omega
  clear hXG hBX hsX hA5
  refine (wpIn_wide (n:=5)).1 ?_
  refine wpIn_rangeFunc_ownG rfl (by decide) (gf:=131) (lb:=#[.pointer (some ⟨A5+1,0,none⟩)]) rfl trivial (enters_of Tryz.func131 (by kernel_rfl) rfl)
   (points_stops Fence.wide (5-1) trivial rfl (by decide) (A5+1) 0 0 m (by omega) (by omega) XG hit)
   (fun h1 h2=>h2.trans h1) (fun W l o o' hl _ _ _=>World.putObj_heap_other (by omega)) (Below.refl _ _) (fun _=>rfl)
   (fun pre W=>LkJ w z nb C T H n A4 Ds (areasL z i) (A5+1) m W pre)
   (fun _ _ _=>False)
   ?own (fun _ _ _ _ _ hs _ _=>hs) HI0.out
   (fun pt=>{ tmps:=#[.agg #[.int .i64 z,.slice (some ⟨nb,0,none⟩) Z C],.pointer (some ⟨H,0,none⟩),.map none,.pointer (some ⟨H+1+1,0,none⟩),.pointer (some ⟨A4,0,none⟩),.pointer (some ⟨A5,0,none⟩),.int .i64 pt.1.1,.int .i64 pt.1.2,u8,u9,.map (some (H+1)),.int .i64 n,.pointer (some ⟨H,0,none⟩),.int .i64 z,.bool true,u15,u16,.pointer (some ⟨H,0,none⟩),.int .i64 z,.int .i64 n,.int .i64 ((z:Int)-(n:Int)),.int .i64 m,.agg #[.int .i64 0,.int .i64 0,.int .i64 m],.agg #[.int .i64 0,.int .i64 0,.int .i64 m],.func (.func 131) #[] #[.pointer (some ⟨A5+1,0,none⟩)],.int .i64 pt.1.1,.int .i64 pt.1.2,u27,u28,u29,u30,u31,u32,u33,u34,u35,u36,u37,u38,u39,u40,u41,u42,undef],defers:=[] })
   ?assign ?body ?done ?stop
  case own =>
   rintro pre W W' row ⟨i1,i2,i3⟩ hg hr
   have fg:Frm (fun k=>row=some k) W W':=(Frm.refl _ W).grown hg (fun k e=>.inl e)
   have hr':∀ k,row=some k->XG.heap.size<=k/\∀ o,W.heap[k]?=some o->o.isCells=false:=fun k e=>by
    obtain ⟨r1,o,r2,r3⟩:=hr k e
    exact ⟨r1,fun o' e'=>by rw [r2] at e';obtain rfl:=Option.some.inj e';exact r3⟩
   refine ⟨i1.frm fg fun k _ hk=>⟨Nat.le_trans HDS.out.2.2.1 (hr' k hk).1,by have:=(hr' k hk).1;have:=HDS.out.2.1;omega,fun hD=>by have:=(hr' k hk).1;have:=HDS.out.1 k hD;omega,(hr' k hk).2⟩,(fg.block _ (heap_lt0 i2) fun hk=>by have:=(hr' _ hk).2 _ i2;cases this).trans i2,fun es clock he=>i3 es clock ?_⟩
   obtain ⟨es0,clock0,m0⟩:=i1.mp
   have hb:=fg.block (H+1) (heap_lt0 m0.heap) (fun hk=>by have:=(hr' _ hk).1;have:=HDS.out.2.1;omega)
   rw [he] at hb
   exact hb.symm
  case assign =>
   intro l pt W K hK
   dsimp only [encPt]
   gi_wp2
   exact hK
  case body =>
   rintro l pre ⟨⟨PX,PY⟩,⟨hpx1,hpx2⟩,hpy1,hpy2⟩ W ⟨i1,i2,i3⟩ hlen
   dsimp only at hpx1 hpx2 hpy1 hpy2 ⊢
   rw [Nat.zero_add] at hpx2 hpy2
   have hX:=hmz PX hpx2
   have hY:=hmz PY hpy2
   have c0:=cell_of_row _ _ 0 _ _ _ i1.p4
   have c1:=cell_of_row _ _ 0 _ _ _ i1.p0
   have c2:=cell_of_row _ _ 1 _ _ _ i1.p0
   have c3:=cell_of_row _ _ 0 _ _ _ i1.p2
   simp at c0 c1 c2 c3
   rw [<- HZ.out] at c2
   have bal:Below W.heap.size W (W.alloc (.cells #[.int .i64 PX,.int .i64 PY,.int .i64 n] 100)):=(Below.refl _ W).alloc (Nat.le_refl _) _
   have e1:=(bal.cell (p:=⟨H,0,none⟩) (World.block_lt_of_cell? W _ c1)).trans c1
   have e2:=(bal.cell (p:=⟨H,1,none⟩) (World.block_lt_of_cell? W _ c2)).trans c2
   have hp1:PixIn (W.alloc (.cells #[.int .i64 PX,.int .i64 PY,.int .i64 n] 100)) nb (z*z) T:=(HP.out.below i1.b0).below ((Below.refl _ W).alloc (Nat.le_refl _) _)
   have HCT:Hid (Calls Tryz.prog 106 #[.agg #[.int .i64 z,.slice (some ⟨nb,0,none⟩) Z C],.agg #[.int .i64 PX,.int .i64 PY,.int .i64 n]] (W.alloc (.cells #[.int .i64 PX,.int .i64 PY,.int .i64 n] 100)) fun e w'=>e=.returned (.agg (contL n (Pk.content z T n (PX,PY))).toArray)/\Below (W.alloc (.cells #[.int .i64 PX,.int .i64 PY,.int .i64 n] 100)).heap.size (W.alloc (.cells #[.int .i64 PX,.int .i64 PY,.int .i64 n] 100)) w'):=by
    have:=pContent (C:=C) (W.alloc (.cells #[.int .i64 PX,.int .i64 PY,.int .i64 n] 100)) nb z T hz hp1 PX PY n hX hY
    rw [<- HZ.out] at this
    exact this
   obtain ⟨R,hR⟩:∃ R,R=contL n (Pk.content z T n (PX,PY)):=⟨_,rfl⟩
   rw [<- hR] at HCT
   have hRl:R.length=769:=by rw [hR];exact contL_len (by rw [Pk.content,List.length_map,Flm.spots_len];exact Nat.le_trans (Nat.mul_le_mul n2 n2) (Nat.le_refl _))
   have hR1:R.toArray.all (·.oneCell')=true:=by rw [hR];exact all_oneCell_toArray (contL_one _ _)
   have HR:Hid (R=contL n (Pk.content z T n (PX,PY))):=hR
   have HI:Hid (LkJ w z nb C T H n A4 Ds (areasL z i) (A5+1) m W pre):=⟨i1,i2,i3⟩
   have HLN:Hid (pre.length<m*m):=hlen
   have i1:=i1
   obtain ⟨PT,hPT⟩:∃ PT:Pt 0 0 m,PT.1=(PX,PY):=⟨⟨(PX,PY),⟨Nat.zero_le _,by rw [Nat.zero_add];exact hpx2⟩,Nat.zero_le _,by rw [Nat.zero_add];exact hpy2⟩,rfl⟩
   have hOl:O.size=R.toArray.size:=by rw [hOs,List.size_toArray,hRl]
   have hsz:(Tryz.prog.info? 200).map (·.size)=some R.toArray.size:=by rw [HSZ.out,List.size_toArray,hRl]
   have HSR:Hid ((Tryz.prog.info? 200).map (·.size)=some R.length):=by rw [Hid,HSZ.out,hRl]
   have HALL:Hid (∀ wa,Below (W.alloc (.cells #[.int .i64 PX,.int .i64 PY,.int .i64 n] 100)).heap.size (W.alloc (.cells #[.int .i64 PX,.int .i64 PY,.int .i64 n] 100)) wa->∃ (wb:World) (B9:Nat) (v0 v1:Value) (st:Nat) (w1 w2 w3:World),Hid (wb=wa.alloc (.cells R.toArray 200))/\Hid (B9=wa.heap.size) /\
     wb.cell? ⟨H+1+1,0,none⟩=some (.map (some (H+1)))/\wb.cell? ⟨W.heap.size,0,none⟩=some (.int .i64 PX)/\wb.cell? ⟨W.heap.size,1,none⟩=some (.int .i64 PY)/\wb.cell? ⟨W.heap.size,2,none⟩=some (.int .i64 n)/\wb.rangeAt B9 0 R /\
     (Instr.mapEntry 91 (.map (some (H+1))) (.agg R.toArray)).run Tryz.prog (wb.alloc (.cells #[.int .i64 PX,.int .i64 PY,.int .i64 n] 100))=.ok (.tuple #[v0,.int .i64 st]) w1 /\
     (Builtin.append_ #[202,202] 202 #[v0,.slice (some ⟨wb.heap.size,0,none⟩) 1 1]).run Tryz.prog w1=.ok v1 w2 /\
     (Instr.entryStore 91 (.map (some (H+1))) (.int .i64 st) v1).run Tryz.prog w2=.ok () w3/\Hid (KeepsFrom XG.heap.size W w3/\W.heap[A5+1]?=w3.heap[A5+1]?/\LkJ w z nb C T H n A4 Ds (areasL z i) (A5+1) m w3 (pre++[PT]))):=by
    intro wa ba
    have b1:Below W.heap.size W (W.alloc (.cells #[.int .i64 PX,.int .i64 PY,.int .i64 n] 100)):=(Below.refl _ W).alloc (Nat.le_refl _) _
    have ba0:Below W.heap.size W wa:=b1.trans (ba.mono (by simp))
    obtain ⟨B9,hB9⟩:∃ B9,B9=wa.heap.size:=⟨_,rfl⟩
    obtain ⟨wb,hwb⟩:∃ wb,wb=wa.alloc (.cells R.toArray 200):=⟨_,rfl⟩
    have bb:Below wa.heap.size wa wb:=by rw [hwb];exact (Below.refl _ wa).alloc (Nat.le_refl _) _
    have bb0:Below W.heap.size W wb:=ba0.trans (bb.mono ba0.size)
    obtain ⟨wc,hwc⟩:∃ wc,wc=wb.alloc (.cells #[.int .i64 PX,.int .i64 PY,.int .i64 n] 100):=⟨_,rfl⟩
    have bc:Below wb.heap.size wb wc:=by rw [hwc];exact (Below.refl _ wb).alloc (Nat.le_refl _) _
    have bc0:Below W.heap.size W wc:=bb0.trans (bc.mono bb0.size)
    have hb9:wb.heap[B9]?=some (.cells R.toArray 200 (0,0)):=by rw [hwb,hB9];exact heap_alloc_last wa _
    have hgc:wc.heap[wb.heap.size]?=some (.cells (arCells ((PX,PY),n)).toArray 100 (0,0)):=by rw [hwc];exact heap_alloc_last wb _
    have lc:=i1.below bc0
    obtain ⟨es,clock,mc⟩:=lc.mp
    have hlen1:(areasL z i++pre.map fun p=>(p.1,n)).length<=1000:=by
     have h1:=areasL_len hz16.1 i (by omega)
     have h2:m*m<=13*13:=Nat.mul_le_mul hm13 hm13
     have h3:=HLN.out
     rw [List.length_append,List.length_map]
     omega
    have hWb:W.heap.size<wb.heap.size:=by
     have h1:=ba.size
     have h2:wb.heap.size=wa.heap.size+1:=by rw [hwb];simp
     simp only [World.size_alloc] at h1
     omega
    have esW:W.heap[H+1]?=some (.map es clock):=by
     obtain ⟨es0,clock0,m0⟩:=i1.mp
     have:=bc0.block (H+1) (heap_lt0 m0.heap)
     rw [mc.heap] at this
     exact this.symm
    have mw:MapAt W H (H+1) (kap z T) (areasL z i++pre.map fun p=>(p.1,n)) es clock:=by
     obtain ⟨es0,clock0,m0⟩:=i1.mp
     have:=m0.heap
     rw [esW] at this
     injection this with this
     injection this with e1 e2
     subst e1
     subst e2
     exact m0
    have hoff:Off es (H+1) wb.heap.size:=mw.off_new (by omega)
    obtain ⟨v0,st,w1,v1,w2,w3,es3,clock3,r1,r2,r3,m3,f3,o3⟩:=mc.add ((PX,PY),n) (kap_good HT.out n2 (PX,PY)) (by rw [HHW.out.1];exact Nat.le_trans i1.b0.size bc0.size) hlen1 wb.heap.size 1 hgc hoff
    have hkv:kval (kap z T ((PX,PY),n))=.agg R.toArray:=by rw [HR.out];rfl
    rw [hkv] at r1
    have d3:wb.cell? ⟨H+1+1,0,none⟩=some (.map (some (H+1))):=(bb0.cell (p:=⟨H+1+1,0,none⟩) (World.block_lt_of_cell? W _ c3)).trans c3
    have hB8:wa.heap[W.heap.size]?=some (.cells #[.int .i64 PX,.int .i64 PY,.int .i64 n] 100 (0,0)):=(ba.block W.heap.size (by simp)).trans (heap_alloc_last W _)
    have hB8b:wb.heap[W.heap.size]?=some (.cells #[.int .i64 PX,.int .i64 PY,.int .i64 n] 100 (0,0)):=(bb.block W.heap.size (heap_lt0 hB8)).trans hB8
    have d0:=cell_of_row _ _ 0 _ _ _ hB8b
    have d1:=cell_of_row _ _ 1 _ _ _ hB8b
    have d2:=cell_of_row _ _ 2 _ _ _ hB8b
    simp at d0 d1 d2
    have hrg:wb.rangeAt B9 0 R:=fun j v hv=>by rw [Nat.zero_add,cell_of_row _ _ j _ _ _ hb9,List.getElem?_toArray];exact hv
    have hIW:LkJ w z nb C T H n A4 Ds (areasL z i) (A5+1) m w3 (pre++[PT]):=by
     have e1:(areasL z i++(pre++[PT]).map fun p:Pt 0 0 m=>(p.1,n))=(areasL z i++pre.map fun p=>(p.1,n))++[((PX,PY),n)]:=by simp [hPT]
     have hG:Off es (H+1) (A5+1):=i3 es clock esW
     have hGl:A5+1<W.heap.size:=heap_lt0 i2
     refine ⟨by rw [e1];exact lc.add mc m3 f3,(f3.block (A5+1) (Nat.lt_of_lt_of_le hGl bc0.size) (fun hs=>hs hG)).trans ((bc0.block (A5+1) hGl).trans i2),fun es' clock' he=>?_⟩
     have:=m3.heap
     rw [he] at this
     injection this with this
     injection this with e2 e3
     subst e2
     exact o3 (A5+1) (Nat.lt_of_lt_of_le hGl bc0.size) hG
    have HF:Hid (KeepsFrom XG.heap.size W w3/\W.heap[A5+1]?=w3.heap[A5+1]?/\LkJ w z nb C T H n A4 Ds (areasL z i) (A5+1) m w3 (pre++[PT])):=by
     refine ⟨⟨Nat.le_trans bc0.size f3.size,fun k o hk ho hc=>?_⟩,by rw [i2,hIW.2.1],hIW⟩
     have hk1:wc.heap[k]?=some o:=(bc0.block k (heap_lt0 ho)).trans ho
     refine (f3.block k (heap_lt0 hk1) (fun hs=>hs (mc.off hk1 ?_ (fun cs e=>by rw [e] at hc;cases hc)))).trans hk1
     have:=HDS.out.2.1
     omega
    rw [hwc] at r1
    exact ⟨wb,B9,v0,v1,st,w1,w2,w3,hwb,hB9,d3,d0,d1,d2,hrg,r1,r2,r3,HF⟩
   have HPT:Hid (PT.1=(PX,PY)):=hPT
   clear hp1 hR i1 i2 i3 hlen HI HLN bal c3 hPT hX hY hmz hz hz16 hm13 hm1 n1 n2 n3 n4 hle hlt
   gi_wp2_with (first
    | (refine ⟨trivial,?_⟩;gi_at_call 106;refine (CallsIn.inRound l (callsIn_wide.2 HCT.out)).mono ?_;rintro e wa ⟨rfl,ba⟩;obtain ⟨wb,B9,v0,v1,st,w1,w2,w3,HWB,HB9,d3,d0,d1,d2,hrg,r1,r2,r3,HF⟩:=HALL.out wa ba)
    | (refine wpListIn_store_row rfl 200 _ _ rfl wa.heap.size R.toArray rfl rfl 200 O (heap_alloc_last wa _) hsz hOl hR1 ?_;rw [World.setRow_alloc_new,<- HWB.out,<- HB9.out])
    | (refine wpListIn_load_mid rfl 200 (.tmp 9) rfl B9 0 rfl R _ hrg Tryz.underlying200 rfl HSR.out ?_)
    | (refine wpListIn_mapEntry rfl 91 (.tmp 34) (.tmp 35) rfl rfl rfl r1 ?_)
    | (refine wpListIn_append_run rfl 202 (.tmp 36) (.tmp 38) rfl rfl rfl r2 ?_)
    | (refine wpListIn_entryStore rfl 91 (.tmp 34) (.tmp 41) (.tmp 40) rfl rfl rfl rfl r3 ?_))
   obtain rfl:PT=⟨(PX,PY),⟨Nat.zero_le _,by dsimp only;omega⟩,Nat.zero_le _,by dsimp only;omega⟩:=Subtype.ext HPT.out
   exact ⟨HF.out.1,HF.out.2.1.symm,HF.out.2.2⟩
  case done =>
   rintro D xs W hD hxs ⟨i1,i2,i3⟩ hDW
   have e1:(areasL z i++xs.map fun p=>(p.1,n))=areasL z (i+1):=by
    show _=areasL z i++corners z (4*2 ^ i)
    rw [<- HN.out.1]
    congr 1
    unfold corners
    rw [show z-n+1=m by omega,<- hxs,List.map_map]
    rfl
   rw [e1] at i1
   have c0:=cell_of_row _ _ 0 _ _ _ i1.p4
   simp at c0
   obtain ⟨A6,hA6⟩:∃ A6,A6=W.heap.size:=⟨_,rfl⟩
   have wk1:wrap64 ((n:Int)*2)=(n:Int)*2:=by unfold wrap64;omega
   have e4:(n:Int)*2=((4*2 ^ (i+1):Nat):Int):=by
    have:=HN.out.1
    rw [Nat.pow_succ]
    omega
   obtain ⟨W6,hW6⟩:∃ W6,W6=W.alloc (.cells #[.int .i64 ((n:Int)*2)] 3):=⟨_,rfl⟩
   have b6:Below W.heap.size W W6:=by rw [hW6];exact (Below.refl _ W).alloc (Nat.le_refl _) _
   have h6:W6.heap[A6]?=some (.cells #[.int .i64 ((n:Int)*2)] 3 (0,0)):=by rw [hW6,hA6];exact heap_alloc_last W _
   have hLW:LkW w z nb C T H (4*2 ^ (i+1)) A6 (D :: Ds) (areasL z (i+1)) W6:=by
    have q:=i1.below b6
    refine ⟨q.hH,q.b0,q.p0,q.p2,by rw [h6,e4],fun E hE=>?_,List.nodup_cons.2 ⟨fun hm=>?_,q.nd⟩,q.mp⟩
    ·rcases List.mem_cons.1 hE with rfl|hE
     ·exact ⟨(b6.block E (heap_lt0 hDW)).trans hDW,by have:=HDS.out.2.2.1;have:=HHW.out.1;omega⟩
     ·exact q.ds E hE
    ·have:=HDS.out.1 D hm;omega
   have HLW:Hid (LkW w z nb C T H (4*2 ^ (i+1)) A6 (D :: Ds) (areasL z (i+1)) W6):=hLW
   have HW6:Hid (W6=W.alloc (.cells #[.int .i64 ((n:Int)*2)] 3)):=hW6
   have HA6:Hid (A6=W.heap.size):=hA6
   have HK0:Hid (∀ a' w',Handed J k a' w'->K a' w'):=hK
   clear e4 i1 i2 i3 e1 hxs hD hDW b6 h6 hLW hW6 hA6 hit hK
   go_wp2
   rw [<- HA6.out,<- HW6.out]
   have hk1:k-1<k:=by have:=HN.out.2;omega
   have hk2:i+1+(k-1)=cnt z:=by have:=HN.out.2;omega
   exact HK0.out _ _ (Handed.intro (k-1) hk1 (HJ.out _ _ _ ⟨i+1,A6,D :: Ds,_,_,_,_,_,_,_,_,_,_,_,_,_,_,_,_,_,_,_,_,_,_,_,_,_,_,_,_,_,_,_,_,_,_,_,_,_,hk2,rfl,HLW.out⟩))
  case stop=>exact fun D c pre W hD hpre hf hK=>hf.elim
 ·have hki:i=cnt z:=by omega
  have hgt:¬ ((n:Int)<=(z:Int)):=by have:=q2 hki;omega
  have c3:=cell_of_row _ _ 0 _ _ _ hL.p2
  simp at c3
  clear q1 q2 hn hik hJ hK hL
  go_wp2
  obtain ⟨es,clock,m0⟩:=HL.out.mp
  show LeavesInM _ _ _ _ _ _ _ _ _
  refine leavesM_marks Ds W HL.out.nd (fun D hD=>(HL.out.ds D hD).1) (fun W' f=>⟨.map (some (H+1)),?_,(⟨H+1,es,clock,rfl,by have:=HL.out.hH;omega,?_,?_⟩:LookPost w z T _ _)⟩)
  ·simp [results,Tryz.results76]
  ·rw [<- HL.out.hH,<- hki]
   refine m0.frm f (fun hs=>?_) fun e he g hg hs=>?_
   ·have:=(HL.out.ds _ hs).1
    rw [m0.heap] at this
    cases this
   ·obtain ⟨q,_,_,rk,pk⟩:=m0.ent e he
    obtain ⟨g',cur,e1,_,e2⟩:=row_block rk pk
    rw [hg] at e1
    obtain rfl:=Option.some.inj e1
    rw [(HL.out.ds _ hs).1] at e2
    cases e2
  ·exact HL.out.b0.trans (f.below HL.out.b0.size (fun k hk=>by have:=(HL.out.ds k hk).2;have:=HL.out.hH;omega))
end
section
open Go.RowKit
def half:Nat->Nat
 | 0=>8
 | 1=>4
 | 2=>2
 | 3=>1
 | _=>0
def rankTo (x y:Nat):Nat->Nat
 | 0=>0
 | j+1=>4*rankTo x y j+2*(y / half j % 2)+x / half j % 2
theorem rankTo_all (x y:Nat):rankTo x y 4=Pk.rank x y:=by
 simp only [rankTo,half,Pk.rank,Pk.sp,Nat.div_one]
 omega
theorem rankTo_le (x y:Nat):∀ j,j<=4->rankTo x y j<=256
 | 0,_=>Nat.zero_le _
 | 1,_=>by simp only [rankTo];omega
 | 2,_=>by simp only [rankTo];omega
 | 3,_=>by simp only [rankTo];omega
 | 4,_=>by simp only [rankTo];omega
theorem rank_wraps (R A B a b:Nat) (hR:R<=256) (hA:A<=100) (hB:B<=100) (ha:a<=1) (hb:b<=1) :
  IntKind.i64.wrap (4*(R:Int))=4*R/\IntKind.i64.wrap (A:Int)=A/\IntKind.i64.wrap (B:Int)=B/\IntKind.i64.wrap (2*(a:Int))=2*a/\IntKind.i64.wrap (4*(R:Int)+2*a)=4*R+2*a/\IntKind.i64.wrap (4*(R:Int)+2*a+b)=4*R+2*a+b/\IntKind.i64.wrap (a:Int)=a/\IntKind.i64.wrap (b:Int)=b:=by
 refine ⟨?_,?_,?_,?_,?_,?_,?_,?_⟩
 all_goals (rw [IntKind.wrap_i64];omega)
theorem wrap_small (D:Nat) (h:D<=8):wrap64 (D:Int)=D:=by unfold wrap64;omega
set_option maxRecDepth 20000 in
theorem pRank (w:World) (x y:Nat) (hx:x<100) (hy:y<100) :
  Calls Tryz.prog 163 #[.int .i64 x,.int .i64 y] w fun e w'=>e=.returned (.int .i64 (Pk.rank x y))/\Below w.heap.size w w':=by
 have hmx:Tryz.prog.follows .mixedOrders=true:=by kernel_rfl
 go_enter Tryz.func163,Tryz.ntmps163
 go_wp2
 go_loopw [5,6] (fun nv hv wr=>∃ j:Nat,j<=4/\nv=.int .i64 (rankTo x y j)/\hv=.int .i64 (half j)/\Below w.heap.size w wr) (fun _ hv _=>(intOf hv).toNat)
 case atStart=>exact ⟨0,by decide,rfl,rfl,Below.refl _ _⟩
 case round =>
  obtain ⟨j,hj,rfl,rfl,hb⟩:=hrel
  have hr:=rankTo_le x y j hj
  obtain ⟨R,hR⟩:∃ R,R=rankTo x y j:=⟨_,rfl⟩
  obtain ⟨h,hh⟩:∃ h,h=half j:=⟨_,rfl⟩
  rw [<- hR] at hr
  rw [<- hR,<- hh]
  by_cases h4:j<4
  ·have hp:0<h:=by rw [hh];rcases (by omega:j=0 \/ j=1 \/ j=2 \/ j=3) with rfl|rfl|rfl|rfl <;> decide
   have h8:h<=8:=by rw [hh];rcases (by omega:j=0 \/ j=1 \/ j=2 \/ j=3) with rfl|rfl|rfl|rfl <;> decide
   have HN:Hid (h / 2=half (j+1)):=by unfold Hid;rw [hh];rcases (by omega:j=0 \/ j=1 \/ j=2 \/ j=3) with rfl|rfl|rfl|rfl <;> decide
   have hp':(0:Int)<(h:Int):=by omega
   have hp0:¬ ((h:Int)=0):=by omega
   have hpn:¬ (h=0):=by omega
   obtain ⟨A,hA⟩:∃ A,A=y / h:=⟨_,rfl⟩
   obtain ⟨B,hB⟩:∃ B,B=x / h:=⟨_,rfl⟩
   have hAy:A<=y:=by rw [hA];exact Nat.div_le_self _ _
   have hBx:B<=x:=by rw [hB];exact Nat.div_le_self _ _
   have e1:Int.tdiv (y:Int) (h:Int)=(A:Int):=by rw [Int.tdiv_eq_ediv_of_nonneg (Int.natCast_nonneg y),hA];exact (Int.natCast_ediv y h).symm
   have e2:Int.tdiv (x:Int) (h:Int)=(B:Int):=by rw [Int.tdiv_eq_ediv_of_nonneg (Int.natCast_nonneg x),hB];exact (Int.natCast_ediv x h).symm
   obtain ⟨a,ha⟩:∃ a,a=A % 2:=⟨_,rfl⟩
   obtain ⟨b,hbb⟩:∃ b,b=B % 2:=⟨_,rfl⟩
   have e3:Int.tmod (A:Int) 2=(a:Int):=by rw [Int.tmod_eq_emod_of_nonneg (Int.natCast_nonneg A),ha];exact (Int.natCast_emod A 2).symm
   have e4:Int.tmod (B:Int) 2=(b:Int):=by rw [Int.tmod_eq_emod_of_nonneg (Int.natCast_nonneg B),hbb];exact (Int.natCast_emod B 2).symm
   obtain ⟨D,hD⟩:∃ D,D=h / 2:=⟨_,rfl⟩
   have e5:Int.tdiv (h:Int) 2=(D:Int):=by rw [Int.tdiv_eq_ediv_of_nonneg (Int.natCast_nonneg h),hD];exact (Int.natCast_ediv h 2).symm
   have hDh:D<h:=by rw [hD];exact Nat.div_lt_self hp (by decide)
   have w9:wrap64 (D:Int)=D:=wrap_small D (Nat.le_trans (Nat.le_of_lt hDh) h8)
   have HD:Hid (D=half (j+1)):=by unfold Hid;rw [hD];exact HN.out
   obtain ⟨w1,w2,w3,w4,w5,w6,w7,w8⟩:=rank_wraps R A B a b hr (Nat.le_trans hAy (Nat.le_of_lt hy)) (Nat.le_trans hBx (Nat.le_of_lt hx)) (by rw [ha];exact Nat.le_of_lt_succ (Nat.mod_lt _ (by decide))) (by rw [hbb];exact Nat.le_of_lt_succ (Nat.mod_lt _ (by decide)))
   have HV:Hid (4*R+2*a+b=rankTo x y (j+1)):=by
    unfold Hid;rw [ha,hbb,hA,hB,hR,hh,rankTo]
   clear hA hB ha hbb hR hh hD
   go_wp2_with fail
   refine region_calm (S:=fun _=>True) 14 #[false,false,false,false,false,false,false,false,false,false,false,false,false,false] rfl rfl hmx ?_
   have hS0:True:=trivial
   refine tk_at 0 11 (.int .i64 R) #[true,false,false,false,false,false,false,false,false,false,false,false,false,false] rfl rfl rfl (by kernel_rfl) (by rfl) (by rintro w _;go_simp) (by assumption) ?_
   simp only [sIb,sCs,sCz]
   refine tk_at 1 12 (.int .i64 (4*R)) #[true,true,false,false,false,false,false,false,false,false,false,false,false,false] rfl rfl rfl (by kernel_rfl) (by rfl) (by rintro w _;go_simp) (by assumption) ?_
   simp only [sIb,sCs,sCz]
   refine tk_at 2 13 (.int .i64 y) #[true,true,true,false,false,false,false,false,false,false,false,false,false,false] rfl rfl rfl (by kernel_rfl) (by rfl) (by rintro w _;go_simp) (by assumption) ?_
   simp only [sIb,sCs,sCz]
   refine tk_at 3 14 (.int .i64 h) #[true,true,true,true,false,false,false,false,false,false,false,false,false,false] rfl rfl rfl (by kernel_rfl) (by rfl) (by rintro w _;go_simp) (by assumption) ?_
   simp only [sIb,sCs,sCz]
   refine tk_at 4 15 (.int .i64 A) #[true,true,true,true,true,false,false,false,false,false,false,false,false,false] rfl rfl rfl (by kernel_rfl) (by rfl) (by rintro w _;go_simp) (by assumption) ?_
   simp only [sIb,sCs,sCz]
   refine tk_at 5 16 (.int .i64 a) #[true,true,true,true,true,true,false,false,false,false,false,false,false,false] rfl rfl rfl (by kernel_rfl) (by rfl) (by rintro w _;go_simp) (by assumption) ?_
   simp only [sIb,sCs,sCz]
   refine tk_at 6 17 (.int .i64 (2*a)) #[true,true,true,true,true,true,true,false,false,false,false,false,false,false] rfl rfl rfl (by kernel_rfl) (by rfl) (by rintro w _;go_simp) (by assumption) ?_
   simp only [sIb,sCs,sCz]
   refine tk_at 7 18 (.int .i64 (4*R+2*a)) #[true,true,true,true,true,true,true,true,false,false,false,false,false,false] rfl rfl rfl (by kernel_rfl) (by rfl) (by rintro w _;go_simp) (by assumption) ?_
   simp only [sIb,sCs,sCz]
   refine tk_at 8 19 (.int .i64 x) #[true,true,true,true,true,true,true,true,true,false,false,false,false,false] rfl rfl rfl (by kernel_rfl) (by rfl) (by rintro w _;go_simp) (by assumption) ?_
   simp only [sIb,sCs,sCz]
   refine tk_at 9 20 (.int .i64 h) #[true,true,true,true,true,true,true,true,true,true,false,false,false,false] rfl rfl rfl (by kernel_rfl) (by rfl) (by rintro w _;go_simp) (by assumption) ?_
   simp only [sIb,sCs,sCz]
   refine tk_at 10 21 (.int .i64 B) #[true,true,true,true,true,true,true,true,true,true,true,false,false,false] rfl rfl rfl (by kernel_rfl) (by rfl) (by rintro w _;go_simp) (by assumption) ?_
   simp only [sIb,sCs,sCz]
   refine tk_at 11 22 (.int .i64 b) #[true,true,true,true,true,true,true,true,true,true,true,true,false,false] rfl rfl rfl (by kernel_rfl) (by rfl) (by rintro w _;go_simp) (by assumption) ?_
   simp only [sIb,sCs,sCz]
   refine tk_at 12 23 (.int .i64 (4*R+2*a+b)) #[true,true,true,true,true,true,true,true,true,true,true,true,true,false] rfl rfl rfl (by kernel_rfl) (by rfl) (by rintro w _;go_simp) (by assumption) ?_
   simp only [sIb,sCs,sCz]
   refine tk_at 13 5 (.int .i64 (4*R+2*a+b)) #[true,true,true,true,true,true,true,true,true,true,true,true,true,true] rfl rfl rfl (by kernel_rfl) (by rfl) (by rintro w _;go_simp) (by assumption) ?_
   simp only [sIb,sCs,sCz]
   refine wpAnyH_done (by kernel_rfl) ?_ _
   dsimp only [calmPost]
   have HB2:Hid (Below w.heap.size w wr):=hb
   have HC:Hid (((4*R+2*a+b:Nat):Int)=4*(R:Int)+2*a+b):=by unfold Hid;simp
   clear hb e1 e2 e3 e4 w1 w2 w3 w4 w5 w6 w7 w8 hAy hBx hp0 hpn hS0 hr hx hy
   go_wp2_with fail
   exact ⟨⟨j+1,h4,by rw [<- HV.out,HC.out],by rw [<- HD.out],below_drew HB2.out⟩,by simp [intOf];exact hDh⟩
  ·obtain rfl:j=4:=by omega
   obtain rfl:h=0:=hh
   rw [rankTo_all] at hR
   go_wp2
   go_ret
   exact ⟨by rw [<- hR];rfl,hb⟩
end
section
open Go.RowKit
set_option maxRecDepth 20000 in
theorem pIsAhead (w:World) (u v n x y m:Nat) (hu:u+n<=16) (hv:v+n<=16) (hn:0<n) (hx:x<16) (hy:y<16) :
  Calls Tryz.prog 140 #[.agg #[.int .i64 u,.int .i64 v,.int .i64 n],.agg #[.int .i64 x,.int .i64 y,.int .i64 m]] w fun e w'=>e=.returned (.bool (decide (Pk.rank (u+(n-1)) (v+(n-1))<Pk.rank x y)))/\Below w.heap.size w w':=by
 have hmx:Tryz.prog.follows .mixedOrders=true:=by kernel_rfl
 obtain ⟨N,hN⟩:∃ N,N=n-1:=⟨_,rfl⟩
 obtain ⟨U,hU⟩:∃ U,U=u+N:=⟨_,rfl⟩
 obtain ⟨V,hV⟩:∃ V,V=v+N:=⟨_,rfl⟩
 have hUb:U<100:=by omega
 have hVb:V<100:=by omega
 have wN:wrap64 ((n:Int)-1)=(n:Int)-1:=by unfold wrap64;omega
 have wU:IntKind.i64.wrap ((u:Int)+((n:Int)-1))=(U:Int):=by rw [IntKind.wrap_i64];omega
 have wV:IntKind.i64.wrap ((v:Int)+((n:Int)-1))=(V:Int):=by rw [IntKind.wrap_i64];omega
 rw [<- hN,<- hU,<- hV]
 obtain ⟨H,hH⟩:∃ H,H=w.heap.size:=⟨_,rfl⟩
 obtain ⟨W,hW⟩:∃ W,W=(w.alloc (.cells #[.int .i64 u,.int .i64 v,.int .i64 n] 100)).alloc (.cells #[.int .i64 x,.int .i64 y,.int .i64 m] 100):=⟨_,rfl⟩
 have hB:Below w.heap.size w W:=by rw [hW];exact ((Below.refl _ w).alloc (Nat.le_refl _) _).alloc (by simp) _
 have hx0:W.heap[H]?=some (.cells #[.int .i64 u,.int .i64 v,.int .i64 n] 100):=by
  rw [hW,hH];exact (Below.heap_alloc _ _ _ (by simp only [World.size_alloc];omega)).trans (heap_alloc_last w _)
 have hx1:W.heap[H+1]?=some (.cells #[.int .i64 x,.int .i64 y,.int .i64 m] 100):=by
  have:=heap_alloc_last (w.alloc (.cells #[.int .i64 u,.int .i64 v,.int .i64 n] 100)) (.cells #[.int .i64 x,.int .i64 y,.int .i64 m] 100)
  rw [World.size_alloc] at this
  rw [hW,hH];exact this
 have c0:=cell_of_row _ _ 0 _ _ _ hx0
 have c1:=cell_of_row _ _ 1 _ _ _ hx0
 have c2:=cell_of_row _ _ 2 _ _ _ hx0
 have d0:=cell_of_row _ _ 0 _ _ _ hx1
 have d1:=cell_of_row _ _ 1 _ _ _ hx1
 simp at c0 c1 c2 d0 d1
 have HW:Hid (W=(w.alloc (.cells #[.int .i64 u,.int .i64 v,.int .i64 n] 100)).alloc (.cells #[.int .i64 x,.int .i64 y,.int .i64 m] 100)/\H=w.heap.size/\Below w.heap.size w W):=⟨hW,hH,hB⟩
 clear hW hH hB hx0 hx1 hN hU hV
 go_enter Tryz.func140,Tryz.ntmps140
 go_wp2_with (rw [<- HW.out.1,<- HW.out.2.1])
 clear wN c2
 refine region_calm (S:=fun w'=>w'.cell? ⟨H,0,none⟩=some (.int .i64 u)/\w'.cell? ⟨H,1,none⟩=some (.int .i64 v)/\w'.cell? ⟨H+1,0,none⟩=some (.int .i64 x)/\w'.cell? ⟨H+1,1,none⟩=some (.int .i64 y)) 16 #[false,false,false,false,false,false,false,false,false,false,false,false,false,false,false,false] rfl rfl hmx ?_
 have hS0:(W.drew.cell? ⟨H,0,none⟩=some (.int .i64 u)/\W.drew.cell? ⟨H,1,none⟩=some (.int .i64 v)/\W.drew.cell? ⟨H+1,0,none⟩=some (.int .i64 x)/\W.drew.cell? ⟨H+1,1,none⟩=some (.int .i64 y)):=⟨c0,c1,d0,d1⟩
 refine tk_at 0 9 (.pointer (some ⟨H,0,none⟩)) #[true,false,false,false,false,false,false,false,false,false,false,false,false,false,false,false] rfl rfl rfl (by kernel_rfl) (by rfl) (by rintro w ⟨t0,t1,t2,t3⟩;go_simp) (by assumption) ?_
 simp only [sIb,sCs,sCz]
 refine tk_at 1 10 (.int .i64 u) #[true,true,false,false,false,false,false,false,false,false,false,false,false,false,false,false] rfl rfl rfl (by kernel_rfl) (by rfl) (by rintro w ⟨t0,t1,t2,t3⟩;go_simp) (by assumption) ?_
 simp only [sIb,sCs,sCz]
 refine tk_at 2 11 (.int .i64 ((n:Int)-1)) #[true,true,true,false,false,false,false,false,false,false,false,false,false,false,false,false] rfl rfl rfl (by kernel_rfl) (by rfl) (by rintro w ⟨t0,t1,t2,t3⟩;go_simp) (by assumption) ?_
 simp only [sIb,sCs,sCz]
 refine tk_at 3 12 (.int .i64 U) #[true,true,true,true,false,false,false,false,false,false,false,false,false,false,false,false] rfl rfl rfl (by kernel_rfl) (by rfl) (by rintro w ⟨t0,t1,t2,t3⟩;go_simp) (by assumption) ?_
 simp only [sIb,sCs,sCz]
 refine tk_at 4 13 (.pointer (some ⟨H,1,none⟩)) #[true,true,true,true,true,false,false,false,false,false,false,false,false,false,false,false] rfl rfl rfl (by kernel_rfl) (by rfl) (by rintro w ⟨t0,t1,t2,t3⟩;go_simp) (by assumption) ?_
 simp only [sIb,sCs,sCz]
 refine tk_at 5 14 (.int .i64 v) #[true,true,true,true,true,true,false,false,false,false,false,false,false,false,false,false] rfl rfl rfl (by kernel_rfl) (by rfl) (by rintro w ⟨t0,t1,t2,t3⟩;go_simp) (by assumption) ?_
 simp only [sIb,sCs,sCz]
 refine tk_at 6 15 (.int .i64 ((n:Int)-1)) #[true,true,true,true,true,true,true,false,false,false,false,false,false,false,false,false] rfl rfl rfl (by kernel_rfl) (by rfl) (by rintro w ⟨t0,t1,t2,t3⟩;go_simp) (by assumption) ?_
 simp only [sIb,sCs,sCz]
 refine tk_at 7 16 (.int .i64 V) #[true,true,true,true,true,true,true,true,false,false,false,false,false,false,false,false] rfl rfl rfl (by kernel_rfl) (by rfl) (by rintro w ⟨t0,t1,t2,t3⟩;go_simp) (by assumption) ?_
 simp only [sIb,sCs,sCz]
 refine tk_at 9 18 (.pointer (some ⟨H+1,0,none⟩)) #[true,true,true,true,true,true,true,true,false,true,false,false,false,false,false,false] rfl rfl rfl (by kernel_rfl) (by rfl) (by rintro w ⟨t0,t1,t2,t3⟩;go_simp) (by assumption) ?_
 simp only [sIb,sCs,sCz]
 refine tk_at 10 19 (.int .i64 x) #[true,true,true,true,true,true,true,true,false,true,true,false,false,false,false,false] rfl rfl rfl (by kernel_rfl) (by rfl) (by rintro w ⟨t0,t1,t2,t3⟩;go_simp) (by assumption) ?_
 simp only [sIb,sCs,sCz]
 refine tk_at 11 20 (.pointer (some ⟨H+1,1,none⟩)) #[true,true,true,true,true,true,true,true,false,true,true,true,false,false,false,false] rfl rfl rfl (by kernel_rfl) (by rfl) (by rintro w ⟨t0,t1,t2,t3⟩;go_simp) (by assumption) ?_
 simp only [sIb,sCs,sCz]
 refine tk_at 12 21 (.int .i64 y) #[true,true,true,true,true,true,true,true,false,true,true,true,true,false,false,false] rfl rfl rfl (by kernel_rfl) (by rfl) (by rintro w ⟨t0,t1,t2,t3⟩;go_simp) (by assumption) ?_
 simp only [sIb,sCs,sCz]
 have cc:∀ Y,Below W.heap.size W Y->(Y.cell? ⟨H,0,none⟩=some (.int .i64 u)/\Y.cell? ⟨H,1,none⟩=some (.int .i64 v)/\Y.cell? ⟨H+1,0,none⟩=some (.int .i64 x)/\Y.cell? ⟨H+1,1,none⟩=some (.int .i64 y)):=fun Y hb=>⟨(hb.cell (World.block_lt_of_cell? W _ c0)).trans c0,(hb.cell (World.block_lt_of_cell? W _ c1)).trans c1,(hb.cell (World.block_lt_of_cell? W _ d0)).trans d0,(hb.cell (World.block_lt_of_cell? W _ d1)).trans d1⟩
 have hBd:Below W.heap.size W W.drew:=⟨rfl,rfl,rfl,Nat.le_refl _,fun _ _=>rfl⟩
 refine enter_at (i:=8) (d:=17) (f:=163) (args:=#[.int .i64 U,.int .i64 V]) #[true,true,true,true,true,true,true,true,true,true,true,true,true,false,false,false] (by kernel_rfl) rfl rfl rfl (by rfl) (by go_simp) (fun r w'=>r=.int .i64 (Pk.rank U V)/\Below W.heap.size W w') ((pRank W.drew U V hUb hVb).mono (fun r w' he=>⟨_,he.1,rfl,hBd.trans he.2⟩)) ?_
 rintro va wa ⟨rfl,ba⟩
 refine ⟨cc wa ba,?_⟩
 simp only [sIb,sCs,sCz]
 refine enter_at (i:=13) (d:=22) (f:=163) (args:=#[.int .i64 x,.int .i64 y]) #[true,true,true,true,true,true,true,true,true,true,true,true,true,true,false,false] (by kernel_rfl) rfl rfl rfl (by rfl) (by go_simp) (fun r w'=>r=.int .i64 (Pk.rank x y)/\Below W.heap.size W w') ((pRank wa x y (by omega) (by omega)).mono (fun r w' he=>⟨_,he.1,rfl,ba.trans (he.2.mono ba.size)⟩)) ?_
 rintro vb wb ⟨rfl,bb⟩
 refine ⟨cc wb bb,?_⟩
 have hSB:=cc wb bb
 simp only [sIb,sCs,sCz]
 refine tk_at 14 23 (.bool (decide (Pk.rank U V<Pk.rank x y))) #[true,true,true,true,true,true,true,true,true,true,true,true,true,true,true,false] rfl rfl rfl (by kernel_rfl) (by rfl) (by rintro w ⟨t0,t1,t2,t3⟩;go_simp) (by assumption) ?_
 simp only [sIb,sCs,sCz]
 refine tk_at 15 4 (.bool (decide (Pk.rank U V<Pk.rank x y))) #[true,true,true,true,true,true,true,true,true,true,true,true,true,true,true,true] rfl rfl rfl (by kernel_rfl) (by rfl) (by rintro w ⟨t0,t1,t2,t3⟩;go_simp) (by assumption) ?_
 simp only [sIb,sCs,sCz]
 refine wpAnyH_done (by kernel_rfl) ?_ _
 dsimp only [calmPost]
 have HB:Hid (Below W.heap.size W wb):=bb
 clear ba bb cc hSB hS0 c0 c1 d0 d1 hBd
 go_wp2_with fail
 go_ret
 exact ⟨rfl,HW.out.2.2.trans (HB.out.mono HW.out.2.2.size)⟩
set_option maxRecDepth 20000 in
theorem pMayCopy (w:World) (g u v n x y:Nat) (hg:w.heap[g]?=some (.cells #[.int .i64 x,.int .i64 y,.int .i64 n] 100)) (hu:u+n<=16) (hv:v+n<=16) (hn:0<n) (hx:x<16) (hy:y<16) :
  Calls Tryz.prog 139 #[.agg #[.int .i64 u,.int .i64 v,.int .i64 n],.pointer (some ⟨g,0,none⟩)] w fun e w'=>e=.returned (.bool (decide (Pk.rank (u+(n-1)) (v+(n-1))<Pk.rank x y)))/\Below w.heap.size w w':=by
 obtain ⟨W,hW⟩:∃ W,W=w.alloc (.cells #[.int .i64 u,.int .i64 v,.int .i64 n] 100):=⟨_,rfl⟩
 have hB:Below w.heap.size w W:=by rw [hW];exact (Below.refl _ w).alloc (Nat.le_refl _) _
 have hg2:W.heap[g]?=some (.cells #[.int .i64 x,.int .i64 y,.int .i64 n] 100):=(hB.block g (heap_lt0 hg)).trans hg
 have hh:W.heap[w.heap.size]?=some (.cells #[.int .i64 u,.int .i64 v,.int .i64 n] 100):=by rw [hW];exact heap_alloc_last w _
 have c0:=cell_of_row _ _ 0 _ _ _ hg2
 have c1:=cell_of_row _ _ 1 _ _ _ hg2
 have c2:=cell_of_row _ _ 2 _ _ _ hg2
 have d0:=cell_of_row _ _ 0 _ _ _ hh
 have d1:=cell_of_row _ _ 1 _ _ _ hh
 have d2:=cell_of_row _ _ 2 _ _ _ hh
 simp at c0 c1 c2 d0 d1 d2
 have HW:Hid (W=w.alloc (.cells #[.int .i64 u,.int .i64 v,.int .i64 n] 100)/\Below w.heap.size w W):=⟨hW,hB⟩
 have HC:=pIsAhead W u v n x y n hu hv hn hx hy
 clear hW hB hg hg2 hh
 go_enter Tryz.func139,Tryz.ntmps139
 go_wp2_with (first
  | (rw [<- HW.out.1])
  | (go_at_call 140;refine HC.mono ?_;rintro e w2 ⟨rfl,b2⟩))
 go_ret
 exact ⟨rfl,HW.out.2.trans (b2.mono HW.out.2.size)⟩
set_option maxRecDepth 20000 in
theorem pMayStill (w:World) (u v n:Nat) :
  Calls Tryz.prog 142 #[.agg #[.int .i64 u,.int .i64 v,.int .i64 n]] w fun e w'=>e=.returned (.bool true)/\Below w.heap.size w w':=by
 go_enter Tryz.func142,Tryz.ntmps142
 go_wp2
 go_ret
 exact ⟨rfl,(Below.refl _ w).alloc (Nat.le_refl _) _⟩
end
end Go.Proofs.YtekfbphnoibnjaaGreatDoor
