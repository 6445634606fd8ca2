/-
  PIdx PPts PRng PAny Colour RefCol ShAt ShGet
-/
import Derived.Test.YtekfbphnoibnjaaGreatDoorF04
import Derived.Deep.WholeRow
import Derived.RangeFuncNested
import Derived.RangeFuncBound
import Derived.Shelf.RegionOpen
import Derived.OwnWalkIn
import Derived.LoopNIn
import Derived.LoopIn
import Derived.Deep.RegionHeld3
set_option maxHeartbeats 4000000
namespace Go.Proofs.YtekfbphnoibnjaaGreatDoor
section
open Go.RowKit
open Flm (Px FS okPx)
open Pk (find tally tallies index)
def sameP (a b:Px):Bool:=a.1 == b.1 && (a.2.1 == b.2.1 && a.2.2 == b.2.2)
theorem sameP_iff (a b:Px):sameP a b=true ↔ a=b:=by
 obtain ⟨a0,a1,a2⟩:=a
 obtain ⟨b0,b1,b2⟩:=b
 simp [sameP]
def findI (c:Px) (l:List Tl):Int:=if find c l<l.length then (find c l:Int) else -1
theorem findI_lt {c:Px} {l:List Tl} (h:find c l<l.length):findI c l=(find c l:Int):=if_pos h
theorem findI_ge {c:Px} {l:List Tl} (h:¬ find c l<l.length):findI c l=-1:=if_neg h
theorem pSameCol (w:World) (K:Nat) (a0 a1 a2 n c0 c1 c2:Int) (h0:w.cell? ⟨K,0,none⟩=some (.int .u8 c0)) (h1:w.cell? ⟨K,1,none⟩=some (.int .u8 c1)) (h2:w.cell? ⟨K,2,none⟩=some (.int .u8 c2)) :
  Calls Tryz.prog 158 #[.agg #[.int .u8 a0,.int .u8 a1,.int .u8 a2,.int .i64 n],.pointer (some ⟨K,0,none⟩)] w fun e w'=>e=.returned (.bool (sameP (a0,a1,a2) (c0,c1,c2)))/\Below w.heap.size w w':=by
 obtain ⟨W,hW⟩:∃ W,W=w.alloc (.cells #[.int .u8 a0,.int .u8 a1,.int .u8 a2,.int .i64 n] 258):=⟨_,rfl⟩
 have hB:Below w.heap.size w W:=by rw [hW];exact (Below.refl _ w).alloc (Nat.le_refl _) _
 have hh:W.heap[w.heap.size]?=some (.cells #[.int .u8 a0,.int .u8 a1,.int .u8 a2,.int .i64 n] 258):=by rw [hW];exact heap_alloc_last w _
 obtain ⟨H,hH⟩:∃ H,H=w.heap.size:=⟨_,rfl⟩
 rw [<- hH] at hh
 have c:∀ (a:Addr) (v:Value),w.cell? a=some v->W.cell? a=some v:=fun a v e=>(hB.cell (World.block_lt_of_cell? w _ e)).trans e
 have k0:=c _ _ h0
 have k1:=c _ _ h1
 have k2:=c _ _ h2
 have d0:=cell_of_row _ _ 0 _ _ _ hh
 have d1:=cell_of_row _ _ 1 _ _ _ hh
 have d2:=cell_of_row _ _ 2 _ _ _ hh
 simp at d0 d1 d2
 have heq:=fun w=>eqPix w a0 a1 a2 c0 c1 c2
 obtain ⟨E,hE⟩:∃ E,E=sameP (a0,a1,a2) (c0,c1,c2):=⟨_,rfl⟩
 have hE':(a0 == c0 && (a1 == c1 && a2 == c2))=E:=hE.symm
 rw [hE'] at heq
 rw [<- hE]
 have HW:Hid (W=w.alloc (.cells #[.int .u8 a0,.int .u8 a1,.int .u8 a2,.int .i64 n] 258)/\H=w.heap.size/\Below w.heap.size w W):=⟨hW,hH,hB⟩
 clear hW hB hh hH c h0 h1 h2 hE hE'
 go_enter Tryz.func158,Tryz.ntmps158
 go_wp2_with (rw [<- HW.out.1,<- HW.out.2.1])
 go_ret
 exact ⟨rfl,HW.out.2.2⟩
theorem pIndexFunc (w:World) (a:Option Addr) (n cap K:Nat) (l:List Tl) (c:Px) (hn:l.length=n) (hn4:n<=4) (h:n=0 \/ ∃ g,a=some ⟨g,0,none⟩/\∀ k t,l[k]?=some t->TalK w g k t) (h0:w.cell? ⟨K,0,none⟩=some (.int .u8 c.1)) (h1:w.cell? ⟨K,1,none⟩=some (.int .u8 c.2.1)) (h2:w.cell? ⟨K,2,none⟩=some (.int .u8 c.2.2)) :
  Calls Tryz.prog 157 #[.slice a n cap,.func (.func 158) #[] #[.pointer (some ⟨K,0,none⟩)]] w fun e w'=>e=.returned (.int .i64 (findI c l))/\Below w.heap.size w w':=by
 have HH:Hid (l.length=n/\(n=0 \/ ∃ g,a=some ⟨g,0,none⟩/\∀ k t,l[k]?=some t->TalK w g k t)/\w.cell? ⟨K,0,none⟩=some (.int .u8 c.1)/\w.cell? ⟨K,1,none⟩=some (.int .u8 c.2.1)/\w.cell? ⟨K,2,none⟩=some (.int .u8 c.2.2)):=⟨hn,h,h0,h1,h2⟩
 clear hn h h0 h1 h2
 obtain ⟨c0,c1,c2⟩:=c
 go_enter Tryz.func157,Tryz.ntmps157
 go_wp2
 go_loopw [8] (fun v8 wr=>∃ j:Nat,j<=n/\v8=.int .i64 j/\(∀ i t,i<j->l[i]?=some t->t.1 ≠ (c0,c1,c2))/\Below w.heap.size w wr) (fun v8 _=>n-(intOf v8).toNat)
 case atStart=>exact ⟨0,Nat.zero_le _,rfl,fun i t hi=>absurd hi (Nat.not_lt_zero _),Below.refl _ _⟩
 case round =>
  obtain ⟨j,hj,rfl,hne,hb⟩:=hrel
  by_cases hlt:j<n
  ·have hlt':(j:Int)<(n:Int):=by omega
   obtain ⟨e1,e2,e3,e4,e5⟩:=HH.out
   obtain ⟨t,ht⟩:∃ t,l[j]?=some t:=⟨l[j]'(by omega),List.getElem?_eq_getElem _⟩
   obtain ⟨⟨t0,t1,t2⟩,tc⟩:=t
   obtain ⟨g,rfl,hg⟩:∃ g,a=some ⟨g,0,none⟩/\∀ k t,l[k]?=some t->TalK w g k t:=e2.resolve_left (by omega)
   obtain ⟨k0,k1,k2,k3⟩:=hg j _ ht
   have cc:∀ (a:Addr) (v:Value),w.cell? a=some v->wr.cell? a=some v:=fun a v e=>(hb.cell (World.block_lt_of_cell? w _ e)).trans e
   have d0:=cc _ _ k0
   have d1:=cc _ _ k1
   have d2:=cc _ _ k2
   have d3:=cc _ _ k3
   dsimp only at d0 d1 d2 d3
   have HC:=pSameCol wr K t0 t1 t2 tc c0 c1 c2 (cc _ _ e3) (cc _ _ e4) (cc _ _ e5)
   obtain ⟨E,hE⟩:∃ E,E=sameP (t0,t1,t2) (c0,c1,c2):=⟨_,rfl⟩
   rw [<- hE] at HC
   have HI:Hid ((∀ i t,i<j->l[i]?=some t->t.1 ≠ (c0,c1,c2))/\Below w.heap.size w wr/\l[j]?=some ((t0,t1,t2),tc)/\E=sameP (t0,t1,t2) (c0,c1,c2)/\l.length=n):=⟨hne,hb,ht,hE,e1⟩
   clear hne hb ht hE e1 e2 e3 e4 e5 hg k0 k1 k2 k3 cc HH
   cases E with
   | true =>
    go_wp2_with (go_at_call 158;refine HC.mono ?_;rintro e w2 ⟨rfl,b2⟩)
    go_ret
    obtain ⟨i1,i2,i3,i4,i5⟩:=HI.out
    have hc:=(sameP_iff _ _).1 i4.symm
    have hf:find (c0,c1,c2) l=j:=find_drop _ l j i1 (by omega) (fun t ht=>by rw [i3] at ht;rw [<- Option.some.inj ht];exact hc)
    exact ⟨by rw [findI_lt (by omega),hf];rfl,i2.trans (b2.mono i2.size)⟩
   | false =>
    go_wp2_with (go_at_call 158;refine HC.mono ?_;rintro e w2 ⟨rfl,b2⟩)
    obtain ⟨i1,i2,i3,i4,i5⟩:=HI.out
    go_roundw
    case rel =>
     refine ⟨j+1,hlt,by go_num,fun i t hi ht e=>?_,i2.trans (b2.mono i2.size)⟩
     by_cases hij:i<j
     ·exact i1 i t hij ht e
     ·have:i=j:=by omega
      subst this
      rw [i3] at ht
      rw [<- Option.some.inj ht] at e
      rw [(sameP_iff _ _).2 e] at i4
      cases i4
    case measure=>simp [intOf];omega
  ·have hlt':¬ (j:Int)<(n:Int):=by omega
   have HI:Hid ((∀ i t,i<j->l[i]?=some t->t.1 ≠ (c0,c1,c2))/\Below w.heap.size w wr):=⟨hne,hb⟩
   clear hne hb
   go_wp2
   go_ret
   obtain ⟨i1,i2⟩:=HI.out
   have hf:find (c0,c1,c2) l=j:=find_drop _ l j i1 (by have:=HH.out.1;omega) (fun t ht=>by have:=(List.getElem?_eq_some_iff.1 ht).1;have:=HH.out.1;omega)
   exact ⟨by rw [findI_ge (by have:=HH.out.1;omega)];rfl,i2⟩
def ColsAt (w:World) (g:Nat) (cs:List Px):Prop:=∀ k c,cs[k]?=some c->w.cell? ⟨g,k*3,none⟩=some (.int .u8 c.1)/\w.cell? ⟨g,k*3+1,none⟩=some (.int .u8 c.2.1)/\w.cell? ⟨g,k*3+2,none⟩=some (.int .u8 c.2.2)
theorem ColsAt.below {w w':World} {g:Nat} {cs:List Px} (h:ColsAt w g cs) (f:Below w.heap.size w w'):ColsAt w' g cs:=fun k c hk =>
 have cc:∀ (a:Addr) (v:Value),w.cell? a=some v->w'.cell? a=some v:=fun _ _ e=>(f.cell (World.block_lt_of_cell? w _ e)).trans e
 ⟨cc _ _ (h k c hk).1,cc _ _ (h k c hk).2.1,cc _ _ (h k c hk).2.2⟩
theorem ColsAt.frm {S:Nat->Prop} {w w':World} {g:Nat} {cs:List Px} (h:ColsAt w g cs) (f:Frm S w w') (hg:¬ S g):ColsAt w' g cs:=fun k c hk =>
 ⟨f.cell (h k c hk).1 hg,f.cell (h k c hk).2.1 hg,f.cell (h k c hk).2.2 hg⟩
theorem pIndex (w:World) (g n cap:Nat) (cs:List Px) (c:Px) (hn:cs.length=n) (hn4:n<=4) (h:ColsAt w g cs) (hc:c ∈ cs) :
  Calls Tryz.prog 138 #[.slice (some ⟨g,0,none⟩) n cap,.agg #[.int .u8 c.1,.int .u8 c.2.1,.int .u8 c.2.2]] w fun e w'=>e=.returned (.int .i64 (index c cs))/\Below w.heap.size w w':=by
 obtain ⟨c0,c1,c2⟩:=c
 dsimp only
 obtain ⟨W,hW⟩:∃ W,W=w.alloc (.cells #[.int .u8 c0,.int .u8 c1,.int .u8 c2] 50):=⟨_,rfl⟩
 have hB:Below w.heap.size w W:=by rw [hW];exact (Below.refl _ w).alloc (Nat.le_refl _) _
 obtain ⟨H,hH⟩:∃ H,H=w.heap.size:=⟨_,rfl⟩
 have hh:W.heap[H]?=some (.cells #[.int .u8 c0,.int .u8 c1,.int .u8 c2] 50):=by rw [hW,hH];exact heap_alloc_last w _
 have HH:Hid (cs.length=n/\ColsAt W g cs/\(c0,c1,c2) ∈ cs/\W=w.alloc (.cells #[.int .u8 c0,.int .u8 c1,.int .u8 c2] 50)/\H=w.heap.size/\W.heap[H]?=some (.cells #[.int .u8 c0,.int .u8 c1,.int .u8 c2] 50)/\Below w.heap.size w W):=⟨hn,h.below hB,hc,hW,hH,hh,hB⟩
 clear hn h hc hW hB hH hh
 go_enter Tryz.func138,Tryz.ntmps138
 go_wp2_with (rw [<- HH.out.2.2.2.1,<- HH.out.2.2.2.2.1])
 go_loopw [8] (fun v8 wr=>∃ j:Nat,j<=n/\v8=.int .i64 j/\(∀ i t,i<j->cs[i]?=some t->t ≠ (c0,c1,c2))/\Below W.heap.size W wr) (fun v8 _=>n-(intOf v8).toNat)
 case atStart=>exact ⟨0,Nat.zero_le _,rfl,fun i t hi=>absurd hi (Nat.not_lt_zero _),Below.refl _ _⟩
 case round =>
  obtain ⟨j,hj,rfl,hne,hb⟩:=hrel
  by_cases hlt:j<n
  ·have hlt':(j:Int)<(n:Int):=by omega
   obtain ⟨e1,e2,e3,e4,e5,e6,e7⟩:=HH.out
   obtain ⟨t,ht⟩:∃ t,cs[j]?=some t:=⟨cs[j]'(by omega),List.getElem?_eq_getElem _⟩
   obtain ⟨t0,t1,t2⟩:=t
   obtain ⟨k0,k1,k2⟩:=e2 j _ ht
   have cc:∀ (a:Addr) (v:Value),W.cell? a=some v->wr.cell? a=some v:=fun a v e=>(hb.cell (World.block_lt_of_cell? W _ e)).trans e
   have d0:=cc _ _ k0
   have d1:=cc _ _ k1
   have d2:=cc _ _ k2
   have x0:=cc _ _ (cell_of_row _ _ 0 _ _ _ e6)
   have x1:=cc _ _ (cell_of_row _ _ 1 _ _ _ e6)
   have x2:=cc _ _ (cell_of_row _ _ 2 _ _ _ e6)
   dsimp only at d0 d1 d2
   have heq:=fun w=>eqPix w c0 c1 c2 t0 t1 t2
   obtain ⟨E,hE⟩:∃ E,E=sameP (c0,c1,c2) (t0,t1,t2):=⟨_,rfl⟩
   have hE':(c0 == t0 && (c1 == t1 && c2 == t2))=E:=hE.symm
   rw [hE'] at heq
   have HI:Hid ((∀ i t,i<j->cs[i]?=some t->t ≠ (c0,c1,c2))/\Below W.heap.size W wr/\cs[j]?=some (t0,t1,t2)/\E=sameP (c0,c1,c2) (t0,t1,t2)/\cs.length=n/\Below w.heap.size w W):=⟨hne,hb,ht,hE,e1,e7⟩
   clear hne hb ht hE hE' e1 e2 e3 e4 e5 e6 e7 k0 k1 k2 cc HH
   have hdr:Below wr.heap.size wr wr.drew:=⟨rfl,rfl,rfl,Nat.le_refl _,fun _ _=>rfl⟩
   cases E with
   | true =>
    go_wp2_with fail
    go_region
    go_wp2
    go_ret
    obtain ⟨i1,i2,i3,i4,i5,i6⟩:=HI.out
    have hc:=(sameP_iff _ _).1 i4.symm
    have hf:index (c0,c1,c2) cs=j:=index_drop _ cs j i1 (by rw [i3,hc])
    exact ⟨by rw [hf];rfl,i6.trans ((i2.trans (hdr.mono i2.size)).mono i6.size)⟩
   | false =>
    go_wp2_with fail
    go_region
    go_wp2
    obtain ⟨i1,i2,i3,i4,i5,i6⟩:=HI.out
    go_roundw
    case rel =>
     refine ⟨j+1,hlt,by go_num,fun i t hi ht e=>?_,i2.trans (hdr.mono i2.size)⟩
     by_cases hij:i<j
     ·exact i1 i t hij ht e
     ·have:i=j:=by omega
      subst this
      rw [i3] at ht
      rw [<- Option.some.inj ht] at e
      rw [(sameP_iff _ _).2 e.symm] at i4
      cases i4
    case measure=>simp [intOf];omega
  ·exfalso
   obtain ⟨i,hi⟩:=List.mem_iff_getElem?.1 HH.out.2.2.1
   have:=(List.getElem?_eq_some_iff.1 hi).1
   have:=HH.out.1
   exact hne i _ (by omega) hi rfl
end
section
open Go.RowKit Go.Shelf
attribute [local go_sem] Oper.semAt_some
theorem pPoints (w:World) (x y n:Int) :
  Calls Tryz.prog 105 #[.agg #[.int .i64 x,.int .i64 y,.int .i64 n]] w fun e w'=>e=.returned (.func (.func 131) #[] #[.pointer (some ⟨w.heap.size,0,none⟩)])/\w'=w.alloc (.cells #[.int .i64 x,.int .i64 y,.int .i64 n] 100):=by
 go_enter Tryz.func105,Tryz.ntmps105
 go_wp2
 go_ret
 exact ⟨rfl,rfl⟩
abbrev Pt (x y n:Nat):={ p:Nat × Nat // (x<=p.1/\p.1<x+n)/\y<=p.2/\p.2<y+n }
def encPt {x y n:Nat} (p:Pt x y n):Array Value:=#[.int .i64 p.1.1,.int .i64 p.1.2]
def KpB (b:Nat) (W W':World):Prop:=W'.heap[b]?=W.heap[b]?
set_option maxRecDepth 100000 in
theorem points1_in (F:Fence) (m:Nat) (hF:F.fn 131) (hro:F.round=none) (hm:1<=m) (l b x y n:Nat) (hx:x+n<=16) (hy:y+n<=16) (J Jx:List (Pt x y n)->World->Prop)
  (hY:∀ pre p W,J pre W->pre.length<n*n->YieldAt F (m-1) Tryz.prog l (encPt p) W fun e W'=>(e=.returned (.bool true)/\J (pre++[p]) W'/\KpB b W W') \/ (e=.returned (.bool false)/\Jx (pre++[p]) W'))
  (W:World) (hb:W.heap[b]?=some (.cells #[.int .i64 x,.int .i64 y,.int .i64 n] 100 (0,0))) (h0:J [] W) :
  CallsIn F m Tryz.prog 131 #[.func (.yield l) #[] #[],.pointer (some ⟨b,0,none⟩)] W fun e W'=>(∃ v,e=.returned v) /\
   ((∃ xs:List (Pt x y n),xs.map (·.1)=Flm.spots x y n/\J xs W') \/ (∃ pre:List (Pt x y n),pre.map (·.1) <+: Flm.spots x y n/\Jx pre W')):=by
 refine callsIn_of_wp Tryz.func131 rfl hF ?_ hro
 simp only [Tryz.ntmps131,List.size_toArray,List.length_cons,List.length_nil,Nat.reduceAdd,Nat.reduceSub,Array.replicate_succ,Array.replicate_zero,List.push_toArray,List.append_toArray,List.nil_append,List.cons_append]
 have c0:=cell_of_row _ _ 0 _ _ _ hb
 have c1:=cell_of_row _ _ 1 _ _ _ hb
 have c2:=cell_of_row _ _ 2 _ _ _ hb
 have HBX:Hid (W.heap[b]?=some (.cells #[.int .i64 x,.int .i64 y,.int .i64 n] 100 (0,0))):=hb
 have HJ0:Hid (J [] W):=h0
 have HY:Hid (∀ pre p W,J pre W->pre.length<n*n->YieldAt F (m-1) Tryz.prog l (encPt p) W fun e W'=>(e=.returned (.bool true)/\J (pre++[p]) W'/\KpB b W W') \/ (e=.returned (.bool false)/\Jx (pre++[p]) W')):=hY
 clear hb h0 hY
 gi_wp2
 clear c0 c1 c2
 gi_loopw [3,4] (fun yv _ wr=>∃ (j:Nat) (pre:List (Pt x y n)),j<=n/\yv=.int .i64 ((y+j:Nat):Int)/\pre.map (·.1)++Flm.left x y n j 0=Flm.spots x y n/\J pre wr/\wr.heap[b]?=some (.cells #[.int .i64 x,.int .i64 y,.int .i64 n] 100 (0,0))) (fun yv _ _=>y+n-(intOf yv).toNat)
 case atStart=>exact ⟨0,[],by omega,rfl,by simp [Flm.left_zero],HJ0.out,HBX.out⟩
 case round =>
  clear HJ0 HBX
  obtain ⟨j,pre,hj,rfl,hpre,hJ,hb⟩:=hrel
  obtain ⟨Y,hYe⟩:∃ Y,Y=y+j:=⟨_,rfl⟩
  rw [<- hYe]
  have c0:=cell_of_row _ _ 0 _ _ _ hb
  have c1:=cell_of_row _ _ 1 _ _ _ hb
  have c2:=cell_of_row _ _ 2 _ _ _ hb
  have HI:Hid (pre.map (·.1)++Flm.left x y n j 0=Flm.spots x y n/\J pre wr/\wr.heap[b]?=some (.cells #[.int .i64 x,.int .i64 y,.int .i64 n] 100 (0,0))):=⟨hpre,hJ,hb⟩
  have HYE:Hid (Y=y+j):=hYe
  by_cases hlt:j<n
  ·have hlt':(Y:Int)<(y:Int)+(n:Int):=by omega
   clear hpre hJ hb hYe
   gi_wp2
   clear c0 c1 c2
   gi_loopw [4] (fun xv wi=>∃ (i:Nat) (pre:List (Pt x y n)),i<=n/\xv=.int .i64 ((x+i:Nat):Int)/\pre.map (·.1)++Flm.left x y n j i=Flm.spots x y n/\J pre wi/\wi.heap[b]?=some (.cells #[.int .i64 x,.int .i64 y,.int .i64 n] 100 (0,0))) (fun xv _=>x+n-(intOf xv).toNat)
   case atStart=>exact ⟨0,pre,by omega,rfl,HI.out.1,HI.out.2.1,HI.out.2.2⟩
   case round =>
    clear HI
    obtain ⟨i,pre,hi,rfl,hpre,hJ,hb⟩:=hrel
    obtain ⟨wi,rfl⟩:∃ wi,wi=wr:=⟨_,rfl⟩
    obtain ⟨X,hXe⟩:∃ X,X=x+i:=⟨_,rfl⟩
    rw [<- hXe]
    have c0:=cell_of_row _ _ 0 _ _ _ hb
    have c1:=cell_of_row _ _ 1 _ _ _ hb
    have c2:=cell_of_row _ _ 2 _ _ _ hb
    have HXE:Hid (X=x+i):=hXe
    by_cases hlt2:i<n
    ·have hlt2':(X:Int)<(x:Int)+(n:Int):=by omega
     have hYe:=HYE.out
     have hcons:=Flm.left_cons x y n j i hlt hlt2
     rw [<- hXe,<- hYe] at hcons
     have hlen:pre.length<n*n:=by
      have:=congrArg List.length hpre
      rw [hcons] at this
      simp only [List.length_append,List.length_map,List.length_cons,Flm.spots_len] at this
      omega
     obtain ⟨P,hP⟩:∃ P:Pt x y n,P.1=(X,Y):=⟨⟨(X,Y),by dsimp only;omega⟩,rfl⟩
     have hen:encPt P=#[.int .i64 X,.int .i64 Y]:=by unfold encPt;rw [hP]
     have hyield:=HY.out pre P wi hJ hlen
     rw [hen] at hyield
     have HP:Hid (P.1=(X,Y)):=hP
     clear hP hen
     obtain ⟨fn,tmps,assign,body,hy,hR⟩:=hyield
     have HN:Hid (∀ q:Pt x y n,q.1=(X,Y)->(pre++[q]).map (·.1)++Flm.left x y n j (i+1)=Flm.spots x y n):=fun q hq=>by
      rw [List.map_append,List.append_assoc,<- hpre,hcons]
      simp [hq]
     have HB:Hid (wi.heap[b]?=some (.cells #[.int .i64 x,.int .i64 y,.int .i64 n] 100 (0,0))):=hb
     clear hpre hJ hb hXe hYe hcons
     gi_wp2
     refine hR.mono ?_
     rintro e W3 (⟨rfl,hJ3,hk3⟩|⟨rfl,hJx3⟩)
     ·gi_wp2
      go_roundw
      case rel =>
       have hXe:=HXE.out
       exact ⟨i+1,_,by omega,by rw [show ((x+(i+1):Nat):Int)=(X:Int)+1 by omega],HN.out _ HP.out,hJ3,hk3.trans HB.out⟩
      case measure=>simp [intOf];omega
     ·gi_wp2
      refine bodyPost_ret (results_none rfl _ _ _) rfl ?_
      exact ⟨⟨_,rfl⟩,.inr ⟨_,⟨_,HN.out _ HP.out⟩,hJx3⟩⟩
    ·have hlt2':¬ ((X:Int)<(x:Int)+(n:Int)):=by omega
     obtain rfl:i=n:=by omega
     have HI2:Hid (pre.map (·.1)++Flm.left x y i j i=Flm.spots x y i/\J pre wi/\wi.heap[b]?=some (.cells #[.int .i64 x,.int .i64 y,.int .i64 i] 100 (0,0))):=⟨hpre,hJ,hb⟩
     clear hpre hJ hb hXe
     gi_wp2
     have hYe:=HYE.out
     obtain ⟨p1,p2,p3⟩:=HI2.out
     refine ⟨⟨j+1,pre,by omega,?_,by rw [<- p1,Flm.left_row],p2,p3⟩,?_⟩
     ·rw [show ((y+(j+1):Nat):Int)=(Y:Int)+1 by omega]
     ·simp [intOf];omega
  ·have hlt':¬ ((Y:Int)<(y:Int)+(n:Int)):=by omega
   obtain rfl:j=n:=by omega
   clear hpre hJ hb hYe
   gi_wp2
   go_end0
   obtain ⟨p1,p2,p3⟩:=HI.out
   rw [Flm.left_end,List.append_nil] at p1
   exact ⟨⟨_,rfl⟩,.inl ⟨pre,p1,p2⟩⟩
theorem points_stops (F:Fence) (m:Nat) (hF:F.fn 131) (hro:F.round=none) (hm:1<=m) (b x y n:Nat) (hx:x+n<=16) (hy:y+n<=16) (w:World) (hb:w.heap[b]?=some (.cells #[.int .i64 x,.int .i64 y,.int .i64 n] 100 (0,0))) :
  SeqStopsK F m Tryz.prog 131 #[.pointer (some ⟨b,0,none⟩)] (encPt (x:=x) (y:=y) (n:=n)) (KpB b) (fun xs=>xs.map (·.1)=Flm.spots x y n) (fun pre=>pre.map (·.1) <+: Flm.spots x y n) (n*n) w :=
 fun l J Jx W hW _ _ hY h0=>points1_in F m hF hro hm l b x y n hx hy J Jx hY W ((hW.block b (heap_lt0 hb)).trans hb) h0
end
section
open Go.RowKit Go.Shelf
theorem keeps_frm {S:Nat->Prop} {W W':World} (f:Frm S W W') (hS:∀ k,S k->∃ v,W.cell? ⟨k,0,none⟩=some v):KeepsOthers W W':=by
 refine ⟨f.size,fun k o hk ho=>?_⟩
 by_cases hs:S k
 ·obtain ⟨v,hv⟩:=hS k hs
  obtain ⟨o',h1,h2⟩:=cells_of_cell hv
  rw [hk] at h1
  cases h1
  rw [h2] at ho
  cases ho
 ·exact (f.block k (heap_lt0 hk) hs).trans hk
section
variable {P:Program} {F:Fence} {n:Nat} {fn:Func} {R:Ending->World->Prop}
theorem retM_none {a:Act} {w:World} {v:Value} (hd:a.defers=[]) (hr:(results fn a.tmps).run P w=.ok v w) (h:R (.returned v) w):bodyPostM F n P fn R .ret a w:=by
 show LeavesInM F n P fn a.tmps R a.defers .returning w
 rw [hd]
 exact ⟨v,hr,h⟩
theorem retM_mark {a:Act} {W:World} {v:Value} {D:Nat} (hd:a.defers=[{ target:=.collected D,args:=#[] }]) (hD:W.heap[D]?=some (.deferred (some []))) (hr:(results fn a.tmps).run P (W.putObj D (.deferred none))=.ok v (W.putObj D (.deferred none))) (h:R (.returned v) (W.putObj D (.deferred none))):bodyPostM F n P fn R .ret a W:=by
 show LeavesInM F n P fn a.tmps R a.defers .returning W
 rw [hd]
 exact ⟨by simp,.inl ⟨_,_,rfl,run_takeDeferred hD,v,hr,h⟩⟩
end
theorem below3 (w:World) (a b c:Obj):Below w.heap.size w (((w.alloc a).alloc b).alloc c):=(((Below.refl _ w).alloc (Nat.le_refl _) _).alloc (by simp) _).alloc (by simp;omega) _
end
section
open Go.RowKit
structure Up where
 u:(FuncId × Array Value × Value) ⊕ Obj
abbrev Up.call (fn:FuncId) (args:Array Value) (v:Value):Up:=⟨.inl (fn,args,v)⟩
abbrev Up.box (ob:Obj):Up:=⟨.inr ob⟩
def updB {α:Type} (f:Nat->α) (i:Nat) (v:α):Nat->α:=fun j=>if j=i then v else f j
theorem updB_same {α:Type} (f:Nat->α) (i:Nat) (v:α):updB f i v i=v:=if_pos rfl
theorem updB_ne {α:Type} (f:Nat->α) {i j:Nat} (v:α) (h:j ≠ i):updB f i v j=f j:=if_neg h
def leftOf (k:Nat) (δ:Nat->Bool):Nat:=((List.range k).filter fun i=>!δ i).length
def doneUp (w:World) (H:Nat) (v:Value):Up->Prop
 | ⟨.inl (_,_,u)⟩=>v=u
 | ⟨.inr ob⟩=>∃ b,v=.pointer (some ⟨b,0,none⟩)/\w.heap[b]?=some ob/\H<=b
def isBox:Up->Prop
 | ⟨.inl _⟩=>False
 | ⟨.inr _⟩=>True
structure UpAt (k:Nat) (K:Nat->Up) (H:Nat) (δ:Nat->Bool) (σ:Nat->Value) (w:World):Prop where
 all:∀ i,i<k->δ i=true->doneUp w H (σ i) (K i)
 apart:∀ i j,i<k->j<k->i ≠ j->δ i=true->δ j=true->isBox (K i)->isBox (K j)->σ i ≠ σ j
theorem doneUp.below {w w':World} {H:Nat} {v:Value} {u:Up} (h:doneUp w H v u) (f:Below w.heap.size w w'):doneUp w' H v u:=by
 obtain ⟨⟨_,_,_⟩|ob⟩:=u
 ·exact h
 ·obtain ⟨b,h1,h2,h3⟩:=h
  exact ⟨b,h1,(f.block b (heap_lt0 h2)).trans h2,h3⟩
def runUp (P:Program) (T:Array Value) (o:Oper) (w:World):Up->Prop
 | ⟨.inl (fn,args,_)⟩=>(execOp (Act.eval ⟨T,[]⟩) o).run P w=.ok (.enter fn args) w
 | ⟨.inr ob⟩=>(execOp (Act.eval ⟨T,[]⟩) o).run P w=.ok (.value (.pointer (some ⟨w.heap.size,0,none⟩))) (w.alloc ob)
def callUp (P:Program) (S:World->Prop):Up->Prop
 | ⟨.inl (fn,args,v)⟩=>∀ wx,S wx->Calls P fn args wx fun e w'=>e=.returned v/\Below wx.heap.size wx w'
 | ⟨.inr _⟩=>True
def rdy (k:Nat) (idx:Nat->Nat) (V:(Nat->Bool)->Bool) (δ:Nat->Bool) (rs:List Nat):Bool:=!rs.isEmpty && rs.all fun j=>(List.range k).any fun i=>j == idx i && !δ i && V (updB δ i true)
theorem rdy_spec {k:Nat} {idx:Nat->Nat} {V:(Nat->Bool)->Bool} {δ:Nat->Bool} {rs:List Nat} (h:rdy k idx V δ rs=true):rs ≠ []/\∀ j ∈ rs,∃ i,i<k/\j=idx i/\δ i=false/\V (updB δ i true)=true:=by
 unfold rdy at h
 rw [Bool.and_eq_true] at h
 refine ⟨fun e=>by rw [e] at h;exact absurd h.1 (by decide),fun j hj=>?_⟩
 obtain ⟨i,hi,h2⟩:=List.any_eq_true.1 (List.all_eq_true.1 h.2 j hj)
 simp only [Bool.and_eq_true,beq_iff_eq,Bool.not_eq_true'] at h2
 exact ⟨i,List.mem_range.1 hi,h2.1.1,h2.1.2,h2.2⟩
theorem left_upd {k:Nat} {δ:Nat->Bool} {i:Nat} (hi:i<k) (h:δ i=false):leftOf k (updB δ i true)+1=leftOf k δ:=by
 unfold leftOf
 have key:∀ l:List Nat,l.Nodup->i ∈ l->(l.filter fun j=>!updB δ i true j).length+1=(l.filter fun j=>!δ j).length:=by
  intro l
  induction l with
  | nil=>intro _ h;exact absurd h List.not_mem_nil
  | cons a l ih =>
   intro hn hm
   rw [List.nodup_cons] at hn
   by_cases e:a=i
   ·subst e
    have h2:(l.filter fun j=>!updB δ a true j)=l.filter fun j=>!δ j:=List.filter_congr fun j hj=>by
     have hne:j ≠ a:=fun e=>hn.1 (by rw [<- e];exact hj)
     rw [updB_ne δ true hne]
    rw [List.filter_cons_of_neg (by simp [updB_same]),List.filter_cons_of_pos (by simp [h]),h2]
    rfl
   ·have hm':i ∈ l:=by
     rcases List.mem_cons.1 hm with h|h
     ·exact absurd h.symm e
     ·exact h
    have:=ih hn.2 hm'
    by_cases hd:δ a=true
    ·rw [List.filter_cons_of_neg (by simp [updB_ne δ true e,hd]),List.filter_cons_of_neg (by simp [hd])]
     exact this
    ·have hd':δ a=false:=by simpa using hd
     rw [List.filter_cons_of_pos (by simp [updB_ne δ true e,hd']),List.filter_cons_of_pos (by simp [hd']),List.length_cons,List.length_cons]
     omega
 exact key _ List.nodup_range (List.mem_range.2 hi)
theorem left_pos {k:Nat} {δ:Nat->Bool} {n:Nat} (h:leftOf k δ=n+1):∃ i,i<k/\δ i=false:=by
 unfold leftOf at h
 cases e:(List.range k).filter fun i=>!δ i with
 | nil=>rw [e] at h;cases h
 | cons a l =>
  have ha:a ∈ (List.range k).filter fun i=>!δ i:=by rw [e];simp
  obtain ⟨h1,h2⟩:=List.mem_filter.1 ha
  exact ⟨a,List.mem_range.1 h1,by simpa using h2⟩
theorem left_zero' {k:Nat} {δ:Nat->Bool} (h:leftOf k δ=0):∀ i,i<k->δ i=true:=by
 intro i hi
 cases e:δ i with
 | true=>rfl
 | false =>
  have hm:i ∈ (List.range k).filter fun i=>!δ i:=List.mem_filter.2 ⟨List.mem_range.2 hi,by simp [e]⟩
  unfold leftOf at h
  rw [List.length_eq_zero_iff.1 h] at hm
  exact absurd hm List.not_mem_nil
section
variable {P:Program} {ops:Array Oper} {Q:Exit->Act->World->Prop} {S:World->Prop}
theorem any_law {k m:Nat} (T:(Nat->Value)->Array Value) (F:(Nat->Bool)->Array Bool) (idx dst:Nat->Nat) (K:Nat->Up) (V:(Nat->Bool)->Bool) (H:Nat)
  (hop:∀ i,i<k->∃ o,ops[idx i]?=some o/\o.dst=some (dst i)/\(∀ t,Region.wanted o t=true)/\∀ σ w,runUp P (T σ) o w (K i))
  (hT:∀ σ i v,i<k->(T σ).setIfInBounds (dst i) v=T (updB σ i v)) (hF:∀ δ i,i<k->(F δ).setIfInBounds (idx i) true=F (updB δ i true))
  (hr:∀ δ,V δ=true->(∃ i,i<k/\δ i=false)->∃ rs,Region.ready .any ops (F δ)=rs/\rdy k idx V δ rs=true)
  (hc:∀ i,i<k->callUp P S (K i)) (hS:∀ wx wy,S wx->Below wx.heap.size wx wy->S wy) (hH:∀ wx,S wx->H<=wx.heap.size)
  (hend:∀ δ σ wx,(∀ i,i<k->δ i=true)->S wx->UpAt k K H δ σ wx->wpAnyH P .any ops Q S m (F δ) ⟨T σ,[]⟩ wx) :
  ∀ (n:Nat) (δ:Nat->Bool) (σ:Nat->Value) (wx:World),leftOf k δ=n->V δ=true->S wx->UpAt k K H δ σ wx->wpAnyH P .any ops Q S (n+m) (F δ) ⟨T σ,[]⟩ wx
 | 0,δ,σ,wx,hn,_,hs,hu=>by
  rw [Nat.zero_add]
  exact hend δ σ wx (left_zero' hn) hs hu
 | n+1,δ,σ,wx,hn,hv,hs,hu=>by
  have ih:=any_law T F idx dst K V H hop hT hF hr hc hS hH hend n
  obtain ⟨rs,hrs,hrd0⟩:=hr δ hv (left_pos hn)
  have hrd:=rdy_spec hrd0
  rw [show n+1+m=n+m+1 by omega]
  refine wpAnyH_all hrs hrd.1 ?_
  intro j hj
  obtain ⟨i,hi,rfl,hf,hv'⟩:=hrd.2 j hj
  have hl:=left_upd hi hf
  obtain ⟨o,ho,hd,hw,hrun⟩:=hop i hi
  have hrun':=hrun σ wx
  have hc':=hc i hi
  rcases hK:K i with ⟨⟨fn,args,v⟩|ob⟩
  ·rw [hK] at hrun' hc'
   refine wpOp_enter ho (hw _) hrun' ((hc' wx hs).mono ?_)
   rintro e w' ⟨rfl,hb⟩
   refine ⟨hS _ _ hs hb,?_⟩
   rw [put_at hd,hT σ i v hi,hF δ i hi]
   refine ih _ _ w' (by omega) hv' (hS _ _ hs hb) ⟨fun a ha hda=>?_,fun a c ha hcl hac hda hdc hKa hKc=>?_⟩
   ·by_cases e:a=i
    ·subst e
     rw [hK,updB_same]
     exact rfl
    ·rw [updB_ne _ _ e] at hda ⊢
     exact (hu.all a ha hda).below hb
   ·have e1:a ≠ i:=fun e=>by subst e;rw [hK] at hKa;exact hKa
    have e2:c ≠ i:=fun e=>by subst e;rw [hK] at hKc;exact hKc
    rw [updB_ne _ _ e1] at hda ⊢
    rw [updB_ne _ _ e2] at hdc ⊢
    exact hu.apart a c ha hcl hac hda hdc hKa hKc
  ·rw [hK] at hrun'
   have hb:Below wx.heap.size wx (wx.alloc ob):=(Below.refl _ _).alloc (Nat.le_refl _) _
   refine wpOp_value ho (hw _) hrun' ⟨hS _ _ hs hb,?_⟩
   rw [put_at hd,hT σ i _ hi,hF δ i hi]
   have far:∀ a,a<k->δ a=true->isBox (K a)->σ a ≠ .pointer (some ⟨wx.heap.size,0,none⟩):=fun a ha hda hKa e2=>by
    have h0:=hu.all a ha hda
    rcases hKb:K a with ⟨⟨_,_,_⟩|ob'⟩
    ·rw [hKb] at hKa;exact hKa
    ·rw [hKb] at h0
     obtain ⟨b,h1,h2,h3⟩:=h0
     rw [h1] at e2
     have:=heap_lt0 h2
     injection e2 with e2
     injection e2 with e2
     injection e2 with e2
     omega
   refine ih _ _ _ (by omega) hv' (hS _ _ hs hb) ⟨fun a ha hda=>?_,fun a c ha hcl hac hda hdc hKa hKc=>?_⟩
   ·by_cases e:a=i
    ·subst e
     rw [hK,updB_same]
     exact ⟨wx.heap.size,rfl,heap_alloc_last wx ob,hH wx hs⟩
    ·rw [updB_ne _ _ e] at hda ⊢
     exact (hu.all a ha hda).below hb
   ·by_cases e1:a=i
    ·subst e1
     have e2:c ≠ a:=Ne.symm hac
     rw [updB_ne _ _ e2] at hdc
     rw [updB_same,updB_ne _ _ e2]
     exact Ne.symm (far c hcl hdc hKc)
    ·rw [updB_ne _ _ e1] at hda
     by_cases e2:c=i
     ·subst e2
      rw [updB_same,updB_ne _ _ e1]
      exact far a ha hda hKa
     ·rw [updB_ne _ _ e2] at hdc
      rw [updB_ne _ _ e1,updB_ne _ _ e2]
      exact hu.apart a c ha hcl hac hda hdc hKa hKc
end
end
section
open Go.RowKit
theorem half_any (n:Int) (w:World) :
  Calls Tryz.prog 124 #[.int .i64 n] w fun e w'=>e=.returned (.int .i64 (n / 2))/\w'=w:=by
 go_enter Tryz.func124,Tryz.ntmps124
 go_wp2
 go_ret
 exact ⟨rfl,rfl⟩
theorem colTurn (r g b:Int) (w:World) (r0:0<=r) (r1:r<=255) (g0:0<=g) (g1:g<=255) (b0:0<=b) (b1:b<=255) :
  Calls Tryz.prog 96 #[.agg #[.int .u8 r,.int .u8 g,.int .u8 b]] w fun e w'=>e=.returned (.agg #[.int .i64 (Pix.tY r g b),.int .i64 (r-b),.int .i64 (Pix.tV r g b)])/\Below w.heap.size w w':=by
 go_enter Tryz.func96,Tryz.ntmps96
 go_wp2
 go_quiet (fail)
 go_wp2
 refine bodyPost_ret (v:=.agg #[.int .i64 (Pix.tY r g b),.int .i64 (r-b),.int .i64 (Pix.tV r g b)]) (by simp [results,Tryz.results96,go_sem,Pix.tY,Pix.tV,Pix.tT]) rfl ⟨rfl,?_⟩
 repeat (first|exact Below.refl _ _|refine Below.setCell ?_ (by simp) _|refine Below.alloc ?_ (by simp) _|refine below_drewN ?_ _)
def nearB (n:Int):Bool:=decide (-255<=n/\n<=255)
def byteB (n:Int):Bool:=decide (0<=n/\n<=255)
theorem isNear_any (n:Int) (w:World) :
  Calls Tryz.prog 125 #[.int .i64 n] w fun e w'=>e=.returned (.bool (nearB n))/\w'=w:=by
 by_cases h1:-255<=n
 ·by_cases h2:n<=255
  ·go_enter Tryz.func125,Tryz.ntmps125
   go_wp2
   go_ret
   exact ⟨by simp [nearB,h1,h2],rfl⟩
  ·go_enter Tryz.func125,Tryz.ntmps125
   go_wp2
   go_ret
   exact ⟨by simp [nearB,h2],rfl⟩
 ·go_enter Tryz.func125,Tryz.ntmps125
  go_wp2
  go_ret
  exact ⟨by simp only [nearB];rw [decide_eq_false (by omega)];rfl,rfl⟩
theorem isByte_any (n:Int) (w:World) :
  Calls Tryz.prog 126 #[.int .i64 n] w fun e w'=>e=.returned (.bool (byteB n))/\w'=w:=by
 by_cases h1:0<=n
 ·by_cases h2:n<=255
  ·go_enter Tryz.func126,Tryz.ntmps126
   go_wp2
   go_ret
   exact ⟨by simp [byteB,h1,h2],rfl⟩
  ·go_enter Tryz.func126,Tryz.ntmps126
   go_wp2
   go_ret
   exact ⟨by simp [byteB,h2],rfl⟩
 ·go_enter Tryz.func126,Tryz.ntmps126
  go_wp2
  go_ret
  exact ⟨by simp only [byteB];rw [decide_eq_false (by omega)];rfl,rfl⟩
theorem colBack_far (y u v:Int) (w:World) (h:(nearB y && nearB u && nearB v)=false) :
  Calls Tryz.prog 98 #[.agg #[.int .i64 y,.int .i64 u,.int .i64 v]] w fun e w'=>e=.returned (.tuple #[.agg #[.int .u8 0,.int .u8 0,.int .u8 0],.bool false])/\Below w.heap.size w w':=by
 rcases hy:nearB y with _|_ <;> rcases hu:nearB u with _|_ <;> rcases hv:nearB v with _|_ <;> first|(simp [hy,hu,hv] at h;done)|skip
 all_goals
  clear h
  go_enter Tryz.func98,Tryz.ntmps98
  go_wp2
  go_quiet (fail)
  go_wp2_with (go_at_call 125;refine (isNear_any _ _).mono ?_;rintro e w1 ⟨rfl,rfl⟩)
  refine bodyPost_ret (v:=.tuple #[.agg #[.int .u8 0,.int .u8 0,.int .u8 0],.bool false]) (by simp [results,Tryz.results98,go_sem]) rfl ⟨rfl,?_⟩
  repeat (first|exact Below.refl _ _|refine Below.setCell ?_ (by simp) _|refine Below.alloc ?_ (by simp) _|refine below_drewN ?_ _)
theorem nearB_true {n:Int} (h:nearB n=true):-255<=n/\n<=255:=of_decide_eq_true h
theorem nearB_mk {n:Int} (h:-255<=n/\n<=255):nearB n=true:=decide_eq_true h
theorem byteB_true {n:Int} (h:byteB n=true):0<=n/\n<=255:=of_decide_eq_true h
theorem byteB_mk {n:Int} (h:0<=n/\n<=255):byteB n=true:=decide_eq_true h
theorem colBack_no (y u v:Int) (w:World) (hy:nearB y=true) (hu:nearB u=true) (hv:nearB v=true)
  (h:(byteB (u+(y-v / 2-u / 2)) && byteB (v+(y-v / 2)) && byteB (y-v / 2-u / 2))=false) :
  Calls Tryz.prog 98 #[.agg #[.int .i64 y,.int .i64 u,.int .i64 v]] w fun e w'=>e=.returned (.tuple #[.agg #[.int .u8 0,.int .u8 0,.int .u8 0],.bool false])/\Below w.heap.size w w':=by
 obtain ⟨y0,y1⟩:=nearB_true hy
 obtain ⟨u0,u1⟩:=nearB_true hu
 obtain ⟨v0,v1⟩:=nearB_true hv
 rcases hr:byteB (u+(y-v / 2-u / 2)) with _|_ <;> rcases hg:byteB (v+(y-v / 2)) with _|_ <;> rcases hb:byteB (y-v / 2-u / 2) with _|_ <;> first|(simp [hr,hg,hb] at h;done)|skip
 all_goals
  clear h
  go_enter Tryz.func98,Tryz.ntmps98
  go_wp2
  go_quiet (fail)
  go_wp2_with (first|(go_at_call 125;refine (isNear_any _ _).mono ?_;rintro e w1 ⟨rfl,rfl⟩)|(go_at_call 126;refine (isByte_any _ _).mono ?_;rintro e w1 ⟨rfl,rfl⟩)|(go_at_call 124;refine (half_any _ _).mono ?_;rintro e w1 ⟨rfl,rfl⟩))
  refine bodyPost_ret (v:=.tuple #[.agg #[.int .u8 0,.int .u8 0,.int .u8 0],.bool false]) (by simp [results,Tryz.results98,go_sem]) rfl ⟨rfl,?_⟩
  repeat (first|exact Below.refl _ _|refine Below.setCell ?_ (by simp) _|refine Below.alloc ?_ (by simp) _|refine below_drewN ?_ _)
theorem colBack_yes (y u v:Int) (w:World) (hy:nearB y=true) (hu:nearB u=true) (hv:nearB v=true)
  (hr:byteB (u+(y-v / 2-u / 2))=true) (hg:byteB (v+(y-v / 2))=true) (hb:byteB (y-v / 2-u / 2)=true) :
  Calls Tryz.prog 98 #[.agg #[.int .i64 y,.int .i64 u,.int .i64 v]] w fun e w'=>e=.returned (.tuple #[.agg #[.int .u8 (Pix.bR y u v),.int .u8 (Pix.bG y v),.int .u8 (Pix.bB y u v)],.bool true])/\Below w.heap.size w w':=by
 obtain ⟨y0,y1⟩:=nearB_true hy
 obtain ⟨u0,u1⟩:=nearB_true hu
 obtain ⟨v0,v1⟩:=nearB_true hv
 obtain ⟨r0,r1⟩:=byteB_true hr
 obtain ⟨g0,g1⟩:=byteB_true hg
 obtain ⟨b0,b1⟩:=byteB_true hb
 go_enter Tryz.func98,Tryz.ntmps98
 go_wp2
 go_quiet (fail)
 go_wp2_with (first|(go_at_call 125;refine (isNear_any _ _).mono ?_;rintro e w1 ⟨rfl,rfl⟩)|(go_at_call 126;refine (isByte_any _ _).mono ?_;rintro e w1 ⟨rfl,rfl⟩)|(go_at_call 124;refine (half_any _ _).mono ?_;rintro e w1 ⟨rfl,rfl⟩))
 refine bodyPost_ret (v:=.tuple #[.agg #[.int .u8 (Pix.bR y u v),.int .u8 (Pix.bG y v),.int .u8 (Pix.bB y u v)],.bool true]) (by simp [results,Tryz.results98,go_sem,Pix.bR,Pix.bG,Pix.bB,Pix.bT]) rfl ⟨rfl,?_⟩
 repeat (first|exact Below.refl _ _|refine Below.setCell ?_ (by simp) _|refine Below.alloc ?_ (by simp) _|refine below_drewN ?_ _)
theorem pix_bytes {y u v:Int} (h:Pix.isPix y u v):(nearB y=true/\nearB u=true/\nearB v=true)/\byteB (u+(y-v / 2-u / 2))=true/\byteB (v+(y-v / 2))=true/\byteB (y-v / 2-u / 2)=true:=by
 obtain ⟨n1,n2,n3⟩:=Pix.near y u v h
 exact ⟨⟨nearB_mk n1,nearB_mk n2,nearB_mk n3⟩,byteB_mk h.1,byteB_mk h.2.1,byteB_mk h.2.2⟩
theorem nopix {y u v:Int} (h:¬ Pix.isPix y u v):(nearB y && nearB u && nearB v)=false \/ ((nearB y=true/\nearB u=true/\nearB v=true)/\(byteB (u+(y-v / 2-u / 2)) && byteB (v+(y-v / 2)) && byteB (y-v / 2-u / 2))=false):=by
 cases hn:(nearB y && nearB u && nearB v)
 ·exact Or.inl rfl
 ·refine Or.inr ⟨by simpa [and_assoc] using hn,?_⟩
  cases hb:(byteB (u+(y-v / 2-u / 2)) && byteB (v+(y-v / 2)) && byteB (y-v / 2-u / 2))
  ·rfl
  ·simp only [Bool.and_eq_true] at hb
   exact absurd ⟨byteB_true hb.1.1,byteB_true hb.1.2,byteB_true hb.2⟩ h
theorem colBack_out (y u v:Int) (w:World) (h:¬ Pix.isPix y u v) :
  Calls Tryz.prog 98 #[.agg #[.int .i64 y,.int .i64 u,.int .i64 v]] w fun e w'=>e=.returned (.tuple #[.agg #[.int .u8 0,.int .u8 0,.int .u8 0],.bool false])/\Below w.heap.size w w':=by
 rcases nopix h with h|⟨⟨h1,h2,h3⟩,h⟩
 ·exact colBack_far y u v w h
 ·exact colBack_no y u v w h1 h2 h3 h
theorem colBack_in (y u v:Int) (w:World) (h:Pix.isPix y u v) :
  Calls Tryz.prog 98 #[.agg #[.int .i64 y,.int .i64 u,.int .i64 v]] w fun e w'=>e=.returned (.tuple #[.agg #[.int .u8 (Pix.bR y u v),.int .u8 (Pix.bG y v),.int .u8 (Pix.bB y u v)],.bool true])/\Below w.heap.size w w':=by
 obtain ⟨⟨h1,h2,h3⟩,h4,h5,h6⟩:=pix_bytes h
 exact colBack_yes y u v w h1 h2 h3 h4 h5 h6
end
section
open Go.RowKit
def far (n:Int):Prop:=n < -1000 \/ 1000<n
end
section
open Go.RowKit
open Flm (Px FS)
def pxCells (ps:List Px):List Value:=ps.flatMap fun p=>[.int .u8 p.1,.int .u8 p.2.1,.int .u8 p.2.2]
theorem pxCells_cons (p:Px) (ps:List Px):pxCells (p :: ps)=.int .u8 p.1 :: .int .u8 p.2.1 :: .int .u8 p.2.2 :: pxCells ps:=by simp [pxCells]
theorem pxCells_len (ps:List Px):(pxCells ps).length=ps.length*3:=by
 induction ps with
 | nil=>rfl
 | cons b bs ih=>rw [pxCells_cons];simp;omega
theorem pxCells_app (xs ys:List Px):pxCells (xs++ys)=pxCells xs++pxCells ys:=by simp [pxCells]
theorem pxCells_get (ps:List Px) (i:Nat) (h:i<ps.length):(pxCells ps)[i*3]?=some (.int .u8 (ps.getD i (0,0,0)).1)/\(pxCells ps)[i*3+1]?=some (.int .u8 (ps.getD i (0,0,0)).2.1)/\(pxCells ps)[i*3+2]?=some (.int .u8 (ps.getD i (0,0,0)).2.2):=by
 induction ps generalizing i with
 | nil=>simp at h
 | cons b bs ih =>
  rw [pxCells_cons]
  cases i with
  | zero=>simp
  | succ i =>
   have:=ih i (by simpa using h)
   rw [show (i+1)*3=i*3+1+1+1 by omega]
   simpa using this
theorem pxCells_set (ps:List Px) (i:Nat) (p:Px) (h:i<ps.length):(((pxCells ps).set (i*3) (.int .u8 p.1)).set (i*3+1) (.int .u8 p.2.1)).set (i*3+2) (.int .u8 p.2.2)=pxCells (ps.set i p):=by
 induction ps generalizing i with
 | nil=>simp at h
 | cons c bs ih =>
  cases i with
  | zero=>rw [pxCells_cons];simp [pxCells_cons]
  | succ i =>
   rw [pxCells_cons,List.set_cons_succ,pxCells_cons,<- ih i (by simpa using h),show (i+1)*3=i*3+1+1+1 by omega]
   simp
theorem made_px (n:Nat):(madeCells #[Value.int .u8 0,Value.int .u8 0,Value.int .u8 0] (n*3)).toList=pxCells (List.replicate n (0,0,0)):=by
 apply List.ext_getElem?
 intro i
 by_cases h:i<n*3
 ·have h1:(madeCells #[Value.int .u8 0,Value.int .u8 0,Value.int .u8 0] (n*3)).toList[i]?=some (.int .u8 0):=by
   simp only [madeCells,Array.toList_map,List.getElem?_map,Array.toList_range,List.getElem?_range h,Option.map_some]
   have h3:i % 3=0 \/ i % 3=1 \/ i % 3=2:=by omega
   rcases h3 with h3|h3|h3 <;> simp [h3]
  have h2:(pxCells (List.replicate n (0,0,0)))[i]?=some (.int .u8 0):=by
   obtain ⟨k0,k1,k2⟩:=pxCells_get (List.replicate n (0,0,0)) (i / 3) (by simp;omega)
   have e:(List.replicate n ((0,0,0):Px)).getD (i / 3) (0,0,0)=(0,0,0):=by
    rw [List.getD_eq_getElem?_getD,List.getElem?_replicate];split <;> rfl
   rw [e] at k0 k1 k2
   have h3:i=i / 3*3 \/ i=i / 3*3+1 \/ i=i / 3*3+2:=by omega
   rcases h3 with h3|h3|h3 <;> rw [h3] <;> assumption
  rw [h1,h2]
 ·rw [List.getElem?_eq_none (by simp [size_madeCells];omega),List.getElem?_eq_none (by rw [pxCells_len];simp;omega)]
theorem infoPx:(Tryz.prog.info? 50).map (fun i=>(i.zero,i.size,i.bytes))=some (some (.agg #[.int .u8 0,.int .u8 0,.int .u8 0]),3,3):=by kernel_rfl
def Pixs (w:World) (B fb N:Nat) (ps:List Px):Prop:=w.ownsRow B 50 3 (.slice (some ⟨fb,0,none⟩) N N) N (pxCells ps)
theorem Pixs.len {w:World} {B fb N:Nat} {ps:List Px} (h:Pixs w B fb N ps):ps.length=N:=by
 have:=h.1;rw [pxCells_len] at this;omega
theorem Pixs.cell {w:World} {B fb N:Nat} {ps:List Px} (h:Pixs w B fb N ps) (k:Nat) (hk:k<N):w.cell? ⟨fb,k*3,none⟩=some (.int .u8 (ps.getD k (0,0,0)).1)/\w.cell? ⟨fb,k*3+1,none⟩=some (.int .u8 (ps.getD k (0,0,0)).2.1)/\w.cell? ⟨fb,k*3+2,none⟩=some (.int .u8 (ps.getD k (0,0,0)).2.2):=by
 obtain ⟨a,b,c⟩:=pxCells_get ps k (by rw [h.len];exact hk)
 exact ⟨(World.ownsRow.cellAt h _ (by omega)).trans a,(World.ownsRow.cellAt h _ (by omega)).trans b,(World.ownsRow.cellAt h _ (by omega)).trans c⟩
theorem Pixs.frozen {w:World} {B fb N:Nat} {ps:List Px} (h:Pixs w B fb N ps) (k:Nat):w.frozen? ⟨fb,k,none⟩=false:=World.ownsRow.frozenAt h k
theorem Pixs.lt {w:World} {B fb N:Nat} {ps:List Px} (h:Pixs w B fb N ps):B<=fb/\fb<w.heap.size:=World.ownsRow.lt h fb rfl
theorem Pixs.store {w:World} {B fb N:Nat} {ps:List Px} (h:Pixs w B fb N ps) (k:Nat) (hk:k<N) (p:Px):Pixs (((w.setCell ⟨fb,k*3,none⟩ (.int .u8 p.1)).setCell ⟨fb,k*3+1,none⟩ (.int .u8 p.2.1)).setCell ⟨fb,k*3+2,none⟩ (.int .u8 p.2.2)) B fb N (ps.set k p):=by
 have h1:=(World.ownsRow.stored h (k*3) (.int .u8 p.1)).1
 have h2:=(World.ownsRow.stored h1 (k*3+1) (.int .u8 p.2.1)).1
 have h3:=(World.ownsRow.stored h2 (k*3+2) (.int .u8 p.2.2)).1
 rw [pxCells_set ps k p (by rw [h.len];exact hk)] at h3
 exact h3
theorem Frm.pixs {S:Nat->Prop} {a b:World} (h:Frm S a b) {B fb N:Nat} {ps:List Px} (ho:Pixs a B fb N ps) (hn:¬ S fb):Pixs b B fb N ps :=
 h.owns ho (fun k e=>by simp [Value.ownBlock] at e;subst e;exact hn)
def Bools (w:World) (B g N:Nat) (bs:List Bool):Prop:=w.ownsRow B 4 1 (.slice (some ⟨g,0,none⟩) N N) N (bs.map .bool)
theorem Bools.len {w:World} {B g N:Nat} {bs:List Bool} (h:Bools w B g N bs):bs.length=N:=by
 have:=h.1;rw [List.length_map] at this;omega
theorem Bools.cell {w:World} {B g N:Nat} {bs:List Bool} (h:Bools w B g N bs) (k:Nat) (hk:k<N):w.cell? ⟨g,k,none⟩=some (.bool (bs.getD k false)):=by
 have hl:=h.len
 rw [World.ownsRow.cellAt h k (by omega),List.getElem?_map,List.getD_eq_getElem?_getD,List.getElem?_eq_getElem (by omega)];rfl
theorem Bools.frozen {w:World} {B g N:Nat} {bs:List Bool} (h:Bools w B g N bs) (k:Nat):w.frozen? ⟨g,k,none⟩=false:=World.ownsRow.frozenAt h k
theorem Bools.lt {w:World} {B g N:Nat} {bs:List Bool} (h:Bools w B g N bs):B<=g/\g<w.heap.size:=World.ownsRow.lt h g rfl
theorem Bools.store {w:World} {B g N:Nat} {bs:List Bool} (h:Bools w B g N bs) (k:Nat) (v:Bool):Bools (w.setCell ⟨g,k,none⟩ (.bool v)) B g N (bs.set k v):=by
 have:=(World.ownsRow.stored h k (.bool v)).1
 rw [show (bs.map Value.bool).set k (.bool v)=(bs.set k v).map Value.bool by rw [List.map_set]] at this
 exact this
theorem Frm.bools {S:Nat->Prop} {a b:World} (h:Frm S a b) {B g N:Nat} {bs:List Bool} (ho:Bools a B g N bs) (hn:¬ S g):Bools b B g N bs :=
 h.owns ho (fun k e=>by simp [Value.ownBlock] at e;subst e;exact hn)
def rowVals (N:Nat) (fbs:List Nat):List Value:=fbs.map fun f=>.slice (some ⟨f,0,none⟩) N N
variable {w w':World} {B p b g lg lc rg z:Nat} {fbs:List Nat} {s:ByteArray} {fs:FS}
namespace Flm
theorem px_put (fs:FS) (i:Nat) (p:Px) (f k:Nat):px (put fs i p) f k=px fs f k \/ px (put fs i p) f k=p:=by
 unfold px put
 simp only [List.getD_eq_getElem?_getD,List.getElem?_set]
 split
 ·rename_i h
  subst h
  split
  ·simp only [Option.getD_some,List.getElem?_set]
   split
   ·split
    ·exact .inr rfl
    ·rename_i h1 h2;subst h1;left;rw [List.getElem?_eq_none (Nat.le_of_not_lt h2)]
   ·exact .inl rfl
  ·rename_i h2
   left
   rw [List.getElem?_eq_none (Nat.le_of_not_lt h2)]
 ·exact .inl rfl
theorem put_len (fs:FS) (i:Nat) (p:Px):(put fs i p).frs.length=fs.frs.length:=by unfold put;simp
end Flm
end
section
open Go.RowKit
open Flm (Px FS)
theorem spot_lt {x y z:Nat} (hx:x<z) (hy:y<z):y*z+x<z*z:=by
 have:(y+1)*z<=z*z:=Nat.mul_le_mul_right _ hy
 rw [Nat.succ_mul] at this
 omega
variable {w:World} {B p b g lg lc rg z:Nat} {fbs:List Nat} {s:ByteArray} {fs:FS}
end
end Go.Proofs.YtekfbphnoibnjaaGreatDoor
