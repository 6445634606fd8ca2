/-
  MarkPix Num Decodes
-/
import Derived.Test.YtekfbphnoibnjaaGreatDoorG09
set_option maxHeartbeats 4000000
namespace Go.Proofs.YtekfbphnoibnjaaGreatDoor
section
open Go.RowKit
theorem infoFB:(Tryz.prog.info? 81).map (fun i=>(i.zero,i.size,i.bytes))=some (some (.agg #[.int .u8 0,.int .u8 0,.int .u8 0,.slice none 0 0,.slice none 0 0,.slice none 0 0,.slice none 0 0]),7,104):=by kernel_rfl
set_option maxRecDepth 20000 in
theorem markPixels_any (w:World) (B p M:Nat) (vs:List Value) (ia:Option Addr) (ik ic:Nat) (rows:List Value) (la:Option Addr) (n lc:Nat) (xs:List Value)
  (hbk:BookAt w p M vs) (hv0:vs[2]?=some (.slice ia ik ic)) (hri:w.ownsRow B 81 7 (.slice ia ik ic) ik rows) (hrl:w.ownsRow B 50 3 (.slice la n lc) n xs)
  (hBz:B<=w.heap.size) (n1:(Value.slice ia ik ic).ownBlock ≠ some p) (n2:(Value.slice la n lc).ownBlock ≠ some p) (n3:∀ k,(Value.slice la n lc).ownBlock=some k->(Value.slice ia ik ic).ownBlock ≠ some k)
  (hM:M<=1000000000) (hn:n<=1000000000) (hik:ik<=1000000000) :
  Calls Tryz.prog 33 #[.pointer (some ⟨p,0,none⟩),.slice la n lc] w fun x w'=>x=.returned (.tuple #[])/\∃ pa pb pc:Int,MarkedG 81 7 2 [.int .u8 pa,.int .u8 pb,.int .u8 pc] [.int .u8 pa,.int .u8 pb,.int .u8 pc] w w' B p M vs (.slice ia ik ic) (.slice la n lc) ik n rows:=by
 have i0:=hbk.c0
 have f0:=hbk.fz 0
 have hlen:xs.length=n*3:=by have:=hrl.1;omega
 obtain ⟨j0,hi,hz0,hz1,hz2⟩:=info_parts infoPx
 obtain ⟨k0,hi',hy0,hy1,hy2⟩:=info_parts infoFB
 have H0:Hid (MKg 50 3 81 7 w (w.setCell ⟨p,0,none⟩ (.int .i64 ((M:Int)+1))) B p (M+1) vs (.slice ia ik ic) (.slice la n lc) ik n rows xs):=⟨hbk.put0 (M+1),hri.kept (grown_setCell w p 0 _) (.inr n1),hrl.kept (grown_setCell w p 0 _) (.inr n2),(Frm.refl _ w).setCell (.inl (.inl rfl)) _⟩
 have HCO:Hid (Calls Tryz.prog 74 #[.int .i64 ((M:Int)+1)] (w.setCell ⟨p,0,none⟩ (.int .i64 ((M:Int)+1))) fun x w'=>(∃ a b c:Int,x=.returned (.agg #[.int .u8 a,.int .u8 b,.int .u8 c]))/\Below (w.setCell ⟨p,0,none⟩ (.int .i64 ((M:Int)+1))).heap.size (w.setCell ⟨p,0,none⟩ (.int .i64 ((M:Int)+1))) w'):=by
  have:=lawColour (w.setCell ⟨p,0,none⟩ (.int .i64 ((M:Int)+1))) (M+1)
  rw [show (((M+1:Nat)):Int)=(M:Int)+1 by omega] at this
  exact this
 have hlb:Hid (∀ k,(Value.slice la n lc).ownBlock=some k->k<w.heap.size):=fun k hk=>(World.ownsRow.lt hrl k hk).2
 have hib:Hid (∀ k,(Value.slice ia ik ic).ownBlock=some k->k<w.heap.size):=fun k hk=>(World.ownsRow.lt hri k hk).2
 have hpw:p<w.heap.size:=hbk.up
 have N1:Hid ((Value.slice ia ik ic).ownBlock ≠ some p):=n1
 have N2:Hid ((Value.slice la n lc).ownBlock ≠ some p):=n2
 have N3:Hid (∀ k,(Value.slice la n lc).ownBlock=some k->(Value.slice ia ik ic).ownBlock ≠ some k):=n3
 clear hbk hri hrl n1 n2 n3
 go_enter Tryz.func33,Tryz.ntmps33
 go_wp2_with (go_at_call 74;refine HCO.out.mono ?_;rintro e wc ⟨⟨pa,pb,pc,rfl⟩,bc⟩)
 obtain ⟨mb,hmb⟩:∃ mb,mb=wc.heap.size:=⟨_,rfl⟩
 obtain ⟨W1,hW1⟩:∃ W1,W1=wc.alloc (.cells #[.int .u8 pa,.int .u8 pb,.int .u8 pc] 50):=⟨_,rfl⟩
 have H1:Hid (MKg 50 3 81 7 w W1 B p (M+1) vs (.slice ia ik ic) (.slice la n lc) ik n rows xs):=by
  unfold Hid
  rw [hW1]
  exact (H0.out.below bc).alloc _
 have HM0:Hid (Blk W1 mb [.int .u8 pa,.int .u8 pb,.int .u8 pc] 50):=by unfold Hid;rw [hW1,hmb];exact Blk.new wc [.int .u8 pa,.int .u8 pb,.int .u8 pc] 50
 have hmw:w.heap.size<=mb:=by rw [hmb];have:=bc.size;rw [World.size_setCell] at this;exact this
 have LMB:Hid ((Value.slice la n lc).ownBlock ≠ some mb):=fun e=>by have:=hlb.out mb e;omega
 have IMB:Hid ((Value.slice ia ik ic).ownBlock ≠ some mb):=fun e=>by have:=hib.out mb e;omega
 rw [<- hW1,<- hmb]
 clear i0 f0 hW1 hmb bc H0 HCO
 go_loopw [5] (fun i wr=>∃ j:Nat,j<=n/\i=.int .i64 j/\MKg 50 3 81 7 w wr B p (M+1) vs (.slice ia ik ic) (.slice la n lc) ik n rows (markRowG xs [.int .u8 pa,.int .u8 pb,.int .u8 pc] j)/\Blk wr mb [.int .u8 pa,.int .u8 pb,.int .u8 pc] 50) (fun i _=>n-(intOf i).toNat)
 case atStart=>exact ⟨0,by omega,rfl,by rw [markRowG_zero];exact H1.out,HM0.out⟩
 case round =>
  obtain ⟨j,hj,rfl,hk,hm⟩:=hrel
  have m0:=hm.cell 0 _ rfl
  have m1:=hm.cell 1 _ rfl
  have m2:=hm.cell 2 _ rfl
  by_cases hlt:j<n
  ·have hlt':(j:Int)<(n:Int):=by omega
   obtain ⟨g,cap,hform,hbg,hgw⟩:=World.ownsRow.form hk.rl (by omega)
   have hla:la=some ⟨g,0,none⟩:=by simp only [Value.slice.injEq] at hform;exact hform.1
   subst hla
   have hx3:(markRowG xs [.int .u8 pa,.int .u8 pb,.int .u8 pc] j).length=n*3:=hk.rl.1
   have ex:∀ t,t<3->∃ c,wr.cell? ⟨g,j*3+t,none⟩=some c:=fun t ht=>by
    have h1:=World.ownsRow.cellAt hk.rl (j*3+t) (by omega)
    rw [List.getElem?_eq_getElem (by omega)] at h1
    exact ⟨_,h1⟩
   obtain ⟨c0,hc0⟩:=ex 0 (by decide)
   obtain ⟨c1,hc1⟩:=ex 1 (by decide)
   obtain ⟨c2,hc2⟩:=ex 2 (by decide)
   rw [Nat.add_zero] at hc0
   have hf0:=World.ownsRow.frozenAt hk.rl (j*3)
   have hf1:=World.ownsRow.frozenAt hk.rl (j*3+1)
   have hf2:=World.ownsRow.frozenAt hk.rl (j*3+2)
   obtain ⟨X,hX⟩:∃ X,X=((wr.setCell ⟨g,j*3,none⟩ (.int .u8 pa)).setCell ⟨g,j*3+1,none⟩ (.int .u8 pb)).setCell ⟨g,j*3+2,none⟩ (.int .u8 pc):=⟨_,rfl⟩
   have fX:Frm (fun k=>k=g) wr X:=by rw [hX];exact Frm.setCell (p:=⟨g,_,none⟩) (Frm.setCell (p:=⟨g,_,none⟩) (Frm.setCell (p:=⟨g,_,none⟩) (Frm.refl (fun k=>k=g) wr) (.inl rfl) _) (.inl rfl) _) (.inl rfl) _
   have hgw0:g<w.heap.size:=hlb.out g rfl
   have HN:Hid (MKg 50 3 81 7 w X B p (M+1) vs (.slice ia ik ic) (.slice (some ⟨g,0,none⟩) n lc) ik n rows (markRowG xs [.int .u8 pa,.int .u8 pb,.int .u8 pc] (j+1))/\Blk X mb [.int .u8 pa,.int .u8 pb,.int .u8 pc] 50):=by
    refine ⟨⟨hk.bk.frm fX (fun e=>N2.out (by rw [e];rfl)),fX.owns hk.ri (fun k hk' e=>N3.out g rfl (by rw [<- e];exact hk')),?_,hk.fr.trans (fX.mono (fun k _ e=>.inr (.inl (by rw [e];rfl))))⟩,hm.of (fX.block mb hm.lt (by omega))⟩
    have:=(World.ownsRow.stored ((World.ownsRow.stored ((World.ownsRow.stored hk.rl (j*3) (.int .u8 pa)).1) (j*3+1) (.int .u8 pb)).1) (j*3+2) (.int .u8 pc)).1
    rw [markRowG_set3 xs _ _ _ j (by omega)] at this
    rw [hX]
    exact this
   have HXX:Hid (X=((wr.setCell ⟨g,j*3,none⟩ (.int .u8 pa)).setCell ⟨g,j*3+1,none⟩ (.int .u8 pb)).setCell ⟨g,j*3+2,none⟩ (.int .u8 pc)):=hX
   clear ex fX hX
   clear hk hform hm
   go_wp2
   go_roundw
   case rel=>exact ⟨j+1,by omega,by go_num,by rw [<- HXX.out];exact HN.out.1,by rw [<- HXX.out];exact HN.out.2⟩
   case measure=>simp [intOf];omega
  ·have hlt':¬ (j:Int)<(n:Int):=by omega
   have hje:j=n:=by omega
   have hk2:MKg 50 3 81 7 w wr B p (M+1) vs (.slice ia ik ic) (.slice la n lc) ik n rows (reps n [.int .u8 pa,.int .u8 pb,.int .u8 pc]):=by
    rw [hje,markRowG_full xs [.int .u8 pa,.int .u8 pb,.int .u8 pc] n (by simpa using hlen)] at hk;exact hk
   have HK:Hid (MKg 50 3 81 7 w wr B p (M+1) vs (.slice ia ik ic) (.slice la n lc) ik n rows (reps n [.int .u8 pa,.int .u8 pb,.int .u8 pc])):=hk2
   clear hk hk2 hje H1
   have hwz:=HK.out.fr.size
   have HM:Hid (Blk wr mb [.int .u8 pa,.int .u8 pb,.int .u8 pc] 50):=hm
   have hmlt:=HM.out.lt
   clear hm HM0
   go_wp2_with (at_builtin;refine wpList_append_keep _ rfl (.tmp 32) (.tmp 34) 58 rfl B 50 j0 (.agg #[.int .u8 0,.int .u8 0,.int .u8 0]) 3 3 Tryz.underlying58 hi hz0 hz1 hz2 rfl (by decide) _ n (reps n [.int .u8 pa,.int .u8 pb,.int .u8 pc]) rfl ?c0 ⟨wr.heap.size+1,0,none⟩ 1 1 [.int .u8 pa,.int .u8 pb,.int .u8 pc] rfl rfl ?c1 ?c2 ?c3 ?c4 ?c5 (by decide) ?_)
   case c0=>exact (HK.out.alloc _).rl.alloc _
   case c2=>exact ⟨rfl,rfl,rfl⟩
   case c3=>unfold maxLen;omega
   case c4=>omega
   case c5=>omega
   intro g1 e1 w1 hg1 hl1 hgr1 hlie1
   have HM1:Hid (Blk w1 mb [.int .u8 pa,.int .u8 pb,.int .u8 pc] 50):=((HM.out.alloc _).alloc _).grown hgr1 LMB.out
   clear m0 m1 m2
   have m0:=HM1.out.cell 0 _ rfl
   have m1:=HM1.out.cell 1 _ rfl
   have m2:=HM1.out.cell 2 _ rfl
   have hmlt1:=HM1.out.lt
   obtain ⟨bb,hbb⟩:∃ bb,bb=wr.heap.size:=⟨_,rfl⟩
   have HX1:Hid (MKg 50 3 81 7 w w1 B p (M+1) vs (.slice ia ik ic) (.slice la n lc) ik n rows (reps n [.int .u8 pa,.int .u8 pb,.int .u8 pc])):=(((HK.out.alloc _).alloc _).app hgr1 hl1 N2.out N3.out)
   have hlbb:(Value.slice la n lc).ownBlock ≠ some bb:=fun e=>by have:=hlb.out bb e;omega
   have hibb:(Value.slice ia ik ic).ownBlock ≠ some bb:=fun e=>by have:=hib.out bb e;omega
   have HB1:Blk w1 bb [.int .u8 pa,.int .u8 pb,.int .u8 pc,.slice la n lc,.slice none 0 0,.slice none 0 0,.slice none 0 0] 81:=by
    rw [hbb] at hlbb ⊢;exact ((Blk.new wr [.int .u8 pa,.int .u8 pb,.int .u8 pc,.slice la n lc,.slice none 0 0,.slice none 0 0,.slice none 0 0] 81).alloc _).grown hgr1 hlbb
   have hgb1:g1 ≠ bb:=by
    rcases hlie1 with h|h
    ·intro e;exact hlbb (by rw [h,e])
    ·have:=h.1;omega
   have hsz1:bb+2<=w1.heap.size:=by have:=hgr1.size;simp at this;omega
   have hgz1:g1<w1.heap.size:=(World.ownsRow.lt hg1 g1 rfl).2
   have HF1:Fill w1 (.slice (some ⟨g1,0,none⟩) (n+1) e1) (n+1) [.int .u8 pa,.int .u8 pb,.int .u8 pc]:=by
    have h1:reps n [.int .u8 pa,.int .u8 pb,.int .u8 pc]++[.int .u8 pa,.int .u8 pb,.int .u8 pc]=reps (n+1) [.int .u8 pa,.int .u8 pb,.int .u8 pc]:=by rw [<- reps_app n 1,reps_one]
    rw [h1] at hg1
    exact Fill.of_reps hg1
   have hbw:w.heap.size<=bb:=by omega
   have hbp:bb ≠ p:=by omega
   have q2:=HB1.cell 4 _ rfl
   have r2:=HB1.frozen 4
   have HL1:Hid ((Value.slice la n lc).ownBlock=some g1 \/ bb+2<=g1):=by
    rcases hlie1 with h|h
    ·exact .inl h
    ·have:=h.1;exact .inr (by omega)
   have HB1':Hid (Blk w1 bb [.int .u8 pa,.int .u8 pb,.int .u8 pc,.slice la n lc,.slice none 0 0,.slice none 0 0,.slice none 0 0] 81):=HB1
   have HF1':Hid (Fill w1 (.slice (some ⟨g1,0,none⟩) (n+1) e1) (n+1) [.int .u8 pa,.int .u8 pb,.int .u8 pc]):=HF1
   have LB:Hid ((Value.slice la n lc).ownBlock ≠ some bb):=hlbb
   have IBB:Hid ((Value.slice ia ik ic).ownBlock ≠ some bb):=hibb
   have hmbb:mb<bb:=by rw [hbb];exact hmlt
   rw [<- hbb]
   clear hg1 hl1 hgr1 hlie1 HB1 HF1 hlbb hibb HK hbb
   go_wp2_with (at_builtin;refine wpList_append_keep _ rfl (.tmp 37) (.tmp 40) 58 rfl B 50 j0 (.agg #[.int .u8 0,.int .u8 0,.int .u8 0]) 3 3 Tryz.underlying58 hi hz0 hz1 hz2 rfl (by decide) _ n (reps n [.int .u8 pa,.int .u8 pb,.int .u8 pc]) rfl ?d0 ⟨w1.heap.size,0,none⟩ 2 2 [.int .u8 pa,.int .u8 pb,.int .u8 pc,.int .u8 pa,.int .u8 pb,.int .u8 pc] rfl rfl ?d1 ?d2 ?d3 ?d4 ?d5 (by decide) ?_)
   case d0=>exact ((HX1.out.setNew bb 4 _ hbp IBB.out LB.out hbw).alloc _).rl
   case d1=>exact news_new _ [.int .u8 pa,.int .u8 pb,.int .u8 pc,.int .u8 pa,.int .u8 pb,.int .u8 pc] 50 _ (by simp)
   case d2=>exact oneCell_reps (us:=[.int .u8 pa,.int .u8 pb,.int .u8 pc]) (by intro u hu;simp at hu;rcases hu with rfl|rfl|rfl <;> rfl) 2
   case d3=>unfold maxLen;omega
   case d4=>omega
   case d5=>simp;omega
   intro g2 e2 w2 hg2 hl2 hgr2 hlie2
   have hg2':w2.ownsRow B 50 3 (.slice (some ⟨g2,0,none⟩) (n+2) e2) (n+2) (reps (n+2) [.int .u8 pa,.int .u8 pb,.int .u8 pc]):=by
    rw [<- reps_app n 2];exact hg2
   have hgb2:g2 ≠ bb:=by
    rcases hlie2 with h|h
    ·intro e;exact LB.out (by rw [h,e])
    ·have:=h.1;omega
   have hsz2:bb+2<=w2.heap.size:=by have:=hgr2.size;simp at this;omega
   have hgz2:g2<w2.heap.size/\w1.heap.size<=w2.heap.size:=⟨(World.ownsRow.lt hg2 g2 rfl).2,by have:=hgr2.size;simp at this;omega⟩
   have HX2:Hid (MKg 50 3 81 7 w w2 B p (M+1) vs (.slice ia ik ic) (.slice la n lc) ik n rows (reps n [.int .u8 pa,.int .u8 pb,.int .u8 pc])):=(((HX1.out.setNew bb 4 _ hbp IBB.out LB.out hbw).alloc _).app hgr2 hl2 N2.out N3.out)
   have HB2:Blk w2 bb [.int .u8 pa,.int .u8 pb,.int .u8 pc,.slice la n lc,.slice (some ⟨g1,0,none⟩) (n+1) e1,.slice none 0 0,.slice none 0 0] 81:=((HB1'.out.set 4 (.slice (some ⟨g1,0,none⟩) (n+1) e1)).alloc _).grown hgr2 LB.out
   have HF12:Hid (Fill w2 (.slice (some ⟨g1,0,none⟩) (n+1) e1) (n+1) [.int .u8 pa,.int .u8 pb,.int .u8 pc]):=fill_appG (fill_alloc (fill_setOther HF1'.out (fun e=>hgb1 e.symm)) _) hgr2 (by rcases hlie2 with h|h;exact .inl h;exact .inr h.2) hg2' (by omega)
   have HF2':Hid (Fill w2 (.slice (some ⟨g2,0,none⟩) (n+2) e2) (n+2) [.int .u8 pa,.int .u8 pb,.int .u8 pc]):=Fill.of_reps hg2'
   have HL2:Hid ((Value.slice la n lc).ownBlock=some g2 \/ bb+2<=g2):=by
    rcases hlie2 with h|h
    ·exact .inl h
    ·have:=h.1;exact .inr (by omega)
   have HM2:Hid (Blk w2 mb [.int .u8 pa,.int .u8 pb,.int .u8 pc] 50):=((HM1.out.of (Below.heap_setCell w1 ⟨bb,4,none⟩ _ mb (fun e=>by have e':mb=bb:=e;omega))).alloc _).grown hgr2 LMB.out
   clear m0 m1 m2
   have m0:=HM2.out.cell 0 _ rfl
   have m1:=HM2.out.cell 1 _ rfl
   have m2:=HM2.out.cell 2 _ rfl
   have hmlt2:=HM2.out.lt
   have q3:=HB2.cell 5 _ rfl
   have r3:=HB2.frozen 5
   have HB2':Hid (Blk w2 bb [.int .u8 pa,.int .u8 pb,.int .u8 pc,.slice la n lc,.slice (some ⟨g1,0,none⟩) (n+1) e1,.slice none 0 0,.slice none 0 0] 81):=HB2
   clear hg2 hg2' hl2 hgr2 hlie2 HB2 q2 r2
   go_wp2_with (at_builtin;refine wpList_append_keep _ rfl (.tmp 43) (.tmp 47) 58 rfl B 50 j0 (.agg #[.int .u8 0,.int .u8 0,.int .u8 0]) 3 3 Tryz.underlying58 hi hz0 hz1 hz2 rfl (by decide) _ n (reps n [.int .u8 pa,.int .u8 pb,.int .u8 pc]) rfl ?f0 ⟨w2.heap.size,0,none⟩ 3 3 [.int .u8 pa,.int .u8 pb,.int .u8 pc,.int .u8 pa,.int .u8 pb,.int .u8 pc,.int .u8 pa,.int .u8 pb,.int .u8 pc] rfl rfl ?f1 ?f2 ?f3 ?f4 ?f5 (by decide) ?_)
   case f0=>exact ((HX2.out.setNew bb 5 _ hbp IBB.out LB.out hbw).alloc _).rl
   case f1=>exact news_new _ [.int .u8 pa,.int .u8 pb,.int .u8 pc,.int .u8 pa,.int .u8 pb,.int .u8 pc,.int .u8 pa,.int .u8 pb,.int .u8 pc] 50 _ (by simp)
   case f2=>exact oneCell_reps (us:=[.int .u8 pa,.int .u8 pb,.int .u8 pc]) (by intro u hu;simp at hu;rcases hu with rfl|rfl|rfl <;> rfl) 3
   case f3=>unfold maxLen;omega
   case f4=>omega
   case f5=>simp;omega
   intro g3 e3 w3 hg3 hl3 hgr3 hlie3
   have hg3':w3.ownsRow B 50 3 (.slice (some ⟨g3,0,none⟩) (n+3) e3) (n+3) (reps (n+3) [.int .u8 pa,.int .u8 pb,.int .u8 pc]):=by
    rw [<- reps_app n 3];exact hg3
   have hgb3:g3 ≠ bb:=by
    rcases hlie3 with h|h
    ·intro e;exact LB.out (by rw [h,e])
    ·have:=h.1;omega
   have hsz3:bb+2<=w3.heap.size:=by have:=hgr3.size;simp at this;omega
   have hgz3:g3<w3.heap.size/\w2.heap.size<=w3.heap.size:=⟨(World.ownsRow.lt hg3 g3 rfl).2,by have:=hgr3.size;simp at this;omega⟩
   have HX3:Hid (MKg 50 3 81 7 w w3 B p (M+1) vs (.slice ia ik ic) (.slice la n lc) ik n rows (reps n [.int .u8 pa,.int .u8 pb,.int .u8 pc])):=(((HX2.out.setNew bb 5 _ hbp IBB.out LB.out hbw).alloc _).app hgr3 hl3 N2.out N3.out)
   have HB3:Blk w3 bb [.int .u8 pa,.int .u8 pb,.int .u8 pc,.slice la n lc,.slice (some ⟨g1,0,none⟩) (n+1) e1,.slice (some ⟨g2,0,none⟩) (n+2) e2,.slice none 0 0] 81:=((HB2'.out.set 5 (.slice (some ⟨g2,0,none⟩) (n+2) e2)).alloc _).grown hgr3 LB.out
   have HF13:Hid (Fill w3 (.slice (some ⟨g1,0,none⟩) (n+1) e1) (n+1) [.int .u8 pa,.int .u8 pb,.int .u8 pc]):=fill_appG (fill_alloc (fill_setOther HF12.out (fun e=>hgb1 e.symm)) _) hgr3 (by rcases hlie3 with h|h;exact .inl h;exact .inr h.2) hg3' (by omega)
   have HF23:Hid (Fill w3 (.slice (some ⟨g2,0,none⟩) (n+2) e2) (n+2) [.int .u8 pa,.int .u8 pb,.int .u8 pc]):=fill_appG (fill_alloc (fill_setOther HF2'.out (fun e=>hgb2 e.symm)) _) hgr3 (by rcases hlie3 with h|h;exact .inl h;exact .inr h.2) hg3' (by omega)
   have HF3':Hid (Fill w3 (.slice (some ⟨g3,0,none⟩) (n+3) e3) (n+3) [.int .u8 pa,.int .u8 pb,.int .u8 pc]):=Fill.of_reps hg3'
   have HL3:Hid ((Value.slice la n lc).ownBlock=some g3 \/ bb+2<=g3):=by
    rcases hlie3 with h|h
    ·exact .inl h
    ·have:=h.1;exact .inr (by omega)
   clear m0 m1 m2
   have q4:=HB3.cell 6 _ rfl
   have r4:=HB3.frozen 6
   have HB3':Hid (Blk w3 bb [.int .u8 pa,.int .u8 pb,.int .u8 pc,.slice la n lc,.slice (some ⟨g1,0,none⟩) (n+1) e1,.slice (some ⟨g2,0,none⟩) (n+2) e2,.slice none 0 0] 81):=HB3
   clear hg3 hg3' hl3 hgr3 hlie3 HB3 q3 r3
   go_wp2_with fail
   obtain ⟨w4,hw4⟩:∃ w4,w4=w3.setCell ⟨bb,6,none⟩ (.slice (some ⟨g3,0,none⟩) (n+3) e3):=⟨_,rfl⟩
   have HX4:Hid (MKg 50 3 81 7 w w4 B p (M+1) vs (.slice ia ik ic) (.slice la n lc) ik n rows (reps n [.int .u8 pa,.int .u8 pb,.int .u8 pc])):=by rw [hw4];exact HX3.out.setNew bb 6 _ hbp IBB.out LB.out hbw
   have HB4:Blk w4 bb [.int .u8 pa,.int .u8 pb,.int .u8 pc,.slice la n lc,.slice (some ⟨g1,0,none⟩) (n+1) e1,.slice (some ⟨g2,0,none⟩) (n+2) e2,.slice (some ⟨g3,0,none⟩) (n+3) e3] 81:=by rw [hw4];exact HB3'.out.set 6 (.slice (some ⟨g3,0,none⟩) (n+3) e3)
   have HF14:Hid (Fill w4 (.slice (some ⟨g1,0,none⟩) (n+1) e1) (n+1) [.int .u8 pa,.int .u8 pb,.int .u8 pc]):=by rw [hw4];exact fill_setOther HF13.out (fun e=>hgb1 e.symm)
   have HF24:Hid (Fill w4 (.slice (some ⟨g2,0,none⟩) (n+2) e2) (n+2) [.int .u8 pa,.int .u8 pb,.int .u8 pc]):=by rw [hw4];exact fill_setOther HF23.out (fun e=>hgb2 e.symm)
   have HF34:Hid (Fill w4 (.slice (some ⟨g3,0,none⟩) (n+3) e3) (n+3) [.int .u8 pa,.int .u8 pb,.int .u8 pc]):=by rw [hw4];exact fill_setOther HF3'.out (fun e=>hgb3 e.symm)
   have HZ1:Hid (g1<w4.heap.size):=by have:=hgz1;have:=hgz2;have:=hgz3;show g1<w4.heap.size;rw [hw4];simp;omega
   have HZ2:Hid (g2<w4.heap.size):=by have:=hgz2;have:=hgz3;show g2<w4.heap.size;rw [hw4];simp;omega
   have HZ3:Hid (g3<w4.heap.size):=by have:=hgz3;show g3<w4.heap.size;rw [hw4];simp;omega
   have hsz4:bb+2<=w4.heap.size:=by rw [hw4];simp;exact hsz3
   rw [<- hw4]
   clear hw4 q4 r4 HX1 HX2 HX3 HB1' HB2' HB3' HF1' HF12 HF13 HF2' HF23 HF3'
   have s0:=HB4.cell 0 _ rfl
   have s1:=HB4.cell 1 _ rfl
   have s2:=HB4.cell 2 _ rfl
   have s3:=HB4.cell 3 _ rfl
   have s4:=HB4.cell 4 _ rfl
   have s5:=HB4.cell 5 _ rfl
   have s6:=HB4.cell 6 _ rfl
   have sp:=HX4.out.bk.cs 2 _ hv0
   have sf:=HX4.out.bk.fz 3
   have hpz:=HX4.out.bk.up
   have hri4:=HX4.out.ri
   have hbb4:=HB4.lt
   go_region_law ((refine step_append_lies _ (by rfl) _ _ _ (by rfl) B 81 k0 _ 7 104 Tryz.underlying41 hi' hy0 hy1 hy2 rfl (by omega) (.slice ia ik ic) ik rows (by rfl) ((hri4.alloc _).drew) ⟨w4.heap.size,0,none⟩ 1 1 [.int .u8 pa,.int .u8 pb,.int .u8 pc,.slice la n lc,.slice (some ⟨g1,0,none⟩) (n+1) e1,.slice (some ⟨g2,0,none⟩) (n+2) e2,.slice (some ⟨g3,0,none⟩) (n+3) e3] (by rfl) (by rfl) (World.news_of_block (cs:=#[.int .u8 pa,.int .u8 pb,.int .u8 pc,.slice la n lc,.slice (some ⟨g1,0,none⟩) (n+1) e1,.slice (some ⟨g2,0,none⟩) (n+2) e2,.slice (some ⟨g3,0,none⟩) (n+3) e3]) (t:=81) (fr:=(0,0)) (heap_alloc_new w4 _)) (by simp [Value.oneCell']) (by omega) (by unfold maxLen;omega) (by omega) (by simp;omega) (w4.heap.size+1) (by simp) ?_;intro gg cap w5 hown5 hgrow hat hlt5;have sf5:w5.frozen? ⟨p,3,none⟩=false:=((hgrow.frozen_far ⟨p,3,none⟩ (by simp;omega) (Ne.symm N1.out)).trans (frozen_alloc_drew hpz)).trans sf;have sc5:w5.cell? ⟨p,3,none⟩=some (.slice ia ik ic):=((hgrow.cell_far ⟨p,3,none⟩ (by simp;omega) (Ne.symm N1.out)).trans (cell_alloc_drew hpz)).trans sp))
   all_goals
    go_end0
    exact ⟨rfl,pa,pb,pc,mark_doneG (i:=2) (ms:=[.int .u8 pa,.int .u8 pb,.int .u8 pc]) (us:=[.int .u8 pa,.int .u8 pb,.int .u8 pc]) (by decide) HX4.out HF14.out HF24.out HF34.out bb hbw HZ1.out HZ2.out HZ3.out HL1.out HL2.out HL3.out N1.out N2.out N3.out hlb.out hib.out hpw hown5 hgrow hat⟩
end
section
open Go.RowKit
theorem num_any (n:Int) (w:World):Calls Tryz.prog 57 #[.int .i64 n] w fun e w'=>e=.returned (.int .i64 n)/\w'=w:=by
 go_enter Tryz.func57,Tryz.ntmps57
 go_wp2
 go_ret
 exact ⟨rfl,rfl⟩
end
section
open Go.RowKit
open Flm (Px FS)
structure FPB (W:World) (H:Nat) (z v x0 x1 x2:Value):Prop where
 b0:W.heap[H]?=some (.cells #[z,v] 27 (0,0))
 b1:W.heap[H+1]?=some (.cells #[x0,x1,x2] 33 (0,0))
theorem FPB.below {W W':World} {H:Nat} {z v x0 x1 x2:Value} (h:FPB W H z v x0 x1 x2) (b:Below W.heap.size W W'):FPB W' H z v x0 x1 x2:=⟨(b.block _ (heap_lt0 h.b0)).trans h.b0,(b.block _ (heap_lt0 h.b1)).trans h.b1⟩
theorem FPB.cells {W:World} {H:Nat} {z v x0 x1 x2:Value} (h:FPB W H z v x0 x1 x2):W.cell? ⟨H,0,none⟩=some z/\W.cell? ⟨H,1,none⟩=some v/\W.cell? ⟨H+1,0,none⟩=some x0/\W.cell? ⟨H+1,1,none⟩=some x1/\W.cell? ⟨H+1,2,none⟩=some x2 :=
 ⟨cell_of_row _ _ 0 _ _ _ h.b0,cell_of_row _ _ 1 _ _ _ h.b0,cell_of_row _ _ 0 _ _ _ h.b1,cell_of_row _ _ 1 _ _ _ h.b1,cell_of_row _ _ 2 _ _ _ h.b1⟩
theorem fpb_mk {w0 w w1:World} (b0:Below w0.heap.size w0 w) (b1:Below w.heap.size w w1) (z v x0 x1 x2:Value):∃ W1 H,W1=(w1.alloc (.cells #[z,v] 27)).alloc (.cells #[x0,x1,x2] 33)/\H=w1.heap.size/\Below w1.heap.size w1 W1/\Below w.heap.size w W1/\Below w0.heap.size w0 W1/\FPB W1 H z v x0 x1 x2:=by
 have hn:Below w1.heap.size w1 ((w1.alloc (.cells #[z,v] 27)).alloc (.cells #[x0,x1,x2] 33)):=((Below.refl _ w1).alloc (Nat.le_refl _) _).alloc (by simp) _
 have h2:=heap_alloc_last (w1.alloc (.cells #[z,v] 27)) (.cells #[x0,x1,x2] 33)
 rw [World.size_alloc] at h2
 exact ⟨_,_,rfl,rfl,hn,b1.trans (hn.mono b1.size),(b0.trans (b1.mono b0.size)).trans (hn.mono (Nat.le_trans b0.size b1.size)),(Below.heap_alloc _ _ _ (by simp)).trans (heap_alloc_last w1 _),h2⟩
end
end Go.Proofs.YtekfbphnoibnjaaGreatDoor
