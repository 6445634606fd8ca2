/-
  PWalk MarkRow
-/
import Derived.Test.YtekfbphnoibnjaaGreatDoorG08
set_option maxHeartbeats 4000000
namespace Go.Proofs.YtekfbphnoibnjaaGreatDoor
section
open Go.RowKit
def calmPost (K:Act->World->Prop):Exit->Act->World->Prop
 | .normal,a,w=>K a w
 | _,_,_=>False
theorem region_calm {P:Program} {ops:Array Oper} {Q:Exit->Act->World->Prop} {S:World->Prop} {id:Nat} {a:Act} {w:World} (N:Nat) (L:Array Bool) (hN:ops.size=N) (hL:Array.replicate N false=L) (hm:P.follows .mixedOrders=true)
  (h:wpAnyH P .any ops (calmPost (Q .normal)) S N L a w.drew):(Code.region id ops true).wp P Q a w:=by
 refine Code.wp_mono (Q:=calmPost (Q .normal)) (fun e a w hq=>?_) (wp_region_held (S:=S) hm ?_)
 ·cases e <;> first|exact hq|exact hq.elim
 ·rw [hN,hL];exact h
section
variable {P:Program} {ops:Array Oper} {Q:Exit->Act->World->Prop} {S:World->Prop}
theorem wpOp_value {i:Nat} {o:Oper} {v:Value} {K:Act->World->Prop} {a:Act} {w w':World} (ho:ops[i]?=some o) (hw:Region.wanted o (yielded ops a.tmps)=true) (hr:(execOp a.eval o).run P w=.ok (.value v) w') (h:K (a.put o.dst v) w'):wpOp P ops Q i K a w:=by
 unfold wpOp
 simp only [ho,hw,if_true]
 left
 unfold Oper.wp
 rw [hr]
 exact h
theorem put_at {a:Act} {d:Option Nat} {k:Nat} (h:d=some k) (v:Value):a.put d v={ tmps:=a.tmps.setIfInBounds k v,defers:=a.defers }:=by unfold Act.put;rw [h]
theorem wpOp_skip {i:Nat} {o:Oper} {K:Act->World->Prop} {a:Act} {w w':World} (ho:ops[i]?=some o) (hw:Region.wanted o (yielded ops a.tmps)=true) (hr:(execOp a.eval o).run P w=.ok .skip w') (h:K (a.put o.dst undef) w'):wpOp P ops Q i K a w:=by
 unfold wpOp
 simp only [ho,hw,if_true]
 left
 unfold Oper.wp
 rw [hr]
 exact h
theorem store_at {i:Nat} {o:Oper} {fuel:Nat} {listed:Array Bool} (L:Array Bool) {a:Act} {w w':World} (hr:Region.ready .any ops listed=[i]) (ho:ops[i]?=some o) (hd:o.dst=none) (hL:listed.setIfInBounds i true=L)
  (hw:Region.wanted o (yielded ops a.tmps)=true) (hrun:(execOp a.eval o).run P w=.ok .skip w') (hS:S w') (h:wpAnyH P .any ops Q S fuel L a w'):wpAnyH P .any ops Q S (fuel+1) listed a w:=by
 refine wpAnyH_all hr (by simp) ?_
 intro j hj
 obtain rfl:j=i:=by simpa using hj
 refine wpOp_skip ho hw hrun ⟨hS,?_⟩
 rw [hL]
 have:a.put o.dst undef=a:=by unfold Act.put;rw [hd]
 rw [this]
 exact h
end
section
variable {P:Program} {ops:Array Oper} {Q:Exit->Act->World->Prop} {md:Region.Mode}
theorem val_at {S:World->Prop} {i d:Nat} {o:Oper} {v:Value} {fuel:Nat} {listed:Array Bool} (L:Array Bool) {a:Act} {w w':World} (hr:Region.ready md ops listed=[i]) (ho:ops[i]?=some o) (hd:o.dst=some d) (hL:listed.setIfInBounds i true=L)
  (hw:Region.wanted o (yielded ops a.tmps)=true) (hrun:(execOp a.eval o).run P w=.ok (.value v) w') (hS:S w')
  (h:wpAnyH P md ops Q S fuel L { tmps:=a.tmps.setIfInBounds d v,defers:=a.defers } w'):wpAnyH P md ops Q S (fuel+1) listed a w:=by
 refine wpAnyH_all hr (by simp) ?_
 intro j hj
 obtain rfl:j=i:=by simpa using hj
 refine wpOp_value ho hw hrun ⟨hS,?_⟩
 rw [hL,put_at hd]
 exact h
end
section
variable {P:Program} {ops:Array Oper} {Q:Exit->Act->World->Prop} {md:Region.Mode}
theorem pair_at {S:World->Prop} {i j di dj:Nat} {oi oj:Oper} {vi vj:Value} {fuel:Nat} {listed:Array Bool} (Li Lj Lf:Array Bool) {T Ti Tj Tf:Array Value} {ds:List Deferred} {w w':World}
  (hTi:T.setIfInBounds di vi=Ti) (hTj:T.setIfInBounds dj vj=Tj) (hTf:Ti.setIfInBounds dj vj=Tf) (hTf':Tj.setIfInBounds di vi=Tf)
  (hr:Region.ready md ops listed=[i,j]) (hri:Region.ready md ops Li=[j]) (hrj:Region.ready md ops Lj=[i]) (hoi:ops[i]?=some oi) (hoj:ops[j]?=some oj) (hdi:oi.dst=some di) (hdj:oj.dst=some dj)
  (hLi:listed.setIfInBounds i true=Li) (hLj:listed.setIfInBounds j true=Lj) (hLf:Li.setIfInBounds j true=Lf) (hLf':Lj.setIfInBounds i true=Lf)
  (hwi:Region.wanted oi (yielded ops T)=true) (hwj:Region.wanted oj (yielded ops Ti)=true) (hwj':Region.wanted oj (yielded ops T)=true) (hwi':Region.wanted oi (yielded ops Tj)=true)
  (g1:(execOp (Act.eval { tmps:=T,defers:=ds }) oi).run P w=.ok (.value vi) w) (g2:(execOp (Act.eval { tmps:=Ti,defers:=ds }) oj).run P w=.ok (.value vj) w')
  (g3:(execOp (Act.eval { tmps:=T,defers:=ds }) oj).run P w=.ok (.value vj) w') (g4:(execOp (Act.eval { tmps:=Tj,defers:=ds }) oi).run P w'=.ok (.value vi) w')
  (hS:S w) (hS':S w') (h:wpAnyH P md ops Q S fuel Lf { tmps:=Tf,defers:=ds } w'):wpAnyH P md ops Q S (fuel+2) listed { tmps:=T,defers:=ds } w:=by
 refine wpAnyH_all hr (by simp) ?_
 intro k hk
 rcases (by simpa using hk:k=i \/ k=j) with rfl|rfl
 ·refine wpOp_value hoi hwi g1 ⟨hS,?_⟩
  rw [hLi,put_at hdi]
  dsimp only
  rw [hTi]
  refine wpAnyH_all hri (by simp) ?_
  intro k hk
  obtain rfl:k=j:=by simpa using hk
  refine wpOp_value hoj hwj g2 ⟨hS',?_⟩
  rw [hLf,put_at hdj]
  dsimp only
  rw [hTf]
  exact h
 ·refine wpOp_value hoj hwj' g3 ⟨hS',?_⟩
  rw [hLj,put_at hdj]
  dsimp only
  rw [hTj]
  refine wpAnyH_all hrj (by simp) ?_
  intro k hk
  obtain rfl:k=i:=by simpa using hk
  refine wpOp_value hoi hwi' g4 ⟨hS',?_⟩
  rw [hLf',put_at hdi]
  dsimp only
  rw [hTf']
  exact h
end
theorem three_set (wr:World) (G:Nat) (u0 u1 u2:Value) {x0 x1 x2:Value} (a0:wr.cell? ⟨G,0,none⟩=some x0) (a1:wr.cell? ⟨G,1,none⟩=some x1) (a2:wr.cell? ⟨G,2,none⟩=some x2) (X:World)
  (hX:X=((wr.setCell ⟨G,0,none⟩ u0).setCell ⟨G,1,none⟩ u1).setCell ⟨G,2,none⟩ u2) :
  X.cell? ⟨G,0,none⟩=some u0/\X.cell? ⟨G,1,none⟩=some u1/\X.cell? ⟨G,2,none⟩=some u2/\Frm (fun k=>k=G) wr X:=by
 obtain ⟨w1,h1⟩:∃ w1,w1=wr.setCell ⟨G,0,none⟩ u0:=⟨_,rfl⟩
 obtain ⟨w2,h2⟩:∃ w2,w2=w1.setCell ⟨G,1,none⟩ u1:=⟨_,rfl⟩
 rw [<- h1,<- h2] at hX
 have c10:w1.cell? ⟨G,0,none⟩=some u0:=by rw [h1];exact World.cell?_setCell_same _ _ _ a0
 have c11:w1.cell? ⟨G,1,none⟩=some x1:=by rw [h1];exact cell_off a1 (.inr (by decide))
 have c12:w1.cell? ⟨G,2,none⟩=some x2:=by rw [h1];exact cell_off a2 (.inr (by decide))
 have c20:w2.cell? ⟨G,0,none⟩=some u0:=by rw [h2];exact cell_off c10 (.inr (by decide))
 have c21:w2.cell? ⟨G,1,none⟩=some u1:=by rw [h2];exact World.cell?_setCell_same _ _ _ c11
 have c22:w2.cell? ⟨G,2,none⟩=some x2:=by rw [h2];exact cell_off c12 (.inr (by decide))
 have f1:Frm (fun k=>k=G) wr w1:=by rw [h1];exact Frm.setCell (p:=⟨G,0,none⟩) (Frm.refl (fun k=>k=G) wr) (.inl rfl) _
 have f2:Frm (fun k=>k=G) wr w2:=by rw [h2];exact Frm.setCell (p:=⟨G,1,none⟩) f1 (.inl rfl) _
 rw [hX]
 exact ⟨cell_off c20 (.inr (by decide)),cell_off c21 (.inr (by decide)),World.cell?_setCell_same _ _ _ c22,Frm.setCell (p:=⟨G,2,none⟩) f2 (.inl rfl) _⟩
theorem heap_lt0 {w:World} {k:Nat} {o:Obj} (h:w.heap[k]?=some o):k<w.heap.size:=by
 rcases Nat.lt_or_ge k w.heap.size with h'|h'
 ·exact h'
 ·rw [Array.getElem?_eq_none h'] at h;cases h
end
section
open Go.RowKit
theorem infoRB:(Tryz.prog.info? 84).map (fun i=>(i.zero,i.size,i.bytes))=some (some (.agg #[.int .i64 0,.slice none 0 0,.slice none 0 0,.slice none 0 0,.slice none 0 0]),5,104):=by kernel_rfl
theorem makePxBig (n:Nat) (hn:n<=2000000000) (w:World):Sem.run Tryz.prog (Instr.makeSlice 58 (.int .i64 n) (.int .i64 n)) w=.ok (.slice (some ⟨w.heap.size,0,none⟩) n n) (w.alloc (.cells (madeCells #[.int .u8 0,.int .u8 0,.int .u8 0] (n*3)) 50)):=by
 obtain ⟨i0,hi,h0,h1,h2⟩:=info_parts infoPx
 have:=run_make (P:=Tryz.prog) w 58 50 i0 _ Tryz.underlying58 hi h0 .i64 .i64 n n (by omega) (Int.le_refl _) (by rw [h2];omega) (by omega)
 rw [h1] at this
 simpa [Value.cells] using this
theorem MarkedG.from {E:TypeId} {bz i:Nat} {ms us:List Value} {w w1 w':World} {B p M:Nat} {vs:List Value} {vi vl:Value} {ik n:Nat} {rows:List Value} (h:MarkedG E bz i ms us w1 w' B p M vs vi vl ik n rows) (f:Frm (markS p vl vi) w w1):MarkedG E bz i ms us w w' B p M vs vi vl ik n rows:=by
 obtain ⟨gi,ci,g1,e1,g2,e2,g3,e3,hbk,hoi,fl,f1,f2,f3,ai,a1,a2,a3,i1,hgp,hlg,hfr⟩:=h
 have hz:=f.size
 exact ⟨gi,ci,g1,e1,g2,e2,g3,e3,hbk,hoi,fl,f1,f2,f3,ai.imp id (by omega),a1.imp id (by omega),a2.imp id (by omega),a3.imp id (by omega),i1,hgp,hlg,f.trans hfr⟩
theorem MarkedG.frame {E:TypeId} {bz i:Nat} {ms us:List Value} {w w':World} {B p M:Nat} {vs:List Value} {vi vl:Value} {ik n:Nat} {rows:List Value} (h:MarkedG E bz i ms us w w' B p M vs vi vl ik n rows):Frm (markS p vl vi) w w':=by
 obtain ⟨gi,ci,g1,e1,g2,e2,g3,e3,hbk,hoi,fl,f1,f2,f3,ai,a1,a2,a3,i1,hgp,hlg,hfr⟩:=h
 exact hfr
set_option maxRecDepth 20000 in
theorem markRows_any (w:World) (B p M:Nat) (vs:List Value) (ia:Option Addr) (ik ic:Nat) (rows:List Value) (la:Option Addr) (n lc:Nat) (xs:List Value)
  (hbk:BookAt w p M vs) (hv0:vs[3]?=some (.slice ia ik ic)) (hri:w.ownsRow B 84 5 (.slice ia ik ic) ik rows) (hrl:w.ownsRow B 58 1 (.slice la n lc) n xs)
  (hBz:B<=w.heap.size) (n1:(Value.slice ia ik ic).ownBlock ≠ some p) (n2:(Value.slice la n lc).ownBlock ≠ some p) (n3:∀ k,(Value.slice la n lc).ownBlock=some k->(Value.slice ia ik ic).ownBlock ≠ some k)
  (hM:M<=1000000000) (hn:n<=1000000000) (hik:ik<=1000000000) :
  Calls Tryz.prog 34 #[.pointer (some ⟨p,0,none⟩),.slice la n lc] w fun x w'=>x=.returned (.tuple #[])/\∃ mb,MarkedG 84 5 3 [.int .i64 ((M+1:Nat):Int)] [.slice (some ⟨mb,0,none⟩) (M+1) (M+1)] w w' B p M vs (.slice ia ik ic) (.slice la n lc) ik n rows/\mb=w.heap.size/\w'.heap[mb]?=some (.cells (madeCells #[.int .u8 0,.int .u8 0,.int .u8 0] ((M+1)*3)) 50 (0,0)):=by
 have i0:=hbk.c0
 have f0:=hbk.fz 0
 have hlen:xs.length=n:=by have:=hrl.1;omega
 obtain ⟨j0,hi,hz0,hz1,hz2⟩:=info_parts infoRow
 obtain ⟨k0,hi',hy0,hy1,hy2⟩:=info_parts infoRB
 obtain ⟨mb,hmb⟩:∃ mb,mb=w.heap.size:=⟨_,rfl⟩
 obtain ⟨W1,hW1⟩:∃ W1,W1=(w.setCell ⟨p,0,none⟩ (.int .i64 ((M:Int)+1))).alloc (.cells (madeCells #[.int .u8 0,.int .u8 0,.int .u8 0] ((M+1)*3)) 50):=⟨_,rfl⟩
 have H1:Hid (MKg 58 1 84 5 W1 W1 B p (M+1) vs (.slice ia ik ic) (.slice la n lc) ik n rows xs):=by
  unfold Hid
  rw [hW1]
  have k:=MKg.alloc (e:=58) (sz:=1) (E:=84) (bz:=5) (w:=w) ⟨hbk.put0 (M+1),hri.kept (grown_setCell w p 0 _) (.inr n1),hrl.kept (grown_setCell w p 0 _) (.inr n2),(Frm.refl (markS p (.slice la n lc) (.slice ia ik ic)) w).setCell (.inl (.inl rfl)) _⟩ (.cells (madeCells #[.int .u8 0,.int .u8 0,.int .u8 0] ((M+1)*3)) 50)
  exact ⟨k.bk,k.ri,k.rl,Frm.refl _ _⟩
 have HW1:Hid (W1=(w.setCell ⟨p,0,none⟩ (.int .i64 ((M:Int)+1))).alloc (.cells (madeCells #[.int .u8 0,.int .u8 0,.int .u8 0] ((M+1)*3)) 50)):=hW1
 have HMB:Hid (mb=w.heap.size):=hmb
 have hmk:=makePxBig (M+1) (by omega)
 rw [show (((M+1:Nat)):Int)=(M:Int)+1 by omega] at hmk
 have hz1:W1.heap.size=w.heap.size+1:=by rw [hW1];simp
 have hlb:Hid (∀ k,(Value.slice la n lc).ownBlock=some k->k<W1.heap.size):=fun k hk=>by have:=(World.ownsRow.lt hrl k hk).2;omega
 have hib:Hid (∀ k,(Value.slice ia ik ic).ownBlock=some k->k<W1.heap.size):=fun k hk=>by have:=(World.ownsRow.lt hri k hk).2;omega
 have hpw:p<W1.heap.size:=by have:=hbk.up;omega
 have hBz1:B<=W1.heap.size:=by omega
 have F1:Hid (Frm (markS p (.slice la n lc) (.slice ia ik ic)) w W1):=by
  unfold Hid
  rw [hW1]
  exact ((Frm.refl (markS p (.slice la n lc) (.slice ia ik ic)) w).setCell (.inl (.inl rfl)) _).alloc _
 have Z1:Hid (mb<W1.heap.size/\¬ markS p (.slice la n lc) (.slice ia ik ic) mb/\W1.heap[mb]?=some (.cells (madeCells #[.int .u8 0,.int .u8 0,.int .u8 0] ((M+1)*3)) 50 (0,0))):=by
  refine ⟨by omega,fun h=>?_,?_⟩
  ·have h':mb=p \/ (Value.slice la n lc).ownBlock=some mb \/ (Value.slice ia ik ic).ownBlock=some mb:=h
   have:=hbk.up
   rcases h' with h|h|h
   ·omega
   ·have:=(World.ownsRow.lt hrl mb h).2;omega
   ·have:=(World.ownsRow.lt hri mb h).2;omega
  ·rw [hW1,hmb]
   have k:=heap_alloc_last (w.setCell ⟨p,0,none⟩ (.int .i64 ((M:Int)+1))) (.cells (madeCells #[.int .u8 0,.int .u8 0,.int .u8 0] ((M+1)*3)) 50)
   rw [show (w.setCell ⟨p,0,none⟩ (.int .i64 ((M:Int)+1))).heap.size=w.heap.size by simp] at k
   exact k
 have N1:Hid ((Value.slice ia ik ic).ownBlock ≠ some p):=n1
 have N2:Hid ((Value.slice la n lc).ownBlock ≠ some p):=n2
 have N3:Hid (∀ k,(Value.slice la n lc).ownBlock=some k->(Value.slice ia ik ic).ownBlock ≠ some k):=n3
 clear hbk hri hrl n1 n2 n3 hW1 hmb hz1
 go_enter Tryz.func34,Tryz.ntmps34
 go_wp2_with (rw [<- HW1.out,<- HMB.out])
 try rw [<- HW1.out,<- HMB.out]
 clear i0 f0 hmk
 go_loopw [5] (fun i wr=>∃ j:Nat,j<=n/\i=.int .i64 j/\MKg 58 1 84 5 W1 wr B p (M+1) vs (.slice ia ik ic) (.slice la n lc) ik n rows (markRowG xs [.slice (some ⟨mb,0,none⟩) (M+1) (M+1)] j)) (fun i _=>n-(intOf i).toNat)
 case atStart=>exact ⟨0,by omega,rfl,by rw [markRowG_zero];exact H1.out⟩
 case round =>
  obtain ⟨j,hj,rfl,hk⟩:=hrel
  by_cases hlt:j<n
  ·have hlt':(j:Int)<(n:Int):=by omega
   obtain ⟨g,cap,hform,hbg,hgw⟩:=World.ownsRow.form hk.rl (by omega)
   have hla:la=some ⟨g,0,none⟩:=by simp only [Value.slice.injEq] at hform;exact hform.1
   subst hla
   obtain ⟨c,hc⟩:∃ c,wr.cell? ⟨g,j,none⟩=some c:=by
    have h1:=World.ownsRow.cellAt hk.rl j (by omega)
    have hl:=hk.rl.1
    rw [List.getElem?_eq_getElem (by omega)] at h1
    exact ⟨_,h1⟩
   have hf:=World.ownsRow.frozenAt hk.rl j
   have HN:Hid (MKg 58 1 84 5 W1 (wr.setCell ⟨g,j,none⟩ (.slice (some ⟨mb,0,none⟩) (M+1) (M+1))) B p (M+1) vs (.slice ia ik ic) (.slice (some ⟨g,0,none⟩) n lc) ik n rows (markRowG xs [.slice (some ⟨mb,0,none⟩) (M+1) (M+1)] (j+1))):=by
    refine ⟨hk.bk.of_block (Below.heap_setCell wr ⟨g,j,none⟩ _ p (fun e=>N2.out (by rw [e];rfl))) (by simp),hk.ri.kept (grown_setCell wr g j _) (.inr (N3.out g rfl)),?_,Frm.setCell (p:=⟨g,j,none⟩) hk.fr (.inl (.inr (.inl rfl))) _⟩
    have:=(World.ownsRow.stored hk.rl j (.slice (some ⟨mb,0,none⟩) (M+1) (M+1))).1
    rw [markRowG_set1 xs _ j (by omega)] at this
    exact this
   have HK:Hid (MKg 58 1 84 5 W1 wr B p (M+1) vs (.slice ia ik ic) (.slice (some ⟨g,0,none⟩) n lc) ik n rows (markRowG xs [.slice (some ⟨mb,0,none⟩) (M+1) (M+1)] j)):=hk
   clear hk hform
   go_wp2
   go_roundw
   case rel=>exact ⟨j+1,by omega,by go_num,HN.out⟩
   case measure=>simp [intOf];omega
  ·have hlt':¬ (j:Int)<(n:Int):=by omega
   have hje:j=n:=by omega
   have hk2:MKg 58 1 84 5 W1 wr B p (M+1) vs (.slice ia ik ic) (.slice la n lc) ik n rows (reps n [.slice (some ⟨mb,0,none⟩) (M+1) (M+1)]):=by
    rw [hje,markRowG_full xs [.slice (some ⟨mb,0,none⟩) (M+1) (M+1)] n (by simpa using hlen)] at hk;exact hk
   have HK:Hid (MKg 58 1 84 5 W1 wr B p (M+1) vs (.slice ia ik ic) (.slice la n lc) ik n rows (reps n [.slice (some ⟨mb,0,none⟩) (M+1) (M+1)])):=hk2
   clear hk hk2 hje H1
   have hwz:=HK.out.fr.size
   have ip:wr.cell? ⟨p,0,none⟩=some (.int .i64 ((M:Int)+1)):=by have:=HK.out.bk.c0;rw [show (((M+1:Nat)):Int)=(M:Int)+1 by omega] at this;exact this
   go_wp2_with (at_builtin;refine wpList_append_keep _ rfl (.tmp 35) (.tmp 37) 25 rfl B 58 j0 (.slice none 0 0) 1 24 Tryz.underlying25 hi hz0 hz1 hz2 rfl (by decide) _ n (reps n [.slice (some ⟨mb,0,none⟩) (M+1) (M+1)]) rfl ?c0 ⟨wr.heap.size+1,0,none⟩ 1 1 [.slice (some ⟨mb,0,none⟩) (M+1) (M+1)] rfl rfl ?c1 ?c2 ?c3 ?c4 ?c5 (by decide) ?_)
   case c0=>exact (HK.out.alloc _).rl.alloc _
   case c2=>rfl
   case c3=>unfold maxLen;omega
   case c4=>omega
   case c5=>omega
   intro g1 e1 w1 hg1 hl1 hgr1 hlie1
   clear ip
   obtain ⟨bb,hbb⟩:∃ bb,bb=wr.heap.size:=⟨_,rfl⟩
   have HX1:Hid (MKg 58 1 84 5 W1 w1 B p (M+1) vs (.slice ia ik ic) (.slice la n lc) ik n rows (reps n [.slice (some ⟨mb,0,none⟩) (M+1) (M+1)])):=(((HK.out.alloc _).alloc _).app hgr1 hl1 N2.out N3.out)
   have hlbb:(Value.slice la n lc).ownBlock ≠ some bb:=fun e=>by have:=hlb.out bb e;omega
   have hibb:(Value.slice ia ik ic).ownBlock ≠ some bb:=fun e=>by have:=hib.out bb e;omega
   have HB1:Blk w1 bb [.int .i64 ((M:Int)+1),.slice la n lc,.slice none 0 0,.slice none 0 0,.slice none 0 0] 84:=by
    rw [hbb] at hlbb ⊢;exact ((Blk.new wr [.int .i64 ((M:Int)+1),.slice la n lc,.slice none 0 0,.slice none 0 0,.slice none 0 0] 84).alloc _).grown hgr1 hlbb
   have hgb1:g1 ≠ bb:=by
    rcases hlie1 with h|h
    ·intro e;exact hlbb (by rw [h,e])
    ·have:=h.1;omega
   have hsz1:bb+2<=w1.heap.size:=by have:=hgr1.size;simp at this;omega
   have hgz1:g1<w1.heap.size:=(World.ownsRow.lt hg1 g1 rfl).2
   have HF1:Fill w1 (.slice (some ⟨g1,0,none⟩) (n+1) e1) (n+1) [.slice (some ⟨mb,0,none⟩) (M+1) (M+1)]:=by
    have h1:reps n [.slice (some ⟨mb,0,none⟩) (M+1) (M+1)]++[.slice (some ⟨mb,0,none⟩) (M+1) (M+1)]=reps (n+1) [.slice (some ⟨mb,0,none⟩) (M+1) (M+1)]:=by rw [<- reps_app n 1,reps_one]
    rw [h1] at hg1
    exact Fill.of_reps hg1
   have hbw:W1.heap.size<=bb:=by omega
   have hbp:bb ≠ p:=by omega
   have q2:=HB1.cell 2 _ rfl
   have r2:=HB1.frozen 2
   have HL1:Hid ((Value.slice la n lc).ownBlock=some g1 \/ bb+2<=g1):=by
    rcases hlie1 with h|h
    ·exact .inl h
    ·have:=h.1;exact .inr (by omega)
   have HB1':Hid (Blk w1 bb [.int .i64 ((M:Int)+1),.slice la n lc,.slice none 0 0,.slice none 0 0,.slice none 0 0] 84):=HB1
   have HF1':Hid (Fill w1 (.slice (some ⟨g1,0,none⟩) (n+1) e1) (n+1) [.slice (some ⟨mb,0,none⟩) (M+1) (M+1)]):=HF1
   have LB:Hid ((Value.slice la n lc).ownBlock ≠ some bb):=hlbb
   have IBB:Hid ((Value.slice ia ik ic).ownBlock ≠ some bb):=hibb
   rw [<- hbb]
   clear hg1 hl1 hgr1 hlie1 HB1 HF1 hlbb hibb HK hbb
   go_wp2_with (at_builtin;refine wpList_append_keep _ rfl (.tmp 40) (.tmp 43) 25 rfl B 58 j0 (.slice none 0 0) 1 24 Tryz.underlying25 hi hz0 hz1 hz2 rfl (by decide) _ n (reps n [.slice (some ⟨mb,0,none⟩) (M+1) (M+1)]) rfl ?d0 ⟨w1.heap.size,0,none⟩ 2 2 [.slice (some ⟨mb,0,none⟩) (M+1) (M+1),.slice (some ⟨mb,0,none⟩) (M+1) (M+1)] rfl rfl ?d1 ?d2 ?d3 ?d4 ?d5 (by decide) ?_)
   case d0=>exact ((HX1.out.setNew bb 2 _ hbp IBB.out LB.out hbw).alloc _).rl
   case d1=>exact news_new _ [.slice (some ⟨mb,0,none⟩) (M+1) (M+1),.slice (some ⟨mb,0,none⟩) (M+1) (M+1)] 58 _ (by simp)
   case d2=>intro u hu;simp at hu;subst hu;rfl
   case d3=>unfold maxLen;omega
   case d4=>omega
   case d5=>simp;omega
   intro g2 e2 w2 hg2 hl2 hgr2 hlie2
   have hg2':w2.ownsRow B 58 1 (.slice (some ⟨g2,0,none⟩) (n+2) e2) (n+2) (reps (n+2) [.slice (some ⟨mb,0,none⟩) (M+1) (M+1)]):=by
    rw [<- reps_app n 2];exact hg2
   have hgb2:g2 ≠ bb:=by
    rcases hlie2 with h|h
    ·intro e;exact LB.out (by rw [h,e])
    ·have:=h.1;omega
   have hsz2:bb+2<=w2.heap.size:=by have:=hgr2.size;simp at this;omega
   have hgz2:g2<w2.heap.size/\w1.heap.size<=w2.heap.size:=⟨(World.ownsRow.lt hg2 g2 rfl).2,by have:=hgr2.size;simp at this;omega⟩
   have HX2:Hid (MKg 58 1 84 5 W1 w2 B p (M+1) vs (.slice ia ik ic) (.slice la n lc) ik n rows (reps n [.slice (some ⟨mb,0,none⟩) (M+1) (M+1)])):=(((HX1.out.setNew bb 2 _ hbp IBB.out LB.out hbw).alloc _).app hgr2 hl2 N2.out N3.out)
   have HB2:Blk w2 bb [.int .i64 ((M:Int)+1),.slice la n lc,.slice (some ⟨g1,0,none⟩) (n+1) e1,.slice none 0 0,.slice none 0 0] 84:=((HB1'.out.set 2 (.slice (some ⟨g1,0,none⟩) (n+1) e1)).alloc _).grown hgr2 LB.out
   have HF12:Hid (Fill w2 (.slice (some ⟨g1,0,none⟩) (n+1) e1) (n+1) [.slice (some ⟨mb,0,none⟩) (M+1) (M+1)]):=fill_appG (fill_alloc (fill_setOther HF1'.out (fun e=>hgb1 e.symm)) _) hgr2 (by rcases hlie2 with h|h;exact .inl h;exact .inr h.2) hg2' (by omega)
   have HF2':Hid (Fill w2 (.slice (some ⟨g2,0,none⟩) (n+2) e2) (n+2) [.slice (some ⟨mb,0,none⟩) (M+1) (M+1)]):=Fill.of_reps hg2'
   have HL2:Hid ((Value.slice la n lc).ownBlock=some g2 \/ bb+2<=g2):=by
    rcases hlie2 with h|h
    ·exact .inl h
    ·have:=h.1;exact .inr (by omega)
   have q3:=HB2.cell 3 _ rfl
   have r3:=HB2.frozen 3
   have HB2':Hid (Blk w2 bb [.int .i64 ((M:Int)+1),.slice la n lc,.slice (some ⟨g1,0,none⟩) (n+1) e1,.slice none 0 0,.slice none 0 0] 84):=HB2
   clear hg2 hg2' hl2 hgr2 hlie2 HB2 q2 r2
   go_wp2_with (at_builtin;refine wpList_append_keep _ rfl (.tmp 46) (.tmp 50) 25 rfl B 58 j0 (.slice none 0 0) 1 24 Tryz.underlying25 hi hz0 hz1 hz2 rfl (by decide) _ n (reps n [.slice (some ⟨mb,0,none⟩) (M+1) (M+1)]) rfl ?f0 ⟨w2.heap.size,0,none⟩ 3 3 [.slice (some ⟨mb,0,none⟩) (M+1) (M+1),.slice (some ⟨mb,0,none⟩) (M+1) (M+1),.slice (some ⟨mb,0,none⟩) (M+1) (M+1)] rfl rfl ?f1 ?f2 ?f3 ?f4 ?f5 (by decide) ?_)
   case f0=>exact ((HX2.out.setNew bb 3 _ hbp IBB.out LB.out hbw).alloc _).rl
   case f1=>exact news_new _ [.slice (some ⟨mb,0,none⟩) (M+1) (M+1),.slice (some ⟨mb,0,none⟩) (M+1) (M+1),.slice (some ⟨mb,0,none⟩) (M+1) (M+1)] 58 _ (by simp)
   case f2=>intro u hu;simp at hu;subst hu;rfl
   case f3=>unfold maxLen;omega
   case f4=>omega
   case f5=>simp;omega
   intro g3 e3 w3 hg3 hl3 hgr3 hlie3
   have hg3':w3.ownsRow B 58 1 (.slice (some ⟨g3,0,none⟩) (n+3) e3) (n+3) (reps (n+3) [.slice (some ⟨mb,0,none⟩) (M+1) (M+1)]):=by
    rw [<- reps_app n 3];exact hg3
   have hgb3:g3 ≠ bb:=by
    rcases hlie3 with h|h
    ·intro e;exact LB.out (by rw [h,e])
    ·have:=h.1;omega
   have hsz3:bb+2<=w3.heap.size:=by have:=hgr3.size;simp at this;omega
   have hgz3:g3<w3.heap.size/\w2.heap.size<=w3.heap.size:=⟨(World.ownsRow.lt hg3 g3 rfl).2,by have:=hgr3.size;simp at this;omega⟩
   have HX3:Hid (MKg 58 1 84 5 W1 w3 B p (M+1) vs (.slice ia ik ic) (.slice la n lc) ik n rows (reps n [.slice (some ⟨mb,0,none⟩) (M+1) (M+1)])):=(((HX2.out.setNew bb 3 _ hbp IBB.out LB.out hbw).alloc _).app hgr3 hl3 N2.out N3.out)
   have HB3:Blk w3 bb [.int .i64 ((M:Int)+1),.slice la n lc,.slice (some ⟨g1,0,none⟩) (n+1) e1,.slice (some ⟨g2,0,none⟩) (n+2) e2,.slice none 0 0] 84:=((HB2'.out.set 3 (.slice (some ⟨g2,0,none⟩) (n+2) e2)).alloc _).grown hgr3 LB.out
   have HF13:Hid (Fill w3 (.slice (some ⟨g1,0,none⟩) (n+1) e1) (n+1) [.slice (some ⟨mb,0,none⟩) (M+1) (M+1)]):=fill_appG (fill_alloc (fill_setOther HF12.out (fun e=>hgb1 e.symm)) _) hgr3 (by rcases hlie3 with h|h;exact .inl h;exact .inr h.2) hg3' (by omega)
   have HF23:Hid (Fill w3 (.slice (some ⟨g2,0,none⟩) (n+2) e2) (n+2) [.slice (some ⟨mb,0,none⟩) (M+1) (M+1)]):=fill_appG (fill_alloc (fill_setOther HF2'.out (fun e=>hgb2 e.symm)) _) hgr3 (by rcases hlie3 with h|h;exact .inl h;exact .inr h.2) hg3' (by omega)
   have HF3':Hid (Fill w3 (.slice (some ⟨g3,0,none⟩) (n+3) e3) (n+3) [.slice (some ⟨mb,0,none⟩) (M+1) (M+1)]):=Fill.of_reps hg3'
   have HL3:Hid ((Value.slice la n lc).ownBlock=some g3 \/ bb+2<=g3):=by
    rcases hlie3 with h|h
    ·exact .inl h
    ·have:=h.1;exact .inr (by omega)
   have q4:=HB3.cell 4 _ rfl
   have r4:=HB3.frozen 4
   have HB3':Hid (Blk w3 bb [.int .i64 ((M:Int)+1),.slice la n lc,.slice (some ⟨g1,0,none⟩) (n+1) e1,.slice (some ⟨g2,0,none⟩) (n+2) e2,.slice none 0 0] 84):=HB3
   clear hg3 hg3' hl3 hgr3 hlie3 HB3 q3 r3
   go_wp2_with fail
   obtain ⟨w4,hw4⟩:∃ w4,w4=w3.setCell ⟨bb,4,none⟩ (.slice (some ⟨g3,0,none⟩) (n+3) e3):=⟨_,rfl⟩
   have HX4:Hid (MKg 58 1 84 5 W1 w4 B p (M+1) vs (.slice ia ik ic) (.slice la n lc) ik n rows (reps n [.slice (some ⟨mb,0,none⟩) (M+1) (M+1)])):=by rw [hw4];exact HX3.out.setNew bb 4 _ hbp IBB.out LB.out hbw
   have HB4:Blk w4 bb [.int .i64 ((M:Int)+1),.slice la n lc,.slice (some ⟨g1,0,none⟩) (n+1) e1,.slice (some ⟨g2,0,none⟩) (n+2) e2,.slice (some ⟨g3,0,none⟩) (n+3) e3] 84:=by rw [hw4];exact HB3'.out.set 4 (.slice (some ⟨g3,0,none⟩) (n+3) e3)
   have HF14:Hid (Fill w4 (.slice (some ⟨g1,0,none⟩) (n+1) e1) (n+1) [.slice (some ⟨mb,0,none⟩) (M+1) (M+1)]):=by rw [hw4];exact fill_setOther HF13.out (fun e=>hgb1 e.symm)
   have HF24:Hid (Fill w4 (.slice (some ⟨g2,0,none⟩) (n+2) e2) (n+2) [.slice (some ⟨mb,0,none⟩) (M+1) (M+1)]):=by rw [hw4];exact fill_setOther HF23.out (fun e=>hgb2 e.symm)
   have HF34:Hid (Fill w4 (.slice (some ⟨g3,0,none⟩) (n+3) e3) (n+3) [.slice (some ⟨mb,0,none⟩) (M+1) (M+1)]):=by rw [hw4];exact fill_setOther HF3'.out (fun e=>hgb3 e.symm)
   have HZ1:Hid (g1<w4.heap.size):=by have:=hgz1;have:=hgz2;have:=hgz3;show g1<w4.heap.size;rw [hw4];simp;omega
   have HZ2:Hid (g2<w4.heap.size):=by have:=hgz2;have:=hgz3;show g2<w4.heap.size;rw [hw4];simp;omega
   have HZ3:Hid (g3<w4.heap.size):=by have:=hgz3;show g3<w4.heap.size;rw [hw4];simp;omega
   have hsz4:bb+2<=w4.heap.size:=by rw [hw4];simp;exact hsz3
   rw [<- hw4]
   clear hw4 q4 r4 HX1 HX2 HX3 HB1' HB2' HB3' HF1' HF12 HF13 HF2' HF23 HF3'
   have s0:=HB4.cell 0 _ rfl
   have s1:=HB4.cell 1 _ rfl
   have s2:=HB4.cell 2 _ rfl
   have s3:=HB4.cell 3 _ rfl
   have s4:=HB4.cell 4 _ rfl
   have sp:=HX4.out.bk.cs 3 _ hv0
   have sf:=HX4.out.bk.fz 4
   have hpz:=HX4.out.bk.up
   have hri4:=HX4.out.ri
   have hbb4:=HB4.lt
   go_region_law ((refine step_append_lies _ (by rfl) _ _ _ (by rfl) B 84 k0 _ 5 104 Tryz.underlying42 hi' hy0 hy1 hy2 rfl (by omega) (.slice ia ik ic) ik rows (by rfl) ((hri4.alloc _).drew) ⟨w4.heap.size,0,none⟩ 1 1 [.int .i64 ((M:Int)+1),.slice la n lc,.slice (some ⟨g1,0,none⟩) (n+1) e1,.slice (some ⟨g2,0,none⟩) (n+2) e2,.slice (some ⟨g3,0,none⟩) (n+3) e3] (by rfl) (by rfl) (World.news_of_block (cs:=#[.int .i64 ((M:Int)+1),.slice la n lc,.slice (some ⟨g1,0,none⟩) (n+1) e1,.slice (some ⟨g2,0,none⟩) (n+2) e2,.slice (some ⟨g3,0,none⟩) (n+3) e3]) (t:=84) (fr:=(0,0)) (heap_alloc_new w4 _)) (by simp [Value.oneCell']) (by omega) (by unfold maxLen;omega) (by omega) (by simp;omega) (w4.heap.size+1) (by simp) ?_;intro gg cap w5 hown5 hgrow hat hlt5;have sf5:w5.frozen? ⟨p,4,none⟩=false:=((hgrow.frozen_far ⟨p,4,none⟩ (by simp;omega) (Ne.symm N1.out)).trans (frozen_alloc_drew hpz)).trans sf;have sc5:w5.cell? ⟨p,4,none⟩=some (.slice ia ik ic):=((hgrow.cell_far ⟨p,4,none⟩ (by simp;omega) (Ne.symm N1.out)).trans (cell_alloc_drew hpz)).trans sp))
   all_goals
    go_end0
    have KM:=mark_doneG (i:=3) (ms:=[.int .i64 ((M+1:Nat):Int)]) (us:=[.slice (some ⟨mb,0,none⟩) (M+1) (M+1)]) (by decide) HX4.out HF14.out HF24.out HF34.out bb hbw HZ1.out HZ2.out HZ3.out HL1.out HL2.out HL3.out N1.out N2.out N3.out hlb.out hib.out hpw hown5 hgrow hat
    exact ⟨rfl,mb,KM.from F1.out,HMB.out,(KM.frame.block mb Z1.out.1 Z1.out.2.1).trans Z1.out.2.2⟩
end
end Go.Proofs.YtekfbphnoibnjaaGreatDoor
