/-
  Base PRound Frm PWalk Rdr Lists Pack Pack2 RefNum RefExp Math
-/
import Derived.Test.YtekfbphnoibnjaaGreatDoorRows
import Derived.WalkSpells
import Derived.WalkLawsBesides
import Derived.BigQuiet
import Derived.RangeFuncCalls
import Derived.RangeFuncFrom
import Derived.OrdersIn
import Derived.OrdersHeld
import Derived.Deep.CutBlock
import Derived.Deep.DeepCutAuto
set_option maxHeartbeats 4000000
namespace Go.Proofs.YtekfbphnoibnjaaGreatDoor
section
open Go.RowKit
def ch0:List Int:=List.replicate 400 2048
theorem ch0_get (k:Nat) (h:k<400):ch0.getD k 0=2048:=by
 unfold ch0
 rw [List.getD_eq_getElem?_getD,List.getElem?_replicate,if_pos h];rfl
theorem grown_setCell (w:World) (b o:Nat) (v:Value):w.grownBy (w.setCell ⟨b,o,none⟩ v) (some b) :=
 ⟨rfl,rfl,rfl,by simp,fun k _ hk=>Below.heap_setCell w ⟨b,o,none⟩ v k (fun e=>hk (by simp [e]))⟩
theorem cell_off {w:World} {b o b' o':Nat} {v u:Value} (h:w.cell? ⟨b,o,none⟩=some v) (hne:b' ≠ b \/ o' ≠ o):(w.setCell ⟨b',o',none⟩ u).cell? ⟨b,o,none⟩=some v:=by
 rw [World.cell?_setCell_other]
 ·exact h
 ·intro e
  simp only [Addr.mk.injEq,and_true] at e
  rcases hne with h|h
  ·exact h e.1
  ·exact h e.2
theorem sIb {α:Type} (l:List α) (i:Nat) (a:α):l.toArray.setIfInBounds i a=(l.set i a).toArray:=List.setIfInBounds_toArray ..
theorem sCs {α:Type} (b:α) (l:List α) (i:Nat) (a:α):(b :: l).set (i+1) a=b :: l.set i a:=rfl
theorem sCz {α:Type} (b:α) (l:List α) (a:α):(b :: l).set 0 a=a :: l:=rfl
end
section
open Go.RowKit
variable {P:Program} {ops:Array Oper} {Q:Exit->Act->World->Prop} {md:Region.Mode} {l n:Nat}
theorem wpOp_round (hd:∀ (i:Nat) (o:Oper),ops[i]?=some o->∀ c:Call,o.op ≠ Op.defer c) (hQ:¬ LetsOut Q) {i:Nat} {K K':Act->World->Prop} {a:Act} {w:World} (hK:∀ a w,K a w->K' a w) (h:wpOp P ops Q i K a w):wpOpIn (Fence.wide.inRound l) n P ops Q i K' a w:=by
 unfold wpOp at h
 unfold wpOpIn
 cases ho:ops[i]? with
 | none=>simp only [ho] at h ⊢;exact hK _ _ h
 | some o =>
  simp only [ho] at h ⊢
  by_cases hw:Region.wanted o (yielded ops a.tmps)=true
  ·rw [if_pos hw] at h ⊢
   have h:=h.resolve_right (fun e=>hQ e.2)
   refine ⟨fun _ _=>trivial,?_⟩
   show o.uponIn (Fence.wide.inRound l) n P a K' Q ((o.semAt (some l) a.eval).run P w)
   rw [Oper.semAt_some l _ _ (hd i o ho)]
   unfold Oper.wp at h
   generalize (execOp a.eval o).run P w=r at h ⊢
   cases r with
   | ok x w' =>
    cases x with
    | value v=>exact hK _ _ h
    | skip=>exact hK _ _ h
    | defer d=>exact hK _ _ h
    | enter f args =>
     refine ⟨fun e=>(by cases e),?_⟩
     refine (CallsIn.inRound l (callsIn_wide.2 h)).mono ?_
     intro e w'' he
     cases e <;> first|exact hK _ _ he|exact he
    | row row args =>
     refine ⟨fun e=>(by cases e),fun c cs _=>?_⟩
     obtain ⟨v,w'',r,st⟩:=h c cs
     exact ⟨v,w'',hK _ _ r,stepsIn_wide.2 st⟩
    | _=>exact h.elim
   | halt x w' =>
    cases x <;> first|exact h|exact h.elim
  ·rw [if_neg hw] at h ⊢
   exact ⟨fun _ _=>trivial,hK _ _ h⟩
theorem wpAny_round (hd:∀ (i:Nat) (o:Oper),ops[i]?=some o->∀ c:Call,o.op ≠ Op.defer c) (hQ:¬ LetsOut Q):∀ (fuel:Nat) (listed:Array Bool) (a:Act) (w:World),wpAny P md ops Q fuel listed a w->wpAnyIn (Fence.wide.inRound l) n P md ops Q fuel listed a w
 | 0,_,_,_,h=>h
 | fuel+1,_,_,_,h=>⟨h.1,fun i hi=>wpOp_round hd hQ (fun a' w' h'=>wpAny_round hd hQ fuel _ a' w' h') (h.2 i hi)⟩
theorem region_round {S:World->Prop} {id:Nat} {a:Act} {w:World} (hm:P.follows .mixedOrders=true) (hd:∀ (i:Nat) (o:Oper),ops[i]?=some o->∀ c:Call,o.op ≠ Op.defer c) (hQ:¬ LetsOut Q)
  (h:wpAnyH P .any ops Q S ops.size (Array.replicate ops.size false) a w.drew):(Code.region id ops true).wpIn (Fence.wide.inRound l) n P Q a w :=
 wpIn_region_any hm (wpAny_round hd hQ _ _ _ _ (wpAny_of_held _ _ _ _ h))
theorem wpOp_enter {i:Nat} {o:Oper} {f:FuncId} {args:Array Value} {K:Act->World->Prop} {a:Act} {w:World} (ho:ops[i]?=some o) (hw:Region.wanted o (yielded ops a.tmps)=true) (hr:(execOp a.eval o).run P w=.ok (.enter f args) w)
  (h:Calls P f args w fun
   | .returned v,w''=>K (a.put o.dst v) w''
   | .panicked chain,w''=>Q (.panic chain) a w''
   | .outgrown,_=>LetsOut Q):wpOp P ops Q i K a w:=by
 unfold wpOp
 simp only [ho,hw,if_true]
 left
 unfold Oper.wp
 rw [hr]
 exact h
def plainOp (o:Oper):Bool:=match o.op with
 | .defer _=>false
 | _=>true
theorem noDefer {ops:Array Oper} (h:ops.all plainOp=true):∀ (i:Nat) (o:Oper),ops[i]?=some o->∀ c:Call,o.op ≠ Op.defer c:=by
 intro i o hi c hc
 have hm:o ∈ ops:=Array.mem_of_getElem? hi
 have:=Array.all_eq_true_iff_forall_mem.1 h o hm
 unfold plainOp at this
 rw [hc] at this
 cases this
theorem region_round_at {S:World->Prop} {id:Nat} {a:Act} {w:World} (N:Nat) (L:Array Bool) (hN:ops.size=N) (hL:Array.replicate N false=L) (hm:P.follows .mixedOrders=true) (hd:ops.all plainOp=true) (hQ:¬ LetsOut Q)
  (h:wpAnyH P .any ops Q S N L a w.drew):(Code.region id ops true).wpIn (Fence.wide.inRound l) n P Q a w:=by
 refine region_round (S:=S) hm (noDefer hd) hQ ?_
 rw [hN,hL]
 exact h
theorem take_at {S:World->Prop} {i d:Nat} {oi:Oper} {v:Value} {fuel:Nat} {listed:Array Bool} (L:Array Bool) {a:Act} {w:World} (hi:ops[i]?=some oi) (hd:oi.dst=some d) (hL:listed.setIfInBounds i true=L)
  (hs:Region.noSelect ops=true) (hf:Region.free md ops listed i=true) (hr:(Region.ready md ops listed).contains i=true)
  (hQ:∀ c a w,Q (.panic c) (a.put oi.dst v) w->Q (.panic c) a w) (hw:Region.wanted oi (yielded ops a.tmps)=true) (hy:∀ w,S w->(execOp a.eval oi).run P w=.ok (.value v) w) (hS:S w)
  (h:wpAnyH P md ops Q S fuel L { tmps:=a.tmps.setIfInBounds d v,defers:=a.defers } w):wpAnyH P md ops Q S (fuel+1) listed a w:=by
 refine wpAnyH_take hi hs hf hr hQ (Or.inl ⟨hw,hy⟩) hS ?_
 rw [hL]
 have:a.put oi.dst v={ tmps:=a.tmps.setIfInBounds d v,defers:=a.defers }:=by unfold Act.put;rw [hd]
 rw [this]
 exact h
theorem tk_at {S:World->Prop} (i d:Nat) (v:Value) {oi:Oper} {fuel:Nat} {listed:Array Bool} (L:Array Bool) {a:Act} {w:World} (hi:ops[i]?=some oi) (hd:oi.dst=some d) (hL:listed.setIfInBounds i true=L)
  (hb:(Region.noSelect ops && Region.free md ops listed i && (Region.ready md ops listed).contains i)=true) (hw:Region.wanted oi (yielded ops a.tmps)=true) (hy:∀ w,S w->(execOp a.eval oi).run P w=.ok (.value v) w) (hS:S w)
  (h:wpAnyH P md ops Q S fuel L { tmps:=a.tmps.setIfInBounds d v,defers:=a.defers } w) (hQ:∀ c a w,Q (.panic c) (a.put oi.dst v) w->Q (.panic c) a w:=by exact fun _ _ _ h=>h):wpAnyH P md ops Q S (fuel+1) listed a w:=by
 simp only [Bool.and_eq_true] at hb
 exact take_at L hi hd hL hb.1.1 hb.1.2 hb.2 hQ hw hy hS h
theorem enter_at {S:World->Prop} {i d:Nat} {o:Oper} {f:FuncId} {args:Array Value} {fuel:Nat} {listed:Array Bool} (L:Array Bool) {a:Act} {w:World} (hr:Region.ready md ops listed=[i]) (ho:ops[i]?=some o) (hd:o.dst=some d) (hL:listed.setIfInBounds i true=L)
  (hw:Region.wanted o (yielded ops a.tmps)=true) (hrun:(execOp a.eval o).run P w=.ok (.enter f args) w) (R:Value->World->Prop) (hc:Calls P f args w fun e w'=>∃ v,e=.returned v/\R v w')
  (h:∀ v w',R v w'->S w'/\wpAnyH P md ops Q S fuel L { tmps:=a.tmps.setIfInBounds d v,defers:=a.defers } w'):wpAnyH P md ops Q S (fuel+1) listed a w:=by
 refine wpAnyH_all hr (by simp) ?_
 intro j hj
 obtain rfl:j=i:=by simpa using hj
 refine wpOp_enter ho hw hrun (hc.mono ?_)
 rintro e w' ⟨v,rfl,hR⟩
 obtain ⟨h1,h2⟩:=h v w' hR
 refine ⟨h1,?_⟩
 rw [hL]
 have:a.put o.dst v={ tmps:=a.tmps.setIfInBounds d v,defers:=a.defers }:=by unfold Act.put;rw [hd]
 rw [this]
 exact h2
end
section
open Go.RowKit
structure Frm (S:Nat->Prop) (w w':World):Prop where
 os:w'.os=w.os
 tape:w'.tape=w.tape
 output:w'.output=w.output
 size:w.heap.size<=w'.heap.size
 block:∀ k,k<w.heap.size->¬ S k->w'.heap[k]?=w.heap[k]?
theorem Frm.refl (S:Nat->Prop) (w:World):Frm S w w:=⟨rfl,rfl,rfl,Nat.le_refl _,fun _ _ _=>rfl⟩
theorem Frm.trans {S:Nat->Prop} {a b c:World} (h:Frm S a b) (k:Frm S b c):Frm S a c :=
 ⟨k.os.trans h.os,k.tape.trans h.tape,k.output.trans h.output,Nat.le_trans h.size k.size,fun i hi hn=>(k.block i (Nat.lt_of_lt_of_le hi h.size) hn).trans (h.block i hi hn)⟩
theorem Frm.mono {S T:Nat->Prop} {a b:World} (h:Frm S a b) (hs:∀ k,k<a.heap.size->S k->T k):Frm T a b :=
 ⟨h.os,h.tape,h.output,h.size,fun i hi hn=>h.block i hi (fun e=>hn (hs i hi e))⟩
theorem Frm.alloc {S:Nat->Prop} {a w:World} (h:Frm S a w) (o:Obj):Frm S a (w.alloc o) :=
 ⟨h.os,h.tape,h.output,by rw [World.size_alloc];exact Nat.le_succ_of_le h.size,fun i hi hn=>(Below.heap_alloc w o i (Nat.lt_of_lt_of_le hi h.size)).trans (h.block i hi hn)⟩
theorem Frm.setCell {S:Nat->Prop} {a w:World} (h:Frm S a w) {p:Addr} (hp:S p.block \/ a.heap.size<=p.block) (u:Value):Frm S a (w.setCell p u) :=
 ⟨h.os,h.tape,h.output,by rw [World.size_setCell];exact h.size,fun i hi hn=>(Below.heap_setCell w p u i (fun e=>by
  rcases hp with hp|hp
  ·exact hn (by rw [e];exact hp)
  ·rw [e] at hi;omega)).trans (h.block i hi hn)⟩
theorem Frm.drew {S:Nat->Prop} {a w:World} (h:Frm S a w):Frm S a w.drew:=⟨h.os,h.tape,h.output,h.size,h.block⟩
theorem Frm.drewN {S:Nat->Prop} {a w:World} (h:Frm S a w) (n:Nat):Frm S a (w.drewN n):=h.trans ⟨rfl,rfl,rfl,Nat.le_refl _,fun _ _ _=>rfl⟩
theorem Frm.of_below {S:Nat->Prop} {a b:World} (h:Below a.heap.size a b):Frm S a b:=⟨h.os,h.tape,h.output,h.size,fun i hi _=>h.block i hi⟩
theorem Frm.below {S:Nat->Prop} {B:Nat} {a b:World} (h:Frm S a b) (hB:B<=a.heap.size) (hs:∀ k,S k->B<=k):Below B a b :=
 ⟨h.os,h.tape,h.output,h.size,fun i hi=>h.block i (Nat.lt_of_lt_of_le hi hB) (fun e=>by have:=hs i e;omega)⟩
theorem Frm.cell {S:Nat->Prop} {a b:World} (h:Frm S a b) {p:Addr} {v:Value} (hc:a.cell? p=some v) (hn:¬ S p.block):b.cell? p=some v :=
 (World.cell?_of_block (h.block p.block (World.block_lt_of_cell? a p hc) hn)).trans hc
theorem Frm.grown {S:Nat->Prop} {a b c:World} {row:Option Nat} (h:Frm S a b) (hg:b.grownBy c row) (hr:∀ k,row=some k->S k \/ a.heap.size<=k):Frm S a c :=
 ⟨hg.os.trans h.os,hg.tape.trans h.tape,hg.output.trans h.output,Nat.le_trans h.size hg.size,fun i hi hn=>(hg.block i (Nat.lt_of_lt_of_le hi h.size) (fun e=>by
  rcases hr i e.symm with k|k
  ·exact hn k
  ·omega)).trans (h.block i hi hn)⟩
theorem Frm.owns {S:Nat->Prop} {a b:World} (h:Frm S a b) {base:Nat} {e:TypeId} {size:Nat} {v:Value} {n:Nat} {xs:List Value} (ho:a.ownsRow base e size v n xs) (hn:∀ k,v.ownBlock=some k->¬ S k):b.ownsRow base e size v n xs:=by
 obtain ⟨h1,h2⟩:=ho
 refine ⟨h1,?_⟩
 rcases h2 with h2|⟨g,cap,cur,rfl,hb,hg,hc⟩
 ·exact .inl h2
 ·have hlt:g<a.heap.size:=by
   rcases Nat.lt_or_ge g a.heap.size with h'|h'
   ·exact h'
   ·rw [Array.getElem?_eq_none h'] at hg;cases hg
  exact .inr ⟨g,cap,cur,rfl,hb,(h.block g hlt (hn g rfl)).trans hg,hc⟩
end
section
open Go.RowKit
def calmPost (K:Act->World->Prop):Exit->Act->World->Prop
 | .normal,a,w=>K a w
 | _,_,_=>False
theorem region_calm {P:Program} {ops:Array Oper} {Q:Exit->Act->World->Prop} {S:World->Prop} {id:Nat} {a:Act} {w:World} (N:Nat) (L:Array Bool) (hN:ops.size=N) (hL:Array.replicate N false=L) (hm:P.follows .mixedOrders=true)
  (h:wpAnyH P .any ops (calmPost (Q .normal)) S N L a w.drew):(Code.region id ops true).wp P Q a w:=by
 refine Code.wp_mono (Q:=calmPost (Q .normal)) (fun e a w hq=>?_) (wp_region_held (S:=S) hm ?_)
 ·cases e <;> first|exact hq|exact hq.elim
 ·rw [hN,hL];exact h
section
variable {P:Program} {ops:Array Oper} {Q:Exit->Act->World->Prop} {S:World->Prop}
theorem wpOp_value {i:Nat} {o:Oper} {v:Value} {K:Act->World->Prop} {a:Act} {w w':World} (ho:ops[i]?=some o) (hw:Region.wanted o (yielded ops a.tmps)=true) (hr:(execOp a.eval o).run P w=.ok (.value v) w') (h:K (a.put o.dst v) w'):wpOp P ops Q i K a w:=by
 unfold wpOp
 simp only [ho,hw,if_true]
 left
 unfold Oper.wp
 rw [hr]
 exact h
theorem put_at {a:Act} {d:Option Nat} {k:Nat} (h:d=some k) (v:Value):a.put d v={ tmps:=a.tmps.setIfInBounds k v,defers:=a.defers }:=by unfold Act.put;rw [h]
theorem wpOp_skip {i:Nat} {o:Oper} {K:Act->World->Prop} {a:Act} {w w':World} (ho:ops[i]?=some o) (hw:Region.wanted o (yielded ops a.tmps)=true) (hr:(execOp a.eval o).run P w=.ok .skip w') (h:K (a.put o.dst undef) w'):wpOp P ops Q i K a w:=by
 unfold wpOp
 simp only [ho,hw,if_true]
 left
 unfold Oper.wp
 rw [hr]
 exact h
theorem store_at {i:Nat} {o:Oper} {fuel:Nat} {listed:Array Bool} (L:Array Bool) {a:Act} {w w':World} (hr:Region.ready .any ops listed=[i]) (ho:ops[i]?=some o) (hd:o.dst=none) (hL:listed.setIfInBounds i true=L)
  (hw:Region.wanted o (yielded ops a.tmps)=true) (hrun:(execOp a.eval o).run P w=.ok .skip w') (hS:S w') (h:wpAnyH P .any ops Q S fuel L a w'):wpAnyH P .any ops Q S (fuel+1) listed a w:=by
 refine wpAnyH_all hr (by simp) ?_
 intro j hj
 obtain rfl:j=i:=by simpa using hj
 refine wpOp_skip ho hw hrun ⟨hS,?_⟩
 rw [hL]
 have:a.put o.dst undef=a:=by unfold Act.put;rw [hd]
 rw [this]
 exact h
end
section
variable {P:Program} {ops:Array Oper} {Q:Exit->Act->World->Prop} {md:Region.Mode}
theorem val_at {S:World->Prop} {i d:Nat} {o:Oper} {v:Value} {fuel:Nat} {listed:Array Bool} (L:Array Bool) {a:Act} {w w':World} (hr:Region.ready md ops listed=[i]) (ho:ops[i]?=some o) (hd:o.dst=some d) (hL:listed.setIfInBounds i true=L)
  (hw:Region.wanted o (yielded ops a.tmps)=true) (hrun:(execOp a.eval o).run P w=.ok (.value v) w') (hS:S w')
  (h:wpAnyH P md ops Q S fuel L { tmps:=a.tmps.setIfInBounds d v,defers:=a.defers } w'):wpAnyH P md ops Q S (fuel+1) listed a w:=by
 refine wpAnyH_all hr (by simp) ?_
 intro j hj
 obtain rfl:j=i:=by simpa using hj
 refine wpOp_value ho hw hrun ⟨hS,?_⟩
 rw [hL,put_at hd]
 exact h
end
section
variable {P:Program} {ops:Array Oper} {Q:Exit->Act->World->Prop} {md:Region.Mode}
theorem pair_at {S:World->Prop} {i j di dj:Nat} {oi oj:Oper} {vi vj:Value} {fuel:Nat} {listed:Array Bool} (Li Lj Lf:Array Bool) {T Ti Tj Tf:Array Value} {ds:List Deferred} {w w':World}
  (hTi:T.setIfInBounds di vi=Ti) (hTj:T.setIfInBounds dj vj=Tj) (hTf:Ti.setIfInBounds dj vj=Tf) (hTf':Tj.setIfInBounds di vi=Tf)
  (hr:Region.ready md ops listed=[i,j]) (hri:Region.ready md ops Li=[j]) (hrj:Region.ready md ops Lj=[i]) (hoi:ops[i]?=some oi) (hoj:ops[j]?=some oj) (hdi:oi.dst=some di) (hdj:oj.dst=some dj)
  (hLi:listed.setIfInBounds i true=Li) (hLj:listed.setIfInBounds j true=Lj) (hLf:Li.setIfInBounds j true=Lf) (hLf':Lj.setIfInBounds i true=Lf)
  (hwi:Region.wanted oi (yielded ops T)=true) (hwj:Region.wanted oj (yielded ops Ti)=true) (hwj':Region.wanted oj (yielded ops T)=true) (hwi':Region.wanted oi (yielded ops Tj)=true)
  (g1:(execOp (Act.eval { tmps:=T,defers:=ds }) oi).run P w=.ok (.value vi) w) (g2:(execOp (Act.eval { tmps:=Ti,defers:=ds }) oj).run P w=.ok (.value vj) w')
  (g3:(execOp (Act.eval { tmps:=T,defers:=ds }) oj).run P w=.ok (.value vj) w') (g4:(execOp (Act.eval { tmps:=Tj,defers:=ds }) oi).run P w'=.ok (.value vi) w')
  (hS:S w) (hS':S w') (h:wpAnyH P md ops Q S fuel Lf { tmps:=Tf,defers:=ds } w'):wpAnyH P md ops Q S (fuel+2) listed { tmps:=T,defers:=ds } w:=by
 refine wpAnyH_all hr (by simp) ?_
 intro k hk
 rcases (by simpa using hk:k=i \/ k=j) with rfl|rfl
 ·refine wpOp_value hoi hwi g1 ⟨hS,?_⟩
  rw [hLi,put_at hdi]
  dsimp only
  rw [hTi]
  refine wpAnyH_all hri (by simp) ?_
  intro k hk
  obtain rfl:k=j:=by simpa using hk
  refine wpOp_value hoj hwj g2 ⟨hS',?_⟩
  rw [hLf,put_at hdj]
  dsimp only
  rw [hTf]
  exact h
 ·refine wpOp_value hoj hwj' g3 ⟨hS',?_⟩
  rw [hLj,put_at hdj]
  dsimp only
  rw [hTj]
  refine wpAnyH_all hrj (by simp) ?_
  intro k hk
  obtain rfl:k=i:=by simpa using hk
  refine wpOp_value hoi hwi' g4 ⟨hS',?_⟩
  rw [hLf',put_at hdi]
  dsimp only
  rw [hTf']
  exact h
end
theorem three_set (wr:World) (G:Nat) (u0 u1 u2:Value) {x0 x1 x2:Value} (a0:wr.cell? ⟨G,0,none⟩=some x0) (a1:wr.cell? ⟨G,1,none⟩=some x1) (a2:wr.cell? ⟨G,2,none⟩=some x2) (X:World)
  (hX:X=((wr.setCell ⟨G,0,none⟩ u0).setCell ⟨G,1,none⟩ u1).setCell ⟨G,2,none⟩ u2) :
  X.cell? ⟨G,0,none⟩=some u0/\X.cell? ⟨G,1,none⟩=some u1/\X.cell? ⟨G,2,none⟩=some u2/\Frm (fun k=>k=G) wr X:=by
 obtain ⟨w1,h1⟩:∃ w1,w1=wr.setCell ⟨G,0,none⟩ u0:=⟨_,rfl⟩
 obtain ⟨w2,h2⟩:∃ w2,w2=w1.setCell ⟨G,1,none⟩ u1:=⟨_,rfl⟩
 rw [<- h1,<- h2] at hX
 have c10:w1.cell? ⟨G,0,none⟩=some u0:=by rw [h1];exact World.cell?_setCell_same _ _ _ a0
 have c11:w1.cell? ⟨G,1,none⟩=some x1:=by rw [h1];exact cell_off a1 (.inr (by decide))
 have c12:w1.cell? ⟨G,2,none⟩=some x2:=by rw [h1];exact cell_off a2 (.inr (by decide))
 have c20:w2.cell? ⟨G,0,none⟩=some u0:=by rw [h2];exact cell_off c10 (.inr (by decide))
 have c21:w2.cell? ⟨G,1,none⟩=some u1:=by rw [h2];exact World.cell?_setCell_same _ _ _ c11
 have c22:w2.cell? ⟨G,2,none⟩=some x2:=by rw [h2];exact cell_off c12 (.inr (by decide))
 have f1:Frm (fun k=>k=G) wr w1:=by rw [h1];exact Frm.setCell (p:=⟨G,0,none⟩) (Frm.refl (fun k=>k=G) wr) (.inl rfl) _
 have f2:Frm (fun k=>k=G) wr w2:=by rw [h2];exact Frm.setCell (p:=⟨G,1,none⟩) f1 (.inl rfl) _
 rw [hX]
 exact ⟨cell_off c20 (.inr (by decide)),cell_off c21 (.inr (by decide)),World.cell?_setCell_same _ _ _ c22,Frm.setCell (p:=⟨G,2,none⟩) f2 (.inl rfl) _⟩
theorem heap_lt0 {w:World} {k:Nat} {o:Obj} (h:w.heap[k]?=some o):k<w.heap.size:=by
 rcases Nat.lt_or_ge k w.heap.size with h'|h'
 ·exact h'
 ·rw [Array.getElem?_eq_none h'] at h;cases h
end
structure RS where
 pos:Nat
 rng:Int
 code:Int
 ch:List Int
 err:Int
namespace Rdr
def byteAt (s:ByteArray) (i:Nat):Int:=((s.data.toList.getD i 0).toNat:Int)
theorem byteAt_bd (s:ByteArray) (i:Nat):0<=byteAt s i/\byteAt s i<=255:=by
 unfold byteAt;have:=(s.data.toList.getD i 0).toNat_lt;omega
def octB (s:ByteArray) (r:RS):Int:=if r.pos<s.size then byteAt s r.pos else 0
def octS (s:ByteArray) (r:RS):RS:=if r.pos<s.size then { r with pos:=r.pos+1 } else { r with err:=if r.err=0 then 5 else r.err }
def pull (s:ByteArray) (r:RS):RS:={ octS s r with rng:=256*r.rng,code:=256*r.code+octB s r }
def norm (s:ByteArray) (r:RS):RS:=if r.rng<16777216 then pull s r else r
def cut (r:RS) (k:Nat):Int:=r.rng / 4096*r.ch.getD k 0
def bitV (r:RS) (k:Nat):Int:=if r.err=0 then (if r.code<cut r k then 0 else 1) else 0
def zero (r:RS) (k:Nat):RS:={ r with rng:=cut r k,ch:=r.ch.set k (r.ch.getD k 0+(4096-r.ch.getD k 0) / 32) }
def one (r:RS) (k:Nat):RS:={ r with rng:=r.rng-cut r k,code:=r.code-cut r k,ch:=r.ch.set k (r.ch.getD k 0-r.ch.getD k 0 / 32) }
def bitS (s:ByteArray) (r:RS) (k:Nat):RS:=if r.err=0 then (if r.code<cut r k then norm s (zero r k) else norm s (one r k)) else r
def fail (r:RS) (e:Int):RS:={ r with err:=if r.err=0 then e else r.err }
def four (s:ByteArray) (r:RS):Nat->RS
 | 0=>r
 | n+1=>let q:=four s r n;{ octS s q with code:=256*q.code+octB s q }
def start (s:ByteArray) (ch:List Int):RS :=
 let r:=four s ⟨0,4294967295,0,ch,0⟩ 4
 if r.err=0/\4294967295<=r.code then fail r 7 else r
def finish (s:ByteArray) (r:RS):RS:=if r.err=0/\r.pos<s.size then { r with err:=6 } else r
def bits (s:ByteArray):RS->List Nat->List Int × RS
 | r,[]=>([],r)
 | r,k :: ks=>let q:=bits s (bitS s r k) ks;(bitV r k :: q.1,q.2)
def ChOk (ch:List Int):Prop:=ch.length=400/\∀ k,k<400->31<=ch.getD k 0/\ch.getD k 0<=4065
structure Ok (s:ByteArray) (r:RS):Prop where
 ch:ChOk r.ch
 pos:r.pos<=s.size
 rng:r.err=0->16777216<=r.rng/\r.rng<=4294967295
 code:r.err=0->0<=r.code/\r.code<r.rng
 err:0<=r.err
theorem getD_set {l:List Int} {i j:Nat} {v:Int}:(l.set i v).getD j 0=if i=j/\j<l.length then v else l.getD j 0:=by
 simp only [List.getD_eq_getElem?_getD,List.getElem?_set]
 by_cases h:i=j
 ·subst h
  by_cases h2:i<l.length
  ·simp [h2]
  ·simp [h2]
 ·simp [h]
theorem ChOk.set {ch:List Int} (h:ChOk ch) {k:Nat} {v:Int} (h1:31<=v) (h2:v<=4065):ChOk (ch.set k v):=by
 refine ⟨by simpa using h.1,fun j hj=>?_⟩
 rw [getD_set]
 split
 ·exact ⟨h1,h2⟩
 ·exact h.2 j hj
theorem mul_bd (a c:Int) (a0:4096<=a) (a1:a<=1048575) (c0:31<=c) (c1:c<=4065):126976<=a*c/\a*c+126976<=a*4096:=by
 constructor
 ·have h1:a*31<=a*c:=Int.mul_le_mul_of_nonneg_left c0 (by omega)
  omega
 ·have h1:a*c<=a*4065:=Int.mul_le_mul_of_nonneg_left c1 (by omega)
  omega
theorem cut_bd {r:RS} {k:Nat} (hk:k<400) (hc:ChOk r.ch) (h0:16777216<=r.rng) (h1:r.rng<=4294967295) :
  126976<=cut r k/\cut r k+126976<=r.rng:=by
 have hb:=hc.2 k hk
 have hm:=mul_bd (r.rng / 4096) (r.ch.getD k 0) (by omega) (by omega) hb.1 hb.2
 unfold cut
 omega
theorem Ok.pull {s:ByteArray} {r:RS} (ch:ChOk r.ch) (pos:r.pos<=s.size) (err:r.err=0) (r0:126976<=r.rng) (r1:r.rng<16777216) (c0:0<=r.code) (c1:r.code<r.rng):Ok s (pull s r):=by
 have hb:=byteAt_bd s r.pos
 refine ⟨?_,?_,?_,?_,?_⟩
 ·unfold Rdr.pull octS;split <;> exact ch
 ·unfold Rdr.pull octS;split <;> (dsimp only;omega)
 ·intro _;unfold Rdr.pull;dsimp only;omega
 ·intro _;unfold Rdr.pull octB;dsimp only;split <;> omega
 ·unfold Rdr.pull octS;split
  ·dsimp only;omega
  ·simp
theorem Ok.norm {s:ByteArray} {r:RS} (ch:ChOk r.ch) (pos:r.pos<=s.size) (err:r.err=0) (r0:126976<=r.rng) (r1:r.rng<=4294967295) (c0:0<=r.code) (c1:r.code<r.rng):Ok s (norm s r):=by
 unfold Rdr.norm
 split
 ·exact Ok.pull ch pos err r0 (by assumption) c0 c1
 ·exact ⟨ch,pos,fun _=>by omega,fun _=>⟨c0,c1⟩,by omega⟩
theorem up_bd (c:Int) (h0:31<=c) (h1:c<=4065):31<=c+(4096-c) / 32/\c+(4096-c) / 32<=4065:=by omega
theorem dn_bd (c:Int) (h0:31<=c) (h1:c<=4065):31<=c-c / 32/\c-c / 32<=4065:=by omega
theorem Ok.bitS {s:ByteArray} {r:RS} (h:Ok s r) {k:Nat} (hk:k<400):Ok s (bitS s r k):=by
 unfold Rdr.bitS
 by_cases he:r.err=0
 ·rw [if_pos he]
  obtain ⟨g0,g1⟩:=h.rng he
  obtain ⟨c0,c1⟩:=h.code he
  have hc:=cut_bd hk h.ch g0 g1
  have hb:=h.ch.2 k hk
  split
  ·rename_i hlt
   exact Ok.norm (h.ch.set (up_bd _ hb.1 hb.2).1 (up_bd _ hb.1 hb.2).2) h.pos he (by unfold zero;dsimp only;omega) (by unfold zero;dsimp only;omega) c0 hlt
  ·rename_i hge
   exact Ok.norm (h.ch.set (dn_bd _ hb.1 hb.2).1 (dn_bd _ hb.1 hb.2).2) h.pos he (by unfold one;dsimp only;omega) (by unfold one;dsimp only;omega) (by unfold one;dsimp only;omega) (by unfold one;dsimp only;omega)
 ·rw [if_neg he];exact h
def r0 (ch:List Int):RS:=⟨0,4294967295,0,ch,0⟩
theorem four_succ (s:ByteArray) (r:RS) (n:Nat):four s r (n+1)={ octS s (four s r n) with code:=256*(four s r n).code+octB s (four s r n) }:=rfl
theorem octB_le (s:ByteArray) (r:RS):0<=octB s r/\octB s r<=255:=by
 unfold octB
 split
 ·exact byteAt_bd s _
 ·omega
theorem octS_pos {s:ByteArray} {r:RS} (h:r.pos<=s.size):(octS s r).pos<=s.size:=by
 unfold octS
 split
 ·dsimp only;omega
 ·exact h
theorem octS_ch (s:ByteArray) (r:RS):(octS s r).ch=r.ch:=by unfold octS;split <;> rfl
theorem octS_rng' (s:ByteArray) (r:RS):(octS s r).rng=r.rng:=by unfold octS;split <;> rfl
theorem octS_err0 {s:ByteArray} {r:RS} (h:0<=r.err):0<=(octS s r).err:=by
 unfold octS
 split
 ·exact h
 ·dsimp only;split <;> omega
theorem four_facts (s:ByteArray) (ch:List Int):∀ n,(four s (r0 ch) n).pos<=s.size/\(four s (r0 ch) n).ch=ch/\(four s (r0 ch) n).rng=4294967295/\0<=(four s (r0 ch) n).err/\0<=(four s (r0 ch) n).code/\(four s (r0 ch) n).code<256 ^ n
 | 0=>by
  refine ⟨Nat.zero_le _,rfl,rfl,?_,?_,?_⟩
  ·show (0:Int)<=0;decide
  ·show (0:Int)<=0;decide
  ·show (0:Int)<256 ^ 0;decide
 | n+1=>by
  obtain ⟨h1,h2,h3,h4,h5,h6⟩:=four_facts s ch n
  have hb:=octB_le s (four s (r0 ch) n)
  rw [four_succ]
  refine ⟨octS_pos h1,(octS_ch _ _).trans h2,(octS_rng' _ _).trans h3,octS_err0 h4,?_,?_⟩
  ·dsimp only;omega
  ·dsimp only
   rw [Int.pow_succ]
   omega
theorem start_eq (s:ByteArray) (ch:List Int):start s ch=if (four s (r0 ch) 4).err=0/\4294967295<=(four s (r0 ch) 4).code then fail (four s (r0 ch) 4) 7 else four s (r0 ch) 4:=rfl
theorem start_ok (s:ByteArray) (ch:List Int) (hc:ChOk ch):Ok s (start s ch):=by
 obtain ⟨h1,h2,h3,h4,h5,h6⟩:=four_facts s ch 4
 rw [start_eq]
 by_cases h:(four s (r0 ch) 4).err=0/\4294967295<=(four s (r0 ch) 4).code
 ·rw [if_pos h]
  unfold fail
  rw [if_pos h.1]
  exact ⟨by rw [h2];exact hc,h1,fun e=>absurd (show (7:Int)=0 from e) (by decide),fun e=>absurd (show (7:Int)=0 from e) (by decide),by show (0:Int)<=7;decide⟩
 ·rw [if_neg h]
  refine ⟨by rw [h2];exact hc,h1,fun _=>by rw [h3];decide,fun e=>⟨h5,?_⟩,h4⟩
  rw [h3]
  rcases Int.lt_or_le (four s (r0 ch) 4).code 4294967295 with h'|h'
  ·exact h'
  ·exact absurd ⟨e,h'⟩ h
def ctxs (zs:List Int):List Nat:=zs.map Int.toNat
def all (s:ByteArray) (ch:List Int) (zs:List Int) (k:Nat):List Int × RS:=bits s (start s ch) (ctxs (zs.take k))
end Rdr
section
open Go.RowKit
theorem ret_int {k:IntKind} {a b:Int} (h:a=b):Ending.returned (.int k a)=.returned (.int k b):=by rw [h]
theorem byteAt_get (s:ByteArray) (i:Nat) (h:i<s.size):Rdr.byteAt s i=(s[i].toNat:Int):=by
 unfold Rdr.byteAt
 rw [List.getD_eq_getElem?_getD,List.getElem?_eq_getElem (by simpa using h)]
 rfl
theorem ch0_ok:Rdr.ChOk ch0:=⟨by unfold ch0;exact List.length_replicate,fun k hk=>by rw [ch0_get k hk];decide⟩
theorem owns_base {w:World} {base base':Nat} {e:TypeId} {size:Nat} {v:Value} {n:Nat} {xs:List Value} (h:w.ownsRow base e size v n xs) (hb:base'<=base):w.ownsRow base' e size v n xs:=by
 refine ⟨h.1,?_⟩
 rcases h.2 with h2|⟨g,cap,cur,rfl,hb',hc⟩
 ·exact .inl h2
 ·exact .inr ⟨g,cap,cur,rfl,Nat.le_trans hb hb',hc⟩
end
structure WS where
 n:Int
 m:Nat
 rng:Int
 ch:List Int
namespace Pack
def cut (t:WS) (k:Nat):Int:=t.rng / 4096*t.ch.getD k 0
def pull (t:WS):WS:={ t with n:=256*t.n,m:=t.m+1,rng:=256*t.rng }
def norm (t:WS):WS:=if t.rng<16777216 then pull t else t
def zero (t:WS) (k:Nat):WS:={ t with rng:=cut t k,ch:=t.ch.set k (t.ch.getD k 0+(4096-t.ch.getD k 0) / 32) }
def one (t:WS) (k:Nat):WS:={ t with n:=t.n+cut t k,rng:=t.rng-cut t k,ch:=t.ch.set k (t.ch.getD k 0-t.ch.getD k 0 / 32) }
def put (t:WS) (k:Nat) (v:Int):WS:=norm (if v=0 then zero t k else one t k)
def puts:WS->List (Nat × Int)->WS
 | t,[]=>t
 | t,(k,v) :: l=>puts (put t k v) l
def init:WS:=⟨0,0,4294967295,ch0⟩
structure Ok (t:WS):Prop where
 ch:Rdr.ChOk t.ch
 r0:16777216<=t.rng
 r1:t.rng<=4294967295
 n0:0<=t.n
theorem cut_bd {t:WS} (h:Ok t) {k:Nat} (hk:k<400):126976<=cut t k/\cut t k+126976<=t.rng:=by
 have hb:=h.ch.2 k hk
 have:=h.r0
 have:=h.r1
 have hm:=Rdr.mul_bd (t.rng / 4096) (t.ch.getD k 0) (by omega) (by omega) hb.1 hb.2
 unfold cut
 omega
theorem norm_ok {t:WS} (ch:Rdr.ChOk t.ch) (r0:126976<=t.rng) (r1:t.rng<=4294967295) (n0:0<=t.n):Ok (norm t):=by
 unfold norm
 split
 ·exact ⟨ch,by show 16777216<=256*t.rng;omega,by show 256*t.rng<=4294967295;omega,by show 0<=256*t.n;omega⟩
 ·exact ⟨ch,by omega,r1,n0⟩
theorem Ok.put {t:WS} (h:Ok t) {k:Nat} (hk:k<400) (v:Int):Ok (put t k v):=by
 have hc:=cut_bd h hk
 have hb:=h.ch.2 k hk
 have h1:=h.r1
 have h0:=h.n0
 unfold Pack.put
 by_cases hv:v=0
 ·rw [if_pos hv]
  exact norm_ok (h.ch.set (Rdr.up_bd _ hb.1 hb.2).1 (Rdr.up_bd _ hb.1 hb.2).2) hc.1 (by show cut t k<=4294967295;omega) h0
 ·rw [if_neg hv]
  exact norm_ok (h.ch.set (Rdr.dn_bd _ hb.1 hb.2).1 (Rdr.dn_bd _ hb.1 hb.2).2) (by show 126976<=t.rng-cut t k;omega) (by show t.rng-cut t k<=4294967295;omega) (by show 0<=t.n+cut t k;omega)
theorem init_ok:Ok init:=⟨⟨by unfold init ch0;exact List.length_replicate,fun k hk=>by show 31<=ch0.getD k 0/\_;rw [show (init).ch=ch0 from rfl,ch0_get k hk];decide⟩,by decide,by decide,by decide⟩
def In (t u:WS):Prop:=∃ d:Nat,u.m=t.m+d/\t.n*256 ^ d<=u.n/\u.n+u.rng<=(t.n+t.rng)*256 ^ d
theorem In.refl (t:WS):In t t:=⟨0,rfl,by simp,by simp⟩
theorem In.trans {t u v:WS} (h:In t u) (k:In u v):In t v:=by
 obtain ⟨d,h1,h2,h3⟩:=h
 obtain ⟨e,k1,k2,k3⟩:=k
 have hp:(0:Int)<=256 ^ e:=Int.pow_nonneg (by decide)
 refine ⟨d+e,by omega,?_,?_⟩
 ·rw [Int.pow_add,<- Int.mul_assoc]
  exact Int.le_trans (Int.mul_le_mul_of_nonneg_right h2 hp) k2
 ·rw [Int.pow_add,<- Int.mul_assoc]
  exact Int.le_trans k3 (Int.mul_le_mul_of_nonneg_right h3 hp)
theorem In.norm (t:WS):In t (norm t):=by
 unfold Pack.norm
 split
 ·exact ⟨1,rfl,by show t.n*256 ^ 1<=256*t.n;omega,by show 256*t.n+256*t.rng<=(t.n+t.rng)*256 ^ 1;omega⟩
 ·exact In.refl t
def half (t:WS) (k:Nat) (v:Int):WS:=if v=0 then zero t k else one t k
theorem put_eq (t:WS) (k:Nat) (v:Int):put t k v=norm (half t k v):=rfl
theorem In.half {t:WS} (h:Ok t) {k:Nat} (hk:k<400) (v:Int):In t (half t k v):=by
 have hc:=cut_bd h hk
 unfold Pack.half
 by_cases hv:v=0
 ·rw [if_pos hv]
  exact ⟨0,rfl,by show t.n*256 ^ 0<=t.n;omega,by show t.n+cut t k<=(t.n+t.rng)*256 ^ 0;omega⟩
 ·rw [if_neg hv]
  exact ⟨0,rfl,by show t.n*256 ^ 0<=t.n+cut t k;omega,by show t.n+cut t k+(t.rng-cut t k)<=(t.n+t.rng)*256 ^ 0;omega⟩
theorem puts_ok:∀ (l:List (Nat × Int)) (t:WS),Ok t->(∀ p ∈ l,p.1<400)->Ok (puts t l)
 | [],_,h,_=>h
 | (k,v) :: l,_,h,hl=>puts_ok l _ (h.put (hl (k,v) (by simp)) v) (fun p hp=>hl p (by simp [hp]))
theorem puts_in:∀ (l:List (Nat × Int)) (t:WS),Ok t->(∀ p ∈ l,p.1<400)->In t (puts t l)
 | [],t,_,_=>In.refl t
 | (k,v) :: l,t,h,hl=>by
  have hk:=hl (k,v) (by simp)
  have h1:=In.trans (In.half h hk v) (In.norm (half t k v))
  exact In.trans h1 (puts_in l _ (h.put hk v) (fun p hp=>hl p (by simp [hp])))
theorem norm_m (t:WS):(norm t).m<=t.m+1:=by unfold norm;split <;> (first|exact Nat.le_refl _|exact Nat.le_succ _)
theorem half_m (t:WS) (k:Nat) (v:Int):(half t k v).m=t.m:=by unfold half;split <;> rfl
theorem puts_m:∀ (l:List (Nat × Int)) (t:WS),(puts t l).m<=t.m+l.length
 | [],t=>Nat.le_refl _
 | (k,v) :: l,t=>by
  have h:=puts_m l (put t k v)
  have h1:=norm_m (half t k v)
  rw [half_m] at h1
  show (puts (put t k v) l).m<=t.m+(l.length+1)
  have h2:(put t k v).m<=t.m+1:=h1
  omega
theorem puts_snoc (k:Nat) (v:Int):∀ (l:List (Nat × Int)) (t:WS),puts t (l++[(k,v)])=put (puts t l) k v
 | [],_=>rfl
 | (_,_) :: l,_=>puts_snoc k v l _
def digs:Nat->Int->List Int
 | 0,_=>[]
 | m+1,x=>digs m (x / 256)++[x % 256]
theorem digs_length:∀ (m:Nat) (x:Int),(digs m x).length=m
 | 0,_=>rfl
 | m+1,x=>by rw [digs,List.length_append,digs_length m];rfl
theorem digs_get:∀ (m:Nat) (x:Int) (i:Nat),i<m->(digs m x).getD i 0=x / 256 ^ (m-1-i) % 256
 | 0,_,i,h=>absurd h (by omega)
 | m+1,x,i,h=>by
  rw [digs,List.getD_eq_getElem?_getD]
  rcases Nat.lt_or_ge i m with hi|hi
  ·rw [List.getElem?_append_left (by rw [digs_length];exact hi),<- List.getD_eq_getElem?_getD,digs_get m (x / 256) i hi]
   rw [show m+1-1-i=(m-1-i)+1 by omega,Int.pow_succ,Int.mul_comm,Int.ediv_ediv_of_nonneg (by decide)]
  ·obtain rfl:i=m:=by omega
   rw [List.getElem?_append_right (by rw [digs_length];exact Nat.le_refl _),digs_length,Nat.sub_self]
   simp
theorem digs_bd:∀ (m:Nat) (x:Int),∀ z ∈ digs m x,0<=z/\z<=255
 | 0,_,z,h=>by simp [digs] at h
 | m+1,x,z,h=>by
  rw [digs,List.mem_append] at h
  rcases h with h|h
  ·exact digs_bd m _ z h
  ·simp at h;subst h;omega
end Pack
namespace Pack
structure BytesOf (S:ByteArray) (V:Int) (M:Nat):Prop where
 size:S.size=M+4
 at':∀ i,i<M+4->Rdr.byteAt S i=V / 256 ^ (M+3-i) % 256
structure Rel (V:Int) (M:Nat) (t:WS) (r:RS):Prop where
 err:r.err=0
 pos:r.pos=t.m+4
 rng:r.rng=t.rng
 ch:r.ch=t.ch
 le:t.m<=M
 code:r.code=V / 256 ^ (M-t.m)-t.n
theorem rel_norm {S:ByteArray} {V:Int} {M:Nat} (hS:BytesOf S V M) {t:WS} {r:RS} (h:Rel V M t r) (hm:(norm t).m<=M):Rel V M (norm t) (Rdr.norm S r):=by
 obtain ⟨h1,h2,h3,h4,h5,h6⟩:=h
 unfold norm Rdr.norm at *
 by_cases hl:t.rng<16777216
 ·rw [if_pos hl] at hm ⊢
  rw [if_pos (by rw [h3];exact hl)]
  have hm':t.m+1<=M:=hm
  have hp:r.pos<S.size:=by rw [h2,hS.size];omega
  have ho:Rdr.octS S r={ r with pos:=r.pos+1 }:=by unfold Rdr.octS;rw [if_pos hp]
  have hb:Rdr.octB S r=V / 256 ^ (M-(t.m+1)) % 256:=by
   unfold Rdr.octB
   rw [if_pos hp,hS.at' _ (by omega),h2,show M+3-(t.m+4)=M-(t.m+1) by omega]
  unfold Rdr.pull
  rw [ho,hb]
  refine ⟨h1,by show r.pos+1=t.m+1+4;omega,by show 256*r.rng=256*t.rng;rw [h3],h4,hm',?_⟩
  show 256*r.code+V / 256 ^ (M-(t.m+1)) % 256=V / 256 ^ (M-(t.m+1))-256*t.n
  rw [h6,show M-t.m=(M-(t.m+1))+1 by omega,Int.pow_succ,<- Int.ediv_ediv_of_nonneg (Int.pow_nonneg (by decide))]
  omega
 ·rw [if_neg hl] at hm ⊢
  rw [if_neg (by rw [h3];exact hl)]
  exact ⟨h1,h2,h3,h4,h5,h6⟩
theorem rel_step {S:ByteArray} {V:Int} {M:Nat} (hS:BytesOf S V M) {t u:WS} {r:RS} (h:Rel V M t r) {k:Nat} {v:Int} (hv:v=0 \/ v=1) (hin:In (put t k v) u) (hV:V=u.n) (hM:M=u.m) (hu:0<u.rng) :
  Rdr.bitV r k=v/\Rel V M (put t k v) (Rdr.bitS S r k):=by
 have hm:(put t k v).m<=M:=by obtain ⟨d,h1,_⟩:=hin;omega
 obtain ⟨d,hd1,hd2,hd3⟩:=In.trans (In.norm (half t k v)) (by rw [<- put_eq];exact hin)
 rw [half_m] at hd1
 have hp:(0:Int)<256 ^ d:=Int.pow_pos (by decide)
 have hdd:M-t.m=d:=by omega
 have hcut:Rdr.cut r k=cut t k:=by unfold Rdr.cut cut;rw [h.rng,h.ch]
 have hcode:=h.code
 rw [hdd] at hcode
 rcases hv with rfl|rfl
 ·have hlt:V / 256 ^ d<t.n+cut t k:=by
   refine Int.ediv_lt_of_lt_mul hp ?_
   have:u.n+u.rng<=(t.n+cut t k)*256 ^ d:=hd3
   omega
  have hc:r.code<Rdr.cut r k:=by rw [hcut,hcode];omega
  have e1:Rdr.bitV r k=0:=by unfold Rdr.bitV;rw [if_pos h.err,if_pos hc]
  have e2:Rdr.bitS S r k=Rdr.norm S (Rdr.zero r k):=by unfold Rdr.bitS;rw [if_pos h.err,if_pos hc]
  refine ⟨e1,?_⟩
  rw [e2]
  refine rel_norm hS (t:=zero t k) ⟨h.err,h.pos,hcut,?_,h.le,h.code⟩ hm
  show r.ch.set k _=t.ch.set k _
  rw [h.ch]
 ·have hge:t.n+cut t k<=V / 256 ^ d:=by
   refine Int.le_ediv_of_mul_le hp ?_
   have:(t.n+cut t k)*256 ^ d<=u.n:=hd2
   omega
  have hc:¬ r.code<Rdr.cut r k:=by rw [hcut,hcode];omega
  have e1:Rdr.bitV r k=1:=by unfold Rdr.bitV;rw [if_pos h.err,if_neg hc]
  have e2:Rdr.bitS S r k=Rdr.norm S (Rdr.one r k):=by unfold Rdr.bitS;rw [if_pos h.err,if_neg hc]
  refine ⟨e1,?_⟩
  rw [e2]
  refine rel_norm hS (t:=one t k) ⟨h.err,h.pos,?_,?_,h.le,?_⟩ hm
  ·show r.rng-Rdr.cut r k=t.rng-cut t k;rw [hcut,h.rng]
  ·show r.ch.set k _=t.ch.set k _
   rw [h.ch]
  ·show r.code-Rdr.cut r k=V / 256 ^ (M-t.m)-(t.n+cut t k)
   rw [hcut,h.code];omega
theorem four_code {S:ByteArray} {V:Int} {M:Nat} (hS:BytesOf S V M) (h0:0<=V) (h1:V<256 ^ (M+4)) (ch:List Int):∀ n,n<=4->(Rdr.four S (Rdr.r0 ch) n).code=V / 256 ^ (M+4-n)/\(Rdr.four S (Rdr.r0 ch) n).pos=n/\(Rdr.four S (Rdr.r0 ch) n).err=0
 | 0,_=>⟨by show (0:Int)=V / 256 ^ (M+4);rw [Int.ediv_eq_zero_of_lt h0 h1],rfl,rfl⟩
 | n+1,hn=>by
  obtain ⟨c1,c2,c3⟩:=four_code hS h0 h1 ch n (by omega)
  have hp:(Rdr.four S (Rdr.r0 ch) n).pos<S.size:=by rw [c2,hS.size];omega
  have hb:Rdr.octB S (Rdr.four S (Rdr.r0 ch) n)=V / 256 ^ (M+4-(n+1)) % 256:=by
   unfold Rdr.octB
   rw [if_pos hp,hS.at' _ (by rw [c2];omega),c2,show M+3-n=M+4-(n+1) by omega]
  rw [Rdr.four_succ,show Rdr.octS S (Rdr.four S (Rdr.r0 ch) n)={ Rdr.four S (Rdr.r0 ch) n with pos:=(Rdr.four S (Rdr.r0 ch) n).pos+1 } by unfold Rdr.octS;rw [if_pos hp]]
  refine ⟨?_,by show (Rdr.four S (Rdr.r0 ch) n).pos+1=n+1;rw [c2],c3⟩
  show 256*(Rdr.four S (Rdr.r0 ch) n).code+Rdr.octB S (Rdr.four S (Rdr.r0 ch) n)=V / 256 ^ (M+4-(n+1))
  rw [hb,c1,show M+4-n=(M+4-(n+1))+1 by omega,Int.pow_succ,<- Int.ediv_ediv_of_nonneg (Int.pow_nonneg (by decide))]
  omega
def fin (l:List (Nat × Int)):WS:=puts init l
def BitsOk (l:List (Nat × Int)):Prop:=∀ p ∈ l,p.1<400/\(p.2=0 \/ p.2=1)
theorem fin_bd {l:List (Nat × Int)} (hl:BitsOk l):0<=(fin l).n/\(fin l).n<4294967295*256 ^ (fin l).m:=by
 have ok:=puts_ok l _ init_ok (fun p hp=>(hl p hp).1)
 obtain ⟨d,h1,h2,h3⟩:=puts_in l _ init_ok (fun p hp=>(hl p hp).1)
 have hm:(puts init l).m=d:=by rw [h1];exact Nat.zero_add d
 have h3':(puts init l).n+(puts init l).rng<=(0+4294967295)*256 ^ d:=h3
 have:=ok.r0
 refine ⟨ok.n0,?_⟩
 show (puts init l).n<4294967295*256 ^ (puts init l).m
 rw [hm];omega
theorem start_rel {S:ByteArray} {l:List (Nat × Int)} (hl:BitsOk l) (hS:BytesOf S (fin l).n (fin l).m):Rel (fin l).n (fin l).m init (Rdr.start S ch0):=by
 obtain ⟨b0,b1⟩:=fin_bd hl
 have hp:(0:Int)<256 ^ (fin l).m:=Int.pow_pos (by decide)
 have h4:(fin l).n<256 ^ ((fin l).m+4):=by
  rw [Int.pow_add]
  have:(4294967295:Int)*256 ^ (fin l).m<=256 ^ (fin l).m*256 ^ 4:=by
   rw [Int.mul_comm]
   exact Int.mul_le_mul_of_nonneg_left (by decide) (Int.le_of_lt hp)
  omega
 obtain ⟨c1,c2,c3⟩:=four_code hS b0 h4 ch0 4 (by omega)
 obtain ⟨f1,f2,f3,f4,f5,f6⟩:=Rdr.four_facts S ch0 4
 have hc:(Rdr.four S (Rdr.r0 ch0) 4).code<4294967295:=by
  rw [c1,show (fin l).m+4-4=(fin l).m by omega]
  exact Int.ediv_lt_of_lt_mul hp b1
 rw [Rdr.start_eq,if_neg (fun h=>by omega)]
 refine ⟨c3,c2,f3,f2,Nat.zero_le _,?_⟩
 rw [c1,show (fin l).m+4-4=(fin l).m-init.m from rfl]
 show _=_-(0:Int)
 omega
end Pack
namespace Rdr
end Rdr
section
open Go.RowKit
namespace Rdr
def run (s:ByteArray) (k:Nat):Nat->Nat->RS->Nat × RS
 | 0,n,r=>(n,r)
 | f+1,n,r=>if r.err=0 then (if bitV r (k+n)=0 then (n,bitS s r (k+n)) else run s k f (n+1) (if n+1=10 then fail (bitS s r (k+n)) 8 else bitS s r (k+n))) else (n,r)
def lows (s:ByteArray) (k:Nat):Nat->Int->Int->RS->Int × Int × RS
 | 0,d,u,r=>(d,u,r)
 | f+1,d,u,r=>if r.err=0 then lows s k f (2*d+bitV r k) (2*u) (bitS s r k) else (d,u,r)
def number (s:ByteArray) (r:RS) (k:Nat):Int × RS :=
 ((lows s (k+12+(run s k 11 0 r).1) (run s k 11 0 r).1 0 1 (run s k 11 0 r).2).2.1+(lows s (k+12+(run s k 11 0 r).1) (run s k 11 0 r).1 0 1 (run s k 11 0 r).2).1-1,(lows s (k+12+(run s k 11 0 r).1) (run s k 11 0 r).1 0 1 (run s k 11 0 r).2).2.2)
theorem Ok.fail {s:ByteArray} {r:RS} (h:Ok s r) {e:Int} (he:0<e):Ok s (fail r e):=by
 have h0:=h.err
 have hz:(Rdr.fail r e).err=0->r.err=0:=fun hh=>by
  unfold Rdr.fail at hh;dsimp only at hh;split at hh <;> omega
 refine ⟨h.ch,h.pos,fun hh=>h.rng (hz hh),fun hh=>h.code (hz hh),?_⟩
 unfold Rdr.fail;dsimp only;split <;> omega
theorem fail_err {r:RS} {e:Int} (he:0<e):(fail r e).err ≠ 0:=by
 unfold fail;dsimp only;split <;> omega
theorem bitV_cases (r:RS) (k:Nat):bitV r k=0 \/ bitV r k=1:=by
 unfold bitV;split
 ·split
  ·exact .inl rfl
  ·exact .inr rfl
 ·exact .inl rfl
end Rdr
namespace Rdr
def signed (s:ByteArray) (r:RS) (k:Nat):Int:=if (number s r k).1 % 2=0 then (number s r k).1 / 2 else -(((number s r k).1+1) / 2)
end Rdr
end
section
open Go.RowKit
namespace Flm
def expected (a b d:Int):Int :=
 let lo:=if b<a then b else a
 let hi:=if b<a then a else b
 if hi<=d then lo else if d<=lo then hi else a+b-d
theorem expected_bd {a b d m:Int} (a0:-m<=a) (a1:a<=m) (b0:-m<=b) (b1:b<=m):-m<=expected a b d/\expected a b d<=m:=by
 unfold expected
 dsimp only
 split <;> split <;> (try split) <;> omega
end Flm
end
end Go.Proofs.YtekfbphnoibnjaaGreatDoor
namespace Go.Proofs.YtekfbphnoibnjaaGreatDoor.Pix
def tT (r b:Int):Int:=b+(r-b) / 2
def tV (r g b:Int):Int:=g-tT r b
def tY (r g b:Int):Int:=tT r b+tV r g b / 2
def bT (y v:Int):Int:=y-v / 2
def bG (y v:Int):Int:=v+bT y v
def bB (y u v:Int):Int:=bT y v-u / 2
def bR (y u v:Int):Int:=u+bB y u v
def isPix (y u v:Int):Prop:=(0<=bR y u v/\bR y u v<=255)/\(0<=bG y v/\bG y v<=255)/\(0<=bB y u v/\bB y u v<=255)
theorem tbounds (r g b:Int) (r0:0<=r) (r1:r<=255) (g0:0<=g) (g1:g<=255) (b0:0<=b) (b1:b<=255) :
  (0<=tT r b/\tT r b<=255)/\(-255<=tV r g b/\tV r g b<=255)/\(0<=tY r g b/\tY r g b<=255):=by
 unfold tY tV tT;omega
theorem back_turn (r g b:Int):bR (tY r g b) (r-b) (tV r g b)=r/\bG (tY r g b) (tV r g b)=g/\bB (tY r g b) (r-b) (tV r g b)=b:=by
 unfold bR bB bG bT tY tV tT;omega
theorem turn_isPix (r g b:Int) (r0:0<=r) (r1:r<=255) (g0:0<=g) (g1:g<=255) (b0:0<=b) (b1:b<=255):isPix (tY r g b) (r-b) (tV r g b):=by
 unfold isPix;obtain ⟨e1,e2,e3⟩:=back_turn r g b;rw [e1,e2,e3];omega
theorem near (y u v:Int) (h:isPix y u v):(-255<=y/\y<=255)/\(-255<=u/\u<=255)/\(-255<=v/\v<=255):=by
 unfold isPix bR bB bG bT at h;omega
end Go.Proofs.YtekfbphnoibnjaaGreatDoor.Pix
