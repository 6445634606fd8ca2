/-
  PMap PCont
-/
import Derived.Test.YtekfbphnoibnjaaGreatDoorF11
import Derived.WideKeyEntry
import Derived.Maps.OwnIn
set_option maxHeartbeats 4000000
namespace Go.Proofs.YtekfbphnoibnjaaGreatDoor
section
open Go.RowKit Go.MapKept
open Flm (Px FS okPx)
abbrev Ar:=(Nat × Nat) × Nat
abbrev Kt:=Nat × List Px
def arCells (a:Ar):List Value:=[.int .i64 a.1.1,.int .i64 a.1.2,.int .i64 a.2]
def arsCells (l:List Ar):List Value:=l.flatMap arCells
theorem arsCells_snoc (l:List Ar) (a:Ar):arsCells (l++[a])=arsCells l++arCells a:=by simp [arsCells]
def kval (k:Kt):Value:=.agg (contL k.1 k.2).toArray
structure GoodK (k:Kt):Prop where
 n:k.1<=16
 l:k.2.length=k.1*k.1
 ok:∀ p ∈ k.2,okPx p
theorem GoodK.len {k:Kt} (h:GoodK k):k.2.length<=256:=by rw [h.l];exact Nat.mul_le_mul h.n h.n
theorem GoodK.key {k:Kt} (h:GoodK k):∃ l,keyOf Tryz.prog 200 (kval k)=some l:=cont_is h.n h.len h.ok
theorem kval_inj {k m:Kt} (hk:GoodK k) (hm:GoodK m) (h:kval k=kval m):k=m:=by
 unfold kval at h
 injection h with h
 have h2:contL k.1 k.2=contL m.1 m.2:=congrArg Array.toList h
 have h3:k.1=m.1:=by
  unfold contL at h2
  injection h2 with h2
  injection h2 with _ h2
  omega
 have h4:=contL_inj (by rw [hk.l,hm.l,h3]) h2
 exact Prod.ext h4.1 h4.2
def sel (κ:Ar->Kt) (L:List Ar) (k:Kt):List Ar:=L.filter fun a=>decide (κ a=k)
theorem sel_snoc_eq {κ:Ar->Kt} {L:List Ar} {a:Ar}:sel κ (L++[a]) (κ a)=sel κ L (κ a)++[a]:=by simp [sel,List.filter_append]
theorem sel_snoc_ne {κ:Ar->Kt} {L:List Ar} {a:Ar} {k:Kt} (h:k ≠ κ a):sel κ (L++[a]) k=sel κ L k:=by
 unfold sel
 rw [List.filter_append]
 simp [Ne.symm h]
structure MapAt (w:World) (base b:Nat) (κ:Ar->Kt) (L:List Ar) (es:Array MapEntry) (clock:Nat):Prop where
 heap:w.heap[b]?=some (.map es clock)
 born:∀ e ∈ es.toList,e.born<clock
 nodup:(es.toList.map (·.born)).Nodup
 ent:∀ e ∈ es.toList,∃ k,GoodK k/\e.key=kval k/\w.ownsRow base 100 3 e.val (sel κ L k).length (arsCells (sel κ L k))/\0<(sel κ L k).length
 keys:∀ (i j:Nat) (e e':MapEntry),es.toList[i]?=some e->es.toList[j]?=some e'->e.key=e'.key->i=j
 blks:∀ (i j:Nat) (e e':MapEntry),es.toList[i]?=some e->es.toList[j]?=some e'->e.val.ownBlock=e'.val.ownBlock->i=j
 all:∀ a ∈ L,GoodK (κ a)/\∃ e ∈ es.toList,e.key=kval (κ a)
theorem row_block {w:World} {base:Nat} {v:Value} {n:Nat} {xs:List Value} (h:w.ownsRow base 100 3 v n xs) (hn:0<n):∃ g cur,v.ownBlock=some g/\base<=g/\w.heap[g]?=some (.cells cur 100 (0,0)):=by
 rcases h.2 with ⟨_,e⟩|⟨g,cap,cur,rfl,hb,hg,_⟩
 ·omega
 ·exact ⟨g,cur,rfl,hb,hg⟩
theorem MapAt.notb {w:World} {base b:Nat} {κ:Ar->Kt} {L:List Ar} {es:Array MapEntry} {clock:Nat} (h:MapAt w base b κ L es clock) {v:Value} {n:Nat} {xs:List Value} (hv:w.ownsRow base 100 3 v n xs):v.ownBlock ≠ some b:=by
 intro e
 rcases hv.2 with ⟨rfl,_⟩|⟨g,cap,cur,rfl,_,hg,_⟩
 ·cases e
 ·injection e with e
  have e:g=b:=e
  rw [e,h.heap] at hg
  cases hg
theorem MapAt.find {w:World} {base b:Nat} {κ:Ar->Kt} {L:List Ar} {es:Array MapEntry} {clock:Nat} (h:MapAt w base b κ L es clock) {k:Kt} (hk:GoodK k) (u:World) :
  ((Instr.findKey 200 (kval k) es.toList).run Tryz.prog u=.ok none u/\sel κ L k=[]/\∀ e ∈ es.toList,e.key ≠ kval k) \/ ∃ (j:Nat) (e:MapEntry),(Instr.findKey 200 (kval k) es.toList).run Tryz.prog u=.ok (some (j,e.val)) u/\es.toList[j]?=some e/\e.key=kval k:=by
 obtain ⟨l,hl⟩:=hk.key
 rcases contKey.find u hl es.toList (fun e he=>by
  obtain ⟨k',g',e',_⟩:=h.ent e he
  rw [e']
  exact g'.key) with ⟨h1,h2⟩|⟨j,e,h1,h2,h3⟩
 ·refine .inl ⟨h1,?_,h2⟩
  unfold sel
  rw [List.filter_eq_nil_iff]
  intro a ha e
  have e:=of_decide_eq_true e
  obtain ⟨_,e0,m0,q0⟩:=h.all a ha
  exact h2 e0 m0 (by rw [q0,e])
 ·exact .inr ⟨j,e,h1,h2,h3⟩
theorem MapAt.look {w:World} {base b:Nat} {κ:Ar->Kt} {L:List Ar} {es:Array MapEntry} {clock:Nat} (h:MapAt w base b κ L es clock) {k:Kt} (hk:GoodK k) :
  ∃ v,(Instr.lookup 91 (.map (some b)) (kval k) false).run Tryz.prog w=.ok v w/\w.ownsRow base 100 3 v (sel κ L k).length (arsCells (sel κ L k)):=by
 obtain ⟨l,hl⟩:=hk.key
 have hc:=fun em=>contKey.check w em hl
 rcases h.find hk w with ⟨h1,h2,_⟩|⟨j,e,h1,h2,h3⟩
 ·refine ⟨.slice none 0 0,?_,by rw [h2];exact World.ownsRow_nil _ _ _ _⟩
  simp [Instr.lookup,run_underlying Tryz.underlying91,MapKept.run_getObj_map h.heap,hc,h1,Result.andThen]
 ·obtain ⟨k',g',e',r',_⟩:=h.ent e (List.mem_of_getElem? h2)
  obtain rfl:k'=k:=kval_inj g' hk (e'.symm.trans h3)
  refine ⟨e.val,?_,r'⟩
  simp [Instr.lookup,run_underlying Tryz.underlying91,MapKept.run_getObj_map h.heap,hc,h1,Result.andThen]
theorem look_none (w:World) {k:Kt} (hk:GoodK k):(Instr.lookup 91 (.map none) (kval k) false).run Tryz.prog w=.ok (.slice none 0 0) w:=by
 obtain ⟨l,hl⟩:=hk.key
 have hc:=fun em=>contKey.check w em hl
 rcases contKey.find w hl [] (fun e he=>absurd he (List.not_mem_nil)) with ⟨h1,_⟩|⟨j,e,h1,h2,h3⟩
 ·simp [Instr.lookup,run_underlying Tryz.underlying91,hc,h1,Result.andThen]
 ·simp at h2
theorem MapAt.entry {w:World} {base b:Nat} {κ:Ar->Kt} {L:List Ar} {es:Array MapEntry} {clock:Nat} (h:MapAt w base b κ L es clock) (a:Ar) (hk:GoodK (κ a)) :
  ∃ (v0:Value) (st:Nat) (w1:World),(Instr.mapEntry 91 (.map (some b)) (kval (κ a))).run Tryz.prog w=.ok (.tuple #[v0,goInt st]) w1/\w.grownBy w1 (some b)/\w1.heap.size=w.heap.size/\w1.ownsRow base 100 3 v0 (sel κ L (κ a)).length (arsCells (sel κ L (κ a)))/\(∀ g,v0.ownBlock=some g->∃ e ∈ es.toList,e.val.ownBlock=some g) /\
   ∀ (v':Value) (w2:World),w2.ownsRow base 100 3 v' ((sel κ L (κ a)).length+1) (arsCells (sel κ L (κ a))++arCells a)->w1.grownBy w2 v0.ownBlock->(v'.ownBlock=v0.ownBlock \/ v'.ownBlock=some w1.heap.size) ->
    ∃ (w3:World) (es':Array MapEntry) (clock':Nat),(Instr.entryStore 91 (.map (some b)) (goInt st) v').run Tryz.prog w2=.ok () w3/\w2.grownBy w3 (some b)/\w3.heap.size=w2.heap.size/\MapAt w3 base b κ (L++[a]) es' clock'/\∀ x ∈ es'.toList,x.val.ownBlock=v'.ownBlock \/ ∃ e ∈ es.toList,x.val.ownBlock=e.val.ownBlock:=by
 obtain ⟨l,hl⟩:=hk.key
 have hc:=contKey.check w false hl
 have grow:∀ {u:World} {es clock} (o:Obj),u.heap[b]?=some (.map es clock)->u.grownBy { u with heap:=u.heap.setIfInBounds b o } (some b):=fun {u es clock} o hu =>
  ⟨rfl,rfl,rfl,by simp,fun k _ hn=>(heap_set hu).2 k (fun e=>hn (by rw [e]))⟩
 rcases h.find hk w with ⟨h1,h2,h3⟩|⟨j,e,h1,h2,h3⟩
 ·-- a content that is new
  obtain ⟨w1,hw1⟩:∃ w1:World,w1={ w with heap:=w.heap.setIfInBounds b (.map (es.push ⟨kval (κ a),.slice none 0 0,clock⟩) (clock+1)) }:=⟨_,rfl⟩
  have hb1:w1.heap[b]?=some (.map (es.push ⟨kval (κ a),.slice none 0 0,clock⟩) (clock+1)):=by rw [hw1];exact (heap_set h.heap).1
  have g1:w.grownBy w1 (some b):=by rw [hw1];exact grow _ h.heap
  refine ⟨.slice none 0 0,clock,w1,?_,g1,by rw [hw1];simp,by rw [h2];exact World.ownsRow_nil _ _ _ _,fun g e0=>(by cases e0),fun v' w2 ho hg hat=>?_⟩
  ·rw [hw1]
   simp [Instr.mapEntry,run_underlying Tryz.underlying91,MapKept.run_getObj_map h.heap,hc,h1,MapKept.run_setObj_map _ h.heap,Result.andThen]
  ·have hb1':b<w1.heap.size:=(Array.getElem?_eq_some_iff.1 hb1).1
   have hb2:w2.heap[b]?=some (.map (es.push ⟨kval (κ a),.slice none 0 0,clock⟩) (clock+1)):=(hg.block b hb1' (by simp [Value.ownBlock])).trans hb1
   obtain ⟨w3,hw3⟩:∃ w3:World,w3={ w2 with heap:=w2.heap.setIfInBounds b (.map (es.push ⟨kval (κ a),v',clock⟩) (clock+1)) }:=⟨_,rfl⟩
   have g3:w2.grownBy w3 (some b):=by rw [hw3];exact grow _ hb2
   have hat':v'.ownBlock=some w1.heap.size:=by
    rcases hat with e0|e0
    ·obtain ⟨g,cur,e1,_⟩:=row_block ho (Nat.succ_pos _)
     rw [e1] at e0
     cases e0
    ·exact e0
   have nb:v'.ownBlock ≠ some b:=by
    rw [hat']
    intro e0
    injection e0 with e0
    omega
   refine ⟨w3,es.push ⟨kval (κ a),v',clock⟩,clock+1,?_,g3,by rw [hw3];simp,?_,fun x hx=>?_⟩
   ·have hidx:(es.push ⟨kval (κ a),.slice none 0 0,clock⟩).findIdx? (fun e=>((e.born:Nat):Int) == ((clock:Nat):Int))=some es.size:=by
     rw [WideElems.findIdx_arr]
     have:=WideElems.findIdx_born (l:=(es.push ⟨kval (κ a),.slice none 0 0,clock⟩).toList) (j:=es.size) (e0:=⟨kval (κ a),.slice none 0 0,clock⟩) (by
      simp only [Array.toList_push,List.map_append,List.map_cons,List.map_nil]
      refine List.nodup_append.2 ⟨h.nodup,by simp,fun a ha c hc e1=>?_⟩
      simp only [List.mem_singleton] at hc
      obtain ⟨x,hx,rfl⟩:=List.mem_map.1 ha
      have:=h.born x hx
      omega) (by simp)
     exact this
    have hmod:(es.push ⟨kval (κ a),.slice none 0 0,clock⟩).modify es.size (fun e=>{ e with val:=v' })=es.push ⟨kval (κ a),v',clock⟩:=by
     apply Array.ext'
     rw [Array.toList_modify,Array.toList_push,Array.toList_push,<- Array.length_toList,WideElems.modify_last]
    rw [hw3]
    simp [Instr.entryStore,MapKept.run_getObj_map hb2,asInt,asIntOf,goInt,hidx,hmod,MapKept.run_setObj_map _ hb2,Result.andThen]
   ·have old:∀ e ∈ es.toList,∃ k,GoodK k/\k ≠ κ a/\e.key=kval k/\w3.ownsRow base 100 3 e.val (sel κ L k).length (arsCells (sel κ L k))/\0<(sel κ L k).length/\∃ g,e.val.ownBlock=some g/\g<w.heap.size:=fun e he=>by
     obtain ⟨k,gk,ek,rk,pk⟩:=h.ent e he
     have n1:=h.notb rk
     have r1:=rk.kept g1 (.inr n1)
     have r2:=r1.kept hg (.inr (by
      obtain ⟨g,cur,e1,_⟩:=row_block rk pk
      rw [e1]
      simp [Value.ownBlock]))
     obtain ⟨g,cur,e1,_,e2⟩:=row_block rk pk
     exact ⟨k,gk,fun e0=>h3 e he (by rw [ek,e0]),ek,r2.kept g3 (.inr n1),pk,g,e1,(Array.getElem?_eq_some_iff.1 e2).1⟩
    have sz1:w1.heap.size=w.heap.size:=by rw [hw1];simp
    have hlen:∀ {i:Nat} {e:MapEntry},(es.push ⟨kval (κ a),v',clock⟩).toList[i]?=some e->(es.toList[i]?=some e/\e ∈ es.toList) \/ (i=es.size/\e=⟨kval (κ a),v',clock⟩):=fun {i e} hi=>by
     rw [Array.toList_push,List.getElem?_append] at hi
     split at hi
     ·exact .inl ⟨hi,List.mem_of_getElem? hi⟩
     ·rename_i hlt
      rw [Array.length_toList] at hlt hi
      rcases Nat.lt_or_ge (i-es.size) 1 with h0|h0
      ·have:i-es.size=0:=by omega
       rw [this] at hi
       injection hi with hi
       exact .inr ⟨by omega,hi.symm⟩
      ·rw [List.getElem?_eq_none (by simpa using h0)] at hi
       cases hi
    refine ⟨by rw [hw3];exact (heap_set hb2).1,fun e he=>?_,?_,fun e he=>?_,fun i j e e' hi hj hke=>?_,fun i j e e' hi hj hbe=>?_,fun a' ha'=>?_⟩
    ·rw [Array.toList_push] at he
     rcases List.mem_append.1 he with he|he
     ·exact Nat.lt_succ_of_lt (h.born e he)
     ·rw [List.mem_singleton.1 he];exact Nat.lt_succ_self _
    ·simp only [Array.toList_push,List.map_append,List.map_cons,List.map_nil]
     refine List.nodup_append.2 ⟨h.nodup,by simp,fun x hx c hc e1=>?_⟩
     simp only [List.mem_singleton] at hc
     obtain ⟨y,hy,rfl⟩:=List.mem_map.1 hx
     have:=h.born y hy
     omega
    ·rw [Array.toList_push] at he
     rcases List.mem_append.1 he with he|he
     ·obtain ⟨k,gk,nk,ek,rk,pk,_⟩:=old e he
      refine ⟨k,gk,ek,?_,?_⟩
      ·rw [sel_snoc_ne nk];exact rk
      ·rw [sel_snoc_ne nk];exact pk
     ·rw [List.mem_singleton.1 he]
      refine ⟨κ a,hk,rfl,?_,?_⟩
      ·rw [sel_snoc_eq,arsCells_snoc,List.length_append]
       exact ho.kept g3 (.inr nb)
      ·rw [sel_snoc_eq,List.length_append];exact Nat.succ_pos _
    ·rcases hlen hi with ⟨i1,i2⟩|⟨i1,i2⟩ <;> rcases hlen hj with ⟨j1,j2⟩|⟨j1,j2⟩
     ·exact h.keys i j e e' i1 j1 hke
     ·rw [j2] at hke;exact absurd hke (h3 e i2)
     ·rw [i2] at hke;exact absurd hke.symm (h3 e' j2)
     ·rw [i1,j1]
    ·rcases hlen hi with ⟨i1,i2⟩|⟨i1,i2⟩ <;> rcases hlen hj with ⟨j1,j2⟩|⟨j1,j2⟩
     ·exact h.blks i j e e' i1 j1 hbe
     ·obtain ⟨_,_,_,_,_,_,g,e1,e2⟩:=old e i2
      rw [j2,e1] at hbe
      have hbe:some g=v'.ownBlock:=hbe
      rw [hat'] at hbe
      have hbe:=Option.some.inj hbe
      omega
     ·obtain ⟨_,_,_,_,_,_,g,e1,e2⟩:=old e' j2
      rw [i2,e1] at hbe
      have hbe:v'.ownBlock=some g:=hbe
      rw [hat'] at hbe
      have hbe:=Option.some.inj hbe
      omega
     ·rw [i1,j1]
    ·rcases List.mem_append.1 ha' with ha'|ha'
     ·obtain ⟨q1,e,q2,q3⟩:=h.all a' ha'
      exact ⟨q1,e,by rw [Array.toList_push];exact List.mem_append.2 (.inl q2),q3⟩
     ·rw [List.mem_singleton.1 ha']
      exact ⟨hk,_,by rw [Array.toList_push];exact List.mem_append.2 (.inr (List.mem_singleton.2 rfl)),rfl⟩
   ·rw [Array.toList_push] at hx
    rcases List.mem_append.1 hx with hx|hx
    ·exact .inr ⟨x,hx,rfl⟩
    ·rw [List.mem_singleton.1 hx];exact .inl rfl
 ·-- a content that is there
  have hj:es[j]?=some e:=by simpa using h2
  have he:=List.mem_of_getElem? h2
  obtain ⟨k',g',e',r',p'⟩:=h.ent e he
  obtain rfl:k'=κ a:=kval_inj g' hk (e'.symm.trans h3)
  have hsame:es.modify j (fun e=>{ e with key:=kval (κ a) })=es:=by
   apply Array.ext'
   rw [Array.toList_modify,ChangeMaps.modify_eq_set _ _ _ _ h2]
   have:({ e with key:=kval (κ a) }:MapEntry)=e:=by rw [<- h3]
   rw [this]
   exact WideElems.set_self _ _ _ h2
  obtain ⟨w1,hw1⟩:∃ w1:World,w1={ w with heap:=w.heap.setIfInBounds b (.map es clock) }:=⟨_,rfl⟩
  have hb1:w1.heap[b]?=some (.map es clock):=by rw [hw1];exact (heap_set h.heap).1
  have g1:w.grownBy w1 (some b):=by rw [hw1];exact grow _ h.heap
  refine ⟨e.val,e.born,w1,?_,g1,by rw [hw1];simp,r'.kept g1 (.inr (h.notb r')),fun g e0=>⟨e,he,e0⟩,fun v' w2 ho hg hat=>?_⟩
  ·rw [hw1]
   simp [Instr.mapEntry,run_underlying Tryz.underlying91,MapKept.run_getObj_map h.heap,hc,h1,hj,h3,contKey.stays w hl,hsame,MapKept.run_setObj_map _ h.heap,Result.andThen]
  ·have hb1':b<w1.heap.size:=(Array.getElem?_eq_some_iff.1 hb1).1
   have hb2:w2.heap[b]?=some (.map es clock):=(hg.block b hb1' (fun e0=>h.notb r' e0.symm)).trans hb1
   obtain ⟨w3,hw3⟩:∃ w3:World,w3={ w2 with heap:=w2.heap.setIfInBounds b (.map (es.modify j (fun e=>{ e with val:=v' })) clock) }:=⟨_,rfl⟩
   have g3:w2.grownBy w3 (some b):=by rw [hw3];exact grow _ hb2
   have sz1:w1.heap.size=w.heap.size:=by rw [hw1];simp
   have nb:v'.ownBlock ≠ some b:=by
    rcases hat with e0|e0
    ·rw [e0];exact h.notb r'
    ·rw [e0]
     intro e1
     injection e1 with e1
     omega
   have hset:(es.modify j (fun e=>{ e with val:=v' })).toList=es.toList.set j { e with val:=v' }:=by rw [Array.toList_modify,ChangeMaps.modify_eq_set _ _ _ _ h2]
   have hjl:j<es.toList.length:=(List.getElem?_eq_some_iff.1 h2).1
   have hget:∀ {i:Nat} {x:MapEntry},(es.toList.set j { e with val:=v' })[i]?=some x->(i ≠ j/\es.toList[i]?=some x) \/ (i=j/\x={ e with val:=v' }):=fun {i x} hi=>by
    rw [List.getElem?_set] at hi
    split at hi
    ·rename_i e0
     exact .inr ⟨e0.symm,(Option.some.inj hi).symm⟩
    ·rename_i e0;exact .inl ⟨fun e1=>e0 e1.symm,hi⟩
   have old:∀ (i:Nat) (x:MapEntry),i ≠ j->es.toList[i]?=some x->∃ k,GoodK k/\k ≠ κ a/\x.key=kval k/\w3.ownsRow base 100 3 x.val (sel κ L k).length (arsCells (sel κ L k))/\0<(sel κ L k).length/\(∃ g,x.val.ownBlock=some g/\g<w.heap.size)/\x.val.ownBlock ≠ v'.ownBlock:=fun i x hij hi=>by
    obtain ⟨k,gk,ek,rk,pk⟩:=h.ent x (List.mem_of_getElem? hi)
    have n1:=h.notb rk
    have n2:x.val.ownBlock ≠ e.val.ownBlock:=fun e0=>hij (h.blks i j x e hi h2 e0)
    obtain ⟨g,cur,e1,_,e2⟩:=row_block rk pk
    have lt:=(Array.getElem?_eq_some_iff.1 e2).1
    refine ⟨k,gk,fun e0=>hij (h.keys i j x e hi h2 (by rw [ek,e0,h3])),ek,((rk.kept g1 (.inr n1)).kept hg (.inr n2)).kept g3 (.inr n1),pk,⟨g,e1,lt⟩,?_⟩
    rcases hat with e0|e0
    ·rw [e0];exact n2
    ·rw [e0,e1]
     intro e3
     injection e3 with e3
     omega
   refine ⟨w3,es.modify j (fun e=>{ e with val:=v' }),clock,?_,g3,by rw [hw3];simp,?_,fun x hx=>?_⟩
   ·have hidx:es.findIdx? (fun e'=>((e'.born:Nat):Int) == ((e.born:Nat):Int))=some j:=by
     rw [WideElems.findIdx_arr]
     exact WideElems.findIdx_born h.nodup h2
    rw [hw3]
    simp [Instr.entryStore,MapKept.run_getObj_map hb2,asInt,asIntOf,goInt,hidx,MapKept.run_setObj_map _ hb2,Result.andThen]
   ·have hborn:(es.toList.set j { e with val:=v' }).map (·.born)=es.toList.map (·.born):=by
     rw [List.map_set]
     exact WideElems.set_self _ _ _ (by rw [List.getElem?_map,h2];rfl)
    refine ⟨by rw [hw3];exact (heap_set hb2).1,fun x hx=>?_,by rw [hset,hborn];exact h.nodup,fun x hx=>?_,fun i i' x x' hi hi' hke=>?_,fun i i' x x' hi hi' hbe=>?_,fun a' ha'=>?_⟩
    ·rw [hset] at hx
     rcases List.mem_or_eq_of_mem_set hx with hx|hx
     ·exact h.born x hx
     ·rw [hx];exact h.born e he
    ·rw [hset] at hx
     obtain ⟨i,hi⟩:=List.mem_iff_getElem?.1 hx
     rcases hget hi with ⟨i1,i2⟩|⟨i1,i2⟩
     ·obtain ⟨k,gk,nk,ek,rk,pk,_⟩:=old i x i1 i2
      refine ⟨k,gk,ek,?_,?_⟩
      ·rw [sel_snoc_ne nk];exact rk
      ·rw [sel_snoc_ne nk];exact pk
     ·rw [i2]
      refine ⟨κ a,hk,h3,?_,?_⟩
      ·rw [sel_snoc_eq,arsCells_snoc,List.length_append]
       exact ho.kept g3 (.inr nb)
      ·rw [sel_snoc_eq,List.length_append];exact Nat.succ_pos _
    ·rw [hset] at hi hi'
     rcases hget hi with ⟨i1,i2⟩|⟨i1,i2⟩ <;> rcases hget hi' with ⟨j1,j2⟩|⟨j1,j2⟩
     ·exact h.keys i i' x x' i2 j2 hke
     ·rw [j1];rw [j2] at hke;exact h.keys i j x e i2 h2 hke
     ·rw [i1];rw [i2] at hke;exact h.keys j i' e x' h2 j2 hke
     ·rw [i1,j1]
    ·rw [hset] at hi hi'
     rcases hget hi with ⟨i1,i2⟩|⟨i1,i2⟩ <;> rcases hget hi' with ⟨j1,j2⟩|⟨j1,j2⟩
     ·exact h.blks i i' x x' i2 j2 hbe
     ·obtain ⟨_,_,_,_,_,_,_,nq⟩:=old i x i1 i2
      rw [j2] at hbe;exact absurd hbe nq
     ·obtain ⟨_,_,_,_,_,_,_,nq⟩:=old i' x' j1 j2
      rw [i2] at hbe;exact absurd hbe.symm nq
     ·rw [i1,j1]
    ·rcases List.mem_append.1 ha' with ha'|ha'
     ·obtain ⟨q1,x,q2,q3⟩:=h.all a' ha'
      obtain ⟨i,hi⟩:=List.mem_iff_getElem?.1 q2
      by_cases hij:i=j
      ·subst hij
       have:x=e:=by rw [h2] at hi;exact (Option.some.inj hi).symm
       subst this
       exact ⟨q1,{ x with val:=v' },by rw [hset];exact List.mem_iff_getElem?.2 ⟨i,by rw [List.getElem?_set,if_pos rfl,if_pos hjl]⟩,q3⟩
      ·exact ⟨q1,x,by rw [hset];exact List.mem_iff_getElem?.2 ⟨i,by rw [List.getElem?_set,if_neg (Ne.symm hij)];exact hi⟩,q3⟩
     ·rw [List.mem_singleton.1 ha']
      exact ⟨hk,{ e with val:=v' },by rw [hset];exact List.mem_iff_getElem?.2 ⟨j,by rw [List.getElem?_set,if_pos rfl,if_pos hjl]⟩,h3⟩
   ·rw [hset] at hx
    rcases List.mem_or_eq_of_mem_set hx with hx|hx
    ·exact .inr ⟨x,hx,rfl⟩
    ·rw [hx];exact .inl rfl
theorem MapAt.empty {w:World} {base b:Nat} {κ:Ar->Kt} (h:w.heap[b]?=some (.map #[] 0)):MapAt w base b κ [] #[] 0 :=
 ⟨h,fun e he=>absurd he (List.not_mem_nil),by simp,fun e he=>absurd he (List.not_mem_nil),fun i j e e' hi=>by simp at hi,fun i j e e' hi=>by simp at hi,fun a ha=>absurd ha (List.not_mem_nil)⟩
theorem MapAt.frm {w w':World} {base b:Nat} {κ:Ar->Kt} {L:List Ar} {es:Array MapEntry} {clock:Nat} (h:MapAt w base b κ L es clock) {S:Nat->Prop} (f:Frm S w w') (hb:¬ S b) (hv:∀ e ∈ es.toList,∀ g,e.val.ownBlock=some g->¬ S g):MapAt w' base b κ L es clock:=by
 refine ⟨(f.block b (Array.getElem?_eq_some_iff.1 h.heap).1 hb).trans h.heap,h.born,h.nodup,fun e he=>?_,h.keys,h.blks,h.all⟩
 obtain ⟨k,gk,ek,rk,pk⟩:=h.ent e he
 refine ⟨k,gk,ek,⟨rk.1,?_⟩,pk⟩
 rcases rk.2 with q|⟨g,cap,cur,hv',hb',hg,rest⟩
 ·exact .inl q
 ·exact .inr ⟨g,cap,cur,hv',hb',(f.block g (Array.getElem?_eq_some_iff.1 hg).1 (hv e he g (by rw [hv'];rfl))).trans hg,rest⟩
def Off (es:Array MapEntry) (b k:Nat):Prop:=k ≠ b/\∀ e ∈ es.toList,e.val.ownBlock ≠ some k
theorem areaInfo:(Tryz.prog.info? 100).map (fun i=>(i.zero,i.size,i.bytes))=some (some (.agg #[.int .i64 0,.int .i64 0,.int .i64 0]),3,24):=by kernel_rfl
theorem sel_le (κ:Ar->Kt) (L:List Ar) (k:Kt):(sel κ L k).length<=L.length:=List.length_filter_le _ _
theorem MapAt.add {w:World} {base b:Nat} {κ:Ar->Kt} {L:List Ar} {es:Array MapEntry} {clock:Nat} (h:MapAt w base b κ L es clock) (a:Ar) (hk:GoodK (κ a)) (hbase:base<=w.heap.size) (hL:L.length<=1000) (g c:Nat) (hg:w.heap[g]?=some (.cells (arCells a).toArray 100 (0,0))) (hgo:Off es b g) :
  ∃ (v0:Value) (st:Nat) (w1:World) (v':Value) (w2 w3:World) (es':Array MapEntry) (clock':Nat),(Instr.mapEntry 91 (.map (some b)) (kval (κ a))).run Tryz.prog w=.ok (.tuple #[v0,.int .i64 st]) w1 /\
   (Builtin.append_ #[202,202] 202 #[v0,.slice (some ⟨g,0,none⟩) 1 c]).run Tryz.prog w1=.ok v' w2 /\
   (Instr.entryStore 91 (.map (some b)) (.int .i64 st) v').run Tryz.prog w2=.ok () w3/\MapAt w3 base b κ (L++[a]) es' clock'/\Frm (fun k=>¬ Off es b k) w w3/\∀ k,k<w.heap.size->Off es b k->Off es' b k:=by
 obtain ⟨v0,st,w1,e1,g1,s1,o1,p1,K⟩:=h.entry a hk
 have hgl:g<w.heap.size:=(Array.getElem?_eq_some_iff.1 hg).1
 have hg1:w1.heap[g]?=some (.cells (arCells a).toArray 100 (0,0)):=(g1.block g hgl (fun e=>hgo.1 (Option.some.inj e))).trans hg
 have hi:∃ i,Tryz.prog.info? 100=some i/\i.zero=some (.agg #[.int .i64 0,.int .i64 0,.int .i64 0])/\i.size=3/\i.bytes=24:=by
  have:=areaInfo
  cases e:Tryz.prog.info? 100 with
  | none=>rw [e] at this;cases this
  | some i =>
   rw [e] at this
   have:=Option.some.inj this
   simp only [Prod.mk.injEq] at this
   exact ⟨i,rfl,this.1,this.2.1,this.2.2⟩
 obtain ⟨i,i1,i2,i3,i4⟩:=hi
 have hle:=sel_le κ L (κ a)
 obtain ⟨v',w2,r2,o2,g2,_,at2⟩:=run_append_own_at (P:=Tryz.prog) w1 base 202 202 100 i _ 3 24 Tryz.underlying202 i1 i2 i3 i4 rfl (by decide) v0 _ _ o1 ⟨g,0,none⟩ 1 c (arCells a) rfl
  (fun j u hu=>by
   have:=cell_of_row _ _ j _ _ _ hg1
   rw [List.getElem?_toArray] at this
   have e:(⟨g,0,none⟩:Addr).add j=⟨g,j,none⟩:=by rw [Addr.add_mid,Nat.zero_add]
   rw [e,this]
   exact hu)
  (fun u hu=>by
   unfold arCells at hu
   simp at hu
   rcases hu with rfl|rfl|rfl <;> rfl)
  (by simp only [maxLen];omega) (by omega) (by omega)
 obtain ⟨w3,es',clock',r3,g3,s3,m3,b3⟩:=K v' w2 o2 g2 at2
 refine ⟨v0,st,w1,v',w2,w3,es',clock',e1,r2,r3,m3,⟨?_,?_,?_,?_,fun k hk hs=>?_⟩,fun k hk ho=>⟨ho.1,fun x hx e0=>?_⟩⟩
 ·rw [g3.os,g2.os,g1.os]
 ·rw [g3.tape,g2.tape,g1.tape]
 ·rw [g3.output,g2.output,g1.output]
 ·rw [s3];exact Nat.le_trans (by omega) g2.size
 ·have ho:Off es b k:=Classical.byContradiction hs
  have n1:some k ≠ some b:=fun e=>ho.1 (Option.some.inj e)
  have n2:some k ≠ v0.ownBlock:=fun e=>by
   obtain ⟨x,hx,ex⟩:=p1 k e.symm
   exact ho.2 x hx ex
  have l1:k<w1.heap.size:=by omega
  exact ((g3.block k (Nat.lt_of_lt_of_le l1 g2.size) n1).trans (g2.block k l1 n2)).trans (g1.block k hk n1)
 ·rcases b3 x hx with e|⟨y,hy,e⟩
  ·rw [e0] at e
   rcases at2 with q|q
   ·rw [q] at e
    obtain ⟨y,hy,ey⟩:=p1 k e.symm
    exact ho.2 y hy ey
   ·rw [q] at e
    have:=Option.some.inj e
    omega
  ·exact ho.2 y hy (e.symm.trans e0)
end
section
open Go.RowKit Go.Shelf
open Flm (Px FS)
attribute [local go_sem] Oper.semAt_some
theorem off_lt {k:Nat} (h:k<256):0<1+k*3/\1+k*3<769/\1+k*3+1<769/\1+k*3+2<769:=by omega
theorem cont_cell {w:World} {A n:Nat} {ps:List Px} (h:w.heap[A]?=some (.cells (contL n ps).toArray 200 (0,0))) (hp:ps.length<=256) {j:Nat} (h0:0<j) (h1:j<769):∃ c,w.cell? ⟨A,j,none⟩=some (.int .u8 c):=by
 obtain ⟨c,hc⟩:=contL_get (n:=n) hp h0 h1
 have h2:=cell_of_row w A j _ _ _ h
 rw [List.getElem?_toArray,hc] at h2
 exact ⟨c,h2⟩
theorem cont_store {w:World} {A n k:Nat} {ps:List Px} (h:w.heap[A]?=some (.cells (contL n ps).toArray 200 (0,0))) (hp:ps.length=k) (hk:k<256) (g0 g1 g2:Int) :
  (((w.setCell ⟨A,1+k*3,none⟩ (.int .u8 g0)).setCell ⟨A,1+k*3+1,none⟩ (.int .u8 g1)).setCell ⟨A,1+k*3+2,none⟩ (.int .u8 g2)).heap[A]?=some (.cells (contL n (ps++[(g0,g1,g2)])).toArray 200 (0,0)):=by
 rw [Go.heap_setCell_same _ _ _ _ _ _ (Go.heap_setCell_same _ _ _ _ _ _ (Go.heap_setCell_same _ _ _ _ _ _ h)),List.setIfInBounds_toArray,List.setIfInBounds_toArray,List.setIfInBounds_toArray,<- contL_set (by omega) (g0,g1,g2),hp]
def ContJ (z:Nat) (T:List Px) (n:Nat) (A I:Nat) (XG W:World) {x y:Nat} (pre:List (Pt x y n)):Prop:=W.heap[A]?=some (.cells (contL n ((pre.map (·.1)).map (Pk.pixT z T))).toArray 200 (0,0))/\W.heap[I]?=some (.cells #[.int .i64 pre.length] 3 (0,0))/\Frm (fun k=>k=A \/ k=I) XG W
set_option maxRecDepth 100000 in
theorem pContent {C:Nat} (w:World) (nb z:Nat) (T:List Px) (hz:z=4 \/ z=8 \/ z=16) (h:PixIn w nb (z*z) T) (x y n:Nat) (hx:x+n<=z) (hy:y+n<=z) :
  Calls Tryz.prog 106 #[.agg #[.int .i64 z,.slice (some ⟨nb,0,none⟩) (z*z) C],.agg #[.int .i64 x,.int .i64 y,.int .i64 n]] w fun e w'=>e=.returned (.agg (contL n (Pk.content z T n (x,y))).toArray)/\Below w.heap.size w w':=by
 have hz16:z<=16/\z*z<=256:=by rcases hz with rfl|rfl|rfl <;> decide
 have hnn:n*n<=256:=Nat.le_trans (Nat.mul_le_mul (by omega) (by omega)) hz16.2
 obtain ⟨Z,hZ⟩:∃ Z,Z=z*z:=⟨_,rfl⟩
 obtain ⟨H,hH⟩:∃ H,H=w.heap.size:=⟨_,rfl⟩
 have hmx:Tryz.prog.follows .mixedOrders=true:=by kernel_rfl
 obtain ⟨hzero,hsize⟩:=zero_of_info contInfo
 obtain ⟨O,hO⟩:∃ O,O=(contL 0 []).toArray:=⟨_,rfl⟩
 rw [<- hO] at hzero
 have hOs:O.size=769:=by rw [hO,List.size_toArray];exact contL_len (by decide)
 have hOn:O ≠ #[]:=fun e=>by rw [e] at hOs;exact absurd hOs (by decide)
 have hOset:O.setIfInBounds 0 (.int .i64 n)=(contL n []).toArray:=by rw [hO,List.setIfInBounds_toArray];rfl
 obtain ⟨F,hF⟩:∃ F,F=(contL n []).toArray:=⟨_,rfl⟩
 rw [<- hF] at hOset
 have hFs:F.size=769:=by rw [hF,List.size_toArray];exact contL_len (by decide)
 have hF1:F.all (·.oneCell')=true:=by rw [hF];exact all_oneCell_toArray (contL_one n [])
 obtain ⟨W3,hW3⟩:∃ W3,W3=((w.alloc (.cells #[.int .i64 z,.slice (some ⟨nb,0,none⟩) Z C] 89)).alloc (.cells #[.int .i64 x,.int .i64 y,.int .i64 n] 100)).alloc (.cells O 200):=⟨_,rfl⟩
 have hs3:W3.heap.size=H+1+1+1:=by rw [hW3,hH];simp
 have hB3:Below w.heap.size w W3:=by rw [hW3];exact below3 w _ _ _
 have hx0:W3.heap[H]?=some (.cells #[.int .i64 z,.slice (some ⟨nb,0,none⟩) Z C] 89):=by
  rw [hW3,hH];exact (Below.heap_alloc _ _ _ (by simp only [World.size_alloc];omega)).trans ((Below.heap_alloc _ _ _ (by simp only [World.size_alloc];omega)).trans (heap_alloc_last w _))
 have hx1:W3.heap[H+1]?=some (.cells #[.int .i64 x,.int .i64 y,.int .i64 n] 100):=by
  have:=heap_alloc_last (w.alloc (.cells #[.int .i64 z,.slice (some ⟨nb,0,none⟩) Z C] 89)) (.cells #[.int .i64 x,.int .i64 y,.int .i64 n] 100)
  rw [World.size_alloc] at this
  rw [hW3,hH];exact (Below.heap_alloc _ _ _ (by simp only [World.size_alloc];omega)).trans this
 have hx2:W3.heap[H+1+1]?=some (.cells O 200):=by
  have:=heap_alloc_last ((w.alloc (.cells #[.int .i64 z,.slice (some ⟨nb,0,none⟩) Z C] 89)).alloc (.cells #[.int .i64 x,.int .i64 y,.int .i64 n] 100)) (.cells O 200)
  simp only [World.size_alloc] at this
  rw [hW3,hH];exact this
 have k10:=cell_of_row _ _ 0 _ _ _ hx1
 have k11:=cell_of_row _ _ 1 _ _ _ hx1
 have k12:=cell_of_row _ _ 2 _ _ _ hx1
 simp at k10 k11 k12
 have hB5:Below W3.heap.size W3 ((W3.alloc (.cells F 200)).alloc (.cells #[.int .i64 0] 3)):=((Below.refl _ W3).alloc (Nat.le_refl _) _).alloc (by simp) _
 have hlt1:H+1<W3.heap.size:=by omega
 have j10:=(hB5.cell (p:=⟨H+1,0,none⟩) hlt1).trans k10
 have j11:=(hB5.cell (p:=⟨H+1,1,none⟩) hlt1).trans k11
 have j12:=(hB5.cell (p:=⟨H+1,2,none⟩) hlt1).trans k12
 have HB5:Hid (Below W3.heap.size W3 ((W3.alloc (.cells F 200)).alloc (.cells #[.int .i64 0] 3))):=hB5
 have HW3:Hid (W3=((w.alloc (.cells #[.int .i64 z,.slice (some ⟨nb,0,none⟩) Z C] 89)).alloc (.cells #[.int .i64 x,.int .i64 y,.int .i64 n] 100)).alloc (.cells O 200)):=hW3
 have HSZ:Hid ((Tryz.prog.info? 200).map (·.size)=some 769):=hsize
 have HF:Hid (F=(contL n []).toArray):=hF
 have HH:Hid (H=w.heap.size/\W3.heap.size=H+1+1+1/\Below w.heap.size w W3):=⟨hH,hs3,hB3⟩
 have HX:Hid (W3.heap[H]?=some (.cells #[.int .i64 z,.slice (some ⟨nb,0,none⟩) Z C] 89)/\W3.heap[H+1]?=some (.cells #[.int .i64 x,.int .i64 y,.int .i64 n] 100)/\W3.heap[H+1+1]?=some (.cells O 200)):=⟨hx0,hx1,hx2⟩
 have HP:Hid (PixIn W3 nb (z*z) T):=h.below hB3
 have HZ:Hid (Z=z*z):=hZ
 rw [<- hZ]
 clear hW3 hx0 hx1 hx2 hB3 hsize hO hF hs3 h hZ hH hB5 hlt1
 refine (callsIn_wide (n:=5)).1 ?_
 refine callsIn_of_wp_marks Tryz.func106 rfl trivial ?_ rfl
 simp only [Tryz.ntmps106,List.size_toArray,List.length_cons,List.length_nil,Nat.reduceAdd,Nat.reduceSub,Array.replicate_succ,Array.replicate_zero,List.push_toArray,List.append_toArray,List.nil_append,List.cons_append]
 refine wpIn_wide.2 ?_
 go_wp2_with (first
  | (rw [<- HW3.out,<- HH.out.1])
  | (refine wpList_store_row rfl 200 _ _ rfl W3.heap.size F rfl rfl 200 O (heap_alloc_last W3 _) (by rw [HSZ.out,hFs]) (by rw [hOs,hFs]) hF1 ?_;rw [World.setRow_alloc_new])
  | (go_at_call 105;refine (pPoints _ _ _ _).mono ?_;rintro e wq ⟨rfl,rfl⟩))
 clear j10 j11 j12 k10 k11 k12
 obtain ⟨A,hA⟩:∃ A,A=W3.heap.size:=⟨_,rfl⟩
 obtain ⟨G,hG⟩:∃ G,G=A+1+1:=⟨_,rfl⟩
 obtain ⟨XG,hXG⟩:∃ XG,XG=(((W3.alloc (.cells F 200)).alloc (.cells #[.int .i64 0] 3)).alloc (.cells #[.int .i64 x,.int .i64 y,.int .i64 n] 100)):=⟨_,rfl⟩
 have hBX:Below W3.heap.size W3 XG:=by rw [hXG];exact HB5.out.alloc HB5.out.size _
 have hsX:XG.heap.size=A+1+1+1:=by rw [hXG,hA];simp
 have hit:XG.heap[G]?=some (.cells #[.int .i64 x,.int .i64 y,.int .i64 n] 100 (0,0)):=by
  have:=heap_alloc_last ((W3.alloc (.cells F 200)).alloc (.cells #[.int .i64 0] 3)) (.cells #[.int .i64 x,.int .i64 y,.int .i64 n] 100)
  simp only [World.size_alloc] at this
  rw [hXG,hG,hA];exact this
 have hxA:XG.heap[A]?=some (.cells F 200 (0,0)):=by
  rw [hXG,hA];exact (Below.heap_alloc _ _ _ (by simp only [World.size_alloc];omega)).trans ((Below.heap_alloc _ _ _ (by simp only [World.size_alloc];omega)).trans (heap_alloc_last W3 _))
 have hxI:XG.heap[A+1]?=some (.cells #[.int .i64 0] 3 (0,0)):=by
  have:=heap_alloc_last (W3.alloc (.cells F 200)) (.cells #[.int .i64 0] 3)
  simp only [World.size_alloc] at this
  rw [hXG,hA];exact (Below.heap_alloc _ _ _ (by simp only [World.size_alloc];omega)).trans this
 have hAH:A=H+1+1+1:=by rw [hA];exact HH.out.2.1
 have HI0:Hid (ContJ z T n A (A+1) XG XG ([]:List (Pt x y n))):=⟨by rw [hxA,HF.out];rfl,hxI,Frm.refl _ _⟩
 have HXG:Hid (Below W3.heap.size W3 XG/\A=W3.heap.size):=⟨hBX,hA⟩
 rw [<- hA,<- hXG,<- hG]
 have hHA:H+1+1<A:=by omega
 have hGA:A+1<G:=by omega
 have hXA:G<XG.heap.size:=by omega
 have HEQ:Hid (G=A+1+1/\A=H+1+1+1/\XG.heap.size=A+1+1+1):=⟨hG,hAH,hsX⟩
 clear hXG hBX hxA hxI hA hG hAH hsX
 refine (wpIn_wide (n:=5)).1 ?_
 refine wpIn_rangeFunc_ownF rfl (by decide) (gf:=131) (lb:=#[.pointer (some ⟨G,0,none⟩)]) rfl trivial (enters_of Tryz.func131 (by kernel_rfl) rfl)
  (points_stops Fence.wide (5-1) trivial rfl (by decide) G x y n (by omega) (by omega) XG hit)
  (fun h1 h2=>h2.trans h1) (fun W l o o' hl _ _ _=>World.putObj_heap_other (by omega)) (Below.refl _ _) (fun _=>rfl)
  (fun pre W=>ContJ z T n A (A+1) XG W pre)
  (fun _ _ _=>False)
  ?own (fun _ _ _ _ _ hs _ _=>hs) HI0.out
  (fun pt=>{ tmps:=#[.agg #[.int .i64 z,.slice (some ⟨nb,0,none⟩) Z C],.agg #[.int .i64 x,.int .i64 y,.int .i64 n],.pointer (some ⟨H,0,none⟩),.pointer (some ⟨H+1,0,none⟩),.pointer (some ⟨H+1+1,0,none⟩),.pointer (some ⟨A,0,none⟩),.pointer (some ⟨A+1,0,none⟩),.int .i64 pt.1.1,.int .i64 pt.1.2,.pointer (some ⟨H+1,2,none⟩),.int .i64 n,.agg F,.agg #[.int .i64 x,.int .i64 y,.int .i64 n],.func (.func 131) #[] #[.pointer (some ⟨G,0,none⟩)],.int .i64 pt.1.1,.int .i64 pt.1.2,undef,undef,undef,undef,undef,undef,undef,undef,undef,undef],defers:=[] }) ?assign ?body ?done ?stop
 case own =>
  rintro pre W W' row ⟨i1,i2,i3⟩ hg hr
  have hr':∀ r,row=some r->A+1<r:=fun r e=>by have:=(hr r e).1;omega
  have fg:Frm (fun k=>row=some k) W W':=(Frm.refl _ W).grown hg (fun k e=>.inl e)
  exact ⟨(fg.block _ (heap_lt0 i1) (fun e=>by have:=hr' _ e;omega)).trans i1,(fg.block _ (heap_lt0 i2) (fun e=>by have:=hr' _ e;omega)).trans i2,i3.grown hg (fun k e=>.inr (hr k e).1)⟩
 case assign =>
  intro l pt W K hK
  dsimp only [encPt]
  gi_wp2
  exact hK
 case body =>
  rintro lb pre ⟨⟨PX,PY⟩,⟨hpx1,hpx2⟩,hpy1,hpy2⟩ W ⟨i1,i2,i3⟩ hlen
  dsimp only at hpx1 hpx2 hpy1 hpy2 ⊢
  obtain ⟨ps,hps⟩:∃ ps,ps=(pre.map (·.1)).map (Pk.pixT z T):=⟨_,rfl⟩
  rw [<- hps] at i1
  obtain ⟨k,hk⟩:∃ k,k=pre.length:=⟨_,rfl⟩
  have hpl:ps.length=k:=by rw [hps,hk];simp
  have hk256:k<256:=by omega
  rw [<- hk] at i2
  obtain ⟨g0,g1,g2,hg⟩:∃ g0 g1 g2,T.getD (PY*z+PX) (0,0,0)=(g0,g1,g2):=⟨_,_,_,rfl⟩
  have hfar:∀ j,j<A->¬ (j=A \/ j=A+1):=fun j hj e=>by omega
  have HPW:Hid (PixIn W nb (z*z) T):=(HP.out.below HXG.out.1).frm i3 (hfar nb (by have:=HP.out.1;have:=HXG.out.2;omega))
  have HA:Hid (Calls Tryz.prog 113 #[.agg #[.int .i64 z,.slice (some ⟨nb,0,none⟩) Z C],.int .i64 PX,.int .i64 PY] W.drew fun e w'=>e=.returned (.agg #[.int .u8 g0,.int .u8 g1,.int .u8 g2])/\Below W.heap.size W w'):=by
   have:=pAt (C:=C) W.drew nb z T hz16.2 (HPW.out.below ⟨rfl,rfl,rfl,Nat.le_refl _,fun _ _=>rfl⟩) PX PY (by omega) (by omega)
   rw [hg] at this
   rw [Hid,HZ.out]
   exact this.mono fun e w' he=>⟨he.1,(⟨rfl,rfl,rfl,Nat.le_refl _,fun _ _=>rfl⟩:Below W.heap.size W W.drew).trans he.2⟩
  have hcH:=HX.out.1
  have c0:W.cell? ⟨H,0,none⟩=some (.int .i64 z):=i3.cell ((HXG.out.1.cell (p:=⟨H,0,none⟩) (by rw [<- HXG.out.2];show H<A;omega)).trans (cell_of_row _ _ 0 _ _ _ hcH)) (hfar H (by omega))
  have c1:W.cell? ⟨H,1,none⟩=some (.slice (some ⟨nb,0,none⟩) Z C):=i3.cell ((HXG.out.1.cell (p:=⟨H,1,none⟩) (by rw [<- HXG.out.2];show H<A;omega)).trans (cell_of_row _ _ 1 _ _ _ hcH)) (hfar H (by omega))
  have ck:W.cell? ⟨A+1,0,none⟩=some (.int .i64 k):=cell_of_row _ _ 0 _ _ _ i2
  have hk':(k:Int)<256:=by omega
  have wk:wrap64 ((k:Int)+1)=(k:Int)+1:=by unfold wrap64;omega
  have HI:Hid (W.heap[A]?=some (.cells (contL n ps).toArray 200 (0,0))/\W.heap[A+1]?=some (.cells #[.int .i64 k] 3 (0,0))/\Frm (fun k=>k=A \/ k=A+1) XG W):=⟨i1,i2,i3⟩
  have HPS:Hid (ps=(pre.map (·.1)).map (Pk.pixT z T)/\k=pre.length/\Pk.pixT z T (PX,PY)=(g0,g1,g2)):=⟨hps,hk,hg⟩
  clear i1 i2 i3 hps hk hg hcH
  gi_wp2
  refine region_round_at (S:=fun w'=>w'.cell? ⟨A+1,0,none⟩=some (.int .i64 k)/\w'.cell? ⟨H,0,none⟩=some (.int .i64 z)/\w'.cell? ⟨H,1,none⟩=some (.slice (some ⟨nb,0,none⟩) Z C)) 8 #[false,false,false,false,false,false,false,false] rfl rfl hmx (by kernel_rfl) (fun ⟨_,_,h⟩=>h) ?_
  have hS0:(W.drew.cell? ⟨A+1,0,none⟩=some (.int .i64 k)/\W.drew.cell? ⟨H,0,none⟩=some (.int .i64 z)/\W.drew.cell? ⟨H,1,none⟩=some (.slice (some ⟨nb,0,none⟩) Z C)):=⟨ck,c0,c1⟩
  refine tk_at 0 16 (.int .i64 k) #[true,false,false,false,false,false,false,false] rfl rfl rfl (by kernel_rfl) (by rfl) (by rintro w ⟨t0,t1,t2⟩;go_simp) (by assumption) ?_
  simp only [sIb,sCs,sCz]
  refine tk_at 1 17 (.agg #[.int .i64 z,.slice (some ⟨nb,0,none⟩) Z C]) #[true,true,false,false,false,false,false,false] rfl rfl rfl (by kernel_rfl) (by rfl) (by rintro w ⟨t0,t1,t2⟩;go_simp) (by assumption) ?_
  simp only [sIb,sCs,sCz]
  refine tk_at 2 18 (.int .i64 PX) #[true,true,true,false,false,false,false,false] rfl rfl rfl (by kernel_rfl) (by rfl) (by rintro w ⟨t0,t1,t2⟩;go_simp) (by assumption) ?_
  simp only [sIb,sCs,sCz]
  refine tk_at 3 19 (.int .i64 PY) #[true,true,true,true,false,false,false,false] rfl rfl rfl (by kernel_rfl) (by rfl) (by rintro w ⟨t0,t1,t2⟩;go_simp) (by assumption) ?_
  simp only [sIb,sCs,sCz]
  refine tk_at 5 21 (.pointer (some ⟨A,1,none⟩)) #[true,true,true,true,false,true,false,false] rfl rfl rfl (by kernel_rfl) (by rfl) (by rintro w ⟨t0,t1,t2⟩;go_simp) (by assumption) ?_
  simp only [sIb,sCs,sCz]
  refine enter_at (i:=4) (d:=20) (f:=113) (args:=#[.agg #[.int .i64 z,.slice (some ⟨nb,0,none⟩) Z C],.int .i64 PX,.int .i64 PY]) #[true,true,true,true,true,true,false,false] (by kernel_rfl) rfl rfl rfl (by rfl) (by go_simp) (fun r w'=>r=.agg #[.int .u8 g0,.int .u8 g1,.int .u8 g2]/\Below W.heap.size W w') (HA.out.mono (fun r w' he=>⟨_,he.1,rfl,he.2⟩)) ?_
  rintro va wa ⟨rfl,ba⟩
  have cc:∀ (a:Addr) (v:Value),W.cell? a=some v->wa.cell? a=some v:=fun a v e=>(ba.cell (World.block_lt_of_cell? W _ e)).trans e
  have hSA:(wa.cell? ⟨A+1,0,none⟩=some (.int .i64 k)/\wa.cell? ⟨H,0,none⟩=some (.int .i64 z)/\wa.cell? ⟨H,1,none⟩=some (.slice (some ⟨nb,0,none⟩) Z C)):=⟨cc _ _ ck,cc _ _ c0,cc _ _ c1⟩
  refine ⟨hSA,?_⟩
  simp only [sIb,sCs,sCz]
  refine tk_at 6 22 (.pointer (some ⟨A,1+k*3,none⟩)) #[true,true,true,true,true,true,true,false] rfl rfl rfl (by kernel_rfl) (by rfl) (by rintro w ⟨t0,t1,t2⟩;go_simp) (by assumption) ?_
  simp only [sIb,sCs,sCz]
  obtain ⟨i1,i2,i3⟩:=HI.out
  have hAa:wa.heap[A]?=some (.cells (contL n ps).toArray 200 (0,0)):=(ba.block A (heap_lt0 i1)).trans i1
  have hIa:wa.heap[A+1]?=some (.cells #[.int .i64 k] 3 (0,0)):=(ba.block (A+1) (heap_lt0 i2)).trans i2
  have hp256:ps.length<=256:=by rw [hpl];exact Nat.le_of_lt hk256
  obtain ⟨q0,m0⟩:=cont_cell hAa hp256 (j:=1+k*3) (off_lt hk256).1 (off_lt hk256).2.1
  obtain ⟨q1,m1⟩:=cont_cell hAa hp256 (j:=1+k*3+1) (Nat.succ_pos _) (off_lt hk256).2.2.1
  obtain ⟨q2,m2⟩:=cont_cell hAa hp256 (j:=1+k*3+2) (Nat.succ_pos _) (off_lt hk256).2.2.2
  have n0:=frozen_of_row _ _ (1+k*3) _ _ hAa
  have n1:=frozen_of_row _ _ (1+k*3+1) _ _ hAa
  have n2:=frozen_of_row _ _ (1+k*3+2) _ _ hAa
  obtain ⟨X,hX⟩:∃ X,X=((wa.setCell ⟨A,1+k*3,none⟩ (.int .u8 g0)).setCell ⟨A,1+k*3+1,none⟩ (.int .u8 g1)).setCell ⟨A,1+k*3+2,none⟩ (.int .u8 g2):=⟨_,rfl⟩
  have fX:Frm (fun j=>j=A) wa X:=by rw [hX];exact (((Frm.refl (fun j=>j=A) wa).setCell (p:=⟨A,1+k*3,none⟩) (.inl rfl) _).setCell (p:=⟨A,1+k*3+1,none⟩) (.inl rfl) _).setCell (p:=⟨A,1+k*3+2,none⟩) (.inl rfl) _
  have hAX:X.heap[A]?=some (.cells (contL n (ps++[(g0,g1,g2)])).toArray 200 (0,0)):=by rw [hX];exact cont_store hAa hpl hk256 g0 g1 g2
  have hIX:X.heap[A+1]?=some (.cells #[.int .i64 k] 3 (0,0)):=(fX.block (A+1) (heap_lt0 hIa) (by omega)).trans hIa
  have hHne:¬ H=A:=by omega
  have HE0:Hid True:=trivial
  have hS2:(X.cell? ⟨A+1,0,none⟩=some (.int .i64 k)/\X.cell? ⟨H,0,none⟩=some (.int .i64 z)/\X.cell? ⟨H,1,none⟩=some (.slice (some ⟨nb,0,none⟩) Z C)):=⟨cell_of_row _ _ 0 _ _ _ hIX,fX.cell (cc _ _ c0) hHne,fX.cell (cc _ _ c1) hHne⟩
  refine store_at (i:=7) (w':=X) #[true,true,true,true,true,true,true,true] (by kernel_rfl) rfl rfl rfl (by rfl) ?y7 hS2 ?r7
  case y7 =>
   rw [hX]
   clear hX fX hAX hIX hS2 hSA hS0 cc hAa hIa HI HE0 i1 i2 i3 ck c0 c1 ba HA HPW
   go_simp
  case r7 =>
  refine wpAnyH_done (by kernel_rfl) ?_ _
  have cX:X.cell? ⟨A+1,0,none⟩=some (.int .i64 k):=cell_of_row _ _ 0 _ _ _ hIX
  have zX:X.frozen? ⟨A+1,0,none⟩=false:=frozen_of_row _ _ 0 _ _ hIX
  have HE:Hid (X.heap[A]?=some (.cells (contL n (ps++[(g0,g1,g2)])).toArray 200 (0,0))/\X.heap[A+1]?=some (.cells #[.int .i64 k] 3 (0,0))/\Frm (fun j=>j=A) wa X/\Below W.heap.size W wa):=⟨hAX,hIX,fX,ba⟩
  clear hAa hIa m0 m1 m2 n0 n1 n2 hX fX hAX hIX hS2 hSA hS0 cc ck c0 c1 i1 i2 i3 ba
  clear hnn hz16 hlen hOs hFs hOset hF1 hzero hOn hz hx hy hp256 hpl hk256 hfar HPW HA hk' hHne
  gi_wp2
  obtain ⟨i1,i2,i3⟩:=HI.out
  obtain ⟨j1,j2,j3,j4⟩:=HE.out
  have fW:Frm (fun j=>j=A \/ j=A+1) W (X.setCell ⟨A+1,0,none⟩ (.int .i64 ((k:Int)+1))):=((Frm.of_below (S:=fun j=>j=A \/ j=A+1) j4).trans (j3.mono fun _ _ e=>.inl e)).setCell (.inl (.inr rfl)) _
  refine ⟨keeps_cells fW (fun j e=>e.elim (fun e=>by rw [e];exact ⟨_,_,_,i1⟩) (fun e=>by rw [e];exact ⟨_,_,_,i2⟩)),fW.block G (Nat.lt_of_lt_of_le hXA i3.size) (fun e=>e.elim (fun e=>by rw [e] at hGA;exact absurd hGA (Nat.not_lt.2 (Nat.le_succ _))) (fun e=>by rw [e] at hGA;exact absurd hGA (Nat.lt_irrefl _))),?_,?_,i3.trans fW⟩
  ·rw [List.map_append,List.map_append,<- HPS.out.1,Below.heap_setCell _ ⟨A+1,0,none⟩ _ A (by show ¬ A=A+1;omega),j1]
   show some (Obj.cells (contL n (ps++[(g0,g1,g2)])).toArray _ _)=some (Obj.cells (contL n (ps++[Pk.pixT z T (PX,PY)])).toArray _ _)
   rw [HPS.out.2.2]
  ·rw [Go.heap_setCell_same _ _ _ _ _ _ j2,List.length_append,<- HPS.out.2.1]
   simp
 case done =>
  rintro D xs W hD hxs ⟨i1,i2,i3⟩ hK
  have hps:(xs.map (·.1)).map (Pk.pixT z T)=Pk.content z T n (x,y):=by rw [hxs];rfl
  rw [hps] at i1
  obtain ⟨R,hR⟩:∃ R,R=contL n (Pk.content z T n (x,y)):=⟨_,rfl⟩
  have hRl:R.length=769:=by rw [hR];exact contL_len (by rw [Pk.content,List.length_map,Flm.spots_len];exact hnn)
  have hR1:R.toArray.all (·.oneCell')=true:=by rw [hR];exact all_oneCell_toArray (contL_one _ _)
  rw [<- hR] at i1
  have HR:Hid (R=contL n (Pk.content z T n (x,y))):=hR
  clear hR hps
  have hrg:W.rangeAt A 0 R:=fun j v hv=>by rw [Nat.zero_add,cell_of_row _ _ j _ _ _ i1,List.getElem?_toArray];exact hv
  have hH2:H+1+1<W3.heap.size:=by rw [<- HXG.out.2];exact hHA
  have hO2:W.heap[H+1+1]?=some (.cells O 200 (0,0)):=(i3.block (H+1+1) (Nat.lt_of_lt_of_le hH2 HXG.out.1.size) (fun e=>e.elim (fun e=>by rw [e] at hHA;exact absurd hHA (Nat.lt_irrefl _)) (fun e=>by rw [e] at hHA;exact absurd hHA (Nat.not_lt.2 (Nat.le_succ _))))).trans ((HXG.out.1.block (H+1+1) hH2).trans HX.out.2.2)
  have HK:Hid (W.heap[D]?=some (.deferred (some []))/\Frm (fun k=>k=A \/ k=A+1) XG W/\XG.heap.size<=D/\W.heap[H+1+1]?=some (.cells O 200 (0,0))):=⟨hK,i3,hD,hO2⟩
  clear hnn hz16 hFs hOset hF1 hzero hOn hz hx hy i1 i2 i3 hxs hK hit hD
  go_wp2_with (first
   | (refine wpList_load_mid rfl 200 (.tmp 5) rfl A 0 rfl R _ hrg Tryz.underlying200 rfl (by rw [HSZ.out,hRl]) ?_)
   | (refine wpList_store_row rfl 200 _ _ rfl (H+1+1) R.toArray rfl rfl 200 O hO2 (by rw [HSZ.out,List.size_toArray,hRl]) (by rw [hOs,List.size_toArray,hRl]) hR1 ?_))
  obtain ⟨r1,r2,r3,r4⟩:=HK.out
  obtain ⟨X2,hX2⟩:∃ X2,X2=W.setRow (H+1+1) R.toArray:=⟨_,rfl⟩
  rw [<- hX2]
  have hDH:D ≠ H+1+1:=by omega
  have g2:X2.heap[H+1+1]?=some (.cells R.toArray 200 (0,0)):=by rw [hX2];exact setRow_heap W _ O _ _ _ r4
  have fX:Frm (fun k=>k=H+1+1) W X2:=by rw [hX2];exact ⟨rfl,rfl,rfl,by simp [World.setRow],fun k _ hn=>setRow_other W (H+1+1) k R.toArray hn⟩
  have hKX:X2.heap[D]?=some (.deferred (some [])):=(fX.block D (heap_lt0 r1) hDH).trans r1
  have hg:=grownBy_putObj' X2 D (.deferred none)
  have fg:Frm (fun k=>k=D) X2 (X2.putObj D (.deferred none)):=(Frm.refl _ X2).grown hg (fun k e=>by cases e;exact .inl rfl)
  have g3:(X2.putObj D (.deferred none)).heap[H+1+1]?=some (.cells R.toArray 200 (0,0)):=(fg.block _ (heap_lt0 g2) (Ne.symm hDH)).trans g2
  have hld:=run_loadVar_row (P:=Tryz.prog) (X2.putObj D (.deferred none)) (H+1+1) 200 200 R.toArray (0,0) _ g3 Tryz.underlying200 rfl (by rw [HSZ.out,List.size_toArray,hRl])
  refine retM_mark (v:=.agg R.toArray) rfl hKX (by simp [results,Tryz.results106,Act.put,asAddr,hld]) ⟨by rw [HR.out],?_⟩
  have hw:=HH.out.1
  have hb0:Below w.heap.size w XG:=HH.out.2.2.trans (HXG.out.1.mono HH.out.2.2.size)
  have hb1:Below w.heap.size w W:=hb0.trans (r2.below hb0.size (fun k e=>by omega))
  have hb2:Below w.heap.size w X2:=hb1.trans (fX.below hb1.size (fun k e=>by omega))
  exact hb2.trans (fg.below hb2.size (fun k e=>by have:=hb0.size;omega))
 case stop =>
  rintro D c pre W hD hpre hf hK
  exact hf.elim
end
end Go.Proofs.YtekfbphnoibnjaaGreatDoor
