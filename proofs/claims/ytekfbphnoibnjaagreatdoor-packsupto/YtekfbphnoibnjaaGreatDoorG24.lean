/-
  PCont0 PKey PMap
-/
import Derived.Test.YtekfbphnoibnjaaGreatDoorG19
import Derived.WideKeyEntry
import Derived.Maps.OwnIn
set_option maxHeartbeats 4000000
namespace Go.Proofs.YtekfbphnoibnjaaGreatDoor
section
open Go.RowKit
open Flm (Px FS)
def contL (n:Nat) (ps:List Px):List Value:=.int .i64 n :: (pxCells ps++List.replicate (768-ps.length*3) (.int .u8 0))
theorem contL_len {n:Nat} {ps:List Px} (h:ps.length<=256):(contL n ps).length=769:=by
 unfold contL
 rw [List.length_cons,List.length_append,pxCells_len,List.length_replicate]
 omega
theorem contL_one (n:Nat) (ps:List Px):∀ u ∈ contL n ps,u.oneCell'=true:=by
 intro u hu
 unfold contL at hu
 rcases List.mem_cons.1 hu with rfl|hu
 ·rfl
 ·rcases List.mem_append.1 hu with hu|hu
  ·unfold pxCells at hu
   obtain ⟨p,_,hp⟩:=List.mem_flatMap.1 hu
   simp at hp
   rcases hp with rfl|rfl|rfl <;> rfl
  ·rw [List.eq_of_mem_replicate hu];rfl
theorem contL_set {n:Nat} {ps:List Px} (h:ps.length<256) (p:Px):(((contL n ps).set (1+ps.length*3) (.int .u8 p.1)).set (1+ps.length*3+1) (.int .u8 p.2.1)).set (1+ps.length*3+2) (.int .u8 p.2.2)=contL n (ps++[p]):=by
 have hl:=pxCells_len ps
 have e1:pxCells (ps++[p])=pxCells ps++[.int .u8 p.1,.int .u8 p.2.1,.int .u8 p.2.2]:=by simp [pxCells]
 obtain ⟨m,hm⟩:∃ m,768-ps.length*3=m+3:=⟨768-ps.length*3-3,by omega⟩
 have hm2:768-(ps++[p]).length*3=m:=by rw [List.length_append];simp;omega
 unfold contL
 rw [hm2,e1,hm,Nat.add_comm 1,show ps.length*3+1+1=(ps.length*3+1)+1 by omega,show ps.length*3+1+2=(ps.length*3+2)+1 by omega,List.set_cons_succ,List.set_cons_succ,List.set_cons_succ]
 congr 1
 rw [List.replicate_succ,List.replicate_succ,List.replicate_succ,List.set_append_right _ _ (by omega),List.set_append_right _ _ (by omega),List.set_append_right _ _ (by omega),hl]
 rw [Nat.sub_self,show ps.length*3+1-ps.length*3=1 by omega,show ps.length*3+2-ps.length*3=2 by omega]
 simp
theorem contL_get {n:Nat} {ps:List Px} {j:Nat} (h:ps.length<=256) (h0:0<j) (h1:j<769):∃ c,(contL n ps)[j]?=some (.int .u8 c):=by
 have hl:=contL_len (n:=n) h
 obtain ⟨k,rfl⟩:∃ k,j=k+1:=⟨j-1,by omega⟩
 have hk:k<(pxCells ps++List.replicate (768-ps.length*3) (Value.int .u8 0)).length:=by
  unfold contL at hl
  rw [List.length_cons] at hl
  omega
 unfold contL
 rw [List.getElem?_cons_succ,List.getElem?_eq_getElem hk]
 have hm:(pxCells ps++List.replicate (768-ps.length*3) (Value.int .u8 0))[k] ∈ (pxCells ps++List.replicate (768-ps.length*3) (Value.int .u8 0)):=List.getElem_mem hk
 rcases List.mem_append.1 hm with hu|hu
 ·unfold pxCells at hu
  obtain ⟨p,_,hp⟩:=List.mem_flatMap.1 hu
  simp at hp
  rcases hp with e|e|e
  ·exact ⟨_,congrArg some e⟩
  ·exact ⟨_,congrArg some e⟩
  ·exact ⟨_,congrArg some e⟩
 ·exact ⟨0,congrArg some (List.eq_of_mem_replicate hu)⟩
theorem contInfo:(Tryz.prog.info? 200).map (fun i=>(i.zero,i.size))=some (some (.agg (contL 0 []).toArray),769):=by kernel_rfl
theorem contL_inj {n m:Nat} {ps qs:List Px} (hl:ps.length=qs.length) (h:contL n ps=contL m qs):n=m/\ps=qs:=by
 unfold contL at h
 rw [hl] at h
 injection h with h1 h2
 injection h1 with _ h1
 refine ⟨by omega,?_⟩
 have h3:=List.append_cancel_right h2
 clear h1 h2
 induction ps generalizing qs with
 | nil=>cases qs with
  | nil=>rfl
  | cons q qs=>simp at hl
 | cons p ps ih=>cases qs with
  | nil=>simp at hl
  | cons q qs =>
   rw [pxCells_cons,pxCells_cons] at h3
   injection h3 with a1 h3
   injection h3 with a2 h3
   injection h3 with a3 h3
   injection a1 with _ a1
   injection a2 with _ a2
   injection a3 with _ a3
   have:p=q:=by obtain ⟨p1,p2,p3⟩:=p;obtain ⟨q1,q2,q3⟩:=q;simp at a1 a2 a3;simp [a1,a2,a3]
   rw [this,ih (by simpa using hl) h3]
end
section
open Go.RowKit
open Flm (Px FS okPx)
theorem contType1:Tryz.prog.keyTypeAt 5 200=true:=by kernel_rfl
theorem contType2:Tryz.prog.tiled 5 200=true:=by kernel_rfl
theorem contType3:Tryz.prog.keyType 200=true:=by kernel_rfl
theorem contKey:WideMaps.KeyLaw Tryz.prog 200:=deep_law (m:=5) (by omega) contType1 contType2 (by rw [Tryz.underlying200])
theorem contCells:Tryz.prog.cellsOf 200=769/\Tryz.prog.cellsOf 198=768/\Tryz.prog.cellsOf 50=3/\Tryz.prog.cellsOf 5=1/\Tryz.prog.cellsOf 3=1:=by
 have h:(Tryz.prog.cellsOf 200 == 769 && Tryz.prog.cellsOf 198 == 768 && Tryz.prog.cellsOf 50 == 3 && Tryz.prog.cellsOf 5 == 1 && Tryz.prog.cellsOf 3 == 1)=true:=by kernel_rfl
 simp only [Bool.and_eq_true,beq_iff_eq] at h
 exact ⟨h.1.1.1.1,h.1.1.1.2,h.1.1.2,h.1.2,h.2⟩
theorem keyLits_array {P:Program} {d:Nat} {t e:TypeId} {n k:Nat} {cs:List Value} {r:List (List Lit)} (hu:P.underlying t=some (.array n e)) (hl:cs.length=P.cellsOf t) (hk:P.cellsOf e=k)
  (hr:((List.range n).mapM fun i=>P.keyLits d e ((cs.drop (i*k)).take k))=some r):P.keyLits (d+1) t cs=some r.flatten:=by
 subst hk
 unfold Program.keyLits
 rw [hu]
 simp only [hl,if_true,hr,Option.map_some]
theorem keyLits_struct {P : Program} {d : Nat} {t : TypeId} {fs : Array Field} {cs : List Value} {r : List (List Lit)} (hu : P.underlying t = some (.struct fs)) (hl : cs.length = P.cellsOf t) (hn : fs.all (·.name != "_") = true)
  (hr:(fs.toList.mapM fun f=>P.keyLits d f.type ((cs.drop f.offset).take (P.cellsOf f.type)))=some r):P.keyLits (d+1) t cs=some r.flatten:=by
 unfold Program.keyLits
 rw [hu]
 simp only [hl,hn,and_self,if_true,hr,Option.map_some]
def IsU8 (v:Value):Prop:=∃ c:Int,v=.int .u8 c/\0<=c/\c<=255
theorem lits_u8 (d:Nat) {v:Value} (h:IsU8 v):∃ l,Tryz.prog.keyLits (d+1) 5 [v]=some l:=by
 obtain ⟨c,rfl,h0,h1⟩:=h
 have hw:(Lit.int .u8 c).wf=true:=by
  unfold Lit.wf
  rw [Bool.and_eq_true,decide_eq_true_eq,decide_eq_true_eq]
  exact ⟨h0,h1⟩
 refine ⟨[.int .u8 c],?_⟩
 simp only [Program.keyLits,Tryz.underlying5,hw,and_self,if_true]
theorem mapM_all {α β:Type} {f:α->Option β}:∀ {l:List α},(∀ x ∈ l,∃ y,f x=some y)->∃ r,l.mapM f=some r
 | [],_=>⟨[],rfl⟩
 | a :: t,h=>by
  obtain ⟨b,hb⟩:=h a (.head _)
  obtain ⟨bs,hbs⟩:=mapM_all (l:=t) (fun x hx=>h x (.tail _ hx))
  exact ⟨b :: bs,by simp [List.mapM_cons,hb,hbs]⟩
theorem chunk_len {α:Type} {cs:List α} {i k n:Nat} (hl:cs.length=n*k) (hi:i<n):((cs.drop (i*k)).take k).length=k:=by
 rw [List.length_take,List.length_drop,hl,<- Nat.sub_mul]
 have:1*k<=(n-i)*k:=Nat.mul_le_mul_right _ (by omega)
 omega
theorem lits_pix (d:Nat) {cs:List Value} (hl:cs.length=3) (h:∀ v ∈ cs,IsU8 v):∃ l,Tryz.prog.keyLits (d+1+1) 50 cs=some l:=by
 obtain ⟨r,hr⟩:=mapM_all (l:=List.range 3) (f:=fun i=>Tryz.prog.keyLits (d+1) 5 ((cs.drop (i*1)).take 1)) fun i hi=>by
  have h1:=chunk_len (k:=1) (n:=3) (i:=i) (cs:=cs) (by omega) (List.mem_range.1 hi)
  obtain ⟨v,hv⟩:=List.length_eq_one_iff.1 h1
  rw [hv]
  exact lits_u8 d (h v (List.mem_of_mem_drop (List.mem_of_mem_take (hv ▸ List.mem_singleton.2 rfl))))
 refine ⟨r.flatten,?_⟩
 exact keyLits_array Tryz.underlying50 (by rw [contCells.2.2.1,hl]) contCells.2.2.2.1 hr
theorem lits_pixels (d:Nat) {cs:List Value} (hl:cs.length=768) (h:∀ v ∈ cs,IsU8 v):∃ l,Tryz.prog.keyLits (d+1+1+1) 198 cs=some l:=by
 obtain ⟨r,hr⟩:=mapM_all (l:=List.range 256) (f:=fun i=>Tryz.prog.keyLits (d+1+1) 50 ((cs.drop (i*3)).take 3)) fun i hi=>by
  exact lits_pix d (chunk_len (n:=256) (by omega) (List.mem_range.1 hi)) fun v hv=>h v (List.mem_of_mem_drop (List.mem_of_mem_take hv))
 refine ⟨r.flatten,?_⟩
 exact keyLits_array Tryz.underlying198 (by rw [contCells.2.1,hl]) contCells.2.2.1 hr
theorem lits_int (d:Nat) {n:Nat} (h:n<=16):∃ l,Tryz.prog.keyLits (d+1) 3 [.int .i64 n]=some l:=by
 have hw:(Lit.int .i64 (n:Int)).wf=true:=by
  unfold Lit.wf
  rw [Bool.and_eq_true,decide_eq_true_eq,decide_eq_true_eq]
  have h1:IntKind.min .i64=-9223372036854775808:=rfl
  have h2:IntKind.max .i64=9223372036854775807:=rfl
  rw [h1,h2]
  omega
 refine ⟨[.int .i64 n],?_⟩
 simp only [Program.keyLits,Tryz.underlying3,hw,and_self,if_true]
theorem contL_u8 {n:Nat} {ps:List Px} (ho:∀ p ∈ ps,okPx p):∀ v ∈ (contL n ps).drop 1,IsU8 v:=by
 intro u hu
 unfold contL at hu
 rw [List.drop_succ_cons,List.drop_zero] at hu
 rcases List.mem_append.1 hu with hu|hu
 ·unfold pxCells at hu
  obtain ⟨p,hp,hm⟩:=List.mem_flatMap.1 hu
  obtain ⟨a,b,c⟩:=ho p hp
  simp at hm
  rcases hm with rfl|rfl|rfl
  ·exact ⟨_,rfl,a.1,a.2⟩
  ·exact ⟨_,rfl,b.1,b.2⟩
  ·exact ⟨_,rfl,c.1,c.2⟩
 ·rw [List.eq_of_mem_replicate hu];exact ⟨0,rfl,by decide,by decide⟩
theorem cont_is {n:Nat} {ps:List Px} (hn:n<=16) (hp:ps.length<=256) (ho:∀ p ∈ ps,okPx p):∃ l,keyOf Tryz.prog 200 (.agg (contL n ps).toArray)=some l:=by
 have hl:=contL_len (n:=n) hp
 obtain ⟨d,hd⟩:∃ d,Tryz.prog.types.size+1=d+1+1+1+1:=by
  have h:decide (3<=Tryz.prog.types.size)=true:=by kernel_rfl
  have h2:=of_decide_eq_true h
  exact ⟨Tryz.prog.types.size-3,by omega⟩
 obtain ⟨l0,h0⟩:=lits_int (d+1+1) hn
 obtain ⟨l1,h1⟩:=lits_pixels d (cs:=(contL n ps).drop 1) (by rw [List.length_drop,hl]) (contL_u8 ho)
 have hk:=contType3
 have hf:(Value.agg (contL n ps).toArray).formed Tryz.prog 200=true:=by
  unfold Value.formed
  simp only [Tryz.underlying200,contCells.1,List.size_toArray,hl,beq_self_eq_true]
 have hL:Tryz.prog.keyLits (Tryz.prog.types.size+1) 200 (contL n ps)=some [l0,l1].flatten:=by
  rw [hd]
  refine keyLits_struct Tryz.underlying200 (by rw [contCells.1,hl]) (by simp) ?_
  have t0:((contL n ps).drop 0).take 1=[.int .i64 n]:=rfl
  have t1:((contL n ps).drop 1).take 768=(contL n ps).drop 1:=List.take_of_length_le (by rw [List.length_drop,hl];omega)
  simp only [List.mapM_cons,List.mapM_nil,contCells.2.1,contCells.2.2.2.2,t0,t1,h0,h1]
  rfl
 refine ⟨.string (keyBytes [l0,l1].flatten),?_⟩
 unfold keyOf
 rw [Tryz.underlying200]
 simp only [hk,hf,Bool.and_self,if_true]
 have hc:(Value.agg (contL n ps).toArray).cells.toList=contL n ps:=rfl
 rw [hc,hL]
 rfl
end
section
open Go.RowKit Go.MapKept
open Flm (Px FS okPx)
abbrev Ar:=(Nat × Nat) × Nat
abbrev Kt:=Nat × List Px
def arCells (a:Ar):List Value:=[.int .i64 a.1.1,.int .i64 a.1.2,.int .i64 a.2]
def arsCells (l:List Ar):List Value:=l.flatMap arCells
theorem arsCells_snoc (l:List Ar) (a:Ar):arsCells (l++[a])=arsCells l++arCells a:=by simp [arsCells]
def kval (k:Kt):Value:=.agg (contL k.1 k.2).toArray
structure GoodK (k:Kt):Prop where
 n:k.1<=16
 l:k.2.length=k.1*k.1
 ok:∀ p ∈ k.2,okPx p
theorem GoodK.len {k:Kt} (h:GoodK k):k.2.length<=256:=by rw [h.l];exact Nat.mul_le_mul h.n h.n
theorem GoodK.key {k:Kt} (h:GoodK k):∃ l,keyOf Tryz.prog 200 (kval k)=some l:=cont_is h.n h.len h.ok
theorem kval_inj {k m:Kt} (hk:GoodK k) (hm:GoodK m) (h:kval k=kval m):k=m:=by
 unfold kval at h
 injection h with h
 have h2:contL k.1 k.2=contL m.1 m.2:=congrArg Array.toList h
 have h3:k.1=m.1:=by
  unfold contL at h2
  injection h2 with h2
  injection h2 with _ h2
  omega
 have h4:=contL_inj (by rw [hk.l,hm.l,h3]) h2
 exact Prod.ext h4.1 h4.2
def sel (κ:Ar->Kt) (L:List Ar) (k:Kt):List Ar:=L.filter fun a=>decide (κ a=k)
theorem sel_snoc_eq {κ:Ar->Kt} {L:List Ar} {a:Ar}:sel κ (L++[a]) (κ a)=sel κ L (κ a)++[a]:=by simp [sel,List.filter_append]
theorem sel_snoc_ne {κ:Ar->Kt} {L:List Ar} {a:Ar} {k:Kt} (h:k ≠ κ a):sel κ (L++[a]) k=sel κ L k:=by
 unfold sel
 rw [List.filter_append]
 simp [Ne.symm h]
structure MapAt (w:World) (base b:Nat) (κ:Ar->Kt) (L:List Ar) (es:Array MapEntry) (clock:Nat):Prop where
 heap:w.heap[b]?=some (.map es clock)
 born:∀ e ∈ es.toList,e.born<clock
 nodup:(es.toList.map (·.born)).Nodup
 ent:∀ e ∈ es.toList,∃ k,GoodK k/\e.key=kval k/\w.ownsRow base 100 3 e.val (sel κ L k).length (arsCells (sel κ L k))/\0<(sel κ L k).length
 keys:∀ (i j:Nat) (e e':MapEntry),es.toList[i]?=some e->es.toList[j]?=some e'->e.key=e'.key->i=j
 blks:∀ (i j:Nat) (e e':MapEntry),es.toList[i]?=some e->es.toList[j]?=some e'->e.val.ownBlock=e'.val.ownBlock->i=j
 all:∀ a ∈ L,GoodK (κ a)/\∃ e ∈ es.toList,e.key=kval (κ a)
theorem row_block {w:World} {base:Nat} {v:Value} {n:Nat} {xs:List Value} (h:w.ownsRow base 100 3 v n xs) (hn:0<n):∃ g cur,v.ownBlock=some g/\base<=g/\w.heap[g]?=some (.cells cur 100 (0,0)):=by
 rcases h.2 with ⟨_,e⟩|⟨g,cap,cur,rfl,hb,hg,_⟩
 ·omega
 ·exact ⟨g,cur,rfl,hb,hg⟩
theorem MapAt.notb {w:World} {base b:Nat} {κ:Ar->Kt} {L:List Ar} {es:Array MapEntry} {clock:Nat} (h:MapAt w base b κ L es clock) {v:Value} {n:Nat} {xs:List Value} (hv:w.ownsRow base 100 3 v n xs):v.ownBlock ≠ some b:=by
 intro e
 rcases hv.2 with ⟨rfl,_⟩|⟨g,cap,cur,rfl,_,hg,_⟩
 ·cases e
 ·injection e with e
  have e:g=b:=e
  rw [e,h.heap] at hg
  cases hg
theorem MapAt.find {w:World} {base b:Nat} {κ:Ar->Kt} {L:List Ar} {es:Array MapEntry} {clock:Nat} (h:MapAt w base b κ L es clock) {k:Kt} (hk:GoodK k) (u:World) :
  ((Instr.findKey 200 (kval k) es.toList).run Tryz.prog u=.ok none u/\sel κ L k=[]/\∀ e ∈ es.toList,e.key ≠ kval k) \/ ∃ (j:Nat) (e:MapEntry),(Instr.findKey 200 (kval k) es.toList).run Tryz.prog u=.ok (some (j,e.val)) u/\es.toList[j]?=some e/\e.key=kval k:=by
 obtain ⟨l,hl⟩:=hk.key
 rcases contKey.find u hl es.toList (fun e he=>by
  obtain ⟨k',g',e',_⟩:=h.ent e he
  rw [e']
  exact g'.key) with ⟨h1,h2⟩|⟨j,e,h1,h2,h3⟩
 ·refine .inl ⟨h1,?_,h2⟩
  unfold sel
  rw [List.filter_eq_nil_iff]
  intro a ha e
  have e:=of_decide_eq_true e
  obtain ⟨_,e0,m0,q0⟩:=h.all a ha
  exact h2 e0 m0 (by rw [q0,e])
 ·exact .inr ⟨j,e,h1,h2,h3⟩
theorem MapAt.look {w:World} {base b:Nat} {κ:Ar->Kt} {L:List Ar} {es:Array MapEntry} {clock:Nat} (h:MapAt w base b κ L es clock) {k:Kt} (hk:GoodK k) :
  ∃ v,(Instr.lookup 91 (.map (some b)) (kval k) false).run Tryz.prog w=.ok v w/\w.ownsRow base 100 3 v (sel κ L k).length (arsCells (sel κ L k)):=by
 obtain ⟨l,hl⟩:=hk.key
 have hc:=fun em=>contKey.check w em hl
 rcases h.find hk w with ⟨h1,h2,_⟩|⟨j,e,h1,h2,h3⟩
 ·refine ⟨.slice none 0 0,?_,by rw [h2];exact World.ownsRow_nil _ _ _ _⟩
  simp [Instr.lookup,run_underlying Tryz.underlying91,MapKept.run_getObj_map h.heap,hc,h1,Result.andThen]
 ·obtain ⟨k',g',e',r',_⟩:=h.ent e (List.mem_of_getElem? h2)
  obtain rfl:k'=k:=kval_inj g' hk (e'.symm.trans h3)
  refine ⟨e.val,?_,r'⟩
  simp [Instr.lookup,run_underlying Tryz.underlying91,MapKept.run_getObj_map h.heap,hc,h1,Result.andThen]
theorem look_none (w:World) {k:Kt} (hk:GoodK k):(Instr.lookup 91 (.map none) (kval k) false).run Tryz.prog w=.ok (.slice none 0 0) w:=by
 obtain ⟨l,hl⟩:=hk.key
 have hc:=fun em=>contKey.check w em hl
 rcases contKey.find w hl [] (fun e he=>absurd he (List.not_mem_nil)) with ⟨h1,_⟩|⟨j,e,h1,h2,h3⟩
 ·simp [Instr.lookup,run_underlying Tryz.underlying91,hc,h1,Result.andThen]
 ·simp at h2
theorem MapAt.entry {w:World} {base b:Nat} {κ:Ar->Kt} {L:List Ar} {es:Array MapEntry} {clock:Nat} (h:MapAt w base b κ L es clock) (a:Ar) (hk:GoodK (κ a)) :
  ∃ (v0:Value) (st:Nat) (w1:World),(Instr.mapEntry 91 (.map (some b)) (kval (κ a))).run Tryz.prog w=.ok (.tuple #[v0,goInt st]) w1/\w.grownBy w1 (some b)/\w1.heap.size=w.heap.size/\w1.ownsRow base 100 3 v0 (sel κ L (κ a)).length (arsCells (sel κ L (κ a)))/\(∀ g,v0.ownBlock=some g->∃ e ∈ es.toList,e.val.ownBlock=some g) /\
   ∀ (v':Value) (w2:World),w2.ownsRow base 100 3 v' ((sel κ L (κ a)).length+1) (arsCells (sel κ L (κ a))++arCells a)->w1.grownBy w2 v0.ownBlock->(v'.ownBlock=v0.ownBlock \/ v'.ownBlock=some w1.heap.size) ->
    ∃ (w3:World) (es':Array MapEntry) (clock':Nat),(Instr.entryStore 91 (.map (some b)) (goInt st) v').run Tryz.prog w2=.ok () w3/\w2.grownBy w3 (some b)/\w3.heap.size=w2.heap.size/\MapAt w3 base b κ (L++[a]) es' clock'/\∀ x ∈ es'.toList,x.val.ownBlock=v'.ownBlock \/ ∃ e ∈ es.toList,x.val.ownBlock=e.val.ownBlock:=by
 obtain ⟨l,hl⟩:=hk.key
 have hc:=contKey.check w false hl
 have grow:∀ {u:World} {es clock} (o:Obj),u.heap[b]?=some (.map es clock)->u.grownBy { u with heap:=u.heap.setIfInBounds b o } (some b):=fun {u es clock} o hu =>
  ⟨rfl,rfl,rfl,by simp,fun k _ hn=>(heap_set hu).2 k (fun e=>hn (by rw [e]))⟩
 rcases h.find hk w with ⟨h1,h2,h3⟩|⟨j,e,h1,h2,h3⟩
 ·-- a content that is new
  obtain ⟨w1,hw1⟩:∃ w1:World,w1={ w with heap:=w.heap.setIfInBounds b (.map (es.push ⟨kval (κ a),.slice none 0 0,clock⟩) (clock+1)) }:=⟨_,rfl⟩
  have hb1:w1.heap[b]?=some (.map (es.push ⟨kval (κ a),.slice none 0 0,clock⟩) (clock+1)):=by rw [hw1];exact (heap_set h.heap).1
  have g1:w.grownBy w1 (some b):=by rw [hw1];exact grow _ h.heap
  refine ⟨.slice none 0 0,clock,w1,?_,g1,by rw [hw1];simp,by rw [h2];exact World.ownsRow_nil _ _ _ _,fun g e0=>(by cases e0),fun v' w2 ho hg hat=>?_⟩
  ·rw [hw1]
   simp [Instr.mapEntry,run_underlying Tryz.underlying91,MapKept.run_getObj_map h.heap,hc,h1,MapKept.run_setObj_map _ h.heap,Result.andThen]
  ·have hb1':b<w1.heap.size:=(Array.getElem?_eq_some_iff.1 hb1).1
   have hb2:w2.heap[b]?=some (.map (es.push ⟨kval (κ a),.slice none 0 0,clock⟩) (clock+1)):=(hg.block b hb1' (by simp [Value.ownBlock])).trans hb1
   obtain ⟨w3,hw3⟩:∃ w3:World,w3={ w2 with heap:=w2.heap.setIfInBounds b (.map (es.push ⟨kval (κ a),v',clock⟩) (clock+1)) }:=⟨_,rfl⟩
   have g3:w2.grownBy w3 (some b):=by rw [hw3];exact grow _ hb2
   have hat':v'.ownBlock=some w1.heap.size:=by
    rcases hat with e0|e0
    ·obtain ⟨g,cur,e1,_⟩:=row_block ho (Nat.succ_pos _)
     rw [e1] at e0
     cases e0
    ·exact e0
   have nb:v'.ownBlock ≠ some b:=by
    rw [hat']
    intro e0
    injection e0 with e0
    omega
   refine ⟨w3,es.push ⟨kval (κ a),v',clock⟩,clock+1,?_,g3,by rw [hw3];simp,?_,fun x hx=>?_⟩
   ·have hidx:(es.push ⟨kval (κ a),.slice none 0 0,clock⟩).findIdx? (fun e=>((e.born:Nat):Int) == ((clock:Nat):Int))=some es.size:=by
     rw [WideElems.findIdx_arr]
     have:=WideElems.findIdx_born (l:=(es.push ⟨kval (κ a),.slice none 0 0,clock⟩).toList) (j:=es.size) (e0:=⟨kval (κ a),.slice none 0 0,clock⟩) (by
      simp only [Array.toList_push,List.map_append,List.map_cons,List.map_nil]
      refine List.nodup_append.2 ⟨h.nodup,by simp,fun a ha c hc e1=>?_⟩
      simp only [List.mem_singleton] at hc
      obtain ⟨x,hx,rfl⟩:=List.mem_map.1 ha
      have:=h.born x hx
      omega) (by simp)
     exact this
    have hmod:(es.push ⟨kval (κ a),.slice none 0 0,clock⟩).modify es.size (fun e=>{ e with val:=v' })=es.push ⟨kval (κ a),v',clock⟩:=by
     apply Array.ext'
     rw [Array.toList_modify,Array.toList_push,Array.toList_push,<- Array.length_toList,WideElems.modify_last]
    rw [hw3]
    simp [Instr.entryStore,MapKept.run_getObj_map hb2,asInt,asIntOf,goInt,hidx,hmod,MapKept.run_setObj_map _ hb2,Result.andThen]
   ·have old:∀ e ∈ es.toList,∃ k,GoodK k/\k ≠ κ a/\e.key=kval k/\w3.ownsRow base 100 3 e.val (sel κ L k).length (arsCells (sel κ L k))/\0<(sel κ L k).length/\∃ g,e.val.ownBlock=some g/\g<w.heap.size:=fun e he=>by
     obtain ⟨k,gk,ek,rk,pk⟩:=h.ent e he
     have n1:=h.notb rk
     have r1:=rk.kept g1 (.inr n1)
     have r2:=r1.kept hg (.inr (by
      obtain ⟨g,cur,e1,_⟩:=row_block rk pk
      rw [e1]
      simp [Value.ownBlock]))
     obtain ⟨g,cur,e1,_,e2⟩:=row_block rk pk
     exact ⟨k,gk,fun e0=>h3 e he (by rw [ek,e0]),ek,r2.kept g3 (.inr n1),pk,g,e1,(Array.getElem?_eq_some_iff.1 e2).1⟩
    have sz1:w1.heap.size=w.heap.size:=by rw [hw1];simp
    have hlen:∀ {i:Nat} {e:MapEntry},(es.push ⟨kval (κ a),v',clock⟩).toList[i]?=some e->(es.toList[i]?=some e/\e ∈ es.toList) \/ (i=es.size/\e=⟨kval (κ a),v',clock⟩):=fun {i e} hi=>by
     rw [Array.toList_push,List.getElem?_append] at hi
     split at hi
     ·exact .inl ⟨hi,List.mem_of_getElem? hi⟩
     ·rename_i hlt
      rw [Array.length_toList] at hlt hi
      rcases Nat.lt_or_ge (i-es.size) 1 with h0|h0
      ·have:i-es.size=0:=by omega
       rw [this] at hi
       injection hi with hi
       exact .inr ⟨by omega,hi.symm⟩
      ·rw [List.getElem?_eq_none (by simpa using h0)] at hi
       cases hi
    refine ⟨by rw [hw3];exact (heap_set hb2).1,fun e he=>?_,?_,fun e he=>?_,fun i j e e' hi hj hke=>?_,fun i j e e' hi hj hbe=>?_,fun a' ha'=>?_⟩
    ·rw [Array.toList_push] at he
     rcases List.mem_append.1 he with he|he
     ·exact Nat.lt_succ_of_lt (h.born e he)
     ·rw [List.mem_singleton.1 he];exact Nat.lt_succ_self _
    ·simp only [Array.toList_push,List.map_append,List.map_cons,List.map_nil]
     refine List.nodup_append.2 ⟨h.nodup,by simp,fun x hx c hc e1=>?_⟩
     simp only [List.mem_singleton] at hc
     obtain ⟨y,hy,rfl⟩:=List.mem_map.1 hx
     have:=h.born y hy
     omega
    ·rw [Array.toList_push] at he
     rcases List.mem_append.1 he with he|he
     ·obtain ⟨k,gk,nk,ek,rk,pk,_⟩:=old e he
      refine ⟨k,gk,ek,?_,?_⟩
      ·rw [sel_snoc_ne nk];exact rk
      ·rw [sel_snoc_ne nk];exact pk
     ·rw [List.mem_singleton.1 he]
      refine ⟨κ a,hk,rfl,?_,?_⟩
      ·rw [sel_snoc_eq,arsCells_snoc,List.length_append]
       exact ho.kept g3 (.inr nb)
      ·rw [sel_snoc_eq,List.length_append];exact Nat.succ_pos _
    ·rcases hlen hi with ⟨i1,i2⟩|⟨i1,i2⟩ <;> rcases hlen hj with ⟨j1,j2⟩|⟨j1,j2⟩
     ·exact h.keys i j e e' i1 j1 hke
     ·rw [j2] at hke;exact absurd hke (h3 e i2)
     ·rw [i2] at hke;exact absurd hke.symm (h3 e' j2)
     ·rw [i1,j1]
    ·rcases hlen hi with ⟨i1,i2⟩|⟨i1,i2⟩ <;> rcases hlen hj with ⟨j1,j2⟩|⟨j1,j2⟩
     ·exact h.blks i j e e' i1 j1 hbe
     ·obtain ⟨_,_,_,_,_,_,g,e1,e2⟩:=old e i2
      rw [j2,e1] at hbe
      have hbe:some g=v'.ownBlock:=hbe
      rw [hat'] at hbe
      have hbe:=Option.some.inj hbe
      omega
     ·obtain ⟨_,_,_,_,_,_,g,e1,e2⟩:=old e' j2
      rw [i2,e1] at hbe
      have hbe:v'.ownBlock=some g:=hbe
      rw [hat'] at hbe
      have hbe:=Option.some.inj hbe
      omega
     ·rw [i1,j1]
    ·rcases List.mem_append.1 ha' with ha'|ha'
     ·obtain ⟨q1,e,q2,q3⟩:=h.all a' ha'
      exact ⟨q1,e,by rw [Array.toList_push];exact List.mem_append.2 (.inl q2),q3⟩
     ·rw [List.mem_singleton.1 ha']
      exact ⟨hk,_,by rw [Array.toList_push];exact List.mem_append.2 (.inr (List.mem_singleton.2 rfl)),rfl⟩
   ·rw [Array.toList_push] at hx
    rcases List.mem_append.1 hx with hx|hx
    ·exact .inr ⟨x,hx,rfl⟩
    ·rw [List.mem_singleton.1 hx];exact .inl rfl
 ·-- a content that is there
  have hj:es[j]?=some e:=by simpa using h2
  have he:=List.mem_of_getElem? h2
  obtain ⟨k',g',e',r',p'⟩:=h.ent e he
  obtain rfl:k'=κ a:=kval_inj g' hk (e'.symm.trans h3)
  have hsame:es.modify j (fun e=>{ e with key:=kval (κ a) })=es:=by
   apply Array.ext'
   rw [Array.toList_modify,ChangeMaps.modify_eq_set _ _ _ _ h2]
   have:({ e with key:=kval (κ a) }:MapEntry)=e:=by rw [<- h3]
   rw [this]
   exact WideElems.set_self _ _ _ h2
  obtain ⟨w1,hw1⟩:∃ w1:World,w1={ w with heap:=w.heap.setIfInBounds b (.map es clock) }:=⟨_,rfl⟩
  have hb1:w1.heap[b]?=some (.map es clock):=by rw [hw1];exact (heap_set h.heap).1
  have g1:w.grownBy w1 (some b):=by rw [hw1];exact grow _ h.heap
  refine ⟨e.val,e.born,w1,?_,g1,by rw [hw1];simp,r'.kept g1 (.inr (h.notb r')),fun g e0=>⟨e,he,e0⟩,fun v' w2 ho hg hat=>?_⟩
  ·rw [hw1]
   simp [Instr.mapEntry,run_underlying Tryz.underlying91,MapKept.run_getObj_map h.heap,hc,h1,hj,h3,contKey.stays w hl,hsame,MapKept.run_setObj_map _ h.heap,Result.andThen]
  ·have hb1':b<w1.heap.size:=(Array.getElem?_eq_some_iff.1 hb1).1
   have hb2:w2.heap[b]?=some (.map es clock):=(hg.block b hb1' (fun e0=>h.notb r' e0.symm)).trans hb1
   obtain ⟨w3,hw3⟩:∃ w3:World,w3={ w2 with heap:=w2.heap.setIfInBounds b (.map (es.modify j (fun e=>{ e with val:=v' })) clock) }:=⟨_,rfl⟩
   have g3:w2.grownBy w3 (some b):=by rw [hw3];exact grow _ hb2
   have sz1:w1.heap.size=w.heap.size:=by rw [hw1];simp
   have nb:v'.ownBlock ≠ some b:=by
    rcases hat with e0|e0
    ·rw [e0];exact h.notb r'
    ·rw [e0]
     intro e1
     injection e1 with e1
     omega
   have hset:(es.modify j (fun e=>{ e with val:=v' })).toList=es.toList.set j { e with val:=v' }:=by rw [Array.toList_modify,ChangeMaps.modify_eq_set _ _ _ _ h2]
   have hjl:j<es.toList.length:=(List.getElem?_eq_some_iff.1 h2).1
   have hget:∀ {i:Nat} {x:MapEntry},(es.toList.set j { e with val:=v' })[i]?=some x->(i ≠ j/\es.toList[i]?=some x) \/ (i=j/\x={ e with val:=v' }):=fun {i x} hi=>by
    rw [List.getElem?_set] at hi
    split at hi
    ·rename_i e0
     exact .inr ⟨e0.symm,(Option.some.inj hi).symm⟩
    ·rename_i e0;exact .inl ⟨fun e1=>e0 e1.symm,hi⟩
   have old:∀ (i:Nat) (x:MapEntry),i ≠ j->es.toList[i]?=some x->∃ k,GoodK k/\k ≠ κ a/\x.key=kval k/\w3.ownsRow base 100 3 x.val (sel κ L k).length (arsCells (sel κ L k))/\0<(sel κ L k).length/\(∃ g,x.val.ownBlock=some g/\g<w.heap.size)/\x.val.ownBlock ≠ v'.ownBlock:=fun i x hij hi=>by
    obtain ⟨k,gk,ek,rk,pk⟩:=h.ent x (List.mem_of_getElem? hi)
    have n1:=h.notb rk
    have n2:x.val.ownBlock ≠ e.val.ownBlock:=fun e0=>hij (h.blks i j x e hi h2 e0)
    obtain ⟨g,cur,e1,_,e2⟩:=row_block rk pk
    have lt:=(Array.getElem?_eq_some_iff.1 e2).1
    refine ⟨k,gk,fun e0=>hij (h.keys i j x e hi h2 (by rw [ek,e0,h3])),ek,((rk.kept g1 (.inr n1)).kept hg (.inr n2)).kept g3 (.inr n1),pk,⟨g,e1,lt⟩,?_⟩
    rcases hat with e0|e0
    ·rw [e0];exact n2
    ·rw [e0,e1]
     intro e3
     injection e3 with e3
     omega
   refine ⟨w3,es.modify j (fun e=>{ e with val:=v' }),clock,?_,g3,by rw [hw3];simp,?_,fun x hx=>?_⟩
   ·have hidx:es.findIdx? (fun e'=>((e'.born:Nat):Int) == ((e.born:Nat):Int))=some j:=by
     rw [WideElems.findIdx_arr]
     exact WideElems.findIdx_born h.nodup h2
    rw [hw3]
    simp [Instr.entryStore,MapKept.run_getObj_map hb2,asInt,asIntOf,goInt,hidx,MapKept.run_setObj_map _ hb2,Result.andThen]
   ·have hborn:(es.toList.set j { e with val:=v' }).map (·.born)=es.toList.map (·.born):=by
     rw [List.map_set]
     exact WideElems.set_self _ _ _ (by rw [List.getElem?_map,h2];rfl)
    refine ⟨by rw [hw3];exact (heap_set hb2).1,fun x hx=>?_,by rw [hset,hborn];exact h.nodup,fun x hx=>?_,fun i i' x x' hi hi' hke=>?_,fun i i' x x' hi hi' hbe=>?_,fun a' ha'=>?_⟩
    ·rw [hset] at hx
     rcases List.mem_or_eq_of_mem_set hx with hx|hx
     ·exact h.born x hx
     ·rw [hx];exact h.born e he
    ·rw [hset] at hx
     obtain ⟨i,hi⟩:=List.mem_iff_getElem?.1 hx
     rcases hget hi with ⟨i1,i2⟩|⟨i1,i2⟩
     ·obtain ⟨k,gk,nk,ek,rk,pk,_⟩:=old i x i1 i2
      refine ⟨k,gk,ek,?_,?_⟩
      ·rw [sel_snoc_ne nk];exact rk
      ·rw [sel_snoc_ne nk];exact pk
     ·rw [i2]
      refine ⟨κ a,hk,h3,?_,?_⟩
      ·rw [sel_snoc_eq,arsCells_snoc,List.length_append]
       exact ho.kept g3 (.inr nb)
      ·rw [sel_snoc_eq,List.length_append];exact Nat.succ_pos _
    ·rw [hset] at hi hi'
     rcases hget hi with ⟨i1,i2⟩|⟨i1,i2⟩ <;> rcases hget hi' with ⟨j1,j2⟩|⟨j1,j2⟩
     ·exact h.keys i i' x x' i2 j2 hke
     ·rw [j1];rw [j2] at hke;exact h.keys i j x e i2 h2 hke
     ·rw [i1];rw [i2] at hke;exact h.keys j i' e x' h2 j2 hke
     ·rw [i1,j1]
    ·rw [hset] at hi hi'
     rcases hget hi with ⟨i1,i2⟩|⟨i1,i2⟩ <;> rcases hget hi' with ⟨j1,j2⟩|⟨j1,j2⟩
     ·exact h.blks i i' x x' i2 j2 hbe
     ·obtain ⟨_,_,_,_,_,_,_,nq⟩:=old i x i1 i2
      rw [j2] at hbe;exact absurd hbe nq
     ·obtain ⟨_,_,_,_,_,_,_,nq⟩:=old i' x' j1 j2
      rw [i2] at hbe;exact absurd hbe.symm nq
     ·rw [i1,j1]
    ·rcases List.mem_append.1 ha' with ha'|ha'
     ·obtain ⟨q1,x,q2,q3⟩:=h.all a' ha'
      obtain ⟨i,hi⟩:=List.mem_iff_getElem?.1 q2
      by_cases hij:i=j
      ·subst hij
       have:x=e:=by rw [h2] at hi;exact (Option.some.inj hi).symm
       subst this
       exact ⟨q1,{ x with val:=v' },by rw [hset];exact List.mem_iff_getElem?.2 ⟨i,by rw [List.getElem?_set,if_pos rfl,if_pos hjl]⟩,q3⟩
      ·exact ⟨q1,x,by rw [hset];exact List.mem_iff_getElem?.2 ⟨i,by rw [List.getElem?_set,if_neg (Ne.symm hij)];exact hi⟩,q3⟩
     ·rw [List.mem_singleton.1 ha']
      exact ⟨hk,{ e with val:=v' },by rw [hset];exact List.mem_iff_getElem?.2 ⟨j,by rw [List.getElem?_set,if_pos rfl,if_pos hjl]⟩,h3⟩
   ·rw [hset] at hx
    rcases List.mem_or_eq_of_mem_set hx with hx|hx
    ·exact .inr ⟨x,hx,rfl⟩
    ·rw [hx];exact .inl rfl
theorem MapAt.empty {w:World} {base b:Nat} {κ:Ar->Kt} (h:w.heap[b]?=some (.map #[] 0)):MapAt w base b κ [] #[] 0 :=
 ⟨h,fun e he=>absurd he (List.not_mem_nil),by simp,fun e he=>absurd he (List.not_mem_nil),fun i j e e' hi=>by simp at hi,fun i j e e' hi=>by simp at hi,fun a ha=>absurd ha (List.not_mem_nil)⟩
theorem MapAt.frm {w w':World} {base b:Nat} {κ:Ar->Kt} {L:List Ar} {es:Array MapEntry} {clock:Nat} (h:MapAt w base b κ L es clock) {S:Nat->Prop} (f:Frm S w w') (hb:¬ S b) (hv:∀ e ∈ es.toList,∀ g,e.val.ownBlock=some g->¬ S g):MapAt w' base b κ L es clock:=by
 refine ⟨(f.block b (Array.getElem?_eq_some_iff.1 h.heap).1 hb).trans h.heap,h.born,h.nodup,fun e he=>?_,h.keys,h.blks,h.all⟩
 obtain ⟨k,gk,ek,rk,pk⟩:=h.ent e he
 refine ⟨k,gk,ek,⟨rk.1,?_⟩,pk⟩
 rcases rk.2 with q|⟨g,cap,cur,hv',hb',hg,rest⟩
 ·exact .inl q
 ·exact .inr ⟨g,cap,cur,hv',hb',(f.block g (Array.getElem?_eq_some_iff.1 hg).1 (hv e he g (by rw [hv'];rfl))).trans hg,rest⟩
def Off (es:Array MapEntry) (b k:Nat):Prop:=k ≠ b/\∀ e ∈ es.toList,e.val.ownBlock ≠ some k
theorem areaInfo:(Tryz.prog.info? 100).map (fun i=>(i.zero,i.size,i.bytes))=some (some (.agg #[.int .i64 0,.int .i64 0,.int .i64 0]),3,24):=by kernel_rfl
theorem sel_le (κ:Ar->Kt) (L:List Ar) (k:Kt):(sel κ L k).length<=L.length:=List.length_filter_le _ _
theorem MapAt.add {w:World} {base b:Nat} {κ:Ar->Kt} {L:List Ar} {es:Array MapEntry} {clock:Nat} (h:MapAt w base b κ L es clock) (a:Ar) (hk:GoodK (κ a)) (hbase:base<=w.heap.size) (hL:L.length<=1000) (g c:Nat) (hg:w.heap[g]?=some (.cells (arCells a).toArray 100 (0,0))) (hgo:Off es b g) :
  ∃ (v0:Value) (st:Nat) (w1:World) (v':Value) (w2 w3:World) (es':Array MapEntry) (clock':Nat),(Instr.mapEntry 91 (.map (some b)) (kval (κ a))).run Tryz.prog w=.ok (.tuple #[v0,.int .i64 st]) w1 /\
   (Builtin.append_ #[202,202] 202 #[v0,.slice (some ⟨g,0,none⟩) 1 c]).run Tryz.prog w1=.ok v' w2 /\
   (Instr.entryStore 91 (.map (some b)) (.int .i64 st) v').run Tryz.prog w2=.ok () w3/\MapAt w3 base b κ (L++[a]) es' clock'/\Frm (fun k=>¬ Off es b k) w w3/\∀ k,k<w.heap.size->Off es b k->Off es' b k:=by
 obtain ⟨v0,st,w1,e1,g1,s1,o1,p1,K⟩:=h.entry a hk
 have hgl:g<w.heap.size:=(Array.getElem?_eq_some_iff.1 hg).1
 have hg1:w1.heap[g]?=some (.cells (arCells a).toArray 100 (0,0)):=(g1.block g hgl (fun e=>hgo.1 (Option.some.inj e))).trans hg
 have hi:∃ i,Tryz.prog.info? 100=some i/\i.zero=some (.agg #[.int .i64 0,.int .i64 0,.int .i64 0])/\i.size=3/\i.bytes=24:=by
  have:=areaInfo
  cases e:Tryz.prog.info? 100 with
  | none=>rw [e] at this;cases this
  | some i =>
   rw [e] at this
   have:=Option.some.inj this
   simp only [Prod.mk.injEq] at this
   exact ⟨i,rfl,this.1,this.2.1,this.2.2⟩
 obtain ⟨i,i1,i2,i3,i4⟩:=hi
 have hle:=sel_le κ L (κ a)
 obtain ⟨v',w2,r2,o2,g2,_,at2⟩:=run_append_own_at (P:=Tryz.prog) w1 base 202 202 100 i _ 3 24 Tryz.underlying202 i1 i2 i3 i4 rfl (by decide) v0 _ _ o1 ⟨g,0,none⟩ 1 c (arCells a) rfl
  (fun j u hu=>by
   have:=cell_of_row _ _ j _ _ _ hg1
   rw [List.getElem?_toArray] at this
   have e:(⟨g,0,none⟩:Addr).add j=⟨g,j,none⟩:=by rw [Addr.add_mid,Nat.zero_add]
   rw [e,this]
   exact hu)
  (fun u hu=>by
   unfold arCells at hu
   simp at hu
   rcases hu with rfl|rfl|rfl <;> rfl)
  (by simp only [maxLen];omega) (by omega) (by omega)
 obtain ⟨w3,es',clock',r3,g3,s3,m3,b3⟩:=K v' w2 o2 g2 at2
 refine ⟨v0,st,w1,v',w2,w3,es',clock',e1,r2,r3,m3,⟨?_,?_,?_,?_,fun k hk hs=>?_⟩,fun k hk ho=>⟨ho.1,fun x hx e0=>?_⟩⟩
 ·rw [g3.os,g2.os,g1.os]
 ·rw [g3.tape,g2.tape,g1.tape]
 ·rw [g3.output,g2.output,g1.output]
 ·rw [s3];exact Nat.le_trans (by omega) g2.size
 ·have ho:Off es b k:=Classical.byContradiction hs
  have n1:some k ≠ some b:=fun e=>ho.1 (Option.some.inj e)
  have n2:some k ≠ v0.ownBlock:=fun e=>by
   obtain ⟨x,hx,ex⟩:=p1 k e.symm
   exact ho.2 x hx ex
  have l1:k<w1.heap.size:=by omega
  exact ((g3.block k (Nat.lt_of_lt_of_le l1 g2.size) n1).trans (g2.block k l1 n2)).trans (g1.block k hk n1)
 ·rcases b3 x hx with e|⟨y,hy,e⟩
  ·rw [e0] at e
   rcases at2 with q|q
   ·rw [q] at e
    obtain ⟨y,hy,ey⟩:=p1 k e.symm
    exact ho.2 y hy ey
   ·rw [q] at e
    have:=Option.some.inj e
    omega
  ·exact ho.2 y hy (e.symm.trans e0)
end
end Go.Proofs.YtekfbphnoibnjaaGreatDoor
