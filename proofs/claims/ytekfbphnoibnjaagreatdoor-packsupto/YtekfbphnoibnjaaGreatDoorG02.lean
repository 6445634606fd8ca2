/-
  App Mark LentBits Lin MarkG Arr ShRaw RefNum
-/
import Derived.Test.YtekfbphnoibnjaaGreatDoorG01
import Derived.Deep.RegionHeld3
import Derived.Deep.AppendLies
import Derived.Laws.CopyOwn
import Derived.Deep.CutBlock
import Derived.Deep.DeepCutAuto
set_option maxHeartbeats 4000000
namespace Go.Proofs.YtekfbphnoibnjaaGreatDoor
section
open Go.RowKit
theorem owns_shrink {w:World} {base:Nat} {e:TypeId} {size g n m cap:Nat} {xs news:List Value} (h:w.ownsRow base e size (.slice (some ⟨g,0,none⟩) (n+m) cap) (n+m) (xs++news)) (hl:xs.length=n*size) :
  w.ownsRow base e size (.slice (some ⟨g,0,none⟩) n cap) n xs:=by
 refine ⟨hl,?_⟩
 rcases h.2 with ⟨h',_⟩|⟨g',cap',cur,h',hb,hg,hnc,hcm,hcs,htake⟩
 ·simp at h'
 ·simp only [Value.slice.injEq,Option.some.injEq,Addr.mk.injEq,and_true,true_and] at h'
  obtain ⟨rfl,rfl⟩:=h'
  refine .inr ⟨g,cap,cur,rfl,hb,hg,by omega,hcm,hcs,?_⟩
  have h1:(cur.toList.take ((n+m)*size)).take (n*size)=(xs++news).take (n*size):=by rw [htake]
  rw [List.take_take,Nat.min_eq_left (Nat.mul_le_mul_right _ (by omega)),<- hl,List.take_left] at h1
  rw [<- hl];exact h1
theorem grownBy_none {w w':World} (h:w.grownBy w' none) (row:Option Nat):w.grownBy w' row:=⟨h.os,h.tape,h.output,h.size,fun k hk _=>h.block k hk (by simp)⟩
theorem run_append_keep {P:Program} (w:World) (base:Nat) (t ty e:TypeId) (i:TypeInfo) (z:Value) (size bytes:Nat) (ht:P.underlying t=some (.slice e)) (hi:P.info? e=some i) (hz:i.zero=some z)
  (hsize:i.size=size) (hby:i.bytes=bytes) (hzs:z.cells.size=size) (hsz:0<size)
  (v:Value) (n:Nat) (xs:List Value) (hown:w.ownsRow base e size v n xs)
  (a:Addr) (m c:Nat) (news:List Value) (hl:news.length=m*size) (hnews:∀ j u,news[j]?=some u->w.cell? (a.add j)=some u) (h1:∀ u ∈ news,u.oneCell'=true)
  (h63:n+m<=maxLen) (hbytes:(n+m)*bytes<=140737488355328) (hbase:base<=w.heap.size) (hm:0<m) :
  ∃ g cap w',(Builtin.append_ #[t,t] ty #[v,.slice (some a) m c]).run P w=.ok (.slice (some ⟨g,0,none⟩) (n+m) cap) w'/\w'.ownsRow base e size (.slice (some ⟨g,0,none⟩) (n+m) cap) (n+m) (xs++news)/\w'.ownsRow base e size v n xs/\w.grownBy w' v.ownBlock /\
   (v.ownBlock=some g \/ (w.heap.size<=g/\w.grownBy w' none)):=by
 have hform:∀ (v':Value) (w':World),w'.ownsRow w.heap.size e size v' (n+m) (xs++news)->∃ g cap,v'=Value.slice (some ⟨g,0,none⟩) (n+m) cap/\w.heap.size<=g/\w'.ownsRow base e size v' (n+m) (xs++news):=by
  intro v' w' h
  rcases h.2 with ⟨_,h0⟩|⟨g,cap,cur,rfl,hb,hr⟩
  ·omega
  ·exact ⟨g,cap,rfl,hb,h.1,.inr ⟨g,cap,cur,rfl,Nat.le_trans hbase hb,hr⟩⟩
 rcases hown.2 with ⟨rfl,rfl⟩|⟨g,cap,cur,rfl,hbg,hg,hnc,hcm,hcs,htake⟩
 ·have hx:xs=[]:=List.eq_nil_of_length_eq_zero (by simpa using hown.1)
  subst hx
  obtain ⟨v',w',hrun,r1,r2,_⟩:=run_append_own (P:=P) w w.heap.size t ty e i z size bytes ht hi hz hsize hby hzs hsz (.slice none 0 0) 0 [] (World.ownsRow_nil w _ e size) a m c news hl hnews h1 h63 hbytes (Nat.le_refl _)
  obtain ⟨g,cap,rfl,hb,ho⟩:=hform v' w' r1
  exact ⟨g,cap,w',hrun,ho,World.ownsRow_nil w' _ e size,r2,.inr ⟨hb,r2⟩⟩
 ·by_cases hroom:n+m<=cap
  ·obtain ⟨w',hrun,r1,r2⟩:=run_append_fits (P:=P) w base t ty e i size ht hi hsize g n cap xs hown a m c news hl hnews h1 hroom
   exact ⟨g,cap,w',hrun,r1,owns_shrink r1 hown.1,r2,.inl rfl⟩
  ·have holds:∀ j u,xs[j]?=some u->w.cell? ((⟨g,0,none⟩:Addr).add j)=some u:=hown.cells (g:=g) rfl
   obtain ⟨v',w',hrun,r1,r2⟩:=run_append_arg_grows (P:=P) w t ty e i z size bytes ht hi hz hsize hby hzs hsz ⟨g,0,none⟩ n cap xs hown.1 holds a m c news hl hnews (by omega) h63 hbytes
   obtain ⟨g',cap',rfl,hb,ho⟩:=hform v' w' r1
   exact ⟨g',cap',w',hrun,ho,hown.kept r2 (.inr (by simp [Value.ownBlock])),grownBy_none r2 _,.inr ⟨hb,r2⟩⟩
theorem wpList_append_keep {P:Program} (w:World) {ops:Array Oper} {rest:List Oper} {o:Oper} {a:Act} {Q:Exit->Act->World->Prop} (hgd:o.guard=none) (s x:Operand) (t:TypeId)
  (ho:o.op=.call { callee:=.builtin .append,args:=#[s,x],argTypes:=#[t,t] })
  (base:Nat) (e:TypeId) (i:TypeInfo) (z:Value) (size bytes:Nat) (ht:P.underlying t=some (.slice e)) (hi:P.info? e=some i) (hz:i.zero=some z)
  (hsize:i.size=size) (hby:i.bytes=bytes) (hzs:z.cells.size=size) (hsz:0<size)
  (v:Value) (n:Nat) (xs:List Value) (hs:a.eval s=v) (hown:w.ownsRow base e size v n xs)
  (ad:Addr) (m c:Nat) (news:List Value) (hx:a.eval x=.slice (some ad) m c) (hl:news.length=m*size) (hnews:∀ j u,news[j]?=some u->w.cell? (ad.add j)=some u) (h1:∀ u ∈ news,u.oneCell'=true)
  (h63:n+m<=maxLen) (hbytes:(n+m)*bytes<=140737488355328) (hbase:base<=w.heap.size) (hm:0<m)
  (h:∀ g cap w',w'.ownsRow base e size (.slice (some ⟨g,0,none⟩) (n+m) cap) (n+m) (xs++news)->w'.ownsRow base e size v n xs->w.grownBy w' v.ownBlock->(v.ownBlock=some g \/ (w.heap.size<=g/\w.grownBy w' none))->wpList P ops Q rest (a.put o.dst (.slice (some ⟨g,0,none⟩) (n+m) cap)) w'):wpList P ops Q (o :: rest) a w:=by
 refine wpList_plain hgd fun K hK=>?_
 obtain ⟨g,cap,w',hrun,r1,r2,r3,r4⟩:=run_append_keep (P:=P) w base t o.type e i z size bytes ht hi hz hsize hby hzs hsz v n xs hown ad m c news hl hnews h1 h63 hbytes hbase hm
 unfold Oper.wp execOp
 simp only [ho,resolve,invoke,builtin,Sem.run_bind,Sem.run_pure,Result.andThen_ok,List.map_toArray,List.map_cons,List.map_nil,hs,hx,hrun]
 exact hK _ _ (h g cap w' r1 r2 r3 r4)
theorem frozen_alloc_drew {w:World} {o:Obj} {p j:Nat} (h:p<w.heap.size):(w.alloc o).drew.frozen? ⟨p,j,none⟩=w.frozen? ⟨p,j,none⟩:=World.frozen?_of_block (w:=w) (a:=⟨p,j,none⟩) (Below.heap_alloc w o p h)
theorem cell_alloc_drew {w:World} {o:Obj} {p j:Nat} (h:p<w.heap.size):(w.alloc o).drew.cell? ⟨p,j,none⟩=w.cell? ⟨p,j,none⟩:=World.cell?_of_block (w:=w) (a:=⟨p,j,none⟩) (Below.heap_alloc w o p h)
end
section
open Go.RowKit
structure BookAt (w:World) (p:Nat) (M:Nat) (vs:List Value):Prop where
 c0:w.cell? ⟨p,0,none⟩=some (.int .i64 M)
 cs:∀ j v,vs[j]?=some v->w.cell? ⟨p,j+1,none⟩=some v
 len:vs.length=8
 fz:∀ o,w.frozen? ⟨p,o,none⟩=false
 up:p<w.heap.size
theorem BookAt.of_block {w w':World} {p M:Nat} {vs:List Value} (h:BookAt w p M vs) (hb:w'.heap[p]?=w.heap[p]?) (hz:w.heap.size<=w'.heap.size):BookAt w' p M vs:=by
 have hc:∀ o,w'.cell? ⟨p,o,none⟩=w.cell? ⟨p,o,none⟩:=fun o=>World.cell?_of_block (a:=⟨p,o,none⟩) hb
 exact ⟨(hc 0).trans h.c0,fun j v hv=>(hc (j+1)).trans (h.cs j v hv),h.len,fun o=>(World.frozen?_of_block (a:=⟨p,o,none⟩) hb).trans (h.fz o),Nat.lt_of_lt_of_le h.up hz⟩
theorem BookAt.frm {S:Nat->Prop} {w w':World} {p M:Nat} {vs:List Value} (h:BookAt w p M vs) (f:Frm S w w') (hn:¬ S p):BookAt w' p M vs:=h.of_block (f.block p h.up hn) f.size
theorem BookAt.put0 {w:World} {p M:Nat} {vs:List Value} (h:BookAt w p M vs) (M':Nat):BookAt (w.setCell ⟨p,0,none⟩ (.int .i64 M')) p M' vs :=
 ⟨World.cell?_setCell_same _ _ _ h.c0,fun j v hv=>cell_off (h.cs j v hv) (.inr (by omega)),h.len,fun o=>by rw [World.frozen?_setCell];exact h.fz o,by rw [World.size_setCell];exact h.up⟩
theorem BookAt.put {w:World} {p M:Nat} {vs:List Value} (h:BookAt w p M vs) (i:Nat) (hi:i<8) (u:Value):BookAt (w.setCell ⟨p,i+1,none⟩ u) p M (vs.set i u):=by
 have hl:=h.len
 refine ⟨cell_off h.c0 (.inr (by omega)),fun j v hv=>?_,by simpa using hl,fun o=>by rw [World.frozen?_setCell];exact h.fz o,by rw [World.size_setCell];exact h.up⟩
 by_cases e:i=j
 ·subst e
  rw [List.getElem?_set,if_pos rfl,if_pos (by omega)] at hv
  injection hv with hv
  subst hv
  obtain ⟨x,hx⟩:∃ x,vs[i]?=some x:=⟨_,List.getElem?_eq_getElem (by omega)⟩
  exact World.cell?_setCell_same _ _ _ (h.cs i x hx)
 ·rw [List.getElem?_set,if_neg e] at hv
  exact cell_off (h.cs j v hv) (.inr (by omega))
def Fill (w:World) (v:Value) (n:Nat) (us:List Value):Prop :=
 ∃ a c,v=.slice a n c/\(n=0 \/ ∃ b off,a=some ⟨b,off,none⟩/\∀ j,j<n->∀ t u,us[t]?=some u->w.cell? ⟨b,off+j*us.length+t,none⟩=some u)
theorem Fill.frm {S:Nat->Prop} {w w':World} {v:Value} {n:Nat} {us:List Value} (h:Fill w v n us) (f:Frm S w w') (hn:∀ k,v.ownBlock=some k->¬ S k):Fill w' v n us:=by
 obtain ⟨a,c,rfl,h⟩:=h
 refine ⟨a,c,rfl,?_⟩
 rcases h with h|⟨b,off,rfl,h⟩
 ·exact .inl h
 ·exact .inr ⟨b,off,rfl,fun j hj t u hu=>f.cell (h j hj t u hu) (hn b rfl)⟩
def Blk (w:World) (b:Nat) (cs:List Value) (e:TypeId):Prop:=w.heap[b]?=some (.cells cs.toArray e (0,0))
theorem Blk.cell {w:World} {b:Nat} {cs:List Value} {e:TypeId} (h:Blk w b cs e) (j:Nat) (v:Value) (hv:cs[j]?=some v):w.cell? ⟨b,j,none⟩=some v:=by
 rw [cell_of_row w b j _ _ _ h];simpa using hv
theorem Blk.frozen {w:World} {b:Nat} {cs:List Value} {e:TypeId} (h:Blk w b cs e) (j:Nat):w.frozen? ⟨b,j,none⟩=false:=frozen_of_row w b j _ _ h
theorem Blk.lt {w:World} {b:Nat} {cs:List Value} {e:TypeId} (h:Blk w b cs e):b<w.heap.size:=by
 rcases Nat.lt_or_ge b w.heap.size with h'|h'
 ·exact h'
 ·unfold Blk at h;rw [Array.getElem?_eq_none h'] at h;cases h
theorem Blk.of {w w':World} {b:Nat} {cs:List Value} {e:TypeId} (h:Blk w b cs e) (hb:w'.heap[b]?=w.heap[b]?):Blk w' b cs e:=hb.trans h
theorem Blk.alloc {w:World} {b:Nat} {cs:List Value} {e:TypeId} (h:Blk w b cs e) (o:Obj):Blk (w.alloc o) b cs e:=h.of (Below.heap_alloc w o b h.lt)
theorem Blk.grown {w w':World} {b:Nat} {cs:List Value} {e:TypeId} {row:Option Nat} (h:Blk w b cs e) (hg:w.grownBy w' row) (hn:row ≠ some b):Blk w' b cs e:=h.of (hg.block b h.lt (fun k=>hn k.symm))
theorem Blk.set {w:World} {b:Nat} {cs:List Value} {e:TypeId} (h:Blk w b cs e) (j:Nat) (v:Value):Blk (w.setCell ⟨b,j,none⟩ v) b (cs.set j v) e:=by
 unfold Blk
 rw [heap_setCell_same w b j _ e v h]
 simp
theorem Blk.new (w:World) (cs:List Value) (e:TypeId):Blk (w.alloc (.cells cs.toArray e)) w.heap.size cs e:=by
 show (w.heap.push _)[w.heap.size]?=_
 simp
def markS (p:Nat) (vl vi:Value):Nat->Prop:=fun k=>k=p \/ vl.ownBlock=some k \/ vi.ownBlock=some k
theorem fill_setOther {w:World} {g k cap b j:Nat} {us:List Value} {v:Value} (h:Fill w (.slice (some ⟨g,0,none⟩) k cap) k us) (hne:b ≠ g):Fill (w.setCell ⟨b,j,none⟩ v) (.slice (some ⟨g,0,none⟩) k cap) k us:=by
 obtain ⟨a,c,e,h⟩:=h
 refine ⟨a,c,e,?_⟩
 rcases h with h|⟨b',off,rfl,h⟩
 ·exact .inl h
 ·simp only [Value.slice.injEq,Option.some.injEq,Addr.mk.injEq,and_true,true_and] at e
  obtain ⟨⟨rfl,rfl⟩,rfl⟩:=e
  exact .inr ⟨g,0,rfl,fun j' hj t u hu=>cell_off (h j' hj t u hu) (.inl hne)⟩
theorem fill_alloc {w:World} {v:Value} {k:Nat} {us:List Value} (h:Fill w v k us) (o:Obj):Fill (w.alloc o) v k us:=by
 obtain ⟨a,c,rfl,h⟩:=h
 refine ⟨a,c,rfl,?_⟩
 rcases h with h|⟨b,off,rfl,h⟩
 ·exact .inl h
 ·refine .inr ⟨b,off,rfl,fun j hj t u hu=>?_⟩
  have hc:=h j hj t u hu
  exact (World.cell?_of_block (Below.heap_alloc w o b (World.block_lt_of_cell? w _ hc))).trans hc
theorem news_new (X:World) (cs:List Value) (e:TypeId) (H:Nat) (hH:X.heap.size=H):∀ j u,cs[j]?=some u->(X.alloc (.cells cs.toArray e)).cell? ((⟨H,0,none⟩:Addr).add j)=some u:=by
 intro j u hu
 subst hH
 exact World.news_of_block (cs:=cs.toArray) (t:=e) (fr:=(0,0)) (Blk.new X cs e) j u (by simpa using hu)
end
section
open Go.RowKit
theorem run_copy_row_sz {P:Program} (w:World) (dT sT ty elem:TypeId) (g o dLen dCap:Nat) (a:Addr) (sLen sCap:Nat) (cur:Array Value) (t:TypeId) (cs:List Value) (size:Nat)
  (hu:P.underlying dT=some (.slice elem)) (hs:(P.info? elem).map (·.size)=some size)
  (hg:w.heap[g]?=some (.cells cur t (0,0))) (hn:cs.length=Nat.min sLen dLen*size)
  (hsrc:∀ j v,cs[j]?=some v->w.cell? (a.add j)=some v) (hfit:o+cs.length<=cur.size) (h1:∀ v ∈ cs,v.oneCell'=true) :
  (Builtin.copy_ #[dT,sT] ty #[.slice (some ⟨g,o,none⟩) dLen dCap,.slice (some a) sLen sCap]).run P w =
   .ok (goInt (Nat.min sLen dLen)) (w.setRow g (cur.toList.take o++cs++cur.toList.drop (o+cs.length)).toArray):=by
 have hl:=run_loadCells_list (P:=P) w a cs hsrc
 have hst:=run_storeCells_at P g o t cs 0 cur w hg (by simpa using hfit) h1
 cases hq:P.info? elem with
 | none=>simp [hq] at hs
 | some i =>
  have hi:i.size=size:=by simpa [hq] using hs
  simp [Builtin.copy_,run_underlying hu,Builtin.lenOf,Builtin.firstCells,sizeOf,typeInfo,hq,hi,<- hn,hl,hst]
theorem wpList_copy_sz {P:Program} {w:World} {ops:Array Oper} {rest:List Oper} {o:Oper} {a:Act} {Q:Exit->Act->World->Prop} (hgd:o.guard=none) (d s:Operand) (dT sT:TypeId)
  (ho:o.op=.call { callee:=.builtin .copy,args:=#[d,s],argTypes:=#[dT,sT] }) (elem:TypeId) (size:Nat) (hu:P.underlying dT=some (.slice elem)) (hsz:(P.info? elem).map (·.size)=some size)
  (g off dLen dCap:Nat) (ad:Addr) (sLen sCap:Nat) (hd:a.eval d=.slice (some ⟨g,off,none⟩) dLen dCap) (hs:a.eval s=.slice (some ad) sLen sCap)
  (cur:List Value) (t:TypeId) (hg:w.heap[g]?=some (.cells cur.toArray t (0,0))) (cs:List Value) (hn:cs.length=Nat.min sLen dLen*size)
  (hsrc:∀ j v,cs[j]?=some v->w.cell? (ad.add j)=some v) (hfit:off+cs.length<=cur.length) (h1:∀ v ∈ cs,v.oneCell'=true) (B:Nat) (w0:World) (hb:Below B w0 w) (hBg:B<=g)
  (h:∀ w',Hid (w'.heap[g]?=some (.cells (splice cur off cs).toArray t (0,0)))->Below B w0 w'->wpList P ops Q rest (a.put o.dst (goInt (Nat.min sLen dLen))) w'):wpList P ops Q (o :: rest) a w:=by
 refine wpList_plain hgd fun K hK=>?_
 have hrun:=run_copy_row_sz (P:=P) w dT sT o.type elem g off dLen dCap ad sLen sCap cur.toArray t cs size hu hsz hg hn hsrc (by simpa using hfit) h1
 unfold Oper.wp
 simp [execOp,ho,resolve,invoke,builtin,hd,hs,hrun,Result.andThen]
 exact hK _ _ (h _ (show _=_ by simpa [splice] using setRow_heap w g _ _ t _ hg) (below_setRow hb hBg _))
end
section
open Go.RowKit
def role (own:Nat->Nat) (v:Value) (r:Nat):Prop:=∀ k,v.ownBlock=some k->own k=r
theorem role.ne {own:Nat->Nat} {v u:Value} {r s:Nat} (h:role own v r) (g:role own u s) (hrs:r ≠ s):∀ k,v.ownBlock=some k->u.ownBlock ≠ some k:=fun k hk hu=>hrs ((h k hk).symm.trans (g k hu))
theorem role.ne1 {own:Nat->Nat} {v:Value} {r k:Nat} (h:role own v r) (hk:own k ≠ r):v.ownBlock ≠ some k:=fun e=>hk (h k e)
theorem fill_lt {w:World} {v:Value} {n:Nat} {us:List Value} (h:Fill w v n us) (hn:0<n) (hu:us ≠ []):∀ k,v.ownBlock=some k->k<w.heap.size:=by
 obtain ⟨a,c,rfl,h⟩:=h
 intro k hk
 rcases h with h|⟨b,off,rfl,h⟩
 ·omega
 ·simp [Value.ownBlock] at hk
  subst hk
  obtain ⟨u,us',rfl⟩:=List.exists_cons_of_ne_nil hu
  exact World.block_lt_of_cell? w _ (h 0 hn 0 u rfl)
end
section
open Go.RowKit
def reps (n:Nat) (us:List Value):List Value:=(List.replicate n us).flatten
theorem reps_len (n:Nat) (us:List Value):(reps n us).length=n*us.length:=by simp [reps]
theorem reps_succ (n:Nat) (us:List Value):reps (n+1) us=us++reps n us:=by simp [reps,List.replicate_succ]
theorem reps_app (n k:Nat) (us:List Value):reps n us++reps k us=reps (n+k) us:=by
 unfold reps
 rw [<- List.flatten_append,List.replicate_append_replicate]
theorem reps_get:∀ (n:Nat) (us:List Value) (j t:Nat),j<n->t<us.length->(reps n us)[j*us.length+t]?=us[t]?
 | 0,_,_,_,h,_=>by omega
 | n+1,us,0,t,_,ht=>by rw [reps_succ,Nat.zero_mul,Nat.zero_add,List.getElem?_append_left ht]
 | n+1,us,j+1,t,h,ht=>by
  have e:(j+1)*us.length+t=us.length+(j*us.length+t):=by rw [Nat.succ_mul];omega
  rw [reps_succ,e,List.getElem?_append_right (by omega),Nat.add_sub_cancel_left]
  exact reps_get n us j t (by omega) ht
theorem reps_one (us:List Value):reps 1 us=us:=by simp [reps]
theorem oneCell_reps {us:List Value} (h:∀ u ∈ us,u.oneCell'=true) (n:Nat):∀ u ∈ reps n us,u.oneCell'=true:=by
 intro u hu
 unfold reps at hu
 obtain ⟨l,hl,hul⟩:=List.mem_flatten.1 hu
 rw [List.mem_replicate] at hl
 rw [hl.2] at hul
 exact h u hul
def markRowG (xs us:List Value) (j:Nat):List Value:=reps j us++xs.drop (j*us.length)
theorem markRowG_zero (xs us:List Value):markRowG xs us 0=xs:=by simp [markRowG,reps]
theorem markRowG_full (xs us:List Value) (n:Nat) (h:xs.length=n*us.length):markRowG xs us n=reps n us:=by
 unfold markRowG
 rw [List.drop_eq_nil_of_le (by omega)];simp
theorem markRowG_set1 (xs:List Value) (u:Value) (j:Nat) (h:j<xs.length):(markRowG xs [u] j).set j u=markRowG xs [u] (j+1):=by
 unfold markRowG
 have hl:(reps j [u]).length=j:=by rw [reps_len];simp
 rw [List.set_append_right _ _ (by omega),hl,Nat.sub_self]
 simp only [List.length_singleton,Nat.mul_one]
 rw [List.drop_eq_getElem_cons h,List.set_cons_zero,<- reps_app j 1,reps_one]
 simp
theorem markRowG_set3 (xs:List Value) (a b c:Value) (j:Nat) (h:j*3+2<xs.length):(((markRowG xs [a,b,c] j).set (j*3) a).set (j*3+1) b).set (j*3+2) c=markRowG xs [a,b,c] (j+1):=by
 unfold markRowG
 have hl:(reps j [a,b,c]).length=j*3:=by rw [reps_len];rfl
 have e1:xs.drop (j*3)=xs[j*3] :: xs[j*3+1] :: xs[j*3+2] :: xs.drop (j*3+3):=by
  rw [List.drop_eq_getElem_cons (by omega),List.drop_eq_getElem_cons (by omega),List.drop_eq_getElem_cons (by omega)]
 simp only [List.length_cons,List.length_nil,Nat.zero_add,Nat.reduceAdd]
 rw [e1,List.set_append_right _ _ (by omega),hl,Nat.sub_self,List.set_cons_zero,List.set_append_right _ _ (by omega),hl,Nat.add_sub_cancel_left,List.set_cons_succ,List.set_cons_zero,List.set_append_right _ _ (by omega),hl,Nat.add_sub_cancel_left,List.set_cons_succ,List.set_cons_succ,List.set_cons_zero,<- reps_app j 1,reps_one,show (j+1)*3=j*3+3 by omega]
 simp
theorem Fill.of_reps {w:World} {base:Nat} {e:TypeId} {v:Value} {n:Nat} {us:List Value} (h:w.ownsRow base e us.length v n (reps n us)):Fill w v n us:=by
 rcases h.2 with ⟨rfl,rfl⟩|⟨g,cap,cur,rfl,hb,hr⟩
 ·exact ⟨_,_,rfl,.inl rfl⟩
 ·refine ⟨_,_,rfl,.inr ⟨g,0,rfl,fun j hj t u hu=>?_⟩⟩
  have ht:t<us.length:=(List.getElem?_eq_some_iff.1 hu).1
  have hlt:j*us.length+t<n*us.length:=by
   have:(j+1)*us.length<=n*us.length:=Nat.mul_le_mul_right _ hj
   rw [Nat.succ_mul] at this;omega
  have hc:=World.ownsRow.cellAt h (j*us.length+t) hlt
  rw [Nat.zero_add,hc,reps_get n us j t hj ht,hu]
structure MKg (e:TypeId) (sz:Nat) (E:TypeId) (bz:Nat) (w wr:World) (B p M:Nat) (vs:List Value) (vi vl:Value) (ik n:Nat) (rows xs:List Value):Prop where
 bk:BookAt wr p M vs
 ri:wr.ownsRow B E bz vi ik rows
 rl:wr.ownsRow B e sz vl n xs
 fr:Frm (markS p vl vi) w wr
section
variable {e:TypeId} {sz:Nat} {E:TypeId} {bz:Nat} {w wr w1:World} {B p M:Nat} {vs:List Value} {vi vl:Value} {ik n:Nat} {rows xs:List Value}
theorem MKg.alloc (h:MKg e sz E bz w wr B p M vs vi vl ik n rows xs) (o:Obj):MKg e sz E bz w (wr.alloc o) B p M vs vi vl ik n rows xs :=
 ⟨h.bk.of_block (Below.heap_alloc wr o p h.bk.up) (by simp),h.ri.alloc o,h.rl.alloc o,h.fr.alloc o⟩
theorem MKg.drewN (h:MKg e sz E bz w wr B p M vs vi vl ik n rows xs) (k:Nat):MKg e sz E bz w (wr.drewN k) B p M vs vi vl ik n rows xs :=
 ⟨h.bk.of_block rfl (Nat.le_refl _),(Frm.drewN (Frm.refl (fun _=>False) wr) k).owns h.ri (fun _ _ e=>e),(Frm.drewN (Frm.refl (fun _=>False) wr) k).owns h.rl (fun _ _ e=>e),h.fr.drewN k⟩
theorem MKg.below (h:MKg e sz E bz w wr B p M vs vi vl ik n rows xs) (hb:Below wr.heap.size wr w1):MKg e sz E bz w w1 B p M vs vi vl ik n rows xs :=
 ⟨h.bk.of_block (hb.block p h.bk.up) hb.size,(Frm.of_below (S:=fun _=>False) hb).owns h.ri (fun _ _ e=>e),(Frm.of_below (S:=fun _=>False) hb).owns h.rl (fun _ _ e=>e),h.fr.trans (Frm.of_below hb)⟩
theorem MKg.setNew (h:MKg e sz E bz w wr B p M vs vi vl ik n rows xs) (b j:Nat) (v:Value) (hp:b ≠ p) (hi:vi.ownBlock ≠ some b) (hl:vl.ownBlock ≠ some b) (hb:w.heap.size<=b):MKg e sz E bz w (wr.setCell ⟨b,j,none⟩ v) B p M vs vi vl ik n rows xs :=
 ⟨h.bk.of_block (Below.heap_setCell wr ⟨b,j,none⟩ v p (fun e=>hp e.symm)) (by simp),h.ri.kept (grown_setCell wr b j v) (.inr hi),h.rl.kept (grown_setCell wr b j v) (.inr hl),h.fr.setCell (.inr hb) v⟩
theorem MKg.app (h:MKg e sz E bz w wr B p M vs vi vl ik n rows xs) (hg:wr.grownBy w1 vl.ownBlock) (hl:w1.ownsRow B e sz vl n xs) (n2:vl.ownBlock ≠ some p) (n3:∀ k,vl.ownBlock=some k->vi.ownBlock ≠ some k):MKg e sz E bz w w1 B p M vs vi vl ik n rows xs :=
 ⟨h.bk.of_block (hg.block p h.bk.up (fun e=>n2 e.symm)) hg.size,h.ri.kept hg (by
  cases hv:vi.ownBlock with
  | none=>exact .inl rfl
  | some k=>exact .inr (fun e=>n3 k e.symm hv)),hl,h.fr.grown hg (fun k hk=>.inl (.inr (.inl hk)))⟩
end
theorem fill_appG {X w2:World} {B g k cap g2 N cap2:Nat} {vb:Option Nat} {e:TypeId} {us:List Value} (h:Fill X (.slice (some ⟨g,0,none⟩) k cap) k us) (hg:X.grownBy w2 vb) (hl:vb=some g2 \/ X.grownBy w2 none)
  (ho:w2.ownsRow B e us.length (.slice (some ⟨g2,0,none⟩) N cap2) N (reps N us)) (hk:k<=N):Fill w2 (.slice (some ⟨g,0,none⟩) k cap) k us:=by
 obtain ⟨a,c,e,h⟩:=h
 refine ⟨a,c,e,?_⟩
 rcases h with h|⟨b',off,rfl,h⟩
 ·exact .inl h
 ·simp only [Value.slice.injEq,Option.some.injEq,Addr.mk.injEq,and_true,true_and] at e
  obtain ⟨⟨rfl,rfl⟩,rfl⟩:=e
  refine .inr ⟨g,0,rfl,fun j hj t u hu=>?_⟩
  have hc:=h j hj t u hu
  by_cases e:vb=some g
  ·rcases hl with hl|hl
   ·have:g2=g:=by rw [e] at hl;injection hl with hl;exact hl.symm
    subst this
    have ht:t<us.length:=(List.getElem?_eq_some_iff.1 hu).1
    have hlt:j*us.length+t<N*us.length:=by
     have:(j+1)*us.length<=N*us.length:=Nat.mul_le_mul_right _ (by omega)
     rw [Nat.succ_mul] at this;omega
    have hc:=World.ownsRow.cellAt ho (j*us.length+t) hlt
    rw [Nat.zero_add,hc,reps_get N us j t (by omega) ht,hu]
   ·exact hl.cell hc (by simp)
  ·exact hg.cell hc (fun k=>e k.symm)
def MarkedG (E:TypeId) (bz i:Nat) (ms us:List Value) (w w':World) (B p M:Nat) (vs:List Value) (vi vl:Value) (ik n:Nat) (rows:List Value):Prop :=
 ∃ gi ci g1 e1 g2 e2 g3 e3:Nat,BookAt w' p (M+1) (vs.set i (.slice (some ⟨gi,0,none⟩) (ik+1) ci)) /\
  w'.ownsRow B E bz (.slice (some ⟨gi,0,none⟩) (ik+1) ci) (ik+1) (rows++(ms++[vl,.slice (some ⟨g1,0,none⟩) (n+1) e1,.slice (some ⟨g2,0,none⟩) (n+2) e2,.slice (some ⟨g3,0,none⟩) (n+3) e3])) /\
  Fill w' vl n us/\Fill w' (.slice (some ⟨g1,0,none⟩) (n+1) e1) (n+1) us/\Fill w' (.slice (some ⟨g2,0,none⟩) (n+2) e2) (n+2) us/\Fill w' (.slice (some ⟨g3,0,none⟩) (n+3) e3) (n+3) us /\
  (vi.ownBlock=some gi \/ w.heap.size<=gi)/\(vl.ownBlock=some g1 \/ w.heap.size<=g1)/\(vl.ownBlock=some g2 \/ w.heap.size<=g2)/\(vl.ownBlock=some g3 \/ w.heap.size<=g3) /\
  (gi ≠ g1/\gi ≠ g2/\gi ≠ g3)/\gi ≠ p/\vl.ownBlock ≠ some gi/\Frm (markS p vl vi) w w'
theorem mark_doneG {e:TypeId} {E:TypeId} {bz i:Nat} {ms us:List Value} (hi8:i<8) {w w4 w5:World} {B p M:Nat} {vs:List Value} {vi vl:Value} {ik n:Nat} {rows:List Value} {g1 e1 g2 e2 g3 e3 gg cap:Nat} {o:Obj}
  (HX:MKg e us.length E bz w w4 B p (M+1) vs vi vl ik n rows (reps n us))
  (F1:Fill w4 (.slice (some ⟨g1,0,none⟩) (n+1) e1) (n+1) us) (F2:Fill w4 (.slice (some ⟨g2,0,none⟩) (n+2) e2) (n+2) us) (F3:Fill w4 (.slice (some ⟨g3,0,none⟩) (n+3) e3) (n+3) us)
  (bb:Nat) (hbw:w.heap.size<=bb) (h1:g1<w4.heap.size) (h2:g2<w4.heap.size) (h3:g3<w4.heap.size) (L1:vl.ownBlock=some g1 \/ bb+2<=g1) (L2:vl.ownBlock=some g2 \/ bb+2<=g2) (L3:vl.ownBlock=some g3 \/ bb+2<=g3)
  (N1:vi.ownBlock ≠ some p) (N2:vl.ownBlock ≠ some p) (N3:∀ k,vl.ownBlock=some k->vi.ownBlock ≠ some k) (hlb:∀ k,vl.ownBlock=some k->k<w.heap.size) (hib:∀ k,vi.ownBlock=some k->k<w.heap.size) (hpw:p<w.heap.size)
  (hown:w5.ownsRow B E bz (.slice (some ⟨gg,0,none⟩) (ik+1) cap) (ik+1) (rows++(ms++[vl,.slice (some ⟨g1,0,none⟩) (n+1) e1,.slice (some ⟨g2,0,none⟩) (n+2) e2,.slice (some ⟨g3,0,none⟩) (n+3) e3])))
  (hgrow:(w4.alloc o).drew.grownBy w5 vi.ownBlock) (hat:vi.ownBlock=some gg \/ gg=w4.heap.size+1) :
  MarkedG E bz i ms us w (w5.setCell ⟨p,i+1,none⟩ (.slice (some ⟨gg,0,none⟩) (ik+1) cap)) B p M vs vi vl ik n rows:=by
 have hwz:=HX.fr.size
 have fr:Frm (fun k=>k=p \/ vi.ownBlock=some k) w4 (w5.setCell ⟨p,i+1,none⟩ (.slice (some ⟨gg,0,none⟩) (ik+1) cap)) :=
  Frm.setCell (p:=⟨p,i+1,none⟩) ((((Frm.refl _ w4).alloc o).drew).grown hgrow (fun k hk=>.inl (.inr hk))) (.inl (.inl rfl)) _
 have hG:∀ g,(vl.ownBlock=some g \/ bb+2<=g)->¬ (g=p \/ vi.ownBlock=some g):=fun g hL hS=>by
  rcases hL with hL|hL
  ·rcases hS with rfl|hS
   ·exact N2 hL
   ·exact N3 g hL hS
  ·rcases hS with rfl|hS
   ·omega
   ·have:=hib g hS;omega
 have hggp:gg ≠ p:=by
  rcases hat with h|h
  ·intro e;exact N1 (by rw [h,e])
  ·omega
 have hne:∀ g,g<w4.heap.size->(vl.ownBlock=some g \/ bb+2<=g)->gg ≠ g:=fun g hg hL e=>by
  rcases hat with h|h
  ·exact hG g hL (.inr (by rw [<- e];exact h))
  ·omega
 have hX:(w4.alloc o).drew.heap.size=w4.heap.size+1:=by show (w4.alloc o).heap.size=_;simp
 have hz5:w4.heap.size<=w5.heap.size:=by have:=hgrow.size;omega
 have hpz:=HX.bk.up
 have hbk5:BookAt w5 p (M+1) vs:=HX.bk.of_block ((hgrow.block p (by omega) (fun e=>N1 e.symm)).trans (Below.heap_alloc w4 o p HX.bk.up)) hz5
 refine ⟨gg,cap,g1,e1,g2,e2,g3,e3,hbk5.put i hi8 _,hown.kept (grown_setCell w5 p (i+1) _) (.inr (by simp [Value.ownBlock];exact hggp)),(Fill.of_reps HX.rl).frm fr (fun k hk hS=>?_),F1.frm fr (fun k hk=>?_),F2.frm fr (fun k hk=>?_),F3.frm fr (fun k hk=>?_),?_,?_,?_,?_,⟨hne g1 h1 L1,hne g2 h2 L2,hne g3 h3 L3⟩,hggp,?_,?_⟩
 ·rcases hS with rfl|hS
  ·exact N2 hk
  ·exact N3 k hk hS
 ·simp [Value.ownBlock] at hk;subst hk;exact hG _ L1
 ·simp [Value.ownBlock] at hk;subst hk;exact hG _ L2
 ·simp [Value.ownBlock] at hk;subst hk;exact hG _ L3
 ·rcases hat with h|h
  ·exact .inl h
  ·exact .inr (by omega)
 ·rcases L1 with h|h
  ·exact .inl h
  ·exact .inr (by omega)
 ·rcases L2 with h|h
  ·exact .inl h
  ·exact .inr (by omega)
 ·rcases L3 with h|h
  ·exact .inl h
  ·exact .inr (by omega)
 ·intro e
  rcases hat with h|h
  ·exact N3 gg e h
  ·have:=hlb gg e;omega
 ·exact HX.fr.trans (fr.mono (fun k _ hS=>by
   rcases hS with h|h
   ·exact .inl h
   ·exact .inr (.inr h)))
end
theorem cellsU8:Tryz.prog.cellsOf 5=1:=by kernel_rfl
theorem cellsI64:Tryz.prog.cellsOf 3=1:=by kernel_rfl
theorem part1 {P:Program} {e:TypeId} {k:IntKind} (he:P.underlying e=some (.int k)) (w:World) (xs:Array Value) (i:Nat) (v:Value) (hv:xs[i]?=some v):(part e xs i).run P w=.ok v w:=by
 simp [part,isAgg,run_underlying he,hv]
theorem eq3 {P:Program} {t e:TypeId} {k:IntKind} (ht:P.underlying t=some (.array 3 e)) (he:P.underlying e=some (.int k)) (hc:P.cellsOf e=1) (w:World) (a b c a' b' c':Int) :
  Sem.run P (Op.equalIn 10000 t (.agg #[.int k a,.int k b,.int k c]) (.agg #[.int k a',.int k b',.int k c'])) w=.ok (a == a' && (b == b' && c == c')) w:=by
 obtain ⟨i,hi⟩:=info_of_underlying he
 rw [run_equalIn_array w 9999 _ _ ht hi,hc]
 have r3:List.range 3=[0,1,2]:=rfl
 rw [r3]
 simp only [Op.eqItems,Sem.run_bind]
 rw [part1 he w _ _ (.int k a) rfl]
 simp only [Result.andThen_ok]
 rw [part1 he w _ _ (.int k a') rfl]
 simp only [Result.andThen_ok,run_equalIn_int w _ e k k _ _ he]
 cases h1:(a == a')
 ·simp
 simp only [Bool.not_true,Bool.false_eq_true,if_false,Sem.run_bind]
 rw [part1 he w _ _ (.int k b) rfl]
 simp only [Result.andThen_ok]
 rw [part1 he w _ _ (.int k b') rfl]
 simp only [Result.andThen_ok,run_equalIn_int w _ e k k _ _ he]
 cases h2:(b == b')
 ·simp
 simp only [Bool.not_true,Bool.false_eq_true,if_false,Sem.run_bind]
 rw [part1 he w _ _ (.int k c) rfl]
 simp only [Result.andThen_ok]
 rw [part1 he w _ _ (.int k c') rfl]
 simp only [Result.andThen_ok,run_equalIn_int w _ e k k _ _ he]
 cases h3:(c == c')
 ·simp
 ·simp
theorem eqPix (w:World) (a b c a' b' c':Int) :
  Sem.run Tryz.prog (Op.equalIn 10000 50 (.agg #[.int .u8 a,.int .u8 b,.int .u8 c]) (.agg #[.int .u8 a',.int .u8 b',.int .u8 c'])) w=.ok (a == a' && (b == b' && c == c')) w :=
 eq3 Tryz.underlying50 Tryz.underlying5 cellsU8 w a b c a' b' c'
section
open Go.RowKit
set_option maxRecDepth 20000 in
theorem sh_at_raw (w:World) (p lg n lc fb N nc:Nat) (z f x y:Nat) (a b c:Int) (i1:w.cell? ⟨p,1,none⟩=some (.int .i64 z)) (i2:w.cell? ⟨p,2,none⟩=some (.slice (some ⟨lg,0,none⟩) n lc))
  (i3:w.cell? ⟨lg,f,none⟩=some (.slice (some ⟨fb,0,none⟩) N nc)) (hf:f<n) (hN:N=z*z) (k:Nat) (hk:k=y*z+x) (hkN:k<N) (hN2:N<=256)
  (k0:w.cell? ⟨fb,k*3,none⟩=some (.int .u8 a)) (k1:w.cell? ⟨fb,k*3+1,none⟩=some (.int .u8 b)) (k2:w.cell? ⟨fb,k*3+2,none⟩=some (.int .u8 c)) :
  Calls Tryz.prog 177 #[.pointer (some ⟨p,0,none⟩),.int .i64 f,.int .i64 x,.int .i64 y] w fun e w'=>e=.returned (.agg #[.int .u8 a,.int .u8 b,.int .u8 c])/\Below w.heap.size w w':=by
 have e2:(y:Int)*(z:Int)+(x:Int)=(k:Int):=by rw [hk,Int.natCast_add,Int.natCast_mul]
 have hyz:y*z<=256:=by omega
 have p0:0<=(y:Int)*(z:Int):=by rw [<- Int.natCast_mul];omega
 have p1:(y:Int)*(z:Int)<=256:=by rw [<- Int.natCast_mul];omega
 have hf':(f:Int)<(n:Int):=by omega
 have hk':(k:Int)<(N:Int):=by omega
 have w1:wrap64 ((y:Int)*(z:Int))=(y:Int)*(z:Int):=by unfold wrap64;omega
 have w2:wrap64 ((y:Int)*(z:Int)+(x:Int))=(k:Int):=by rw [e2];unfold wrap64;omega
 obtain ⟨W,hW⟩:∃ W,W=w.alloc (.cells #[.int .u8 0,.int .u8 0,.int .u8 0] 50):=⟨_,rfl⟩
 have hB:Below w.heap.size w W:=by rw [hW];exact (Below.refl _ _).alloc (Nat.le_refl _) _
 have Q:∀ (bk off:Nat) (v:Value),w.cell? ⟨bk,off,none⟩=some v->W.cell? ⟨bk,off,none⟩=some v:=fun bk off v h=>(hB.cell (World.block_lt_of_cell? w _ h)).trans h
 have j1:=Q _ _ _ i1
 have j2:=Q _ _ _ i2
 have j3:=Q _ _ _ i3
 have l0:=Q _ _ _ k0
 have l1:=Q _ _ _ k1
 have l2:=Q _ _ _ k2
 have hh:W.heap[w.heap.size]?=some (.cells #[.int .u8 0,.int .u8 0,.int .u8 0] 50):=by rw [hW];show (w.heap.push _)[w.heap.size]?=_;simp
 obtain ⟨o,ho⟩:∃ o,o=w.heap.size:=⟨_,rfl⟩
 rw [<- ho] at hh
 have s0:=cell_of_row W o 0 _ _ _ hh
 have s1:=cell_of_row W o 1 _ _ _ hh
 have s2:=cell_of_row W o 2 _ _ _ hh
 have z0:=frozen_of_row W o 0 _ _ hh
 have z1:=frozen_of_row W o 1 _ _ hh
 have z2:=frozen_of_row W o 2 _ _ hh
 simp at s0 s1 s2
 have HO:Hid (o=w.heap.size):=ho
 have HW:Hid (W=w.alloc (.cells #[.int .u8 0,.int .u8 0,.int .u8 0] 50)):=hW
 have HB:Hid (Below w.heap.size w W):=hB
 clear hk hN hyz Q i1 i2 i3 k0 k1 k2 hW hB hh ho
 go_enter Tryz.func177,Tryz.ntmps177
 go_wp2
 rw [<- HW.out,<- HO.out]
 go_region
 go_wp2
 refine bodyPost_ret (v:=.agg #[.int .u8 a,.int .u8 b,.int .u8 c]) (by simp [results,Tryz.results177,go_sem,s0,s1,s2]) rfl ⟨rfl,?_⟩
 have hbel:=HB.out
 have hoe:=HO.out
 repeat (first|exact hbel|refine Below.setCell ?_ (by simp only;omega) _|refine below_drewN ?_ _)
set_option maxRecDepth 20000 in
theorem sh_put_raw (w:World) (p lg n lc fb N nc:Nat) (z x y:Nat) (a b c a' b' c':Int) (i1:w.cell? ⟨p,1,none⟩=some (.int .i64 z)) (i2:w.cell? ⟨p,2,none⟩=some (.slice (some ⟨lg,0,none⟩) (n+1) lc))
  (i3:w.cell? ⟨lg,n,none⟩=some (.slice (some ⟨fb,0,none⟩) N nc)) (hn:n<=100) (hN:N=z*z) (k:Nat) (hk:k=y*z+x) (hkN:k<N) (hN2:N<=256)
  (k0:w.cell? ⟨fb,k*3,none⟩=some (.int .u8 a')) (k1:w.cell? ⟨fb,k*3+1,none⟩=some (.int .u8 b')) (k2:w.cell? ⟨fb,k*3+2,none⟩=some (.int .u8 c'))
  (z0:w.frozen? ⟨fb,k*3,none⟩=false) (z1:w.frozen? ⟨fb,k*3+1,none⟩=false) (z2:w.frozen? ⟨fb,k*3+2,none⟩=false) :
  Calls Tryz.prog 175 #[.pointer (some ⟨p,0,none⟩),.int .i64 x,.int .i64 y,.agg #[.int .u8 a,.int .u8 b,.int .u8 c]] w fun e w'=>e=.returned (.tuple #[])/\w'=((((w.alloc (.cells #[.int .u8 a,.int .u8 b,.int .u8 c] 50)).setCell ⟨fb,k*3,none⟩ (.int .u8 a)).setCell ⟨fb,k*3+1,none⟩ (.int .u8 b)).setCell ⟨fb,k*3+2,none⟩ (.int .u8 c)).drew:=by
 have e2:(y:Int)*(z:Int)+(x:Int)=(k:Int):=by rw [hk,Int.natCast_add,Int.natCast_mul]
 have hyz:y*z<=256:=by omega
 have p0:0<=(y:Int)*(z:Int):=by rw [<- Int.natCast_mul];omega
 have p1:(y:Int)*(z:Int)<=256:=by rw [<- Int.natCast_mul];omega
 have hk':(k:Int)<(N:Int):=by omega
 have w1:wrap64 ((y:Int)*(z:Int))=(y:Int)*(z:Int):=by unfold wrap64;omega
 have w2:wrap64 ((y:Int)*(z:Int)+(x:Int))=(k:Int):=by rw [e2];unfold wrap64;omega
 have w3:wrap64 (((n+1:Nat):Int)-1)=(n:Int):=by unfold wrap64;omega
 have hnn:(n:Int)<((n+1:Nat):Int):=by omega
 obtain ⟨W,hW⟩:∃ W,W=w.alloc (.cells #[.int .u8 a,.int .u8 b,.int .u8 c] 50):=⟨_,rfl⟩
 have hB:Below w.heap.size w W:=by rw [hW];exact (Below.refl _ _).alloc (Nat.le_refl _) _
 have Q:∀ (bk off:Nat) (v:Value),w.cell? ⟨bk,off,none⟩=some v->W.cell? ⟨bk,off,none⟩=some v:=fun bk off v h=>(hB.cell (World.block_lt_of_cell? w _ h)).trans h
 have hfb:fb<w.heap.size:=World.block_lt_of_cell? w _ k0
 have Z:∀ off,w.frozen? ⟨fb,off,none⟩=false->W.frozen? ⟨fb,off,none⟩=false:=fun off h=>(hB.frozen (p:=⟨fb,off,none⟩) hfb).trans h
 have j1:=Q _ _ _ i1
 have j2:=Q _ _ _ i2
 have j3:=Q _ _ _ i3
 have l0:=Q _ _ _ k0
 have l1:=Q _ _ _ k1
 have l2:=Q _ _ _ k2
 have y0:=Z _ z0
 have y1:=Z _ z1
 have y2:=Z _ z2
 have hh:W.heap[w.heap.size]?=some (.cells #[.int .u8 a,.int .u8 b,.int .u8 c] 50):=by rw [hW];show (w.heap.push _)[w.heap.size]?=_;simp
 obtain ⟨o,ho⟩:∃ o,o=w.heap.size:=⟨_,rfl⟩
 rw [<- ho] at hh
 have s0:=cell_of_row W o 0 _ _ _ hh
 have s1:=cell_of_row W o 1 _ _ _ hh
 have s2:=cell_of_row W o 2 _ _ _ hh
 simp at s0 s1 s2
 have HO:Hid (o=w.heap.size):=ho
 have HW:Hid (W=w.alloc (.cells #[.int .u8 a,.int .u8 b,.int .u8 c] 50)):=hW
 rw [<- hW]
 clear hk hN hyz Q Z i1 i2 i3 k0 k1 k2 z0 z1 z2 hW hB hh ho hfb
 go_enter Tryz.func175,Tryz.ntmps175
 go_wp2
 rw [<- HW.out,<- HO.out]
 go_region
 go_wp2
 go_end0
 exact ⟨rfl,rfl⟩
end
section
open Go.RowKit
namespace Rdr
def run (s:ByteArray) (k:Nat):Nat->Nat->RS->Nat × RS
 | 0,n,r=>(n,r)
 | f+1,n,r=>if r.err=0 then (if bitV r (k+n)=0 then (n,bitS s r (k+n)) else run s k f (n+1) (if n+1=10 then fail (bitS s r (k+n)) 8 else bitS s r (k+n))) else (n,r)
def lows (s:ByteArray) (k:Nat):Nat->Int->Int->RS->Int × Int × RS
 | 0,d,u,r=>(d,u,r)
 | f+1,d,u,r=>if r.err=0 then lows s k f (2*d+bitV r k) (2*u) (bitS s r k) else (d,u,r)
def number (s:ByteArray) (r:RS) (k:Nat):Int × RS :=
 ((lows s (k+12+(run s k 11 0 r).1) (run s k 11 0 r).1 0 1 (run s k 11 0 r).2).2.1+(lows s (k+12+(run s k 11 0 r).1) (run s k 11 0 r).1 0 1 (run s k 11 0 r).2).1-1,(lows s (k+12+(run s k 11 0 r).1) (run s k 11 0 r).1 0 1 (run s k 11 0 r).2).2.2)
theorem Ok.fail {s:ByteArray} {r:RS} (h:Ok s r) {e:Int} (he:0<e):Ok s (fail r e):=by
 have h0:=h.err
 have hz:(Rdr.fail r e).err=0->r.err=0:=fun hh=>by
  unfold Rdr.fail at hh;dsimp only at hh;split at hh <;> omega
 refine ⟨h.ch,h.pos,fun hh=>h.rng (hz hh),fun hh=>h.code (hz hh),?_⟩
 unfold Rdr.fail;dsimp only;split <;> omega
theorem fail_err {r:RS} {e:Int} (he:0<e):(fail r e).err ≠ 0:=by
 unfold fail;dsimp only;split <;> omega
theorem bitV_cases (r:RS) (k:Nat):bitV r k=0 \/ bitV r k=1:=by
 unfold bitV;split
 ·split
  ·exact .inl rfl
  ·exact .inr rfl
 ·exact .inl rfl
end Rdr
set_option maxRecDepth 20000 in
theorem rnumber (w:World) (B b g:Nat) (s:ByteArray) (r:RS) (k:Nat) (h:RdAt w B b g s r) (ok:Rdr.Ok s r) (hs:s.size<=maxLen) (hk:k+22<=400) :
  Calls Tryz.prog 176 #[.pointer (some ⟨b,0,none⟩),.int .i64 k] w fun x w'=>x=.returned (.int .i64 (Rdr.number s r k).1)/\RdAt w' B b g s (Rdr.number s r k).2/\Rdr.Ok s (Rdr.number s r k).2/\0<=(Rdr.number s r k).1/\(Rdr.number s r k).1<=1022/\Frm (rdS b g) w w':=by
 have H:Hid (RdAt w B b g s r):=h
 have HOK:Hid (Rdr.Ok s r):=ok
 clear h ok
 go_enter Tryz.func176,Tryz.ntmps176
 go_upto_block 0 with (fail)
 go_cut [5] (fun n wd=>∃ (m:Nat) (q:RS),n=.int .i64 m/\Rdr.run s k 11 0 r=(m,q)/\m<=10/\(m=10->q.err ≠ 0)/\RdAt wd B b g s q/\Rdr.Ok s q/\Frm (rdS b g) w wd)
 case first =>
  go_wp2_with fail
  go_loopw [5,6] (fun n _ wr=>∃ (m:Nat) (q:RS) (f:Nat),n=.int .i64 m/\f+m=11/\Rdr.run s k f m q=Rdr.run s k 11 0 r/\m<=10/\(m=10->q.err ≠ 0)/\RdAt wr B b g s q/\Rdr.Ok s q/\Frm (rdS b g) w wr) (fun n _ _=>11-(intOf n).toNat)
  case atStart=>exact ⟨0,r,11,rfl,rfl,rfl,by omega,by omega,H.out,HOK.out,Frm.refl _ _⟩
  case round =>
   clear H HOK
   obtain ⟨m,q,f,rfl,hf,hrun,hm,hm10,hq,hok,hfr⟩:=hrel
   have i5:=hq.c5
   by_cases he:q.err=0
   ·obtain ⟨f',rfl⟩:∃ f',f=f'+1:=⟨f-1,by omega⟩
    have hm9:m<=9:=by
     rcases Nat.lt_or_ge m 10 with h'|h'
     ·omega
     ·exact absurd he (hm10 (by omega))
    rw [he] at i5
    have HB:=rbit wr B b g s q (k+m) hq hok hs (by omega)
    have hok1:=hok.bitS (k:=k+m) (by omega)
    have HE:Hid (q.err=0):=he
    have HR:Hid (Rdr.run s k (f'+1) m q=Rdr.run s k 11 0 r):=hrun
    have HOK1:Hid (Rdr.Ok s (Rdr.bitS s q (k+m))):=hok1
    have HFR:Hid (Frm (rdS b g) w wr):=hfr
    rw [Int.natCast_add] at HB
    clear hm10 hrun hok1 hq hok he hfr
    rcases Rdr.bitV_cases q (k+m) with hb|hb
    ·have HBV:Hid (Rdr.bitV q (k+m)=0):=hb
     rw [hb] at HB
     clear hb
     go_wp2_with (go_at_call 101;refine HB.mono ?_;rintro x w1 ⟨rfl,h1,f1⟩)
     go_meet
     refine ⟨m,_,rfl,?_,by omega,by omega,h1,HOK1.out,HFR.out.trans f1⟩
     rw [<- HR.out]
     unfold Rdr.run
     rw [if_pos HE.out,if_pos HBV.out]
    ·have HBV:Hid (Rdr.bitV q (k+m)=1):=hb
     rw [hb] at HB
     clear hb
     by_cases h9:m=9
     ·subst h9
      go_wp2_with (first
       | (go_at_call 101;refine HB.mono ?_;rintro x w1 ⟨rfl,h1,f1⟩)
       | (go_at_call 128;refine (rfail _ B b g s _ 8 h1).mono ?_;rintro x w2 ⟨rfl,h2,f2⟩))
      go_roundw
      case rel =>
       refine ⟨10,_,f',by go_num,by omega,?_,by omega,fun _=>Rdr.fail_err (by decide),h2,HOK1.out.fail (by decide),(HFR.out.trans f1).trans f2⟩
       rw [<- HR.out]
       conv=>rhs;unfold Rdr.run
       rw [if_pos HE.out,if_neg (by rw [HBV.out];decide),if_pos rfl]
      case measure=>simp [intOf]
     ·have h9':¬ ((m:Int)+1=10):=by omega
      go_wp2_with (go_at_call 101;refine HB.mono ?_;rintro x w1 ⟨rfl,h1,f1⟩)
      go_roundw
      case rel =>
       refine ⟨m+1,_,f',by go_num,by omega,?_,by omega,by omega,h1,HOK1.out,HFR.out.trans f1⟩
       rw [<- HR.out]
       conv=>rhs;unfold Rdr.run
       rw [if_pos HE.out,if_neg (by rw [HBV.out];decide),if_neg (by omega)]
      case measure=>simp [intOf];omega
   ·have he':(q.err == 0)=false:=by simpa using he
    have HX:Hid (∃ (m':Nat) (q':RS),Value.int .i64 (m:Int)=.int .i64 m'/\Rdr.run s k 11 0 r=(m',q')/\m'<=10/\(m'=10->q'.err ≠ 0)/\RdAt wr B b g s q'/\Rdr.Ok s q'/\Frm (rdS b g) w wr):=by
     refine ⟨m,q,rfl,?_,hm,hm10,hq,hok,hfr⟩
     rw [<- hrun]
     cases f with
     | zero=>rfl
     | succ f=>unfold Rdr.run;rw [if_neg he]
    clear hm10 hrun hq hok hfr he
    go_wp2_with fail
    go_meet
    exact HX.out
 case rest =>
  clear H HOK
  obtain ⟨m,q,rfl,hrun,hm,hm10,hq,hok,hfr⟩:=hcut
  have HN:Hid (Rdr.number s r k=((Rdr.lows s (k+12+m) m 0 1 q).2.1+(Rdr.lows s (k+12+m) m 0 1 q).1-1,(Rdr.lows s (k+12+m) m 0 1 q).2.2)):=by
   unfold Hid Rdr.number;rw [hrun]
  clear hrun
  have HQ:Hid (RdAt wc B b g s q):=hq
  have HOK:Hid (Rdr.Ok s q):=hok
  have HFR:Hid (Frm (rdS b g) w wc):=hfr
  have HM:Hid (m=10->q.err ≠ 0):=hm10
  clear hq hok hfr hm10
  go_wp2_with fail
  go_loopw [7,8,9,10] (fun d u i _ wr=>∃ (j:Nat) (D U:Int) (q':RS),j<=m/\d=.int .i64 D/\u=.int .i64 U/\i=.int .i64 j/\Rdr.lows s (k+12+m) (m-j) D U q'=Rdr.lows s (k+12+m) m 0 1 q/\0<=D/\D+1<=U/\U<=2 ^ j/\(m=10->q'.err ≠ 0/\j=0)/\RdAt wr B b g s q'/\Rdr.Ok s q'/\Frm (rdS b g) w wr) (fun _ _ i _ _=>m-(intOf i).toNat)
  case atStart=>exact ⟨0,0,1,q,by omega,rfl,rfl,rfl,rfl,by omega,by omega,by decide,fun e=>⟨HM.out e,rfl⟩,HQ.out,HOK.out,HFR.out⟩
  case round =>
   clear HQ HOK HFR HM
   obtain ⟨j,D,U,q',hj,rfl,rfl,rfl,hl,d0,d1,u1,h10,hq',hok',hfr'⟩:=hrel
   have i5:=hq'.c5
   have hpow:(2:Int) ^ j<=1024:=by
    have:(2:Nat) ^ j<=2 ^ 10:=Nat.pow_le_pow_right (by decide) (by omega)
    exact_mod_cast this
   by_cases hgo:j<m/\q'.err=0
   ·obtain ⟨hjm,he⟩:=hgo
    have hm9:m<=9:=by
     rcases Nat.lt_or_ge m 10 with h'|h'
     ·omega
     ·exact absurd he (h10 (by omega)).1
    rw [he] at i5
    have hjm':(j:Int)<(m:Int):=by omega
    have HB:=rbit wr B b g s q' (k+12+m) hq' hok' hs (by omega)
    have hok1:=hok'.bitS (k:=k+12+m) (by omega)
    obtain ⟨v,hv⟩:∃ v,v=Rdr.bitV q' (k+12+m):=⟨_,rfl⟩
    have hv01:0<=v/\v<=1:=by rw [hv];rcases Rdr.bitV_cases q' (k+12+m) with e|e <;> rw [e] <;> decide
    rw [<- hv] at HB
    have HV:Hid (v=Rdr.bitV q' (k+12+m)):=hv
    have HE:Hid (q'.err=0):=he
    have HL:Hid (Rdr.lows s (k+12+m) (m-j) D U q'=Rdr.lows s (k+12+m) m 0 1 q):=hl
    have HOK1:Hid (Rdr.Ok s (Rdr.bitS s q' (k+12+m))):=hok1
    have HFR:Hid (Frm (rdS b g) w wr):=hfr'
    have hp2:Hid ((2:Int) ^ (j+1)=2*2 ^ j):=by unfold Hid;rw [Int.pow_succ];omega
    rw [Int.natCast_add,Int.natCast_add] at HB
    have hUb:U<=1024:=by omega
    have HU:Hid (U<=2 ^ j):=u1
    clear h10 hl hok1 hq' hok' he hfr' hv u1 hpow
    go_wp2_with (go_at_call 101;refine HB.mono ?_;rintro x w1 ⟨rfl,h1,f1⟩)
    go_roundw
    case rel =>
     refine ⟨j+1,2*D+v,2*U,_,by omega,rfl,rfl,by go_num,?_,by omega,by omega,?_,by omega,h1,HOK1.out,HFR.out.trans f1⟩
     ·rw [<- HL.out,show m-j=(m-(j+1))+1 by omega]
      conv=>rhs;unfold Rdr.lows
      rw [if_pos HE.out,HV.out]
     ·rw [hp2.out];have:=HU.out;omega
    case measure=>simp [intOf];omega
   ·have HEND:Hid (Rdr.lows s (k+12+m) m 0 1 q=(D,U,q')):=by
     unfold Hid
     rw [<- hl]
     rcases Nat.lt_or_ge j m with h'|h'
     ·rw [show m-j=(m-(j+1))+1 by omega]
      unfold Rdr.lows
      rw [if_neg (fun e=>hgo ⟨h',e⟩)]
     ·rw [show m-j=0 by omega];rfl
    have HQ':Hid (RdAt wr B b g s q'):=hq'
    have HOK':Hid (Rdr.Ok s q'):=hok'
    have HFR':Hid (Frm (rdS b g) w wr):=hfr'
    have HBD:Hid (U<=512 \/ U<=1):=by
     unfold Hid
     rcases Nat.lt_or_ge m 10 with h'|h'
     ·have:(2:Nat) ^ j<=2 ^ 9:=Nat.pow_le_pow_right (by decide) (by omega)
      have:(2:Int) ^ j<=512:=by exact_mod_cast this
      omega
     ·have e:=(h10 (by omega)).2
      subst e
      omega
    have hUb:U<=1024:=by omega
    clear hpow
    rcases Nat.lt_or_ge j m with h'|h'
    ·have he':(q'.err == 0)=false:=by simpa using (fun e=>hgo ⟨h',e⟩)
     have h'':(j:Int)<(m:Int):=by omega
     clear hl hgo hq' hok' hfr' h10 u1
     go_wp2_with fail
     go_ret
     rw [HN.out,HEND.out]
     have:=HBD.out
     exact ⟨rfl,HQ'.out,HOK'.out,by dsimp only;omega,by dsimp only;omega,HFR'.out⟩
    ·have h'':¬ (j:Int)<(m:Int):=by omega
     clear hl hgo hq' hok' hfr' h10 u1
     go_wp2_with fail
     go_ret
     rw [HN.out,HEND.out]
     have:=HBD.out
     exact ⟨rfl,HQ'.out,HOK'.out,by dsimp only;omega,by dsimp only;omega,HFR'.out⟩
namespace Rdr
def signed (s:ByteArray) (r:RS) (k:Nat):Int:=if (number s r k).1 % 2=0 then (number s r k).1 / 2 else -(((number s r k).1+1) / 2)
end Rdr
set_option maxRecDepth 20000 in
theorem rsigned (w:World) (B b g:Nat) (s:ByteArray) (r:RS) (k:Nat) (h:RdAt w B b g s r) (ok:Rdr.Ok s r) (hs:s.size<=maxLen) (hk:k+22<=400) :
  Calls Tryz.prog 173 #[.pointer (some ⟨b,0,none⟩),.int .i64 k] w fun x w'=>x=.returned (.int .i64 (Rdr.signed s r k))/\RdAt w' B b g s (Rdr.number s r k).2/\Rdr.Ok s (Rdr.number s r k).2/\-512<=Rdr.signed s r k/\Rdr.signed s r k<=511/\Frm (rdS b g) w w':=by
 have HC:=rnumber w B b g s r k h ok hs hk
 obtain ⟨N,hN⟩:∃ N,N=(Rdr.number s r k).1:=⟨_,rfl⟩
 obtain ⟨S,hS⟩:∃ S,S=Rdr.signed s r k:=⟨_,rfl⟩
 have hS':S=if N % 2=0 then N / 2 else -((N+1) / 2):=by rw [hS,hN];rfl
 rw [<- hN] at HC
 rw [<- hS]
 clear hS hN h ok
 by_cases h2:N % 2=0
 ·rw [if_pos h2] at hS'
  subst hS'
  go_enter Tryz.func173,Tryz.ntmps173
  go_wp2_with (go_at_call 176;refine HC.mono ?_;rintro x w1 ⟨rfl,h1,o1,n0,n1,f1⟩)
  go_ret
  exact ⟨rfl,h1,o1,by omega,by omega,f1⟩
 ·rw [if_neg h2] at hS'
  subst hS'
  go_enter Tryz.func173,Tryz.ntmps173
  go_wp2_with (go_at_call 176;refine HC.mono ?_;rintro x w1 ⟨rfl,h1,o1,n0,n1,f1⟩)
  go_ret
  refine ⟨?_,h1,o1,by omega,by omega,f1⟩
  show Ending.returned (Value.int IntKind.i64 (wrap64 (-(N+1).tdiv 2)))=_
  have e:wrap64 (-((N+1) / 2))=-((N+1) / 2):=by unfold wrap64;omega
  rw [Int.tdiv_eq_ediv_of_nonneg (by omega),e]
end
end Go.Proofs.YtekfbphnoibnjaaGreatDoor
