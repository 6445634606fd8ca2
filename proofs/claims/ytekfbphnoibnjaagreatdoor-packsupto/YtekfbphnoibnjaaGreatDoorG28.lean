/-
  PNear0 PNear
-/
import Derived.Test.YtekfbphnoibnjaaGreatDoorG27
set_option maxHeartbeats 4000000
namespace Go.Proofs.YtekfbphnoibnjaaGreatDoor
section
open Go.RowKit Go.Shelf
open Flm (Px FS okPx)
theorem pow_inj3 {i j:Nat} (hi:i<3) (hj:j<3) (h:4*2 ^ i=4*2 ^ j):i=j:=by
 rcases (by omega:i=0 \/ i=1 \/ i=2) with rfl|rfl|rfl <;> rcases (by omega:j=0 \/ j=1 \/ j=2) with rfl|rfl|rfl <;> first|rfl|(exact absurd h (by decide))
theorem sel_corners {z:Nat} {T:List Px} {n m:Nat} {ps:List Px}:sel (kap z T) (corners z m) (n,ps)=if m=n then (Pk.placesL z T n ps).map fun q=>(q,n) else []:=by
 unfold sel corners Pk.placesL
 rw [List.filter_map]
 split
 ·rename_i e
  subst e
  congr 1
  apply List.filter_congr
  intro q _
  simp [kap]
 ·rename_i e
  rw [List.map_eq_nil_iff,List.filter_eq_nil_iff]
  intro q _
  simp [kap,e]
theorem sel_areas {z:Nat} {T:List Px} {i:Nat} {ps:List Px} (hi:i<3):∀ j,j<=3->sel (kap z T) (areasL z j) (4*2 ^ i,ps)=if i<j then (Pk.placesL z T (4*2 ^ i) ps).map fun q=>(q,4*2 ^ i) else []
 | 0,_=>by simp [areasL,sel]
 | j+1,hj=>by
  have ih:=sel_areas (z:=z) (T:=T) (ps:=ps) hi j (by omega)
  have e:sel (kap z T) (areasL z (j+1)) (4*2 ^ i,ps)=sel (kap z T) (areasL z j) (4*2 ^ i,ps)++sel (kap z T) (corners z (4*2 ^ j)) (4*2 ^ i,ps):=by
   show (areasL z j++corners z (4*2 ^ j)).filter _=_
   rw [List.filter_append]
   rfl
  rw [e,ih,sel_corners]
  by_cases h1:i=j
  ·subst h1
   rw [if_neg (by omega),if_pos rfl,if_pos (by omega),List.nil_append]
  ·rw [if_neg (fun e=>h1 (pow_inj3 (by omega) hi e).symm),List.append_nil]
   by_cases h2:i<j
   ·rw [if_pos h2,if_pos (by omega)]
   ·rw [if_neg h2,if_neg (by omega)]
theorem side_pow {z n:Nat} (hz:z=4 \/ z=8 \/ z=16) (hn:n=4 \/ n=8 \/ n=16) (h:n<=z):∃ i,i<cnt z/\i<3/\n=4*2 ^ i:=by
 rcases hz with rfl|rfl|rfl <;> rcases hn with rfl|rfl|rfl <;> first|omega|exact ⟨0,by decide,by decide,rfl⟩|exact ⟨1,by decide,by decide,rfl⟩|exact ⟨2,by decide,by decide,rfl⟩
theorem sel_all {z:Nat} {T:List Px} {n:Nat} {ps:List Px} (hz:z=4 \/ z=8 \/ z=16) (hn:n=4 \/ n=8 \/ n=16) (h:n<=z):sel (kap z T) (areasL z (cnt z)) (n,ps)=(Pk.placesL z T n ps).map fun q=>(q,n):=by
 obtain ⟨i,h1,h2,rfl⟩:=side_pow hz hn h
 rw [sel_areas h2 (cnt z) (by unfold cnt;split;decide;split <;> decide),if_pos h1]
def Plc (w:World) (base top:Nat) (m:Value) (z:Nat):Option (List Px)->Prop
 | none=>m=.map none
 | some T=>∃ b es clock,m=.map (some b)/\base<=b/\b<top/\MapAt w base b (kap z T) (areasL z (cnt z)) es clock/\∀ e ∈ es.toList,∀ g,e.val.ownBlock=some g->g<top
def placesO (z:Nat) (T:Option (List Px)) (n:Nat) (ps:List Px):List (Nat × Nat):=match T with
 | none=>[]
 | some T=>Pk.placesL z T n ps
theorem Plc.frm {w w':World} {base top:Nat} {m:Value} {z:Nat} {T:Option (List Px)} (h:Plc w base top m z T) {S:Nat->Prop} (f:Frm S w w') (hS:∀ k,base<=k->k<top->¬ S k):Plc w' base top m z T:=by
 cases T with
 | none=>exact h
 | some T =>
  obtain ⟨b,es,clock,h1,h2,h3,h4,h5⟩:=h
  refine ⟨b,es,clock,h1,h2,h3,h4.frm f (hS b h2 h3) (fun e he g hg=>hS g ?_ (h5 e he g hg)),h5⟩
  obtain ⟨k,_,_,rk,_⟩:=h4.ent e he
  exact (rk.lt g hg).1
theorem Plc.below {w w':World} {base top:Nat} {m:Value} {z:Nat} {T:Option (List Px)} (h:Plc w base top m z T) (f:Below w.heap.size w w'):Plc w' base top m z T:=h.frm (Frm.of_below (S:=fun _=>False) f) (fun _ _ _ e=>e)
theorem Plc.look {w:World} {base top:Nat} {m:Value} {z:Nat} {T:Option (List Px)} (h:Plc w base top m z T) (hz:z=4 \/ z=8 \/ z=16) {n:Nat} {ps:List Px} (hn:n=4 \/ n=8 \/ n=16) (hnz:n<=z) (hk:GoodK (n,ps)) :
  ∃ v,(Instr.lookup 91 m (.agg (contL n ps).toArray) false).run Tryz.prog w=.ok v w/\w.ownsRow base 100 3 v (placesO z T n ps).length (arsCells ((placesO z T n ps).map fun q=>(q,n))):=by
 cases T with
 | none =>
  have e:m=.map none:=h
  subst e
  have h1:=look_none w hk
  unfold kval at h1
  exact ⟨.slice none 0 0,h1,World.ownsRow_nil _ _ _ _⟩
 | some T =>
  obtain ⟨b,es,clock,rfl,_,_,h4,_⟩:=h
  obtain ⟨v,h1,h2⟩:=h4.look hk
  rw [sel_all hz hn hnz,List.length_map] at h2
  unfold kval at h1
  exact ⟨v,h1,h2⟩
theorem LookPost.plc {w w':World} {z:Nat} {T:List Px} {e:Ending} (h:LookPost w z T e w'):∃ m,e=.returned m/\Plc w' w.heap.size w'.heap.size m z (some T)/\Below w.heap.size w w':=by
 obtain ⟨b,es,clock,rfl,h1,h2,h3⟩:=h
 refine ⟨_,rfl,⟨b,es,clock,rfl,h1,heap_lt0 h2.heap,h2,fun e he g hg=>?_⟩,h3⟩
 obtain ⟨k,_,_,rk,_⟩:=h2.ent e he
 exact (rk.lt g hg).2
theorem placesO_mem {z:Nat} {T:Option (List Px)} {n:Nat} {ps:List Px} {q:Nat × Nat} (hn:n<=z) (h:q ∈ placesO z T n ps):q.1+n<=z/\q.2+n<=z:=by
 cases T with
 | none=>exact absurd h (List.not_mem_nil)
 | some T =>
  have h:q ∈ Pk.placesL z T n ps:=h
  unfold Pk.placesL at h
  obtain ⟨⟨a,b⟩,c,d⟩:=Pk.spots_mem.1 (List.mem_filter.1 h).1
  omega
def nstX (x:Nat):Option (Nat × Nat)->Int
 | none=>0
 | some q=>(q.1:Int)-x
def nstY (y:Nat):Option (Nat × Nat)->Int
 | none=>0
 | some q=>(q.2:Int)-y
def nstL (x y:Nat):Option (Nat × Nat)->Int
 | none=>0
 | some q=>Pk.cost x y q
theorem arsCells_get (l:List (Nat × Nat)) (n:Nat) {j:Nat} {q:Nat × Nat} (h:l[j]?=some q):(arsCells (l.map fun q=>(q,n)))[j*3]?=some (.int .i64 q.1)/\(arsCells (l.map fun q=>(q,n)))[j*3+1]?=some (.int .i64 q.2)/\(arsCells (l.map fun q=>(q,n)))[j*3+2]?=some (.int .i64 n):=by
 induction l generalizing j with
 | nil=>simp at h
 | cons p l ih =>
  have e:arsCells ((p :: l).map fun q=>(q,n))=.int .i64 p.1 :: .int .i64 p.2 :: .int .i64 n :: arsCells (l.map fun q=>(q,n)):=rfl
  rw [e]
  cases j with
  | zero =>
   obtain rfl:p=q:=by simpa using h
   exact ⟨rfl,rfl,rfl⟩
  | succ j =>
   have h':l[j]?=some q:=by simpa using h
   have e1:(j+1)*3=j*3+1+1+1:=by omega
   rw [e1]
   simp only [List.getElem?_cons_succ]
   exact ih h'
theorem wpList_lookup_run {P:Program} {ops:Array Oper} {rest:List Oper} {o:Oper} {a:Act} {w:World} {Q:Exit->Act->World->Prop} (hgd:o.guard=none) (t:TypeId) (m x:Operand) (ho:o.op=.lookup t m x false) {mv kv v:Value} (hm:a.eval m=mv) (hx:a.eval x=kv) (hr:(Instr.lookup t mv kv false).run P w=.ok v w)
  (h:wpList P ops Q rest (a.put o.dst v) w):wpList P ops Q (o :: rest) a w:=by
 refine wpList_plain hgd fun K hK=>?_
 unfold Oper.wp execOp
 simp only [ho,hm,hx,Sem.run_bind,hr,Result.andThen_ok,Sem.run_pure]
 exact hK _ _ h
end
section
open Go.RowKit Go.Shelf
open Flm (Px FS okPx)
open Pk (near1 cost nearL dig fold)
theorem nstL_some (x y:Nat) (q:Nat × Nat):nstL x y (some q)=(cost x y q:Int):=rfl
theorem near1_some (may:Nat × Nat->Bool) (x y:Nat) (p q:Nat × Nat):near1 may x y (some p) q=if may q && decide (cost x y q<cost x y p) then some q else some p:=rfl
set_option maxRecDepth 100000 in
theorem pNearCopy (w:World) (m:Value) (K:List Value) (l:List (Nat × Nat)) (x y n base ga:Nat) (may:Nat × Nat->Bool) (hK:K.length=769) (hx:x<=16) (hy:y<=16) (hl:∀ q ∈ l,q.1<=16/\q.2<=16) (hll:l.length<=1000)
  (hL:∀ W,Below w.heap.size w W->∃ v,(Instr.lookup 91 m (.agg K.toArray) false).run Tryz.prog W=.ok v W/\W.ownsRow base 100 3 v l.length (arsCells (l.map fun q=>(q,n))))
  (hM:∀ W q,Below w.heap.size w W->q ∈ l->Calls Tryz.prog 139 #[.agg #[.int .i64 q.1,.int .i64 q.2,.int .i64 n],.pointer (some ⟨ga,0,none⟩)] W fun e w'=>e=.returned (.bool (may q))/\Below W.heap.size W w') :
  Calls Tryz.prog 141 #[m,.agg K.toArray,.agg #[.int .i64 x,.int .i64 y,.int .i64 n],.func (.func 139) #[] #[.pointer (some ⟨ga,0,none⟩)]] w fun e w'=>e=.returned (.tuple #[.int .i64 (nstX x (nearL may x y l)),.int .i64 (nstY y (nearL may x y l)),.bool (nearL may x y l).isSome])/\Below w.heap.size w w':=by
 have hmx:Tryz.prog.follows .mixedOrders=true:=by kernel_rfl
 obtain ⟨hzero,hsize⟩:=zero_of_info contInfo
 have HSZ:Hid ((Tryz.prog.info? 200).map (·.size)=some K.length):=by rw [Hid,hK];exact hsize
 obtain ⟨H,hH⟩:∃ H,H=w.heap.size:=⟨_,rfl⟩
 obtain ⟨W2,hW2⟩:∃ W2,W2=(w.alloc (.cells K.toArray 200)).alloc (.cells #[.int .i64 x,.int .i64 y,.int .i64 n] 100):=⟨_,rfl⟩
 have hB2:Below w.heap.size w W2:=by rw [hW2];exact ((Below.refl _ w).alloc (Nat.le_refl _) _).alloc (by simp) _
 have hx0:W2.heap[H]?=some (.cells K.toArray 200 (0,0)):=by rw [hW2,hH];exact (Below.heap_alloc _ _ _ (by simp)).trans (heap_alloc_last w _)
 have hx1:W2.heap[H+1]?=some (.cells #[.int .i64 x,.int .i64 y,.int .i64 n] 100 (0,0)):=by
  have:=heap_alloc_last (w.alloc (.cells K.toArray 200)) (.cells #[.int .i64 x,.int .i64 y,.int .i64 n] 100)
  rw [World.size_alloc] at this
  rw [hW2,hH];exact this
 have hrg:W2.rangeAt H 0 K:=fun j v hv=>by rw [Nat.zero_add,cell_of_row _ _ j _ _ _ hx0,List.getElem?_toArray];exact hv
 obtain ⟨v,hv1,hv2⟩:=hL W2 hB2
 obtain ⟨N,hN⟩:∃ N,N=l.length:=⟨_,rfl⟩
 obtain ⟨sa,cap,rfl⟩:∃ sa cap,v=.slice sa N cap:=by
  rcases hv2.2 with ⟨rfl,e⟩|⟨g,cap,cur,rfl,_⟩
  ·exact ⟨none,0,by rw [hN,e]⟩
  ·exact ⟨_,cap,by rw [hN]⟩
 rw [<- hN] at hv2 hll
 have HO:Hid (W2.ownsRow base 100 3 (.slice sa N cap) N (arsCells (l.map fun q=>(q,n)))/\N=l.length):=⟨hv2,hN⟩
 have HW2:Hid (W2=(w.alloc (.cells K.toArray 200)).alloc (.cells #[.int .i64 x,.int .i64 y,.int .i64 n] 100)):=hW2
 have HH:Hid (H=w.heap.size/\Below w.heap.size w W2/\H+1<W2.heap.size):=⟨hH,hB2,heap_lt0 hx1⟩
 have HX:Hid (W2.heap[H+1]?=some (.cells #[.int .i64 x,.int .i64 y,.int .i64 n] 100 (0,0))):=hx1
 have HM:Hid (∀ W q,Below w.heap.size w W->q ∈ l->Calls Tryz.prog 139 #[.agg #[.int .i64 q.1,.int .i64 q.2,.int .i64 n],.pointer (some ⟨ga,0,none⟩)] W fun e w'=>e=.returned (.bool (may q))/\Below W.heap.size W w'):=hM
 have HLQ:Hid (∀ q ∈ l,q.1<=16/\q.2<=16):=hl
 have hbox:K.toArray.size ≠ 0:=by rw [List.size_toArray,hK];decide
 clear hW2 hx0 hx1 hB2 hH hL hM hl hN hv2 hzero hsize
 go_enter Tryz.func141,Tryz.ntmps141
 go_wp2_with (first
  | (rw [<- HW2.out,<- HH.out.1])
  | (refine wpList_load_mid rfl 200 (.tmp 5) rfl H 0 rfl K _ hrg Tryz.underlying200 rfl HSZ.out ?_)
  | (refine wpList_lookup_run rfl 91 (.tmp 17) (.tmp 18) rfl rfl rfl hv1 ?_))
 go_loopw [8,9,10,11,21] (fun v8 v9 v10 v11 v21 wr=>∃ (j:Nat) (b:Option (Nat × Nat)),j<=N/\v21=.int .i64 j/\b=(l.take j).foldl (near1 may x y) none/\v8=.int .i64 (nstX x b)/\v9=.int .i64 (nstY y b)/\v10=.bool b.isSome/\v11=.int .i64 (nstL x y b)/\Below W2.heap.size W2 wr) (fun _ _ _ _ v21 _=>N-(intOf v21).toNat)
 case atStart=>exact ⟨0,none,Nat.zero_le _,rfl,rfl,rfl,rfl,rfl,rfl,Below.refl _ _⟩
 case round =>
  obtain ⟨j,b,hj,rfl,hb,rfl,rfl,rfl,rfl,hw⟩:=hrel
  have HB:Hid (b=(l.take j).foldl (near1 may x y) none/\Below W2.heap.size W2 wr):=⟨hb,hw⟩
  by_cases hlt:j<N
  ·have hlt':(j:Int)<(N:Int):=by omega
   obtain ⟨q,hq⟩:∃ q,l[j]?=some q:=⟨l[j]'(by rw [<- HO.out.2];exact hlt),List.getElem?_eq_getElem _⟩
   have hqm:=List.mem_of_getElem? hq
   obtain ⟨qx,qy⟩:=HLQ.out q hqm
   obtain ⟨g,hsa,hc0,hc1,hc2⟩:∃ g,sa=some ⟨g,0,none⟩/\wr.cell? ⟨g,j*3,none⟩=some (.int .i64 q.1)/\wr.cell? ⟨g,j*3+1,none⟩=some (.int .i64 q.2)/\wr.cell? ⟨g,j*3+2,none⟩=some (.int .i64 n):=by
    obtain ⟨ho,hN⟩:=HO.out
    obtain ⟨a0,a1,a2⟩:=arsCells_get l n hq
    rcases ho.2 with ⟨_,e⟩|⟨g,cap',cur,e,_⟩
    ·omega
    ·injection e with e
     subst e
     have hk:∀ i u,(arsCells (l.map fun q=>(q,n)))[i]?=some u->wr.cell? ⟨g,i,none⟩=some u:=fun i u hu=>by
      have h1:=ho.cells (g:=g) rfl i u hu
      rw [Addr.add_mid,Nat.zero_add] at h1
      exact (hw.cell (p:=⟨g,i,none⟩) (World.block_lt_of_cell? W2 _ h1)).trans h1
     exact ⟨g,rfl,hk _ _ a0,hk _ _ a1,hk _ _ a2⟩
   subst hsa
   have HQ:Hid (l[j]?=some q):=hq
   obtain ⟨q1,hq1⟩:∃ q1,q1=q.1:=⟨_,rfl⟩
   obtain ⟨q2,hq2⟩:∃ q2,q2=q.2:=⟨_,rfl⟩
   rw [<- hq1] at hc0 qx
   rw [<- hq2] at hc1 qy
   have HQ12:Hid (q1=q.1/\q2=q.2):=⟨hq1,hq2⟩
   obtain ⟨U,hU⟩:∃ U,U=wr.heap.size:=⟨_,rfl⟩
   obtain ⟨V,hV⟩:∃ V,V=wr.alloc (.cells #[.int .i64 q1,.int .i64 q2,.int .i64 n] 100):=⟨_,rfl⟩
   have hBV:Below wr.heap.size wr V:=by rw [hV];exact (Below.refl _ wr).alloc (Nat.le_refl _) _
   have hUV:V.heap[U]?=some (.cells #[.int .i64 q1,.int .i64 q2,.int .i64 n] 100 (0,0)):=by rw [hV,hU];exact heap_alloc_last wr _
   have hH1:V.heap[H+1]?=some (.cells #[.int .i64 x,.int .i64 y,.int .i64 n] 100 (0,0)):=(hBV.block (H+1) (Nat.lt_of_lt_of_le HH.out.2.2 hw.size)).trans ((hw.block (H+1) HH.out.2.2).trans HX.out)
   have k0:=cell_of_row _ _ 0 _ _ _ hUV
   have k1:=cell_of_row _ _ 1 _ _ _ hUV
   have k2:=cell_of_row _ _ 2 _ _ _ hUV
   have n0:=cell_of_row _ _ 0 _ _ _ hH1
   have n1:=cell_of_row _ _ 1 _ _ _ hH1
   simp at k0 k1 k2 n0 n1
   have HV:Hid (V=wr.alloc (.cells #[.int .i64 q1,.int .i64 q2,.int .i64 n] 100)):=hV
   have HU:Hid (U=wr.heap.size):=hU
   have HBV:Hid (Below W2.heap.size W2 V):=hw.trans (hBV.mono hw.size)
   have wk1:wrap64 ((q1:Int)-(x:Int))=(q1:Int)-(x:Int):=by unfold wrap64;omega
   have wk2:wrap64 ((q2:Int)-(y:Int))=(q2:Int)-(y:Int):=by unfold wrap64;omega
   clear hV hU hBV hUV hH1 hq hqm hw hb hq1 hq2
   go_wp2
   rw [<- HV.out,<- HU.out]
   clear hc0 hc1 hc2
   go_region
   have HS1:=pSignedBits (V.drew) ((q1:Int)-(x:Int)) (by omega) (by omega)
   have HS2:=pSignedBits (V.drew) ((q2:Int)-(y:Int)) (by omega) (by omega)
   have hd1:=Pk.dig_le (Pk.fold_le (n:=(q1:Int)-(x:Int)) (by omega) (by omega))
   have hd2:=Pk.dig_le (Pk.fold_le (n:=(q2:Int)-(y:Int)) (by omega) (by omega))
   obtain ⟨D1,hD1⟩:∃ D1:Nat,D1=2*dig (fold ((q1:Int)-(x:Int)))+1:=⟨_,rfl⟩
   obtain ⟨D2,hD2⟩:∃ D2:Nat,D2=2*dig (fold ((q2:Int)-(y:Int)))+1:=⟨_,rfl⟩
   rw [<- hD1] at HS1
   rw [<- hD2] at HS2
   have HC:Hid (cost x y q=D1+D2):=by rw [Hid,hD1,hD2,HQ12.out.1,HQ12.out.2];rfl
   have wk3:wrap64 ((D1:Int)+(D2:Int))=((D1+D2:Nat):Int):=by unfold wrap64;omega
   clear hd1 hd2 hD1 hD2
   have HMQ:Hid (Calls Tryz.prog 139 #[.agg #[.int .i64 q1,.int .i64 q2,.int .i64 n],.pointer (some ⟨ga,0,none⟩)] V.drew fun e w'=>e=.returned (.bool (may q))/\Below V.drew.heap.size V.drew w'):=by
    have:=HM.out V.drew q (HH.out.2.1.trans ((HBV.out.mono HH.out.2.1.size).trans ⟨rfl,rfl,rfl,Nat.le_refl _,fun _ _=>rfl⟩)) (List.mem_of_getElem? HQ.out)
    rw [<- HQ12.out.1,<- HQ12.out.2] at this
    exact this
   obtain ⟨P,hP⟩:∃ P,P=may q:=⟨_,rfl⟩
   rw [<- hP] at HMQ
   have HP:Hid (P=may q):=hP
   clear hP
   obtain ⟨D,hD⟩:∃ D,D=D1+D2:=⟨_,rfl⟩
   rw [<- hD] at wk3 HC
   clear hD
   have nxt:∀ b',b'=near1 may x y b q->b'=(l.take (j+1)).foldl (near1 may x y) none:=fun b' e=>by
    rw [List.take_add_one,HQ.out]
    simp only [Option.toList_some,List.foldl_append,List.foldl_cons,List.foldl_nil]
    rw [<- HB.out.1,e]
   have NXT:Hid (∀ b',b'=near1 may x y b q->b'=(l.take (j+1)).foldl (near1 may x y) none):=nxt
   clear nxt
   have fin:∀ wm,Below V.drew.heap.size V.drew wm->Below W2.heap.size W2 wm:=fun wm bm=>(HBV.out.trans (⟨rfl,rfl,rfl,Nat.le_refl _,fun _ _=>rfl⟩:Below W2.heap.size V V.drew)).trans (bm.mono HBV.out.size)
   have FIN:Hid (∀ wm,Below V.drew.heap.size V.drew wm->Below W2.heap.size W2 wm):=fin
   clear fin
   cases P with
   | false =>
    have hn1:near1 may x y b q=b:=by
     unfold near1
     rw [<- HP.out]
     cases b <;> rfl
    have HN1:Hid (near1 may x y b q=b):=hn1
    clear hn1
    go_wp2_with (first
     | (go_at_call 164;refine HS1.mono ?_;rintro e wq ⟨rfl,rfl⟩)
     | (go_at_call 164;refine HS2.mono ?_;rintro e wq ⟨rfl,rfl⟩)
     | (go_at_call 139;refine HMQ.out.mono ?_;rintro e wm ⟨rfl,bm⟩))
    go_roundw
    case rel=>exact ⟨j+1,b,by omega,by rw [Int.natCast_add];rfl,NXT.out _ HN1.out.symm,rfl,rfl,rfl,rfl,FIN.out _ bm⟩
    case measure=>simp [intOf];omega
   | true =>
    cases b with
    | none =>
     have HN1:Hid (some q=near1 may x y none q):=by unfold near1;rw [<- HP.out];rfl
     go_wp2_with (first
     | (go_at_call 164;refine HS1.mono ?_;rintro e wq ⟨rfl,rfl⟩)
     | (go_at_call 164;refine HS2.mono ?_;rintro e wq ⟨rfl,rfl⟩)
     | (go_at_call 139;refine HMQ.out.mono ?_;rintro e wm ⟨rfl,bm⟩))
     go_roundw
     case rel=>exact ⟨j+1,some q,by omega,by rw [Int.natCast_add];rfl,NXT.out _ HN1.out,by unfold nstX;rw [HQ12.out.1],by unfold nstY;rw [HQ12.out.2],rfl,by rw [nstL_some,HC.out],FIN.out _ bm⟩
     case measure=>simp [intOf];omega
    | some p =>
     obtain ⟨E,hE⟩:∃ E,E=cost x y p:=⟨_,rfl⟩
     have hE2:nstL x y (some p)=(E:Int):=by rw [nstL_some,hE]
     have HE:Hid (E=cost x y p):=hE
     rw [hE2]
     by_cases hc:D<E
     ·have hc':(D:Int)<(E:Int):=by omega
      have HN1:Hid (some q=near1 may x y (some p) q):=by rw [Hid,near1_some,<- HP.out,HC.out,<- hE];simp [hc]
      clear hE hE2
      go_wp2_with (first
     | (go_at_call 164;refine HS1.mono ?_;rintro e wq ⟨rfl,rfl⟩)
     | (go_at_call 164;refine HS2.mono ?_;rintro e wq ⟨rfl,rfl⟩)
     | (go_at_call 139;refine HMQ.out.mono ?_;rintro e wm ⟨rfl,bm⟩))
      go_roundw
      case rel=>exact ⟨j+1,some q,by omega,by rw [Int.natCast_add];rfl,NXT.out _ HN1.out,by unfold nstX;rw [HQ12.out.1],by unfold nstY;rw [HQ12.out.2],rfl,by rw [nstL_some,HC.out],FIN.out _ bm⟩
      case measure=>simp [intOf];omega
     ·have hc':¬ ((D:Int)<(E:Int)):=by omega
      have HN1:Hid (some p=near1 may x y (some p) q):=by rw [Hid,near1_some,<- HP.out,HC.out,<- hE];simp [hc]
      clear hE hE2
      go_wp2_with (first
     | (go_at_call 164;refine HS1.mono ?_;rintro e wq ⟨rfl,rfl⟩)
     | (go_at_call 164;refine HS2.mono ?_;rintro e wq ⟨rfl,rfl⟩)
     | (go_at_call 139;refine HMQ.out.mono ?_;rintro e wm ⟨rfl,bm⟩))
      go_roundw
      case rel=>exact ⟨j+1,some p,by omega,by rw [Int.natCast_add];rfl,NXT.out _ HN1.out,rfl,rfl,rfl,by rw [nstL_some,<- HE.out],FIN.out _ bm⟩
      case measure=>simp [intOf];omega
  ·have hlt':¬ ((j:Int)<(N:Int)):=by omega
   have hbl:b=nearL may x y l:=by
    rw [hb,List.take_of_length_le (by have:=HO.out.2;omega)]
    rfl
   have HBL:Hid (b=nearL may x y l/\Below w.heap.size w wr):=⟨hbl,HH.out.2.1.trans (hw.mono HH.out.2.1.size)⟩
   clear hbl hb hw
   go_wp2
   refine bodyPost_ret (v:=.tuple #[.int .i64 (nstX x b),.int .i64 (nstY y b),.bool b.isSome]) (by simp [results,Tryz.results141]) rfl ?_
   rw [<- HBL.out.1]
   exact ⟨rfl,HBL.out.2⟩
set_option maxRecDepth 100000 in
theorem pNearStill (w:World) (m:Value) (K:List Value) (l:List (Nat × Nat)) (x y n base:Nat) (may:Nat × Nat->Bool) (hK:K.length=769) (hx:x<=16) (hy:y<=16) (hl:∀ q ∈ l,q.1<=16/\q.2<=16) (hll:l.length<=1000)
  (hL:∀ W,Below w.heap.size w W->∃ v,(Instr.lookup 91 m (.agg K.toArray) false).run Tryz.prog W=.ok v W/\W.ownsRow base 100 3 v l.length (arsCells (l.map fun q=>(q,n))))
  (hM:∀ W q,Below w.heap.size w W->q ∈ l->Calls Tryz.prog 142 #[.agg #[.int .i64 q.1,.int .i64 q.2,.int .i64 n]] W fun e w'=>e=.returned (.bool (may q))/\Below W.heap.size W w') :
  Calls Tryz.prog 141 #[m,.agg K.toArray,.agg #[.int .i64 x,.int .i64 y,.int .i64 n],.func (.func 142) #[] #[]] w fun e w'=>e=.returned (.tuple #[.int .i64 (nstX x (nearL may x y l)),.int .i64 (nstY y (nearL may x y l)),.bool (nearL may x y l).isSome])/\Below w.heap.size w w':=by
 have hmx:Tryz.prog.follows .mixedOrders=true:=by kernel_rfl
 obtain ⟨hzero,hsize⟩:=zero_of_info contInfo
 have HSZ:Hid ((Tryz.prog.info? 200).map (·.size)=some K.length):=by rw [Hid,hK];exact hsize
 obtain ⟨H,hH⟩:∃ H,H=w.heap.size:=⟨_,rfl⟩
 obtain ⟨W2,hW2⟩:∃ W2,W2=(w.alloc (.cells K.toArray 200)).alloc (.cells #[.int .i64 x,.int .i64 y,.int .i64 n] 100):=⟨_,rfl⟩
 have hB2:Below w.heap.size w W2:=by rw [hW2];exact ((Below.refl _ w).alloc (Nat.le_refl _) _).alloc (by simp) _
 have hx0:W2.heap[H]?=some (.cells K.toArray 200 (0,0)):=by rw [hW2,hH];exact (Below.heap_alloc _ _ _ (by simp)).trans (heap_alloc_last w _)
 have hx1:W2.heap[H+1]?=some (.cells #[.int .i64 x,.int .i64 y,.int .i64 n] 100 (0,0)):=by
  have:=heap_alloc_last (w.alloc (.cells K.toArray 200)) (.cells #[.int .i64 x,.int .i64 y,.int .i64 n] 100)
  rw [World.size_alloc] at this
  rw [hW2,hH];exact this
 have hrg:W2.rangeAt H 0 K:=fun j v hv=>by rw [Nat.zero_add,cell_of_row _ _ j _ _ _ hx0,List.getElem?_toArray];exact hv
 obtain ⟨v,hv1,hv2⟩:=hL W2 hB2
 obtain ⟨N,hN⟩:∃ N,N=l.length:=⟨_,rfl⟩
 obtain ⟨sa,cap,rfl⟩:∃ sa cap,v=.slice sa N cap:=by
  rcases hv2.2 with ⟨rfl,e⟩|⟨g,cap,cur,rfl,_⟩
  ·exact ⟨none,0,by rw [hN,e]⟩
  ·exact ⟨_,cap,by rw [hN]⟩
 rw [<- hN] at hv2 hll
 have HO:Hid (W2.ownsRow base 100 3 (.slice sa N cap) N (arsCells (l.map fun q=>(q,n)))/\N=l.length):=⟨hv2,hN⟩
 have HW2:Hid (W2=(w.alloc (.cells K.toArray 200)).alloc (.cells #[.int .i64 x,.int .i64 y,.int .i64 n] 100)):=hW2
 have HH:Hid (H=w.heap.size/\Below w.heap.size w W2/\H+1<W2.heap.size):=⟨hH,hB2,heap_lt0 hx1⟩
 have HX:Hid (W2.heap[H+1]?=some (.cells #[.int .i64 x,.int .i64 y,.int .i64 n] 100 (0,0))):=hx1
 have HM:Hid (∀ W q,Below w.heap.size w W->q ∈ l->Calls Tryz.prog 142 #[.agg #[.int .i64 q.1,.int .i64 q.2,.int .i64 n]] W fun e w'=>e=.returned (.bool (may q))/\Below W.heap.size W w'):=hM
 have HLQ:Hid (∀ q ∈ l,q.1<=16/\q.2<=16):=hl
 have hbox:K.toArray.size ≠ 0:=by rw [List.size_toArray,hK];decide
 clear hW2 hx0 hx1 hB2 hH hL hM hl hN hv2 hzero hsize
 go_enter Tryz.func141,Tryz.ntmps141
 go_wp2_with (first
  | (rw [<- HW2.out,<- HH.out.1])
  | (refine wpList_load_mid rfl 200 (.tmp 5) rfl H 0 rfl K _ hrg Tryz.underlying200 rfl HSZ.out ?_)
  | (refine wpList_lookup_run rfl 91 (.tmp 17) (.tmp 18) rfl rfl rfl hv1 ?_))
 go_loopw [8,9,10,11,21] (fun v8 v9 v10 v11 v21 wr=>∃ (j:Nat) (b:Option (Nat × Nat)),j<=N/\v21=.int .i64 j/\b=(l.take j).foldl (near1 may x y) none/\v8=.int .i64 (nstX x b)/\v9=.int .i64 (nstY y b)/\v10=.bool b.isSome/\v11=.int .i64 (nstL x y b)/\Below W2.heap.size W2 wr) (fun _ _ _ _ v21 _=>N-(intOf v21).toNat)
 case atStart=>exact ⟨0,none,Nat.zero_le _,rfl,rfl,rfl,rfl,rfl,rfl,Below.refl _ _⟩
 case round =>
  obtain ⟨j,b,hj,rfl,hb,rfl,rfl,rfl,rfl,hw⟩:=hrel
  have HB:Hid (b=(l.take j).foldl (near1 may x y) none/\Below W2.heap.size W2 wr):=⟨hb,hw⟩
  by_cases hlt:j<N
  ·have hlt':(j:Int)<(N:Int):=by omega
   obtain ⟨q,hq⟩:∃ q,l[j]?=some q:=⟨l[j]'(by rw [<- HO.out.2];exact hlt),List.getElem?_eq_getElem _⟩
   have hqm:=List.mem_of_getElem? hq
   obtain ⟨qx,qy⟩:=HLQ.out q hqm
   obtain ⟨g,hsa,hc0,hc1,hc2⟩:∃ g,sa=some ⟨g,0,none⟩/\wr.cell? ⟨g,j*3,none⟩=some (.int .i64 q.1)/\wr.cell? ⟨g,j*3+1,none⟩=some (.int .i64 q.2)/\wr.cell? ⟨g,j*3+2,none⟩=some (.int .i64 n):=by
    obtain ⟨ho,hN⟩:=HO.out
    obtain ⟨a0,a1,a2⟩:=arsCells_get l n hq
    rcases ho.2 with ⟨_,e⟩|⟨g,cap',cur,e,_⟩
    ·omega
    ·injection e with e
     subst e
     have hk:∀ i u,(arsCells (l.map fun q=>(q,n)))[i]?=some u->wr.cell? ⟨g,i,none⟩=some u:=fun i u hu=>by
      have h1:=ho.cells (g:=g) rfl i u hu
      rw [Addr.add_mid,Nat.zero_add] at h1
      exact (hw.cell (p:=⟨g,i,none⟩) (World.block_lt_of_cell? W2 _ h1)).trans h1
     exact ⟨g,rfl,hk _ _ a0,hk _ _ a1,hk _ _ a2⟩
   subst hsa
   have HQ:Hid (l[j]?=some q):=hq
   obtain ⟨q1,hq1⟩:∃ q1,q1=q.1:=⟨_,rfl⟩
   obtain ⟨q2,hq2⟩:∃ q2,q2=q.2:=⟨_,rfl⟩
   rw [<- hq1] at hc0 qx
   rw [<- hq2] at hc1 qy
   have HQ12:Hid (q1=q.1/\q2=q.2):=⟨hq1,hq2⟩
   obtain ⟨U,hU⟩:∃ U,U=wr.heap.size:=⟨_,rfl⟩
   obtain ⟨V,hV⟩:∃ V,V=wr.alloc (.cells #[.int .i64 q1,.int .i64 q2,.int .i64 n] 100):=⟨_,rfl⟩
   have hBV:Below wr.heap.size wr V:=by rw [hV];exact (Below.refl _ wr).alloc (Nat.le_refl _) _
   have hUV:V.heap[U]?=some (.cells #[.int .i64 q1,.int .i64 q2,.int .i64 n] 100 (0,0)):=by rw [hV,hU];exact heap_alloc_last wr _
   have hH1:V.heap[H+1]?=some (.cells #[.int .i64 x,.int .i64 y,.int .i64 n] 100 (0,0)):=(hBV.block (H+1) (Nat.lt_of_lt_of_le HH.out.2.2 hw.size)).trans ((hw.block (H+1) HH.out.2.2).trans HX.out)
   have k0:=cell_of_row _ _ 0 _ _ _ hUV
   have k1:=cell_of_row _ _ 1 _ _ _ hUV
   have k2:=cell_of_row _ _ 2 _ _ _ hUV
   have n0:=cell_of_row _ _ 0 _ _ _ hH1
   have n1:=cell_of_row _ _ 1 _ _ _ hH1
   simp at k0 k1 k2 n0 n1
   have HV:Hid (V=wr.alloc (.cells #[.int .i64 q1,.int .i64 q2,.int .i64 n] 100)):=hV
   have HU:Hid (U=wr.heap.size):=hU
   have HBV:Hid (Below W2.heap.size W2 V):=hw.trans (hBV.mono hw.size)
   have wk1:wrap64 ((q1:Int)-(x:Int))=(q1:Int)-(x:Int):=by unfold wrap64;omega
   have wk2:wrap64 ((q2:Int)-(y:Int))=(q2:Int)-(y:Int):=by unfold wrap64;omega
   clear hV hU hBV hUV hH1 hq hqm hw hb hq1 hq2
   go_wp2
   rw [<- HV.out,<- HU.out]
   clear hc0 hc1 hc2
   go_region
   have HS1:=pSignedBits (V.drew) ((q1:Int)-(x:Int)) (by omega) (by omega)
   have HS2:=pSignedBits (V.drew) ((q2:Int)-(y:Int)) (by omega) (by omega)
   have hd1:=Pk.dig_le (Pk.fold_le (n:=(q1:Int)-(x:Int)) (by omega) (by omega))
   have hd2:=Pk.dig_le (Pk.fold_le (n:=(q2:Int)-(y:Int)) (by omega) (by omega))
   obtain ⟨D1,hD1⟩:∃ D1:Nat,D1=2*dig (fold ((q1:Int)-(x:Int)))+1:=⟨_,rfl⟩
   obtain ⟨D2,hD2⟩:∃ D2:Nat,D2=2*dig (fold ((q2:Int)-(y:Int)))+1:=⟨_,rfl⟩
   rw [<- hD1] at HS1
   rw [<- hD2] at HS2
   have HC:Hid (cost x y q=D1+D2):=by rw [Hid,hD1,hD2,HQ12.out.1,HQ12.out.2];rfl
   have wk3:wrap64 ((D1:Int)+(D2:Int))=((D1+D2:Nat):Int):=by unfold wrap64;omega
   clear hd1 hd2 hD1 hD2
   have HMQ:Hid (Calls Tryz.prog 142 #[.agg #[.int .i64 q1,.int .i64 q2,.int .i64 n]] V.drew fun e w'=>e=.returned (.bool (may q))/\Below V.drew.heap.size V.drew w'):=by
    have:=HM.out V.drew q (HH.out.2.1.trans ((HBV.out.mono HH.out.2.1.size).trans ⟨rfl,rfl,rfl,Nat.le_refl _,fun _ _=>rfl⟩)) (List.mem_of_getElem? HQ.out)
    rw [<- HQ12.out.1,<- HQ12.out.2] at this
    exact this
   obtain ⟨P,hP⟩:∃ P,P=may q:=⟨_,rfl⟩
   rw [<- hP] at HMQ
   have HP:Hid (P=may q):=hP
   clear hP
   obtain ⟨D,hD⟩:∃ D,D=D1+D2:=⟨_,rfl⟩
   rw [<- hD] at wk3 HC
   clear hD
   have nxt:∀ b',b'=near1 may x y b q->b'=(l.take (j+1)).foldl (near1 may x y) none:=fun b' e=>by
    rw [List.take_add_one,HQ.out]
    simp only [Option.toList_some,List.foldl_append,List.foldl_cons,List.foldl_nil]
    rw [<- HB.out.1,e]
   have NXT:Hid (∀ b',b'=near1 may x y b q->b'=(l.take (j+1)).foldl (near1 may x y) none):=nxt
   clear nxt
   have fin:∀ wm,Below V.drew.heap.size V.drew wm->Below W2.heap.size W2 wm:=fun wm bm=>(HBV.out.trans (⟨rfl,rfl,rfl,Nat.le_refl _,fun _ _=>rfl⟩:Below W2.heap.size V V.drew)).trans (bm.mono HBV.out.size)
   have FIN:Hid (∀ wm,Below V.drew.heap.size V.drew wm->Below W2.heap.size W2 wm):=fin
   clear fin
   cases P with
   | false =>
    have hn1:near1 may x y b q=b:=by
     unfold near1
     rw [<- HP.out]
     cases b <;> rfl
    have HN1:Hid (near1 may x y b q=b):=hn1
    clear hn1
    go_wp2_with (first
     | (go_at_call 164;refine HS1.mono ?_;rintro e wq ⟨rfl,rfl⟩)
     | (go_at_call 164;refine HS2.mono ?_;rintro e wq ⟨rfl,rfl⟩)
     | (go_at_call 142;refine HMQ.out.mono ?_;rintro e wm ⟨rfl,bm⟩))
    go_roundw
    case rel=>exact ⟨j+1,b,by omega,by rw [Int.natCast_add];rfl,NXT.out _ HN1.out.symm,rfl,rfl,rfl,rfl,FIN.out _ bm⟩
    case measure=>simp [intOf];omega
   | true =>
    cases b with
    | none =>
     have HN1:Hid (some q=near1 may x y none q):=by unfold near1;rw [<- HP.out];rfl
     go_wp2_with (first
     | (go_at_call 164;refine HS1.mono ?_;rintro e wq ⟨rfl,rfl⟩)
     | (go_at_call 164;refine HS2.mono ?_;rintro e wq ⟨rfl,rfl⟩)
     | (go_at_call 142;refine HMQ.out.mono ?_;rintro e wm ⟨rfl,bm⟩))
     go_roundw
     case rel=>exact ⟨j+1,some q,by omega,by rw [Int.natCast_add];rfl,NXT.out _ HN1.out,by unfold nstX;rw [HQ12.out.1],by unfold nstY;rw [HQ12.out.2],rfl,by rw [nstL_some,HC.out],FIN.out _ bm⟩
     case measure=>simp [intOf];omega
    | some p =>
     obtain ⟨E,hE⟩:∃ E,E=cost x y p:=⟨_,rfl⟩
     have hE2:nstL x y (some p)=(E:Int):=by rw [nstL_some,hE]
     have HE:Hid (E=cost x y p):=hE
     rw [hE2]
     by_cases hc:D<E
     ·have hc':(D:Int)<(E:Int):=by omega
      have HN1:Hid (some q=near1 may x y (some p) q):=by rw [Hid,near1_some,<- HP.out,HC.out,<- hE];simp [hc]
      clear hE hE2
      go_wp2_with (first
     | (go_at_call 164;refine HS1.mono ?_;rintro e wq ⟨rfl,rfl⟩)
     | (go_at_call 164;refine HS2.mono ?_;rintro e wq ⟨rfl,rfl⟩)
     | (go_at_call 142;refine HMQ.out.mono ?_;rintro e wm ⟨rfl,bm⟩))
      go_roundw
      case rel=>exact ⟨j+1,some q,by omega,by rw [Int.natCast_add];rfl,NXT.out _ HN1.out,by unfold nstX;rw [HQ12.out.1],by unfold nstY;rw [HQ12.out.2],rfl,by rw [nstL_some,HC.out],FIN.out _ bm⟩
      case measure=>simp [intOf];omega
     ·have hc':¬ ((D:Int)<(E:Int)):=by omega
      have HN1:Hid (some p=near1 may x y (some p) q):=by rw [Hid,near1_some,<- HP.out,HC.out,<- hE];simp [hc]
      clear hE hE2
      go_wp2_with (first
     | (go_at_call 164;refine HS1.mono ?_;rintro e wq ⟨rfl,rfl⟩)
     | (go_at_call 164;refine HS2.mono ?_;rintro e wq ⟨rfl,rfl⟩)
     | (go_at_call 142;refine HMQ.out.mono ?_;rintro e wm ⟨rfl,bm⟩))
      go_roundw
      case rel=>exact ⟨j+1,some p,by omega,by rw [Int.natCast_add];rfl,NXT.out _ HN1.out,rfl,rfl,rfl,by rw [nstL_some,<- HE.out],FIN.out _ bm⟩
      case measure=>simp [intOf];omega
  ·have hlt':¬ ((j:Int)<(N:Int)):=by omega
   have hbl:b=nearL may x y l:=by
    rw [hb,List.take_of_length_le (by have:=HO.out.2;omega)]
    rfl
   have HBL:Hid (b=nearL may x y l/\Below w.heap.size w wr):=⟨hbl,HH.out.2.1.trans (hw.mono HH.out.2.1.size)⟩
   clear hbl hb hw
   go_wp2
   refine bodyPost_ret (v:=.tuple #[.int .i64 (nstX x b),.int .i64 (nstY y b),.bool b.isSome]) (by simp [results,Tryz.results141]) rfl ?_
   rw [<- HBL.out.1]
   exact ⟨rfl,HBL.out.2⟩
end
end Go.Proofs.YtekfbphnoibnjaaGreatDoor
