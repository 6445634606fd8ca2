/-
  PackRead PackRun
-/
import Derived.Test.YtekfbphnoibnjaaGreatDoorG35
set_option maxHeartbeats 4000000
namespace Go.Proofs.YtekfbphnoibnjaaGreatDoor
section
open Go.ChangeShapes Go.WideShapes Go.ChangeAt Go.RowKit Go.Joins Go.Deep
open Flm (Px okPx)
theorem pbulk_pos {H:Type} (d:DataW H):1<=Rows.uptoBulk d:=by
 cases d with
 | lit l=>cases l <;> simp [Rows.uptoBulk]
 | nil=>simp [Rows.uptoBulk]
 | ptr d=>simp [Rows.uptoBulk]
 | slice elems spare=>simp [Rows.uptoBulk]
 | agg parts=>simp [Rows.uptoBulk]
 | iface t d=>simp [Rows.uptoBulk]
 | map entries=>simp [Rows.uptoBulk]
 | held h=>simp [Rows.uptoBulk]
theorem pbulk_mem {H:Type} {d:DataW H}:∀ {l:List (DataW H)},d ∈ l->Rows.uptoBulk d<=Rows.uptoBulkAll l
 | [],h=>by cases h
 | x :: r,h=>by
  rw [Rows.uptoBulkAll]
  rcases List.mem_cons.1 h with e|e
  ·subst e;omega
  ·have:=pbulk_mem e;omega
theorem pbulk_len {H:Type}:∀ (l:List (DataW H)),l.length<=Rows.uptoBulkAll l
 | []=>by simp
 | x :: r=>by
  have:=pbulk_len r
  have:=pbulk_pos x
  rw [Rows.uptoBulkAll,List.length_cons]
  omega
theorem pbulk_sum {H:Type} (g:Nat->Nat) (D:Nat->DataW H):∀ (l:List Nat),(∀ i ∈ l,g i<=Rows.uptoBulk (D i))->(l.map g).sum<=Rows.uptoBulkAll (l.map D)
 | [],_=>by simp [Rows.uptoBulkAll]
 | x :: r,h=>by
  have h1:=pbulk_sum g D r (fun i hi=>h i (List.mem_cons_of_mem _ hi))
  have h2:=h x (List.mem_cons_self ..)
  rw [List.map_cons,List.map_cons,List.sum_cons,Rows.uptoBulkAll]
  omega
theorem cellsPxs:Tryz.prog.cellsOf 58=1:=by kernel_rfl
theorem list3 {α:Type} {l:List α} (h:l.length=3):∃ a0 a1 a2,l=[a0,a1,a2]:=by
 match l,h with
 | [a0,a1,a2],_=>exact ⟨_,_,_,rfl⟩
theorem list1 {α:Type} {l:List α} (h:l.length=1):∃ a0,l=[a0]:=by
 match l,h with
 | [a0],_=>exact ⟨_,rfl⟩
theorem range_getD {α:Type} (f:Nat->α) (n i:Nat) (d:α) (h:i<n):((List.range n).map f).getD i d=f i:=by
 rw [List.getD_eq_getElem?_getD,List.getElem?_map,List.getElem?_range h];rfl
section
variable {H:Type} {enc:TypeId × Value->H} {w:World} {base:Nat} {spare:Nat->Bool} {held:Bool}
theorem pslice_bulk {P:Program} {t e:TypeId} {fuel:Nat} {a:Option Addr} {len cap:Nat} {x:DataW H × List MemPlace} (ht:P.underlying t=some (.slice e)) (h:DataW.trod enc P w base spare held fuel t [.slice a len cap]=some x):len+1<=Rows.uptoBulk x.1:=by
 rcases open_slice ht h with ⟨h1,_⟩|⟨a',len',cap',m,n,D,Pl,h1,_,hl,hm,hmm,rfl,hx⟩
 ·simp at h1;have:=pbulk_pos x.1;omega
 ·simp at h1
  obtain ⟨rfl,rfl,rfl⟩:=h1
  have:=pbulk_len ((List.range len).map D)
  rw [List.length_map,List.length_range] at this
  show len+1<=Rows.uptoBulk (.slice _ _)
  rw [Rows.uptoBulk]
  omega
theorem open_pix {n:Nat} {cs:List Value} {x:DataW H × List MemPlace} (hl:cs.length=3) (h:DataW.trod enc Tryz.prog w base spare held n 50 cs=some x):∃ p:Px,cs=[.int .u8 p.1,.int .u8 p.2.1,.int .u8 p.2.2]/\okPx p:=by
 obtain ⟨a0,a1,a2,rfl⟩:=list3 hl
 obtain ⟨p0,p1,p2,rfl,rfl,rfl,w0,w1,w2⟩:=trod_ints3 Tryz.underlying50 Tryz.underlying5 cellsU8 h
 exact ⟨(p0,p1,p2),rfl,bounds_u8 w0,bounds_u8 w1,bounds_u8 w2⟩
theorem open_pixels {fuel:Nat} {a:Option Addr} {len cap:Nat} {x:DataW H × List MemPlace} (h:DataW.trod enc Tryz.prog w base spare held fuel 58 [.slice a len cap]=some x) :
  ∃ ps:List Px,ps.length=len/\PxsIn w a ps/\∀ p ∈ ps,okPx p:=by
 rcases open_slice Tryz.underlying58 h with ⟨h1,_⟩|⟨a',len',cap',m,n,D,Pl,h1,_,hl,hm,hmm,_,hx⟩
 ·simp at h1
  exact ⟨[],by simp [h1.2.1],.inl rfl,by simp⟩
 ·simp at h1
  obtain ⟨rfl,rfl,rfl⟩:=h1
  rw [cellsPix] at hx
  have hlm:len<=m:=by rw [hmm];split <;> omega
  have hop:∀ i,i<len->∃ p:Px,okPx p/\w.cells? base (a'.add (i*3)) 3=some [.int .u8 p.1,.int .u8 p.2.1,.int .u8 p.2.2]:=fun i hi=>by
   obtain ⟨cs,h1,h2⟩:=hx i (by omega)
   obtain ⟨p,rfl,hp⟩:=open_pix (World.cells?_some h1).2.1 h2
   exact ⟨p,hp,h1⟩
  by_cases h0:len=0
  ·exact ⟨[],by simp [h0],.inl rfl,by simp⟩
  ·have inh:Inhabited Px:=⟨(0,0,0)⟩
   obtain ⟨f,hf⟩:=choose_lt hop
   obtain ⟨b,off,spot⟩:=a'
   have hz:=(World.cells?_some (hf 0 (by omega)).2).2.2 0 (by omega)
   have hc0:w.cell? ⟨b,off,spot⟩=some (.int .u8 (f 0).1):=by simpa [Addr.add] using hz
   have hspot:spot=none:=by simpa [Addr.add] using World.cell?_spot hc0
   subst hspot
   refine ⟨(List.range len).map f,by simp,.inr ⟨b,off,rfl,fun i hi=>?_⟩,fun p hp=>?_⟩
   ·rw [List.length_map,List.length_range] at hi
    have k0:=(World.cells?_some (hf i hi).2).2.2 0 (by omega)
    have k1:=(World.cells?_some (hf i hi).2).2.2 1 (by omega)
    have k2:=(World.cells?_some (hf i hi).2).2.2 2 (by omega)
    rw [add_plain,add_plain] at k0 k1 k2
    rw [range_getD f len i _ hi]
    exact ⟨by simpa using k0,by simpa using k1,by simpa using k2⟩
   ·obtain ⟨i,hi,rfl⟩:=List.mem_map.1 hp
    exact (hf i (List.mem_range.1 hi)).1
def FilmV (w:World) (f:Option Addr) (fl:Nat):Prop:=(f=none/\fl=0) \/ ∃ a F,f=some a/\FiIn w (some a) F/\F.length=fl/\(∀ j,∀ p ∈ F.getD j [],okPx p)/\∀ j,(F.getD j []).length<=1048576
theorem open_frames {fuel:Nat} {a:Option Addr} {len cap:Nat} {x:DataW H × List MemPlace} (h:DataW.trod enc Tryz.prog w base spare held fuel 25 [.slice a len cap]=some x) (hk:Rows.uptoBulk x.1<=1048576):FilmV w a len:=by
 rcases open_slice Tryz.underlying25 h with ⟨h1,_⟩|⟨a',len',cap',m,n,D,Pl,h1,_,hl,hm,hmm,rfl,hx⟩
 ·simp at h1
  exact .inl ⟨h1.1,h1.2.1⟩
 ·simp at h1
  obtain ⟨rfl,rfl,rfl⟩:=h1
  refine .inr ?_
  rw [cellsPxs] at hx
  have hlm:len<=m:=by rw [hmm];split <;> omega
  have hD:∀ i,i<len->Rows.uptoBulk (D i)<=1048576:=fun i hi=>by
   have hm:D i ∈ (List.range len).map D:=List.mem_map.2 ⟨i,List.mem_range.2 hi,rfl⟩
   have:=pbulk_mem hm
   have hk':Rows.uptoBulk (.slice ((List.range len).map D) ((List.range (m-len)).map fun j=>D (len+j)))<=1048576:=hk
   rw [Rows.uptoBulk] at hk'
   omega
  have hop:∀ i,i<len->∃ q:List Px × Option Addr × Nat,w.cells? base (a'.add (i*1)) 1=some [.slice q.2.1 q.1.length q.2.2]/\PxsIn w q.2.1 q.1/\(∀ p ∈ q.1,okPx p)/\q.1.length<=1048576:=fun i hi=>by
   obtain ⟨cs,h1,h2⟩:=hx i (by omega)
   obtain ⟨v,rfl⟩:=list1 (World.cells?_some h1).2.1
   obtain ⟨b,l,c,rfl⟩:=trod_slice_shape (v:=v) Tryz.underlying58 h2
   have h3:=pslice_bulk Tryz.underlying58 h2
   obtain ⟨ps,e1,e2,e3⟩:=open_pixels h2
   have:=hD i hi
   exact ⟨(ps,b,c),by rw [<- e1] at h1;exact h1,e2,e3,by show ps.length<=1048576;rw [e1];exact Nat.le_trans (Nat.le_of_lt h3) this⟩
  by_cases h0:len=0
  ·exact ⟨a',[],rfl,.inl rfl,by simp [h0],by simp,by simp⟩
  ·have inh:Inhabited (List Px × Option Addr × Nat):=⟨([],none,0)⟩
   obtain ⟨f,hf⟩:=choose_lt hop
   obtain ⟨b,off,spot⟩:=a'
   have hz:=(World.cells?_some (hf 0 (by omega)).1).2.2 0 (by omega)
   have hc0:w.cell? ⟨b,off,spot⟩=some (.slice (f 0).2.1 (f 0).1.length (f 0).2.2):=by simpa [Addr.add] using hz
   have hspot:spot=none:=by simpa [Addr.add] using World.cell?_spot hc0
   subst hspot
   have hg:∀ j,((List.range len).map fun i=>(f i).1).getD j []=if j<len then (f j).1 else []:=fun j=>by
    by_cases hj:j<len
    ·rw [range_getD (fun i=>(f i).1) len j _ hj,if_pos hj]
    ·rw [if_neg hj,List.getD_eq_getElem?_getD,List.getElem?_eq_none (by simp;omega)];rfl
   refine ⟨_,(List.range len).map fun i=>(f i).1,rfl,.inr ⟨b,off,rfl,fun j hj=>?_⟩,by simp,fun j p hp=>?_,fun j=>?_⟩
   ·rw [List.length_map,List.length_range] at hj
    have k0:=(World.cells?_some (hf j hj).1).2.2 0 (by omega)
    rw [add_plain,add_plain] at k0
    rw [hg j,if_pos hj]
    exact ⟨_,_,by simpa using k0,(hf j hj).2.1⟩
   ·rw [hg j] at hp
    by_cases hj:j<len
    ·rw [if_pos hj] at hp;exact (hf j hj).2.2.1 p hp
    ·rw [if_neg hj] at hp;cases hp
   ·rw [hg j]
    by_cases hj:j<len
    ·rw [if_pos hj];exact (hf j hj).2.2.2
    ·rw [if_neg hj];simp
theorem open_op_film {n:Nat} {o:OpV} {x:DataW H × List MemPlace} (h:DataW.trod enc Tryz.prog w base spare held n 54 o.cells=some x) (hk:Rows.uptoBulk x.1<=1048576):FilmV w o.f o.fl/\o.fl+1<=Rows.uptoBulk x.1:=by
 obtain ⟨xs,m,_,hx,_,hxl,hf⟩:=DataW.trod_struct Tryz.underlying54 h
 have hx7:xs.length=7:=hxl
 have g6:DataW.trod enc Tryz.prog w base spare held m 27 [.int .i64 o.size,.slice o.f o.fl o.fc]=some (xs[6]'(by omega)):=by
  have k:DataW.trod enc Tryz.prog w base spare held m 27 ((o.cells.drop 10).take (Tryz.prog.cellsOf 27))=xs[6]?:=hf 6 _ rfl
  rw [cellsFilm,List.getElem?_eq_getElem (by omega)] at k
  exact k
 obtain ⟨ys,m2,_,hy,_,hyl,hg⟩:=DataW.trod_struct Tryz.underlying27 g6
 have hy2:ys.length=2:=hyl
 have k1:DataW.trod enc Tryz.prog w base spare held m2 25 [.slice o.f o.fl o.fc]=some (ys[1]'(by omega)):=by
  have k:DataW.trod enc Tryz.prog w base spare held m2 25 (([Value.int .i64 o.size,.slice o.f o.fl o.fc].drop 1).take (Tryz.prog.cellsOf 25))=ys[1]?:=hg 1 _ rfl
  rw [cellsRows,List.getElem?_eq_getElem (by omega)] at k
  exact k
 have b1:Rows.uptoBulk (xs[6]'(by omega)).1<=Rows.uptoBulk x.1:=by
  have hm:(xs[6]'(by omega)).1 ∈ xs.map (·.1):=List.mem_map.2 ⟨_,List.getElem_mem _,rfl⟩
  have:=pbulk_mem hm
  rw [hx]
  show _<=Rows.uptoBulk (.agg (xs.map (·.1)))
  rw [Rows.uptoBulk]
  omega
 have b2:Rows.uptoBulk (ys[1]'(by omega)).1<=Rows.uptoBulk (xs[6]'(by omega)).1:=by
  have hm:(ys[1]'(by omega)).1 ∈ ys.map (·.1):=List.mem_map.2 ⟨_,List.getElem_mem _,rfl⟩
  have:=pbulk_mem hm
  rw [hy]
  show _<=Rows.uptoBulk (.agg (ys.map (·.1)))
  rw [Rows.uptoBulk]
  omega
 have b3:=pslice_bulk Tryz.underlying25 k1
 exact ⟨open_frames k1 (by omega),by omega⟩
theorem open_script_film {fuel:Nat} {a:Option Addr} {len cap:Nat} {x:DataW H × List MemPlace} (h:DataW.trod enc Tryz.prog w base spare held fuel 22 [.slice a len cap]=some x) (hk:Rows.uptoBulk x.1<=1048576) :
  ∃ ops:List OpV,Script w a len ops/\(∀ o ∈ ops,FilmV w o.f o.fl)/\len<=1048576/\(ops.map fun o=>o.fl+1).sum<=1048576:=by
 have hlb:=pslice_bulk Tryz.underlying22 h
 rcases open_slice Tryz.underlying22 h with ⟨h1,_⟩|⟨a',len',cap',m,n,D,Pl,h1,_,hl,hm,hmm,rfl,hx⟩
 ·simp at h1
  obtain ⟨rfl,rfl,rfl⟩:=h1
  exact ⟨[],.inl ⟨rfl,rfl⟩,by simp,by omega,by simp⟩
 ·simp at h1
  obtain ⟨rfl,rfl,rfl⟩:=h1
  rw [cellsOp] at hx
  have hlm:len<=m:=by rw [hmm];split <;> omega
  have hA:Rows.uptoBulkAll ((List.range len).map D)<=1048576:=by
   have hk':Rows.uptoBulk (.slice ((List.range len).map D) ((List.range (m-len)).map fun j=>D (len+j)))<=1048576:=hk
   rw [Rows.uptoBulk] at hk'
   omega
  have hD:∀ i,i<len->Rows.uptoBulk (D i)<=1048576:=fun i hi=>by
   have hm:D i ∈ (List.range len).map D:=List.mem_map.2 ⟨i,List.mem_range.2 hi,rfl⟩
   have:=pbulk_mem hm
   omega
  have hop:∀ i,i<len->∃ o:OpV,(FilmV w o.f o.fl/\o.fl+1<=Rows.uptoBulk (D i))/\w.cells? base (a'.add (i*12)) 12=some o.cells:=fun i hi=>by
   obtain ⟨cs,h1,h2⟩:=hx i (by omega)
   obtain ⟨o,rfl,hfit⟩:=open_op h2
   exact ⟨o,open_op_film h2 (hD i hi),h1⟩
  have inh:Inhabited OpV:=⟨opA 0⟩
  obtain ⟨f,hf⟩:=choose_lt hop
  by_cases h0:len=0
  ·exact ⟨[],.inl ⟨h0,rfl⟩,by simp,by omega,by simp⟩
  ·obtain ⟨b,off,spot⟩:=a'
   have hz:=(World.cells?_some (hf 0 (by omega)).2).2.2 0 (by omega)
   have hc0:w.cell? ⟨b,off,spot⟩=some (.int .i64 (f 0).kind):=by simpa [Addr.add,OpV.cells] using hz
   have hspot:spot=none:=by simpa [Addr.add] using World.cell?_spot hc0
   subst hspot
   refine ⟨(List.range len).map f,.inr ⟨b,off,rfl,World.block_lt_of_cell? w _ hc0,by simp,?_⟩,?_,by omega,?_⟩
   ·intro i hi j v hv
    have hi':i<len:=by simpa using hi
    have hj:j<12:=by
     rcases Nat.lt_or_ge j 12 with h'|h'
     ·exact h'
     ·rw [List.getElem?_eq_none (by rw [cells_length];exact h')] at hv;cases hv
    have hcell:=(World.cells?_some (hf i hi').2).2.2 j hj
    rw [add_plain,add_plain] at hcell
    rw [hcell,<- hv]
    simp
   ·intro o ho
    obtain ⟨i,hi,rfl⟩:=List.mem_map.1 ho
    exact (hf i (List.mem_range.1 hi)).1.1
   ·rw [List.map_map]
    exact Nat.le_trans (pbulk_sum _ D (List.range len) (fun i hi=>(hf i (List.mem_range.1 hi)).1.2)) hA
end
end
section
open Go.RowKit
open Flm (Px okPx)
theorem step_six (P:World->Prop) (p:Value) (s:ByteArray) (c0 c1 c2 r g b:Int) (vb vl:Value) (z:Int) (vf:Value) (w:World)
  (H:∀ o,Calls Tryz.prog 29 #[p,.agg #[.int .i64 z,vf]] (w.alloc o) fun e w'=>e=.returned (.bool true)/\P w') :
  Calls Tryz.prog 15 #[p,.agg #[.int .i64 6,.string s,.int .i64 c0,.int .i64 c1,.int .i64 c2,.int .u8 r,.int .u8 g,.int .u8 b,vb,vl,.int .i64 z,vf]] w fun e w'=>e=.returned (.bool true)/\P w':=by
 go_enter Tryz.func15,Tryz.ntmps15
 go_wp2_with (go_at_call 29;refine (H _).mono ?_;rintro e w1 ⟨rfl,hb1⟩)
 go_ret
 exact ⟨rfl,hb1⟩
theorem FilmV.kept {w wH:World} {f:Option Addr} {fl:Nat} (h:FilmV w f fl) (k0:Below w.heap.size w wH) (hz:w.heap.size<=wH.heap.size):FilmK wH w.heap.size f fl:=by
 rcases h with h|⟨a,F,e,h1,h2,h3,h4⟩
 ·exact .inl h
 ·refine .inr ⟨a,F,e,fun wx hx=>h1.mono fun q v hq=>?_,h2,h3,h4⟩
  have hb:=World.block_lt_of_cell? w q hq
  rw [World.cell?_of_block (a:=q) ((hx q.block (by omega) (by omega)).trans (k0.block q.block hb))]
  exact hq
def marksTo (l:List OpV) (c:Nat):Nat:=((l.take c).map fun o=>o.fl+1).sum
theorem marksTo_succ {l:List OpV} {c:Nat} {o:OpV} (h:l[c]?=some o):marksTo l (c+1)=marksTo l c+(o.fl+1):=by
 unfold marksTo
 rw [List.take_add_one,h]
 simp
theorem marksTo_mono (l:List OpV) (c:Nat):marksTo l c<=marksTo l (c+1):=by
 cases h:l[c]? with
 | none=>unfold marksTo;rw [List.take_add_one,h];simp
 | some o=>rw [marksTo_succ h];omega
theorem take_sum:∀ (l:List Nat) (c:Nat),(l.take c).sum<=l.sum
 | [],c=>by simp
 | x :: r,0=>by simp
 | x :: r,c+1=>by
  have:=take_sum r c
  simp only [List.take_succ_cons,List.sum_cons]
  omega
theorem mem_sum:∀ {l:List Nat} {x:Nat},x ∈ l->x<=l.sum
 | [],_,h=>by cases h
 | y :: r,x,h=>by
  rw [List.sum_cons]
  rcases List.mem_cons.1 h with e|e
  ·omega
  ·have:=mem_sum e;omega
theorem marksTo_le (l:List OpV) (c:Nat):marksTo l c<=(l.map fun o=>o.fl+1).sum:=by
 unfold marksTo
 rw [List.map_take]
 exact take_sum _ c
structure PakI (w wH:World) (p:Nat) (l:List OpV) (c:Nat) (w':World):Prop where
 st:∃ M own vs mk,GSt w wH w' p M own vs mk (fun _=>[]) (fun _=>0)/\mk 0=[]/\mk 1=[]/\M<=marksTo l c/\∀ i,i<4->(mk i).length<=M
theorem PakI.below {w wH w' w'':World} {p c:Nat} {l:List OpV} (h:PakI w wH p l c w') (f:Below w'.heap.size w' w''):PakI w wH p l c w'':=by
 obtain ⟨M,own,vs,mk,h1,h2⟩:=h.st
 exact ⟨M,own,vs,mk,h1.below f,h2⟩
theorem pak_six {w wH w':World} {p c:Nat} {l:List OpV} {o:OpV} (hc:(l.map fun o=>o.fl+1).sum<=1048588) (h:PakI w wH p l c w') (V:SoftG w w.heap.size) (hk:o.kind=6) (ho:l[c]?=some o) (hfl:o.fl<=1048576) (K:FilmK wH p o.f o.fl) :
  Calls Tryz.prog 15 #[.pointer (some ⟨p,0,none⟩),o.val] w' fun e w''=>e=.returned (.bool true)/\PakI w wH p l (c+1) w'':=by
 have hs:=marksTo_succ ho
 have hl:=marksTo_le l (c+1)
 obtain ⟨kd,s,c0,c1,c2,p0,p1,p2,b,bl,bc,ll,lll,lc,sz,f,fl,fc⟩:=o
 simp only at hk K hs hfl
 subst hk
 refine step_six (PakI w wH p l (c+1)) _ s c0 c1 c2 p0 p1 p2 _ _ sz _ w' (fun ox=>?_)
 have h':=h.below ((Below.refl w'.heap.size w').alloc (Nat.le_refl _) ox)
 obtain ⟨W,hW⟩:∃ W,W=w'.alloc ox:=⟨_,rfl⟩
 rw [<- hW] at h' ⊢
 obtain ⟨M,own,vs,mk,h1,h2,h3,h4,h5⟩:=h'.st
 refine (encodes_any h1 h5 V sz f fl fc hfl (by omega) K).mono ?_
 rintro e w'' ⟨rfl,M',g0,own',vs',mk',g1,g3,g4,g5⟩
 exact ⟨rfl,M',own',vs',mk',g1,g4.trans h2,g5.trans h3,by omega,g3⟩
theorem pak_start {w wH:World} {g:Nat} {s:ByteArray} {b0 b1 b2 b3 b4:Nat} {l:List OpV} (h:Opened (w.alloc world0) wH g s b0 b1 b2 b3 b4):PakI w wH w.heap.size l 0 wH:=by
 have hsz:=h.below.size
 rw [World.size_alloc] at hsz
 have k0:Below w.heap.size w wH:=((Below.refl _ _).alloc (Nat.le_refl _) _).trans (h.below.mono (by simp))
 have bk:=book0_new h.below
 have rn:∀ (o:Nat->Nat) (r:Nat),role o nilV r:=fun o r k hk=>by simp [nilV,Value.ownBlock] at hk
 have hb:BookAt wH w.heap.size 0 [nilV,nilV,nilV,nilV,nilV,nilV,nilV,nilV]:=by
  refine ⟨bk.c0,fun j v hv=>?_,rfl,bk.fz,by omega⟩
  match j,hv with
  | 0,hv=>simp at hv;subst hv;exact bk.c1
  | 1,hv=>simp at hv;subst hv;exact bk.c2
  | 2,hv=>simp at hv;subst hv;exact bk.c3
  | 3,hv=>simp at hv;subst hv;exact bk.c4
  | 4,hv=>simp at hv;subst hv;exact bk.c5
  | 5,hv=>simp at hv;subst hv;exact bk.c6
  | 6,hv=>simp at hv;subst hv;exact bk.c7
  | 7,hv=>simp at hv;subst hv;exact bk.c8
  | j+8,hv=>simp at hv
 refine ⟨0,fun k=>if k=w.heap.size then 0 else 1,[nilV,nilV,nilV,nilV,nilV,nilV,nilV,nilV],fun _=>[],?_,rfl,rfl,Nat.zero_le _,fun i _=>by simp⟩
 refine ⟨hb,fun i hi=>?_,fun i hi x hx=>by simp at hx,fun i hi x hx=>by simp at hx,fun t i x ht hx=>by simp at hx,fun t i x ht hx=>by simp at hx,fun t i x ht hx=>by simp at hx,by simp,fun k _ hne=>by simp [hne],Nat.le_refl _,fun _ _ _=>rfl,k0,rfl,by omega⟩
 have e1:[nilV,nilV,nilV,nilV,nilV,nilV,nilV,nilV].getD i nilV=nilV:=by
  rcases (show i=0 \/ i=1 \/ i=2 \/ i=3 \/ i=4 \/ i=5 \/ i=6 \/ i=7 by omega) with rfl|rfl|rfl|rfl|rfl|rfl|rfl|rfl <;> rfl
 have e2:els (fun _=>[]) (fun _=>[]) i=[]:=by unfold els;split;rfl;split <;> rfl
 rw [e1,e2]
 exact ⟨World.ownsRow_nil _ _ _ _,rn _ _⟩
theorem head_film {w wH:World} {g:Nat} {s:ByteArray} {b0 b1 b2 b3 b4:Nat} (h:Opened (w.alloc world0) wH g s b0 b1 b2 b3 b4):FilmK wH w.heap.size (some ⟨b4,0,none⟩) 1:=by
 have hlo:=h.lo
 rw [World.size_alloc] at hlo
 have o1:=h.o1
 have o2:=h.o2
 have o3:=h.o3
 have o4:=h.o4
 have o5:=h.o5
 have up:=h.up
 refine .inr ⟨_,blackF 1 16,rfl,fun wx hx=>.inr ⟨b4,0,rfl,fun j hj=>?_⟩,rfl,black_ok 1 16,fun j=>?_⟩
 ·have hj0:j=0:=by rw [blackF_len] at hj;omega
  subst hj0
  have c4:wx.cell? ⟨b4,0,none⟩=some (.slice (some ⟨b3,0,none⟩) 16 16):=cell_of_row _ _ 0 _ _ _ ((hx b4 (by omega) (by omega)).trans h.h4)
  refine ⟨some ⟨b3,0,none⟩,16,c4,.inr ⟨b3,0,rfl,fun k hk=>?_⟩⟩
  have hk':k<16:=hk
  have hc:∀ t,t<48->wx.cell? ⟨b3,t,none⟩=some (.int .u8 0):=fun t ht=>by
   rw [World.cell?_of_block (a:=⟨b3,t,none⟩) (hx b3 (by omega) (by omega)),World.ownsRow.cellAt h.h3 t (by omega),show (48:Nat)=16*3 from rfl,made_px 16]
   obtain ⟨x0,x1,x2⟩:=pxCells_get (List.replicate 16 (0,0,0)) (t / 3) (by simp;omega)
   have e:(List.replicate 16 ((0,0,0):Px)).getD (t / 3) (0,0,0)=(0,0,0):=by rw [List.getD_eq_getElem?_getD,List.getElem?_replicate];split <;> rfl
   rw [e] at x0 x1 x2
   have h3:t=t / 3*3 \/ t=t / 3*3+1 \/ t=t / 3*3+2:=by omega
   rcases h3 with h3|h3|h3 <;> rw [h3] <;> assumption
  have e:((blackF 1 16).getD 0 []).getD k (0,0,0)=(0,0,0):=by
   rw [blackF_get 1 16 0 (by decide),List.getD_eq_getElem?_getD,List.getElem?_replicate];split <;> rfl
  rw [e]
  exact ⟨hc _ (by omega),hc _ (by omega),hc _ (by omega)⟩
 ·by_cases hj:j<1
  ·rw [blackF_get 1 16 j hj,List.length_replicate];decide
  ·rw [List.getD_eq_getElem?_getD,List.getElem?_eq_none (by rw [blackF_len];omega)];simp
theorem pak_player (w wH:World) (g:Nat) (s:ByteArray) (b0 b1 b2 b3 b4:Nat) (len:Nat) (ops:List OpV) (hops:∀ o ∈ ops,FilmV w o.f o.fl) (hsum:(ops.map fun o=>o.fl+1).sum<=1048576) (V:SoftG w w.heap.size) (h:Opened (w.alloc world0) wH g s b0 b1 b2 b3 b4) :
  PlayerP 6 6 w w.heap.size g (11+len) (headOps s b0 b1 b2 b4) ops (PakI w wH w.heap.size (headOps s b0 b1 b2 b4++ops)):=by
 have hlo:=h.lo
 rw [World.size_alloc] at hlo
 have o1:=h.o1
 have o2:=h.o2
 have o3:=h.o3
 have o4:=h.o4
 have o5:=h.o5
 have hsz:=h.below.size
 rw [World.size_alloc] at hsz
 have k0:Below w.heap.size w wH:=((Below.refl _ _).alloc (Nat.le_refl _) _).trans (h.below.mono (by simp))
 have hall:((headOps s b0 b1 b2 b4++ops).map fun o=>o.fl+1).sum<=1048588:=by
  rw [List.map_append,List.sum_append]
  have:((headOps s b0 b1 b2 b4).map fun o=>o.fl+1).sum=12:=rfl
  omega
 refine ⟨fun c w' hw=>?_,fun c w' hw=>?_,fun c w' o hw=>hw.below ((Below.refl _ _).alloc (Nat.le_refl _) _),fun c w' hw=>?_,fun c w' o hc hw ho h1 h2=>?_,fun c w' hc hw=>?_,fun c w' hc hw=>?_⟩
 ·obtain ⟨M,own,vs,mk,g1,_⟩:=hw.st
  exact g1.bel
 ·obtain ⟨M,own,vs,mk,g1,_⟩:=hw.st
  exact (g1.kept g h.up (by omega)).trans h.hg
 ·obtain ⟨M,own,vs,mk,g1,g2,g3,g4,g5⟩:=hw.st
  exact ⟨M,own,vs,mk,g1,g2,g3,Nat.le_trans g4 (marksTo_mono _ c),g5⟩
 ·have hk:o.kind=6:=by omega
  rcases List.mem_append.1 (List.mem_of_getElem? ho) with hm|hm
  ·simp only [headOps,List.mem_cons,List.not_mem_nil,or_false] at hm
   rcases hm with rfl|rfl|rfl|rfl|rfl|rfl|rfl|rfl|rfl|rfl|rfl
   case inr.inr.inr.inr.inr.inr.inr.inr.inr.inl=>exact pak_six hall hw V hk ho (show (1:Nat)<=1048576 by decide) (head_film h)
   all_goals exact pak_six hall hw V hk ho (Nat.zero_le _) (.inl ⟨rfl,rfl⟩)
  ·have:=mem_sum (List.mem_map.2 ⟨o,hm,rfl⟩:o.fl+1 ∈ ops.map fun o=>o.fl+1)
   exact pak_six hall hw V hk ho (by omega) ((hops o hm).kept k0 (by omega))
 ·obtain ⟨M,own,vs,mk,g1,g2,g3,g4,g5⟩:=hw.st
  refine (settle_e w wH w' _ M own vs mk g1).mono ?_
  rintro e w'' ⟨rfl,vs',q1⟩
  exact ⟨rfl,⟨M,own,vs',mk,q1,g2,g3,g4,g5⟩⟩
 ·obtain ⟨M,own,vs,mk,g1,g2,g3,g4,g5⟩:=hw.st
  have hle:=marksTo_le (headOps s b0 b1 b2 b4++ops) c
  have k2:=g5 2 (by decide)
  have k3:=g5 3 (by decide)
  refine (looks_g w wH w' _ M own vs mk _ _ g1 g2 g3 (by omega) (by omega)).mono ?_
  rintro e w'' ⟨rfl,q1⟩
  exact ⟨rfl,hw.below q1⟩
theorem packs_any (w:World) (a:Option Addr) (len cap:Nat) (ops:List OpV) (hs:Script w a len ops) (hl:len<=1048576) (hops:∀ o ∈ ops,FilmV w o.f o.fl) (hsum:(ops.map fun o=>o.fl+1).sum<=1048576) (V:SoftG w w.heap.size) :
  Calls Tryz.prog 6 #[.slice a len cap] w fun e w'=>e=.returned (.bool true)/\Below w.heap.size w w':=by
 have H:=plays_pos 6 6 w a len cap ops hs (by unfold maxLen;omega) (fun wH g s b0 b1 b2 b3 b4 h=>⟨_,pak_start h,pak_player w wH g s b0 b1 b2 b3 b4 len ops hops hsum V h⟩)
 go_enter Tryz.func6,Tryz.ntmps6
 go_wp2_with (go_at_call 9;refine H.mono ?_;rintro e w1 ⟨rfl,hb1⟩)
 go_ret
 exact ⟨rfl,hb1⟩
end
end Go.Proofs.YtekfbphnoibnjaaGreatDoor
