/-
  Chances Chances2 Build LWr LWr2 LCrs
-/
import Derived.Test.YtekfbphnoibnjaaGreatDoorG15
set_option maxHeartbeats 4000000
namespace Go.Proofs.YtekfbphnoibnjaaGreatDoor
section
open Go.RowKit
structure ChAt (w:World) (b o:Nat) (ch:List Int):Prop where
 len:ch.length=400
 cell:∀ k,k<400->w.cell? ⟨b,o+k,none⟩=some (.int .u32 (ch.getD k 0))
 fz:∀ k,k<400->w.frozen? ⟨b,o+k,none⟩=false
theorem chInfo:(Tryz.prog.info? 145).map (fun i=>(i.zero,i.size))=some (some (.agg (Array.replicate 400 (.int .u32 0))),400):=by kernel_rfl
def chRowN (N k:Nat):Array Value:=(List.replicate k (Value.int .u32 2048)++List.replicate (N-k) (Value.int .u32 0)).toArray
theorem chRowN_zero (N:Nat):chRowN N 0=Array.replicate N (.int .u32 0):=by unfold chRowN;simp
theorem chRowN_set (N k:Nat) (h:k<N):(chRowN N k).setIfInBounds k (.int .u32 2048)=chRowN N (k+1):=by
 unfold chRowN
 simp only [List.setIfInBounds_toArray]
 congr 1
 rw [List.set_append_right _ _ (by simp),show N-k=(N-(k+1))+1 by omega,List.replicate_succ,List.length_replicate,Nat.sub_self,List.set_cons_zero,List.replicate_succ' (n:=k)]
 simp
theorem chRowN_get (N k:Nat) (j:Nat) (hj:j<N):∃ c,(chRowN N k)[j]?=some (.int .u32 c):=by
 unfold chRowN
 simp only [List.getElem?_toArray,List.getElem?_append,List.length_replicate,List.getElem?_replicate]
 split
 ·exact ⟨2048,rfl⟩
 ·exact ⟨0,by rw [if_pos (by omega)]⟩
theorem chRowN_full (N:Nat):chRowN N N=Array.replicate N (.int .u32 2048):=by unfold chRowN;simp
def chRow (k:Nat):Array Value:=chRowN 400 k
theorem chRow_zero:chRow 0=Array.replicate 400 (.int .u32 0):=chRowN_zero 400
theorem chRow_set (k:Nat) (h:k<400):(chRow k).setIfInBounds k (.int .u32 2048)=chRow (k+1):=chRowN_set 400 k h
theorem chRow_get (k:Nat) (j:Nat) (hj:j<400):∃ c,(chRow k)[j]?=some (.int .u32 c):=chRowN_get 400 k j hj
def evens (N:Nat):Array Value:=Array.replicate N (.int .u32 2048)
theorem evens_size (N:Nat):(evens N).size=N:=by unfold evens;simp
theorem evens_one (N:Nat):(evens N).all (·.oneCell')=true:=by
 unfold evens
 rw [Array.all_eq_true_iff_forall_mem]
 intro x hx
 simp at hx
 rw [hx.2];rfl
theorem evens_get (N k:Nat) (h:k<N):(evens N)[k]?=some (.int .u32 2048):=by unfold evens;simp [h]
def chEven:Array Value:=evens 400
theorem chRow_full:chRow 400=chEven:=chRowN_full 400
theorem below_setCells (B b:Nat) (hb:B<=b):∀ (vs:List Value) (o:Nat) {w v:World},Below B w v->Below B w (v.setCells b o vs)
 | [],_,_,_,h=>h
 | _ :: r,o,_,_,h=>below_setCells B b hb r (o+1) (h.setCell hb _)
set_option maxRecDepth 20000 in
theorem newChances (w:World) :
  Calls Tryz.prog 84 #[] w fun e w'=>e=.returned (.agg chEven)/\Below w.heap.size w w':=by
 obtain ⟨hzero,hsize⟩:=zero_of_info chInfo
 have HSZ:Hid ((Tryz.prog.info? 145).map (·.size)=some 400):=hsize
 clear hsize
 go_enter Tryz.func84,Tryz.ntmps84
 go_wp2
 rw [<- chRow_zero]
 obtain ⟨w1,hw1⟩:∃ w1,w1=w.alloc (Obj.cells (chRow 0) 145):=⟨_,rfl⟩
 rw [<- hw1]
 have hs1:w1.heap.size=w.heap.size+1:=by rw [hw1];simp
 have HW:Hid (w1=w.alloc (Obj.cells (chRow 0) 145)):=hw1
 clear hw1 hzero
 rw [<- hs1]
 go_loopw [3] (fun i wr=>∃ k:Nat,k<=400/\i=.int .i64 k/\wr=w1.alloc (Obj.cells (chRow k) 145)) (fun i _=>400-(intOf i).toNat)
 case atStart=>exact ⟨0,by omega,rfl,rfl⟩
 case round =>
  obtain ⟨k,hk,rfl,rfl⟩:=hrel
  by_cases hlt:k<400
  ·have hlt':(k:Int)<400:=by omega
   obtain ⟨c0,hc⟩:=chRow_get k k hlt
   have hset:=chRow_set k hlt
   go_wp2
   go_roundw
   case rel=>exact ⟨k+1,by omega,by go_num,rfl⟩
   case measure=>simp [intOf];omega
  ·obtain rfl:k=400:=by omega
   obtain ⟨W,hW⟩:∃ W,W=w1.alloc (Obj.cells (chRow 400) 145):=⟨_,rfl⟩
   rw [<- hW]
   have HR:Hid (W.rangeAt w1.heap.size 0 chEven.toList):=by
    intro j v hv
    rw [<- chRow_full] at hv
    rw [hW,cell_of_row _ _ (0+j) (chRow 400) 145 (0,0) (heap_alloc_last w1 _)]
    simpa using hv
   have HT:Hid (W.there w.heap.size 0 400):=by
    intro j hj
    have hb:w.heap.size<w1.heap.size:=by omega
    obtain ⟨c,hc⟩:=chRow_get 0 j hj
    have hcell:w1.cell? ⟨w.heap.size,0+j,none⟩=some (.int .u32 c):=by
     rw [HW.out,cell_of_row _ _ (0+j) (chRow 0) 145 (0,0) (heap_alloc_last w _)]
     simpa using hc
    rw [hW]
    refine ⟨?_,?_⟩
    ·rw [World.cell?_alloc_lt _ _ _ hb,hcell];rfl
    ·rw [World.frozen?_alloc_past _ _ _ hb,HW.out];simp
   have HB:Hid (Below w.heap.size w W):=by
    rw [hW,HW.out]
    exact (((Below.refl _ w).alloc (Nat.le_refl _) _).alloc (by simp) _)
   clear hW
   go_wp2
   refine wp_load_mid 145 (.tmp 1) rfl w1.heap.size 0 rfl chEven.toList _ HR.out Tryz.underlying145 rfl ?hsz ?_
   case hsz=>rw [HSZ.out];simp only [Array.length_toList];rw [chEven,evens_size]
   rename_i hK
   apply hK
   clear hK
   rw [Array.toArray_toList]
   have hcs:chEven.size=400:=evens_size 400
   go_wp2
   have hsc:=run_storeCells_cells (P:=Tryz.prog) w.heap.size 0 chEven.toList 0 W (fun j hj=>by simpa using (HT.out j (by rw [Array.length_toList,chEven,evens_size] at hj;exact hj)).1) (fun j hj=>by simpa using (HT.out j (by rw [Array.length_toList,chEven,evens_size] at hj;exact hj)).2)
    (fun v hv=>(Array.all_eq_true_iff_forall_mem.1 (evens_one 400)) v (Array.mem_toList_iff.1 hv))
   simp only [Nat.add_zero] at hsc
   simp only [hsc,Result.andThen]
   rw [Oper.upon_skip]
   go_wp2
   (try simp only [Exit.inBlock,Exit.then])
   have hld:=run_loadVar_mid (P:=Tryz.prog) (W.setCells w.heap.size 0 chEven.toList) w.heap.size 0 145 chEven.toList _ (World.rangeAt_setCells_same _ _ _ _ (by rw [Array.length_toList,chEven,evens_size];exact HT.out)) Tryz.underlying145 rfl (by rw [HSZ.out];simp only [Array.length_toList];rw [chEven,evens_size])
   refine bodyPost_ret (v:=.agg chEven) ?_ rfl ⟨rfl,below_setCells _ _ (Nat.le_refl _) _ _ HB.out⟩
   rw [Array.toArray_toList] at hld
   simp [results,Tryz.results84,Act.put,asAddr,hld]
end
section
open Go.RowKit
theorem ChAt.set {w:World} {b o:Nat} {ch:List Int} (h:ChAt w b o ch) (k:Nat) (v:Int):ChAt (w.setCell ⟨b,o+k,none⟩ (.int .u32 v)) b o (ch.set k v):=by
 refine ⟨by rw [List.length_set];exact h.len,fun j hj=>?_,fun j hj=>by rw [World.frozen?_setCell];exact h.fz j hj⟩
 rw [Rdr.getD_set]
 by_cases e:k=j
 ·subst e
  rw [if_pos ⟨rfl,by rw [h.len];exact hj⟩]
  exact World.cell?_setCell_same _ _ _ (h.cell k hj)
 ·rw [if_neg (fun h'=>e h'.1)]
  exact cell_off (h.cell j hj) (.inr (by omega))
theorem ChAt.off {w:World} {b o:Nat} {ch:List Int} (h:ChAt w b o ch) {b' o':Nat} {v:Value} (hne:b' ≠ b \/ o'<o \/ o+400<=o'):ChAt (w.setCell ⟨b',o',none⟩ v) b o ch :=
 ⟨h.len,fun j hj=>cell_off (h.cell j hj) (by omega),fun j hj=>by rw [World.frozen?_setCell];exact h.fz j hj⟩
theorem ChAt.on {w w':World} {b o:Nat} {ch:List Int} (h:ChAt w b o ch) (hb:w'.heap[b]?=w.heap[b]?):ChAt w' b o ch :=
 ⟨h.len,fun j hj=>(World.cell?_of_block (a:=⟨b,o+j,none⟩) hb).trans (h.cell j hj),fun j hj=>(World.frozen?_of_block (a:=⟨b,o+j,none⟩) hb).trans (h.fz j hj)⟩
theorem wrap_u32 {x:Int} (h0:0<=x) (h1:x<=4294967295):IntKind.u32.wrap x=x:=by
 simp [IntKind.wrap,IntKind.bits,IntKind.signed]
 omega
set_option maxRecDepth 20000 in
theorem chCut (w:World) (b o:Nat) (k:Nat) (R c:Int) (hk:k<400) (hc:w.cell? ⟨b,o+k,none⟩=some (.int .u32 c)) (R0:0<=R) (R1:R<=4294967295) (m1:R / 4096*c<=4294967295) (m0:0<=R / 4096*c) :
  Calls Tryz.prog 143 #[.pointer (some ⟨b,o,none⟩),.int .u32 R,.int .i64 k] w fun e w'=>e=.returned (.int .u32 (R / 4096*c))/\w'=w:=by
 have hk':(k:Int)<400:=by omega
 go_enter Tryz.func143,Tryz.ntmps143
 go_wp2
 go_ret
 exact ⟨rfl,rfl⟩
set_option maxRecDepth 20000 in
theorem chLearn0 (w:World) (b o:Nat) (k:Nat) (c:Int) (hk:k<400) (hc:w.cell? ⟨b,o+k,none⟩=some (.int .u32 c)) (hf:w.frozen? ⟨b,o+k,none⟩=false) (c0:31<=c) (c1:c<=4065) :
  Calls Tryz.prog 144 #[.pointer (some ⟨b,o,none⟩),.int .i64 k,.int .i64 0] w fun e w'=>e=.returned (.tuple #[])/\w'=(w.setCell ⟨b,o+k,none⟩ (.int .u32 (c+(4096-c) / 32))).drew:=by
 have hk':(k:Int)<400:=by omega
 go_enter Tryz.func144,Tryz.ntmps144
 go_wp2
 go_region
 go_end0
 exact ⟨rfl,rfl⟩
set_option maxRecDepth 20000 in
theorem chLearn1 (w:World) (b o:Nat) (k:Nat) (c:Int) (hk:k<400) (hc:w.cell? ⟨b,o+k,none⟩=some (.int .u32 c)) (hf:w.frozen? ⟨b,o+k,none⟩=false) (c0:31<=c) (c1:c<=4065) :
  Calls Tryz.prog 144 #[.pointer (some ⟨b,o,none⟩),.int .i64 k,.int .i64 1] w fun e w'=>e=.returned (.tuple #[])/\w'=(w.setCell ⟨b,o+k,none⟩ (.int .u32 (c-c / 32))).drew:=by
 have hk':(k:Int)<400:=by omega
 go_enter Tryz.func144,Tryz.ntmps144
 go_wp2
 go_region
 go_end0
 exact ⟨rfl,rfl⟩
end
section
open Go.RowKit
def laidAt (cs:Array Value) (o:Nat) (xs:Array Value):Array Value:=Array.foldl (fun cs x=>cs.setIfInBounds (o+x.snd) x.fst) cs xs.zipIdx 0 xs.size
theorem foldl_laid (o:Nat):∀ (xs:List Value) (n:Nat) (cs:Array Value),((xs.zipIdx n).foldl (fun cs x=>cs.setIfInBounds (o+x.snd) x.fst) cs).size=cs.size /\
  ∀ j,((xs.zipIdx n).foldl (fun cs x=>cs.setIfInBounds (o+x.snd) x.fst) cs)[j]?=if o+n<=j/\j<o+n+xs.length/\j<cs.size then xs[j-(o+n)]? else cs[j]?
 | [],n,cs=>⟨rfl,fun j=>by simp;intro h1 h2;omega⟩
 | x :: xs,n,cs=>by
  obtain ⟨h1,h2⟩:=foldl_laid o xs (n+1) (cs.setIfInBounds (o+n) x)
  rw [List.zipIdx_cons,List.foldl_cons]
  refine ⟨by rw [h1];simp,fun j=>?_⟩
  rw [h2 j]
  by_cases e:j=o+n
  ·subst e
   rw [if_neg (by omega)]
   by_cases hl:o+n<cs.size
   ·rw [if_pos ⟨by omega,by simp,hl⟩,Array.getElem?_setIfInBounds_self_of_lt hl];simp
   ·rw [if_neg (fun h=>hl h.2.2)]
    rw [Array.getElem?_eq_none (by simp;omega),Array.getElem?_eq_none (by omega)]
  ·rw [Array.getElem?_setIfInBounds_ne (fun h=>e h.symm)]
   by_cases hl:o+(n+1)<=j/\j<o+(n+1)+xs.length/\j<cs.size
   ·rw [if_pos (by simpa using hl),if_pos (by simp;omega),show j-(o+n)=(j-(o+(n+1)))+1 by omega,List.getElem?_cons_succ]
   ·rw [if_neg (by simpa using hl),if_neg (by simp;omega)]
theorem laidAt_eq (cs:Array Value) (o:Nat) (xs:Array Value):laidAt cs o xs=(xs.toList.zipIdx 0).foldl (fun cs x=>cs.setIfInBounds (o+x.snd) x.fst) cs:=by
 unfold laidAt
 rw [show xs.size=xs.zipIdx.size by simp,<- Array.foldl_toList,Array.toList_zipIdx]
theorem laidAt_size (cs:Array Value) (o:Nat) (xs:Array Value):(laidAt cs o xs).size=cs.size:=by rw [laidAt_eq];exact (foldl_laid o xs.toList 0 cs).1
theorem laidAt_get (cs:Array Value) (o:Nat) (xs:Array Value) (j:Nat):(laidAt cs o xs)[j]?=if o<=j/\j<o+xs.size/\j<cs.size then xs[j-o]? else cs[j]?:=by
 rw [laidAt_eq,(foldl_laid o xs.toList 0 cs).2 j]
 simp
def crsEven:Array Value:=#[Value.int .u32 4294967295]++chEven
theorem crsEven_size:crsEven.size=401:=by unfold crsEven;rw [Array.size_append,show chEven.size=400 from evens_size 400];rfl
theorem crsInfo:(Tryz.prog.info? 147).map (fun i=>(i.zero,i.size))=some (some (.agg (#[.int .u32 0]++Array.replicate 400 (.int .u32 0))),401):=by kernel_rfl
theorem lwInfo:(Tryz.prog.info? 211).map (fun i=>(i.zero,i.size))=some (some (.agg ((#[.int .u32 0]++Array.replicate 400 (.int .u32 0))++#[.slice none 0 0,.int .u32 0])),403):=by kernel_rfl
theorem crs_laid (w:World) (Z:Array Value) (t:TypeId) (hZ:Z.size=403):ChAt (w.alloc (.cells (laidAt Z 0 crsEven) t)) w.heap.size 1 ch0:=by
 have hcs:=crsEven_size
 refine ⟨List.length_replicate,fun k hk=>?_,fun k hk=>?_⟩
 ·rw [cell_of_row _ _ (1+k) _ t (0,0) (heap_alloc_last w _),laidAt_get,if_pos ⟨by omega,by omega,by omega⟩,ch0_get k hk]
  unfold crsEven
  rw [Array.getElem?_append_right (by simp)]
  rw [show 1+k-0-(#[Value.int .u32 4294967295]:Array Value).size=k by simp]
  exact evens_get 400 k hk
 ·simp
theorem crs_laid0 (w:World) (Z:Array Value) (t:TypeId) (hZ:Z.size=403):(w.alloc (.cells (laidAt Z 0 crsEven) t)).cell? ⟨w.heap.size,0,none⟩=some (.int .u32 4294967295):=by
 have hcs:=crsEven_size
 rw [cell_of_row _ _ 0 _ t (0,0) (heap_alloc_last w _),laidAt_get,if_pos ⟨by omega,by omega,by omega⟩]
 unfold crsEven
 rw [Array.getElem?_append_left (by simp)]
 rfl
theorem crs_laid2 (w:World) (Z:Array Value) (t:TypeId) (j:Nat) (hj:401<=j):(w.alloc (.cells (laidAt Z 0 crsEven) t)).cell? ⟨w.heap.size,j,none⟩=Z[j]?:=by
 have hcs:=crsEven_size
 rw [cell_of_row _ _ j _ t (0,0) (heap_alloc_last w _),laidAt_get,if_neg (by omega)]
end
section
open Go.RowKit
theorem infoU8:(Tryz.prog.info? 5).map (fun i=>(i.zero,i.size,i.bytes))=some (some (.int .u8 0),1,1):=by kernel_rfl
def octs (zs:List Int):List Value:=zs.map (Value.int .u8)
theorem octs_set (zs:List Int) (k:Nat) (v:Int):(octs zs).set k (.int .u8 v)=octs (zs.set k v):=by simp [octs,List.map_set]
theorem octs_get (zs:List Int) (k:Nat) (h:k<zs.length):(octs zs)[k]?=some (.int .u8 (zs.getD k 0)):=by simp [octs,h]
theorem octs_snoc (zs:List Int) (z:Int):octs zs++[.int .u8 z]=octs (zs++[z]):=by simp [octs]
def Octs (w:World) (B:Nat) (v:Value) (zs:List Int):Prop:=w.ownsRow B 5 1 v zs.length (octs zs)
theorem digs_last (i:Nat) (y:Int) (z:List Int):(Pack.digs (i+1) y++z).getD i 0=y % 256:=by
 rw [Pack.digs,List.append_assoc,List.getD_eq_getElem?_getD,List.getElem?_append_right (by rw [Pack.digs_length];exact Nat.le_refl _),Pack.digs_length,Nat.sub_self]
 rfl
theorem digs_setLast (i:Nat) (y d:Int) (z:List Int):(Pack.digs (i+1) y++z).set i d=Pack.digs i (y / 256)++(d :: z):=by
 rw [Pack.digs,List.append_assoc,List.set_append_right _ _ (by rw [Pack.digs_length];exact Nat.le_refl _),Pack.digs_length,Nat.sub_self]
 rfl
def ownS (v:Value):Nat->Prop:=fun k=>v.ownBlock=some k
theorem u8_up (d:Int) (h0:0<=d) (h1:d<255):IntKind.u8.wrap (d+1)=d+1:=by rw [IntKind.wrap_u8];omega
set_option maxRecDepth 20000 in
theorem pCarry (w:World) (B b m:Nat) (v:Value) (x:Int) (hm:m<=1000000) (h0:w.cell? ⟨b,401,none⟩=some v) (ho:Octs w B v (Pack.digs m x)) (hb:v.ownBlock ≠ some b) :
  Calls Tryz.prog 146 #[.pointer (some ⟨b,0,none⟩)] w fun e w'=>e=.returned (.tuple #[])/\Octs w' B v (Pack.digs m (x+1))/\Frm (ownS v) w w':=by
 have hl:(Pack.digs m x).length=m:=Pack.digs_length m x
 unfold Octs at ho
 rw [hl] at ho
 obtain ⟨a,cap,rfl,hav⟩:∃ a cap,v=.slice a m cap/\(m=0 \/ ∃ g,a=some ⟨g,0,none⟩/\g ≠ b):=by
  rcases ho.2 with ⟨rfl,h⟩|⟨g,cap,cur,rfl,_⟩
  ·exact ⟨none,0,by rw [h],.inl h⟩
  ·exact ⟨_,cap,rfl,.inr ⟨g,rfl,fun e=>hb (by rw [e];rfl)⟩⟩
 have H0:Hid (w.cell? ⟨b,401,none⟩=some (.slice a m cap)):=h0
 go_enter Tryz.func146,Tryz.ntmps146
 go_wp2
 go_loopw [2] (fun i wr=>∃ k:Nat,∃ y:Int,k<=m/\i=.int .i64 ((k:Int)-1)/\wr.ownsRow B 5 1 (.slice a m cap) m (octs (Pack.digs k y++List.replicate (m-k) 0))/\Pack.digs m (x+1)=Pack.digs k (y+1)++List.replicate (m-k) 0/\Frm (ownS (.slice a m cap)) w wr) (fun i _=>(intOf i+1).toNat)
 case atStart=>exact ⟨m,x,Nat.le_refl _,rfl,by simp;exact ho,by simp,Frm.refl _ _⟩
 case round =>
  obtain ⟨k,y,hk,rfl,hown,heq,hfr⟩:=hrel
  have HEQ:Hid (Pack.digs m (x+1)=Pack.digs k (y+1)++List.replicate (m-k) 0):=heq
  clear heq
  have h0:wr.cell? ⟨b,401,none⟩=some (.slice a m cap):=hfr.cell H0.out (fun h=>hb h)
  cases k with
  | zero =>
   go_wp2
   go_end0
   refine ⟨rfl,?_,hfr⟩
   unfold Octs
   rw [Pack.digs_length,HEQ.out]
   exact hown
  | succ k =>
   obtain ⟨g,rfl,hgb⟩:∃ g,a=some ⟨g,0,none⟩/\g ≠ b:=by
    rcases hav with h|h
    ·omega
    ·exact h
   obtain ⟨d,hd⟩:∃ d,d=y % 256:=⟨_,rfl⟩
   have d0:0<=d:=by omega
   have d1:d<=255:=by omega
   have hlk:(Pack.digs (k+1) y++List.replicate (m-(k+1)) 0).length=m:=by rw [List.length_append,Pack.digs_length,List.length_replicate];omega
   have hck:wr.cell? ⟨g,k,none⟩=some (.int .u8 d):=by
    rw [World.ownsRow.cellAt hown k (by omega),octs_get _ _ (by rw [hlk];omega),digs_last,hd]
   have hfk:wr.frozen? ⟨g,k,none⟩=false:=World.ownsRow.frozenAt hown k
   have hst:∀ u:Int,Hid ((wr.setCell ⟨g,k,none⟩ (.int .u8 u)).ownsRow B 5 1 (.slice (some ⟨g,0,none⟩) m cap) m (octs (Pack.digs k (y / 256)++(u :: List.replicate (m-(k+1)) 0)))):=fun u=>by
    have:=(World.ownsRow.stored hown k (.int .u8 u)).1
    rw [octs_set,digs_setLast] at this
    exact this
   have hfr2:∀ u:Int,Hid (Frm (ownS (.slice (some ⟨g,0,none⟩) m cap)) w (wr.setCell ⟨g,k,none⟩ (.int .u8 u))):=fun u=>hfr.setCell (p:=⟨g,k,none⟩) (.inl (show ownS (.slice (some ⟨g,0,none⟩) m cap) g from rfl)) _
   have HD:Hid (d=y % 256):=hd
   have hkm:(k:Int)<(m:Int):=by omega
   have hgb':b ≠ g:=fun e=>hgb e.symm
   rw [show (((k+1:Nat):Int)-1)=(k:Int) by omega]
   clear hd hown hfr hlk
   by_cases h255:d=255
   ·subst h255
    go_wp2
    go_roundw
    case rel =>
     refine ⟨k,y / 256,by omega,by go_num,?_,?_,(hfr2 0).out⟩
     ·have:=(hst 0).out
      rw [show m-k=(m-(k+1))+1 by omega,List.replicate_succ]
      exact this
     ·rw [HEQ.out,show m-k=(m-(k+1))+1 by omega,List.replicate_succ,Pack.digs]
      have:=HD.out
      rw [show (y+1) / 256=y / 256+1 by omega,show (y+1) % 256=0 by omega]
      simp
    case measure=>simp [intOf]
   ·have hu:=u8_up d d0 (by omega)
    have hne0:((d+1:Int) == 0)=false:=by simp;omega
    go_wp2
    refine bodyPost_ret (results_none rfl _ _ _) rfl ?_
    refine ⟨rfl,?_,(hfr2 (d+1)).out⟩
    unfold Octs
    rw [Pack.digs_length,HEQ.out,Pack.digs]
    have hdd:=HD.out
    rw [show (y+1) / 256=y / 256 by omega,show (y+1) % 256=d+1 by omega,List.append_assoc]
    exact (hst (d+1)).out
end
section
open Go.RowKit
structure PW (w:World) (B b:Nat) (v:Value) (t:WS):Prop where
 c0:w.cell? ⟨b,401,none⟩=some v
 own:Octs w B v (Pack.digs t.m (t.n / 4294967296))
 ne:v.ownBlock ≠ some b
 c1:w.cell? ⟨b,402,none⟩=some (.int .u32 (t.n % 4294967296))
 c2:w.cell? ⟨b,0,none⟩=some (.int .u32 t.rng)
 fz:∀ o,o<403->w.frozen? ⟨b,o,none⟩=false
 ch:ChAt w b 1 t.ch
 up:b<w.heap.size
theorem Octs.set {w:World} {B:Nat} {v:Value} {zs:List Int} (h:Octs w B v zs) (b o:Nat) (u:Value) (hb:v.ownBlock ≠ some b):Octs (w.setCell ⟨b,o,none⟩ u) B v zs:=by
 unfold Octs at *
 exact h.kept (grown_setCell w b o u) (.inr hb)
theorem PW.drewN {w:World} {B b:Nat} {v:Value} {t:WS} (h:PW w B b v t) (n:Nat):PW (w.drewN n) B b v t:=⟨h.c0,h.own,h.ne,h.c1,h.c2,h.fz,h.ch.on rfl,h.up⟩
theorem PW.drew {w:World} {B b:Nat} {v:Value} {t:WS} (h:PW w B b v t):PW w.drew B b v t:=⟨h.c0,h.own,h.ne,h.c1,h.c2,h.fz,h.ch.on rfl,h.up⟩
def wS (b:Nat) (v:Value):Nat->Prop:=fun k=>k=b \/ v.ownBlock=some k
theorem pAdd32 (w:World) (x y:Int) (x0:0<=x) (x1:x<=4294967295) (y0:0<=y) (y1:y<=4294967295) :
  Calls Tryz.prog 145 #[.int .u32 x,.int .u32 y,.int .u32 0] w fun e w'=>e=.returned (.tuple #[.int .u32 ((x+y) % 4294967296),.int .u32 ((x+y) / 4294967296)])/\w'=w:=by
 go_enter Tryz.func145,Tryz.ntmps145
 go_wp2
 go_ret2
 exact ⟨rfl,rfl⟩
set_option maxRecDepth 20000 in
theorem pRaise (w:World) (B b:Nat) (v:Value) (t:WS) (c:Int) (hm:t.m<=1000000) (h:PW w B b v t) (c0:0<=c) (c1:c<=4294967295) :
  Calls Tryz.prog 118 #[.pointer (some ⟨b,0,none⟩),.int .u32 c] w fun e w'=>e=.returned (.tuple #[])/\PW w' B b v { t with n:=t.n+c }/\Frm (wS b v) w w':=by
 have i1:=h.c1
 have f1:=h.fz 402 (by decide)
 obtain ⟨L,hL⟩:∃ L,L=t.n % 4294967296:=⟨_,rfl⟩
 rw [<- hL] at i1
 have L0:0<=L:=by omega
 have L1:L<=4294967295:=by omega
 have HL:Hid (L=t.n % 4294967296):=hL
 have HH:Hid (PW w B b v t):=h
 clear hL h
 by_cases hov:L+c<4294967296
 ·have e1:(L+c) % 4294967296=L+c:=by omega
  have e2:(L+c) / 4294967296=0:=by omega
  go_enter Tryz.func118,Tryz.ntmps118
  go_wp2_with (go_at_call 145;refine (pAdd32 _ L c L0 L1 c0 c1).mono ?_;rintro e w1 ⟨rfl,rfl⟩;rw [e1,e2])
  go_end0
  have hl:=HL.out
  have h:=HH.out
  refine ⟨rfl,⟨cell_off h.c0 (.inr (by decide)),?_,h.ne,?_,cell_off h.c2 (.inr (by decide)),fun o ho=>by rw [World.frozen?_setCell];exact h.fz o ho,h.ch.off (.inr (.inr (by decide))),by rw [World.size_setCell];exact h.up⟩,(Frm.refl (wS b v) w1).setCell (.inl (show wS b v b from .inl rfl)) _⟩
  ·show Octs _ B v (Pack.digs t.m ((t.n+c) / 4294967296))
   rw [show (t.n+c) / 4294967296=t.n / 4294967296 by omega]
   exact h.own.set b 402 _ h.ne
  ·show _=some (Value.int .u32 ((t.n+c) % 4294967296))
   rw [show (t.n+c) % 4294967296=L+c by omega]
   exact World.cell?_setCell_same _ _ _ h.c1
 ·have e1:(L+c) % 4294967296=L+c-4294967296:=by omega
  have e2:(L+c) / 4294967296=1:=by omega
  have hc0:(w.setCell ⟨b,402,none⟩ (.int .u32 (L+c-4294967296))).cell? ⟨b,401,none⟩=some v:=cell_off HH.out.c0 (.inr (by decide))
  have ho:Octs (w.setCell ⟨b,402,none⟩ (.int .u32 (L+c-4294967296))) B v (Pack.digs t.m (t.n / 4294967296)):=HH.out.own.set b 402 _ HH.out.ne
  have HC:Hid ((w.setCell ⟨b,402,none⟩ (.int .u32 (L+c-4294967296))).cell? ⟨b,401,none⟩=some v/\Octs (w.setCell ⟨b,402,none⟩ (.int .u32 (L+c-4294967296))) B v (Pack.digs t.m (t.n / 4294967296))):=⟨hc0,ho⟩
  clear hc0 ho
  go_enter Tryz.func118,Tryz.ntmps118
  go_wp2_with (first
   | (go_at_call 145;refine (pAdd32 _ L c L0 L1 c0 c1).mono ?_;rintro e w1 ⟨rfl,rfl⟩;rw [e1,e2])
   | (go_at_call 146;refine (pCarry _ B b t.m v _ hm HC.out.1 HC.out.2 HH.out.ne).mono ?_;rintro e w2 ⟨rfl,ho2,hf2⟩))
  go_end0
  have hl:=HL.out
  have h:=HH.out
  have hnb:¬ ownS v b:=fun e=>h.ne e
  have hbk:w2.heap[b]?=(w1.setCell ⟨b,402,none⟩ (.int .u32 (L+c-4294967296))).heap[b]?:=hf2.block b (by rw [World.size_setCell];exact h.up) hnb
  have hcc:∀ o,w2.cell? ⟨b,o,none⟩=(w1.setCell ⟨b,402,none⟩ (.int .u32 (L+c-4294967296))).cell? ⟨b,o,none⟩:=fun o=>World.cell?_of_block (a:=⟨b,o,none⟩) hbk
  refine ⟨rfl,⟨(hcc 401).trans (cell_off h.c0 (.inr (by decide))),?_,h.ne,?_,(hcc 0).trans (cell_off h.c2 (.inr (by decide))),fun o ho=>by rw [World.frozen?_of_block (a:=⟨b,o,none⟩) hbk,World.frozen?_setCell];exact h.fz o ho,(h.ch.off (.inr (.inr (by decide)))).on hbk,Nat.lt_of_lt_of_le h.up (by have:=hf2.size;rw [World.size_setCell] at this;exact this)⟩,((Frm.refl (wS b v) w1).setCell (.inl (show wS b v b from .inl rfl)) _).trans (hf2.mono (fun k _ e=>.inr e))⟩
  ·show Octs _ B v (Pack.digs t.m ((t.n+c) / 4294967296))
   rw [show (t.n+c) / 4294967296=t.n / 4294967296+1 by omega]
   exact ho2
  ·show _=some (Value.int .u32 ((t.n+c) % 4294967296))
   rw [show (t.n+c) % 4294967296=L+c-4294967296 by omega,hcc 402]
   exact World.cell?_setCell_same _ _ _ h.c1
theorem crs_one:crsEven.all (·.oneCell')=true:=by
 unfold crsEven
 rw [Array.all_append,show chEven.all (·.oneCell')=true from evens_one 400]
 simp [Value.oneCell']
theorem crs_is:laidAt ((#[Value.int .u32 0]++Array.replicate 400 (Value.int .u32 0)).setIfInBounds 0 (Value.int .u32 4294967295)) 1 chEven=crsEven:=by
 have hcs:chEven.size=400:=evens_size 400
 have hzs:((#[Value.int .u32 0]++Array.replicate 400 (Value.int .u32 0)).setIfInBounds 0 (Value.int .u32 4294967295)).size=401:=by
  rw [Array.size_setIfInBounds,Array.size_append,Array.size_replicate];rfl
 apply Array.ext_getElem?
 intro j
 rw [laidAt_get,hcs,hzs]
 unfold crsEven
 by_cases h0:j=0
 ·subst h0
  rw [if_neg (by omega),Array.getElem?_setIfInBounds_self_of_lt (by rw [Array.size_append,Array.size_replicate];decide),Array.getElem?_append_left (by simp)]
  rfl
 ·rw [Array.getElem?_append_right (by simp;omega)]
  by_cases h1:j<401
  ·rw [if_pos ⟨by omega,by omega,h1⟩]
   rfl
  ·rw [if_neg (by omega),Array.getElem?_eq_none (by rw [hzs];omega),Array.getElem?_eq_none (by rw [hcs];simp;omega)]
set_option maxRecDepth 20000 in
theorem pNewCourse (w:World) :
  Calls Tryz.prog 75 #[] w fun x w'=>x=.returned (.agg crsEven)/\Below w.heap.size w w':=by
 obtain ⟨hzero,hsize⟩:=zero_of_info crsInfo
 have hCI:=crs_is
 obtain ⟨Z,hZ⟩:∃ Z,Z=#[Value.int .u32 0]++Array.replicate 400 (.int .u32 0):=⟨_,rfl⟩
 rw [<- hZ] at hzero hCI
 have hZs:Z.size=401:=by rw [hZ,Array.size_append,Array.size_replicate];rfl
 have hZn:Z ≠ #[]:=fun e=>by rw [e] at hZs;exact absurd hZs (by decide)
 obtain ⟨E,hE⟩:∃ E,E=chEven:=⟨_,rfl⟩
 obtain ⟨F,hF⟩:∃ F,F=crsEven:=⟨_,rfl⟩
 have hNC:=fun w=>newChances w
 have hF1:=crs_one
 have hFs:=crsEven_size
 have hcs:E.size=400:=by rw [hE];exact evens_size 400
 rw [<- hE] at hNC hCI
 rw [<- hF] at hCI hF1 hFs ⊢
 have HCI:Hid (laidAt (Z.setIfInBounds 0 (.int .u32 4294967295)) 1 E=F):=hCI
 have HNC:Hid (∀ w,Calls Tryz.prog 84 #[] w fun e w'=>e=.returned (.agg E)/\Below w.heap.size w w'):=hNC
 have HF1:Hid (F.all (·.oneCell')=true):=hF1
 have HSZ:Hid ((Tryz.prog.info? 147).map (·.size)=some 401):=hsize
 clear hZ hsize hE hF hNC hF1 hCI
 go_enter Tryz.func75,Tryz.ntmps75
 go_wp2_with (first
  | (go_at_call 84;refine (HNC.out _).mono ?_;rintro e w1 ⟨rfl,hb⟩)
  | (refine wpList_store_row rfl 147 _ _ rfl w.heap.size F rfl (by rw [<- HCI.out];unfold laidAt;rw [hcs];rfl) 147 Z ((hb.block _ (by simp)).trans (heap_alloc_last w _)) (by rw [HSZ.out,hFs]) (by rw [hZs,hFs]) HF1.out ?_))
 have hgr:(w1.setRow w.heap.size F).heap[w.heap.size]?=some (.cells F 147 (0,0)):=setRow_heap w1 _ Z F _ _ ((hb.block _ (by simp)).trans (heap_alloc_last w _))
 have hld:=run_loadVar_row (P:=Tryz.prog) (w1.setRow w.heap.size F) w.heap.size 147 147 F (0,0) _ hgr Tryz.underlying147 rfl (by rw [HSZ.out,hFs])
 refine bodyPost_ret (v:=.agg F) ?_ rfl ⟨rfl,below_setRow (((Below.refl _ w).alloc (Nat.le_refl _) _).trans (hb.mono (by simp))) (Nat.le_refl _) _⟩
 simp [results,Tryz.results75,Act.put,asAddr,hld]
set_option maxRecDepth 20000 in
theorem pNewWriter (w:World) :
  Calls Tryz.prog 81 #[] w fun x w'=>∃ b,x=.returned (.pointer (some ⟨b,0,none⟩))/\w.heap.size<=b/\PW w' w.heap.size b (.slice none 0 0) Pack.init/\Below w.heap.size w w':=by
 obtain ⟨hzero,hsize⟩:=zero_of_info lwInfo
 obtain ⟨Z,hZ⟩:∃ Z,Z=(#[Value.int .u32 0]++Array.replicate 400 (.int .u32 0))++#[Value.slice none 0 0,.int .u32 0]:=⟨_,rfl⟩
 rw [<- hZ] at hzero
 have hY:(#[Value.int .u32 0]++Array.replicate 400 (Value.int .u32 0)).size=401:=by rw [Array.size_append,Array.size_replicate];rfl
 have hZs:Z.size=403:=by rw [hZ,Array.size_append,hY];rfl
 have hZ0:Z[401]?=some (.slice none 0 0):=by rw [hZ,Array.getElem?_append_right (by rw [hY];exact Nat.le_refl _),hY];rfl
 have hZ1:Z[402]?=some (.int .u32 0):=by rw [hZ,Array.getElem?_append_right (by rw [hY];decide),hY];rfl
 have hZn:Z ≠ #[]:=fun e=>by rw [e] at hZs;exact absurd hZs (by decide)
 obtain ⟨E,hE⟩:∃ E,E=crsEven:=⟨_,rfl⟩
 have hNC:=fun w=>pNewCourse w
 rw [<- hE] at hNC
 have hcs:E.size=401:=by rw [hE];exact crsEven_size
 have HE:Hid (E=crsEven):=hE
 clear hZ hsize hY hE
 go_enter Tryz.func81,Tryz.ntmps81
 go_wp2_with (go_at_call 75;refine (hNC _).mono ?_;rintro e w1 ⟨rfl,hb⟩)
 obtain ⟨C,hC⟩:∃ C,C=Array.foldl (fun cs x=>cs.setIfInBounds x.snd x.fst) Z E.zipIdx 0 401:=⟨_,rfl⟩
 rw [<- hC]
 have hC':C=laidAt Z 0 crsEven:=by
  rw [hC,<- HE.out];unfold laidAt;rw [hcs];simp only [Nat.zero_add]
 have HR:PW (w1.alloc (.cells C 211)) w.heap.size w1.heap.size (.slice none 0 0) Pack.init:=by
  rw [hC']
  refine ⟨?_,World.ownsRow_nil _ _ _ _,by simp [Value.ownBlock],?_,crs_laid0 w1 _ _ hZs,fun o _=>by simp,crs_laid w1 _ _ hZs,by simp⟩
  ·rw [crs_laid2 w1 _ _ 401 (by decide),hZ0]
  ·rw [crs_laid2 w1 _ _ 402 (by decide),hZ1];rfl
 go_ret
 exact ⟨_,rfl,hb.size,HR,hb.alloc hb.size _⟩
end
section
open Go.RowKit
theorem below_drew {B:Nat} {a w:World} (h:Below B a w):Below B a w.drew:=h.trans ⟨rfl,rfl,rfl,Nat.le_refl _,fun _ _=>rfl⟩
def Pack.rise (t:WS) (k:Nat) (x:Int):Int:=if x=0 then 0 else Pack.cut t k
def Pack.shifts (t:WS) (k:Nat) (x:Int):Int:=if (Pack.half t k x).rng<16777216 then 1 else 0
structure Part (b:Nat) (w w':World):Prop where
 frm:Frm (fun k=>k=b) w w'
 cell:∀ j,401<=j->w'.cell? ⟨b,j,none⟩=w.cell? ⟨b,j,none⟩
 fz:∀ j,w'.frozen? ⟨b,j,none⟩=w.frozen? ⟨b,j,none⟩
theorem Part.refl (b:Nat) (w:World):Part b w w:=⟨Frm.refl _ _,fun _ _=>rfl,fun _=>rfl⟩
theorem Part.trans {b:Nat} {a w v:World} (h:Part b a w) (k:Part b w v):Part b a v:=⟨h.frm.trans k.frm,fun j hj=>(k.cell j hj).trans (h.cell j hj),fun j=>(k.fz j).trans (h.fz j)⟩
theorem Part.set {b:Nat} {a w:World} (h:Part b a w) {o:Nat} (ho:o<401) (u:Value):Part b a (w.setCell ⟨b,o,none⟩ u) :=
 ⟨h.frm.setCell (.inl rfl) u,fun j hj=>by
  rw [World.cell?_setCell_other]
  ·exact h.cell j hj
  ·intro e
   simp only [Addr.mk.injEq,and_true,true_and] at e
   omega,fun j=>by rw [World.frozen?_setCell];exact h.fz j⟩
theorem Part.drew {b:Nat} {a w:World} (h:Part b a w):Part b a w.drew:=⟨h.frm.drew,h.cell,h.fz⟩
theorem Part.drewN {b:Nat} {a w:World} (h:Part b a w) (n:Nat):Part b a (w.drewN n):=⟨h.frm.drewN n,h.cell,h.fz⟩
structure Crs (w:World) (b:Nat) (rng:Int) (ch:List Int):Prop where
 c2:w.cell? ⟨b,0,none⟩=some (.int .u32 rng)
 f2:w.frozen? ⟨b,0,none⟩=false
 ch:ChAt w b 1 ch
theorem Crs.drewN {w:World} {b:Nat} {r:Int} {ch:List Int} (h:Crs w b r ch) (n:Nat):Crs (w.drewN n) b r ch:=⟨h.c2,h.f2,h.ch.on rfl⟩
theorem Crs.drew {w:World} {b:Nat} {r:Int} {ch:List Int} (h:Crs w b r ch):Crs w.drew b r ch:=⟨h.c2,h.f2,h.ch.on rfl⟩
theorem Crs.put2 {w:World} {b:Nat} {r:Int} {ch:List Int} (h:Crs w b r ch) (q:Int):Crs (w.setCell ⟨b,0,none⟩ (.int .u32 q)) b q ch :=
 ⟨World.cell?_setCell_same _ _ _ h.c2,by rw [World.frozen?_setCell];exact h.f2,h.ch.off (.inr (.inl (by decide)))⟩
theorem Crs.putC {w:World} {b:Nat} {r:Int} {ch:List Int} (h:Crs w b r ch) (k:Nat) (c:Int):Crs (w.setCell ⟨b,1+k,none⟩ (.int .u32 c)) b r (ch.set k c) :=
 ⟨cell_off h.c2 (.inr (by omega)),by rw [World.frozen?_setCell];exact h.f2,h.ch.set k c⟩
def wspanOf (w:World) (b:Nat):Nat:=(intOf ((w.cell? ⟨b,0,none⟩).getD undef)).toNat
theorem wspanOf_eq {w:World} {b:Nat} {r:Int} {ch:List Int} (h:Crs w b r ch):wspanOf w b=r.toNat:=by
 unfold wspanOf;rw [h.c2];rfl
set_option maxRecDepth 20000 in
theorem pTake_zero (w:World) (b:Nat) (t:WS) (k:Nat) (C c:Int) (h:Crs w b t.rng t.ch) (ok:Pack.Ok t) (hk:k<400) (hC:Pack.cut t k=C) (hc:t.ch.getD k 0=c) :
  Calls Tryz.prog 117 #[.pointer (some ⟨b,0,none⟩),.int .i64 k,.int .i64 0] w fun x w'=>x=.returned (.tuple #[.int .u32 0,.int .i64 (Pack.shifts t k 0)])/\Crs w' b (Pack.put t k 0).rng (Pack.put t k 0).ch/\Part b w w':=by
 have hcb:=Pack.cut_bd ok hk
 rw [hC] at hcb
 have hcd:=ok.ch.2 k hk
 rw [hc] at hcd
 obtain ⟨c0,c1⟩:=hcd
 have r0:=ok.r0
 have r1:=ok.r1
 obtain ⟨q,hq⟩:∃ q:WS,q=Pack.zero t k:=⟨_,rfl⟩
 have HH:Hid (q.rng=C/\q.ch=t.ch.set k (c+(4096-c) / 32)):=by rw [hq];unfold Pack.zero;rw [hC,hc];exact ⟨rfl,rfl⟩
 have HPT:Hid (Pack.put t k 0=Pack.norm q/\Pack.shifts t k 0=if q.rng<16777216 then 1 else 0):=by rw [hq];exact ⟨rfl,rfl⟩
 have q0:126976<=q.rng:=by rw [HH.out.1];omega
 have q1:q.rng<=4294967295:=by rw [HH.out.1];omega
 have hck:=h.ch.cell k hk
 have hrc:t.rng / 4096*c=C:=by rw [<- hC,<- hc];rfl
 rw [hc] at hck
 have hfk:=h.ch.fz k hk
 have hckn:∀ n:Nat,(w.drewN n).cell? ⟨b,1+k,none⟩=some (.int .u32 c):=fun n=>hck
 have hfkn:∀ n:Nat,(w.drewN n).frozen? ⟨b,1+k,none⟩=false:=fun n=>hfk
 have i2:=h.c2
 have f2:=h.f2
 have HP:Hid (Crs w b t.rng t.ch):=h
 have hk':(k:Int)<400:=by omega
 clear hq h hC hc ok
 go_enter Tryz.func117,Tryz.ntmps117
 go_wp2
 go_quiet ((go_at_call 143;exact Calls.quiet_of_same (chCut _ b 1 k t.rng c hk (by simpa using hck) (by omega) (by omega) (by omega) (by omega))))
 rw [hrc]
 go_wp2_with (go_at_call 144;refine (chLearn0 _ b 1 k c hk (by exact cell_off (hckn _) (.inr (by omega))) (by simp only [World.frozen?_setCell];exact hfkn _) c0 c1).mono ?_;rintro e w1 ⟨rfl,rfl⟩)
 have HQn:Crs (((w.drewN nq).setCell ⟨b,0,none⟩ (.int .u32 C)).setCell ⟨b,1+k,none⟩ (.int .u32 (c+(4096-c) / 32))).drew b q.rng q.ch:=by rw [HH.out.1,HH.out.2];exact (((HP.out.drewN nq).put2 C).putC k _).drew
 have HFn:Part b w (((w.drewN nq).setCell ⟨b,0,none⟩ (.int .u32 C)).setCell ⟨b,1+k,none⟩ (.int .u32 (c+(4096-c) / 32))).drew:=(((((Part.refl b w).drewN nq).set (by decide) _).set (by omega) _)).drew
 clear hckn hfkn hck hfk i2 f2
 go_loopw [7] (fun sv wr=>((Crs wr b q.rng q.ch/\sv=.int .i64 0) \/ (q.rng<16777216/\sv=.int .i64 1/\Crs wr b (256*q.rng) q.ch))/\Part b w wr) (fun _ wr=>16777216-wspanOf wr b)
 case atStart=>exact ⟨.inl ⟨HQn,rfl⟩,HFn⟩
 case round =>
  clear HQn HFn
  obtain ⟨hor,hbr⟩:=hrel
  rcases hor with ⟨hp,rfl⟩|⟨hlow,rfl,hp⟩
  ·have i2:=hp.c2
   have f2:=hp.f2
   by_cases hlow:q.rng<16777216
   ·have hw:IntKind.u32.wrap (q.rng*256)=256*q.rng:=by rw [wrap_u32 (by omega) (by omega),Int.mul_comm]
    go_wp2
    go_roundw
    case rel=>exact ⟨.inr ⟨hlow,rfl,by rw [Int.mul_comm 256 q.rng];exact hp.put2 _⟩,hbr.set (by decide) _⟩
    case measure=>rw [wspanOf_eq hp,wspanOf_eq (hp.put2 _)];omega
   ·go_wp2
    go_ret2
    refine ⟨?_,?_,hbr⟩
    ·rw [HPT.out.2,if_neg (by omega)];rfl
    ·rw [HPT.out.1];unfold Pack.norm;rw [if_neg (by omega)];exact hp
  ·have i2:=hp.c2
   have hr:¬ 256*q.rng<16777216:=by omega
   go_wp2
   go_ret2
   refine ⟨?_,?_,hbr⟩
   ·rw [HPT.out.2,if_pos hlow];rfl
   ·rw [HPT.out.1];unfold Pack.norm;rw [if_pos hlow];exact hp
set_option maxRecDepth 20000 in
theorem pTake_one (w:World) (b:Nat) (t:WS) (k:Nat) (C c:Int) (h:Crs w b t.rng t.ch) (ok:Pack.Ok t) (hk:k<400) (hC:Pack.cut t k=C) (hc:t.ch.getD k 0=c) :
  Calls Tryz.prog 117 #[.pointer (some ⟨b,0,none⟩),.int .i64 k,.int .i64 1] w fun x w'=>x=.returned (.tuple #[.int .u32 C,.int .i64 (Pack.shifts t k 1)])/\Crs w' b (Pack.put t k 1).rng (Pack.put t k 1).ch/\Part b w w':=by
 have hcb:=Pack.cut_bd ok hk
 rw [hC] at hcb
 have hcd:=ok.ch.2 k hk
 rw [hc] at hcd
 obtain ⟨c0,c1⟩:=hcd
 have r0:=ok.r0
 have r1:=ok.r1
 obtain ⟨q,hq⟩:∃ q:WS,q=Pack.one t k:=⟨_,rfl⟩
 have HH:Hid (q.rng=t.rng-C/\q.ch=t.ch.set k (c-c / 32)):=by rw [hq];unfold Pack.one;rw [hC,hc];exact ⟨rfl,rfl⟩
 have HPT:Hid (Pack.put t k 1=Pack.norm q/\Pack.shifts t k 1=if q.rng<16777216 then 1 else 0):=by rw [hq];exact ⟨rfl,rfl⟩
 have q0:126976<=q.rng:=by rw [HH.out.1];omega
 have q1:q.rng<=4294967295:=by rw [HH.out.1];omega
 have hck:=h.ch.cell k hk
 have hrc:t.rng / 4096*c=C:=by rw [<- hC,<- hc];rfl
 rw [hc] at hck
 have hfk:=h.ch.fz k hk
 have hckn:∀ n:Nat,(w.drewN n).cell? ⟨b,1+k,none⟩=some (.int .u32 c):=fun n=>hck
 have hfkn:∀ n:Nat,(w.drewN n).frozen? ⟨b,1+k,none⟩=false:=fun n=>hfk
 have i2:=h.c2
 have f2:=h.f2
 have HP:Hid (Crs w b t.rng t.ch):=h
 have hk':(k:Int)<400:=by omega
 clear hq h hC hc ok
 go_enter Tryz.func117,Tryz.ntmps117
 go_wp2
 go_quiet ((go_at_call 143;exact Calls.quiet_of_same (chCut _ b 1 k t.rng c hk (by simpa using hck) (by omega) (by omega) (by omega) (by omega))))
 rw [hrc]
 go_wp2_with (go_at_call 144;refine (chLearn1 _ b 1 k c hk (by exact cell_off (hckn _) (.inr (by omega))) (by simp only [World.frozen?_setCell];exact hfkn _) c0 c1).mono ?_;rintro e w1 ⟨rfl,rfl⟩)
 have HQn:Crs (((w.drewN nq).setCell ⟨b,0,none⟩ (.int .u32 (t.rng-C))).setCell ⟨b,1+k,none⟩ (.int .u32 (c-c / 32))).drew b q.rng q.ch:=by rw [HH.out.1,HH.out.2];exact (((HP.out.drewN nq).put2 (t.rng-C)).putC k _).drew
 have HFn:Part b w (((w.drewN nq).setCell ⟨b,0,none⟩ (.int .u32 (t.rng-C))).setCell ⟨b,1+k,none⟩ (.int .u32 (c-c / 32))).drew:=(((((Part.refl b w).drewN nq).set (by decide) _).set (by omega) _)).drew
 clear hckn hfkn hck hfk i2 f2
 go_loopw [7] (fun sv wr=>((Crs wr b q.rng q.ch/\sv=.int .i64 0) \/ (q.rng<16777216/\sv=.int .i64 1/\Crs wr b (256*q.rng) q.ch))/\Part b w wr) (fun _ wr=>16777216-wspanOf wr b)
 case atStart=>exact ⟨.inl ⟨HQn,rfl⟩,HFn⟩
 case round =>
  clear HQn HFn
  obtain ⟨hor,hbr⟩:=hrel
  rcases hor with ⟨hp,rfl⟩|⟨hlow,rfl,hp⟩
  ·have i2:=hp.c2
   have f2:=hp.f2
   by_cases hlow:q.rng<16777216
   ·have hw:IntKind.u32.wrap (q.rng*256)=256*q.rng:=by rw [wrap_u32 (by omega) (by omega),Int.mul_comm]
    go_wp2
    go_roundw
    case rel=>exact ⟨.inr ⟨hlow,rfl,by rw [Int.mul_comm 256 q.rng];exact hp.put2 _⟩,hbr.set (by decide) _⟩
    case measure=>rw [wspanOf_eq hp,wspanOf_eq (hp.put2 _)];omega
   ·go_wp2
    go_ret2
    refine ⟨?_,?_,hbr⟩
    ·rw [HPT.out.2,if_neg (by omega)];rfl
    ·rw [HPT.out.1];unfold Pack.norm;rw [if_neg (by omega)];exact hp
  ·have i2:=hp.c2
   have hr:¬ 256*q.rng<16777216:=by omega
   go_wp2
   go_ret2
   refine ⟨?_,?_,hbr⟩
   ·rw [HPT.out.2,if_pos hlow];rfl
   ·rw [HPT.out.1];unfold Pack.norm;rw [if_pos hlow];exact hp
theorem pTake (w:World) (b:Nat) (t:WS) (k:Nat) (x:Int) (h:Crs w b t.rng t.ch) (ok:Pack.Ok t) (hk:k<400) (hx:x=0 \/ x=1) :
  Calls Tryz.prog 117 #[.pointer (some ⟨b,0,none⟩),.int .i64 k,.int .i64 x] w fun e w'=>e=.returned (.tuple #[.int .u32 (Pack.rise t k x),.int .i64 (Pack.shifts t k x)])/\Crs w' b (Pack.put t k x).rng (Pack.put t k x).ch/\Part b w w':=by
 rcases hx with rfl|rfl
 ·exact pTake_zero w b t k _ _ h ok hk rfl rfl
 ·exact pTake_one w b t k _ _ h ok hk rfl rfl
end
end Go.Proofs.YtekfbphnoibnjaaGreatDoor
