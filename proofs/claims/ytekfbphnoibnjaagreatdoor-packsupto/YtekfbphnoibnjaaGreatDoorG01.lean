/-
  Base Frm Rdr Lists Writer RefRd RefBit RefNew
-/
import Derived.Test.YtekfbphnoibnjaaGreatDoorRows
import Derived.WalkSpells
import Derived.WalkLawsBesides
import Derived.BigQuiet
set_option maxHeartbeats 4000000
namespace Go.Proofs.YtekfbphnoibnjaaGreatDoor
section
open Go.RowKit
theorem infoI64:(Tryz.prog.info? 3).map (fun i=>(i.zero,i.size,i.bytes))=some (some (.int .i64 0),1,8):=by kernel_rfl
def ints (zs:List Int):List Value:=zs.map (Value.int .i64)
theorem ints_length (zs:List Int):(ints zs).length=zs.length:=by simp [ints]
theorem ints_set (zs:List Int) (k:Nat) (v:Int):(ints zs).set k (.int .i64 v)=ints (zs.set k v):=by simp [ints,List.map_set]
theorem ints_get (zs:List Int) (k:Nat) (h:k<zs.length):(ints zs)[k]?=some (.int .i64 (zs.getD k 0)):=by simp [ints,h]
def Nums (w:World) (B g n:Nat) (zs:List Int):Prop:=w.ownsRow B 3 1 (.slice (some ⟨g,0,none⟩) n n) n (ints zs)
theorem Nums.len {w:World} {B g n:Nat} {zs:List Int} (h:Nums w B g n zs):zs.length=n:=by
 have:=h.1;rw [ints_length] at this;omega
theorem Nums.cell {w:World} {B g n:Nat} {zs:List Int} (h:Nums w B g n zs) (k:Nat) (hk:k<n):w.cell? ⟨g,k,none⟩=some (.int .i64 (zs.getD k 0)):=by
 rw [World.ownsRow.cellAt h k (by omega),ints_get _ _ (by rw [h.len];exact hk)]
theorem Nums.frozen {w:World} {B g n:Nat} {zs:List Int} (h:Nums w B g n zs) (k:Nat):w.frozen? ⟨g,k,none⟩=false:=World.ownsRow.frozenAt h k
theorem Nums.lt {w:World} {B g n:Nat} {zs:List Int} (h:Nums w B g n zs):B<=g/\g<w.heap.size:=World.ownsRow.lt h g rfl
theorem Nums.store {w:World} {B g n:Nat} {zs:List Int} (h:Nums w B g n zs) (k:Nat) (v:Int):Nums (w.setCell ⟨g,k,none⟩ (.int .i64 v)) B g n (zs.set k v):=by
 have:=(World.ownsRow.stored h k (.int .i64 v)).1
 rw [ints_set] at this
 exact this
def fillRow (N k:Nat) (v:Int):List Int:=List.replicate k v++List.replicate (N-k) 0
theorem fillRow_zero (N:Nat) (v:Int):fillRow N 0 v=List.replicate N 0:=by simp [fillRow]
theorem fillRow_full (N:Nat) (v:Int):fillRow N N v=List.replicate N v:=by simp [fillRow]
theorem fillRow_set (N k:Nat) (v:Int) (h:k<N):(fillRow N k v).set k v=fillRow N (k+1) v:=by
 unfold fillRow
 rw [List.set_append_right _ _ (by simp),show N-k=(N-(k+1))+1 by omega,List.replicate_succ,List.length_replicate,Nat.sub_self,List.set_cons_zero,List.replicate_succ' (n:=k)]
 simp
theorem made_ints (N:Nat):(madeCells #[Value.int IntKind.i64 0] N).toList=ints (List.replicate N 0):=by
 rw [toList_madeCells_one];simp [ints]
def ch0:List Int:=List.replicate 400 2048
theorem ch0_full:fillRow 400 400 2048=ch0:=fillRow_full 400 2048
theorem ch0_get (k:Nat) (h:k<400):ch0.getD k 0=2048:=by
 unfold ch0
 rw [List.getD_eq_getElem?_getD,List.getElem?_replicate,if_pos h];rfl
theorem grown_setCell (w:World) (b o:Nat) (v:Value):w.grownBy (w.setCell ⟨b,o,none⟩ v) (some b) :=
 ⟨rfl,rfl,rfl,by simp,fun k _ hk=>Below.heap_setCell w ⟨b,o,none⟩ v k (fun e=>hk (by simp [e]))⟩
theorem Nums.other {w:World} {B g n:Nat} {zs:List Int} (h:Nums w B g n zs) {b o:Nat} {v:Value} (hne:b ≠ g):Nums (w.setCell ⟨b,o,none⟩ v) B g n zs :=
 World.ownsRow.kept h (grown_setCell w b o v) (.inr (by simp [Value.ownBlock];exact fun e=>hne e.symm))
theorem cell_off {w:World} {b o b' o':Nat} {v u:Value} (h:w.cell? ⟨b,o,none⟩=some v) (hne:b' ≠ b \/ o' ≠ o):(w.setCell ⟨b',o',none⟩ u).cell? ⟨b,o,none⟩=some v:=by
 rw [World.cell?_setCell_other]
 ·exact h
 ·intro e
  simp only [Addr.mk.injEq,and_true] at e
  rcases hne with h|h
  ·exact h e.1
  ·exact h e.2
theorem sIb {α:Type} (l:List α) (i:Nat) (a:α):l.toArray.setIfInBounds i a=(l.set i a).toArray:=List.setIfInBounds_toArray ..
theorem sCs {α:Type} (b:α) (l:List α) (i:Nat) (a:α):(b :: l).set (i+1) a=b :: l.set i a:=rfl
theorem sCz {α:Type} (b:α) (l:List α) (a:α):(b :: l).set 0 a=a :: l:=rfl
end
section
open Go.RowKit
structure Frm (S:Nat->Prop) (w w':World):Prop where
 os:w'.os=w.os
 tape:w'.tape=w.tape
 output:w'.output=w.output
 size:w.heap.size<=w'.heap.size
 block:∀ k,k<w.heap.size->¬ S k->w'.heap[k]?=w.heap[k]?
theorem Frm.refl (S:Nat->Prop) (w:World):Frm S w w:=⟨rfl,rfl,rfl,Nat.le_refl _,fun _ _ _=>rfl⟩
theorem Frm.trans {S:Nat->Prop} {a b c:World} (h:Frm S a b) (k:Frm S b c):Frm S a c :=
 ⟨k.os.trans h.os,k.tape.trans h.tape,k.output.trans h.output,Nat.le_trans h.size k.size,fun i hi hn=>(k.block i (Nat.lt_of_lt_of_le hi h.size) hn).trans (h.block i hi hn)⟩
theorem Frm.mono {S T:Nat->Prop} {a b:World} (h:Frm S a b) (hs:∀ k,k<a.heap.size->S k->T k):Frm T a b :=
 ⟨h.os,h.tape,h.output,h.size,fun i hi hn=>h.block i hi (fun e=>hn (hs i hi e))⟩
theorem Frm.alloc {S:Nat->Prop} {a w:World} (h:Frm S a w) (o:Obj):Frm S a (w.alloc o) :=
 ⟨h.os,h.tape,h.output,by rw [World.size_alloc];exact Nat.le_succ_of_le h.size,fun i hi hn=>(Below.heap_alloc w o i (Nat.lt_of_lt_of_le hi h.size)).trans (h.block i hi hn)⟩
theorem Frm.setCell {S:Nat->Prop} {a w:World} (h:Frm S a w) {p:Addr} (hp:S p.block \/ a.heap.size<=p.block) (u:Value):Frm S a (w.setCell p u) :=
 ⟨h.os,h.tape,h.output,by rw [World.size_setCell];exact h.size,fun i hi hn=>(Below.heap_setCell w p u i (fun e=>by
  rcases hp with hp|hp
  ·exact hn (by rw [e];exact hp)
  ·rw [e] at hi;omega)).trans (h.block i hi hn)⟩
theorem Frm.drew {S:Nat->Prop} {a w:World} (h:Frm S a w):Frm S a w.drew:=⟨h.os,h.tape,h.output,h.size,h.block⟩
theorem Frm.drewN {S:Nat->Prop} {a w:World} (h:Frm S a w) (n:Nat):Frm S a (w.drewN n):=h.trans ⟨rfl,rfl,rfl,Nat.le_refl _,fun _ _ _=>rfl⟩
theorem Frm.of_below {S:Nat->Prop} {a b:World} (h:Below a.heap.size a b):Frm S a b:=⟨h.os,h.tape,h.output,h.size,fun i hi _=>h.block i hi⟩
theorem Frm.below {S:Nat->Prop} {B:Nat} {a b:World} (h:Frm S a b) (hB:B<=a.heap.size) (hs:∀ k,S k->B<=k):Below B a b :=
 ⟨h.os,h.tape,h.output,h.size,fun i hi=>h.block i (Nat.lt_of_lt_of_le hi hB) (fun e=>by have:=hs i e;omega)⟩
theorem Frm.cell {S:Nat->Prop} {a b:World} (h:Frm S a b) {p:Addr} {v:Value} (hc:a.cell? p=some v) (hn:¬ S p.block):b.cell? p=some v :=
 (World.cell?_of_block (h.block p.block (World.block_lt_of_cell? a p hc) hn)).trans hc
theorem Frm.grown {S:Nat->Prop} {a b c:World} {row:Option Nat} (h:Frm S a b) (hg:b.grownBy c row) (hr:∀ k,row=some k->S k \/ a.heap.size<=k):Frm S a c :=
 ⟨hg.os.trans h.os,hg.tape.trans h.tape,hg.output.trans h.output,Nat.le_trans h.size hg.size,fun i hi hn=>(hg.block i (Nat.lt_of_lt_of_le hi h.size) (fun e=>by
  rcases hr i e.symm with k|k
  ·exact hn k
  ·omega)).trans (h.block i hi hn)⟩
theorem Frm.owns {S:Nat->Prop} {a b:World} (h:Frm S a b) {base:Nat} {e:TypeId} {size:Nat} {v:Value} {n:Nat} {xs:List Value} (ho:a.ownsRow base e size v n xs) (hn:∀ k,v.ownBlock=some k->¬ S k):b.ownsRow base e size v n xs:=by
 obtain ⟨h1,h2⟩:=ho
 refine ⟨h1,?_⟩
 rcases h2 with h2|⟨g,cap,cur,rfl,hb,hg,hc⟩
 ·exact .inl h2
 ·have hlt:g<a.heap.size:=by
   rcases Nat.lt_or_ge g a.heap.size with h'|h'
   ·exact h'
   ·rw [Array.getElem?_eq_none h'] at hg;cases hg
  exact .inr ⟨g,cap,cur,rfl,hb,(h.block g hlt (hn g rfl)).trans hg,hc⟩
theorem Frm.nums {S:Nat->Prop} {a b:World} (h:Frm S a b) {B g n:Nat} {zs:List Int} (ho:Nums a B g n zs) (hn:¬ S g):Nums b B g n zs :=
 h.owns ho (fun k e=>by simp [Value.ownBlock] at e;subst e;exact hn)
end
structure RS where
 pos:Nat
 rng:Int
 code:Int
 ch:List Int
 err:Int
namespace Rdr
def byteAt (s:ByteArray) (i:Nat):Int:=((s.data.toList.getD i 0).toNat:Int)
theorem byteAt_bd (s:ByteArray) (i:Nat):0<=byteAt s i/\byteAt s i<=255:=by
 unfold byteAt;have:=(s.data.toList.getD i 0).toNat_lt;omega
def octB (s:ByteArray) (r:RS):Int:=if r.pos<s.size then byteAt s r.pos else 0
def octS (s:ByteArray) (r:RS):RS:=if r.pos<s.size then { r with pos:=r.pos+1 } else { r with err:=if r.err=0 then 5 else r.err }
def pull (s:ByteArray) (r:RS):RS:={ octS s r with rng:=256*r.rng,code:=256*r.code+octB s r }
def norm (s:ByteArray) (r:RS):RS:=if r.rng<16777216 then pull s r else r
def cut (r:RS) (k:Nat):Int:=r.rng / 4096*r.ch.getD k 0
def bitV (r:RS) (k:Nat):Int:=if r.err=0 then (if r.code<cut r k then 0 else 1) else 0
def zero (r:RS) (k:Nat):RS:={ r with rng:=cut r k,ch:=r.ch.set k (r.ch.getD k 0+(4096-r.ch.getD k 0) / 32) }
def one (r:RS) (k:Nat):RS:={ r with rng:=r.rng-cut r k,code:=r.code-cut r k,ch:=r.ch.set k (r.ch.getD k 0-r.ch.getD k 0 / 32) }
def bitS (s:ByteArray) (r:RS) (k:Nat):RS:=if r.err=0 then (if r.code<cut r k then norm s (zero r k) else norm s (one r k)) else r
def fail (r:RS) (e:Int):RS:={ r with err:=if r.err=0 then e else r.err }
def four (s:ByteArray) (r:RS):Nat->RS
 | 0=>r
 | n+1=>let q:=four s r n;{ octS s q with code:=256*q.code+octB s q }
def start (s:ByteArray) (ch:List Int):RS :=
 let r:=four s ⟨0,4294967295,0,ch,0⟩ 4
 if r.err=0/\4294967295<=r.code then fail r 7 else r
def finish (s:ByteArray) (r:RS):RS:=if r.err=0/\r.pos<s.size then { r with err:=6 } else r
def bits (s:ByteArray):RS->List Nat->List Int × RS
 | r,[]=>([],r)
 | r,k :: ks=>let q:=bits s (bitS s r k) ks;(bitV r k :: q.1,q.2)
def ChOk (ch:List Int):Prop:=ch.length=400/\∀ k,k<400->31<=ch.getD k 0/\ch.getD k 0<=4065
structure Ok (s:ByteArray) (r:RS):Prop where
 ch:ChOk r.ch
 pos:r.pos<=s.size
 rng:r.err=0->16777216<=r.rng/\r.rng<=4294967295
 code:r.err=0->0<=r.code/\r.code<r.rng
 err:0<=r.err
theorem getD_set {l:List Int} {i j:Nat} {v:Int}:(l.set i v).getD j 0=if i=j/\j<l.length then v else l.getD j 0:=by
 simp only [List.getD_eq_getElem?_getD,List.getElem?_set]
 by_cases h:i=j
 ·subst h
  by_cases h2:i<l.length
  ·simp [h2]
  ·simp [h2]
 ·simp [h]
theorem ChOk.set {ch:List Int} (h:ChOk ch) {k:Nat} {v:Int} (h1:31<=v) (h2:v<=4065):ChOk (ch.set k v):=by
 refine ⟨by simpa using h.1,fun j hj=>?_⟩
 rw [getD_set]
 split
 ·exact ⟨h1,h2⟩
 ·exact h.2 j hj
theorem mul_bd (a c:Int) (a0:4096<=a) (a1:a<=1048575) (c0:31<=c) (c1:c<=4065):126976<=a*c/\a*c+126976<=a*4096:=by
 constructor
 ·have h1:a*31<=a*c:=Int.mul_le_mul_of_nonneg_left c0 (by omega)
  omega
 ·have h1:a*c<=a*4065:=Int.mul_le_mul_of_nonneg_left c1 (by omega)
  omega
theorem cut_bd {r:RS} {k:Nat} (hk:k<400) (hc:ChOk r.ch) (h0:16777216<=r.rng) (h1:r.rng<=4294967295) :
  126976<=cut r k/\cut r k+126976<=r.rng:=by
 have hb:=hc.2 k hk
 have hm:=mul_bd (r.rng / 4096) (r.ch.getD k 0) (by omega) (by omega) hb.1 hb.2
 unfold cut
 omega
theorem Ok.pull {s:ByteArray} {r:RS} (ch:ChOk r.ch) (pos:r.pos<=s.size) (err:r.err=0) (r0:126976<=r.rng) (r1:r.rng<16777216) (c0:0<=r.code) (c1:r.code<r.rng):Ok s (pull s r):=by
 have hb:=byteAt_bd s r.pos
 refine ⟨?_,?_,?_,?_,?_⟩
 ·unfold Rdr.pull octS;split <;> exact ch
 ·unfold Rdr.pull octS;split <;> (dsimp only;omega)
 ·intro _;unfold Rdr.pull;dsimp only;omega
 ·intro _;unfold Rdr.pull octB;dsimp only;split <;> omega
 ·unfold Rdr.pull octS;split
  ·dsimp only;omega
  ·simp
theorem Ok.norm {s:ByteArray} {r:RS} (ch:ChOk r.ch) (pos:r.pos<=s.size) (err:r.err=0) (r0:126976<=r.rng) (r1:r.rng<=4294967295) (c0:0<=r.code) (c1:r.code<r.rng):Ok s (norm s r):=by
 unfold Rdr.norm
 split
 ·exact Ok.pull ch pos err r0 (by assumption) c0 c1
 ·exact ⟨ch,pos,fun _=>by omega,fun _=>⟨c0,c1⟩,by omega⟩
theorem up_bd (c:Int) (h0:31<=c) (h1:c<=4065):31<=c+(4096-c) / 32/\c+(4096-c) / 32<=4065:=by omega
theorem dn_bd (c:Int) (h0:31<=c) (h1:c<=4065):31<=c-c / 32/\c-c / 32<=4065:=by omega
theorem Ok.bitS {s:ByteArray} {r:RS} (h:Ok s r) {k:Nat} (hk:k<400):Ok s (bitS s r k):=by
 unfold Rdr.bitS
 by_cases he:r.err=0
 ·rw [if_pos he]
  obtain ⟨g0,g1⟩:=h.rng he
  obtain ⟨c0,c1⟩:=h.code he
  have hc:=cut_bd hk h.ch g0 g1
  have hb:=h.ch.2 k hk
  split
  ·rename_i hlt
   exact Ok.norm (h.ch.set (up_bd _ hb.1 hb.2).1 (up_bd _ hb.1 hb.2).2) h.pos he (by unfold zero;dsimp only;omega) (by unfold zero;dsimp only;omega) c0 hlt
  ·rename_i hge
   exact Ok.norm (h.ch.set (dn_bd _ hb.1 hb.2).1 (dn_bd _ hb.1 hb.2).2) h.pos he (by unfold one;dsimp only;omega) (by unfold one;dsimp only;omega) (by unfold one;dsimp only;omega) (by unfold one;dsimp only;omega)
 ·rw [if_neg he];exact h
def r0 (ch:List Int):RS:=⟨0,4294967295,0,ch,0⟩
theorem four_succ (s:ByteArray) (r:RS) (n:Nat):four s r (n+1)={ octS s (four s r n) with code:=256*(four s r n).code+octB s (four s r n) }:=rfl
theorem octB_le (s:ByteArray) (r:RS):0<=octB s r/\octB s r<=255:=by
 unfold octB
 split
 ·exact byteAt_bd s _
 ·omega
theorem octS_pos {s:ByteArray} {r:RS} (h:r.pos<=s.size):(octS s r).pos<=s.size:=by
 unfold octS
 split
 ·dsimp only;omega
 ·exact h
theorem octS_ch (s:ByteArray) (r:RS):(octS s r).ch=r.ch:=by unfold octS;split <;> rfl
theorem octS_rng' (s:ByteArray) (r:RS):(octS s r).rng=r.rng:=by unfold octS;split <;> rfl
theorem octS_err0 {s:ByteArray} {r:RS} (h:0<=r.err):0<=(octS s r).err:=by
 unfold octS
 split
 ·exact h
 ·dsimp only;split <;> omega
theorem four_facts (s:ByteArray) (ch:List Int):∀ n,(four s (r0 ch) n).pos<=s.size/\(four s (r0 ch) n).ch=ch/\(four s (r0 ch) n).rng=4294967295/\0<=(four s (r0 ch) n).err/\0<=(four s (r0 ch) n).code/\(four s (r0 ch) n).code<256 ^ n
 | 0=>by
  refine ⟨Nat.zero_le _,rfl,rfl,?_,?_,?_⟩
  ·show (0:Int)<=0;decide
  ·show (0:Int)<=0;decide
  ·show (0:Int)<256 ^ 0;decide
 | n+1=>by
  obtain ⟨h1,h2,h3,h4,h5,h6⟩:=four_facts s ch n
  have hb:=octB_le s (four s (r0 ch) n)
  rw [four_succ]
  refine ⟨octS_pos h1,(octS_ch _ _).trans h2,(octS_rng' _ _).trans h3,octS_err0 h4,?_,?_⟩
  ·dsimp only;omega
  ·dsimp only
   rw [Int.pow_succ]
   omega
theorem start_eq (s:ByteArray) (ch:List Int):start s ch=if (four s (r0 ch) 4).err=0/\4294967295<=(four s (r0 ch) 4).code then fail (four s (r0 ch) 4) 7 else four s (r0 ch) 4:=rfl
theorem start_ok (s:ByteArray) (ch:List Int) (hc:ChOk ch):Ok s (start s ch):=by
 obtain ⟨h1,h2,h3,h4,h5,h6⟩:=four_facts s ch 4
 rw [start_eq]
 by_cases h:(four s (r0 ch) 4).err=0/\4294967295<=(four s (r0 ch) 4).code
 ·rw [if_pos h]
  unfold fail
  rw [if_pos h.1]
  exact ⟨by rw [h2];exact hc,h1,fun e=>absurd (show (7:Int)=0 from e) (by decide),fun e=>absurd (show (7:Int)=0 from e) (by decide),by show (0:Int)<=7;decide⟩
 ·rw [if_neg h]
  refine ⟨by rw [h2];exact hc,h1,fun _=>by rw [h3];decide,fun e=>⟨h5,?_⟩,h4⟩
  rw [h3]
  rcases Int.lt_or_le (four s (r0 ch) 4).code 4294967295 with h'|h'
  ·exact h'
  ·exact absurd ⟨e,h'⟩ h
def ctxs (zs:List Int):List Nat:=zs.map Int.toNat
def all (s:ByteArray) (ch:List Int) (zs:List Int) (k:Nat):List Int × RS:=bits s (start s ch) (ctxs (zs.take k))
end Rdr
section
open Go.RowKit
theorem ret_int {k:IntKind} {a b:Int} (h:a=b):Ending.returned (.int k a)=.returned (.int k b):=by rw [h]
theorem byteAt_get (s:ByteArray) (i:Nat) (h:i<s.size):Rdr.byteAt s i=(s[i].toNat:Int):=by
 unfold Rdr.byteAt
 rw [List.getD_eq_getElem?_getD,List.getElem?_eq_getElem (by simpa using h)]
 rfl
theorem octS_rng (s:ByteArray) (r:RS):(Rdr.octS s r).rng=r.rng:=by unfold Rdr.octS;split <;> rfl
theorem octS_code (s:ByteArray) (r:RS):(Rdr.octS s r).code=r.code:=by unfold Rdr.octS;split <;> rfl
theorem octB_bd (s:ByteArray) (r:RS):0<=Rdr.octB s r/\Rdr.octB s r<=255:=by
 unfold Rdr.octB
 split
 ·exact Rdr.byteAt_bd s _
 ·omega
theorem ch0_ok:Rdr.ChOk ch0:=⟨by unfold ch0;exact List.length_replicate,fun k hk=>by rw [ch0_get k hk];decide⟩
theorem owns_base {w:World} {base base':Nat} {e:TypeId} {size:Nat} {v:Value} {n:Nat} {xs:List Value} (h:w.ownsRow base e size v n xs) (hb:base'<=base):w.ownsRow base' e size v n xs:=by
 refine ⟨h.1,?_⟩
 rcases h.2 with h2|⟨g,cap,cur,rfl,hb',hc⟩
 ·exact .inl h2
 ·exact .inr ⟨g,cap,cur,rfl,Nat.le_trans hb hb',hc⟩
end
section
open Go.RowKit
theorem chances_any (w:World) :
  Calls Tryz.prog 94 #[] w fun e w'=>e=.returned (.slice (some ⟨w.heap.size,0,none⟩) 400 400)/\Nums w' w.heap.size w.heap.size 400 ch0/\Below w.heap.size w w':=by
 obtain ⟨i0,hi,hz0,hz1,hz2⟩:=info_parts infoI64
 go_enter Tryz.func94,Tryz.ntmps94
 go_wp2_with (at_make;refine wpList_make_full _ rfl _ _ 52 rfl w.heap.size 3 i0 (.int .i64 0) 1 Tryz.underlying52 hi hz0 hz1 _ _ _ _ 400 rfl rfl rfl rfl (by rw [hz2];decide) (by decide) (Nat.le_refl _) ?_)
 intro w1 hown hgrow
 have hn:Nums w1 w.heap.size w.heap.size 400 (fillRow 400 0 2048):=by
  rw [made_ints 400,<- fillRow_zero 400 2048] at hown
  exact hown
 have hb:Below w.heap.size w w1:=(Below.refl _ _).grown hgrow (Nat.le_refl _) (fun _ h=>by cases h)
 clear hown hgrow
 go_wp2
 go_loopw [2] (fun i wr=>∃ k:Nat,k<=400/\i=.int .i64 k/\Nums wr w.heap.size w.heap.size 400 (fillRow 400 k 2048)/\Below w.heap.size w wr) (fun i _=>400-(intOf i).toNat)
 case atStart=>exact ⟨0,by omega,rfl,hn,hb⟩
 case round =>
  obtain ⟨k,hk,rfl,hnr,hbr⟩:=hrel
  by_cases hlt:k<400
  ·obtain ⟨c0,hc⟩:∃ c,wr.cell? ⟨w.heap.size,k,none⟩=some (.int .i64 c):=⟨_,hnr.cell k hlt⟩
   have hlt':(k:Int)<400:=by omega
   have hf:=hnr.frozen k
   have HS:Hid (Nums (wr.setCell ⟨w.heap.size,k,none⟩ (.int .i64 2048)) w.heap.size w.heap.size 400 (fillRow 400 (k+1) 2048)):=by
    have hs:=hnr.store k 2048
    rw [fillRow_set 400 k 2048 hlt] at hs
    exact hs
   have HN:Hid (Nums wr w.heap.size w.heap.size 400 (fillRow 400 k 2048)):=hnr
   clear hnr
   go_wp2
   go_roundw
   case rel=>exact ⟨k+1,by omega,by go_num,HS.out,hbr.setCell (Nat.le_refl _) _⟩
   case measure=>simp [intOf];omega
  ·obtain rfl:k=400:=by omega
   rw [ch0_full] at hnr
   go_wp2
   go_ret
   exact ⟨rfl,hnr,hbr⟩
structure Wrt (w:World) (B b g:Nat) (L R:Int) (cs:List Int):Prop where
 c0:w.cell? ⟨b,0,none⟩=some (.slice none 0 0)
 c1:w.cell? ⟨b,1,none⟩=some (.int .i64 L)
 c2:w.cell? ⟨b,2,none⟩=some (.int .i64 R)
 c3:w.cell? ⟨b,3,none⟩=some (.slice (some ⟨g,0,none⟩) 400 400)
 fz:∀ o,w.frozen? ⟨b,o,none⟩=false
 nums:Nums w B g 400 cs
 ne:b ≠ g
 lo:B<=b
 up:b<w.heap.size
theorem newWriter_any (w:World) :
  Calls Tryz.prog 50 #[] w fun e w'=>∃ b,e=.returned (.pointer (some ⟨b,0,none⟩))/\Wrt w' w.heap.size b w.heap.size 0 4294967295 ch0/\Below w.heap.size w w':=by
 go_enter Tryz.func50,Tryz.ntmps50
 go_wp2_with (go_at_call 94;refine (chances_any _).mono ?_;rintro e w1 ⟨rfl,hn,hb⟩)
 go_ret
 have hl:=hn.lt
 refine ⟨_,rfl,⟨by simp,by simp,by simp,by simp,fun o=>by simp,?_,by omega,by omega,by simp⟩,hb.alloc hb.size _⟩
 exact World.ownsRow.alloc hn _
theorem Wrt.putR {w:World} {B b g:Nat} {L R R':Int} {cs:List Int} (h:Wrt w B b g L R cs):Wrt (w.setCell ⟨b,2,none⟩ (.int .i64 R')) B b g L R' cs:=by
 obtain ⟨h0,h1,h2,h3,hfz,hn,hne,hlo,hup⟩:=h
 exact ⟨cell_off h0 (.inr (by decide)),cell_off h1 (.inr (by decide)),World.cell?_setCell_same _ _ _ h2,cell_off h3 (.inr (by decide)),fun o=>by rw [World.frozen?_setCell];exact hfz o,hn.other hne,hne,hlo,by rw [World.size_setCell];exact hup⟩
theorem Wrt.putL {w:World} {B b g:Nat} {L R L':Int} {cs:List Int} (h:Wrt w B b g L R cs):Wrt (w.setCell ⟨b,1,none⟩ (.int .i64 L')) B b g L' R cs:=by
 obtain ⟨h0,h1,h2,h3,hfz,hn,hne,hlo,hup⟩:=h
 exact ⟨cell_off h0 (.inr (by decide)),World.cell?_setCell_same _ _ _ h1,cell_off h2 (.inr (by decide)),cell_off h3 (.inr (by decide)),fun o=>by rw [World.frozen?_setCell];exact hfz o,hn.other hne,hne,hlo,by rw [World.size_setCell];exact hup⟩
theorem Wrt.putC {w:World} {B b g:Nat} {L R:Int} {cs:List Int} (h:Wrt w B b g L R cs) (k:Nat) (v:Int):Wrt (w.setCell ⟨g,k,none⟩ (.int .i64 v)) B b g L R (cs.set k v):=by
 obtain ⟨h0,h1,h2,h3,hfz,hn,hne,hlo,hup⟩:=h
 have hne':g ≠ b:=fun e=>hne e.symm
 exact ⟨cell_off h0 (.inl hne'),cell_off h1 (.inl hne'),cell_off h2 (.inl hne'),cell_off h3 (.inl hne'),fun o=>by rw [World.frozen?_setCell];exact hfz o,hn.store k v,hne,hlo,by rw [World.size_setCell];exact hup⟩
set_option maxRecDepth 20000 in
theorem wbit0 (w:World) (B b g k:Nat) (L R c:Int) (cs:List Int) (h:Wrt w B b g L R cs) (hk:k<400) (hc:cs.getD k 0=c) (c0:0<=c) (c1:c<=4096)
  (L0:0<=L) (L1:L<=4294967295) (R0:0<=R) (R1:R<=4294967295) (m0:16777216<=R / 4096*c) (m1:R / 4096*c<=4294967295) :
  Calls Tryz.prog 51 #[.pointer (some ⟨b,0,none⟩),.int .i64 k,.int .i64 0] w fun e w'=>e=.returned (.tuple #[])/\Wrt w' B b g L (R / 4096*c) (cs.set k (c+(4096-c) / 32))/\Below B w w':=by
 have hw1:Wrt ((w.setCell ⟨b,2,none⟩ (.int .i64 (R / 4096*c))).setCell ⟨g,k,none⟩ (.int .i64 (c+(4096-c) / 32))) B b g L (R / 4096*c) (cs.set k (c+(4096-c) / 32)):=(h.putR).putC k _
 have hB:Below B w ((w.setCell ⟨b,2,none⟩ (.int .i64 (R / 4096*c))).setCell ⟨g,k,none⟩ (.int .i64 (c+(4096-c) / 32))):=((Below.refl B w).setCell h.lo _).setCell h.nums.lt.1 _
 have HW:Hid (Wrt ((w.setCell ⟨b,2,none⟩ (.int .i64 (R / 4096*c))).setCell ⟨g,k,none⟩ (.int .i64 (c+(4096-c) / 32))) B b g L (R / 4096*c) (cs.set k (c+(4096-c) / 32))/\Below B w ((w.setCell ⟨b,2,none⟩ (.int .i64 (R / 4096*c))).setCell ⟨g,k,none⟩ (.int .i64 (c+(4096-c) / 32)))):=⟨hw1,hB⟩
 clear hw1 hB
 obtain ⟨h0,h1,h2,h3,hfz,hn,hne,hlo,hup⟩:=h
 have hck:=hn.cell k hk
 rw [hc] at hck
 have hfk:=hn.frozen k
 have hne':g ≠ b:=fun e=>hne e.symm
 have hk':(k:Int)<400:=by omega
 have HN:Hid (Nums w B g 400 cs):=hn
 clear hn
 go_enter Tryz.func51,Tryz.ntmps51
 go_wp2
 go_loopw [83] (fun _ wr=>Wrt wr B b g L (R / 4096*c) (cs.set k (c+(4096-c) / 32))/\Below B w wr) (fun _ _=>0)
 case atStart=>exact HW.out
 case round =>
  obtain ⟨hwr,hbr⟩:=hrel
  have i2:=hwr.c2
  have H:Hid (Wrt wr B b g L (R / 4096*c) (cs.set k (c+(4096-c) / 32))):=hwr
  clear hwr
  go_wp2
  go_end0
  exact ⟨rfl,H.out,hbr⟩
set_option maxRecDepth 20000 in
theorem wbit1 (w:World) (B b g k:Nat) (L R c:Int) (cs:List Int) (h:Wrt w B b g L R cs) (hk:k<400) (hc:cs.getD k 0=c) (c0:0<=c) (c1:c<=4096)
  (L0:0<=L) (L1:L<=4294967295) (R0:0<=R) (R1:R<=4294967295) (m00:0<=R / 4096*c) (m0:16777216<=R-R / 4096*c) (m1:R / 4096*c<=4294967295) (m2:L+R / 4096*c<=4294967295) :
  Calls Tryz.prog 51 #[.pointer (some ⟨b,0,none⟩),.int .i64 k,.int .i64 1] w fun e w'=>e=.returned (.tuple #[])/\Wrt w' B b g (L+R / 4096*c) (R-R / 4096*c) (cs.set k (c-c / 32))/\Below B w w':=by
 have hw1:Wrt (((w.setCell ⟨b,1,none⟩ (.int .i64 (L+R / 4096*c))).setCell ⟨b,2,none⟩ (.int .i64 (R-R / 4096*c))).setCell ⟨g,k,none⟩ (.int .i64 (c-c / 32))) B b g (L+R / 4096*c) (R-R / 4096*c) (cs.set k (c-c / 32)):=((h.putL).putR).putC k _
 have hB:Below B w (((w.setCell ⟨b,1,none⟩ (.int .i64 (L+R / 4096*c))).setCell ⟨b,2,none⟩ (.int .i64 (R-R / 4096*c))).setCell ⟨g,k,none⟩ (.int .i64 (c-c / 32))):=(((Below.refl B w).setCell h.lo _).setCell h.lo _).setCell h.nums.lt.1 _
 have HW:Hid (Wrt (((w.setCell ⟨b,1,none⟩ (.int .i64 (L+R / 4096*c))).setCell ⟨b,2,none⟩ (.int .i64 (R-R / 4096*c))).setCell ⟨g,k,none⟩ (.int .i64 (c-c / 32))) B b g (L+R / 4096*c) (R-R / 4096*c) (cs.set k (c-c / 32))/\Below B w (((w.setCell ⟨b,1,none⟩ (.int .i64 (L+R / 4096*c))).setCell ⟨b,2,none⟩ (.int .i64 (R-R / 4096*c))).setCell ⟨g,k,none⟩ (.int .i64 (c-c / 32)))):=⟨hw1,hB⟩
 clear hw1 hB
 obtain ⟨h0,h1,h2,h3,hfz,hn,hne,hlo,hup⟩:=h
 have hck:=hn.cell k hk
 rw [hc] at hck
 have hfk:=hn.frozen k
 have hne':g ≠ b:=fun e=>hne e.symm
 have hk':(k:Int)<400:=by omega
 have HN:Hid (Nums w B g 400 cs):=hn
 clear hn
 go_enter Tryz.func51,Tryz.ntmps51
 go_wp2
 go_loopw [83] (fun _ wr=>Wrt wr B b g (L+R / 4096*c) (R-R / 4096*c) (cs.set k (c-c / 32))/\Below B w wr) (fun _ _=>0)
 case atStart=>exact HW.out
 case round =>
  obtain ⟨hwr,hbr⟩:=hrel
  have i2:=hwr.c2
  have H:Hid (Wrt wr B b g (L+R / 4096*c) (R-R / 4096*c) (cs.set k (c-c / 32))):=hwr
  clear hwr
  go_wp2
  go_end0
  exact ⟨rfl,H.out,hbr⟩
end
section
open Go.RowKit
structure RdAt (w:World) (B b g:Nat) (s:ByteArray) (r:RS):Prop where
 c0:w.cell? ⟨b,0,none⟩=some (.string s)
 c1:w.cell? ⟨b,1,none⟩=some (.int .i64 r.pos)
 c2:w.cell? ⟨b,2,none⟩=some (.int .i64 r.rng)
 c3:w.cell? ⟨b,3,none⟩=some (.int .i64 r.code)
 c4:w.cell? ⟨b,4,none⟩=some (.slice (some ⟨g,0,none⟩) 400 400)
 c5:w.cell? ⟨b,5,none⟩=some (.int .i64 r.err)
 fz:∀ o,w.frozen? ⟨b,o,none⟩=false
 nums:Nums w B g 400 r.ch
 ne:b ≠ g
 lo:B<=b
 up:b<w.heap.size
def rdS (b g:Nat):Nat->Prop:=fun k=>k=b \/ k=g
theorem RdAt.on {w w':World} {B b g:Nat} {s:ByteArray} {r:RS} (h:RdAt w B b g s r) (hb:w'.heap[b]?=w.heap[b]?) (hg:w'.heap[g]?=w.heap[g]?) (hz:w.heap.size<=w'.heap.size):RdAt w' B b g s r:=by
 have hc:∀ o,w'.cell? ⟨b,o,none⟩=w.cell? ⟨b,o,none⟩:=fun o=>World.cell?_of_block (a:=⟨b,o,none⟩) hb
 refine ⟨(hc 0).trans h.c0,(hc 1).trans h.c1,(hc 2).trans h.c2,(hc 3).trans h.c3,(hc 4).trans h.c4,(hc 5).trans h.c5,fun o=>(World.frozen?_of_block (a:=⟨b,o,none⟩) hb).trans (h.fz o),?_,h.ne,h.lo,Nat.lt_of_lt_of_le h.up hz⟩
 obtain ⟨n1,n2⟩:=h.nums
 refine ⟨n1,?_⟩
 rcases n2 with n2|⟨g',cap,cur,hv,hb',hg',hc'⟩
 ·exact .inl n2
 ·simp only [Value.slice.injEq,Option.some.injEq,Addr.mk.injEq,and_true,true_and] at hv
  obtain ⟨rfl,rfl⟩:=hv
  exact .inr ⟨g,400,cur,rfl,hb',hg.trans hg',hc'⟩
theorem RdAt.frm {S:Nat->Prop} {w w':World} {B b g:Nat} {s:ByteArray} {r:RS} (h:RdAt w B b g s r) (f:Frm S w w') (hb:¬ S b) (hg:¬ S g):RdAt w' B b g s r :=
 h.on (f.block b h.up hb) (f.block g h.nums.lt.2 hg) f.size
theorem RdAt.drewN {w:World} {B b g:Nat} {s:ByteArray} {r:RS} (h:RdAt w B b g s r) (n:Nat):RdAt (w.drewN n) B b g s r:=h.on rfl rfl (Nat.le_refl _)
theorem RdAt.put1 {w:World} {B b g:Nat} {s:ByteArray} {r:RS} (h:RdAt w B b g s r) (n:Nat):RdAt (w.setCell ⟨b,1,none⟩ (.int .i64 n)) B b g s { r with pos:=n }:=by
 obtain ⟨h0,h1,h2,h3,h4,h5,hfz,hn,hne,hlo,hup⟩:=h
 exact ⟨cell_off h0 (.inr (by decide)),World.cell?_setCell_same _ _ _ h1,cell_off h2 (.inr (by decide)),cell_off h3 (.inr (by decide)),cell_off h4 (.inr (by decide)),cell_off h5 (.inr (by decide)),fun o=>by rw [World.frozen?_setCell];exact hfz o,hn.other hne,hne,hlo,by rw [World.size_setCell];exact hup⟩
theorem RdAt.put2 {w:World} {B b g:Nat} {s:ByteArray} {r:RS} (h:RdAt w B b g s r) (n:Int):RdAt (w.setCell ⟨b,2,none⟩ (.int .i64 n)) B b g s { r with rng:=n }:=by
 obtain ⟨h0,h1,h2,h3,h4,h5,hfz,hn,hne,hlo,hup⟩:=h
 exact ⟨cell_off h0 (.inr (by decide)),cell_off h1 (.inr (by decide)),World.cell?_setCell_same _ _ _ h2,cell_off h3 (.inr (by decide)),cell_off h4 (.inr (by decide)),cell_off h5 (.inr (by decide)),fun o=>by rw [World.frozen?_setCell];exact hfz o,hn.other hne,hne,hlo,by rw [World.size_setCell];exact hup⟩
theorem RdAt.put3 {w:World} {B b g:Nat} {s:ByteArray} {r:RS} (h:RdAt w B b g s r) (n:Int):RdAt (w.setCell ⟨b,3,none⟩ (.int .i64 n)) B b g s { r with code:=n }:=by
 obtain ⟨h0,h1,h2,h3,h4,h5,hfz,hn,hne,hlo,hup⟩:=h
 exact ⟨cell_off h0 (.inr (by decide)),cell_off h1 (.inr (by decide)),cell_off h2 (.inr (by decide)),World.cell?_setCell_same _ _ _ h3,cell_off h4 (.inr (by decide)),cell_off h5 (.inr (by decide)),fun o=>by rw [World.frozen?_setCell];exact hfz o,hn.other hne,hne,hlo,by rw [World.size_setCell];exact hup⟩
theorem RdAt.put5 {w:World} {B b g:Nat} {s:ByteArray} {r:RS} (h:RdAt w B b g s r) (n:Int):RdAt (w.setCell ⟨b,5,none⟩ (.int .i64 n)) B b g s { r with err:=n }:=by
 obtain ⟨h0,h1,h2,h3,h4,h5,hfz,hn,hne,hlo,hup⟩:=h
 exact ⟨cell_off h0 (.inr (by decide)),cell_off h1 (.inr (by decide)),cell_off h2 (.inr (by decide)),cell_off h3 (.inr (by decide)),cell_off h4 (.inr (by decide)),World.cell?_setCell_same _ _ _ h5,fun o=>by rw [World.frozen?_setCell];exact hfz o,hn.other hne,hne,hlo,by rw [World.size_setCell];exact hup⟩
theorem RdAt.putC {w:World} {B b g:Nat} {s:ByteArray} {r:RS} (h:RdAt w B b g s r) (k:Nat) (v:Int):RdAt (w.setCell ⟨g,k,none⟩ (.int .i64 v)) B b g s { r with ch:=r.ch.set k v }:=by
 obtain ⟨h0,h1,h2,h3,h4,h5,hfz,hn,hne,hlo,hup⟩:=h
 have hne':g ≠ b:=fun e=>hne e.symm
 exact ⟨cell_off h0 (.inl hne'),cell_off h1 (.inl hne'),cell_off h2 (.inl hne'),cell_off h3 (.inl hne'),cell_off h4 (.inl hne'),cell_off h5 (.inl hne'),fun o=>by rw [World.frozen?_setCell];exact hfz o,hn.store k v,hne,hlo,by rw [World.size_setCell];exact hup⟩
theorem rfail (w:World) (B b g:Nat) (s:ByteArray) (r:RS) (e:Int) (h:RdAt w B b g s r) :
  Calls Tryz.prog 128 #[.pointer (some ⟨b,0,none⟩),.int .i64 e] w fun x w'=>x=.returned (.tuple #[])/\RdAt w' B b g s (Rdr.fail r e)/\Frm (rdS b g) w w':=by
 have i5:=h.c5
 have f5:=h.fz 5
 rcases h0:(r.err == 0) with _|_
 ·have h0':r.err ≠ 0:=by simpa using h0
  go_enter Tryz.func128,Tryz.ntmps128
  go_wp2
  go_end0
  exact ⟨rfl,by unfold Rdr.fail;rw [if_neg h0'];exact h,Frm.refl _ _⟩
 ·have h0':r.err=0:=by simpa using h0
  have H:Hid (r.err=0):=h0'
  clear h0'
  go_enter Tryz.func128,Tryz.ntmps128
  go_wp2
  go_end0
  exact ⟨rfl,by unfold Rdr.fail;rw [if_pos H.out];exact h.put5 e,(Frm.refl _ _).setCell (.inl (.inl rfl)) _⟩
theorem roctet (w:World) (B b g:Nat) (s:ByteArray) (r:RS) (h:RdAt w B b g s r) (hp:r.pos<=s.size) (hs:s.size<=maxLen) :
  Calls Tryz.prog 127 #[.pointer (some ⟨b,0,none⟩)] w fun x w'=>x=.returned (.int .i64 (Rdr.octB s r))/\RdAt w' B b g s (Rdr.octS s r)/\Frm (rdS b g) w w':=by
 unfold maxLen at hs
 have i0:=h.c0
 have i1:=h.c1
 have f1:=h.fz 1
 by_cases hlt:r.pos<s.size
 ·have hlt':(r.pos:Int)<(s.size:Int):=by omega
  have hd:decide ((s.size:Int)<=(r.pos:Int))=false:=by simp;omega
  go_enter Tryz.func127,Tryz.ntmps127
  go_wp2
  go_quiet (fail)
  go_wp2
  go_quiet (fail)
  go_wp2
  go_ret
  refine ⟨ret_int ?_,?_,(((Frm.refl _ w).drewN _).setCell (.inl (.inl rfl)) _).drewN _⟩
  ·unfold Rdr.octB
   rw [if_pos hlt,byteAt_get s _ hlt]
   have:=(s[r.pos]).toNat_lt
   unfold wrap64
   omega
  ·unfold Rdr.octS
   rw [if_pos hlt]
   exact ((h.drewN _).put1 (r.pos+1)).drewN _
 ·have hge:(s.size:Int)<=(r.pos:Int):=by omega
  have HP:=h
  go_enter Tryz.func127,Tryz.ntmps127
  go_wp2
  go_quiet (fail)
  go_wp2_with (go_at_call 128;refine (rfail _ B b g s r 5 (h.drewN _)).mono ?_;rintro x w1 ⟨rfl,h1,f1⟩)
  go_ret
  refine ⟨by unfold Rdr.octB;rw [if_neg hlt];rfl,?_,((Frm.refl _ w).drewN _).trans f1⟩
  unfold Rdr.octS
  rw [if_neg hlt]
  exact h1
def rngOf (w:World) (b:Nat):Nat:=(intOf ((w.cell? ⟨b,2,none⟩).getD undef)).toNat
theorem rngOf_eq {w:World} {B b g:Nat} {s:ByteArray} {r:RS} (h:RdAt w B b g s r):rngOf w b=r.rng.toNat:=by
 unfold rngOf;rw [h.c2];rfl
end
section
open Go.RowKit
theorem rbit_err (w:World) (B b g:Nat) (s:ByteArray) (r:RS) (k:Int) (h:RdAt w B b g s r) (he:(r.err == 0)=false) :
  Calls Tryz.prog 101 #[.pointer (some ⟨b,0,none⟩),.int .i64 k] w fun x w'=>x=.returned (.int .i64 0)/\w'=w:=by
 have i5:=h.c5
 go_enter Tryz.func101,Tryz.ntmps101
 go_wp2
 go_ret
 exact ⟨rfl,rfl⟩
set_option maxRecDepth 20000 in
theorem rbit_zero (w:World) (B b g:Nat) (s:ByteArray) (pos:Nat) (R C:Int) (ch:List Int) (k:Nat) (c:Int) (h:RdAt w B b g s ⟨pos,R,C,ch,0⟩) (hs:s.size<=maxLen) (hp:pos<=s.size)
  (hk:k<400) (hc:ch.getD k 0=c) (c0:31<=c) (c1:c<=4065) (R0:16777216<=R) (R1:R<=4294967295) (C0:0<=C) (C1:C<R / 4096*c) (m0:126976<=R / 4096*c) (m1:R / 4096*c+126976<=R) :
  Calls Tryz.prog 101 #[.pointer (some ⟨b,0,none⟩),.int .i64 k] w fun x w'=>x=.returned (.int .i64 0)/\RdAt w' B b g s (Rdr.norm s ⟨pos,R / 4096*c,C,ch.set k (c+(4096-c) / 32),0⟩)/\Frm (rdS b g) w w':=by
 obtain ⟨q,hq⟩:∃ q:RS,q=⟨pos,R / 4096*c,C,ch.set k (c+(4096-c) / 32),0⟩:=⟨_,rfl⟩
 have HQ:Hid (RdAt ((w.setCell ⟨b,2,none⟩ (.int .i64 (R / 4096*c))).setCell ⟨g,k,none⟩ (.int .i64 (c+(4096-c) / 32))) B b g s q):=by rw [hq];exact (h.put2 _).putC k _
 have HF:Hid (Frm (rdS b g) w ((w.setCell ⟨b,2,none⟩ (.int .i64 (R / 4096*c))).setCell ⟨g,k,none⟩ (.int .i64 (c+(4096-c) / 32)))):=((Frm.refl _ w).setCell (.inl (.inl rfl)) _).setCell (.inl (.inr rfl)) _
 have HE:Hid (q.err=0):=by rw [hq];rfl
 have q0:126976<=q.rng:=by rw [hq];exact m0
 have q1:q.rng<=4294967295:=by rw [hq];show R / 4096*c<=4294967295;omega
 have q2:0<=q.code:=by rw [hq];exact C0
 have q3:q.code<=4294967295:=by rw [hq];show C<=4294967295;omega
 have q4:q.pos<=s.size:=by rw [hq];exact hp
 have hck:=h.nums.cell k hk
 rw [show (RS.ch ⟨pos,R,C,ch,0⟩)=ch from rfl,hc] at hck
 have hfk:=h.nums.frozen k
 have hne:=h.ne
 have hne':g ≠ b:=fun e=>hne e.symm
 have hk':(k:Int)<400:=by omega
 have i2:=h.c2
 have i3:=h.c3
 have i4:=h.c4
 have i5:=h.c5
 have f2:=h.fz 2
 have f3:=h.fz 3
 have HH:Hid (q=⟨pos,R / 4096*c,C,ch.set k (c+(4096-c) / 32),0⟩):=hq
 clear hq h
 go_enter Tryz.func101,Tryz.ntmps101
 go_wp2
 clear hck hfk i2 i3 i4 i5 f2 f3
 go_loopw [8] (fun _ wr=>(RdAt wr B b g s q \/ (q.rng<16777216/\RdAt wr B b g s (Rdr.pull s q)))/\Frm (rdS b g) w wr) (fun _ wr=>16777216-rngOf wr b)
 case atStart=>exact ⟨.inl HQ.out,HF.out⟩
 case round =>
  obtain ⟨hor,hfr⟩:=hrel
  rcases hor with hq|⟨hlow,hq⟩
  ·have i2:=hq.c2
   have i5:=hq.c5
   rw [HE.out] at i5
   by_cases hlow:q.rng<16777216
   ·go_wp2_with (go_at_call 127;refine (roctet _ B b g s q hq q4 hs).mono ?_;rintro x w1 ⟨rfl,h1,f1⟩;have j2:=h1.c2;have j3:=h1.c3;rw [octS_rng] at j2;rw [octS_code] at j3;have e2:=h1.fz 2;have e3:=h1.fz 3;have hob:=octB_bd s q)
    have HN:RdAt ((w1.setCell ⟨b,2,none⟩ (.int .i64 (256*q.rng))).setCell ⟨b,3,none⟩ (.int .i64 (256*q.code+Rdr.octB s q))) B b g s (Rdr.pull s q):=(h1.put2 _).put3 _
    have m1:=rngOf_eq hq
    have m2:=rngOf_eq HN
    go_roundw
    case rel=>exact ⟨.inr ⟨hlow,HN⟩,(((hfr.trans f1).setCell (.inl (.inl rfl)) _).setCell (.inl (.inl rfl)) _)⟩
    case measure =>
     rw [m1,m2]
     show 16777216-(256*q.rng).toNat<16777216-q.rng.toNat
     omega
   ·go_wp2
    go_ret
    exact ⟨rfl,by rw [<- HH.out];unfold Rdr.norm;rw [if_neg (by omega)];exact hq,hfr⟩
  ·have i2:=hq.c2
   have hr:¬ (Rdr.pull s q).rng<16777216:=by show ¬ 256*q.rng<16777216;omega
   go_wp2
   go_ret
   exact ⟨rfl,by rw [<- HH.out];unfold Rdr.norm;rw [if_pos hlow];exact hq,hfr⟩
set_option maxRecDepth 20000 in
theorem rbit_one (w:World) (B b g:Nat) (s:ByteArray) (pos:Nat) (R C:Int) (ch:List Int) (k:Nat) (c:Int) (h:RdAt w B b g s ⟨pos,R,C,ch,0⟩) (hs:s.size<=maxLen) (hp:pos<=s.size)
  (hk:k<400) (hc:ch.getD k 0=c) (c0:31<=c) (c1:c<=4065) (R0:16777216<=R) (R1:R<=4294967295) (C1:R / 4096*c<=C) (C2:C<R) (m0:126976<=R / 4096*c) (m1:R / 4096*c+126976<=R) :
  Calls Tryz.prog 101 #[.pointer (some ⟨b,0,none⟩),.int .i64 k] w fun x w'=>x=.returned (.int .i64 1)/\RdAt w' B b g s (Rdr.norm s ⟨pos,R-R / 4096*c,C-R / 4096*c,ch.set k (c-c / 32),0⟩)/\Frm (rdS b g) w w':=by
 obtain ⟨q,hq⟩:∃ q:RS,q=⟨pos,R-R / 4096*c,C-R / 4096*c,ch.set k (c-c / 32),0⟩:=⟨_,rfl⟩
 have HQ:Hid (RdAt (((w.setCell ⟨b,3,none⟩ (.int .i64 (C-R / 4096*c))).setCell ⟨b,2,none⟩ (.int .i64 (R-R / 4096*c))).setCell ⟨g,k,none⟩ (.int .i64 (c-c / 32))) B b g s q):=by rw [hq];exact ((h.put3 _).put2 _).putC k _
 have HF:Hid (Frm (rdS b g) w (((w.setCell ⟨b,3,none⟩ (.int .i64 (C-R / 4096*c))).setCell ⟨b,2,none⟩ (.int .i64 (R-R / 4096*c))).setCell ⟨g,k,none⟩ (.int .i64 (c-c / 32)))):=(((Frm.refl _ w).setCell (.inl (.inl rfl)) _).setCell (.inl (.inl rfl)) _).setCell (.inl (.inr rfl)) _
 have HE:Hid (q.err=0):=by rw [hq];rfl
 have q0:126976<=q.rng:=by rw [hq];show 126976<=R-R / 4096*c;omega
 have q1:q.rng<=4294967295:=by rw [hq];show R-R / 4096*c<=4294967295;omega
 have q2:0<=q.code:=by rw [hq];show 0<=C-R / 4096*c;omega
 have q3:q.code<=4294967295:=by rw [hq];show C-R / 4096*c<=4294967295;omega
 have q4:q.pos<=s.size:=by rw [hq];exact hp
 have hck:=h.nums.cell k hk
 rw [show (RS.ch ⟨pos,R,C,ch,0⟩)=ch from rfl,hc] at hck
 have hfk:=h.nums.frozen k
 have hne:=h.ne
 have hne':g ≠ b:=fun e=>hne e.symm
 have hk':(k:Int)<400:=by omega
 have i2:=h.c2
 have i3:=h.c3
 have i4:=h.c4
 have i5:=h.c5
 have f2:=h.fz 2
 have f3:=h.fz 3
 have HH:Hid (q=⟨pos,R-R / 4096*c,C-R / 4096*c,ch.set k (c-c / 32),0⟩):=hq
 clear hq h
 go_enter Tryz.func101,Tryz.ntmps101
 go_wp2
 clear hck hfk i2 i3 i4 i5 f2 f3
 go_loopw [8] (fun _ wr=>(RdAt wr B b g s q \/ (q.rng<16777216/\RdAt wr B b g s (Rdr.pull s q)))/\Frm (rdS b g) w wr) (fun _ wr=>16777216-rngOf wr b)
 case atStart=>exact ⟨.inl HQ.out,HF.out⟩
 case round =>
  obtain ⟨hor,hfr⟩:=hrel
  rcases hor with hq|⟨hlow,hq⟩
  ·have i2:=hq.c2
   have i5:=hq.c5
   rw [HE.out] at i5
   by_cases hlow:q.rng<16777216
   ·go_wp2_with (go_at_call 127;refine (roctet _ B b g s q hq q4 hs).mono ?_;rintro x w1 ⟨rfl,h1,f1⟩;have j2:=h1.c2;have j3:=h1.c3;rw [octS_rng] at j2;rw [octS_code] at j3;have e2:=h1.fz 2;have e3:=h1.fz 3;have hob:=octB_bd s q)
    have HN:RdAt ((w1.setCell ⟨b,2,none⟩ (.int .i64 (256*q.rng))).setCell ⟨b,3,none⟩ (.int .i64 (256*q.code+Rdr.octB s q))) B b g s (Rdr.pull s q):=(h1.put2 _).put3 _
    have m1:=rngOf_eq hq
    have m2:=rngOf_eq HN
    go_roundw
    case rel=>exact ⟨.inr ⟨hlow,HN⟩,(((hfr.trans f1).setCell (.inl (.inl rfl)) _).setCell (.inl (.inl rfl)) _)⟩
    case measure =>
     rw [m1,m2]
     show 16777216-(256*q.rng).toNat<16777216-q.rng.toNat
     omega
   ·go_wp2
    go_ret
    exact ⟨rfl,by rw [<- HH.out];unfold Rdr.norm;rw [if_neg (by omega)];exact hq,hfr⟩
  ·have i2:=hq.c2
   have hr:¬ (Rdr.pull s q).rng<16777216:=by show ¬ 256*q.rng<16777216;omega
   go_wp2
   go_ret
   exact ⟨rfl,by rw [<- HH.out];unfold Rdr.norm;rw [if_pos hlow];exact hq,hfr⟩
theorem rbit (w:World) (B b g:Nat) (s:ByteArray) (r:RS) (k:Nat) (h:RdAt w B b g s r) (ok:Rdr.Ok s r) (hs:s.size<=maxLen) (hk:k<400) :
  Calls Tryz.prog 101 #[.pointer (some ⟨b,0,none⟩),.int .i64 k] w fun x w'=>x=.returned (.int .i64 (Rdr.bitV r k))/\RdAt w' B b g s (Rdr.bitS s r k)/\Frm (rdS b g) w w':=by
 by_cases he:r.err=0
 ·obtain ⟨pos,R,C,ch,e⟩:=r
  obtain rfl:e=0:=he
  obtain ⟨g0,g1⟩:=ok.rng rfl
  obtain ⟨c0,c1⟩:=ok.code rfl
  have hb:=ok.ch.2 k hk
  have hc:=Rdr.cut_bd (r:=⟨pos,R,C,ch,0⟩) hk ok.ch g0 g1
  by_cases hlt:C<R / 4096*ch.getD k 0
  ·have hcut:(RS.code ⟨pos,R,C,ch,0⟩)<Rdr.cut ⟨pos,R,C,ch,0⟩ k:=hlt
   refine (rbit_zero w B b g s pos R C ch k _ h hs ok.pos hk rfl hb.1 hb.2 g0 g1 c0 hlt hc.1 hc.2).mono ?_
   rintro x w' ⟨rfl,h1,h2⟩
   have e1:Rdr.bitV ⟨pos,R,C,ch,0⟩ k=0:=by unfold Rdr.bitV;rw [if_pos rfl,if_pos hcut]
   have e2:Rdr.bitS s ⟨pos,R,C,ch,0⟩ k=Rdr.norm s ⟨pos,R / 4096*ch.getD k 0,C,ch.set k (ch.getD k 0+(4096-ch.getD k 0) / 32),0⟩:=by
    unfold Rdr.bitS;rw [if_pos rfl,if_pos hcut];rfl
   rw [e1,e2]
   exact ⟨rfl,h1,h2⟩
  ·have hcut:¬ (RS.code ⟨pos,R,C,ch,0⟩)<Rdr.cut ⟨pos,R,C,ch,0⟩ k:=hlt
   refine (rbit_one w B b g s pos R C ch k _ h hs ok.pos hk rfl hb.1 hb.2 g0 g1 (by omega) c1 hc.1 hc.2).mono ?_
   rintro x w' ⟨rfl,h1,h2⟩
   have e1:Rdr.bitV ⟨pos,R,C,ch,0⟩ k=1:=by unfold Rdr.bitV;rw [if_pos rfl,if_neg hcut]
   have e2:Rdr.bitS s ⟨pos,R,C,ch,0⟩ k=Rdr.norm s ⟨pos,R-R / 4096*ch.getD k 0,C-R / 4096*ch.getD k 0,ch.set k (ch.getD k 0-ch.getD k 0 / 32),0⟩:=by
    unfold Rdr.bitS;rw [if_pos rfl,if_neg hcut];rfl
   rw [e1,e2]
   exact ⟨rfl,h1,h2⟩
 ·refine (rbit_err w B b g s r k h (by simpa using he)).mono ?_
  rintro x w' ⟨rfl,rfl⟩
  have e1:Rdr.bitV r k=0:=by unfold Rdr.bitV;rw [if_neg he]
  have e2:Rdr.bitS s r k=r:=by unfold Rdr.bitS;rw [if_neg he]
  rw [e1,e2]
  exact ⟨rfl,h,Frm.refl _ _⟩
end
section
open Go.RowKit
theorem newReader (w:World) (s:ByteArray) (hs:s.size<=maxLen) :
  Calls Tryz.prog 100 #[.string s] w fun x w'=>∃ b,x=.returned (.pointer (some ⟨b,0,none⟩))/\RdAt w' w.heap.size b w.heap.size s (Rdr.start s ch0)/\Below w.heap.size w w':=by
 go_enter Tryz.func100,Tryz.ntmps100
 go_wp2_with (go_at_call 94;refine (chances_any _).mono ?_;rintro e w1 ⟨rfl,hn,hb⟩)
 have hl:=hn.lt
 have HR:RdAt (w1.alloc (.cells #[.string s,.int .i64 0,.int .i64 4294967295,.int .i64 0,.slice (some ⟨w.heap.size,0,none⟩) 400 400,.int .i64 0] 188)) w.heap.size w1.heap.size w.heap.size s (Rdr.r0 ch0) :=
  ⟨by simp,by simp [Rdr.r0],by simp [Rdr.r0],by simp [Rdr.r0],by simp,by simp [Rdr.r0],fun o=>by simp,World.ownsRow.alloc hn _,by omega,by omega,by simp⟩
 have HB:Below w.heap.size w (w1.alloc (.cells #[.string s,.int .i64 0,.int .i64 4294967295,.int .i64 0,.slice (some ⟨w.heap.size,0,none⟩) 400 400,.int .i64 0] 188)):=hb.alloc hb.size _
 obtain ⟨rb,hrb⟩:∃ rb,rb=w1.heap.size:=⟨_,rfl⟩
 have hlo:w.heap.size<=rb:=by rw [hrb];exact hb.size
 rw [<- hrb] at HR ⊢
 clear hrb hl hn hb
 go_loopw [4,5] (fun i _ wr=>∃ k:Nat,k<=4/\i=.int .i64 k/\RdAt wr w.heap.size rb w.heap.size s (Rdr.four s (Rdr.r0 ch0) k)/\Below w.heap.size w wr) (fun i _ _=>4-(intOf i).toNat)
 case atStart=>exact ⟨0,by omega,rfl,HR,HB⟩
 case round =>
  clear HR HB
  obtain ⟨k,hk,rfl,hr,hbr⟩:=hrel
  obtain ⟨h1,h2,h3,h4,h5,h6⟩:=Rdr.four_facts s ch0 k
  have i3:=hr.c3
  have i5:=hr.c5
  have f3:=hr.fz 3
  by_cases hlt:k<4
  ·have hlt':(k:Int)<4:=by omega
   have hcode:(Rdr.four s (Rdr.r0 ch0) k).code<=16777215:=by
    rcases (by omega:k=0 \/ k=1 \/ k=2 \/ k=3) with rfl|rfl|rfl|rfl <;> omega
   obtain ⟨q,hq⟩:∃ q,q=Rdr.four s (Rdr.r0 ch0) k:=⟨_,rfl⟩
   have hsucc:Hid (Rdr.four s (Rdr.r0 ch0) (k+1)={ Rdr.octS s q with code:=256*q.code+Rdr.octB s q }):=by rw [hq];rfl
   rw [<- hq] at hr h1 h5 hcode i3 i5
   clear hq h2 h3 h4 h6
   go_wp2_with (go_at_call 127;refine (roctet _ w.heap.size rb w.heap.size s q hr h1 hs).mono ?_;rintro x w2 ⟨rfl,g1,g2⟩;have j3:=g1.c3;rw [octS_code] at j3;have e3:=g1.fz 3;have hob:=octB_bd s q)
   go_roundw
   case rel=>exact ⟨k+1,by omega,by go_num,by rw [hsucc.out];exact g1.put3 _,(hbr.trans (g2.below hbr.size (fun j hj=>by rcases hj with rfl|rfl <;> omega))).setCell hlo _⟩
   case measure=>simp [intOf];omega
  ·obtain rfl:k=4:=by omega
   by_cases he:(Rdr.four s (Rdr.r0 ch0) 4).err=0
   ·have HE:Hid ((Rdr.four s (Rdr.r0 ch0) 4).err=0):=he
    rw [he] at i5
    clear he
    by_cases hc:4294967295<=(Rdr.four s (Rdr.r0 ch0) 4).code
    ·go_wp2_with (go_at_call 128;refine (rfail _ w.heap.size rb w.heap.size s _ 7 hr).mono ?_;rintro x w2 ⟨rfl,g1,g2⟩)
     go_ret
     exact ⟨rb,rfl,by rw [Rdr.start_eq,if_pos ⟨HE.out,hc⟩];exact g1,hbr.trans (g2.below hbr.size (fun j hj=>by rcases hj with rfl|rfl <;> omega))⟩
    ·go_wp2
     go_ret
     exact ⟨rb,rfl,by rw [Rdr.start_eq,if_neg (fun e=>by omega)];exact hr,hbr⟩
   ·have HE:Hid (¬ (Rdr.four s (Rdr.r0 ch0) 4).err=0):=he
    have hd:((Rdr.four s (Rdr.r0 ch0) 4).err == 0)=false:=by simpa using he
    clear he
    go_wp2
    go_ret
    exact ⟨rb,rfl,by rw [Rdr.start_eq,if_neg (fun e=>HE.out e.1)];exact hr,hbr⟩
theorem rend (w:World) (B b g:Nat) (s:ByteArray) (r:RS) (h:RdAt w B b g s r) :
  Calls Tryz.prog 102 #[.pointer (some ⟨b,0,none⟩)] w fun x w'=>x=.returned (.tuple #[])/\RdAt w' B b g s (Rdr.finish s r)/\Frm (rdS b g) w w':=by
 have i0:=h.c0
 have i1:=h.c1
 have i5:=h.c5
 have f5:=h.fz 5
 by_cases he:r.err=0
 ·have HE:Hid (r.err=0):=he
  have hd:(r.err == 0)=true:=by simpa using he
  rw [he] at i5
  clear he
  by_cases hl:r.pos<s.size
  ·have hl':(r.pos:Int)<(s.size:Int):=by omega
   go_enter Tryz.func102,Tryz.ntmps102
   go_wp2
   go_quiet (fail)
   go_wp2
   go_end0
   exact ⟨rfl,by unfold Rdr.finish;rw [if_pos ⟨HE.out,hl⟩];exact (h.drewN _).put5 6,((Frm.refl _ w).drewN _).setCell (.inl (.inl rfl)) _⟩
  ·have hl':¬ (r.pos:Int)<(s.size:Int):=by omega
   go_enter Tryz.func102,Tryz.ntmps102
   go_wp2
   go_quiet (fail)
   go_wp2
   go_end0
   exact ⟨rfl,by unfold Rdr.finish;rw [if_neg (fun e=>hl e.2)];exact h.drewN _,(Frm.refl _ w).drewN _⟩
 ·have HE:Hid (¬ r.err=0):=he
  have hd:(r.err == 0)=false:=by simpa using he
  clear he
  go_enter Tryz.func102,Tryz.ntmps102
  go_wp2
  go_quiet (fail)
  go_wp2
  go_end0
  exact ⟨rfl,by unfold Rdr.finish;rw [if_neg (fun e=>HE.out e.1)];exact h.drewN _,(Frm.refl _ w).drewN _⟩
end
end Go.Proofs.YtekfbphnoibnjaaGreatDoor
