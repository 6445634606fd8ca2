/-
  PIsFilm Mark ShFew ShBlk ShArea RefDec RefDec2 SameFilm FiIn RefDec5 PkFilm KpFilm0
-/
import Derived.Test.YtekfbphnoibnjaaGreatDoorF20
set_option maxHeartbeats 4000000
namespace Go.Proofs.YtekfbphnoibnjaaGreatDoor
section
open Go.RowKit Go.Shelf
def RowsIn (w:World) (fa:Option Addr) (N:Nat) (ls:Nat->Nat):Prop:=N=0 \/ ∃ fb off,fa=some ⟨fb,off,none⟩/\∀ j,j<N->∃ a c,w.cell? ⟨fb,off+j,none⟩=some (.slice a (ls j) c)
def sizeB (z:Int):Bool:=decide (z=4 \/ z=8 \/ z=16)
def rightB (z:Int) (N:Nat) (ls:Nat->Nat):Bool:=sizeB z && (decide (N<=8) && (List.range N).all fun j=>decide ((ls j:Int)=z*z))
theorem pIsSizeW (w:World) (z:Int):Calls Tryz.prog 38 #[.int .i64 z] w fun e w'=>e=.returned (.bool (sizeB z))/\w'=w:=by
 unfold sizeB
 by_cases h4:z=4
 ·subst h4
  go_enter Tryz.func38,Tryz.ntmps38
  go_wp2
  go_ret
  exact ⟨by simp,rfl⟩
 ·by_cases h8:z=8
  ·subst h8
   go_enter Tryz.func38,Tryz.ntmps38
   go_wp2
   go_ret
   exact ⟨by simp,rfl⟩
  ·have e4:(z == 4)=false:=by simpa using h4
   have e8:(z == 8)=false:=by simpa using h8
   by_cases h16:z=16
   ·subst h16
    go_enter Tryz.func38,Tryz.ntmps38
    go_wp2
    go_ret
    exact ⟨by simp,rfl⟩
   ·have e16:(z == 16)=false:=by simpa using h16
    have hd:decide (z=4 \/ z=8 \/ z=16)=false:=by simp [h4,h8,h16]
    rw [hd]
    go_enter Tryz.func38,Tryz.ntmps38
    go_wp2
    go_ret
    exact ⟨by simp,rfl⟩
theorem pIsFilm (w:World) (z:Int) (fa:Option Addr) (N fc:Nat) (ls:Nat->Nat) (h:RowsIn w fa N ls) :
  Calls Tryz.prog 19 #[.agg #[.int .i64 z,.slice fa N fc]] w fun e w'=>e=.returned (.bool (rightB z N ls))/\Below w.heap.size w w':=by
 obtain ⟨H,hH⟩:∃ H,H=w.heap.size:=⟨_,rfl⟩
 obtain ⟨W1,hW1⟩:∃ W1,W1=w.alloc (.cells #[.int .i64 z,.slice fa N fc] 27):=⟨_,rfl⟩
 have hB1:Below w.heap.size w W1:=by rw [hW1];exact (Below.refl _ w).alloc (Nat.le_refl _) _
 have x0:W1.heap[H]?=some (.cells #[.int .i64 z,.slice fa N fc] 27):=by rw [hW1,hH];exact heap_alloc_last w _
 have k0:W1.cell? ⟨H,0,none⟩=some (.int .i64 z):=cell_of_row _ _ 0 _ _ _ x0
 have k1:W1.cell? ⟨H,1,none⟩=some (.slice fa N fc):=cell_of_row _ _ 1 _ _ _ x0
 have HIS:=fun w=>pIsSizeW w z
 obtain ⟨B,hB⟩:∃ B,B=sizeB z:=⟨_,rfl⟩
 rw [<- hB] at HIS
 have HW:Hid (W1=w.alloc (.cells #[.int .i64 z,.slice fa N fc] 27)/\H=w.heap.size/\Below w.heap.size w W1):=⟨hW1,hH,hB1⟩
 have HR:Hid (RowsIn w fa N ls):=h
 clear hW1 hB1 hH x0 h
 cases B with
 | false =>
  have hr:rightB z N ls=false:=by unfold rightB;rw [<- hB];rfl
  rw [hr]
  clear hr hB
  go_enter Tryz.func19,Tryz.ntmps19
  go_wp2_with (first
   | (rw [<- HW.out.1,<- HW.out.2.1])
   | (go_at_call 38;refine (HIS _).mono ?_;rintro e w1 ⟨rfl,rfl⟩))
  go_ret
  exact ⟨rfl,HW.out.2.2⟩
 | true =>
  by_cases hN:N<=8
  ·have hN':¬ ((N:Int) > 8):=by omega
   have hzz:z=4 \/ z=8 \/ z=16:=by unfold sizeB at hB;exact of_decide_eq_true hB.symm
   have hw:wrap64 (z*z)=z*z:=by rcases hzz with rfl|rfl|rfl <;> (unfold wrap64;decide)
   have hr:rightB z N ls=(List.range N).all fun j=>decide ((ls j:Int)=z*z):=by unfold rightB;rw [<- hB];simp [hN]
   rw [hr]
   obtain ⟨ZZ,hZZ⟩:∃ ZZ,ZZ=z*z:=⟨_,rfl⟩
   rw [<- hZZ] at hw
   rw [show wrap64 ZZ=wrap64 (z*z) by rw [hZZ]] at hw
   rw [show (fun j=>decide ((ls j:Int)=z*z))=fun j=>decide ((ls j:Int)=ZZ) by rw [hZZ]]
   clear hr hB hzz hZZ
   go_enter Tryz.func19,Tryz.ntmps19
   go_wp2_with (first
    | (rw [<- HW.out.1,<- HW.out.2.1])
    | (go_at_call 38;refine (HIS _).mono ?_;rintro e w1 ⟨rfl,rfl⟩))
   go_loopw [18] (fun v18 wr=>∃ j:Nat,j<=N/\v18=.int .i64 j/\wr=w1/\∀ i,i<j->(ls i:Int)=ZZ) (fun v18 _=>N-(intOf v18).toNat)
   case atStart=>exact ⟨0,Nat.zero_le _,rfl,rfl,fun i hi=>absurd hi (Nat.not_lt_zero _)⟩
   case round =>
    obtain ⟨j,hj,rfl,rfl,hall⟩:=hrel
    by_cases hlt:j<N
    ·have hlt':(j:Int)<(N:Int):=by omega
     obtain ⟨fb,off,rfl,hf⟩:=HR.out.resolve_left (by omega)
     obtain ⟨a,c,hc⟩:=hf j hlt
     have kc:=(HW.out.2.2.cell (World.block_lt_of_cell? w _ hc)).trans hc
     obtain ⟨m,hm⟩:∃ m,m=ls j:=⟨_,rfl⟩
     rw [<- hm] at kc
     have HA:Hid ((∀ i,i<j->(ls i:Int)=ZZ)/\m=ls j):=⟨hall,hm⟩
     clear hall hf hc hm
     by_cases he:(m:Int)=ZZ
     ·have he2:((m:Int) == ZZ)=true:=by simpa using he
      have HM:Hid ((m:Int)=ZZ):=he
      clear he
      go_wp2
      refine ⟨⟨j+1,hlt,by go_num,trivial,fun i hi=>?_⟩,by simp [intOf];omega⟩
      by_cases hij:i<j
      ·exact HA.out.1 i hij
      ·have:i=j:=by omega
       rw [this,<- HA.out.2]
       exact HM.out
     ·have he2:((m:Int) == ZZ)=false:=by simpa using he
      have HF:Hid ((List.range N).all (fun j=>decide ((ls j:Int)=ZZ))=false):=by
       rw [Hid,List.all_eq_false]
       exact ⟨j,List.mem_range.2 hlt,by rw [<- HA.out.2];simpa using he⟩
      clear he
      go_wp2
      go_ret
      exact ⟨congrArg (fun b=>Ending.returned (Value.bool b)) HF.out.symm,HW.out.2.2⟩
    ·have hlt':¬ (j:Int)<(N:Int):=by omega
     have HA:Hid ((List.range N).all (fun j=>decide ((ls j:Int)=ZZ))=true):=by
      rw [Hid,List.all_eq_true]
      intro i hi
      exact decide_eq_true (hall i (by have:=List.mem_range.1 hi;omega))
     clear hall
     go_wp2
     go_ret
     exact ⟨congrArg (fun b=>Ending.returned (Value.bool b)) HA.out.symm,HW.out.2.2⟩
  ·have hN':(N:Int) > 8:=by omega
   have hr:rightB z N ls=false:=by unfold rightB;simp [hN]
   rw [hr]
   clear hr hB
   go_enter Tryz.func19,Tryz.ntmps19
   go_wp2_with (first
    | (rw [<- HW.out.1,<- HW.out.2.1])
    | (go_at_call 38;refine (HIS _).mono ?_;rintro e w1 ⟨rfl,rfl⟩))
   go_ret
   exact ⟨rfl,HW.out.2.2⟩
end
section
open Go.RowKit
def Blk (w:World) (b:Nat) (cs:List Value) (e:TypeId):Prop:=w.heap[b]?=some (.cells cs.toArray e (0,0))
theorem Blk.cell {w:World} {b:Nat} {cs:List Value} {e:TypeId} (h:Blk w b cs e) (j:Nat) (v:Value) (hv:cs[j]?=some v):w.cell? ⟨b,j,none⟩=some v:=by
 rw [cell_of_row w b j _ _ _ h];simpa using hv
theorem Blk.frozen {w:World} {b:Nat} {cs:List Value} {e:TypeId} (h:Blk w b cs e) (j:Nat):w.frozen? ⟨b,j,none⟩=false:=frozen_of_row w b j _ _ h
theorem Blk.lt {w:World} {b:Nat} {cs:List Value} {e:TypeId} (h:Blk w b cs e):b<w.heap.size:=by
 rcases Nat.lt_or_ge b w.heap.size with h'|h'
 ·exact h'
 ·unfold Blk at h;rw [Array.getElem?_eq_none h'] at h;cases h
theorem Blk.of {w w':World} {b:Nat} {cs:List Value} {e:TypeId} (h:Blk w b cs e) (hb:w'.heap[b]?=w.heap[b]?):Blk w' b cs e:=hb.trans h
theorem Blk.alloc {w:World} {b:Nat} {cs:List Value} {e:TypeId} (h:Blk w b cs e) (o:Obj):Blk (w.alloc o) b cs e:=h.of (Below.heap_alloc w o b h.lt)
theorem Blk.grown {w w':World} {b:Nat} {cs:List Value} {e:TypeId} {row:Option Nat} (h:Blk w b cs e) (hg:w.grownBy w' row) (hn:row ≠ some b):Blk w' b cs e:=h.of (hg.block b h.lt (fun k=>hn k.symm))
theorem Blk.set {w:World} {b:Nat} {cs:List Value} {e:TypeId} (h:Blk w b cs e) (j:Nat) (v:Value):Blk (w.setCell ⟨b,j,none⟩ v) b (cs.set j v) e:=by
 unfold Blk
 rw [heap_setCell_same w b j _ e v h]
 simp
theorem Blk.new (w:World) (cs:List Value) (e:TypeId):Blk (w.alloc (.cells cs.toArray e)) w.heap.size cs e:=by
 show (w.heap.push _)[w.heap.size]?=_
 simp
theorem news_new (X:World) (cs:List Value) (e:TypeId) (H:Nat) (hH:X.heap.size=H):∀ j u,cs[j]?=some u->(X.alloc (.cells cs.toArray e)).cell? ((⟨H,0,none⟩:Addr).add j)=some u:=by
 intro j u hu
 subst hH
 exact World.news_of_block (cs:=cs.toArray) (t:=e) (fr:=(0,0)) (Blk.new X cs e) j u (by simpa using hu)
end
section
open Go.RowKit
open Flm (Px FS)
namespace Flm
def hAt (s:ByteArray) (r:RS):Nat->RS
 | 0=>r
 | k+1=>(shade s (hAt s r k)).2
def vAt (s:ByteArray) (r:RS) (k:Nat):Int:=(shade s (hAt s r k)).1
theorem colour_eq (s:ByteArray) (r:RS):colour s r=((vAt s r 0,vAt s r 1,vAt s r 2),hAt s r 3):=rfl
theorem vAt_bd (s:ByteArray) (r:RS) (k:Nat):0<=vAt s r k/\vAt s r k<=255:=by unfold vAt shade;dsimp only;omega
theorem colour_okPx (s:ByteArray) (r:RS):okPx (colour s r).1:=by rw [colour_eq];exact ⟨vAt_bd s r 0,vAt_bd s r 1,vAt_bd s r 2⟩
theorem colours_succ {s:ByteArray} {n:Nat} {r:RS} (he:r.err=0):colours s (n+1) r=((colour s r).1 :: (colours s n (colour s r).2).1,(colours s n (colour s r).2).2):=by
 show (if r.err=0 then _ else _)=_
 rw [if_pos he]
theorem colours_okPx {s:ByteArray}:∀ (n:Nat) (r:RS),∀ p ∈ (colours s n r).1,okPx p
 | 0,_,p,hp=>by simp [colours] at hp
 | n+1,r,p,hp=>by
  by_cases he:r.err=0
  ·rw [colours_succ he,List.mem_cons] at hp
   rcases hp with rfl|hp
   ·exact colour_okPx s r
   ·exact colours_okPx n _ p hp
  ·rw [colours_err he] at hp;simp at hp
end Flm
theorem owns_form {w:World} {base:Nat} {e:TypeId} {size:Nat} {v:Value} {n:Nat} {xs:List Value} (h:w.ownsRow base e size v n xs):∃ a c,v=.slice a n c/\(n=0 \/ ∃ g,a=some ⟨g,0,none⟩/\base<=g/\g<w.heap.size):=by
 have h':=h
 rcases h.2 with ⟨rfl,rfl⟩|⟨g,cap,cur,rfl,hb,hg,hr⟩
 ·exact ⟨none,0,rfl,.inl rfl⟩
 ·exact ⟨_,cap,rfl,.inr ⟨g,rfl,World.ownsRow.lt h' g rfl⟩⟩
theorem owns_succ {w:World} {base:Nat} {e:TypeId} {size:Nat} {v:Value} {n:Nat} {xs:List Value} (h:w.ownsRow base e size v (n+1) xs):∃ g c,v=.slice (some ⟨g,0,none⟩) (n+1) c:=by
 obtain ⟨a,c,rfl,h0⟩:=owns_form h
 rcases h0 with h0|⟨g,rfl,_⟩
 ·omega
 ·exact ⟨g,c,rfl⟩
def BoxP (w:World) (A:Nat) (q:Px):Prop:=w.heap[A]?=some (.cells #[.int .u8 q.1,.int .u8 q.2.1,.int .u8 q.2.2] 50 (0,0))
theorem BoxP.new (w:World) (q:Px):BoxP (w.alloc (.cells #[.int .u8 q.1,.int .u8 q.2.1,.int .u8 q.2.2] 50)) w.heap.size q:=by
 show (w.heap.push _)[w.heap.size]?=_;simp
theorem BoxP.lt {w:World} {A:Nat} {q:Px} (h:BoxP w A q):A<w.heap.size:=by
 rcases Nat.lt_or_ge A w.heap.size with h'|h'
 ·exact h'
 ·unfold BoxP at h;rw [Array.getElem?_eq_none h'] at h;cases h
theorem BoxP.frm {S:Nat->Prop} {w w':World} {A:Nat} {q:Px} (h:BoxP w A q) (f:Frm S w w') (hn:¬ S A):BoxP w' A q:=(f.block A h.lt hn).trans h
theorem BoxP.cell {w:World} {A:Nat} {q:Px} (h:BoxP w A q) (k:Nat) (hk:k<3):w.cell? ⟨A,k,none⟩=some (.int .u8 (Flm.pick q k)):=by
 rw [cell_of_row w A k _ _ _ h]
 rcases (by omega:k=0 \/ k=1 \/ k=2) with rfl|rfl|rfl <;> rfl
theorem BoxP.frozen {w:World} {A:Nat} {q:Px} (h:BoxP w A q) (k:Nat):w.frozen? ⟨A,k,none⟩=false:=frozen_of_row w A k _ _ h
theorem BoxP.put {w:World} {A:Nat} {f:Nat->Int} {k:Nat} (h:BoxP w A (part3 f k)) (hk:k<3):BoxP (w.setCell ⟨A,k,none⟩ (.int .u8 (f k))) A (part3 f (k+1)):=by
 unfold BoxP
 rw [heap_setCell_same w A k _ _ _ h]
 rcases (by omega:k=0 \/ k=1 \/ k=2) with rfl|rfl|rfl <;> simp [part3]
theorem which_le {s:ByteArray}:∀ (f k:Nat) (r:RS),(Flm.which s f k r).1<=k+f
 | 0,k,r=>Nat.le_refl _
 | f+1,k,r=>by
  show (if Rdr.bitV r (250+k)=0 then (k,Rdr.bitS s r (250+k)) else Flm.which s f (k+1) (Rdr.bitS s r (250+k))).1<=k+(f+1)
  split
  ·show k<=k+(f+1);omega
  ·have:=which_le (s:=s) f (k+1) (Rdr.bitS s r (250+k));omega
end
section
open Go.RowKit
open Flm (Px FS)
namespace Flm
theorem seen_frs {z:Nat}:∀ (ps:List (Nat × Nat)) (fs:FS),(seen z ps fs).frs=fs.frs
 | [],_=>rfl
 | (_,_) :: ps,_=>seen_frs ps _
end Flm
end
section
open Go.RowKit
open Flm (Px FS)
theorem Flm.area_err {s:ByteArray} {z x y n side:Nat} {fs:FS} (he:fs.r.err ≠ 0):Flm.area s z n x y side fs=fs:=by
 cases n <;> (unfold Flm.area;rw [if_neg he])
end
section
open Go.RowKit
open Flm (Px FS)
def HeadOk (s:ByteArray):Prop:=4<=s.size/\Rdr.byteAt s 0=70/\Rdr.byteAt s 1=66/\(Rdr.byteAt s 2=4 \/ Rdr.byteAt s 2=8 \/ Rdr.byteAt s 2=16)/\Rdr.byteAt s 3<=8
def noFilm (e:Int):Value:=.tuple #[.agg #[.int .i64 0,.slice none 0 0],.agg #[.int .i64 0,.int .i64 0,.int .i64 0],.int .i64 e]
end
section
open Go.RowKit
open Flm (Px FS)
theorem infoRow:(Tryz.prog.info? 58).map (fun i=>(i.zero,i.size,i.bytes))=some (some (.slice none 0 0),1,24):=by kernel_rfl
theorem infoBool:(Tryz.prog.info? 4).map (fun i=>(i.zero,i.size,i.bytes))=some (some (.bool false),1,1):=by kernel_rfl
theorem makePx (n:Nat) (hn:n<=1000) (w:World):Sem.run Tryz.prog (Instr.makeSlice 58 (.int .i64 n) (.int .i64 n)) w=.ok (.slice (some ⟨w.heap.size,0,none⟩) n n) (w.alloc (.cells (madeCells #[.int .u8 0,.int .u8 0,.int .u8 0] (n*3)) 50)):=by
 obtain ⟨i0,hi,h0,h1,h2⟩:=info_parts infoPx
 have:=run_makeSlice (P:=Tryz.prog) w 58 50 i0 _ Tryz.underlying58 hi h0 .i64 .i64 n n (by omega) (Int.le_refl _) (by rw [h1];simp;omega) (by rw [h2];omega) (by omega)
 rw [h1] at this
 simpa [Value.cells] using this
theorem makeBool (n:Nat) (hn:n<=1000) (w:World):Sem.run Tryz.prog (Instr.makeSlice 108 (.int .i64 n) (.int .i64 n)) w=.ok (.slice (some ⟨w.heap.size,0,none⟩) n n) (w.alloc (.cells (madeCells #[.bool false] n) 4)):=by
 obtain ⟨i0,hi,h0,h1,h2⟩:=info_parts infoBool
 have:=run_makeSlice (P:=Tryz.prog) w 108 4 i0 _ Tryz.underlying108 hi h0 .i64 .i64 n n (by omega) (Int.le_refl _) (by rw [h1];simp;omega) (by rw [h2];omega) (by omega)
 rw [h1] at this
 simpa [Value.cells] using this
theorem getD_snoc_lt {α:Type} (l:List α) (x d:α) (i:Nat) (h:i<l.length):(l++[x]).getD i d=l.getD i d:=by
 simp [List.getD_eq_getElem?_getD,List.getElem?_append,h]
theorem getD_snoc_eq {α:Type} (l:List α) (x d:α):(l++[x]).getD l.length d=x:=by
 simp [List.getD_eq_getElem?_getD]
def Flm.more (z:Nat) (q:FS):FS:={ q with frs:=q.frs++[List.replicate (z*z) (0,0,0)] }
theorem box4 (w:World) (a b c d:Obj) :
  ((((w.alloc a).alloc b).alloc c).alloc d).heap[w.heap.size]?=some a/\((((w.alloc a).alloc b).alloc c).alloc d).heap[w.heap.size+1]?=some b/\((((w.alloc a).alloc b).alloc c).alloc d).heap[w.heap.size+1+1]?=some c/\((((w.alloc a).alloc b).alloc c).alloc d).heap[w.heap.size+1+1+1]?=some d:=by
 have h1:=heap_alloc_last w a
 have h2:=heap_alloc_last (w.alloc a) b
 have h3:=heap_alloc_last ((w.alloc a).alloc b) c
 have h4:=heap_alloc_last (((w.alloc a).alloc b).alloc c) d
 simp only [World.size_alloc] at h2 h3 h4
 refine ⟨?_,?_,?_,h4⟩
 ·rw [Below.heap_alloc _ _ _ (by simp only [World.size_alloc];omega),Below.heap_alloc _ _ _ (by simp only [World.size_alloc];omega),Below.heap_alloc _ _ _ (by simp only [World.size_alloc];omega),h1]
 ·rw [Below.heap_alloc _ _ _ (by simp only [World.size_alloc];omega),Below.heap_alloc _ _ _ (by simp only [World.size_alloc];omega),h2]
 ·rw [Below.heap_alloc _ _ _ (by simp only [World.size_alloc];omega),h3]
theorem five0 (wr:World) (H G:Nat) (hHG:H ≠ G) (u0 u1 v0 v1 v2:Value) {x0 x1 y0 y1 y2:Value} (a00:wr.cell? ⟨H,0,none⟩=some x0) (a01:wr.cell? ⟨H,1,none⟩=some x1) (a10:wr.cell? ⟨G,0,none⟩=some y0) (a11:wr.cell? ⟨G,1,none⟩=some y1) (a12:wr.cell? ⟨G,2,none⟩=some y2) (X:World)
  (hX:X=((((wr.setCell ⟨H,0,none⟩ u0).setCell ⟨H,1,none⟩ u1).setCell ⟨G,0,none⟩ v0).setCell ⟨G,1,none⟩ v1).setCell ⟨G,2,none⟩ v2) :
  X.cell? ⟨H,0,none⟩=some u0/\X.cell? ⟨H,1,none⟩=some u1/\X.cell? ⟨G,0,none⟩=some v0/\X.cell? ⟨G,1,none⟩=some v1/\X.cell? ⟨G,2,none⟩=some v2/\Frm (fun k=>k=H \/ k=G) wr X:=by
 obtain ⟨w1,h1⟩:∃ w1,w1=wr.setCell ⟨H,0,none⟩ u0:=⟨_,rfl⟩
 obtain ⟨w2,h2⟩:∃ w2,w2=w1.setCell ⟨H,1,none⟩ u1:=⟨_,rfl⟩
 obtain ⟨w3,h3⟩:∃ w3,w3=w2.setCell ⟨G,0,none⟩ v0:=⟨_,rfl⟩
 obtain ⟨w4,h4⟩:∃ w4,w4=w3.setCell ⟨G,1,none⟩ v1:=⟨_,rfl⟩
 rw [<- h1,<- h2,<- h3,<- h4] at hX
 have c10:w1.cell? ⟨H,0,none⟩=some u0:=by rw [h1];exact World.cell?_setCell_same _ _ _ a00
 have c11:w1.cell? ⟨H,1,none⟩=some x1:=by rw [h1];exact cell_off a01 (.inr (by decide))
 have g10:w1.cell? ⟨G,0,none⟩=some y0:=by rw [h1];exact cell_off a10 (.inl hHG)
 have g11:w1.cell? ⟨G,1,none⟩=some y1:=by rw [h1];exact cell_off a11 (.inl hHG)
 have g12:w1.cell? ⟨G,2,none⟩=some y2:=by rw [h1];exact cell_off a12 (.inl hHG)
 have c20:w2.cell? ⟨H,0,none⟩=some u0:=by rw [h2];exact cell_off c10 (.inr (by decide))
 have c21:w2.cell? ⟨H,1,none⟩=some u1:=by rw [h2];exact World.cell?_setCell_same _ _ _ c11
 have g20:w2.cell? ⟨G,0,none⟩=some y0:=by rw [h2];exact cell_off g10 (.inl hHG)
 have g21:w2.cell? ⟨G,1,none⟩=some y1:=by rw [h2];exact cell_off g11 (.inl hHG)
 have g22:w2.cell? ⟨G,2,none⟩=some y2:=by rw [h2];exact cell_off g12 (.inl hHG)
 have c30:w3.cell? ⟨H,0,none⟩=some u0:=by rw [h3];exact cell_off c20 (.inl (Ne.symm hHG))
 have c31:w3.cell? ⟨H,1,none⟩=some u1:=by rw [h3];exact cell_off c21 (.inl (Ne.symm hHG))
 have g30:w3.cell? ⟨G,0,none⟩=some v0:=by rw [h3];exact World.cell?_setCell_same _ _ _ g20
 have g31:w3.cell? ⟨G,1,none⟩=some y1:=by rw [h3];exact cell_off g21 (.inr (by decide))
 have g32:w3.cell? ⟨G,2,none⟩=some y2:=by rw [h3];exact cell_off g22 (.inr (by decide))
 have c40:w4.cell? ⟨H,0,none⟩=some u0:=by rw [h4];exact cell_off c30 (.inl (Ne.symm hHG))
 have c41:w4.cell? ⟨H,1,none⟩=some u1:=by rw [h4];exact cell_off c31 (.inl (Ne.symm hHG))
 have g40:w4.cell? ⟨G,0,none⟩=some v0:=by rw [h4];exact cell_off g30 (.inr (by decide))
 have g41:w4.cell? ⟨G,1,none⟩=some v1:=by rw [h4];exact World.cell?_setCell_same _ _ _ g31
 have g42:w4.cell? ⟨G,2,none⟩=some y2:=by rw [h4];exact cell_off g32 (.inr (by decide))
 have f1:Frm (fun k=>k=H \/ k=G) wr w1:=by rw [h1];exact Frm.setCell (p:=⟨H,0,none⟩) (Frm.refl _ _) (.inl (.inl rfl)) _
 have f2:Frm (fun k=>k=H \/ k=G) wr w2:=by rw [h2];exact Frm.setCell (p:=⟨H,1,none⟩) f1 (.inl (.inl rfl)) _
 have f3:Frm (fun k=>k=H \/ k=G) wr w3:=by rw [h3];exact Frm.setCell (p:=⟨G,0,none⟩) f2 (.inl (.inr rfl)) _
 have f4:Frm (fun k=>k=H \/ k=G) wr w4:=by rw [h4];exact Frm.setCell (p:=⟨G,1,none⟩) f3 (.inl (.inr rfl)) _
 rw [hX]
 exact ⟨cell_off c40 (.inl (Ne.symm hHG)),cell_off c41 (.inl (Ne.symm hHG)),cell_off g40 (.inr (by decide)),cell_off g41 (.inr (by decide)),World.cell?_setCell_same _ _ _ g42,Frm.setCell (p:=⟨G,2,none⟩) f4 (.inl (.inr rfl)) _⟩
def FilmAt (w:World) (B:Nat) (Lv:Value) (z:Nat) (frs:List (List Px)):Prop :=
 ∃ fbs:List Nat,w.ownsRow B 58 1 Lv frs.length (rowVals (z*z) fbs)/\fbs.length=frs.length/\(∀ i,i<frs.length->Pixs w B (fbs.getD i 0) (z*z) (frs.getD i []))/\fbs.Nodup/\(∀ k,Lv.ownBlock=some k->k ∉ fbs)/\(z=4 \/ z=8 \/ z=16)/\frs.length<=8/\(∀ i k,Flm.okPx ((frs.getD i []).getD k (0,0,0)))
end
section
open Go.RowKit
open Flm (Px FS)
theorem FilmAt.row {w:World} {B z:Nat} {Lv:Value} {frs:List (List Px)} (h:FilmAt w B Lv z frs):∃ a c,Lv=.slice a frs.length c/\∀ i,i<frs.length->∃ g f,a=some ⟨g,0,none⟩/\w.cell? ⟨g,i,none⟩=some (.slice (some ⟨f,0,none⟩) (z*z) (z*z))/\Pixs w B f (z*z) (frs.getD i []):=by
 obtain ⟨fbs,h1,h2,h3,_⟩:=h
 obtain ⟨a,c,e,hor⟩:=owns_form h1
 refine ⟨a,c,e,fun i hi=>?_⟩
 rcases hor with h0|⟨g,rfl,_⟩
 ·omega
 ·refine ⟨g,fbs.getD i 0,rfl,?_,h3 i hi⟩
  rw [e] at h1
  have:=World.ownsRow.cellAt h1 i (by omega)
  rw [this]
  unfold rowVals
  simp [List.getD_eq_getElem?_getD,show i<fbs.length by omega]
end
section
open Go.RowKit
open Flm (Px okPx)
def PxsIn (w:World) (a:Option Addr) (ps:List Px):Prop:=ps.length=0 \/ ∃ b off,a=some ⟨b,off,none⟩/\∀ k,k<ps.length->w.cell? ⟨b,off+k*3,none⟩=some (.int .u8 (ps.getD k (0,0,0)).1)/\w.cell? ⟨b,off+k*3+1,none⟩=some (.int .u8 (ps.getD k (0,0,0)).2.1)/\w.cell? ⟨b,off+k*3+2,none⟩=some (.int .u8 (ps.getD k (0,0,0)).2.2)
def FiIn (w:World) (fa:Option Addr) (F:List (List Px)):Prop:=F.length=0 \/ ∃ fb off,fa=some ⟨fb,off,none⟩/\∀ j,j<F.length->∃ a c,w.cell? ⟨fb,off+j,none⟩=some (.slice a (F.getD j []).length c)/\PxsIn w a (F.getD j [])
def lensF (F:List (List Px)):Nat->Nat:=fun j=>(F.getD j []).length
theorem PxsIn.mono {w w':World} {a:Option Addr} {ps:List Px} (h:PxsIn w a ps) (hc:∀ p v,w.cell? p=some v->w'.cell? p=some v):PxsIn w' a ps :=
 h.imp id fun ⟨b,off,e,hk⟩=>⟨b,off,e,fun k h1=>⟨hc _ _ (hk k h1).1,hc _ _ (hk k h1).2.1,hc _ _ (hk k h1).2.2⟩⟩
theorem FiIn.mono {w w':World} {fa:Option Addr} {F:List (List Px)} (h:FiIn w fa F) (hc:∀ p v,w.cell? p=some v->w'.cell? p=some v):FiIn w' fa F :=
 h.imp id fun ⟨fb,off,e,hk⟩=>⟨fb,off,e,fun j h1=>(hk j h1).elim fun a ha=>ha.elim fun c hac=>⟨a,c,hc _ _ hac.1,hac.2.mono hc⟩⟩
theorem FiIn.below {w w':World} {fa:Option Addr} {F:List (List Px)} (h:FiIn w fa F) (b:Below w.heap.size w w'):FiIn w' fa F :=
 h.mono fun p _ e=>(b.cell (World.block_lt_of_cell? w p e)).trans e
theorem FiIn.rows {w:World} {fa:Option Addr} {F:List (List Px)} (h:FiIn w fa F):RowsIn w fa F.length (lensF F) :=
 h.imp id fun ⟨fb,off,e,hk⟩=>⟨fb,off,e,fun j h1=>(hk j h1).elim fun a ha=>ha.elim fun c hac=>⟨a,c,hac.1⟩⟩
end
section
open Go.RowKit
open Flm (Px FS)
noncomputable def Flm.fin (t:ByteArray) (z:Nat) (F:FS):Option (Nat × List (List Px)) × Px × Int :=
 if F.r.err=0 then (if (Rdr.finish t F.r).err=0 then (some (z,F.frs),(0,0,0),0) else (none,(0,0,0),(Rdr.finish t F.r).err)) else (none,(F.fr,F.x,F.y),F.r.err)
open Classical in
noncomputable def Flm.decode (s:ByteArray):Option (Nat × List (List Px)) × Px × Int :=
 if 120000<s.size then (none,(0,0,0),1)
 else if HeadOk s then
  let t:=s.extract 4 s.size
  let z:=(Rdr.byteAt s 2).toNat
  if (Rdr.start t ch0).err=0 then Flm.fin t z (Flm.frames t z (Rdr.byteAt s 3).toNat ⟨Rdr.start t ch0,[],[],0,0,0⟩) else (none,(0,0,0),(Rdr.start t ch0).err)
 else (none,(0,0,0),4)
def DecAns (w:World) (d:Option (Nat × List (List Px)) × Px × Int) (x:Ending) (w':World):Prop :=
 (match d.1 with
  | some f=>∃ Lv B,w.heap.size<=B/\x=.returned (.tuple #[.agg #[.int .i64 f.1,Lv],.agg #[.int .i64 0,.int .i64 0,.int .i64 0],.int .i64 0])/\FilmAt w' B Lv f.1 f.2
  | none=>x=.returned (.tuple #[.agg #[.int .i64 0,.slice none 0 0],.agg #[.int .i64 d.2.1.1,.int .i64 d.2.1.2.1,.int .i64 d.2.1.2.2],.int .i64 d.2.2]))/\Below w.heap.size w w'
end
namespace Pk
open Flm (Px FS px now near turn back okPx spots put)
def IsZ (z:Nat):Prop:=z=4 \/ z=8 \/ z=16
theorem rank4:∀ x<4,∀ y<4,rank x y<16:=by decide +kernel
theorem rank8:∀ x<8,∀ y<8,rank x y<64:=by decide +kernel
theorem rank_z {z:Nat} (hz:IsZ z) {x y:Nat} (hx:x<z) (hy:y<z):rank x y<z*z:=by
 rcases hz with rfl|rfl|rfl
 ·exact rank4 x hx y hy
 ·exact rank8 x hx y hy
 ·exact rank_lt hx hy
theorem al0 {z:Nat} (hz:IsZ z):Al z 0 0 z:=⟨hz,Nat.zero_mod _,Nat.zero_mod _,by omega,by omega,by rcases hz with rfl|rfl|rfl <;> decide⟩
def Whole (z:Nat) (F:List (List Px)) (f:Nat) (l:Bts):Prop:=Pack.BitsOk l/\∀ (S:ByteArray) (rest:Bts) (fs:FS) (m:Nat),Rd S (l++rest) fs.r->fs.frs=[] ->
  ∃ gs,Flm.frames S z (f+m) fs=Flm.frames S z m gs/\Rd S rest gs.r/\gs.frs=F.take f
theorem whole_nil (z:Nat) (F:List (List Px)):Whole z F 0 []:=⟨ok_nil,fun S rest fs m h he=>⟨fs,by rw [Nat.zero_add],h,by rw [he,List.take_zero]⟩⟩
theorem whole_snoc {z:Nat} {F:List (List Px)} {f:Nat} {l a:Bts} (hz:IsZ z) (hf:f<F.length) (hl:(F.getD f []).length=z*z) (h:Whole z F f l) (ha:Tells z F f 0 0 z a):Whole z F (f+1) (l++a):=by
 refine ⟨ok_app h.1 ha.1,fun S rest fs m hr he=>?_⟩
 rw [List.append_assoc] at hr
 obtain ⟨gs,e1,r1,f1⟩:=h.2 S (a++rest) fs (1+m) hr he
 have hlen:gs.frs.length=f:=by rw [f1,List.length_take];omega
 obtain ⟨r2,g2⟩:=ha.2 S rest { gs with frs:=gs.frs++[List.replicate (z*z) (0,0,0)],rd:=List.replicate (z*z) false } r1 (by
  refine ⟨by rw [List.length_append,hlen];rfl,fun g hg=>?_,?_,List.length_replicate,fun x y _ _ h0=>?_,fun x y _ _ h0=>?_⟩
  ·show (gs.frs++_).getD g []=F.getD g []
   rw [List.getD_eq_getElem?_getD,List.getElem?_append_left (by omega),f1,List.getElem?_take_of_lt hg,<- List.getD_eq_getElem?_getD]
  ·show ((gs.frs++_).getD f []).length=z*z
   rw [List.getD_eq_getElem?_getD,List.getElem?_append_right (by omega),hlen,Nat.sub_self]
   exact List.length_replicate
  ·exact absurd h0 (by rw [show rank 0 0=0 from rfl];omega)
  ·rcases h0 with h0|h0
   ·exact absurd h0 (by rw [show rank 0 0=0 from rfl];omega)
   ·exact absurd h0 id)
 rw [show rank 0 0+z*z=z*z by rw [show rank 0 0=0 from rfl];omega] at g2
 refine ⟨_,?_,r2,?_⟩
 ·rw [show f+1+m=f+(1+m) by omega,e1,show 1+m=m+1 by omega]
  show (if gs.r.err=0 then _ else _)=_
  rw [if_pos r1.err]
 ·apply List.ext_getElem
  ·rw [g2.len,List.length_take];omega
  ·intro i h1 h2
   rw [g2.len] at h1
   have hi:i<F.length:=by omega
   rw [List.getElem_take]
   have key:(Flm.area S z (Flm.cuts z) 0 0 z { gs with frs:=gs.frs++[List.replicate (z*z) (0,0,0)],rd:=List.replicate (z*z) false }).frs.getD i []=F.getD i []:=by
    rcases Nat.lt_or_ge i f with hif|hif
    ·exact g2.old i hif
    ·obtain rfl:i=f:=by omega
     apply List.ext_getElem
     ·rw [g2.cl,hl]
     ·intro k k1 k2
      rw [g2.cl] at k1
      have hz0:0<z:=by rcases hz with rfl|rfl|rfl <;> decide
      have hx:k % z<z:=Nat.mod_lt _ hz0
      have hy:k / z<z:=Nat.div_lt_of_lt_mul k1
      have hk:=g2.agr (k % z) (k / z) hx hy (.inl (rank_z hz hx hy))
      rw [show k / z*z+k % z=k by rw [Nat.mul_comm];exact Nat.div_add_mod k z] at hk
      unfold px at hk
      rw [List.getD_eq_getElem?_getD,List.getD_eq_getElem?_getD (l:=F.getD i []),List.getElem?_eq_getElem (by rw [g2.cl];exact k1),List.getElem?_eq_getElem k2] at hk
      exact hk
   rw [List.getD_eq_getElem?_getD,List.getD_eq_getElem?_getD,List.getElem?_eq_getElem (by rw [g2.len];exact h1),List.getElem?_eq_getElem hi] at key
   exact key
theorem decode_told {s:ByteArray} {z:Nat} {F:List (List Px)} {l:Bts} (hz:IsZ z) (hF:F.length<=8) (h:Whole z F F.length l) (hs:4<=s.size) (b0:Rdr.byteAt s 0=70) (b1:Rdr.byteAt s 1=66) (b2:Rdr.byteAt s 2=z) (b3:Rdr.byteAt s 3=F.length)
  (hS:Pack.BytesOf (s.extract 4 s.size) (Pack.fin l).n (Pack.fin l).m) (hm:(Pack.fin l).m<=119992):Flm.decode s=(some (z,F),(0,0,0),0):=by
 have hsz:(s.extract 4 s.size).size=s.size-4:=by rw [ByteArray.size_extract];omega
 have hsz2:=hS.size
 have hst:=Rd.start h.1 hS
 unfold Flm.decode
 rw [if_neg (by omega),if_pos (by exact ⟨hs,b0,b1,by rw [b2];rcases hz with rfl|rfl|rfl <;> decide,by rw [b3];omega⟩)]
 dsimp only
 rw [b2,b3,if_pos hst.err,show ((z:Nat):Int).toNat=z by omega,show ((F.length:Nat):Int).toNat=F.length by omega]
 obtain ⟨gs,e1,r1,f1⟩:=h.2 (s.extract 4 s.size) [] ⟨Rdr.start (s.extract 4 s.size) ch0,[],[],0,0,0⟩ 0 (by rw [List.append_nil];exact hst) rfl
 rw [Nat.add_zero] at e1
 have e2:Flm.frames (s.extract 4 s.size) z 0 gs=gs:=rfl
 rw [e1,e2]
 unfold Flm.fin
 have hf:Rdr.finish (s.extract 4 s.size) gs.r=gs.r:=by
  unfold Rdr.finish
  rw [if_neg]
  rintro ⟨_,hp⟩
  rw [r1.done] at hp
  omega
 rw [if_pos r1.err,hf,if_pos r1.err,f1,List.take_length]
theorem puts_app:∀ (l r:Bts) (t:WS),Pack.puts t (l++r)=Pack.puts (Pack.puts t l) r
 | [],_,_=>rfl
 | (_,_) :: l,r,_=>puts_app l r _
structure FilmOk (z:Nat) (F:List (List Px)):Prop where
 iz:IsZ z
 le8:F.length<=8
 len:∀ f,f<F.length->(F.getD f []).length=z*z
 ok:∀ f,∀ p ∈ F.getD f [],okPx p
theorem film_whole {z:Nat} {F:List (List Px)} (h:FilmOk z F):∀ f,f<=F.length->Whole z F f (filmL z F f)/\(Pack.puts Pack.init (filmL z F f)).m<=f*(57*(z*z)+3)
 | 0,_=>⟨whole_nil z F,by rw [Nat.zero_mul];exact Nat.le_refl 0⟩
 | f+1,hf=>by
  obtain ⟨h1,h2⟩:=film_whole h f (by omega)
  obtain ⟨a1,a2⟩:=area_facts (h.ok f) (Flm.cuts z) (Pack.puts Pack.init (filmL z F f)) 0 0 z (al0 h.iz) rfl
  refine ⟨whole_snoc h.iz (by omega) (h.len f (by omega)) h1 a1,?_⟩
  unfold filmL
  rw [puts_app,Nat.succ_mul]
  omega
theorem film_m {z:Nat} {F:List (List Px)} (h:FilmOk z F):(Pack.fin (filmL z F F.length)).m<=119992:=by
 have h1:=(film_whole h F.length (Nat.le_refl _)).2
 have h2:=h.le8
 have h3:z*z<=256:=by rcases h.iz with rfl|rfl|rfl <;> decide
 have h4:F.length*(57*(z*z)+3)<=8*(57*256+3):=Nat.mul_le_mul h2 (by omega)
 unfold Pack.fin
 omega
theorem decode_film {s:ByteArray} {z:Nat} {F:List (List Px)} (h:FilmOk z F) (hs:4<=s.size) (b0:Rdr.byteAt s 0=70) (b1:Rdr.byteAt s 1=66) (b2:Rdr.byteAt s 2=z) (b3:Rdr.byteAt s 3=F.length)
  (hS:Pack.BytesOf (s.extract 4 s.size) (Pack.fin (filmL z F F.length)).n (Pack.fin (filmL z F F.length)).m):Flm.decode s=(some (z,F),(0,0,0),0) :=
 decode_told h.iz h.le8 (film_whole h F.length (Nat.le_refl _)).1 hs b0 b1 b2 b3 hS (film_m h)
end Pk
section
open Go.RowKit
open Flm (Px okPx)
def kpk (c n:Int):Int:=(if c<0 then -(c+1) else c) % n
theorem kpk_bd (c n:Int) (h:0<n):0<=kpk c n/\kpk c n<n:=⟨Int.emod_nonneg _ (by omega),Int.emod_lt_of_pos _ h⟩
theorem kPick (w:World) (c n:Int) (c0:-9223372036854775808<=c) (c1:c<=9223372036854775807) (n0:0<n) (n1:n<=1000):Calls Tryz.prog 18 #[.int .i64 c,.int .i64 n] w fun e w'=>e=.returned (.int .i64 (kpk c n))/\w'=w:=by
 by_cases h:c<0
 ·have hn:(n == 0)=false:=by simp;omega
  have e:kpk c n=(-(c+1)) % n:=by unfold kpk;rw [if_pos h]
  have hb:=kpk_bd c n n0
  rw [e] at hb ⊢
  go_enter Tryz.func18,Tryz.ntmps18
  go_wp2
  go_ret
  refine ⟨ret_int ?_,rfl⟩
  rw [<- Int.neg_tmod,Int.tmod_eq_emod_of_nonneg (by omega)]
 ·have hn:(n == 0)=false:=by simp;omega
  have e:kpk c n=c % n:=by unfold kpk;rw [if_neg h]
  have hb:=kpk_bd c n n0
  rw [e] at hb ⊢
  go_enter Tryz.func18,Tryz.ntmps18
  go_wp2
  go_ret
  exact ⟨rfl,rfl⟩
theorem owns_apart {w:World} {B B':Nat} {e e':TypeId} {sz sz':Nat} {v v':Value} {n n':Nat} {xs xs':List Value} (h:w.ownsRow B e sz v n xs) (h':w.ownsRow B' e' sz' v' n' xs') (ne:e ≠ e'):∀ k,v.ownBlock=some k->v'.ownBlock ≠ some k:=by
 intro k hk hk'
 rcases h.2 with ⟨rfl,_⟩|⟨g,cap,cur,rfl,_,hg,_⟩
 ·simp [Value.ownBlock] at hk
 ·rcases h'.2 with ⟨rfl,_⟩|⟨g',cap',cur',rfl,_,hg',_⟩
  ·simp [Value.ownBlock] at hk'
  ·simp [Value.ownBlock] at hk hk'
   subst hk
   subst hk'
   rw [hg] at hg'
   simp at hg'
   exact ne hg'.2
structure KF (w:World) (B H z:Nat) (F:List (List Px)) (Lv:Value) (fs:List (Nat × Nat)):Prop where
 bx:w.heap[H]?=some (.cells #[.int .i64 z,Lv] 27 (0,0))
 row:w.ownsRow B 58 1 Lv F.length (fs.map fun q=>Value.slice (some ⟨q.1,0,none⟩) (z*z) q.2)
 ln:fs.length=F.length
 fr:∀ i,i<F.length->w.ownsRow B 50 3 (.slice (some ⟨(fs.getD i (0,0)).1,0,none⟩) (z*z) (fs.getD i (0,0)).2) (z*z) (pxCells (F.getD i []))
 ok:∀ i,∀ p ∈ F.getD i [],okPx p
 hB:H<B
theorem KF.below {w w':World} {B H z:Nat} {F:List (List Px)} {Lv:Value} {fs:List (Nat × Nat)} (h:KF w B H z F Lv fs) (f:Below w.heap.size w w'):KF w' B H z F Lv fs:=by
 have fr:=Frm.of_below (S:=fun _=>False) f
 exact ⟨(f.block H (heap_lt0 h.bx)).trans h.bx,fr.owns h.row (fun _ _ e=>e),h.ln,fun i hi=>fr.owns (h.fr i hi) (fun _ _ e=>e),h.ok,h.hB⟩
theorem getD_snoc {α:Type} (l:List α) (x d:α) (i:Nat):(l++[x]).getD i d=if i=l.length then x else l.getD i d:=by
 simp only [List.getD_eq_getElem?_getD,List.getElem?_append]
 by_cases h:i<l.length
 ·rw [if_pos h,if_neg (by omega)]
 ·rw [if_neg h]
  by_cases h':i=l.length
  ·subst h';simp
  ·rw [if_neg h',List.getElem?_eq_none (show [x].length<=i-l.length by simp;omega),List.getElem?_eq_none (show l.length<=i by omega)]
theorem KF.add {w1 w3:World} {B H z:Nat} {F:List (List Px)} {Lv v':Value} {fs:List (Nat × Nat)} {g c:Nat} {ps:List Px} (h:KF w1 B H z F Lv fs) (hl:w1.ownsRow B 50 3 (.slice (some ⟨g,0,none⟩) (z*z) c) (z*z) (pxCells ps)) (hp:∀ p ∈ ps,okPx p)
  (hown:w3.ownsRow B 58 1 v' (F.length+1) ((fs.map fun q=>Value.slice (some ⟨q.1,0,none⟩) (z*z) q.2)++[.slice (some ⟨g,0,none⟩) (z*z) c])) (hg:w1.grownBy w3 Lv.ownBlock) :
  KF (w3.setCell ⟨H,1,none⟩ v') B H z (F++[ps]) v' (fs++[(g,c)]):=by
 have hne:(50:TypeId) ≠ 58:=by decide
 have hHB:=h.hB
 have hrow:∀ {v:Value} {n:Nat} {xs:List Value},w1.ownsRow B 50 3 v n xs->(w3.setCell ⟨H,1,none⟩ v').ownsRow B 50 3 v n xs:=fun {v n xs} ho=>by
  have f:Frm (fun k=>Lv.ownBlock=some k \/ k=H) w1 (w3.setCell ⟨H,1,none⟩ v'):=((Frm.refl _ w1).grown hg (fun k e=>.inl (.inl e))).setCell (p:=⟨H,1,none⟩) (.inl (.inr rfl)) _
  refine f.owns ho (fun k hk e=>?_)
  rcases e with e|e
  ·exact owns_apart ho h.row hne k hk e
  ·have:=(World.ownsRow.lt ho k hk).1
   omega
 have hHr:∀ k,Lv.ownBlock=some k->k ≠ H:=fun k hk e=>by have:=(World.ownsRow.lt h.row k hk).1;omega
 have hvr:v'.ownBlock ≠ some H:=fun e=>by have:=(World.ownsRow.lt hown H e).1;omega
 have hb3:w3.heap[H]?=some (.cells #[.int .i64 z,Lv] 27 (0,0)):=(hg.block H (heap_lt0 h.bx) (fun e=>hHr H e.symm rfl)).trans h.bx
 refine ⟨?_,?_,by simp [h.ln],fun i hi=>?_,fun i p hpi=>?_,h.hB⟩
 ·have:=Go.heap_setCell_same w3 H 1 _ _ v' hb3
  simpa using this
 ·rw [List.length_append,List.map_append]
  exact hown.kept (grown_setCell w3 H 1 _) (.inr hvr)
 ·rw [List.length_append,List.length_singleton] at hi
  rw [getD_snoc,getD_snoc,h.ln]
  by_cases e:i=F.length
  ·rw [if_pos e,if_pos e];exact hrow hl
  ·rw [if_neg e,if_neg e];exact hrow (h.fr i (by omega))
 ·rw [getD_snoc] at hpi
  by_cases e:i=F.length
  ·rw [if_pos e] at hpi;exact hp p hpi
  ·rw [if_neg e] at hpi;exact h.ok i p hpi
theorem KF.film {w:World} {B H z:Nat} {F:List (List Px)} {Lv:Value} {fs:List (Nat × Nat)} (h:KF w B H z F Lv fs):∃ a c,Lv=.slice a F.length c/\FrsIn w a F.length z F (fun i=>(fs.getD i (0,0)).1) (fun i=>(fs.getD i (0,0)).2):=by
 obtain ⟨a,c,e,hor⟩:=owns_form h.row
 refine ⟨a,c,e,?_⟩
 rcases hor with h0|⟨g,rfl,_⟩
 ·exact .inl h0
 ·refine .inr ⟨g,0,rfl,fun j hj=>?_⟩
  have hln:=h.ln
  have hr:=h.row
  rw [e] at hr
  constructor
  ·rw [Nat.zero_add,World.ownsRow.cellAt hr j (by omega),List.getElem?_map,List.getElem?_eq_getElem (by omega)]
   simp [List.getD_eq_getElem?_getD,show j<fs.length by omega]
  ·have ho:=h.fr j hj
   have hl:=ho.1
   rw [pxCells_len] at hl
   refine ⟨(World.ownsRow.lt ho _ rfl).2,fun k hk=>?_⟩
   obtain ⟨q0,q1,q2⟩:=pxCells_get (F.getD j []) k (by omega)
   exact ⟨(World.ownsRow.cellAt ho _ (by omega)).trans q0,(World.ownsRow.cellAt ho _ (by omega)).trans q1,(World.ownsRow.cellAt ho _ (by omega)).trans q2⟩
end
end Go.Proofs.YtekfbphnoibnjaaGreatDoor
