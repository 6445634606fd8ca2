/-
  RefDec RefDec2 FilmFn SameFilm PRound
-/
import Derived.Test.YtekfbphnoibnjaaGreatDoorG07
import Derived.Deep.WholeRow
import Derived.RangeFuncCalls
import Derived.RangeFuncFrom
import Derived.OrdersIn
set_option maxHeartbeats 4000000
namespace Go.Proofs.YtekfbphnoibnjaaGreatDoor
section
open Go.RowKit
open Flm (Px FS)
def HeadOk (s:ByteArray):Prop:=4<=s.size/\Rdr.byteAt s 0=70/\Rdr.byteAt s 1=66/\(Rdr.byteAt s 2=4 \/ Rdr.byteAt s 2=8 \/ Rdr.byteAt s 2=16)/\Rdr.byteAt s 3<=8
def noFilm (e:Int):Value:=.tuple #[.agg #[.int .i64 0,.slice none 0 0],.agg #[.int .i64 0,.int .i64 0,.int .i64 0],.int .i64 e]
theorem below4 (w:World) (a b c d:Obj):Below w.heap.size w ((((w.alloc a).alloc b).alloc c).alloc d).drew :=
 ((((((Below.refl _ w).alloc (Nat.le_refl _) _).alloc (by simp) _).alloc (by simp;omega) _).alloc (by simp;omega) _)).trans ⟨rfl,rfl,rfl,Nat.le_refl _,fun _ _=>rfl⟩
set_option maxRecDepth 20000 in
theorem dec_long (w:World) (s:ByteArray) (hs:120000<s.size) :
  Calls Tryz.prog 68 #[.string s] w fun x w'=>x=.returned (noFilm 1)/\Below w.heap.size w w':=by
 have hs':(120000:Int)<(s.size:Int):=by omega
 go_enter Tryz.func68,Tryz.ntmps68
 go_wp2
 go_region
 go_wp2
 refine bodyPost_ret (v:=noFilm 1) ?_ rfl ⟨rfl,below4 w _ _ _ _⟩
 simp [results,Tryz.results68,go_sem,noFilm]
set_option maxRecDepth 20000 in
theorem dec_h0 (w:World) (s:ByteArray) (hs:s.size<=120000) (h4:s.size<4) :
  Calls Tryz.prog 68 #[.string s] w fun x w'=>x=.returned (noFilm 4)/\Below w.heap.size w w':=by
 have hs':(s.size:Int)<=120000:=by omega
 have h4':(s.size:Int)<4:=by omega
 go_enter Tryz.func68,Tryz.ntmps68
 go_wp2
 go_region
 go_wp2
 refine bodyPost_ret (v:=noFilm 4) ?_ rfl ⟨rfl,below4 w _ _ _ _⟩
 simp [results,Tryz.results68,go_sem,noFilm]
set_option maxRecDepth 20000 in
theorem dec_h1 (w:World) (s:ByteArray) (hs:s.size<=120000) (h4:4<=s.size) (h0:((s[0]'(by omega)).toNat:Int) ≠ 70) :
  Calls Tryz.prog 68 #[.string s] w fun x w'=>x=.returned (noFilm 4)/\Below w.heap.size w w':=by
 have hs':(s.size:Int)<=120000:=by omega
 have h4':(4:Int)<=(s.size:Int):=by omega
 have h0':(((s[0]'(by omega)).toNat:Int) == 70)=false:=by simpa using h0
 go_enter Tryz.func68,Tryz.ntmps68
 go_wp2
 go_region
 go_wp2
 refine bodyPost_ret (v:=noFilm 4) ?_ rfl ⟨rfl,below4 w _ _ _ _⟩
 simp [results,Tryz.results68,go_sem,noFilm]
set_option maxRecDepth 20000 in
theorem dec_h2 (w:World) (s:ByteArray) (hs:s.size<=120000) (h4:4<=s.size) (h0:((s[0]'(by omega)).toNat:Int)=70) (h1:((s[1]'(by omega)).toNat:Int) ≠ 66) :
  Calls Tryz.prog 68 #[.string s] w fun x w'=>x=.returned (noFilm 4)/\Below w.heap.size w w':=by
 have hs':(s.size:Int)<=120000:=by omega
 have h4':(4:Int)<=(s.size:Int):=by omega
 have h1':(((s[1]'(by omega)).toNat:Int) == 66)=false:=by simpa using h1
 go_enter Tryz.func68,Tryz.ntmps68
 go_wp2
 go_region
 go_wp2
 refine bodyPost_ret (v:=noFilm 4) ?_ rfl ⟨rfl,below4 w _ _ _ _⟩
 simp [results,Tryz.results68,go_sem,noFilm]
set_option maxRecDepth 20000 in
theorem dec_h3 (w:World) (s:ByteArray) (hs:s.size<=120000) (h4:4<=s.size) (h0:((s[0]'(by omega)).toNat:Int)=70) (h1:((s[1]'(by omega)).toNat:Int)=66) (h2:((s[2]'(by omega)).toNat:Int) ≠ 4) (h28:((s[2]'(by omega)).toNat:Int) ≠ 8) (h216:((s[2]'(by omega)).toNat:Int) ≠ 16) :
  Calls Tryz.prog 68 #[.string s] w fun x w'=>x=.returned (noFilm 4)/\Below w.heap.size w w':=by
 have hs':(s.size:Int)<=120000:=by omega
 have h4':(4:Int)<=(s.size:Int):=by omega
 have h2':(((s[2]'(by omega)).toNat:Int) == 4)=false:=by simpa using h2
 have h28':(((s[2]'(by omega)).toNat:Int) == 8)=false:=by simpa using h28
 have h216':(((s[2]'(by omega)).toNat:Int) == 16)=false:=by simpa using h216
 go_enter Tryz.func68,Tryz.ntmps68
 go_wp2
 go_region
 go_wp2
 refine bodyPost_ret (v:=noFilm 4) ?_ rfl ⟨rfl,below4 w _ _ _ _⟩
 simp [results,Tryz.results68,go_sem,noFilm]
set_option maxRecDepth 20000 in
theorem dec_h4_4 (w:World) (s:ByteArray) (hs:s.size<=120000) (h4:4<=s.size) (h0:((s[0]'(by omega)).toNat:Int)=70) (h1:((s[1]'(by omega)).toNat:Int)=66) (h2:((s[2]'(by omega)).toNat:Int)=4) (h3:8<((s[3]'(by omega)).toNat:Int)) :
  Calls Tryz.prog 68 #[.string s] w fun x w'=>x=.returned (noFilm 4)/\Below w.heap.size w w':=by
 have hs':(s.size:Int)<=120000:=by omega
 have h4':(4:Int)<=(s.size:Int):=by omega
 go_enter Tryz.func68,Tryz.ntmps68
 go_wp2
 go_region
 go_wp2
 refine bodyPost_ret (v:=noFilm 4) ?_ rfl ⟨rfl,below4 w _ _ _ _⟩
 simp [results,Tryz.results68,go_sem,noFilm]
set_option maxRecDepth 20000 in
theorem dec_h4_8 (w:World) (s:ByteArray) (hs:s.size<=120000) (h4:4<=s.size) (h0:((s[0]'(by omega)).toNat:Int)=70) (h1:((s[1]'(by omega)).toNat:Int)=66) (h2:((s[2]'(by omega)).toNat:Int)=8) (h3:8<((s[3]'(by omega)).toNat:Int)) :
  Calls Tryz.prog 68 #[.string s] w fun x w'=>x=.returned (noFilm 4)/\Below w.heap.size w w':=by
 have hs':(s.size:Int)<=120000:=by omega
 have h4':(4:Int)<=(s.size:Int):=by omega
 go_enter Tryz.func68,Tryz.ntmps68
 go_wp2
 go_region
 go_wp2
 refine bodyPost_ret (v:=noFilm 4) ?_ rfl ⟨rfl,below4 w _ _ _ _⟩
 simp [results,Tryz.results68,go_sem,noFilm]
set_option maxRecDepth 20000 in
theorem dec_h4_16 (w:World) (s:ByteArray) (hs:s.size<=120000) (h4:4<=s.size) (h0:((s[0]'(by omega)).toNat:Int)=70) (h1:((s[1]'(by omega)).toNat:Int)=66) (h2:((s[2]'(by omega)).toNat:Int)=16) (h3:8<((s[3]'(by omega)).toNat:Int)) :
  Calls Tryz.prog 68 #[.string s] w fun x w'=>x=.returned (noFilm 4)/\Below w.heap.size w w':=by
 have hs':(s.size:Int)<=120000:=by omega
 have h4':(4:Int)<=(s.size:Int):=by omega
 go_enter Tryz.func68,Tryz.ntmps68
 go_wp2
 go_region
 go_wp2
 refine bodyPost_ret (v:=noFilm 4) ?_ rfl ⟨rfl,below4 w _ _ _ _⟩
 simp [results,Tryz.results68,go_sem,noFilm]
theorem dec_head (w:World) (s:ByteArray) (hs:s.size<=120000) (hn:¬ HeadOk s) :
  Calls Tryz.prog 68 #[.string s] w fun x w'=>x=.returned (noFilm 4)/\Below w.heap.size w w':=by
 by_cases h4:4<=s.size
 ·have b0:=byteAt_get s 0 (by omega)
  have b1:=byteAt_get s 1 (by omega)
  have b2:=byteAt_get s 2 (by omega)
  have b3:=byteAt_get s 3 (by omega)
  by_cases h0:((s[0]'(by omega)).toNat:Int)=70
  ·by_cases h1:((s[1]'(by omega)).toNat:Int)=66
   ·by_cases h2:((s[2]'(by omega)).toNat:Int)=4
    ·exact dec_h4_4 w s hs h4 h0 h1 h2 (by
      rcases Int.lt_or_le 8 ((s[3]'(by omega)).toNat:Int) with h|h
      ·exact h
      ·exact absurd ⟨h4,b0.trans h0,b1.trans h1,.inl (b2.trans h2),by rw [b3];exact h⟩ hn)
    ·by_cases h28:((s[2]'(by omega)).toNat:Int)=8
     ·exact dec_h4_8 w s hs h4 h0 h1 h28 (by
       rcases Int.lt_or_le 8 ((s[3]'(by omega)).toNat:Int) with h|h
       ·exact h
       ·exact absurd ⟨h4,b0.trans h0,b1.trans h1,.inr (.inl (b2.trans h28)),by rw [b3];exact h⟩ hn)
     ·by_cases h216:((s[2]'(by omega)).toNat:Int)=16
      ·exact dec_h4_16 w s hs h4 h0 h1 h216 (by
        rcases Int.lt_or_le 8 ((s[3]'(by omega)).toNat:Int) with h|h
        ·exact h
        ·exact absurd ⟨h4,b0.trans h0,b1.trans h1,.inr (.inr (b2.trans h216)),by rw [b3];exact h⟩ hn)
      ·exact dec_h3 w s hs h4 h0 h1 h2 h28 h216
   ·exact dec_h2 w s hs h4 h0 h1
  ·exact dec_h1 w s hs h4 h0
 ·exact dec_h0 w s hs (by omega)
end
section
open Go.RowKit
open Flm (Px FS)
structure ShL (w:World) (B p b g:Nat) (Lv Rv:Value) (fbs:List Nat) (s:ByteArray) (z:Nat) (fs:FS):Prop where
 rd:RdAt w B b g s fs.r
 ok:Rdr.Ok s fs.r
 c0:w.cell? ⟨p,0,none⟩=some (.pointer (some ⟨b,0,none⟩))
 c1:w.cell? ⟨p,1,none⟩=some (.int .i64 z)
 c2:w.cell? ⟨p,2,none⟩=some Lv
 c3:w.cell? ⟨p,3,none⟩=some Rv
 c4:w.cell? ⟨p,4,none⟩=some (.int .i64 fs.fr)
 c5:w.cell? ⟨p,5,none⟩=some (.int .i64 fs.x)
 c6:w.cell? ⟨p,6,none⟩=some (.int .i64 fs.y)
 fz:∀ o,w.frozen? ⟨p,o,none⟩=false
 rows:w.ownsRow B 58 1 Lv fs.frs.length (rowVals (z*z) fbs)
 frs:∀ i,i<fs.frs.length->Pixs w B (fbs.getD i 0) (z*z) (fs.frs.getD i [])
 n1:fbs.length=fs.frs.length
 zz:z=4 \/ z=8 \/ z=16
 ne:(p :: b :: g :: fbs).Nodup
 nl:∀ k,Lv.ownBlock=some k->k ≠ p/\k ≠ b/\k ≠ g/\k ∉ fbs
 px:∀ i k,Flm.okPx (Flm.px fs i k)
 lo:B<=p
 up:p<w.heap.size
theorem ShAt.toL {w:World} {B p b g lg lc rg z:Nat} {fbs:List Nat} {s:ByteArray} {fs:FS} (h:ShAt w B p b g lg lc rg fbs s z fs) :
  ShL w B p b g (.slice (some ⟨lg,0,none⟩) fs.frs.length lc) (.slice (some ⟨rg,0,none⟩) (z*z) (z*z)) fbs s z fs:=by
 obtain ⟨⟨n1,n2,n3,n4,n5⟩,⟨n6,n7,n8,n9⟩,⟨n10,n11,n12⟩,⟨n13,n14⟩,n15,n16⟩:=h.nes
 refine ⟨h.rd,h.ok,h.c0,h.c1,h.c2,h.c3,h.c4,h.c5,h.c6,h.fz,h.rows,h.frs,h.n1,h.zz,?_,?_,h.px,h.lo,h.up⟩
 ·simp only [List.nodup_cons,List.mem_cons,not_or]
  exact ⟨⟨n1,n2,n5⟩,⟨n6,n9⟩,n12,n16⟩
 ·intro k hk
  obtain rfl:lg=k:=by simpa [Value.ownBlock] using hk
  exact ⟨Ne.symm n3,Ne.symm n7,Ne.symm n10,n14⟩
theorem infoRow:(Tryz.prog.info? 58).map (fun i=>(i.zero,i.size,i.bytes))=some (some (.slice none 0 0),1,24):=by kernel_rfl
theorem infoBool:(Tryz.prog.info? 4).map (fun i=>(i.zero,i.size,i.bytes))=some (some (.bool false),1,1):=by kernel_rfl
theorem makePx (n:Nat) (hn:n<=1000) (w:World):Sem.run Tryz.prog (Instr.makeSlice 58 (.int .i64 n) (.int .i64 n)) w=.ok (.slice (some ⟨w.heap.size,0,none⟩) n n) (w.alloc (.cells (madeCells #[.int .u8 0,.int .u8 0,.int .u8 0] (n*3)) 50)):=by
 obtain ⟨i0,hi,h0,h1,h2⟩:=info_parts infoPx
 have:=run_makeSlice (P:=Tryz.prog) w 58 50 i0 _ Tryz.underlying58 hi h0 .i64 .i64 n n (by omega) (Int.le_refl _) (by rw [h1];simp;omega) (by rw [h2];omega) (by omega)
 rw [h1] at this
 simpa [Value.cells] using this
theorem makeBool (n:Nat) (hn:n<=1000) (w:World):Sem.run Tryz.prog (Instr.makeSlice 108 (.int .i64 n) (.int .i64 n)) w=.ok (.slice (some ⟨w.heap.size,0,none⟩) n n) (w.alloc (.cells (madeCells #[.bool false] n) 4)):=by
 obtain ⟨i0,hi,h0,h1,h2⟩:=info_parts infoBool
 have:=run_makeSlice (P:=Tryz.prog) w 108 4 i0 _ Tryz.underlying108 hi h0 .i64 .i64 n n (by omega) (Int.le_refl _) (by rw [h1];simp;omega) (by rw [h2];omega) (by omega)
 rw [h1] at this
 simpa [Value.cells] using this
theorem ShL.zzle {w:World} {B p b g:Nat} {Lv Rv:Value} {fbs:List Nat} {s:ByteArray} {z:Nat} {fs:FS} (h:ShL w B p b g Lv Rv fbs s z fs):z*z<=256:=by
 rcases h.zz with e|e|e <;> subst e <;> decide
theorem getD_snoc_lt {α:Type} (l:List α) (x d:α) (i:Nat) (h:i<l.length):(l++[x]).getD i d=l.getD i d:=by
 simp [List.getD_eq_getElem?_getD,List.getElem?_append,h]
theorem getD_snoc_eq {α:Type} (l:List α) (x d:α):(l++[x]).getD l.length d=x:=by
 simp [List.getD_eq_getElem?_getD]
def Flm.more (z:Nat) (q:FS):FS:={ q with frs:=q.frs++[List.replicate (z*z) (0,0,0)] }
theorem ShL.grow {w w5:World} {B p b g:Nat} {Lv Rv:Value} {fbs:List Nat} {s:ByteArray} {z:Nat} {q:FS} (h:ShL w B p b g Lv Rv fbs s z q) (hB:B<=w.heap.size) {V:Obj} {gg cap:Nat}
  (ho:w5.ownsRow B 58 1 (.slice (some ⟨gg,0,none⟩) (q.frs.length+1) cap) (q.frs.length+1) (rowVals (z*z) fbs++[.slice (some ⟨w.heap.size,0,none⟩) (z*z) (z*z)]))
  (hg:((w.alloc (.cells (madeCells #[.int .u8 0,.int .u8 0,.int .u8 0] (z*z*3)) 50)).alloc V).drew.grownBy w5 Lv.ownBlock) (hat:Lv.ownBlock=some gg \/ gg=w.heap.size+2) :
  ShL (w5.setCell ⟨p,2,none⟩ (.slice (some ⟨gg,0,none⟩) (q.frs.length+1) cap)) B p b g (.slice (some ⟨gg,0,none⟩) (q.frs.length+1) cap) Rv (fbs++[w.heap.size]) s z (Flm.more z q) /\
   Below B w (w5.setCell ⟨p,2,none⟩ (.slice (some ⟨gg,0,none⟩) (q.frs.length+1) cap)):=by
 have hup:=h.up
 have hn1:=h.n1
 obtain ⟨w2,hw2⟩:∃ w2,w2=((w.alloc (.cells (madeCells #[.int .u8 0,.int .u8 0,.int .u8 0] (z*z*3)) 50)).alloc V).drew:=⟨_,rfl⟩
 rw [<- hw2] at hg
 have hs2:w2.heap.size=w.heap.size+2:=by rw [hw2];simp
 have b2:Below w.heap.size w w2:=by rw [hw2];exact (((Below.refl _ w).alloc (Nat.le_refl _) _).alloc (by simp) _).trans ⟨rfl,rfl,rfl,Nat.le_refl _,fun _ _=>rfl⟩
 have f5:Frm (fun k=>Lv.ownBlock=some k) w w5:=(Frm.of_below b2).trans ((Frm.refl _ w2).grown hg (fun k e=>.inl e))
 have f6:Frm (fun k=>k=p \/ Lv.ownBlock=some k) w (w5.setCell ⟨p,2,none⟩ (.slice (some ⟨gg,0,none⟩) (q.frs.length+1) cap)):=(f5.mono (fun k _ e=>.inr e)).setCell (p:=⟨p,2,none⟩) (.inl (.inl rfl)) _
 have hpb:∀ k,Lv.ownBlock=some k->k ≠ p/\k ≠ b/\k ≠ g/\k ∉ fbs:=h.nl
 have hnd:=h.ne
 simp only [List.nodup_cons,List.mem_cons,not_or] at hnd
 obtain ⟨⟨n1,n2,n3⟩,⟨n4,n5⟩,n6,n7⟩:=hnd
 have hlt:∀ k,k ∈ fbs->k<w.heap.size:=fun k hk=>by
  obtain ⟨i,hi,rfl⟩:=List.getElem_of_mem hk
  have:=(h.frs i (by omega)).lt.2
  rw [List.getD_eq_getElem?_getD,List.getElem?_eq_getElem hi] at this
  exact this
 have hbu:=h.rd.up
 have hgu:=h.rd.nums.lt.2
 have hp5:w5.heap[p]?=w.heap[p]?:=f5.block p hup (fun e=>(hpb p e).1 rfl)
 have C:∀ o,o ≠ 2->(w5.setCell ⟨p,2,none⟩ (.slice (some ⟨gg,0,none⟩) (q.frs.length+1) cap)).cell? ⟨p,o,none⟩=w.cell? ⟨p,o,none⟩:=fun o ho=>by
  rw [World.cell?_setCell_other]
  ·exact World.cell?_of_block (a:=⟨p,o,none⟩) hp5
  ·intro e;simp only [Addr.mk.injEq,and_true,true_and] at e;exact ho e.symm
 have hgg:gg ≠ p:=by
  rcases hat with e|e
  ·exact (hpb gg e).1
  ·omega
 have hnew:Pixs (w5.setCell ⟨p,2,none⟩ (.slice (some ⟨gg,0,none⟩) (q.frs.length+1) cap)) B w.heap.size (z*z) (List.replicate (z*z) (0,0,0)):=by
  have h0:Pixs w2 B w.heap.size (z*z) (List.replicate (z*z) (0,0,0)):=by
   unfold Pixs
   rw [<- made_px,hw2]
   exact ((World.ownsRow_lit w _ (z*z) hB (by have:=h.zzle;unfold maxLen;omega) (size_madeCells _ _)).alloc _).drew
  refine Frm.pixs (S:=fun k=>k=p \/ Lv.ownBlock=some k) (((Frm.refl _ w2).grown hg (fun k e=>.inl (.inr e))).setCell (p:=⟨p,2,none⟩) (.inl (.inl rfl)) _) h0 ?_
  rintro (e|e)
  ·omega
  ·exact absurd (World.ownsRow.lt h.rows _ e).2 (Nat.lt_irrefl _)
 refine ⟨⟨h.rd.frm f6 (fun e=>by rcases e with e|e;exact n1 e.symm;exact (hpb _ e).2.1 rfl) (fun e=>by rcases e with e|e;exact n2 e.symm;exact (hpb _ e).2.2.1 rfl),h.ok,(C 0 (by decide)).trans h.c0,(C 1 (by decide)).trans h.c1,?_,(C 3 (by decide)).trans h.c3,(C 4 (by decide)).trans h.c4,(C 5 (by decide)).trans h.c5,(C 6 (by decide)).trans h.c6,fun o=>by rw [World.frozen?_setCell];exact (World.frozen?_of_block (a:=⟨p,o,none⟩) hp5).trans (h.fz o),?_,?_,?_,h.zz,?_,?_,?_,h.lo,Nat.lt_of_lt_of_le h.up f6.size⟩,f6.below hB (fun k e=>by rcases e with e|e;rw [e];exact h.lo;exact (World.ownsRow.lt h.rows k e).1)⟩
 ·exact World.cell?_setCell_same' _ _ _ (by rw [World.cell?_of_block (a:=⟨p,2,none⟩) hp5,h.c2];rfl)
 ·have hl:(Flm.more z q).frs.length=q.frs.length+1:=by unfold Flm.more;simp
  rw [hl,show rowVals (z*z) (fbs++[w.heap.size])=rowVals (z*z) fbs++[.slice (some ⟨w.heap.size,0,none⟩) (z*z) (z*z)] by unfold rowVals;simp]
  exact ho.kept (grown_setCell w5 p 2 _) (.inr (by simp [Value.ownBlock];exact hgg))
 ·intro i hi
  have hl:(Flm.more z q).frs.length=q.frs.length+1:=by unfold Flm.more;simp
  rw [hl] at hi
  by_cases he:i=q.frs.length
  ·subst he
   rw [show (fbs++[w.heap.size]).getD q.frs.length 0=w.heap.size by rw [<- hn1];exact getD_snoc_eq _ _ _,show (Flm.more z q).frs.getD q.frs.length []=List.replicate (z*z) (0,0,0) by unfold Flm.more;exact getD_snoc_eq _ _ _]
   exact hnew
  ·rw [getD_snoc_lt fbs _ _ i (by omega),show (Flm.more z q).frs.getD i []=q.frs.getD i [] by unfold Flm.more;exact getD_snoc_lt _ _ _ i (by omega)]
   refine f6.pixs (h.frs i (by omega)) ?_
   have hm:fbs.getD i 0 ∈ fbs:=by rw [List.getD_eq_getElem?_getD,List.getElem?_eq_getElem (by omega)];exact List.getElem_mem _
   rintro (e|e)
   ·exact n3 (e ▸ hm)
   ·exact (hpb _ e).2.2.2 hm
 ·unfold Flm.more;simp [hn1]
 ·simp only [List.nodup_cons,List.mem_cons,not_or,List.mem_append,List.not_mem_nil,or_false]
  refine ⟨⟨n1,n2,n3,by omega⟩,⟨n4,n5,by omega⟩,⟨n6,by omega⟩,?_⟩
  rw [List.nodup_append]
  refine ⟨n7,by simp,fun a ha c hc=>?_⟩
  simp only [List.mem_cons,List.not_mem_nil,or_false] at hc
  have:=hlt a ha
  omega
 ·intro k hk
  obtain rfl:gg=k:=by simpa [Value.ownBlock] using hk
  rcases hat with e|e
  ·obtain ⟨a1,a2,a3,a4⟩:=hpb gg e
   have:=(World.ownsRow.lt h.rows gg e).2
   refine ⟨a1,a2,a3,?_⟩
   simp only [List.mem_append,List.mem_cons,List.not_mem_nil,or_false,not_or]
   exact ⟨a4,by omega⟩
  ·refine ⟨by omega,by omega,by omega,?_⟩
   simp only [List.mem_append,List.mem_cons,List.not_mem_nil,or_false,not_or]
   exact ⟨fun hm=>by have:=hlt gg hm;omega,by omega⟩
 ·intro i k
  unfold Flm.px Flm.more
  by_cases hi:i<q.frs.length
  ·rw [getD_snoc_lt _ _ _ i hi];exact h.px i k
  ·by_cases he:i=q.frs.length
   ·subst he
    rw [getD_snoc_eq]
    rw [List.getD_eq_getElem?_getD,List.getElem?_replicate]
    split <;> simp [Flm.okPx]
   ·rw [List.getD_eq_getElem?_getD (l:=q.frs++_),List.getElem?_eq_none (by simp;omega)]
    simp [Flm.okPx]
theorem ShL.toAt {w:World} {B p b g gg cap:Nat} {Rv:Value} {fbs:List Nat} {s:ByteArray} {z:Nat} {q:FS} (h:ShL w B p b g (.slice (some ⟨gg,0,none⟩) q.frs.length cap) Rv fbs s z q) (hB:B<=w.heap.size) (hn:0<q.frs.length/\q.frs.length<=8) :
  ShAt ((w.setCell ⟨p,3,none⟩ (.slice (some ⟨w.heap.size,0,none⟩) (z*z) (z*z))).alloc (.cells (madeCells #[.bool false] (z*z)) 4)).drew B p b g gg cap w.heap.size fbs s z { q with rd:=List.replicate (z*z) false } /\
   Below B w ((w.setCell ⟨p,3,none⟩ (.slice (some ⟨w.heap.size,0,none⟩) (z*z) (z*z))).alloc (.cells (madeCells #[.bool false] (z*z)) 4)).drew:=by
 have hup:=h.up
 have hn1:=h.n1
 obtain ⟨w1,hw1⟩:∃ w1,w1=w.setCell ⟨p,3,none⟩ (.slice (some ⟨w.heap.size,0,none⟩) (z*z) (z*z)):=⟨_,rfl⟩
 have hs1:w1.heap.size=w.heap.size:=by rw [hw1,World.size_setCell]
 obtain ⟨w2,hw2⟩:∃ w2,w2=(w1.alloc (.cells (madeCells #[.bool false] (z*z)) 4)).drew:=⟨_,rfl⟩
 have b2:Below w.heap.size w1 w2:=by rw [hw2];exact ((Below.refl _ w1).alloc (by omega) _).trans ⟨rfl,rfl,rfl,Nat.le_refl _,fun _ _=>rfl⟩
 rw [<- hw1,<- hw2]
 have f1:Frm (fun k=>k=p) w w1:=by rw [hw1];exact Frm.setCell (p:=⟨p,3,none⟩) (Frm.refl (fun k=>k=p) w) (.inl rfl) _
 have f6:Frm (fun k=>k=p) w w2:=f1.trans (Frm.of_below (by rw [hs1];exact b2))
 have hnd:=h.ne
 simp only [List.nodup_cons,List.mem_cons,not_or] at hnd
 obtain ⟨⟨n1,n2,n3⟩,⟨n4,n5⟩,n6,n7⟩:=hnd
 obtain ⟨m1,m2,m3,m4⟩:=h.nl gg rfl
 have hlt:∀ k,k ∈ fbs->k<w.heap.size:=fun k hk=>by
  obtain ⟨i,hi,rfl⟩:=List.getElem_of_mem hk
  have:=(h.frs i (by omega)).lt.2
  rw [List.getD_eq_getElem?_getD,List.getElem?_eq_getElem hi] at this
  exact this
 have hbu:=h.rd.up
 have hgu:=h.rd.nums.lt.2
 have hggu:=(World.ownsRow.lt h.rows gg rfl).2
 have hp5:w2.heap[p]?=w1.heap[p]?:=b2.block p hup
 have C:∀ o,o ≠ 3->w2.cell? ⟨p,o,none⟩=w.cell? ⟨p,o,none⟩:=fun o ho=>by
  rw [World.cell?_of_block (a:=⟨p,o,none⟩) hp5,hw1,World.cell?_setCell_other]
  intro e;simp only [Addr.mk.injEq,and_true,true_and] at e;exact ho e.symm
 refine ⟨⟨h.rd.frm f6 (fun e=>n1 e.symm) (fun e=>n2 e.symm),h.ok,(C 0 (by decide)).trans h.c0,(C 1 (by decide)).trans h.c1,(C 2 (by decide)).trans h.c2,?_,(C 4 (by decide)).trans h.c4,(C 5 (by decide)).trans h.c5,(C 6 (by decide)).trans h.c6,fun o=>by rw [World.frozen?_of_block (a:=⟨p,o,none⟩) hp5,hw1,World.frozen?_setCell];exact h.fz o,?_,?_,?_,h.n1,hn,h.zz,?_,h.px,h.lo,Nat.lt_of_lt_of_le h.up f6.size⟩,f6.below hB (fun k e=>by rw [e];exact h.lo)⟩
 ·rw [World.cell?_of_block (a:=⟨p,3,none⟩) hp5,hw1]
  exact World.cell?_setCell_same _ _ _ h.c3
 ·exact f6.owns h.rows (fun k e=>by simp [Value.ownBlock] at e;subst e;exact m1)
 ·intro i hi
  have hm:fbs.getD i 0 ∈ fbs:=by rw [List.getD_eq_getElem?_getD,List.getElem?_eq_getElem (by rw [hn1];exact hi)];exact List.getElem_mem _
  exact f6.pixs (h.frs i hi) (fun e=>n3 (e ▸ hm))
 ·unfold Bools
  have:=(World.ownsRow_lit (base:=B) (e:=4) (size:=1) w1 (madeCells #[.bool false] (z*z)) (z*z) (by omega) (by have:=h.zzle;unfold maxLen;omega) (by rw [size_madeCells];omega)).drew
  rw [hw2]
  rw [toList_madeCells_one,hs1] at this
  simpa using this
 ·simp only [List.nodup_cons,List.mem_cons,not_or]
  refine ⟨⟨n1,n2,Ne.symm m1,by omega,n3⟩,⟨n4,Ne.symm m2,by omega,n5⟩,⟨Ne.symm m3,by omega,n6⟩,⟨by omega,m4⟩,fun hm=>by have:=hlt _ hm;omega,n7⟩
theorem cell_alloc2_drew {w:World} {a b:Obj} {p o:Nat} (h:p<w.heap.size):((w.alloc a).alloc b).drew.cell? ⟨p,o,none⟩=w.cell? ⟨p,o,none⟩ :=
 World.cell?_of_block (a:=⟨p,o,none⟩) ((Below.heap_alloc (w.alloc a) b p (by simp;omega)).trans (Below.heap_alloc w a p h))
theorem frozen_alloc2_drew {w:World} {a b:Obj} {p o:Nat} (h:p<w.heap.size):((w.alloc a).alloc b).drew.frozen? ⟨p,o,none⟩=w.frozen? ⟨p,o,none⟩ :=
 World.frozen?_of_block (a:=⟨p,o,none⟩) ((Below.heap_alloc (w.alloc a) b p (by simp;omega)).trans (Below.heap_alloc w a p h))
theorem ShAt.frmB {w w':World} {B p b g lg lc rg z:Nat} {fbs:List Nat} {s:ByteArray} {fs:FS} (h:ShAt w B p b g lg lc rg fbs s z fs) (hB:B<=w.heap.size) (f:Frm (shS p b g rg (fbs.getD (Flm.now fs) 0)) w w'):Below B w w':=by
 have hnow:Flm.now fs<fs.frs.length:=by have:=h.n2;unfold Flm.now;omega
 refine f.below hB (fun k e=>?_)
 rcases e with e|e|e|e|e
 ·rw [e];exact h.lo
 ·rw [e];exact h.rd.lo
 ·rw [e];exact h.rd.nums.lt.1
 ·rw [e];exact h.read.lt.1
 ·rw [e];exact (h.frs _ hnow).lt.1
theorem box4 (w:World) (a b c d:Obj) :
  ((((w.alloc a).alloc b).alloc c).alloc d).heap[w.heap.size]?=some a/\((((w.alloc a).alloc b).alloc c).alloc d).heap[w.heap.size+1]?=some b/\((((w.alloc a).alloc b).alloc c).alloc d).heap[w.heap.size+1+1]?=some c/\((((w.alloc a).alloc b).alloc c).alloc d).heap[w.heap.size+1+1+1]?=some d:=by
 have h1:=heap_alloc_last w a
 have h2:=heap_alloc_last (w.alloc a) b
 have h3:=heap_alloc_last ((w.alloc a).alloc b) c
 have h4:=heap_alloc_last (((w.alloc a).alloc b).alloc c) d
 simp only [World.size_alloc] at h2 h3 h4
 refine ⟨?_,?_,?_,h4⟩
 ·rw [Below.heap_alloc _ _ _ (by simp only [World.size_alloc];omega),Below.heap_alloc _ _ _ (by simp only [World.size_alloc];omega),Below.heap_alloc _ _ _ (by simp only [World.size_alloc];omega),h1]
 ·rw [Below.heap_alloc _ _ _ (by simp only [World.size_alloc];omega),Below.heap_alloc _ _ _ (by simp only [World.size_alloc];omega),h2]
 ·rw [Below.heap_alloc _ _ _ (by simp only [World.size_alloc];omega),h3]
theorem five0 (wr:World) (H G:Nat) (hHG:H ≠ G) (u0 u1 v0 v1 v2:Value) {x0 x1 y0 y1 y2:Value} (a00:wr.cell? ⟨H,0,none⟩=some x0) (a01:wr.cell? ⟨H,1,none⟩=some x1) (a10:wr.cell? ⟨G,0,none⟩=some y0) (a11:wr.cell? ⟨G,1,none⟩=some y1) (a12:wr.cell? ⟨G,2,none⟩=some y2) (X:World)
  (hX:X=((((wr.setCell ⟨H,0,none⟩ u0).setCell ⟨H,1,none⟩ u1).setCell ⟨G,0,none⟩ v0).setCell ⟨G,1,none⟩ v1).setCell ⟨G,2,none⟩ v2) :
  X.cell? ⟨H,0,none⟩=some u0/\X.cell? ⟨H,1,none⟩=some u1/\X.cell? ⟨G,0,none⟩=some v0/\X.cell? ⟨G,1,none⟩=some v1/\X.cell? ⟨G,2,none⟩=some v2/\Frm (fun k=>k=H \/ k=G) wr X:=by
 obtain ⟨w1,h1⟩:∃ w1,w1=wr.setCell ⟨H,0,none⟩ u0:=⟨_,rfl⟩
 obtain ⟨w2,h2⟩:∃ w2,w2=w1.setCell ⟨H,1,none⟩ u1:=⟨_,rfl⟩
 obtain ⟨w3,h3⟩:∃ w3,w3=w2.setCell ⟨G,0,none⟩ v0:=⟨_,rfl⟩
 obtain ⟨w4,h4⟩:∃ w4,w4=w3.setCell ⟨G,1,none⟩ v1:=⟨_,rfl⟩
 rw [<- h1,<- h2,<- h3,<- h4] at hX
 have c10:w1.cell? ⟨H,0,none⟩=some u0:=by rw [h1];exact World.cell?_setCell_same _ _ _ a00
 have c11:w1.cell? ⟨H,1,none⟩=some x1:=by rw [h1];exact cell_off a01 (.inr (by decide))
 have g10:w1.cell? ⟨G,0,none⟩=some y0:=by rw [h1];exact cell_off a10 (.inl hHG)
 have g11:w1.cell? ⟨G,1,none⟩=some y1:=by rw [h1];exact cell_off a11 (.inl hHG)
 have g12:w1.cell? ⟨G,2,none⟩=some y2:=by rw [h1];exact cell_off a12 (.inl hHG)
 have c20:w2.cell? ⟨H,0,none⟩=some u0:=by rw [h2];exact cell_off c10 (.inr (by decide))
 have c21:w2.cell? ⟨H,1,none⟩=some u1:=by rw [h2];exact World.cell?_setCell_same _ _ _ c11
 have g20:w2.cell? ⟨G,0,none⟩=some y0:=by rw [h2];exact cell_off g10 (.inl hHG)
 have g21:w2.cell? ⟨G,1,none⟩=some y1:=by rw [h2];exact cell_off g11 (.inl hHG)
 have g22:w2.cell? ⟨G,2,none⟩=some y2:=by rw [h2];exact cell_off g12 (.inl hHG)
 have c30:w3.cell? ⟨H,0,none⟩=some u0:=by rw [h3];exact cell_off c20 (.inl (Ne.symm hHG))
 have c31:w3.cell? ⟨H,1,none⟩=some u1:=by rw [h3];exact cell_off c21 (.inl (Ne.symm hHG))
 have g30:w3.cell? ⟨G,0,none⟩=some v0:=by rw [h3];exact World.cell?_setCell_same _ _ _ g20
 have g31:w3.cell? ⟨G,1,none⟩=some y1:=by rw [h3];exact cell_off g21 (.inr (by decide))
 have g32:w3.cell? ⟨G,2,none⟩=some y2:=by rw [h3];exact cell_off g22 (.inr (by decide))
 have c40:w4.cell? ⟨H,0,none⟩=some u0:=by rw [h4];exact cell_off c30 (.inl (Ne.symm hHG))
 have c41:w4.cell? ⟨H,1,none⟩=some u1:=by rw [h4];exact cell_off c31 (.inl (Ne.symm hHG))
 have g40:w4.cell? ⟨G,0,none⟩=some v0:=by rw [h4];exact cell_off g30 (.inr (by decide))
 have g41:w4.cell? ⟨G,1,none⟩=some v1:=by rw [h4];exact World.cell?_setCell_same _ _ _ g31
 have g42:w4.cell? ⟨G,2,none⟩=some y2:=by rw [h4];exact cell_off g32 (.inr (by decide))
 have f1:Frm (fun k=>k=H \/ k=G) wr w1:=by rw [h1];exact Frm.setCell (p:=⟨H,0,none⟩) (Frm.refl _ _) (.inl (.inl rfl)) _
 have f2:Frm (fun k=>k=H \/ k=G) wr w2:=by rw [h2];exact Frm.setCell (p:=⟨H,1,none⟩) f1 (.inl (.inl rfl)) _
 have f3:Frm (fun k=>k=H \/ k=G) wr w3:=by rw [h3];exact Frm.setCell (p:=⟨G,0,none⟩) f2 (.inl (.inr rfl)) _
 have f4:Frm (fun k=>k=H \/ k=G) wr w4:=by rw [h4];exact Frm.setCell (p:=⟨G,1,none⟩) f3 (.inl (.inr rfl)) _
 rw [hX]
 exact ⟨cell_off c40 (.inl (Ne.symm hHG)),cell_off c41 (.inl (Ne.symm hHG)),cell_off g40 (.inr (by decide)),cell_off g41 (.inr (by decide)),World.cell?_setCell_same _ _ _ g42,Frm.setCell (p:=⟨G,2,none⟩) f4 (.inl (.inr rfl)) _⟩
theorem five_set (wr:World) (H G:Nat) (hHG:H ≠ G) (u0 u1 v0 v1 v2:Value) {x0 x1 y0 y1 y2:Value} (a00:wr.cell? ⟨H,0,none⟩=some x0) (a01:wr.cell? ⟨H,1,none⟩=some x1) (a10:wr.cell? ⟨G,0,none⟩=some y0) (a11:wr.cell? ⟨G,1,none⟩=some y1) (a12:wr.cell? ⟨G,2,none⟩=some y2) (X:World)
  (hX:X=(((((wr.setCell ⟨H,0,none⟩ u0).setCell ⟨H,1,none⟩ u1).setCell ⟨G,0,none⟩ v0).setCell ⟨G,1,none⟩ v1).setCell ⟨G,2,none⟩ v2).drew) :
  X.cell? ⟨H,0,none⟩=some u0/\X.cell? ⟨H,1,none⟩=some u1/\X.cell? ⟨G,0,none⟩=some v0/\X.cell? ⟨G,1,none⟩=some v1/\X.cell? ⟨G,2,none⟩=some v2/\Frm (fun k=>k=H \/ k=G) wr X:=by
 obtain ⟨Y,hY⟩:∃ Y,Y=((((wr.setCell ⟨H,0,none⟩ u0).setCell ⟨H,1,none⟩ u1).setCell ⟨G,0,none⟩ v0).setCell ⟨G,1,none⟩ v1).setCell ⟨G,2,none⟩ v2:=⟨_,rfl⟩
 rw [<- hY] at hX
 obtain ⟨p0,p1,p2,p3,p4,p5⟩:=five0 wr H G hHG u0 u1 v0 v1 v2 a00 a01 a10 a11 a12 Y hY
 rw [hX]
 exact ⟨p0,p1,p2,p3,p4,p5.drew⟩
def FilmAt (w:World) (B:Nat) (Lv:Value) (z:Nat) (frs:List (List Px)):Prop :=
 ∃ fbs:List Nat,w.ownsRow B 58 1 Lv frs.length (rowVals (z*z) fbs)/\fbs.length=frs.length/\(∀ i,i<frs.length->Pixs w B (fbs.getD i 0) (z*z) (frs.getD i []))/\fbs.Nodup/\(∀ k,Lv.ownBlock=some k->k ∉ fbs)/\(z=4 \/ z=8 \/ z=16)/\frs.length<=8/\(∀ i k,Flm.okPx ((frs.getD i []).getD k (0,0,0)))
theorem ShL.film {w w':World} {S:Nat->Prop} {B p b g:Nat} {Lv Rv:Value} {fbs:List Nat} {s:ByteArray} {z:Nat} {q:FS} (h:ShL w B p b g Lv Rv fbs s z q) (h8:q.frs.length<=8) (f:Frm S w w') (hS:∀ k,S k->k<B \/ k=b \/ k=g):FilmAt w' B Lv z q.frs:=by
 have hnd:=h.ne
 simp only [List.nodup_cons,List.mem_cons,not_or] at hnd
 obtain ⟨⟨n1,n2,n3⟩,⟨n4,n5⟩,n6,n7⟩:=hnd
 have hn1:=h.n1
 refine ⟨fbs,f.owns h.rows (fun k e hs=>?_),h.n1,fun i hi=>?_,n7,fun k e=>(h.nl k e).2.2.2,h.zz,h8,fun i k=>h.px i k⟩
 ·have:=(World.ownsRow.lt h.rows k e).1
  have hk:=h.nl k e
  rcases hS k hs with h'|h'|h'
  ·omega
  ·exact hk.2.1 h'
  ·exact hk.2.2.1 h'
 ·have hm:fbs.getD i 0 ∈ fbs:=by rw [List.getD_eq_getElem?_getD,List.getElem?_eq_getElem (by rw [hn1];exact hi)];exact List.getElem_mem _
  refine f.pixs (h.frs i hi) (fun hs=>?_)
  have:=(h.frs i hi).lt.1
  rcases hS _ hs with h'|h'|h'
  ·omega
  ·exact n5 (h' ▸ hm)
  ·exact n6 (h' ▸ hm)
def DecPost (w:World) (t:ByteArray) (z:Nat) (F:FS) (x:Ending) (w':World):Prop :=
 (F.r.err ≠ 0->x=.returned (.tuple #[.agg #[.int .i64 0,.slice none 0 0],.agg #[.int .i64 F.fr,.int .i64 F.x,.int .i64 F.y],.int .i64 F.r.err])) /\
 (F.r.err=0->(Rdr.finish t F.r).err ≠ 0->x=.returned (noFilm (Rdr.finish t F.r).err)) /\
 (F.r.err=0->(Rdr.finish t F.r).err=0->∃ Lv B,w.heap.size<=B/\x=.returned (.tuple #[.agg #[.int .i64 z,Lv],.agg #[.int .i64 0,.int .i64 0,.int .i64 0],.int .i64 0])/\FilmAt w' B Lv z F.frs) /\
 Below w.heap.size w w'
end
section
open Go.RowKit
open Flm (Px FS)
theorem lawColour (w:World) (M:Nat) :
  Calls Tryz.prog 74 #[.int .i64 M] w fun x w'=>(∃ a b c:Int,x=.returned (.agg #[.int .u8 a,.int .u8 b,.int .u8 c]))/\Below w.heap.size w w':=by
 go_enter Tryz.func74,Tryz.ntmps74
 go_wp2
 refine bodyPost_ret (v:=.agg #[.int .u8 (wrap64 ((M:Int) / 65536) % 256),.int .u8 (wrap64 ((M:Int) / 256) % 256),.int .u8 ((M:Int) % 256)]) (by simp [results,Tryz.results74,go_sem]) rfl ?_
 exact ⟨⟨_,_,_,rfl⟩,(Below.refl _ w).alloc (Nat.le_refl _) _⟩
theorem allRows_any (w:World) (v:Value) (n m:Nat) (ra:Option Addr) (rc:Nat) (h:Fill w v n [.slice ra m rc]) (hn:n<=1000000000) :
  Calls Tryz.prog 37 #[v,.int .i64 m] w fun x w'=>x=.returned (.bool true)/\w'=w:=by
 obtain ⟨a,c,rfl,h⟩:=h
 have H:Hid (n=0 \/ ∃ b off,a=some ⟨b,off,none⟩/\∀ j,j<n->∀ t u,[Value.slice ra m rc][t]?=some u->w.cell? ⟨b,off+j*[Value.slice ra m rc].length+t,none⟩=some u):=h
 clear h
 go_enter Tryz.func37,Tryz.ntmps37
 go_wp2
 go_loop [5] (fun i=>∃ k:Nat,k<=n/\i=.int .i64 k) (fun i=>n-(intOf i).toNat)
 case atStart=>exact ⟨0,by omega,rfl⟩
 case round =>
  obtain ⟨k,hk,rfl⟩:=hrel
  by_cases hlt:k<n
  ·have hlt':(k:Int)<(n:Int):=by omega
   obtain ⟨b,off,rfl,hc⟩:∃ b off,a=some ⟨b,off,none⟩/\∀ j,j<n->∀ t u,[Value.slice ra m rc][t]?=some u->w.cell? ⟨b,off+j*[Value.slice ra m rc].length+t,none⟩=some u:=by
    rcases H.out with h2|h2
    ·omega
    ·exact h2
   have d:w.cell? ⟨b,off+k,none⟩=some (.slice ra m rc):=by simpa using hc k hlt 0 _ rfl
   clear hc
   go_wp2
   go_round
   case rel=>exact ⟨k+1,by omega,by go_num⟩
   case measure=>simp [intOf];omega
  ·have hlt':¬ (k:Int)<(n:Int):=by omega
   go_wp2
   go_ret
   exact ⟨rfl,rfl⟩
theorem allPixels_any (w:World) (v:Value) (n:Nat) (p0 p1 p2:Int) (h:Fill w v n [.int .u8 p0,.int .u8 p1,.int .u8 p2]) (hn:n<=1000000000) :
  Calls Tryz.prog 36 #[v,.agg #[.int .u8 p0,.int .u8 p1,.int .u8 p2]] w fun x w'=>x=.returned (.bool true)/\Below w.heap.size w w':=by
 obtain ⟨a,c,rfl,h⟩:=h
 have H:Hid (n=0 \/ ∃ b off,a=some ⟨b,off,none⟩/\∀ j,j<n->∀ t u,[Value.int .u8 p0,.int .u8 p1,.int .u8 p2][t]?=some u->w.cell? ⟨b,off+j*[Value.int .u8 p0,.int .u8 p1,.int .u8 p2].length+t,none⟩=some u):=h
 clear h
 obtain ⟨W,hW⟩:∃ W,W=w.alloc (.cells #[.int .u8 p0,.int .u8 p1,.int .u8 p2] 50):=⟨_,rfl⟩
 have hB:Below w.heap.size w W:=by rw [hW];exact (Below.refl _ w).alloc (Nat.le_refl _) _
 have hr:W.heap[w.heap.size]?=some (.cells #[.int .u8 p0,.int .u8 p1,.int .u8 p2] 50 (0,0)):=by rw [hW];exact heap_alloc_last w _
 have m0:W.cell? ⟨w.heap.size,0,none⟩=some (.int .u8 p0):=cell_of_row _ _ 0 _ _ _ hr
 have m1:W.cell? ⟨w.heap.size,1,none⟩=some (.int .u8 p1):=cell_of_row _ _ 1 _ _ _ hr
 have m2:W.cell? ⟨w.heap.size,2,none⟩=some (.int .u8 p2):=cell_of_row _ _ 2 _ _ _ hr
 have HW:Hid (W=w.alloc (.cells #[.int .u8 p0,.int .u8 p1,.int .u8 p2] 50)):=hW
 have HB:Hid (Below w.heap.size w W):=hB
 have heq:=fun w=>eqPix w p0 p1 p2 p0 p1 p2
 clear hW hB hr
 go_enter Tryz.func36,Tryz.ntmps36
 go_wp2_with (rw [<- HW.out])
 go_loopw [5] (fun i wr=>∃ k:Nat,k<=n/\i=.int .i64 k/\∃ d,wr=W.drewN d) (fun i _=>n-(intOf i).toNat)
 case atStart=>exact ⟨0,by omega,rfl,0,rfl⟩
 case round =>
  obtain ⟨k,hk,rfl,d,rfl⟩:=hrel
  by_cases hlt:k<n
  ·have hlt':(k:Int)<(n:Int):=by omega
   obtain ⟨b,off,rfl,hc⟩:∃ b off,a=some ⟨b,off,none⟩/\∀ j,j<n->∀ t u,[Value.int .u8 p0,.int .u8 p1,.int .u8 p2][t]?=some u->w.cell? ⟨b,off+j*[Value.int .u8 p0,.int .u8 p1,.int .u8 p2].length+t,none⟩=some u:=by
    rcases H.out with h2|h2
    ·omega
    ·exact h2
   have L:∀ t u,w.cell? ⟨b,t,none⟩=some u->W.cell? ⟨b,t,none⟩=some u:=fun t u e=>(HB.out.cell (p:=⟨b,t,none⟩) (World.block_lt_of_cell? w _ e)).trans e
   have d0:W.cell? ⟨b,off+k*3,none⟩=some (.int .u8 p0):=L _ _ (by simpa using hc k hlt 0 _ rfl)
   have d1:W.cell? ⟨b,off+k*3+1,none⟩=some (.int .u8 p1):=L _ _ (by simpa using hc k hlt 1 _ rfl)
   have d2:W.cell? ⟨b,off+k*3+2,none⟩=some (.int .u8 p2):=L _ _ (by simpa using hc k hlt 2 _ rfl)
   clear hc L
   go_wp2
   go_region
   all_goals
    go_wp2
    go_roundw
    case rel=>exact ⟨k+1,by omega,by go_num,_,rfl⟩
    case measure=>simp [intOf];omega
  ·have hlt':¬ (k:Int)<(n:Int):=by omega
   go_wp2
   go_ret
   exact ⟨rfl,below_drewN HB.out d⟩
end
section
open Go.RowKit
open Flm (Px FS)
theorem FilmAt.row {w:World} {B z:Nat} {Lv:Value} {frs:List (List Px)} (h:FilmAt w B Lv z frs):∃ a c,Lv=.slice a frs.length c/\∀ i,i<frs.length->∃ g f,a=some ⟨g,0,none⟩/\w.cell? ⟨g,i,none⟩=some (.slice (some ⟨f,0,none⟩) (z*z) (z*z))/\Pixs w B f (z*z) (frs.getD i []):=by
 obtain ⟨fbs,h1,h2,h3,_⟩:=h
 obtain ⟨a,c,e,hor⟩:=owns_form h1
 refine ⟨a,c,e,fun i hi=>?_⟩
 rcases hor with h0|⟨g,rfl,_⟩
 ·omega
 ·refine ⟨g,fbs.getD i 0,rfl,?_,h3 i hi⟩
  rw [e] at h1
  have:=World.ownsRow.cellAt h1 i (by omega)
  rw [this]
  unfold rowVals
  simp [List.getD_eq_getElem?_getD,show i<fbs.length by omega]
end
section
open Go.RowKit
variable {P:Program} {ops:Array Oper} {Q:Exit->Act->World->Prop} {md:Region.Mode} {l n:Nat}
theorem wpOp_round (hd:∀ (i:Nat) (o:Oper),ops[i]?=some o->∀ c:Call,o.op ≠ Op.defer c) (hQ:¬ LetsOut Q) {i:Nat} {K K':Act->World->Prop} {a:Act} {w:World} (hK:∀ a w,K a w->K' a w) (h:wpOp P ops Q i K a w):wpOpIn (Fence.wide.inRound l) n P ops Q i K' a w:=by
 unfold wpOp at h
 unfold wpOpIn
 cases ho:ops[i]? with
 | none=>simp only [ho] at h ⊢;exact hK _ _ h
 | some o =>
  simp only [ho] at h ⊢
  by_cases hw:Region.wanted o (yielded ops a.tmps)=true
  ·rw [if_pos hw] at h ⊢
   have h:=h.resolve_right (fun e=>hQ e.2)
   refine ⟨fun _ _=>trivial,?_⟩
   show o.uponIn (Fence.wide.inRound l) n P a K' Q ((o.semAt (some l) a.eval).run P w)
   rw [Oper.semAt_some l _ _ (hd i o ho)]
   unfold Oper.wp at h
   generalize (execOp a.eval o).run P w=r at h ⊢
   cases r with
   | ok x w' =>
    cases x with
    | value v=>exact hK _ _ h
    | skip=>exact hK _ _ h
    | defer d=>exact hK _ _ h
    | enter f args =>
     refine ⟨fun e=>(by cases e),?_⟩
     refine (CallsIn.inRound l (callsIn_wide.2 h)).mono ?_
     intro e w'' he
     cases e <;> first|exact hK _ _ he|exact he
    | row row args =>
     refine ⟨fun e=>(by cases e),fun c cs _=>?_⟩
     obtain ⟨v,w'',r,st⟩:=h c cs
     exact ⟨v,w'',hK _ _ r,stepsIn_wide.2 st⟩
    | _=>exact h.elim
   | halt x w' =>
    cases x <;> first|exact h|exact h.elim
  ·rw [if_neg hw] at h ⊢
   exact ⟨fun _ _=>trivial,hK _ _ h⟩
theorem wpAny_round (hd:∀ (i:Nat) (o:Oper),ops[i]?=some o->∀ c:Call,o.op ≠ Op.defer c) (hQ:¬ LetsOut Q):∀ (fuel:Nat) (listed:Array Bool) (a:Act) (w:World),wpAny P md ops Q fuel listed a w->wpAnyIn (Fence.wide.inRound l) n P md ops Q fuel listed a w
 | 0,_,_,_,h=>h
 | fuel+1,_,_,_,h=>⟨h.1,fun i hi=>wpOp_round hd hQ (fun a' w' h'=>wpAny_round hd hQ fuel _ a' w' h') (h.2 i hi)⟩
theorem region_round {S:World->Prop} {id:Nat} {a:Act} {w:World} (hm:P.follows .mixedOrders=true) (hd:∀ (i:Nat) (o:Oper),ops[i]?=some o->∀ c:Call,o.op ≠ Op.defer c) (hQ:¬ LetsOut Q)
  (h:wpAnyH P .any ops Q S ops.size (Array.replicate ops.size false) a w.drew):(Code.region id ops true).wpIn (Fence.wide.inRound l) n P Q a w :=
 wpIn_region_any hm (wpAny_round hd hQ _ _ _ _ (wpAny_of_held _ _ _ _ h))
theorem wpOp_enter {i:Nat} {o:Oper} {f:FuncId} {args:Array Value} {K:Act->World->Prop} {a:Act} {w:World} (ho:ops[i]?=some o) (hw:Region.wanted o (yielded ops a.tmps)=true) (hr:(execOp a.eval o).run P w=.ok (.enter f args) w)
  (h:Calls P f args w fun
   | .returned v,w''=>K (a.put o.dst v) w''
   | .panicked chain,w''=>Q (.panic chain) a w''
   | .outgrown,_=>LetsOut Q):wpOp P ops Q i K a w:=by
 unfold wpOp
 simp only [ho,hw,if_true]
 left
 unfold Oper.wp
 rw [hr]
 exact h
def plainOp (o:Oper):Bool:=match o.op with
 | .defer _=>false
 | _=>true
theorem noDefer {ops:Array Oper} (h:ops.all plainOp=true):∀ (i:Nat) (o:Oper),ops[i]?=some o->∀ c:Call,o.op ≠ Op.defer c:=by
 intro i o hi c hc
 have hm:o ∈ ops:=Array.mem_of_getElem? hi
 have:=Array.all_eq_true_iff_forall_mem.1 h o hm
 unfold plainOp at this
 rw [hc] at this
 cases this
theorem region_round_at {S:World->Prop} {id:Nat} {a:Act} {w:World} (N:Nat) (L:Array Bool) (hN:ops.size=N) (hL:Array.replicate N false=L) (hm:P.follows .mixedOrders=true) (hd:ops.all plainOp=true) (hQ:¬ LetsOut Q)
  (h:wpAnyH P .any ops Q S N L a w.drew):(Code.region id ops true).wpIn (Fence.wide.inRound l) n P Q a w:=by
 refine region_round (S:=S) hm (noDefer hd) hQ ?_
 rw [hN,hL]
 exact h
theorem take_at {S:World->Prop} {i d:Nat} {oi:Oper} {v:Value} {fuel:Nat} {listed:Array Bool} (L:Array Bool) {a:Act} {w:World} (hi:ops[i]?=some oi) (hd:oi.dst=some d) (hL:listed.setIfInBounds i true=L)
  (hs:Region.noSelect ops=true) (hf:Region.free md ops listed i=true) (hr:(Region.ready md ops listed).contains i=true)
  (hQ:∀ c a w,Q (.panic c) (a.put oi.dst v) w->Q (.panic c) a w) (hw:Region.wanted oi (yielded ops a.tmps)=true) (hy:∀ w,S w->(execOp a.eval oi).run P w=.ok (.value v) w) (hS:S w)
  (h:wpAnyH P md ops Q S fuel L { tmps:=a.tmps.setIfInBounds d v,defers:=a.defers } w):wpAnyH P md ops Q S (fuel+1) listed a w:=by
 refine wpAnyH_take hi hs hf hr hQ (Or.inl ⟨hw,hy⟩) hS ?_
 rw [hL]
 have:a.put oi.dst v={ tmps:=a.tmps.setIfInBounds d v,defers:=a.defers }:=by unfold Act.put;rw [hd]
 rw [this]
 exact h
theorem tk_at {S:World->Prop} (i d:Nat) (v:Value) {oi:Oper} {fuel:Nat} {listed:Array Bool} (L:Array Bool) {a:Act} {w:World} (hi:ops[i]?=some oi) (hd:oi.dst=some d) (hL:listed.setIfInBounds i true=L)
  (hb:(Region.noSelect ops && Region.free md ops listed i && (Region.ready md ops listed).contains i)=true) (hw:Region.wanted oi (yielded ops a.tmps)=true) (hy:∀ w,S w->(execOp a.eval oi).run P w=.ok (.value v) w) (hS:S w)
  (h:wpAnyH P md ops Q S fuel L { tmps:=a.tmps.setIfInBounds d v,defers:=a.defers } w) (hQ:∀ c a w,Q (.panic c) (a.put oi.dst v) w->Q (.panic c) a w:=by exact fun _ _ _ h=>h):wpAnyH P md ops Q S (fuel+1) listed a w:=by
 simp only [Bool.and_eq_true] at hb
 exact take_at L hi hd hL hb.1.1 hb.1.2 hb.2 hQ hw hy hS h
theorem enter_at {S:World->Prop} {i d:Nat} {o:Oper} {f:FuncId} {args:Array Value} {fuel:Nat} {listed:Array Bool} (L:Array Bool) {a:Act} {w:World} (hr:Region.ready md ops listed=[i]) (ho:ops[i]?=some o) (hd:o.dst=some d) (hL:listed.setIfInBounds i true=L)
  (hw:Region.wanted o (yielded ops a.tmps)=true) (hrun:(execOp a.eval o).run P w=.ok (.enter f args) w) (R:Value->World->Prop) (hc:Calls P f args w fun e w'=>∃ v,e=.returned v/\R v w')
  (h:∀ v w',R v w'->S w'/\wpAnyH P md ops Q S fuel L { tmps:=a.tmps.setIfInBounds d v,defers:=a.defers } w'):wpAnyH P md ops Q S (fuel+1) listed a w:=by
 refine wpAnyH_all hr (by simp) ?_
 intro j hj
 obtain rfl:j=i:=by simpa using hj
 refine wpOp_enter ho hw hrun (hc.mono ?_)
 rintro e w' ⟨v,rfl,hR⟩
 obtain ⟨h1,h2⟩:=h v w' hR
 refine ⟨h1,?_⟩
 rw [hL]
 have:a.put o.dst v={ tmps:=a.tmps.setIfInBounds d v,defers:=a.defers }:=by unfold Act.put;rw [hd]
 rw [this]
 exact h2
end
end Go.Proofs.YtekfbphnoibnjaaGreatDoor
