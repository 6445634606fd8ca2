/-
  Decodes2 GSt GMark GKeep GFilm GSettle GLooks GSettle0
-/
import Derived.Test.YtekfbphnoibnjaaGreatDoorG10
import Derived.Test.YtekfbphnoibnjaaGreatDoorG13
set_option maxHeartbeats 4000000
namespace Go.Proofs.YtekfbphnoibnjaaGreatDoor
section
open Go.RowKit
open Flm (Px FS)
def FilmIn (w:World) (lo hi:Nat) (Lv:Value) (z:Nat) (frs:List (List Px)):Prop :=
 ∃ fbs:List Nat,(w.ownsRow lo 58 1 Lv frs.length (rowVals (z*z) fbs)/\fbs.length=frs.length/\(∀ i,i<frs.length->Pixs w lo (fbs.getD i 0) (z*z) (frs.getD i []))/\fbs.Nodup/\(∀ k,Lv.ownBlock=some k->k ∉ fbs)/\(z=4 \/ z=8 \/ z=16)/\frs.length<=8/\(∀ i k,Flm.okPx ((frs.getD i []).getD k (0,0,0))))/\(∀ k,k ∈ fbs->k<hi)/\∀ k,Lv.ownBlock=some k->k<hi
theorem FilmIn.at {w:World} {lo hi:Nat} {Lv:Value} {z:Nat} {frs:List (List Px)} (h:FilmIn w lo hi Lv z frs):FilmAt w lo Lv z frs:=h.elim fun fbs h=>⟨fbs,h.1⟩
theorem FilmAt.toIn {w:World} {lo:Nat} {Lv:Value} {z:Nat} {frs:List (List Px)} (h:FilmAt w lo Lv z frs):FilmIn w lo w.heap.size Lv z frs:=by
 obtain ⟨fbs,h1,h2,h3,h4⟩:=h
 refine ⟨fbs,⟨h1,h2,h3,h4⟩,fun k hk=>?_,fun k e=>(World.ownsRow.lt h1 k e).2⟩
 obtain ⟨i,hi,rfl⟩:=List.getElem_of_mem hk
 have:=(h3 i (by omega)).lt.2
 rw [List.getD_eq_getElem?_getD,List.getElem?_eq_getElem hi] at this
 exact this
theorem FilmIn.frm {S:Nat->Prop} {w w':World} {lo hi:Nat} {Lv:Value} {z:Nat} {frs:List (List Px)} (h:FilmIn w lo hi Lv z frs) (f:Frm S w w') (hS:∀ k,S k->k<lo \/ hi<=k):FilmIn w' lo hi Lv z frs:=by
 obtain ⟨fbs,⟨h1,h2,h3,h4⟩,h5,h6⟩:=h
 refine ⟨fbs,⟨f.owns h1 (fun k e hs=>?_),h2,fun i hi=>f.pixs (h3 i hi) (fun hs=>?_),h4⟩,h5,h6⟩
 ·have:=(World.ownsRow.lt h1 k e).1
  have:=h6 k e
  have:=hS k hs
  omega
 ·have:=(h3 i hi).lt.1
  have:=h5 (fbs.getD i 0) (by rw [List.getD_eq_getElem?_getD,List.getElem?_eq_getElem (by omega)];exact List.getElem_mem _)
  have:=hS _ hs
  omega
theorem FilmIn.below {w w':World} {lo hi:Nat} {Lv:Value} {z:Nat} {frs:List (List Px)} (h:FilmIn w lo hi Lv z frs) (b:Below w.heap.size w w'):FilmIn w' lo hi Lv z frs:=h.frm (Frm.of_below (S:=fun _=>False) b) (fun _ e=>e.elim)
theorem FilmIn.slice {w:World} {lo hi:Nat} {Lv:Value} {z:Nat} {frs:List (List Px)} (h:FilmIn w lo hi Lv z frs):∃ a n c,Lv=.slice a n c:=by
 obtain ⟨a,c,e,_⟩:=h.at.row
 exact ⟨a,_,c,e⟩
def GoodAns (x0 x1 x2:Int) (z:Nat) (frs:List (List Px)) (wx:World) (r:Ending) (w':World):Prop :=
 ∃ a n c lo,wx.heap.size<=lo/\r=.returned (.tuple #[.agg #[.int .i64 z,.slice a n c],.agg #[.int .i64 x0,.int .i64 x1,.int .i64 x2],.int .i64 0])/\FilmIn w' lo w'.heap.size (.slice a n c) z frs/\Below wx.heap.size wx w'
theorem DecAns.good {wx w':World} {d:Option (Nat × List (List Px)) × Px × Int} {r:Ending} {z:Nat} {frs:List (List Px)} (h:DecAns wx d r w') (hd:d.1=some (z,frs)):GoodAns 0 0 0 z frs wx r w':=by
 obtain ⟨h1,h2⟩:=h
 rw [hd] at h1
 obtain ⟨Lv,B,hB,rfl,hf⟩:=h1
 obtain ⟨a,n,c,rfl⟩:=hf.toIn.slice
 exact ⟨a,n,c,B,hB,rfl,hf.toIn,h2⟩
theorem FPB.frm {S:Nat->Prop} {W W':World} {H:Nat} {z v x0 x1 x2:Value} (h:FPB W H z v x0 x1 x2) (f:Frm S W W') (h0:¬ S H) (h1:¬ S (H+1)):FPB W' H z v x0 x1 x2:=⟨(f.block _ (heap_lt0 h.b0) h0).trans h.b0,(f.block _ (heap_lt0 h.b1) h1).trans h.b1⟩
theorem HB5 {w W3 w4 w5:World} (hb3:Below w.heap.size w W3) (b4:Below W3.heap.size W3 w4) (b5:Below w4.heap.size w4 w5):Below w.heap.size w w5:=(hb3.trans (b4.mono hb3.size)).trans (b5.mono (Nat.le_trans hb3.size b4.size))
theorem HB6 {S:Nat->Prop} {B:Nat} {w W3 w4 w5 w6:World} (hB:B<=w.heap.size) (hb3:Below w.heap.size w W3) (b4:Below W3.heap.size W3 w4) (b5:Below w4.heap.size w4 w5) (f:Frm S w5 w6):B<=w6.heap.size:=Nat.le_trans hB (Nat.le_trans (HB5 hb3 b4 b5).size f.size)
end
section
open Go.RowKit
open Flm (Px)
structure Loc where
 v:Value
 P:World->Prop
 loc:∀ {S:Nat->Prop} {w w':World},Frm S w w'->(∀ k,v.ownBlock=some k->¬ S k)->P w->P w'
 lt:∀ {w:World},P w->∀ k,v.ownBlock=some k->k<w.heap.size
def rowLoc (B:Nat) (e:TypeId) (sz:Nat) (v:Value) (n:Nat) (cs:List Value):Loc:=⟨v,fun w=>w.ownsRow B e sz v n cs,fun f h p=>f.owns p h,fun p k e=>(World.ownsRow.lt p k e).2⟩
def fillLoc (f:Value × Nat × List Value):Loc:=⟨f.1,fun w=>Fill w f.1 f.2.1 f.2.2/\∀ k,f.1.ownBlock=some k->k<w.heap.size,fun fr h p=>⟨p.1.frm fr h,fun k e=>Nat.lt_of_lt_of_le (p.2 k e) fr.size⟩,fun p k e=>p.2 k e⟩
def Has (w:World) (own:Nat->Nat) (r:Nat) (l:Loc):Prop:=l.P w/\role own l.v r
structure Ev (Wr:Nat->Prop) (own own':Nat->Nat) (w w':World):Prop where
 fr:Frm (fun k=>Wr (own k)) w w'
 ow:∀ k,k<w.heap.size->¬ Wr (own k)->own' k=own k
theorem Ev.has {Wr:Nat->Prop} {own own':Nat->Nat} {w w':World} (e:Ev Wr own own' w w') {r:Nat} {l:Loc} (h:Has w own r l) (hr:¬ Wr r):Has w' own' r l :=
 ⟨l.loc e.fr (fun k hk hw=>hr (by rw [<- h.2 k hk];exact hw)) h.1,fun k hk=>(e.ow k (l.lt h.1 k hk) (by rw [h.2 k hk];exact hr)).trans (h.2 k hk)⟩
theorem Ev.of_below {Wr:Nat->Prop} {own:Nat->Nat} {w w':World} (f:Below w.heap.size w w'):Ev Wr own own w w':=⟨Frm.of_below f,fun _ _ _=>rfl⟩
structure En where
 cells:List Value
 fills:List (Value × Nat × List Value)
def mkEn (ms us:List Value) (n:Nat) (l g1 g2 g3:Value):En:=⟨ms++[l,g1,g2,g3],[(l,n,us),(g1,n+1,us),(g2,n+2,us),(g3,n+3,us)]⟩
def shp:Nat->En->Prop
 | 0,x=>∃ (m:Int) (n:Nat) (l g1 g2 g3:Value),x=mkEn [.int .i64 m] [.int .i64 m] n l g1 g2 g3/\n<=900000000
 | 1,x=>∃ (m:Int) (n:Nat) (l:Value),x=⟨[.int .i64 m,.int .i64 0,l],[(l,n,[.int .i64 m,.int .i64 0])]⟩/\n<=900000000
 | 2,x=>∃ (a b c:Int) (n:Nat) (l g1 g2 g3:Value),x=mkEn [.int .u8 a,.int .u8 b,.int .u8 c] [.int .u8 a,.int .u8 b,.int .u8 c] n l g1 g2 g3/\n<=900000000
 | 3,x=>∃ (m mb mc n:Nat) (l g1 g2 g3:Value),x=mkEn [.int .i64 (m:Int)] [.slice (some ⟨mb,0,none⟩) m mc] n l g1 g2 g3/\n<=900000000
 | _,_=>False
structure Wg where
 cw:List Value
 ce:List Value
 lw:List Loc
 le:List Loc
def filmLocs (B:Nat) (Lv:Value) (z:Nat) (frs:List (List Px)) (fbs:List Nat):List Loc :=
 rowLoc B 58 1 Lv frs.length (rowVals (z*z) fbs) :: (List.range frs.length).map fun i=>rowLoc B 50 3 (.slice (some ⟨fbs.getD i 0,0,none⟩) (z*z) (z*z)) (z*z) (pxCells (frs.getD i []))
structure FilmC (Lv:Value) (z:Nat) (frs:List (List Px)) (fbs:List Nat):Prop where
 ln:fbs.length=frs.length
 nd:fbs.Nodup
 nl:∀ k,Lv.ownBlock=some k->k ∉ fbs
 zz:z=4 \/ z=8 \/ z=16
 l8:frs.length<=8
 ok:∀ i k,Flm.okPx ((frs.getD i []).getD k (0,0,0))
def shw:Nat->Nat->Wg->Prop
 | 0,B,x=>∃ (l y:Value) (zs:List Int),x=⟨[l],[y],[rowLoc B 3 1 l zs.length (ints zs)],[rowLoc B 3 1 y zs.length (ints zs)]⟩/\zs.length<=900000000
 | _,B,x=>∃ (z:Nat) (frs:List (List Px)) (Lv Lv':Value) (fbs fbs':List Nat),x=⟨[.int .i64 z,Lv],[.int .i64 z,Lv'],filmLocs B Lv z frs fbs,filmLocs B Lv' z frs fbs'⟩/\FilmC Lv z frs fbs/\FilmC Lv' z frs fbs'
def rho (t i f:Nat):Nat:=100+(2*i+t)*16+f
def bty:Nat->TypeId
 | 0=>76
 | 1=>79
 | 2=>81
 | 3=>84
 | 4=>52
 | 5=>52
 | _=>27
def bsz:Nat->Nat
 | 0=>5
 | 1=>3
 | 2=>7
 | 3=>5
 | 4=>1
 | 5=>1
 | _=>2
def els (mk:Nat->List En) (wt:Nat->List Wg) (i:Nat):List (List Value) :=
 if i<4 then (mk i).map En.cells else if i % 2=0 then (wt (i / 2-2)).map Wg.cw else (wt (i / 2-2)).map Wg.ce
def upd {α:Type} (f:Nat->α) (j:Nat) (v:α):Nat->α:=fun i=>if i=j then v else f i
def nilV:Value:=.slice none 0 0
structure GSt (w wH wr:World) (p M:Nat) (own:Nat->Nat) (vs:List Value) (mk:Nat->List En) (wt:Nat->List Wg) (d:Nat->Nat):Prop where
 bk:BookAt wr p M vs
 ro:∀ i,i<8->Has wr own (2+i) (rowLoc w.heap.size (bty i) (bsz i) (vs.getD i nilV) (els mk wt i).length (els mk wt i).flatten)
 en:∀ i,i<4->∀ x ∈ mk i,∀ f ∈ x.fills,Has wr own 10 (fillLoc f)
 sh:∀ i,i<4->∀ x ∈ mk i,shp i x
 ww:∀ (t i:Nat) (x:Wg),t<2->(wt t)[i]?=some x->d t<=i->∀ f l,x.lw[f]?=some l->Has wr own (rho t i f) l
 we:∀ (t i:Nat) (x:Wg),t<2->(wt t)[i]?=some x->d t<=i->∀ l ∈ x.le,Has wr own 10 l
 sw:∀ (t i:Nat) (x:Wg),t<2->(wt t)[i]?=some x->shw t w.heap.size x
 op:own p=0
 o1:∀ k,k<wH.heap.size->k ≠ p->own k=1
 sz:wH.heap.size<=wr.heap.size
 kept:∀ k,k<wH.heap.size->k ≠ p->wr.heap[k]?=wH.heap[k]?
 bel:Below w.heap.size w wr
 hp:w.heap.size=p
 hw:w.heap.size<wH.heap.size
theorem shw_len {t B:Nat} {x:Wg} (ht:t<2) (h:shw t B x):x.lw.length<=16:=by
 match t,ht,h with
 | 0,_,⟨l,y,zs,e,_⟩=>rw [e];simp
 | 1,_,⟨z,frs,Lv,Lv',fbs,fbs',e,c,_⟩=>rw [e];have:=c.l8;simp [filmLocs];omega
theorem GSt.ev {w wH wr wr':World} {p M M':Nat} {own own':Nat->Nat} {vs vs':List Value} {mk mk':Nat->List En} {wt wt':Nat->List Wg} {d d':Nat->Nat} {Wr:Nat->Prop} (h:GSt w wH wr p M own vs mk wt d) (e:Ev Wr own own' wr wr')
  (w1:¬ Wr 1) (w10:¬ Wr 10) (bk:BookAt wr' p M' vs') (op:own' p=0)
  (ro:∀ i,i<8->(vs'.getD i nilV=vs.getD i nilV/\els mk' wt' i=els mk wt i/\¬ Wr (2+i)) \/ Has wr' own' (2+i) (rowLoc w.heap.size (bty i) (bsz i) (vs'.getD i nilV) (els mk' wt' i).length (els mk' wt' i).flatten))
  (en:∀ i,i<4->∀ x ∈ mk' i,x ∈ mk i \/ (shp i x/\∀ f ∈ x.fills,Has wr' own' 10 (fillLoc f)))
  (hwt:∀ (t i:Nat) (x:Wg),t<2->(wt' t)[i]?=some x->((wt t)[i]?=some x/\(d' t<=i->d t<=i/\∀ f,f<16->¬ Wr (rho t i f))) \/ ((∀ f l,x.lw[f]?=some l->Has wr' own' (rho t i f) l)/\(∀ l ∈ x.le,Has wr' own' 10 l)/\shw t w.heap.size x)):GSt w wH wr' p M' own' vs' mk' wt' d':=by
 refine ⟨bk,fun i hi=>?_,fun i hi x hx f hf=>?_,fun i hi x hx=>?_,fun t i x ht hx hd f l hl=>?_,fun t i x ht hx hd l hl=>?_,fun t i x ht hx=>?_,op,fun k hk hkp=>?_,Nat.le_trans h.sz e.fr.size,fun k hk hkp=>?_,?_,h.hp,h.hw⟩
 ·rcases ro i hi with ⟨a,b,c⟩|a
  ·rw [a,b];exact e.has (h.ro i hi) c
  ·exact a
 ·rcases en i hi x hx with a|a
  ·exact e.has (h.en i hi x a f hf) w10
  ·exact a.2 f hf
 ·rcases en i hi x hx with a|a
  ·exact h.sh i hi x a
  ·exact a.1
 ·rcases hwt t i x ht hx with ⟨a,b⟩|a
  ·have h16:=shw_len ht (h.sw t i x ht a)
   exact e.has (h.ww t i x ht a (b hd).1 f l hl) ((b hd).2 f (by have:=(List.getElem?_eq_some_iff.1 hl).1;omega))
  ·exact a.1 f l hl
 ·rcases hwt t i x ht hx with ⟨a,b⟩|a
  ·exact e.has (h.we t i x ht a (b hd).1 l hl) w10
  ·exact a.2.1 l hl
 ·rcases hwt t i x ht hx with ⟨a,b⟩|a
  ·exact h.sw t i x ht a
  ·exact a.2.2
 ·have o:=h.o1 k hk hkp
  exact (e.ow k (Nat.lt_of_lt_of_le hk h.sz) (by rw [o];exact w1)).trans o
 ·have o:=h.o1 k hk hkp
  exact (e.fr.block k (Nat.lt_of_lt_of_le hk h.sz) (by rw [o];exact w1)).trans (h.kept k hk hkp)
 ·have f':Frm (fun k=>w.heap.size<=k) wr wr':=e.fr.mono (fun k _ hk=>by
   rcases Nat.lt_or_ge k w.heap.size with h'|h'
   ·have:=h.o1 k (Nat.lt_trans h' h.hw) (by have:=h.hp;omega)
    rw [this] at hk
    exact absurd hk w1
   ·exact h')
  exact h.bel.trans (f'.below h.bel.size (fun k hk=>hk))
theorem GSt.below {w wH wr wr':World} {p M:Nat} {own:Nat->Nat} {vs:List Value} {mk:Nat->List En} {wt:Nat->List Wg} {d:Nat->Nat} (h:GSt w wH wr p M own vs mk wt d) (f:Below wr.heap.size wr wr'):GSt w wH wr' p M own vs mk wt d :=
 h.ev (Ev.of_below (Wr:=fun _=>False) f) (fun e=>e) (fun e=>e) (h.bk.frm (Frm.of_below (S:=fun _=>False) f) (fun e=>e)) h.op (fun _ _=>.inl ⟨rfl,rfl,fun e=>e⟩) (fun _ _ _ hx=>.inl hx) (fun _ _ _ _ hx=>.inl ⟨hx,fun hd=>⟨hd,fun _ _ e=>e⟩⟩)
end
section
open Go.RowKit
theorem upd_same {α:Type} (f:Nat->α) (j:Nat) (v:α):upd f j v j=v:=if_pos rfl
theorem upd_ne {α:Type} (f:Nat->α) {i j:Nat} (v:α) (h:i ≠ j):upd f j v i=f i:=if_neg h
theorem els_mk (mk:Nat->List En) (wt:Nat->List Wg) {i:Nat} (h:i<4):els mk wt i=(mk i).map En.cells:=if_pos h
theorem els_upd_ne (mk:Nat->List En) (wt:Nat->List Wg) {i j:Nat} (l:List En) (h:i ≠ j):els (upd mk j l) wt i=els mk wt i:=by
 unfold els
 rw [upd_ne mk l h]
theorem gD_set_ne (vs:List Value) {i j:Nat} (v:Value) (h:i ≠ j):(vs.set j v).getD i nilV=vs.getD i nilV:=by
 rw [List.getD_eq_getElem?_getD,List.getD_eq_getElem?_getD,List.getElem?_set,if_neg (fun e=>h e.symm)]
theorem gD_set_same (vs:List Value) {j:Nat} (v:Value) (h:j<vs.length):(vs.set j v).getD j nilV=v:=by
 rw [List.getD_eq_getElem?_getD,List.getElem?_set,if_pos rfl,if_pos h];rfl
theorem rho_ge (t i f:Nat):100<=rho t i f:=by unfold rho;omega
theorem GSt.row {w wH wr:World} {p M:Nat} {own:Nat->Nat} {vs:List Value} {mk:Nat->List En} {wt:Nat->List Wg} {d:Nat->Nat} (h:GSt w wH wr p M own vs mk wt d) (i:Nat) (hi:i<8):wr.ownsRow w.heap.size (bty i) (bsz i) (vs.getD i nilV) (els mk wt i).length (els mk wt i).flatten:=(h.ro i hi).1
theorem GSt.rol {w wH wr:World} {p M:Nat} {own:Nat->Nat} {vs:List Value} {mk:Nat->List En} {wt:Nat->List Wg} {d:Nat->Nat} (h:GSt w wH wr p M own vs mk wt d) (i:Nat) (hi:i<8):role own (vs.getD i nilV) (2+i):=(h.ro i hi).2
theorem GSt.at {w wH wr:World} {p M:Nat} {own:Nat->Nat} {vs:List Value} {mk:Nat->List En} {wt:Nat->List Wg} {d:Nat->Nat} (h:GSt w wH wr p M own vs mk wt d) (i:Nat) (hi:i<8):vs[i]?=some (vs.getD i nilV):=by
 rw [List.getD_eq_getElem?_getD,List.getElem?_eq_getElem (by rw [h.bk.len];exact hi)];rfl
theorem GSt.cell {w wH wr:World} {p M:Nat} {own:Nat->Nat} {vs:List Value} {mk:Nat->List En} {wt:Nat->List Wg} {d:Nat->Nat} (h:GSt w wH wr p M own vs mk wt d) (i:Nat) (hi:i<8):wr.cell? ⟨p,i+1,none⟩=some (vs.getD i nilV):=h.bk.cs i _ (h.at i hi)
theorem GSt.mark {w wH wr wr':World} {p M:Nat} {own:Nat->Nat} {vs:List Value} {mk:Nat->List En} {wt:Nat->List Wg} {d d':Nat->Nat} {j n r:Nat} {ms us:List Value} {vl:Value} (h:GSt w wH wr p M own vs mk wt d) (hj:j<4)
  (hm:MarkedG (bty j) (bsz j) j ms us wr wr' w.heap.size p M vs (vs.getD j nilV) vl (mk j).length n ((mk j).map En.cells).flatten) (hr:role own vl r) (hvl:∀ k,vl.ownBlock=some k->k<wr.heap.size) (r11:11<=r)
  (hsh:∀ g1 g2 g3,shp j (mkEn ms us n vl g1 g2 g3)) (hd:∀ t,t<2->d t<=d' t) (hdr:∀ t i f,t<2->d' t<=i->i<(wt t).length->f<16->r ≠ rho t i f) :
  ∃ own' vi' x,GSt w wH wr' p (M+1) own' (vs.set j vi') (upd mk j (mk j++[x])) wt d'/\Ev (fun q=>q=0 \/ q=r \/ q=2+j) own own' wr wr':=by
 obtain ⟨gi,ci,g1,e1,g2,e2,g3,e3,hbk,hoi,fl,f1,f2,f3,ai,a1,a2,a3,⟨i1,i2,i3⟩,hgp,hlg,hfr⟩:=hm
 have hrj:=h.rol j (by omega)
 obtain ⟨own',hown⟩:∃ own':Nat->Nat,own'=fun k=>if vl.ownBlock=some k then 10 else if k=gi then 2+j else if k=g1 \/ k=g2 \/ k=g3 then 10 else own k:=⟨_,rfl⟩
 have ng:∀ g,(vl.ownBlock=some g \/ wr.heap.size<=g)->∀ k,k<wr.heap.size->own k ≠ r->k ≠ g:=fun g hg k hk hkr e=>by
  rcases hg with hg|hg
  ·exact hkr (by rw [e];exact hr g hg)
  ·omega
 have hp0:vl.ownBlock ≠ some p:=fun e=>by have:=hr p e;have:=h.op;omega
 have hbg:∀ g,(vl.ownBlock=some g \/ wr.heap.size<=g)->p ≠ g:=fun g hg=>ng g hg p h.bk.up (by have:=h.op;omega)
 have hsz:wr.heap.size<=wr'.heap.size:=hfr.size
 have E:Ev (fun q=>q=0 \/ q=r \/ q=2+j) own own' wr wr':=by
  refine ⟨hfr.mono (fun k _ hk=>?_),fun k hk hw=>?_⟩
  ·rcases hk with hk|hk|hk
   ·exact .inl (by rw [hk];exact h.op)
   ·exact .inr (.inl (hr k hk))
   ·exact .inr (.inr (hrj k hk))
  ·simp only [not_or] at hw
   rw [hown]
   show (if vl.ownBlock=some k then 10 else if k=gi then 2+j else if k=g1 \/ k=g2 \/ k=g3 then 10 else own k)=own k
   rw [if_neg (fun e=>hw.2.1 (hr k e)),if_neg (fun e=>?_),if_neg (fun e=>by rcases e with e|e|e;exact ng g1 a1 k hk hw.2.1 e;exact ng g2 a2 k hk hw.2.1 e;exact ng g3 a3 k hk hw.2.1 e)]
   rcases ai with ai|ai
   ·exact hw.2.2 (by rw [e];exact hrj gi ai)
   ·omega
 have hnew:∀ g,(g=g1 \/ g=g2 \/ g=g3)->gi ≠ g->own' g=10:=fun g hg hn=>by
  rw [hown]
  show (if vl.ownBlock=some g then 10 else if g=gi then 2+j else if g=g1 \/ g=g2 \/ g=g3 then 10 else own g)=10
  by_cases hv:vl.ownBlock=some g
  ·rw [if_pos hv]
  ·rw [if_neg hv,if_neg (fun e=>hn e.symm),if_pos hg]
 have hlt:∀ {g c m:Nat},Fill wr' (.slice (some ⟨g,0,none⟩) (m+1) c) (m+1) us->us ≠ []->∀ k,(Value.slice (some ⟨g,0,none⟩) (m+1) c).ownBlock=some k->k<wr'.heap.size:=fun f hu=>fill_lt f (Nat.succ_pos _) hu
 have hus:us ≠ []:=fun e=>by
  have:=hsh nilV nilV nilV
  subst e
  match j,hj,this with
  | 0,_,⟨_,_,_,_,_,_,e,_⟩=>simp [mkEn] at e
  | 1,_,⟨_,_,_,e,_⟩=>simp [mkEn] at e
  | 2,_,⟨_,_,_,_,_,_,_,_,e,_⟩=>simp [mkEn] at e
  | 3,_,⟨_,_,_,_,_,_,_,_,e,_⟩=>simp [mkEn] at e
 refine ⟨own',.slice (some ⟨gi,0,none⟩) ((mk j).length+1) ci,mkEn ms us n vl (.slice (some ⟨g1,0,none⟩) (n+1) e1) (.slice (some ⟨g2,0,none⟩) (n+2) e2) (.slice (some ⟨g3,0,none⟩) (n+3) e3),?_,E⟩
 refine h.ev E (by omega) (by omega) hbk ?_ (fun i hi=>?_) (fun i hi x hx=>?_) (fun t i x ht hx=>.inl ⟨hx,fun hdi=>⟨Nat.le_trans (hd t ht) hdi,fun f hf=>?_⟩⟩)
 ·rw [hown]
  show (if vl.ownBlock=some p then 10 else if p=gi then 2+j else if p=g1 \/ p=g2 \/ p=g3 then 10 else own p)=0
  rw [if_neg hp0,if_neg (fun e=>hgp e.symm),if_neg (fun e=>by rcases e with e|e|e;exact hbg g1 a1 e;exact hbg g2 a2 e;exact hbg g3 a3 e)]
  exact h.op
 ·by_cases hij:i=j
  ·subst hij
   refine .inr ?_
   rw [gD_set_same vs _ (by rw [h.bk.len];exact hi),els_mk _ _ hj,upd_same,List.map_append,List.flatten_append,List.length_append,List.length_map]
   refine ⟨?_,fun k hk=>?_⟩
   ·simp only [List.map_cons,List.map_nil,List.flatten_cons,List.flatten_nil,List.append_nil,List.length_cons,List.length_nil,Nat.zero_add]
    exact hoi
   ·simp [rowLoc,Value.ownBlock] at hk
    subst hk
    rw [hown]
    show (if vl.ownBlock=some gi then 10 else if gi=gi then 2+i else _)=2+i
    rw [if_neg hlg,if_pos rfl]
  ·refine .inl ⟨gD_set_ne vs _ hij,els_upd_ne mk wt _ hij,by omega⟩
 ·by_cases hij:i=j
  ·subst hij
   rw [upd_same,List.mem_append] at hx
   rcases hx with hx|hx
   ·exact .inl hx
   ·simp only [List.mem_singleton] at hx
    subst hx
    refine .inr ⟨hsh _ _ _,fun f hf=>?_⟩
    simp only [mkEn,List.mem_cons,List.not_mem_nil,or_false] at hf
    rcases hf with rfl|rfl|rfl|rfl
    ·refine ⟨⟨fl,fun k hk=>Nat.lt_of_lt_of_le (hvl k hk) hsz⟩,fun k hk=>?_⟩
     rw [hown]
     show (if vl.ownBlock=some k then 10 else _)=10
     rw [if_pos (show vl.ownBlock=some k from hk)]
    ·exact ⟨⟨f1,hlt f1 hus⟩,fun k hk=>by simp [fillLoc,Value.ownBlock] at hk;subst hk;exact hnew g1 (.inl rfl) i1⟩
    ·exact ⟨⟨f2,hlt f2 hus⟩,fun k hk=>by simp [fillLoc,Value.ownBlock] at hk;subst hk;exact hnew g2 (.inr (.inl rfl)) i2⟩
    ·exact ⟨⟨f3,hlt f3 hus⟩,fun k hk=>by simp [fillLoc,Value.ownBlock] at hk;subst hk;exact hnew g3 (.inr (.inr rfl)) i3⟩
  ·rw [upd_ne mk _ hij] at hx;exact .inl hx
 ·have:=rho_ge t i f
  have:=hdr t i f ht hdi (List.getElem?_eq_some_iff.1 hx).1 hf
  omega
theorem GSt.clear {w wH wr:World} {p M:Nat} {own:Nat->Nat} {vs:List Value} {mk:Nat->List En} {wt:Nat->List Wg} {d:Nat->Nat} (h:GSt w wH wr p M own vs mk wt d) :
  ∃ vs',GSt w wH ((((wr.setCell ⟨p,5,none⟩ (.slice none 0 0)).setCell ⟨p,6,none⟩ (.slice none 0 0)).setCell ⟨p,7,none⟩ (.slice none 0 0)).setCell ⟨p,8,none⟩ (.slice none 0 0)) p M own vs' mk (fun _=>[]) (fun _=>0):=by
 obtain ⟨wz,hwz⟩:∃ wz,wz=(((wr.setCell ⟨p,5,none⟩ (.slice none 0 0)).setCell ⟨p,6,none⟩ (.slice none 0 0)).setCell ⟨p,7,none⟩ (.slice none 0 0)).setCell ⟨p,8,none⟩ (.slice none 0 0):=⟨_,rfl⟩
 have hbk:BookAt wz p M ((((vs.set 4 nilV).set 5 nilV).set 6 nilV).set 7 nilV):=by
  rw [hwz]
  exact (((h.bk.put 4 (by decide) nilV).put 5 (by decide) nilV).put 6 (by decide) nilV).put 7 (by decide) nilV
 have fr:Frm (fun k=>k=p) wr wz:=by
  rw [hwz]
  exact ((((Frm.refl (fun k=>k=p) wr).setCell (p:=⟨p,5,none⟩) (.inl (show p=p from rfl)) _).setCell (p:=⟨p,6,none⟩) (.inl (show p=p from rfl)) _).setCell (p:=⟨p,7,none⟩) (.inl (show p=p from rfl)) _).setCell (p:=⟨p,8,none⟩) (.inl (show p=p from rfl)) _
 rw [<- hwz]
 have E:Ev (fun q=>q=0) own own wr wz:=⟨fr.mono (fun k _ e=>by rw [show k=p from e];exact h.op),fun _ _ _=>rfl⟩
 have hl:=h.bk.len
 have hn:∀ i,4<=i->i<8->((((vs.set 4 nilV).set 5 nilV).set 6 nilV).set 7 nilV).getD i nilV=nilV:=fun i h4 h8=>by
  rcases (show i=4 \/ i=5 \/ i=6 \/ i=7 by omega) with rfl|rfl|rfl|rfl
  ·rw [gD_set_ne _ _ (by decide),gD_set_ne _ _ (by decide),gD_set_ne _ _ (by decide),gD_set_same _ _ (by omega)]
  ·rw [gD_set_ne _ _ (by decide),gD_set_ne _ _ (by decide),gD_set_same _ _ (by simp;omega)]
  ·rw [gD_set_ne _ _ (by decide),gD_set_same _ _ (by simp;omega)]
  ·rw [gD_set_same _ _ (by simp;omega)]
 refine ⟨_,h.ev E (by decide) (by decide) hbk h.op (fun i hi=>?_) (fun i hi x hx=>.inl hx) (fun t i x ht hx=>by simp at hx)⟩
 rcases Nat.lt_or_ge i 4 with h4|h4
 ·refine .inl ⟨?_,by rw [els_mk _ _ h4,els_mk _ _ h4],by omega⟩
  rw [gD_set_ne _ _ (by omega),gD_set_ne _ _ (by omega),gD_set_ne _ _ (by omega),gD_set_ne _ _ (by omega)]
 ·refine .inr ?_
  have he:els mk (fun _=>[]) i=[]:=by
   unfold els
   rw [if_neg (by omega)]
   by_cases hm:i % 2=0
   ·rw [if_pos hm];rfl
   ·rw [if_neg hm];rfl
  rw [hn i h4 hi,he]
  exact ⟨World.ownsRow_nil _ _ _ _,fun k hk=>by simp [rowLoc,nilV,Value.ownBlock] at hk⟩
end
section
open Go.RowKit
open Flm (Px)
theorem filmLocs_row (B:Nat) (Lv:Value) (z:Nat) (frs:List (List Px)) (fbs:List Nat):(filmLocs B Lv z frs fbs)[0]?=some (rowLoc B 58 1 Lv frs.length (rowVals (z*z) fbs)):=rfl
theorem filmLocs_frame (B:Nat) (Lv:Value) (z:Nat) (frs:List (List Px)) (fbs:List Nat) (i:Nat) (hi:i<frs.length):(filmLocs B Lv z frs fbs)[i+1]?=some (rowLoc B 50 3 (.slice (some ⟨fbs.getD i 0,0,none⟩) (z*z) (z*z)) (z*z) (pxCells (frs.getD i []))):=by
 unfold filmLocs
 rw [List.getElem?_cons_succ,List.getElem?_map,List.getElem?_range hi];simp
theorem film_of_locs {w:World} {B:Nat} {Lv:Value} {z:Nat} {frs:List (List Px)} {fbs:List Nat} (c:FilmC Lv z frs fbs) (h:∀ (f:Nat) (l:Loc),(filmLocs B Lv z frs fbs)[f]?=some l->l.P w):FilmAt w B Lv z frs :=
 ⟨fbs,h 0 _ (filmLocs_row ..),c.ln,fun i hi=>h (i+1) _ (filmLocs_frame _ _ _ _ _ i hi),c.nd,c.nl,c.zz,c.l8,c.ok⟩
end
section
open Go.RowKit
open Flm (Px)
theorem owns_sh {w:World} {B:Nat} {e:TypeId} {size:Nat} {v:Value} {n:Nat} {xs:List Value} (h:w.ownsRow B e size v n xs):∃ a c,v=.slice a n c/\(n=0 \/ ∃ g,a=some ⟨g,0,none⟩):=by
 rcases h.2 with ⟨rfl,h0⟩|⟨g,cap,cur,rfl,_⟩
 ·exact ⟨none,0,by rw [h0],.inl h0⟩
 ·exact ⟨_,cap,rfl,.inr ⟨g,rfl⟩⟩
theorem rho_inj {t i f t' i' f':Nat} (h:rho t i f=rho t' i' f') (ht:t<2) (ht':t'<2) (hf:f<16) (hf':f'<16):t=t'/\i=i'/\f=f':=by unfold rho at h;omega
theorem GSt.markPixels {w wH wr:World} {p M:Nat} {own:Nat->Nat} {vs:List Value} {mk:Nat->List En} {wt:Nat->List Wg} {d d':Nat->Nat} {r n lc:Nat} {la:Option Addr} {xs:List Value} (h:GSt w wH wr p M own vs mk wt d) (hl:Has wr own r (rowLoc w.heap.size 50 3 (.slice la n lc) n xs)) (r11:11<=r)
  (hd:∀ t,t<2->d t<=d' t) (hdr:∀ t i f,t<2->d' t<=i->i<(wt t).length->f<16->r ≠ rho t i f) (hM:M<=900000000) (hn:n<=900000000) (hk:(mk 2).length<=M) :
  Calls Tryz.prog 33 #[.pointer (some ⟨p,0,none⟩),.slice la n lc] wr fun e w'=>e=.returned (.tuple #[])/\∃ own' vi' x,GSt w wH w' p (M+1) own' (vs.set 2 vi') (upd mk 2 (mk 2++[x])) wt d'/\Ev (fun q=>q=0 \/ q=r \/ q=2+2) own own' wr w':=by
 have hrow:=h.row 2 (by decide)
 have hrol:=h.rol 2 (by decide)
 rw [els_mk _ _ (by decide),List.length_map] at hrow
 obtain ⟨ia,ic,hv,_⟩:=owns_sh hrow
 have hv0:=h.at 2 (by decide)
 have hop:=h.op
 rw [hv] at hrow hv0 hrol
 refine (markPixels_any wr w.heap.size p M vs ia (mk 2).length ic _ la n lc xs h.bk hv0 hrow hl.1 h.bel.size (hrol.ne1 (by omega)) (hl.2.ne1 (by omega)) (hl.2.ne hrol (by omega)) (by omega) (by omega) (by omega)).mono ?_
 rintro e w' ⟨rfl,pa,pb,pc,hm⟩
 rw [<- hv] at hm
 exact ⟨rfl,h.mark (j:=2) (by decide) hm hl.2 (fun k hk=>(World.ownsRow.lt hl.1 k hk).2) r11 (fun g1 g2 g3=>⟨pa,pb,pc,n,_,g1,g2,g3,rfl,hn⟩) hd hdr⟩
def boxLoc (H:Nat) (a b:Value):Loc:=⟨.slice (some ⟨H,0,none⟩) 0 0,fun w=>w.cell? ⟨H,0,none⟩=some a/\w.cell? ⟨H,1,none⟩=some b,fun f h p=>⟨f.cell p.1 (h H rfl),f.cell p.2 (h H rfl)⟩,fun p k e=>by simp [Value.ownBlock] at e;subst e;exact World.block_lt_of_cell? _ _ p.1⟩
theorem GSt.box {w wH wr:World} {p M:Nat} {own:Nat->Nat} {vs:List Value} {mk:Nat->List En} {wt:Nat->List Wg} {d:Nat->Nat} (h:GSt w wH wr p M own vs mk wt d) (a b:Value) (t:TypeId) :
  GSt w wH (wr.alloc (.cells #[a,b] t)) p M (upd own wr.heap.size 50) vs mk wt d/\Ev (fun _=>False) own (upd own wr.heap.size 50) wr (wr.alloc (.cells #[a,b] t))/\Has (wr.alloc (.cells #[a,b] t)) (upd own wr.heap.size 50) 50 (boxLoc wr.heap.size a b):=by
 have hb:Below wr.heap.size wr (wr.alloc (.cells #[a,b] t)):=(Below.refl _ wr).alloc (Nat.le_refl _) _
 have E:Ev (fun _=>False) own (upd own wr.heap.size 50) wr (wr.alloc (.cells #[a,b] t)):=⟨Frm.of_below hb,fun k hk _=>upd_ne own 50 (by omega)⟩
 have hg:=heap_alloc_last wr (.cells #[a,b] t)
 refine ⟨h.ev E (fun e=>e) (fun e=>e) (h.bk.frm (Frm.of_below (S:=fun _=>False) hb) (fun e=>e)) ((upd_ne own 50 (by have:=h.bk.up;omega)).trans h.op) (fun _ _=>.inl ⟨rfl,rfl,fun e=>e⟩) (fun _ _ _ hx=>.inl hx) (fun _ _ _ _ hx=>.inl ⟨hx,fun hd=>⟨hd,fun _ _ e=>e⟩⟩),E,⟨cell_of_row _ _ 0 _ _ _ hg,cell_of_row _ _ 1 _ _ _ hg⟩,fun k hk=>?_⟩
 simp [boxLoc,Value.ownBlock] at hk
 subst hk
 exact upd_same own _ 50
def dAt (j:Nat):Nat->Nat:=fun t=>if t=1 then j else 0
theorem GSt.film {w wH wr:World} {p M:Nat} {own:Nat->Nat} {vs:List Value} {mk:Nat->List En} {wt:Nat->List Wg} {j:Nat} {x:Wg} (h:GSt w wH wr p M own vs mk wt (dAt j)) (hx:(wt 1)[j]?=some x):∃ (z:Nat) (frs:List (List Px)) (Lv Lv':Value) (fbs:List Nat),x.cw=[.int .i64 z,Lv]/\x.ce=[.int .i64 z,Lv']/\FilmC Lv z frs fbs/\FilmAt wr w.heap.size Lv z frs/\FilmAt wr w.heap.size Lv' z frs/\(∀ (f:Nat) (l:Loc),(filmLocs w.heap.size Lv z frs fbs)[f]?=some l->Has wr own (rho 1 j f) l):=by
 have hw:=h.ww 1 j x (by decide) hx (by simp [dAt])
 have he:=h.we 1 j x (by decide) hx (by simp [dAt])
 obtain ⟨z,frs,Lv,Lv',fbs,fbs',rfl,c,c'⟩:=h.sw 1 j x (by decide) hx
 exact ⟨z,frs,Lv,Lv',fbs,rfl,rfl,c,film_of_locs c (fun f l hl=>(hw f l hl).1),film_of_locs c' (fun f l hl=>(he l (List.mem_of_getElem? hl)).1),hw⟩
theorem len_upd {mk:Nat->List En} {M:Nat} (m3:∀ i,i<4->(mk i).length<=M) (j:Nat) (hj:j<4) (x:En):∀ i,i<4->(upd mk j (mk j++[x]) i).length<=M+1:=fun i hi=>by
 by_cases e:i=j
 ·subst e;rw [upd_same,List.length_append];have:=m3 i hi;simpa using this
 ·rw [upd_ne mk _ e];exact Nat.le_succ_of_le (m3 i hi)
end
section
open Go.RowKit
open Flm (Px)
theorem flat_el {α:Type} (f:α->List Value) (m:Nat):∀ (l:List α) (k:Nat) (a:α),(∀ a ∈ l,(f a).length=m)->l[k]?=some a->∀ j,j<m->(l.map f).flatten[k*m+j]?=(f a)[j]?
 | [],k,a,_,h,_,_=>by simp at h
 | b :: l,0,a,hf,h,j,hj=>by
  simp at h
  subst h
  rw [List.map_cons,List.flatten_cons,Nat.zero_mul,Nat.zero_add,List.getElem?_append_left (by rw [hf b (by simp)];exact hj)]
 | b :: l,k+1,a,hf,h,j,hj=>by
  rw [List.map_cons,List.flatten_cons,List.getElem?_append_right (by rw [hf b (by simp)];rw [Nat.succ_mul];omega),hf b (by simp),show (k+1)*m+j-m=k*m+j by rw [Nat.succ_mul];omega]
  exact flat_el f m l k a (fun a ha=>hf a (by simp [ha])) (by simpa using h) j hj
end
section
open Go.RowKit
theorem fill_on {w w':World} {v:Value} {n:Nat} {us:List Value} (h:Fill w v n us) (f:Below w.heap.size w w'):Fill w' v n us:=h.frm (Frm.of_below (S:=fun _=>False) f) (fun _ _ e=>e)
theorem box7 {W:World} {H:Nat} {x0 x1 x2 x3 x4 x5 x6:Value} {t:TypeId} (h:W.heap[H]?=some (.cells #[x0,x1,x2,x3,x4,x5,x6] t (0,0))):W.cell? ⟨H,0,none⟩=some x0/\W.cell? ⟨H,1,none⟩=some x1/\W.cell? ⟨H,2,none⟩=some x2/\W.cell? ⟨H,3,none⟩=some x3/\W.cell? ⟨H,4,none⟩=some x4/\W.cell? ⟨H,5,none⟩=some x5/\W.cell? ⟨H,6,none⟩=some x6 :=
 ⟨cell_of_row _ _ 0 _ _ _ h,cell_of_row _ _ 1 _ _ _ h,cell_of_row _ _ 2 _ _ _ h,cell_of_row _ _ 3 _ _ _ h,cell_of_row _ _ 4 _ _ _ h,cell_of_row _ _ 5 _ _ _ h,cell_of_row _ _ 6 _ _ _ h⟩
theorem box5 {W:World} {H:Nat} {x0 x1 x2 x3 x4:Value} {t:TypeId} (h:W.heap[H]?=some (.cells #[x0,x1,x2,x3,x4] t (0,0))):W.cell? ⟨H,0,none⟩=some x0/\W.cell? ⟨H,1,none⟩=some x1/\W.cell? ⟨H,2,none⟩=some x2/\W.cell? ⟨H,3,none⟩=some x3/\W.cell? ⟨H,4,none⟩=some x4 :=
 ⟨cell_of_row _ _ 0 _ _ _ h,cell_of_row _ _ 1 _ _ _ h,cell_of_row _ _ 2 _ _ _ h,cell_of_row _ _ 3 _ _ _ h,cell_of_row _ _ 4 _ _ _ h⟩
theorem box_on {W W':World} {H:Nat} {o:Obj} (h:W.heap[H]?=some o) (b:Below W.heap.size W W'):W'.heap[H]?=some o:=(b.block _ (heap_lt0 h)).trans h
theorem GSt.films {w wH wr:World} {p M:Nat} {own:Nat->Nat} {vs:List Value} {mk:Nat->List En} {wt:Nat->List Wg} {d:Nat->Nat} (h:GSt w wH wr p M own vs mk wt d) {g k c:Nat} (hv:vs.getD 2 nilV=.slice (some ⟨g,0,none⟩) (mk 2).length c) (hk:k<(mk 2).length) :
  ∃ (a b e:Int) (n:Nat) (l g1 g2 g3:Value),(Fill wr l n [.int .u8 a,.int .u8 b,.int .u8 e]/\Fill wr g1 (n+1) [.int .u8 a,.int .u8 b,.int .u8 e]/\Fill wr g2 (n+2) [.int .u8 a,.int .u8 b,.int .u8 e]/\Fill wr g3 (n+3) [.int .u8 a,.int .u8 b,.int .u8 e])/\n<=900000000/\∀ j v,[Value.int .u8 a,.int .u8 b,.int .u8 e,l,g1,g2,g3][j]?=some v->wr.cell? ⟨g,k*7+j,none⟩=some v:=by
 obtain ⟨x,hx⟩:∃ x,(mk 2)[k]?=some x:=⟨_,List.getElem?_eq_getElem hk⟩
 have hm:=List.mem_of_getElem? hx
 have hen:=h.en 2 (by decide) x hm
 obtain ⟨a,b,e,n,l,g1,g2,g3,rfl,hn⟩:=h.sh 2 (by decide) x hm
 have hr:wr.ownsRow w.heap.size 81 7 (vs.getD 2 nilV) ((mk 2).map En.cells).length ((mk 2).map En.cells).flatten:=h.row 2 (by decide)
 rw [hv,List.length_map] at hr
 have hf:∀ y ∈ mk 2,y.cells.length=7:=fun y hy=>by
  obtain ⟨_,_,_,_,_,_,_,_,rfl,_⟩:=h.sh 2 (by decide) y hy
  rfl
 refine ⟨a,b,e,n,l,g1,g2,g3,⟨(hen (l,n,_) (by simp [mkEn])).1.1,(hen (g1,n+1,_) (by simp [mkEn])).1.1,(hen (g2,n+2,_) (by simp [mkEn])).1.1,(hen (g3,n+3,_) (by simp [mkEn])).1.1⟩,hn,fun j v hj=>?_⟩
 have hj7:j<7:=(List.getElem?_eq_some_iff.1 hj).1
 exact ((World.ownsRow.cellAt hr (k*7+j) (by omega)).trans (flat_el En.cells 7 (mk 2) k _ hf hx j hj7)).trans hj
theorem GSt.rows {w wH wr:World} {p M:Nat} {own:Nat->Nat} {vs:List Value} {mk:Nat->List En} {wt:Nat->List Wg} {d:Nat->Nat} (h:GSt w wH wr p M own vs mk wt d) {g k c:Nat} (hv:vs.getD 3 nilV=.slice (some ⟨g,0,none⟩) (mk 3).length c) (hk:k<(mk 3).length) :
  ∃ (m mb mc n:Nat) (l g1 g2 g3:Value),(Fill wr l n [.slice (some ⟨mb,0,none⟩) m mc]/\Fill wr g1 (n+1) [.slice (some ⟨mb,0,none⟩) m mc]/\Fill wr g2 (n+2) [.slice (some ⟨mb,0,none⟩) m mc]/\Fill wr g3 (n+3) [.slice (some ⟨mb,0,none⟩) m mc])/\n<=900000000/\∀ j v,[Value.int .i64 (m:Int),l,g1,g2,g3][j]?=some v->wr.cell? ⟨g,k*5+j,none⟩=some v:=by
 obtain ⟨x,hx⟩:∃ x,(mk 3)[k]?=some x:=⟨_,List.getElem?_eq_getElem hk⟩
 have hm:=List.mem_of_getElem? hx
 have hen:=h.en 3 (by decide) x hm
 obtain ⟨m,mb,mc,n,l,g1,g2,g3,rfl,hn⟩:=h.sh 3 (by decide) x hm
 have hr:wr.ownsRow w.heap.size 84 5 (vs.getD 3 nilV) ((mk 3).map En.cells).length ((mk 3).map En.cells).flatten:=h.row 3 (by decide)
 rw [hv,List.length_map] at hr
 have hf:∀ y ∈ mk 3,y.cells.length=5:=fun y hy=>by
  obtain ⟨_,_,_,_,_,_,_,_,rfl,_⟩:=h.sh 3 (by decide) y hy
  rfl
 refine ⟨m,mb,mc,n,l,g1,g2,g3,⟨(hen (l,n,_) (by simp [mkEn])).1.1,(hen (g1,n+1,_) (by simp [mkEn])).1.1,(hen (g2,n+2,_) (by simp [mkEn])).1.1,(hen (g3,n+3,_) (by simp [mkEn])).1.1⟩,hn,fun j v hj=>?_⟩
 have hj7:j<5:=(List.getElem?_eq_some_iff.1 hj).1
 exact ((World.ownsRow.cellAt hr (k*5+j) (by omega)).trans (flat_el En.cells 5 (mk 3) k _ hf hx j hj7)).trans hj
set_option maxRecDepth 20000 in
theorem looks_g (w wH wr0:World) (p M:Nat) (own:Nat->Nat) (vs:List Value) (mk:Nat->List En) (wt:Nat->List Wg) (d:Nat->Nat) (h:GSt w wH wr0 p M own vs mk wt d) (hk0:mk 0=[]) (hk1:mk 1=[]) (hk2:(mk 2).length<=100000000) (hk3:(mk 3).length<=100000000) :
  Calls Tryz.prog 17 #[.pointer (some ⟨p,0,none⟩)] wr0 fun e w'=>e=.returned (.bool true)/\Below wr0.heap.size wr0 w':=by
 have hr0:wr0.ownsRow w.heap.size 76 5 (vs.getD 0 nilV) ((mk 0).map En.cells).length ((mk 0).map En.cells).flatten:=h.row 0 (by decide)
 have hr1:wr0.ownsRow w.heap.size 79 3 (vs.getD 1 nilV) ((mk 1).map En.cells).length ((mk 1).map En.cells).flatten:=h.row 1 (by decide)
 have hr2:wr0.ownsRow w.heap.size 81 7 (vs.getD 2 nilV) ((mk 2).map En.cells).length ((mk 2).map En.cells).flatten:=h.row 2 (by decide)
 have hr3:wr0.ownsRow w.heap.size 84 5 (vs.getD 3 nilV) ((mk 3).map En.cells).length ((mk 3).map En.cells).flatten:=h.row 3 (by decide)
 rw [List.length_map] at hr0 hr1 hr2 hr3
 rw [hk0] at hr0
 rw [hk1] at hr1
 obtain ⟨a0,c0,hv0,_⟩:=owns_sh hr0
 obtain ⟨a1,c1,hv1,_⟩:=owns_sh hr1
 obtain ⟨af,cf,hv2,hgf⟩:=owns_sh hr2
 obtain ⟨ar,cr,hv3,hgr⟩:=owns_sh hr3
 obtain ⟨Lf,hLf⟩:∃ L,L=(mk 2).length:=⟨_,rfl⟩
 obtain ⟨Lr,hLr⟩:∃ L,L=(mk 3).length:=⟨_,rfl⟩
 rw [<- hLf] at hv2 hgf hk2
 rw [<- hLr] at hv3 hgr hk3
 have HST:Hid (GSt w wH wr0 p M own vs mk wt d):=h
 have HLf:Hid (Lf=(mk 2).length):=hLf
 have HLr:Hid (Lr=(mk 3).length):=hLr
 have HV2:Hid (vs.getD 2 nilV=.slice af Lf cf):=hv2
 have HV3:Hid (vs.getD 3 nilV=.slice ar Lr cr):=hv3
 have i1:wr0.cell? ⟨p,1,none⟩=some (.slice a0 0 c0):=(h.cell 0 (by decide)).trans (congrArg some hv0)
 have i2:wr0.cell? ⟨p,2,none⟩=some (.slice a1 0 c1):=(h.cell 1 (by decide)).trans (congrArg some hv1)
 have i3:wr0.cell? ⟨p,3,none⟩=some (.slice af Lf cf):=(h.cell 2 (by decide)).trans (congrArg some hv2)
 clear h hr0 hr1 hr2 hr3 hv0 hv1 hv2 hv3 hLf hLr hk0 hk1
 go_enter Tryz.func17,Tryz.ntmps17
 go_wp2
 go_loop [3,4] (fun ok i=>ok=.bool true/\i=.int .i64 0) (fun _ _=>0)
 case atStart=>exact ⟨rfl,rfl⟩
 case round =>
 obtain ⟨rfl,rfl⟩:=hrel
 go_wp2
 go_loop [3,10] (fun ok i=>ok=.bool true/\i=.int .i64 0) (fun _ _=>0)
 case atStart=>exact ⟨rfl,rfl⟩
 case round =>
 obtain ⟨rfl,rfl⟩:=hrel
 go_wp2
 clear i1 i2 i3
 go_loopw [3,13] (fun ok i wr=>ok=.bool true/\∃ k:Nat,k<=Lf/\i=.int .i64 k/\Below wr0.heap.size wr0 wr) (fun _ i _=>Lf-(intOf i).toNat)
 case atStart=>exact ⟨rfl,0,by omega,rfl,Below.refl _ _⟩
 case round =>
 obtain ⟨rfl,k,hk,rfl,hbr⟩:=hrel
 have hst:=HST.out.below hbr
 have i3:wr.cell? ⟨p,3,none⟩=some (.slice af Lf cf):=(hst.cell 2 (by decide)).trans (congrArg some HV2.out)
 have i4:wr.cell? ⟨p,4,none⟩=some (.slice ar Lr cr):=(hst.cell 3 (by decide)).trans (congrArg some HV3.out)
 by_cases hlt:k<Lf
 ·have hlt':(k:Int)<(Lf:Int):=by omega
  obtain ⟨g,rfl⟩:∃ g,af=some ⟨g,0,none⟩:=by
   rcases hgf with h0|h0
   ·omega
   ·exact h0
  obtain ⟨a,b,e,n,l,g1,g2,g3,⟨F0,F1,F2,F3⟩,n9,hc⟩:=hst.films (k:=k) (by rw [<- HLf.out];exact HV2.out) (by rw [<- HLf.out];exact hlt)
  obtain ⟨a0,d0,e0,_⟩:=id F0
  obtain ⟨a1,d1,e1,_⟩:=id F1
  obtain ⟨a2,d2,e2,_⟩:=id F2
  obtain ⟨a3,d3,e3,_⟩:=id F3
  rw [e0] at hc F0
  rw [e1] at hc F1
  rw [e2] at hc F2
  rw [e3] at hc F3
  have q0:=hc 0 _ rfl
  have q1:=hc 1 _ rfl
  have q2:=hc 2 _ rfl
  have q3:=hc 3 _ rfl
  have q4:=hc 4 _ rfl
  have q5:=hc 5 _ rfl
  have q6:=hc 6 _ rfl
  rw [Nat.add_zero] at q0
  obtain ⟨wa,hwa⟩:∃ wa,wa=wr.alloc (.cells #[.int .u8 a,.int .u8 b,.int .u8 e,.slice a0 n d0,.slice a1 (n+1) d1,.slice a2 (n+2) d2,.slice a3 (n+3) d3] 81):=⟨_,rfl⟩
  obtain ⟨H,hH⟩:∃ H,H=wr.heap.size:=⟨_,rfl⟩
  have hba:Below wr.heap.size wr wa:=by rw [hwa];exact (Below.refl _ _).alloc (Nat.le_refl _) _
  have HB0:Hid (wa.heap[H]?=some (.cells #[.int .u8 a,.int .u8 b,.int .u8 e,.slice a0 n d0,.slice a1 (n+1) d1,.slice a2 (n+2) d2,.slice a3 (n+3) d3] 81 (0,0))):=by
   unfold Hid;rw [hwa,hH];exact heap_alloc_last wr _
  have HF0:Hid (Fill wa (.slice a0 n d0) n [.int .u8 a,.int .u8 b,.int .u8 e]):=fill_on F0 hba
  have HF1:Hid (Fill wa (.slice a1 (n+1) d1) (n+1) [.int .u8 a,.int .u8 b,.int .u8 e]):=fill_on F1 hba
  have HF2:Hid (Fill wa (.slice a2 (n+2) d2) (n+2) [.int .u8 a,.int .u8 b,.int .u8 e]):=fill_on F2 hba
  have HF3:Hid (Fill wa (.slice a3 (n+3) d3) (n+3) [.int .u8 a,.int .u8 b,.int .u8 e]):=fill_on F3 hba
  have HBA:Hid (Below wr0.heap.size wr0 wa):=hbr.trans (hba.mono hbr.size)
  have HWA:Hid (wa=wr.alloc (.cells #[.int .u8 a,.int .u8 b,.int .u8 e,.slice a0 n d0,.slice a1 (n+1) d1,.slice a2 (n+2) d2,.slice a3 (n+3) d3] 81)/\H=wr.heap.size):=⟨hwa,hH⟩
  have T1:Hid True:=trivial
  have T2:Hid True:=trivial
  have T3:Hid True:=trivial
  clear hc hst hba hwa hH e0 e1 e2 e3 F0 F1 F2 F3 i4
  go_wp2_with (first
   | (rw [<- HWA.out.1,<- HWA.out.2];obtain ⟨k0,k1,k2,k3,k4,k5,k6⟩:=box7 HB0.out)
   | (clear T1;go_at_call 36;refine (allPixels_any wa _ n a b e HF0.out (by omega)).mono ?_;rintro e w2 ⟨rfl,b2⟩;clear k0 k1 k2 k3 k4 k5 k6;have HB2:=box_on HB0.out b2;obtain ⟨k0,k1,k2,k3,k4,k5,k6⟩:=box7 HB2)
   | (clear T2;go_at_call 36;refine (allPixels_any w2 _ (n+1) a b e (fill_on HF1.out b2) (by omega)).mono ?_;rintro e w3 ⟨rfl,b3⟩;clear k0 k1 k2 k3 k4 k5 k6;have HB3:=box_on HB2 b3;obtain ⟨k0,k1,k2,k3,k4,k5,k6⟩:=box7 HB3)
   | (clear T3;go_at_call 36;refine (allPixels_any w3 _ (n+2) a b e (fill_on (fill_on HF2.out b2) b3) (by omega)).mono ?_;rintro e w4 ⟨rfl,b4⟩;clear k0 k1 k2 k3 k4 k5 k6;have HB4:=box_on HB3 b4;obtain ⟨k0,k1,k2,k3,k4,k5,k6⟩:=box7 HB4)
   | (go_at_call 36;refine (allPixels_any w4 _ (n+3) a b e (fill_on (fill_on (fill_on HF3.out b2) b3) b4) (by omega)).mono ?_;rintro e w5 ⟨rfl,b5⟩;clear k0 k1 k2 k3 k4 k5 k6))
  go_roundw
  case rel =>
   have z2:=HBA.out.trans (b2.mono HBA.out.size)
   have z3:=z2.trans (b3.mono z2.size)
   have z4:=z3.trans (b4.mono z3.size)
   exact ⟨rfl,k+1,by omega,by go_num,z4.trans (b5.mono z4.size)⟩
  case measure=>simp [intOf];omega
 ·have hlt':¬ (k:Int)<(Lf:Int):=by omega
  clear hst
  obtain ⟨W1,rfl⟩:∃ W1,W1=wr:=⟨_,rfl⟩
  have HB1:Hid (Below wr0.heap.size wr0 W1):=hbr
  clear hbr
  go_wp2
  clear i3 i4
  go_loopw [3,19] (fun ok i wr=>ok=.bool true/\∃ k:Nat,k<=Lr/\i=.int .i64 k/\Below wr0.heap.size wr0 wr) (fun _ i _=>Lr-(intOf i).toNat)
  case atStart=>exact ⟨rfl,0,by omega,rfl,HB1.out⟩
  case round =>
  clear HB1
  obtain ⟨rfl,k2,hk2,rfl,hbr⟩:=hrel
  have hst:=HST.out.below hbr
  have i4:wr.cell? ⟨p,4,none⟩=some (.slice ar Lr cr):=(hst.cell 3 (by decide)).trans (congrArg some HV3.out)
  by_cases hlt2:k2<Lr
  ·have hlt2':(k2:Int)<(Lr:Int):=by omega
   obtain ⟨g,rfl⟩:∃ g,ar=some ⟨g,0,none⟩:=by
    rcases hgr with h0|h0
    ·omega
    ·exact h0
   obtain ⟨m,mb,mc,n,l,g1,g2,g3,⟨F0,F1,F2,F3⟩,n9,hc⟩:=hst.rows (k:=k2) (by rw [<- HLr.out];exact HV3.out) (by rw [<- HLr.out];exact hlt2)
   obtain ⟨a0,d0,e0,_⟩:=id F0
   obtain ⟨a1,d1,e1,_⟩:=id F1
   obtain ⟨a2,d2,e2,_⟩:=id F2
   obtain ⟨a3,d3,e3,_⟩:=id F3
   rw [e0] at hc F0
   rw [e1] at hc F1
   rw [e2] at hc F2
   rw [e3] at hc F3
   have q0:=hc 0 _ rfl
   have q1:=hc 1 _ rfl
   have q2:=hc 2 _ rfl
   have q3:=hc 3 _ rfl
   have q4:=hc 4 _ rfl
   rw [Nat.add_zero] at q0
   obtain ⟨wa,hwa⟩:∃ wa,wa=wr.alloc (.cells #[.int .i64 (m:Int),.slice a0 n d0,.slice a1 (n+1) d1,.slice a2 (n+2) d2,.slice a3 (n+3) d3] 84):=⟨_,rfl⟩
   obtain ⟨H,hH⟩:∃ H,H=wr.heap.size:=⟨_,rfl⟩
   have hba:Below wr.heap.size wr wa:=by rw [hwa];exact (Below.refl _ _).alloc (Nat.le_refl _) _
   have HB0:Hid (wa.heap[H]?=some (.cells #[.int .i64 (m:Int),.slice a0 n d0,.slice a1 (n+1) d1,.slice a2 (n+2) d2,.slice a3 (n+3) d3] 84 (0,0))):=by
    unfold Hid;rw [hwa,hH];exact heap_alloc_last wr _
   have HF0:Hid (Fill wa (.slice a0 n d0) n [.slice (some ⟨mb,0,none⟩) m mc]):=fill_on F0 hba
   have HF1:Hid (Fill wa (.slice a1 (n+1) d1) (n+1) [.slice (some ⟨mb,0,none⟩) m mc]):=fill_on F1 hba
   have HF2:Hid (Fill wa (.slice a2 (n+2) d2) (n+2) [.slice (some ⟨mb,0,none⟩) m mc]):=fill_on F2 hba
   have HF3:Hid (Fill wa (.slice a3 (n+3) d3) (n+3) [.slice (some ⟨mb,0,none⟩) m mc]):=fill_on F3 hba
   have HBA:Hid (Below wr0.heap.size wr0 wa):=hbr.trans (hba.mono hbr.size)
   have HWA:Hid (wa=wr.alloc (.cells #[.int .i64 (m:Int),.slice a0 n d0,.slice a1 (n+1) d1,.slice a2 (n+2) d2,.slice a3 (n+3) d3] 84)/\H=wr.heap.size):=⟨hwa,hH⟩
   have T1:Hid True:=trivial
   have T2:Hid True:=trivial
   have T3:Hid True:=trivial
   clear hc hst hba hwa hH e0 e1 e2 e3 F0 F1 F2 F3
   go_wp2_with (first
    | (rw [<- HWA.out.1,<- HWA.out.2];obtain ⟨k0,k1,k3,k4,k5⟩:=box5 HB0.out)
    | (clear T1;go_at_call 37;refine (allRows_any wa _ n m _ _ HF0.out (by omega)).mono ?_;rintro e w2 ⟨rfl,hw⟩;rw [hw];clear hw)
    | (clear T2;go_at_call 37;refine (allRows_any wa _ (n+1) m _ _ HF1.out (by omega)).mono ?_;rintro e w2 ⟨rfl,hw⟩;rw [hw];clear hw)
    | (clear T3;go_at_call 37;refine (allRows_any wa _ (n+2) m _ _ HF2.out (by omega)).mono ?_;rintro e w2 ⟨rfl,hw⟩;rw [hw];clear hw)
    | (go_at_call 37;refine (allRows_any wa _ (n+3) m _ _ HF3.out (by omega)).mono ?_;rintro e w2 ⟨rfl,hw⟩;rw [hw];clear hw))
   go_roundw
   case rel=>exact ⟨rfl,k2+1,by omega,by go_num,HBA.out⟩
   case measure=>simp [intOf];omega
  ·have hlt2':¬ (k2:Int)<(Lr:Int):=by omega
   clear hst
   go_wp2
   go_ret
   exact ⟨rfl,hbr⟩
end
section
open Go.RowKit
set_option maxRecDepth 20000 in
theorem settle_e (w wH wr0:World) (p M:Nat) (own:Nat->Nat) (vs:List Value) (mk:Nat->List En) (h:GSt w wH wr0 p M own vs mk (fun _=>[]) (fun _=>0)) :
  Calls Tryz.prog 16 #[.pointer (some ⟨p,0,none⟩)] wr0 fun e w'=>e=.returned (.bool true)/\∃ vs',GSt w wH w' p M own vs' mk (fun _=>[]) (fun _=>0):=by
 have hr:∀ i,4<=i->i<8->∃ a c,vs.getD i nilV=.slice a 0 c:=fun i h4 h8=>by
  have k:=h.row i h8
  have e:els mk (fun _=>[]) i=[]:=by unfold els;rw [if_neg (by omega)];split <;> rfl
  rw [e] at k
  obtain ⟨a,c,e,_⟩:=owns_sh k
  exact ⟨a,c,e⟩
 obtain ⟨a4,c4,h4⟩:=hr 4 (by decide) (by decide)
 obtain ⟨a5,c5,h5⟩:=hr 5 (by decide) (by decide)
 obtain ⟨a6,c6,h6⟩:=hr 6 (by decide) (by decide)
 obtain ⟨a7,c7,h7⟩:=hr 7 (by decide) (by decide)
 have i5:wr0.cell? ⟨p,5,none⟩=some (.slice a4 0 c4):=by rw [<- h4];exact h.cell 4 (by decide)
 have i6:wr0.cell? ⟨p,6,none⟩=some (.slice a5 0 c5):=by rw [<- h5];exact h.cell 5 (by decide)
 have i7:wr0.cell? ⟨p,7,none⟩=some (.slice a6 0 c6):=by rw [<- h6];exact h.cell 6 (by decide)
 have i8:wr0.cell? ⟨p,8,none⟩=some (.slice a7 0 c7):=by rw [<- h7];exact h.cell 7 (by decide)
 have f5:=h.bk.fz 5
 have f6:=h.bk.fz 6
 have f7:=h.bk.fz 7
 have f8:=h.bk.fz 8
 have HC:Hid (∃ vs',GSt w wH ((((wr0.setCell ⟨p,5,none⟩ (.slice none 0 0)).setCell ⟨p,6,none⟩ (.slice none 0 0)).setCell ⟨p,7,none⟩ (.slice none 0 0)).setCell ⟨p,8,none⟩ (.slice none 0 0)) p M own vs' mk (fun _=>[]) (fun _=>0)):=h.clear
 clear h hr h4 h5 h6 h7
 go_enter Tryz.func16,Tryz.ntmps16
 go_wp2
 go_loop [3,4] (fun ok i=>ok=.bool true/\i=.int .i64 0) (fun _ _=>0)
 case atStart=>exact ⟨rfl,rfl⟩
 case round =>
  obtain ⟨rfl,rfl⟩:=hrel
  go_wp2
  go_loop [3,6] (fun ok i=>ok=.bool true/\i=.int .i64 0) (fun _ _=>0)
  case atStart=>exact ⟨rfl,rfl⟩
  case round =>
   obtain ⟨rfl,rfl⟩:=hrel
   go_wp2
   go_loop [8] (fun i=>i=.int .i64 0) (fun _=>0)
   case atStart=>exact rfl
   case round =>
    subst hrel
    go_wp2
    go_loop [9] (fun i=>i=.int .i64 0) (fun _=>0)
    case atStart=>exact rfl
    case round =>
     subst hrel
     go_wp2
     go_ret
     exact ⟨rfl,HC.out⟩
end
end Go.Proofs.YtekfbphnoibnjaaGreatDoor
