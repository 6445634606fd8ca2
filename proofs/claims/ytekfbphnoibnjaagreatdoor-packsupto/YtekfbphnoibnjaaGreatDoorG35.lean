/-
  GLent WholeFilm Encodes Own Read
-/
import Derived.Test.YtekfbphnoibnjaaGreatDoorG34
import Derived.Lib.SmallJoins
set_option maxHeartbeats 4000000
namespace Go.Proofs.YtekfbphnoibnjaaGreatDoor
section
open Go.RowKit
open Flm (Px okPx)
def rl (n k:Nat):Nat:=rho 1 (n+k) 0
theorem rl_inj {n k k':Nat} (h:rl n k=rl n k'):k=k':=by unfold rl rho at h;omega
theorem rl_ge (n k:Nat):100<=rl n k:=rho_ge _ _ _
theorem rl_free {wt:Nat->List Wg} {k t i f:Nat} (ht:t<2) (hi:i<(wt t).length) (hf:f<16):rl (wt 1).length k ≠ rho t i f:=fun e=>by
 unfold rl at e
 obtain ⟨e1,e2,_⟩:=rho_inj e (by decide) ht (by decide) hf
 subst e1
 omega
def ownNew (n H:Nat) (own:Nat->Nat):Nat->Nat:=fun k=>if H<=k then rl n k else own k
theorem GSt.grow {w wH wr wr':World} {p M:Nat} {own:Nat->Nat} {vs:List Value} {mk:Nat->List En} {wt:Nat->List Wg} {d:Nat->Nat} (h:GSt w wH wr p M own vs mk wt d) (f:Below wr.heap.size wr wr') (n:Nat) :
  GSt w wH wr' p M (ownNew n wr.heap.size own) vs mk wt d/\Ev (fun _=>False) own (ownNew n wr.heap.size own) wr wr':=by
 have E:Ev (fun _=>False) own (ownNew n wr.heap.size own) wr wr':=⟨Frm.of_below f,fun k hk _=>if_neg (by omega)⟩
 exact ⟨h.ev E (fun e=>e) (fun e=>e) (h.bk.frm (Frm.of_below (S:=fun _=>False) f) (fun e=>e)) ((if_neg (by have:=h.bk.up;omega)).trans h.op) (fun _ _=>.inl ⟨rfl,rfl,fun e=>e⟩) (fun _ _ _ hx=>.inl hx) (fun _ _ _ _ hx=>.inl ⟨hx,fun hd=>⟨hd,fun _ _ e=>e⟩⟩),E⟩
def nineLoc (k:Nat):Loc:=⟨.slice (some ⟨k,0,none⟩) 0 0,fun w=>Nine w k,fun f h p=>p.frm f (h k rfl),fun p k' e=>by simp [Value.ownBlock] at e;subst e;exact p.lt⟩
def frLoc (B:Nat) (v:Nat) (f:List Px):Loc:=rowLoc B 50 3 (.slice (some ⟨v,0,none⟩) (f.length+8) (f.length+8)) (f.length+8) (pxCells (padF f))
def rwLoc (B R:Nat) (b s:Nat->Nat) (F:List (List Px)):Loc:=rowLoc B 58 1 (.slice (some ⟨R,0,none⟩) (F.length+8) (F.length+8)) (F.length+8) (lentRow b s F F.length 8)
def Quiet (n R:Nat) (b:Nat->Nat) (N r:Nat):Prop:=r ≠ 0/\r ≠ 4/\r ≠ 5/\r ≠ rl n R/\∀ t,t<N->r ≠ rl n (b t)
structure InL (w wH wr:World) (p M:Nat) (own:Nat->Nat) (vs:List Value) (mk:Nat->List En) (wt:Nat->List Wg) (d:Nat->Nat) (R:Nat) (b s:Nat->Nat) (F:List (List Px)) (i:Nat) (L:List Loc):Prop where
 st:GSt w wH wr p M own vs mk wt d
 row:Has wr own (rl (wt 1).length R) (rwLoc w.heap.size R b s F)
 fr:∀ t,i<=t->t<F.length->Has wr own (rl (wt 1).length (b t)) (frLoc w.heap.size (b t) (F.getD t []))
 sp:∀ t,t<8->Has wr own (rl (wt 1).length (s t)) (nineLoc (s t))
 bR:∀ t,t<F.length->b t ≠ R
 bb:∀ t u,t<F.length->u<F.length->b t=b u->t=u
 sR:∀ t,t<8->s t ≠ R
 sb:∀ t u,t<8->u<F.length->s t ≠ b u
 ex:∀ l ∈ L,∃ r,Has wr own r l/\Quiet (wt 1).length R b F.length r
 m3:∀ i,i<4->(mk i).length<=M
theorem InL.start {w wH wr wr':World} {p M:Nat} {own:Nat->Nat} {vs:List Value} {mk:Nat->List En} {wt:Nat->List Wg} {d:Nat->Nat} {R:Nat} {b s:Nat->Nat} {F:List (List Px)} (h:GSt w wH wr p M own vs mk wt d) (f:Below wr.heap.size wr wr') {B:Nat} (hB:wr.heap.size<=B) (l:LentAt wr' B R b s F F.length 8) (m3:∀ i,i<4->(mk i).length<=M) {L:List Loc} (hL:∀ x ∈ L,x.P wr'/\∃ k,x.v.ownBlock=some k/\wr.heap.size<=k/\k ≠ R/\∀ t,t<F.length->k ≠ b t) :
  InL w wH wr' p M (ownNew (wt 1).length wr.heap.size own) vs mk wt d R b s F 0 L:=by
 have hz:w.heap.size<=B:=Nat.le_trans h.bel.size hB
 have ho:∀ k,wr.heap.size<=k->ownNew (wt 1).length wr.heap.size own k=rl (wt 1).length k:=fun k hk=>if_pos hk
 refine ⟨(h.grow f _).1,⟨owns_base l.row hz,fun k hk=>?_⟩,fun t _ ht=>⟨owns_base (l.fr t ht) hz,fun k hk=>?_⟩,fun t ht=>⟨(l.sp t ht).2,fun k hk=>?_⟩,l.bR,l.bb,l.sR,l.sb,fun x hx=>?_,m3⟩
 ·simp [rwLoc,rowLoc,Value.ownBlock] at hk;subst hk;exact ho _ (Nat.le_trans hB l.lt.1)
 ·simp [frLoc,rowLoc,Value.ownBlock] at hk;subst hk;exact ho _ (Nat.le_trans hB (l.fr t ht).lt.1)
 ·simp [nineLoc,Value.ownBlock] at hk;subst hk;exact ho _ (Nat.le_trans hB (l.sp t ht).1)
 ·obtain ⟨h1,k,h2,h3,h4,h5⟩:=hL x hx
  have hg:=rl_ge (wt 1).length k
  exact ⟨rl (wt 1).length k,⟨h1,fun k' hk=>by rw [h2] at hk;injection hk with hk;subst hk;exact ho _ h3⟩,by omega,by omega,by omega,fun e=>h4 (rl_inj e),fun t ht e=>h5 t ht (rl_inj e)⟩
theorem InL.ev {w wH wr wr':World} {p M M':Nat} {own own':Nat->Nat} {vs vs':List Value} {mk mk':Nat->List En} {wt:Nat->List Wg} {d:Nat->Nat} {R:Nat} {b s:Nat->Nat} {F:List (List Px)} {i i':Nat} {L:List Loc} {Wr:Nat->Prop} (h:InL w wH wr p M own vs mk wt d R b s F i L) (g:GSt w wH wr' p M' own' vs' mk' wt d) (e:Ev Wr own own' wr wr') (hi:i<=i')
  (nR:¬ Wr (rl (wt 1).length R)) (nb:∀ t,i'<=t->t<F.length->¬ Wr (rl (wt 1).length (b t))) (ns:∀ t,t<8->¬ Wr (rl (wt 1).length (s t))) (nq:∀ r,Quiet (wt 1).length R b F.length r->¬ Wr r) (m3:∀ i,i<4->(mk' i).length<=M'):InL w wH wr' p M' own' vs' mk' wt d R b s F i' L :=
 ⟨g,e.has h.row nR,fun t h1 h2=>e.has (h.fr t (Nat.le_trans hi h1) h2) (nb t h1 h2),fun t ht=>e.has (h.sp t ht) (ns t ht),h.bR,h.bb,h.sR,h.sb,fun l hl=>(h.ex l hl).elim fun r hr=>⟨r,e.has hr.1 (nq r hr.2),hr.2⟩,m3⟩
theorem InL.below {w wH wr wr':World} {p M:Nat} {own:Nat->Nat} {vs:List Value} {mk:Nat->List En} {wt:Nat->List Wg} {d:Nat->Nat} {R:Nat} {b s:Nat->Nat} {F:List (List Px)} {i:Nat} {L:List Loc} (h:InL w wH wr p M own vs mk wt d R b s F i L) (f:Below wr.heap.size wr wr'):InL w wH wr' p M own vs mk wt d R b s F i L :=
 h.ev (h.st.below f) (Ev.of_below (Wr:=fun _=>False) f) (Nat.le_refl _) (fun e=>e) (fun _ _ _ e=>e) (fun _ _ e=>e) (fun _ _ e=>e) h.m3
theorem InL.box {w wH wr:World} {p M:Nat} {own:Nat->Nat} {vs:List Value} {mk:Nat->List En} {wt:Nat->List Wg} {d:Nat->Nat} {R:Nat} {b s:Nat->Nat} {F:List (List Px)} {i:Nat} {L:List Loc} (h:InL w wH wr p M own vs mk wt d R b s F i L) (x y:Value) (t:TypeId) :
  InL w wH (wr.alloc (.cells #[x,y] t)) p M (upd own wr.heap.size 50) vs mk wt d R b s F i (boxLoc wr.heap.size x y :: L):=by
 obtain ⟨g1,g2,g3⟩:=h.st.box x y t
 have k:=h.ev g1 g2 (Nat.le_refl _) (fun e=>e) (fun _ _ _ e=>e) (fun _ _ e=>e) (fun _ _ e=>e) h.m3
 exact ⟨k.st,k.row,k.fr,k.sp,k.bR,k.bb,k.sR,k.sb,fun l hl=>by
  rcases List.mem_cons.1 hl with e|e
  ·have hg:=fun k=>rl_ge (wt 1).length k
   rw [e];exact ⟨50,g3,by decide,by decide,by decide,by have:=hg R;omega,fun t _=>by have:=hg (b t);omega⟩
  ·exact k.ex l e,k.m3⟩
theorem InL.pix {w wH wr:World} {p M:Nat} {own:Nat->Nat} {vs:List Value} {mk:Nat->List En} {wt:Nat->List Wg} {d:Nat->Nat} {R:Nat} {b s:Nat->Nat} {F:List (List Px)} {i:Nat} {L:List Loc} (h:InL w wH wr p M own vs mk wt d R b s F i L) (hi:i<F.length) (hM:M<=900000000) (hl:(F.getD i []).length+8<=900000000) :
  Calls Tryz.prog 33 #[.pointer (some ⟨p,0,none⟩),.slice (some ⟨b i,0,none⟩) ((F.getD i []).length+8) ((F.getD i []).length+8)] wr fun e w'=>e=.returned (.tuple #[])/\∃ own' vi' x,InL w wH w' p (M+1) own' (vs.set 2 vi') (upd mk 2 (mk 2++[x])) wt d R b s F (i+1) L:=by
 have hg:=rl_ge (wt 1).length (b i)
 refine (h.st.markPixels (d':=d) (h.fr i (Nat.le_refl _) hi) (by omega) (fun _ _=>Nat.le_refl _) (fun t j f ht _ hj hf=>rl_free ht hj hf) hM hl (h.m3 2 (by decide))).mono ?_
 rintro e w' ⟨rfl,own',vi',x,g1,g2⟩
 have nw:∀ k,k ≠ b i->¬ (rl (wt 1).length k=0 \/ rl (wt 1).length k=rl (wt 1).length (b i) \/ rl (wt 1).length k=2+2):=fun k hk e=>by
  have:=rl_ge (wt 1).length k
  rcases e with e|e|e
  ·omega
  ·exact hk (rl_inj e)
  ·omega
 exact ⟨rfl,own',vi',x,h.ev g1 g2 (by omega) (nw R (fun e=>h.bR i hi e.symm)) (fun t h1 h2=>nw _ (fun e=>by have:=h.bb t i h2 hi e;omega)) (fun t ht=>nw _ (h.sb t i ht hi)) (fun r hq e=>by obtain ⟨q1,q2,_,_,q5⟩:=hq;rcases e with e|e|e;exact q1 e;exact q5 i hi e;exact q2 e) (len_upd h.m3 2 (by decide) x)⟩
theorem GSt.markRows2 {w wH wr:World} {p M:Nat} {own:Nat->Nat} {vs:List Value} {mk:Nat->List En} {wt:Nat->List Wg} {d d':Nat->Nat} {r n lc:Nat} {la:Option Addr} {xs:List Value} (h:GSt w wH wr p M own vs mk wt d) (hl:Has wr own r (rowLoc w.heap.size 58 1 (.slice la n lc) n xs)) (r11:11<=r)
  (hd:∀ t,t<2->d t<=d' t) (hdr:∀ t i f,t<2->d' t<=i->i<(wt t).length->f<16->r ≠ rho t i f) (hM:M<=900000000) (hn:n<=900000000) (hk:(mk 3).length<=M) :
  Calls Tryz.prog 34 #[.pointer (some ⟨p,0,none⟩),.slice la n lc] wr fun e w'=>e=.returned (.tuple #[])/\∃ own' vi' x mb,GSt w wH w' p (M+1) own' (vs.set 3 vi') (upd mk 3 (mk 3++[x])) wt d'/\Ev (fun q=>q=0 \/ q=r \/ q=2+3) own own' wr w'/\Fill w' (.slice la n lc) n [.slice (some ⟨mb,0,none⟩) (M+1) (M+1)]/\w'.heap[mb]?=some (.cells (madeCells #[.int .u8 0,.int .u8 0,.int .u8 0] ((M+1)*3)) 50 (0,0)):=by
 have hrow:=h.row 3 (by decide)
 have hrol:=h.rol 3 (by decide)
 rw [els_mk _ _ (by decide),List.length_map] at hrow
 obtain ⟨ia,ic,hv,_⟩:=owns_sh hrow
 have hv0:=h.at 3 (by decide)
 have hop:=h.op
 rw [hv] at hrow hv0 hrol
 refine (markRows_any wr w.heap.size p M vs ia (mk 3).length ic _ la n lc xs h.bk hv0 hrow hl.1 h.bel.size (hrol.ne1 (by omega)) (hl.2.ne1 (by omega)) (hl.2.ne hrol (by omega)) (by omega) (by omega) (by omega)).mono ?_
 rintro e w' ⟨rfl,mb,hm,_,hz⟩
 rw [<- hv] at hm
 have hfl:Fill w' (.slice la n lc) n [.slice (some ⟨mb,0,none⟩) (M+1) (M+1)]:=by
  obtain ⟨gi,ci,g1,e1,g2,e2,g3,e3,hbk,hoi,fl,_⟩:=hm
  exact fl
 obtain ⟨own',vi',x,q1,q2⟩:=h.mark (j:=3) (by decide) hm hl.2 (fun k hk=>(World.ownsRow.lt hl.1 k hk).2) r11 (fun g1 g2 g3=>⟨M+1,mb,M+1,n,_,g1,g2,g3,rfl,hn⟩) hd hdr
 exact ⟨rfl,own',vi',x,mb,q1,q2,hfl,hz⟩
def blackF (N M:Nat):List (List Px):=List.replicate N (List.replicate M (0,0,0))
theorem blackF_get (N M j:Nat) (h:j<N):(blackF N M).getD j []=List.replicate M (0,0,0):=by
 unfold blackF
 rw [List.getD_eq_getElem?_getD,List.getElem?_replicate,if_pos h];rfl
theorem blackF_len (N M:Nat):(blackF N M).length=N:=by simp [blackF]
theorem black_ok (N M j:Nat):∀ p ∈ (blackF N M).getD j [],okPx p:=fun p hp=>by
 by_cases h:j<N
 ·rw [blackF_get N M j h] at hp
  rw [(List.mem_replicate.1 hp).2]
  exact ⟨by decide,by decide,by decide⟩
 ·rw [List.getD_eq_getElem?_getD,List.getElem?_eq_none (by rw [blackF_len];omega)] at hp
  cases hp
theorem zero_cell {w:World} {mb M:Nat} {t:TypeId} (h:w.heap[mb]?=some (.cells (madeCells #[.int .u8 0,.int .u8 0,.int .u8 0] (M*3)) t (0,0))) (j:Nat) (hj:j<M*3):w.cell? ⟨mb,j,none⟩=some (.int .u8 0):=by
 rw [cell_of_row _ _ j _ _ _ h,<- Array.getElem?_toList]
 simp only [madeCells,Array.toList_map,List.getElem?_map,Array.toList_range,List.getElem?_range hj,Option.map_some]
 have h3:j % 3=0 \/ j % 3=1 \/ j % 3=2:=by omega
 rcases h3 with h3|h3|h3 <;> simp [h3]
structure BlackAt (w:World) (R N M:Nat):Prop where
 ex:∃ mb,(∀ j,j<N->w.cell? ⟨R,j,none⟩=some (.slice (some ⟨mb,0,none⟩) M M))/\mb<w.heap.size/\∀ j,j<M*3->w.cell? ⟨mb,j,none⟩=some (.int .u8 0)
theorem BlackAt.below {w w':World} {R N M:Nat} (h:BlackAt w R N M) (f:Below w.heap.size w w'):BlackAt w' R N M:=by
 obtain ⟨mb,h1,h2,h3⟩:=h.ex
 have L:∀ a v,w.cell? a=some v->w'.cell? a=some v:=fun a v e=>(f.cell (World.block_lt_of_cell? w a e)).trans e
 exact ⟨mb,fun j hj=>L _ _ (h1 j hj),Nat.lt_of_lt_of_le h2 f.size,fun j hj=>L _ _ (h3 j hj)⟩
theorem BlackAt.film {w:World} {R N M:Nat} (h:BlackAt w R N M):FiIn w (some ⟨R,0,none⟩) (blackF N M):=by
 obtain ⟨mb,h1,h2,h3⟩:=h.ex
 refine .inr ⟨R,0,rfl,fun j hj=>?_⟩
 rw [blackF_len] at hj
 rw [blackF_get N M j hj]
 refine ⟨_,M,by rw [Nat.zero_add,List.length_replicate];exact h1 j hj,.inr ⟨mb,0,rfl,fun k hk=>?_⟩⟩
 rw [List.length_replicate] at hk
 have e:(List.replicate M ((0,0,0):Px)).getD k (0,0,0)=(0,0,0):=by rw [List.getD_eq_getElem?_getD,List.getElem?_replicate];split <;> rfl
 rw [e]
 exact ⟨h3 _ (by omega),h3 _ (by omega),h3 _ (by omega)⟩
theorem BlackAt.frs {w:World} {R N z:Nat} (h:BlackAt w R N (z*z)):∃ nbs cs,FrsIn w (some ⟨R,0,none⟩) N z (blackF N (z*z)) nbs cs:=by
 obtain ⟨mb,h1,h2,h3⟩:=h.ex
 refine ⟨fun _=>mb,fun _=>z*z,.inr ⟨R,0,rfl,fun j hj=>⟨by rw [Nat.zero_add];exact h1 j hj,h2,fun k hk=>?_⟩⟩⟩
 rw [blackF_get N _ j hj]
 have e:(List.replicate (z*z) ((0,0,0):Px)).getD k (0,0,0)=(0,0,0):=by rw [List.getD_eq_getElem?_getD,List.getElem?_replicate];split <;> rfl
 rw [e]
 exact ⟨h3 _ (by omega),h3 _ (by omega),h3 _ (by omega)⟩
theorem InL.rows {w wH wr:World} {p M:Nat} {own:Nat->Nat} {vs:List Value} {mk:Nat->List En} {wt:Nat->List Wg} {d:Nat->Nat} {R:Nat} {b s:Nat->Nat} {F:List (List Px)} {i:Nat} {L:List Loc} (h:InL w wH wr p M own vs mk wt d R b s F i L) (hM:M<=900000000) (hl:F.length+8<=900000000) :
  Calls Tryz.prog 34 #[.pointer (some ⟨p,0,none⟩),.slice (some ⟨R,0,none⟩) (F.length+8) (F.length+8)] wr fun e w'=>e=.returned (.tuple #[])/\∃ own' vi' x,GSt w wH w' p (M+1) own' (vs.set 3 vi') (upd mk 3 (mk 3++[x])) wt d/\(∀ i,i<4->(upd mk 3 (mk 3++[x]) i).length<=M+1)/\BlackAt w' R F.length (M+1)/\∀ l ∈ L,l.P w':=by
 have hg:=rl_ge (wt 1).length R
 refine (h.st.markRows2 (d':=d) h.row (by omega) (fun _ _=>Nat.le_refl _) (fun t j f ht _ hj hf=>rl_free ht hj hf) hM hl (h.m3 3 (by decide))).mono ?_
 rintro e w' ⟨rfl,own',vi',x,mb,g1,g2,g3,g4⟩
 refine ⟨rfl,own',vi',x,g1,len_upd h.m3 3 (by decide) x,⟨mb,fun j hj=>?_,heap_lt0 g4,fun j hj=>zero_cell g4 j hj⟩,fun l hl=>?_⟩
 ·obtain ⟨a,c,e,hf⟩:=g3
  rcases hf with h0|⟨g,off,rfl,hc⟩
  ·omega
  ·simp only [Value.slice.injEq,Option.some.injEq,Addr.mk.injEq,and_true,true_and] at e
   obtain ⟨⟨rfl,rfl⟩,_⟩:=e
   have:=hc j (by omega) 0 _ rfl
   simpa using this
 ·obtain ⟨r,hr,q1,_,q3,q4,_⟩:=h.ex l hl
  exact (g2.has hr (fun e=>by rcases e with e|e|e;exact q1 e;exact q4 e;exact q3 e)).1
end
section
open Go.RowKit
open Flm (Px okPx)
def KeptW (wH:World) (p:Nat) (wx:World):Prop:=∀ k,k<wH.heap.size->k ≠ p->wx.heap[k]?=wH.heap[k]?
def FilmK (wH:World) (p:Nat) (f:Option Addr) (fl:Nat):Prop:=(f=none/\fl=0) \/ ∃ a F,f=some a/\(∀ wx,KeptW wH p wx->FiIn wx (some a) F)/\F.length=fl/\(∀ j,∀ p ∈ F.getD j [],okPx p)/\∀ j,(F.getD j []).length<=1048576
theorem GSt.keptB {w wH wr wr':World} {p M:Nat} {own:Nat->Nat} {vs:List Value} {mk:Nat->List En} {wt:Nat->List Wg} {d:Nat->Nat} (h:GSt w wH wr p M own vs mk wt d) (f:Below wr.heap.size wr wr'):KeptW wH p wr':=fun k h1 h2=>(f.block k (Nat.lt_of_lt_of_le h1 h.sz)).trans (h.kept k h1 h2)
theorem wholeFilm_nil (w:World) (p:Value) (z z':Int) (v:Value) (n c:Nat) :
  Calls Tryz.prog 71 #[p,.agg #[.int .i64 z,v],.agg #[.int .i64 z',.slice none n c]] w fun x w'=>x=.returned (.bool true)/\Below w.heap.size w w':=by
 have qn:=nilFrames
 go_enter Tryz.func71,Tryz.ntmps71
 go_wp2
 go_ret
 exact ⟨rfl,((Below.refl _ w).alloc (Nat.le_refl _) _).alloc (by simp) _⟩
def InW (w wH:World) (p M:Nat) (mk:Nat->List En) (wt:Nat->List Wg) (d:Nat->Nat) (R:Nat) (b s:Nat->Nat) (F:List (List Px)) (L:List Loc) (j:Nat) (wr:World):Prop :=
 ∃ own vs mk',InL w wH wr p (M+j) own vs mk' wt d R b s F j L/\mk' 0=mk 0/\mk' 1=mk 1
theorem InW.below {w wH:World} {p M:Nat} {mk:Nat->List En} {wt:Nat->List Wg} {d:Nat->Nat} {R:Nat} {b s:Nat->Nat} {F:List (List Px)} {L:List Loc} {j:Nat} {wr wr':World} (h:InW w wH p M mk wt d R b s F L j wr) (f:Below wr.heap.size wr wr'):InW w wH p M mk wt d R b s F L j wr':=by
 obtain ⟨own,vs,mk',h1,h2⟩:=h
 exact ⟨own,vs,mk',h1.below f,h2⟩
theorem InW.kept {w wH:World} {p M:Nat} {mk:Nat->List En} {wt:Nat->List Wg} {d:Nat->Nat} {R:Nat} {b s:Nat->Nat} {F:List (List Px)} {L:List Loc} {j:Nat} {wr:World} (h:InW w wH p M mk wt d R b s F L j wr):KeptW wH p wr:=by
 obtain ⟨own,vs,mk',h1,h2⟩:=h
 exact h1.st.kept
theorem InW.ex {w wH:World} {p M:Nat} {mk:Nat->List En} {wt:Nat->List Wg} {d:Nat->Nat} {R:Nat} {b s:Nat->Nat} {F:List (List Px)} {L:List Loc} {j:Nat} {wr:World} (h:InW w wH p M mk wt d R b s F L j wr) {l:Loc} (hl:l ∈ L):l.P wr:=by
 obtain ⟨own,vs,mk',h1,h2⟩:=h
 obtain ⟨r,hr,_⟩:=h1.ex l hl
 exact hr.1
theorem InW.rowAt {w wH:World} {p M:Nat} {mk:Nat->List En} {wt:Nat->List Wg} {d:Nat->Nat} {R:Nat} {b s:Nat->Nat} {F:List (List Px)} {L:List Loc} {j:Nat} {wr:World} (h:InW w wH p M mk wt d R b s F L j wr) (hj:j<F.length) :
  wr.cell? ⟨R,j,none⟩=some (.slice (some ⟨b j,0,none⟩) (F.getD j []).length ((F.getD j []).length+8))/\Pixs wr w.heap.size (b j) ((F.getD j []).length+8) (padF (F.getD j [])):=by
 obtain ⟨own,vs,mk',h1,h2⟩:=h
 exact ⟨(World.ownsRow.cellAt h1.row.1 j (by omega)).trans (lentRow_get b s F F.length 8 j hj),(h1.fr j (Nat.le_refl _) hj).1⟩
theorem InW.roomAt {w wH:World} {p M:Nat} {mk:Nat->List En} {wt:Nat->List Wg} {d:Nat->Nat} {R:Nat} {b s:Nat->Nat} {F:List (List Px)} {L:List Loc} {j:Nat} {wr:World} (h:InW w wH p M mk wt d R b s F L j wr) (t:Nat) (ht:t<8):wr.cell? ⟨R,F.length+t,none⟩=some (.slice (some ⟨s t,0,none⟩) 1 1)/\Nine wr (s t):=by
 obtain ⟨own,vs,mk',h1,h2⟩:=h
 exact ⟨(World.ownsRow.cellAt h1.row.1 (F.length+t) (by omega)).trans (lentRow_room b s F F.length 8 t ht),(h1.sp t ht).1⟩
theorem InW.pix {w wH:World} {p M:Nat} {mk:Nat->List En} {wt:Nat->List Wg} {d:Nat->Nat} {R:Nat} {b s:Nat->Nat} {F:List (List Px)} {L:List Loc} {j:Nat} {wr:World} (h:InW w wH p M mk wt d R b s F L j wr) (hj:j<F.length) (hM:M+F.length<=900000000) (hl:∀ j,(F.getD j []).length<=1048576) :
  Calls Tryz.prog 33 #[.pointer (some ⟨p,0,none⟩),.slice (some ⟨b j,0,none⟩) ((F.getD j []).length+8) ((F.getD j []).length+8)] wr fun e w'=>e=.returned (.tuple #[])/\InW w wH p M mk wt d R b s F L (j+1) w':=by
 obtain ⟨own,vs,mk',h1,h2,h3⟩:=h
 refine (h1.pix hj (by omega) (by have:=hl j;omega)).mono ?_
 rintro e w' ⟨rfl,own',vi',x,g1⟩
 exact ⟨rfl,own',_,_,g1,(upd_ne mk' _ (by decide)).trans h2,(upd_ne mk' _ (by decide)).trans h3⟩
theorem InW.rows {w wH:World} {p M:Nat} {mk:Nat->List En} {wt:Nat->List Wg} {d:Nat->Nat} {R:Nat} {b s:Nat->Nat} {F:List (List Px)} {L:List Loc} {wr:World} (h:InW w wH p M mk wt d R b s F L F.length wr) (hM:M+F.length<=900000000) (hn:F.length<=1048576) :
  Calls Tryz.prog 34 #[.pointer (some ⟨p,0,none⟩),.slice (some ⟨R,0,none⟩) (F.length+8) (F.length+8)] wr fun e w'=>e=.returned (.tuple #[])/\(∃ own' vs' mk',GSt w wH w' p (M+F.length+1) own' vs' mk' wt d/\(∀ i,i<4->(mk' i).length<=M+F.length+1)/\mk' 0=mk 0/\mk' 1=mk 1)/\BlackAt w' R F.length (M+F.length+1)/\∀ l ∈ L,l.P w':=by
 obtain ⟨own,vs,mk',h1,h2,h3⟩:=h
 refine (h1.rows hM (by omega)).mono ?_
 rintro e w' ⟨rfl,own',vi',x,g1,g2,g3,g4⟩
 exact ⟨rfl,⟨own',_,_,g1,g2,(upd_ne mk' _ (by decide)).trans h2,(upd_ne mk' _ (by decide)).trans h3⟩,g3,g4⟩
set_option maxRecDepth 20000 in
theorem wholeFilm_some {w wH wr0:World} {p M:Nat} {own:Nat->Nat} {vs:List Value} {mk:Nat->List En} {wt:Nat->List Wg} {d:Nat->Nat} {R:Nat} {b s:Nat->Nat} {F:List (List Px)} {L:List Loc} (h:InL w wH wr0 p M own vs mk wt d R b s F 0 L) (z z':Int) (a:Addr) (N fc:Nat) (hN:N=F.length)
  (hF:∀ wx,KeptW wH p wx->FiIn wx (some a) F) (hM:M+N<=900000000) (hn:N<=1048576) (hl:∀ j,(F.getD j []).length<=1048576) :
  Calls Tryz.prog 71 #[.pointer (some ⟨p,0,none⟩),.agg #[.int .i64 z,.slice (some ⟨R,0,none⟩) N (N+8)],.agg #[.int .i64 z',.slice (some a) N fc]] wr0 fun e w'=>e=.returned (.bool true)/\(∃ own' vs' mk',GSt w wH w' p (M+N+1) own' vs' mk' wt d/\(∀ i,i<4->(mk' i).length<=M+N+1)/\mk' 0=mk 0/\mk' 1=mk 1)/\BlackAt w' R N (M+N+1)/\∀ l ∈ L,l.P w':=by
 have qn:=nilFrames
 obtain ⟨H,hH⟩:∃ H,H=wr0.heap.size:=⟨_,rfl⟩
 obtain ⟨W2,hW2⟩:∃ W2,W2=(wr0.alloc (.cells #[.int .i64 z,.slice (some ⟨R,0,none⟩) N (N+8)] 27)).alloc (.cells #[.int .i64 z',.slice (some a) N fc] 27):=⟨_,rfl⟩
 have h2:=(h.box (.int .i64 z) (.slice (some ⟨R,0,none⟩) N (N+8)) 27).box (.int .i64 z') (.slice (some a) N fc) 27
 rw [World.size_alloc,<- hW2,<- hH] at h2
 obtain ⟨L2,hL2⟩:∃ L2,L2=boxLoc (H+1) (.int .i64 z') (.slice (some a) N fc) :: boxLoc H (.int .i64 z) (.slice (some ⟨R,0,none⟩) N (N+8)) :: L:=⟨_,rfl⟩
 rw [<- hL2] at h2
 have I0:Hid (InW w wH p M mk wt d R b s F L2 0 W2):=⟨_,_,_,h2,rfl,rfl⟩
 have HBX:Hid (∀ j wr,InW w wH p M mk wt d R b s F L2 j wr->wr.cell? ⟨H+1,1,none⟩=some (.slice (some a) N fc)):=fun j wr hw=>by
  have k:(boxLoc (H+1) (.int .i64 z') (.slice (some a) N fc)).P wr:=hw.ex (by rw [hL2];exact List.mem_cons_self ..)
  exact k.2
 have k1:=HBX.out 0 W2 I0.out
 have k0:W2.cell? ⟨H,1,none⟩=some (.slice (some ⟨R,0,none⟩) N (N+8)):=by
  have k:(boxLoc H (.int .i64 z) (.slice (some ⟨R,0,none⟩) N (N+8))).P W2:=I0.out.ex (by rw [hL2];exact List.mem_cons_of_mem _ (List.mem_cons_self ..))
  exact k.2
 have HLL:Hid (∀ wx,(∀ l ∈ L2,l.P wx)->∀ l ∈ L,l.P wx):=fun wx hx l hl=>hx l (by rw [hL2];exact List.mem_cons_of_mem _ (List.mem_cons_of_mem _ hl))
 have HW:Hid (W2=(wr0.alloc (.cells #[.int .i64 z,.slice (some ⟨R,0,none⟩) N (N+8)] 27)).alloc (.cells #[.int .i64 z',.slice (some a) N fc] 27)/\H=wr0.heap.size):=⟨hW2,hH⟩
 have HF:Hid (∀ wx,KeptW wH p wx->FiIn wx (some a) F):=hF
 have HN:Hid (N=F.length/\(∀ j,(F.getD j []).length<=1048576)):=⟨hN,hl⟩
 clear h h2 hW2 hH hL2 hF hN hl
 go_enter Tryz.func71,Tryz.ntmps71
 go_wp2_with (rw [<- HW.out.1,<- HW.out.2])
 clear k0 k1
 go_loopw [9] (fun v wr=>∃ j:Nat,j<=N/\v=.int .i64 j/\InW w wH p M mk wt d R b s F L2 j wr) (fun v _=>N-(intOf v).toNat)
 case atStart=>exact ⟨0,Nat.zero_le _,rfl,I0.out⟩
 case round =>
  obtain ⟨j,hj,rfl,hI⟩:=hrel
  by_cases hlt:j<N
  ·have hlt':(j:Int)<(N:Int):=by omega
   have k1:=HBX.out j wr hI
   obtain ⟨kr,hpx⟩:=hI.rowAt (by have:=HN.out.1;omega)
   obtain ⟨fb,off,ha,hf⟩:=(HF.out wr hI.kept).resolve_left (by have:=HN.out.1;omega)
   injection ha with ha
   subst ha
   obtain ⟨fa,ca,kf,hp⟩:=hf j (by have:=HN.out.1;omega)
   have hk:(F.getD j []).length<=1048576:=HN.out.2 j
   obtain ⟨f,hfe⟩:∃ f,f=F.getD j []:=⟨_,rfl⟩
   obtain ⟨g,hg⟩:∃ g,g=b j:=⟨_,rfl⟩
   obtain ⟨k,hke⟩:∃ k,k=f.length:=⟨_,rfl⟩
   rw [<- hfe,<- hke] at kr kf hk
   rw [<- hfe] at hp
   rw [<- hg] at kr
   rw [<- hg,<- hfe] at hpx
   have HPX:Hid (∀ wx,Below wr.heap.size wr wx->∀ t,t<k+8->∃ p0 p1 p2:Int,(wx.cell? ⟨g,t*3,none⟩=some (.int .u8 p0)/\wx.cell? ⟨g,t*3+1,none⟩=some (.int .u8 p1)/\wx.cell? ⟨g,t*3+2,none⟩=some (.int .u8 p2))/\((t<k/\∃ fb' fo,fa=some ⟨fb',fo,none⟩/\wx.cell? ⟨fb',fo+t*3,none⟩=some (.int .u8 p0)/\wx.cell? ⟨fb',fo+t*3+1,none⟩=some (.int .u8 p1)/\wx.cell? ⟨fb',fo+t*3+2,none⟩=some (.int .u8 p2)) \/ (¬ t<k/\p0=7/\p1=7/\p2=7))):=fun wx bx t ht=>by
    have Lf:∀ q u,wr.cell? q=some u->wx.cell? q=some u:=fun q u e=>(bx.cell (World.block_lt_of_cell? wr _ e)).trans e
    obtain ⟨y0,y1,y2⟩:=hpx.cell t (by omega)
    by_cases htk:t<k
    ·obtain ⟨fb',fo,e1,p1⟩:=hp.resolve_left (by omega)
     obtain ⟨q0,q1,q2⟩:=p1 t (by omega)
     rw [padF_get f t (by omega)] at y0 y1 y2
     exact ⟨_,_,_,⟨Lf _ _ y0,Lf _ _ y1,Lf _ _ y2⟩,.inl ⟨htk,fb',fo,e1,Lf _ _ q0,Lf _ _ q1,Lf _ _ q2⟩⟩
    ·have e:(padF f).getD t (0,0,0)=(7,7,7):=by
      have:=padF_room f (t-f.length) (by omega)
      rw [show f.length+(t-f.length)=t by omega] at this
      exact this
     rw [e] at y0 y1 y2
     exact ⟨7,7,7,⟨Lf _ _ y0,Lf _ _ y1,Lf _ _ y2⟩,.inr ⟨htk,rfl,rfl,rfl⟩⟩
   have HI:Hid (InW w wH p M mk wt d R b s F L2 j wr):=hI
   have HPM:Hid (∀ wx,Below wr.heap.size wr wx->Calls Tryz.prog 33 #[.pointer (some ⟨p,0,none⟩),.slice (some ⟨g,0,none⟩) (k+8) (k+8)] wx fun e w'=>e=.returned (.tuple #[])/\InW w wH p M mk wt d R b s F L2 (j+1) w'):=fun wx bx=>by
    rw [hke,hfe,hg]
    exact (hI.below bx).pix (by have:=HN.out.1;omega) (by have:=HN.out.1;omega) HN.out.2
   have HLF:Hid (∀ wx,Below wr.heap.size wr wx->wx.cell? ⟨H+1,1,none⟩=some (.slice (some ⟨fb,off,none⟩) N fc)/\wx.cell? ⟨fb,off+j,none⟩=some (.slice fa k ca)):=fun wx bx=>⟨(bx.cell (World.block_lt_of_cell? wr _ k1)).trans k1,(bx.cell (World.block_lt_of_cell? wr _ kf)).trans kf⟩
   clear hI hpx hf hp hfe hg hke
   obtain ⟨wo,hwo⟩:∃ wo,wo=wr:=⟨wr,rfl⟩
   subst hwo
   go_wp2
   go_loopw [12] (fun v wx=>∃ t:Nat,t<=k+8/\v=.int .i64 t/\Below wo.heap.size wo wx) (fun v _=>k+8-(intOf v).toNat)
   case atStart=>exact ⟨0,Nat.zero_le _,rfl,Below.refl _ _⟩
   case round =>
    obtain ⟨t,ht,rfl,bx⟩:=hrel
    by_cases htk:t<k+8
    ·have hlt2:(t:Int)<(k:Int)+8:=by omega
     have hlt3:(t:Int)<((k+8:Nat):Int):=by omega
     obtain ⟨p0,p1,p2,⟨y0,y1,y2⟩,hor⟩:=HPX.out wr bx t htk
     obtain ⟨q1,q2⟩:=HLF.out wr bx
     obtain ⟨A3,hA3⟩:∃ A3,A3=wr.heap.size:=⟨_,rfl⟩
     obtain ⟨W3,hW3⟩:∃ W3,W3=wr.alloc (.cells #[.int .u8 7,.int .u8 7,.int .u8 7] 50):=⟨_,rfl⟩
     have b3:Below wr.heap.size wr W3:=by rw [hW3];exact (Below.refl _ wr).alloc (Nat.le_refl _) _
     have hb3:W3.heap[A3]?=some (.cells #[.int .u8 7,.int .u8 7,.int .u8 7] 50 (0,0)):=by rw [hW3,hA3];exact heap_alloc_last wr _
     have Lf:∀ q u,wr.cell? q=some u->W3.cell? q=some u:=fun q u e=>(b3.cell (World.block_lt_of_cell? wr _ e)).trans e
     have hgA:g ≠ A3:=by have:=World.block_lt_of_cell? wr _ y0;show g ≠ A3;have h':g<wr.heap.size:=this;omega
     have heq:=fun w=>eqPix w p0 p1 p2 p0 p1 p2
     have bo3:Below wo.heap.size wo W3:=bx.trans (b3.mono bx.size)
     rcases hor with ⟨h1,fb',fo,rfl,z0,z1,z2⟩|⟨h1,rfl,rfl,rfl⟩
     ·have h1':(t:Int)<(k:Int):=by omega
      have q1':=Lf _ _ q1
      have q2':=Lf _ _ q2
      have z0':=Lf _ _ z0
      have z1':=Lf _ _ z1
      have z2':=Lf _ _ z2
      have f0:W3.frozen? ⟨A3,0,none⟩=false:=frozen_of_row _ _ 0 _ _ hb3
      have f1:W3.frozen? ⟨A3,1,none⟩=false:=frozen_of_row _ _ 1 _ _ hb3
      have f2:W3.frozen? ⟨A3,2,none⟩=false:=frozen_of_row _ _ 2 _ _ hb3
      have d0:W3.cell? ⟨A3,0,none⟩=some (.int .u8 7):=cell_of_row _ _ 0 _ _ _ hb3
      have d1:W3.cell? ⟨A3,1,none⟩=some (.int .u8 7):=cell_of_row _ _ 1 _ _ _ hb3
      have d2:W3.cell? ⟨A3,2,none⟩=some (.int .u8 7):=cell_of_row _ _ 2 _ _ _ hb3
      obtain ⟨W4,hW4⟩:∃ W4,W4=((W3.setCell ⟨A3,0,none⟩ (.int .u8 p0)).setCell ⟨A3,1,none⟩ (.int .u8 p1)).setCell ⟨A3,2,none⟩ (.int .u8 p2):=⟨_,rfl⟩
      have b4:Below wr.heap.size wr W4:=by rw [hW4];exact (((b3.setCell (p:=⟨A3,0,none⟩) (by rw [hA3];exact Nat.le_refl _) _).setCell (p:=⟨A3,1,none⟩) (by rw [hA3];exact Nat.le_refl _) _).setCell (p:=⟨A3,2,none⟩) (by rw [hA3];exact Nat.le_refl _) _)
      obtain ⟨e0,e1,e2,_⟩:=three_set W3 A3 (.int .u8 p0) (.int .u8 p1) (.int .u8 p2) d0 d1 d2 W4 hW4
      have Lg:∀ q u,wr.cell? q=some u->W4.cell? q=some u:=fun q u e=>(b4.cell (World.block_lt_of_cell? wr _ e)).trans e
      have u0:=Lg _ _ y0
      have u1:=Lg _ _ y1
      have u2:=Lg _ _ y2
      have B4:Hid (Below wo.heap.size wo W4):=bx.trans (b4.mono bx.size)
      have HW3:Hid (W3=_/\A3=_):=⟨hW3,hA3⟩
      have HW4:Hid (W4=_):=hW4
      clear q1 q2 z0 z1 z2 y0 y1 y2 b3 hb3 Lf hW3 hA3 hW4 b4 Lg bo3
      go_wp2_with (first|(rw [<- HW3.out.1,<- HW3.out.2])|(rw [<- HW4.out]))
      go_region
      all_goals
       go_wp2
       go_roundw
       case rel=>exact ⟨t+1,by omega,by go_num,B4.out.drew⟩
       case measure=>simp [intOf];omega
     ·have h1':¬ (t:Int)<(k:Int):=by omega
      have d0:W3.cell? ⟨A3,0,none⟩=some (.int .u8 7):=cell_of_row _ _ 0 _ _ _ hb3
      have d1:W3.cell? ⟨A3,1,none⟩=some (.int .u8 7):=cell_of_row _ _ 1 _ _ _ hb3
      have d2:W3.cell? ⟨A3,2,none⟩=some (.int .u8 7):=cell_of_row _ _ 2 _ _ _ hb3
      have u0:=Lf _ _ y0
      have u1:=Lf _ _ y1
      have u2:=Lf _ _ y2
      have B3:Hid (Below wo.heap.size wo W3):=bo3
      have HW3:Hid (W3=_/\A3=_):=⟨hW3,hA3⟩
      clear q1 q2 y0 y1 y2 b3 hb3 Lf hW3 hA3 bo3
      go_wp2_with (rw [<- HW3.out.1,<- HW3.out.2])
      go_region
      all_goals
       go_wp2
       go_roundw
       case rel=>exact ⟨t+1,by omega,by go_num,B3.out.drew⟩
       case measure=>simp [intOf];omega
    ·have hlt2:¬ (t:Int)<(k:Int)+8:=by omega
     go_wp2_with (go_at_call 33;refine (HPM.out _ bx).mono ?_;rintro e w5 ⟨rfl,i5⟩)
     exact ⟨⟨j+1,hlt,by go_num,i5⟩,by simp [intOf];omega⟩
  ·have hlt':¬ (j:Int)<(N:Int):=by omega
   obtain rfl:j=N:=by omega
   have HRM:Hid (Calls Tryz.prog 34 #[.pointer (some ⟨p,0,none⟩),.slice (some ⟨R,0,none⟩) (j+8) (j+8)] wr fun e w'=>e=.returned (.tuple #[])/\(∃ own' vs' mk',GSt w wH w' p (M+j+1) own' vs' mk' wt d/\(∀ i,i<4->(mk' i).length<=M+j+1)/\mk' 0=mk 0/\mk' 1=mk 1)/\BlackAt w' R j (M+j+1)/\∀ l ∈ L2,l.P w'):=by
    have e:=HN.out.1
    rw [e] at hI hM hn ⊢
    exact hI.rows hM hn
   have HRA:Hid (∀ t,t<8->wr.cell? ⟨R,j+t,none⟩=some (.slice (some ⟨s t,0,none⟩) 1 1)/\Nine wr (s t)):=fun t ht=>by
    have k:=hI.roomAt t ht
    rw [<- HN.out.1] at k
    exact k
   have heq:=fun w=>eqPix w 9 9 9 9 9 9
   obtain ⟨wo,hwo⟩:∃ wo,wo=wr:=⟨wr,rfl⟩
   subst hwo
   clear hI
   go_wp2
   go_loopw [14] (fun v wx=>∃ t:Nat,t<=8/\v=.int .i64 ((j+t:Nat):Int)/\wx=wo) (fun v _=>j+8-(intOf v).toNat)
   case atStart=>exact ⟨0,Nat.zero_le _,rfl,rfl⟩
   case round =>
    obtain ⟨t,ht,rfl,rfl⟩:=hrel
    by_cases htk:t<8
    ·have hlt2:((j+t:Nat):Int)<(j:Int)+8:=by omega
     have hlt3:((j+t:Nat):Int)<((j+8:Nat):Int):=by omega
     obtain ⟨kr,n0,n1,n2⟩:=HRA.out t htk
     obtain ⟨g,hg⟩:∃ g,g=s t:=⟨_,rfl⟩
     rw [<- hg] at kr n0 n1 n2
     clear hg
     go_wp2
     go_roundw
     case rel=>exact ⟨t+1,by omega,by go_num,trivial⟩
     case measure=>simp [intOf];omega
    ·have hlt2:¬ ((j+t:Nat):Int)<(j:Int)+8:=by omega
     go_wp2_with (go_at_call 34;refine HRM.out.mono ?_;rintro e w5 ⟨rfl,r1,r2,r3⟩)
     go_ret
     exact ⟨rfl,r1,r2,HLL.out _ r3⟩
end
section
open Go.RowKit
open Flm (Px okPx)
theorem SoftG.up {w wx:World} (h:SoftG w w.heap.size) (b:Below w.heap.size w wx):SoftG wx wx.heap.size:=h.of (b.block _ h.lt) (Nat.lt_of_lt_of_le h.lt b.size)
theorem encR_no {z:Int} {F:List (List Px)} (h:rightB z F.length (lensF F)=false):(encR z F).1=⟨#[]⟩/\(encR z F).2=3:=by
 unfold encR
 rw [if_neg (by rw [h];decide)]
 exact ⟨rfl,rfl⟩
theorem encodes_nil (W:World) (p:Value) (z:Int) (fc:Nat) (V:SoftG W W.heap.size) :
  Calls Tryz.prog 29 #[p,.agg #[.int .i64 z,.slice none 0 fc]] W fun x w'=>x=.returned (.bool true)/\Below W.heap.size W w':=by
 have mt:∀ wa wb,Below W.heap.size W wa->Below wa.heap.size wa wb->Below W.heap.size W wb:=fun wa wb ha hb=>ha.trans (hb.mono ha.size)
 have ce:∀ wx,Below W.heap.size W wx->Calls Tryz.prog 11 #[.agg #[.int .i64 z,.slice none 0 fc]] wx fun x w'=>x=.returned (.tuple #[.string (encR z []).1,.int .i64 (encR z []).2])/\Below wx.heap.size wx w':=fun wx bx =>
  enc_any wx z none fc [] (.inl rfl) (fun n _=>⟨fun _=>0,fun _=>0,.inl rfl⟩) (fun j p hp=>by simp at hp) (V.up bx)
 have cn:∀ wx,Calls Tryz.prog 73 #[.agg #[.int .i64 z,.slice none 0 fc],.string (encR z []).1,.int .i64 (encR z []).2] wx fun x w'=>x=.returned (.bool true)/\Below wx.heap.size wx w':=fun wx =>
  encoded_any wx z none fc [] (.inl rfl) (fun j p hp=>by simp at hp)
 refine encodes_walk W p z none 0 fc none 0 fc _ _ _ _ (rightB z 0 (lensF [])) (fun _ wx=>Below W.heap.size W wx) (fun wx=>Below W.heap.size W wx) (fun v wx=>v=.slice none 0 fc/\Below W.heap.size W wx)
  (fun _ wa wb ha hb=>mt wa wb ha hb) mt (fun v wa wb ha hb=>⟨ha.1,mt wa wb ha.2 hb⟩) (fun o=>?_) (fun _ wx bx=>ce wx bx) (fun T wx bx x1 x2=>?_) (fun wx _=>refRight wx z none 0 fc (lensF []) (.inl rfl)) (fun wx bx=>?_) ce (fun wx v hv=>?_) (fun _ wx _=>cn wx) (fun hr=>encR_no hr)
 ·refine (lentFilm_nil (W.alloc o) z 0 fc).mono ?_
  rintro x w' ⟨rfl,b⟩
  exact ⟨rfl,b,mt _ _ ((Below.refl _ W).alloc (Nat.le_refl _) o) b⟩
 ·refine (wholeFilm_nil wx p z z _ 0 fc).mono ?_
  rintro x w' ⟨rfl,b⟩
  exact ⟨rfl,mt _ _ bx b,x1.below b,x2.below b⟩
 ·refine (lentFilm_nil wx z 0 fc).mono ?_
  rintro x w' ⟨rfl,b⟩
  exact ⟨none,0,fc,rfl,b,rfl,mt _ _ bx b⟩
 ·rw [hv.1]
  exact cn wx
def AfterW (w wH:World) (p M:Nat) (mk:Nat->List En) (wt:Nat->List Wg) (d:Nat->Nat) (wx:World):Prop:=∃ own' vs' mk',GSt w wH wx p M own' vs' mk' wt d/\(∀ i,i<4->(mk' i).length<=M)/\mk' 0=mk 0/\mk' 1=mk 1
theorem AfterW.below {w wH:World} {p M:Nat} {mk:Nat->List En} {wt:Nat->List Wg} {d:Nat->Nat} {wx wy:World} (h:AfterW w wH p M mk wt d wx) (f:Below wx.heap.size wx wy):AfterW w wH p M mk wt d wy:=by
 obtain ⟨own',vs',mk',h1,h2⟩:=h
 exact ⟨own',vs',mk',h1.below f,h2⟩
theorem AfterW.kept {w wH:World} {p M:Nat} {mk:Nat->List En} {wt:Nat->List Wg} {d:Nat->Nat} {wx:World} (h:AfterW w wH p M mk wt d wx):KeptW wH p wx:=by
 obtain ⟨own',vs',mk',h1,h2⟩:=h
 exact h1.kept
theorem AfterW.bel {w wH:World} {p M:Nat} {mk:Nat->List En} {wt:Nat->List Wg} {d:Nat->Nat} {wx:World} (h:AfterW w wH p M mk wt d wx):Below w.heap.size w wx:=by
 obtain ⟨own',vs',mk',h1,h2⟩:=h
 exact h1.bel
theorem black_enc {wx:World} {R N M:Nat} (h:BlackAt wx R N M) (n:Nat) (hl:∀ j,j<(blackF N M).length->((blackF N M).getD j []).length=n*n):∃ nbs cs,FrsIn wx (some ⟨R,0,none⟩) (blackF N M).length n (blackF N M) nbs cs:=by
 rw [blackF_len] at hl ⊢
 by_cases h0:N=0
 ·exact ⟨fun _=>0,fun _=>0,.inl h0⟩
 ·have e:=hl 0 (by omega)
  rw [blackF_get N M 0 (by omega),List.length_replicate] at e
  subst e
  exact h.frs
theorem encodes_some {w wH W:World} {p M:Nat} {own:Nat->Nat} {vs:List Value} {mk:Nat->List En} {wt:Nat->List Wg} {d:Nat->Nat} (h:GSt w wH W p M own vs mk wt d) (m3:∀ i,i<4->(mk i).length<=M) (V:SoftG w w.heap.size) (z:Int) (a:Addr) (fc:Nat) (F:List (List Px))
  (HF:∀ wx,KeptW wH p wx->FiIn wx (some a) F) (ok:∀ j,∀ p ∈ F.getD j [],okPx p) (hl:∀ j,(F.getD j []).length<=1048576) (hn:F.length<=1048576) (hM:M+F.length+1<=900000000) :
  Calls Tryz.prog 29 #[.pointer (some ⟨p,0,none⟩),.agg #[.int .i64 z,.slice (some a) F.length fc]] W fun x w'=>x=.returned (.bool true)/\AfterW w wH p (M+F.length+1) mk wt d w':=by
 obtain ⟨R,hR⟩:∃ R,R=W.heap.size+3:=⟨_,rfl⟩
 obtain ⟨M',hM'⟩:∃ M',M'=M+F.length+1:=⟨_,rfl⟩
 rw [<- hM']
 have mt:∀ wa wb,Below W.heap.size W wa->Below wa.heap.size wa wb->Below W.heap.size W wb:=fun wa wb ha hb=>ha.trans (hb.mono ha.size)
 refine (encodes_walk W (.pointer (some ⟨p,0,none⟩)) z (some a) F.length fc (some ⟨R,0,none⟩) F.length (F.length+8) (encR z F).1 (encR z (blackF F.length M')).1 (encR z F).2 (encR z (blackF F.length M')).2 (rightB z F.length (lensF F))
  (fun T wx=>∃ b s,LentAt wx R R b s F F.length 8/\(R<T/\∀ t,t<F.length->b t<T)/\Below W.heap.size W wx) (fun wx=>AfterW w wH p M' mk wt d wx/\BlackAt wx R F.length M') (fun v wx=>∃ R2 b s,v=.slice (some ⟨R2,0,none⟩) F.length (F.length+8)/\LentAt wx R2 R2 b s (blackF F.length M') (blackF F.length M').length 8)
  (fun T wa wb ha hb=>?_) (fun wa wb ha hb=>⟨ha.1.below hb,ha.2.below hb⟩) (fun v wa wb ha hb=>?_) (fun o=>?_) (fun T wx hx=>?_) (fun T wx hx x1 x2=>?_) (fun wx hx=>refRight wx z (some a) F.length fc (lensF F) (HF wx hx.1.kept).rows) (fun wx hx=>?_) (fun wx hx=>?_) (fun wx v hv=>?_) (fun _ wx hx=>encoded_any wx z (some a) fc F (HF wx hx.1.kept) ok) (fun hr=>encR_no hr)).mono (fun x w' hx=>⟨hx.1,hx.2.1⟩)
 ·obtain ⟨b,s,h1,h2,h3⟩:=ha
  exact ⟨b,s,h1.below hb,h2,mt _ _ h3 hb⟩
 ·obtain ⟨R2,b,s,h1,h2⟩:=ha
  exact ⟨R2,b,s,h1,h2.below hb⟩
 ·have b0:Below W.heap.size W (W.alloc o):=(Below.refl _ W).alloc (Nat.le_refl _) o
  refine (lentFilm_some (W.alloc o) z a F.length fc F rfl (HF _ (h.keptB b0)) (by omega) (fun j=>by have:=hl j;omega)).mono ?_
  rintro x w' ⟨rfl,⟨b,s,h1⟩,b1⟩
  have eR:(W.alloc o).heap.size+2=R:=by rw [World.size_alloc];omega
  rw [eR] at h1 ⊢
  exact ⟨rfl,b1,b,s,h1,⟨h1.lt.2,fun t ht=>(h1.fr t ht).lt.2⟩,mt _ _ b0 b1⟩
 ·obtain ⟨b,s,h1,h2,h3⟩:=hx
  exact enc_any wx z (some ⟨R,0,none⟩) (F.length+8) F h1.film (fun n hn=>⟨_,_,h1.frs hn⟩) ok ((V.up h.bel).up h3)
 ·obtain ⟨b,s,h1,⟨h2,h2'⟩,h3⟩:=hx
  have i0:=InL.start h h3 (B:=R) (by omega) h1 m3 (L:=[boxLoc W.heap.size (.int .i64 z) (.slice (some a) F.length fc),boxLoc T (.int .i64 z) (.slice (some ⟨R,0,none⟩) F.length (F.length+8))]) (fun x hx=>by
   simp only [List.mem_cons,List.not_mem_nil,or_false] at hx
   rcases hx with rfl|rfl
   ·exact ⟨⟨x1.c0,x1.c1⟩,W.heap.size,rfl,Nat.le_refl _,by omega,fun t ht=>by have:=(h1.fr t ht).lt.1;omega⟩
   ·exact ⟨⟨x2.c0,x2.c1⟩,T,rfl,by omega,by omega,fun t ht=>by have:=h2' t ht;omega⟩)
  refine (wholeFilm_some i0 z z a F.length fc rfl HF (by omega) hn hl).mono ?_
  rintro x w' ⟨rfl,g1,g2,g3⟩
  rw [<- hM'] at g1 g2
  have y1:=g3 _ (List.mem_cons_self ..)
  have y2:=g3 _ (List.mem_cons_of_mem _ (List.mem_cons_self ..))
  exact ⟨rfl,⟨g1,g2⟩,⟨y1.1,y1.2⟩,⟨y2.1,y2.2⟩⟩
 ·have hfi:=hx.2.film
  refine (lentFilm_some wx z ⟨R,0,none⟩ F.length (F.length+8) (blackF F.length M') (blackF_len _ _) hfi (by omega) (fun j=>?_)).mono ?_
  ·by_cases hj:j<F.length
   ·rw [blackF_get _ _ j hj,List.length_replicate];omega
   ·rw [List.getD_eq_getElem?_getD,List.getElem?_eq_none (by rw [blackF_len];omega)];simp
  ·rintro x w' ⟨rfl,⟨b,s,h1⟩,b1⟩
   exact ⟨_,_,_,rfl,b1,_,b,s,rfl,by rw [blackF_len];exact h1⟩
 ·have k:=enc_any wx z (some ⟨R,0,none⟩) (F.length+8) (blackF F.length M') hx.2.film (black_enc hx.2) (black_ok _ _) (V.up hx.1.bel)
  rw [blackF_len] at k
  exact k
 ·obtain ⟨R2,b,s,rfl,h2⟩:=hv
  have k:=encoded_any wx z (some ⟨R2,0,none⟩) (F.length+8) (blackF F.length M') h2.film (black_ok _ _)
  rw [blackF_len] at k
  exact k
theorem encodes_any {w wH W:World} {p M:Nat} {own:Nat->Nat} {vs:List Value} {mk:Nat->List En} {wt:Nat->List Wg} {d:Nat->Nat} (h:GSt w wH W p M own vs mk wt d) (m3:∀ i,i<4->(mk i).length<=M) (V:SoftG w w.heap.size) (z:Int) (f:Option Addr) (fl fc:Nat) (hn:fl<=1048576) (hM:M+fl+1<=900000000) (K:FilmK wH p f fl) :
  Calls Tryz.prog 29 #[.pointer (some ⟨p,0,none⟩),.agg #[.int .i64 z,.slice f fl fc]] W fun x w'=>x=.returned (.bool true)/\∃ M',M'<=M+fl+1/\AfterW w wH p M' mk wt d w':=by
 rcases K with ⟨rfl,rfl⟩|⟨a,F,rfl,HF,rfl,ok,hl⟩
 ·refine (encodes_nil W _ z fc (V.up h.bel)).mono ?_
  rintro x w' ⟨rfl,b⟩
  exact ⟨rfl,M,by omega,own,vs,mk,h.below b,m3,rfl,rfl⟩
 ·refine (encodes_some h m3 V z a fc F HF ok hl hn hM).mono ?_
  rintro x w' ⟨rfl,g⟩
  exact ⟨rfl,_,Nat.le_refl _,g⟩
end
section
open Go.ChangeShapes Go.WideShapes Go.ChangeAt Go.RowKit
theorem own:ownKnob Tryz.prog.godebug=none:=by kernel_rfl
theorem laidOut:laidOutB Tryz.prog=true:=by kernel_rfl
end
section
open Go.ChangeShapes Go.WideShapes Go.ChangeAt Go.RowKit Go.Joins Go.Deep
theorem cellsPix:Tryz.prog.cellsOf 50=3:=by kernel_rfl
theorem cellsNum:Tryz.prog.cellsOf 48=3:=by kernel_rfl
theorem cellsOp:Tryz.prog.cellsOf 54=12:=by kernel_rfl
theorem cellsStr:Tryz.prog.cellsOf 9=1:=by kernel_rfl
theorem cellsBits:Tryz.prog.cellsOf 51=1:=by kernel_rfl
theorem cellsInts:Tryz.prog.cellsOf 52=1:=by kernel_rfl
theorem cellsRows:Tryz.prog.cellsOf 25=1:=by kernel_rfl
theorem cellsFilm:Tryz.prog.cellsOf 27=2:=by kernel_rfl
theorem list12 {α:Type} {l:List α} (h:l.length=12):∃ a0 a1 a2 a3 a4 a5 a6 a7 a8 a9 a10 a11,l=[a0,a1,a2,a3,a4,a5,a6,a7,a8,a9,a10,a11]:=by
 match l,h with
 | [a0,a1,a2,a3,a4,a5,a6,a7,a8,a9,a10,a11],_=>exact ⟨_,_,_,_,_,_,_,_,_,_,_,_,rfl⟩
section
variable {H:Type} {enc:TypeId × Value->H} {w:World} {base:Nat} {spare:Nat->Bool} {held:Bool}
theorem trod_ints3 {P:Program} {n:Nat} {t e:TypeId} {k:IntKind} {a b c:Value} {x:DataW H × List MemPlace}
  (ht:P.underlying t=some (.array 3 e)) (he:P.underlying e=some (.int k)) (hce:P.cellsOf e=1) (hf:DataW.trod enc P w base spare held n t [a,b,c]=some x) :
  ∃ x y z:Int,a=.int k x/\b=.int k y/\c=.int k z/\(Lit.int k x).wf=true/\(Lit.int k y).wf=true/\(Lit.int k z).wf=true:=by
 obtain ⟨xs,m,_,_,_,hl,hi⟩:=DataW.trod_array ht hf
 have g0:=hi 0 (by omega)
 have g1:=hi 1 (by omega)
 have g2:=hi 2 (by omega)
 rw [List.getElem?_eq_getElem (by omega)] at g0 g1 g2
 simp only [hce] at g0 g1 g2
 obtain ⟨x,e0,_,w0⟩:=DataW.trod_int he g0
 obtain ⟨y,e1,_,w1⟩:=DataW.trod_int he g1
 obtain ⟨z,e2,_,w2⟩:=DataW.trod_int he g2
 simp at e0 e1 e2
 exact ⟨x,y,z,e0,e1,e2,w0,w1,w2⟩
theorem trod_slice_shape {P:Program} {n:Nat} {t e:TypeId} {v:Value} {x:DataW H × List MemPlace} (ht:P.underlying t=some (.slice e)) (hf:DataW.trod enc P w base spare held n t [v]=some x):∃ a l c,v=.slice a l c:=by
 rcases DataW.trod_slice ht hf with ⟨h,_⟩|⟨a,l,c,_,_,_,_,h,_⟩
 ·simp at h;exact ⟨_,_,_,h⟩
 ·simp at h;exact ⟨_,_,_,h⟩
def OpV.fits (o:OpV):Prop:=(0<=o.p0/\o.p0<=255)/\(0<=o.p1/\o.p1<=255)/\(0<=o.p2/\o.p2<=255)
theorem open_op {n:Nat} {cs:List Value} {x:DataW H × List MemPlace} (h:DataW.trod enc Tryz.prog w base spare held n 54 cs=some x):∃ o:OpV,cs=o.cells/\o.fits:=by
 obtain ⟨xs,m,_,_,hlen,hxl,hf⟩:=DataW.trod_struct Tryz.underlying54 h
 rw [cellsOp] at hlen
 obtain ⟨a0,a1,a2,a3,a4,a5,a6,a7,a8,a9,a10,a11,rfl⟩:=list12 hlen
 have hx7:xs.length=7:=hxl
 have g0:DataW.trod enc Tryz.prog w base spare held m 3 [a0]=some (xs[0]'(by omega)):=by
  have k:DataW.trod enc Tryz.prog w base spare held m 3 (([a0,a1,a2,a3,a4,a5,a6,a7,a8,a9,a10,a11].drop 0).take (Tryz.prog.cellsOf 3))=xs[0]?:=hf 0 _ rfl
  rw [cellsI64,List.getElem?_eq_getElem (by omega)] at k
  exact k
 have g1:DataW.trod enc Tryz.prog w base spare held m 9 [a1]=some (xs[1]'(by omega)):=by
  have k:DataW.trod enc Tryz.prog w base spare held m 9 (([a0,a1,a2,a3,a4,a5,a6,a7,a8,a9,a10,a11].drop 1).take (Tryz.prog.cellsOf 9))=xs[1]?:=hf 1 _ rfl
  rw [cellsStr,List.getElem?_eq_getElem (by omega)] at k
  exact k
 have g2:DataW.trod enc Tryz.prog w base spare held m 48 [a2,a3,a4]=some (xs[2]'(by omega)):=by
  have k:DataW.trod enc Tryz.prog w base spare held m 48 (([a0,a1,a2,a3,a4,a5,a6,a7,a8,a9,a10,a11].drop 2).take (Tryz.prog.cellsOf 48))=xs[2]?:=hf 2 _ rfl
  rw [cellsNum,List.getElem?_eq_getElem (by omega)] at k
  exact k
 have g3:DataW.trod enc Tryz.prog w base spare held m 50 [a5,a6,a7]=some (xs[3]'(by omega)):=by
  have k:DataW.trod enc Tryz.prog w base spare held m 50 (([a0,a1,a2,a3,a4,a5,a6,a7,a8,a9,a10,a11].drop 5).take (Tryz.prog.cellsOf 50))=xs[3]?:=hf 3 _ rfl
  rw [cellsPix,List.getElem?_eq_getElem (by omega)] at k
  exact k
 have g4:DataW.trod enc Tryz.prog w base spare held m 51 [a8]=some (xs[4]'(by omega)):=by
  have k:DataW.trod enc Tryz.prog w base spare held m 51 (([a0,a1,a2,a3,a4,a5,a6,a7,a8,a9,a10,a11].drop 8).take (Tryz.prog.cellsOf 51))=xs[4]?:=hf 4 _ rfl
  rw [cellsBits,List.getElem?_eq_getElem (by omega)] at k
  exact k
 have g5:DataW.trod enc Tryz.prog w base spare held m 52 [a9]=some (xs[5]'(by omega)):=by
  have k:DataW.trod enc Tryz.prog w base spare held m 52 (([a0,a1,a2,a3,a4,a5,a6,a7,a8,a9,a10,a11].drop 9).take (Tryz.prog.cellsOf 52))=xs[5]?:=hf 5 _ rfl
  rw [cellsInts,List.getElem?_eq_getElem (by omega)] at k
  exact k
 have g6:DataW.trod enc Tryz.prog w base spare held m 27 [a10,a11]=some (xs[6]'(by omega)):=by
  have k:DataW.trod enc Tryz.prog w base spare held m 27 (([a0,a1,a2,a3,a4,a5,a6,a7,a8,a9,a10,a11].drop 10).take (Tryz.prog.cellsOf 27))=xs[6]?:=hf 6 _ rfl
  rw [cellsFilm,List.getElem?_eq_getElem (by omega)] at k
  exact k
 obtain ⟨kd,e0,_,_⟩:=DataW.trod_int Tryz.underlying3 g0
 obtain ⟨s,e1,_,_⟩:=DataW.trod_string Tryz.underlying9 g1
 obtain ⟨c0,c1,c2,rfl,rfl,rfl,_,_,_⟩:=trod_ints3 Tryz.underlying48 Tryz.underlying3 cellsI64 g2
 obtain ⟨p0,p1,p2,rfl,rfl,rfl,w0,w1,w2⟩:=trod_ints3 Tryz.underlying50 Tryz.underlying5 cellsU8 g3
 obtain ⟨b,bl,bc,rfl⟩:=trod_slice_shape Tryz.underlying51 g4
 obtain ⟨l,ll,lc,rfl⟩:=trod_slice_shape Tryz.underlying52 g5
 obtain ⟨ys,m2,_,_,_,hyl,hg⟩:=DataW.trod_struct Tryz.underlying27 g6
 have hy2:ys.length=2:=hyl
 have k0:DataW.trod enc Tryz.prog w base spare held m2 3 [a10]=some (ys[0]'(by omega)):=by
  have k:DataW.trod enc Tryz.prog w base spare held m2 3 (([a10,a11].drop 0).take (Tryz.prog.cellsOf 3))=ys[0]?:=hg 0 _ rfl
  rw [cellsI64,List.getElem?_eq_getElem (by omega)] at k
  exact k
 have k1:DataW.trod enc Tryz.prog w base spare held m2 25 [a11]=some (ys[1]'(by omega)):=by
  have k:DataW.trod enc Tryz.prog w base spare held m2 25 (([a10,a11].drop 1).take (Tryz.prog.cellsOf 25))=ys[1]?:=hg 1 _ rfl
  rw [cellsRows,List.getElem?_eq_getElem (by omega)] at k
  exact k
 obtain ⟨sz,e2,_,_⟩:=DataW.trod_int Tryz.underlying3 k0
 obtain ⟨f,fl,fc,e3⟩:=trod_slice_shape (v:=a11) Tryz.underlying25 k1
 simp at e0 e1 e2
 subst e0 e1 e2 e3
 exact ⟨⟨kd,s,c0,c1,c2,p0,p1,p2,b,bl,bc,l,ll,lc,sz,f,fl,fc⟩,rfl,bounds_u8 w0,bounds_u8 w1,bounds_u8 w2⟩
theorem add_plain (b off j:Nat):(⟨b,off,none⟩:Addr).add j=⟨b,off+j,none⟩:=by
 unfold Addr.add;split <;> simp_all
theorem cells_length (o:OpV):o.cells.length=12:=rfl
end
end
end Go.Proofs.YtekfbphnoibnjaaGreatDoor
