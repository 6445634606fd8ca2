/-
  PRng PAny PPic PPlain
-/
import Derived.Test.YtekfbphnoibnjaaGreatDoorG18
set_option maxHeartbeats 4000000
namespace Go.Proofs.YtekfbphnoibnjaaGreatDoor
section
open Go.RowKit Go.Shelf
theorem keeps_frm {S:Nat->Prop} {W W':World} (f:Frm S W W') (hS:∀ k,S k->∃ v,W.cell? ⟨k,0,none⟩=some v):KeepsOthers W W':=by
 refine ⟨f.size,fun k o hk ho=>?_⟩
 by_cases hs:S k
 ·obtain ⟨v,hv⟩:=hS k hs
  obtain ⟨o',h1,h2⟩:=cells_of_cell hv
  rw [hk] at h1
  cases h1
  rw [h2] at ho
  cases ho
 ·exact (f.block k (heap_lt0 hk) hs).trans hk
section
variable {P:Program} {F:Fence} {n:Nat} {fn:Func} {R:Ending->World->Prop}
theorem retM_none {a:Act} {w:World} {v:Value} (hd:a.defers=[]) (hr:(results fn a.tmps).run P w=.ok v w) (h:R (.returned v) w):bodyPostM F n P fn R .ret a w:=by
 show LeavesInM F n P fn a.tmps R a.defers .returning w
 rw [hd]
 exact ⟨v,hr,h⟩
theorem retM_mark {a:Act} {W:World} {v:Value} {D:Nat} (hd:a.defers=[{ target:=.collected D,args:=#[] }]) (hD:W.heap[D]?=some (.deferred (some []))) (hr:(results fn a.tmps).run P (W.putObj D (.deferred none))=.ok v (W.putObj D (.deferred none))) (h:R (.returned v) (W.putObj D (.deferred none))):bodyPostM F n P fn R .ret a W:=by
 show LeavesInM F n P fn a.tmps R a.defers .returning W
 rw [hd]
 exact ⟨by simp,.inl ⟨_,_,rfl,run_takeDeferred hD,v,hr,h⟩⟩
end
theorem below3 (w:World) (a b c:Obj):Below w.heap.size w (((w.alloc a).alloc b).alloc c):=(((Below.refl _ w).alloc (Nat.le_refl _) _).alloc (by simp) _).alloc (by simp;omega) _
end
section
open Go.RowKit
structure Up where
 u:(FuncId × Array Value × Value) ⊕ Obj
abbrev Up.call (fn:FuncId) (args:Array Value) (v:Value):Up:=⟨.inl (fn,args,v)⟩
abbrev Up.box (ob:Obj):Up:=⟨.inr ob⟩
def updB {α:Type} (f:Nat->α) (i:Nat) (v:α):Nat->α:=fun j=>if j=i then v else f j
theorem updB_same {α:Type} (f:Nat->α) (i:Nat) (v:α):updB f i v i=v:=if_pos rfl
theorem updB_ne {α:Type} (f:Nat->α) {i j:Nat} (v:α) (h:j ≠ i):updB f i v j=f j:=if_neg h
def leftOf (k:Nat) (δ:Nat->Bool):Nat:=((List.range k).filter fun i=>!δ i).length
def doneUp (w:World) (H:Nat) (v:Value):Up->Prop
 | ⟨.inl (_,_,u)⟩=>v=u
 | ⟨.inr ob⟩=>∃ b,v=.pointer (some ⟨b,0,none⟩)/\w.heap[b]?=some ob/\H<=b
def isBox:Up->Prop
 | ⟨.inl _⟩=>False
 | ⟨.inr _⟩=>True
structure UpAt (k:Nat) (K:Nat->Up) (H:Nat) (δ:Nat->Bool) (σ:Nat->Value) (w:World):Prop where
 all:∀ i,i<k->δ i=true->doneUp w H (σ i) (K i)
 apart:∀ i j,i<k->j<k->i ≠ j->δ i=true->δ j=true->isBox (K i)->isBox (K j)->σ i ≠ σ j
theorem doneUp.below {w w':World} {H:Nat} {v:Value} {u:Up} (h:doneUp w H v u) (f:Below w.heap.size w w'):doneUp w' H v u:=by
 obtain ⟨⟨_,_,_⟩|ob⟩:=u
 ·exact h
 ·obtain ⟨b,h1,h2,h3⟩:=h
  exact ⟨b,h1,(f.block b (heap_lt0 h2)).trans h2,h3⟩
def runUp (P:Program) (T:Array Value) (o:Oper) (w:World):Up->Prop
 | ⟨.inl (fn,args,_)⟩=>(execOp (Act.eval ⟨T,[]⟩) o).run P w=.ok (.enter fn args) w
 | ⟨.inr ob⟩=>(execOp (Act.eval ⟨T,[]⟩) o).run P w=.ok (.value (.pointer (some ⟨w.heap.size,0,none⟩))) (w.alloc ob)
def callUp (P:Program) (S:World->Prop):Up->Prop
 | ⟨.inl (fn,args,v)⟩=>∀ wx,S wx->Calls P fn args wx fun e w'=>e=.returned v/\Below wx.heap.size wx w'
 | ⟨.inr _⟩=>True
def rdy (k:Nat) (idx:Nat->Nat) (V:(Nat->Bool)->Bool) (δ:Nat->Bool) (rs:List Nat):Bool:=!rs.isEmpty && rs.all fun j=>(List.range k).any fun i=>j == idx i && !δ i && V (updB δ i true)
theorem rdy_spec {k:Nat} {idx:Nat->Nat} {V:(Nat->Bool)->Bool} {δ:Nat->Bool} {rs:List Nat} (h:rdy k idx V δ rs=true):rs ≠ []/\∀ j ∈ rs,∃ i,i<k/\j=idx i/\δ i=false/\V (updB δ i true)=true:=by
 unfold rdy at h
 rw [Bool.and_eq_true] at h
 refine ⟨fun e=>by rw [e] at h;exact absurd h.1 (by decide),fun j hj=>?_⟩
 obtain ⟨i,hi,h2⟩:=List.any_eq_true.1 (List.all_eq_true.1 h.2 j hj)
 simp only [Bool.and_eq_true,beq_iff_eq,Bool.not_eq_true'] at h2
 exact ⟨i,List.mem_range.1 hi,h2.1.1,h2.1.2,h2.2⟩
theorem left_upd {k:Nat} {δ:Nat->Bool} {i:Nat} (hi:i<k) (h:δ i=false):leftOf k (updB δ i true)+1=leftOf k δ:=by
 unfold leftOf
 have key:∀ l:List Nat,l.Nodup->i ∈ l->(l.filter fun j=>!updB δ i true j).length+1=(l.filter fun j=>!δ j).length:=by
  intro l
  induction l with
  | nil=>intro _ h;exact absurd h List.not_mem_nil
  | cons a l ih =>
   intro hn hm
   rw [List.nodup_cons] at hn
   by_cases e:a=i
   ·subst e
    have h2:(l.filter fun j=>!updB δ a true j)=l.filter fun j=>!δ j:=List.filter_congr fun j hj=>by
     have hne:j ≠ a:=fun e=>hn.1 (by rw [<- e];exact hj)
     rw [updB_ne δ true hne]
    rw [List.filter_cons_of_neg (by simp [updB_same]),List.filter_cons_of_pos (by simp [h]),h2]
    rfl
   ·have hm':i ∈ l:=by
     rcases List.mem_cons.1 hm with h|h
     ·exact absurd h.symm e
     ·exact h
    have:=ih hn.2 hm'
    by_cases hd:δ a=true
    ·rw [List.filter_cons_of_neg (by simp [updB_ne δ true e,hd]),List.filter_cons_of_neg (by simp [hd])]
     exact this
    ·have hd':δ a=false:=by simpa using hd
     rw [List.filter_cons_of_pos (by simp [updB_ne δ true e,hd']),List.filter_cons_of_pos (by simp [hd']),List.length_cons,List.length_cons]
     omega
 exact key _ List.nodup_range (List.mem_range.2 hi)
theorem left_pos {k:Nat} {δ:Nat->Bool} {n:Nat} (h:leftOf k δ=n+1):∃ i,i<k/\δ i=false:=by
 unfold leftOf at h
 cases e:(List.range k).filter fun i=>!δ i with
 | nil=>rw [e] at h;cases h
 | cons a l =>
  have ha:a ∈ (List.range k).filter fun i=>!δ i:=by rw [e];simp
  obtain ⟨h1,h2⟩:=List.mem_filter.1 ha
  exact ⟨a,List.mem_range.1 h1,by simpa using h2⟩
theorem left_zero' {k:Nat} {δ:Nat->Bool} (h:leftOf k δ=0):∀ i,i<k->δ i=true:=by
 intro i hi
 cases e:δ i with
 | true=>rfl
 | false =>
  have hm:i ∈ (List.range k).filter fun i=>!δ i:=List.mem_filter.2 ⟨List.mem_range.2 hi,by simp [e]⟩
  unfold leftOf at h
  rw [List.length_eq_zero_iff.1 h] at hm
  exact absurd hm List.not_mem_nil
section
variable {P:Program} {ops:Array Oper} {Q:Exit->Act->World->Prop} {S:World->Prop}
theorem any_law {k m:Nat} (T:(Nat->Value)->Array Value) (F:(Nat->Bool)->Array Bool) (idx dst:Nat->Nat) (K:Nat->Up) (V:(Nat->Bool)->Bool) (H:Nat)
  (hop:∀ i,i<k->∃ o,ops[idx i]?=some o/\o.dst=some (dst i)/\(∀ t,Region.wanted o t=true)/\∀ σ w,runUp P (T σ) o w (K i))
  (hT:∀ σ i v,i<k->(T σ).setIfInBounds (dst i) v=T (updB σ i v)) (hF:∀ δ i,i<k->(F δ).setIfInBounds (idx i) true=F (updB δ i true))
  (hr:∀ δ,V δ=true->(∃ i,i<k/\δ i=false)->∃ rs,Region.ready .any ops (F δ)=rs/\rdy k idx V δ rs=true)
  (hc:∀ i,i<k->callUp P S (K i)) (hS:∀ wx wy,S wx->Below wx.heap.size wx wy->S wy) (hH:∀ wx,S wx->H<=wx.heap.size)
  (hend:∀ δ σ wx,(∀ i,i<k->δ i=true)->S wx->UpAt k K H δ σ wx->wpAnyH P .any ops Q S m (F δ) ⟨T σ,[]⟩ wx) :
  ∀ (n:Nat) (δ:Nat->Bool) (σ:Nat->Value) (wx:World),leftOf k δ=n->V δ=true->S wx->UpAt k K H δ σ wx->wpAnyH P .any ops Q S (n+m) (F δ) ⟨T σ,[]⟩ wx
 | 0,δ,σ,wx,hn,_,hs,hu=>by
  rw [Nat.zero_add]
  exact hend δ σ wx (left_zero' hn) hs hu
 | n+1,δ,σ,wx,hn,hv,hs,hu=>by
  have ih:=any_law T F idx dst K V H hop hT hF hr hc hS hH hend n
  obtain ⟨rs,hrs,hrd0⟩:=hr δ hv (left_pos hn)
  have hrd:=rdy_spec hrd0
  rw [show n+1+m=n+m+1 by omega]
  refine wpAnyH_all hrs hrd.1 ?_
  intro j hj
  obtain ⟨i,hi,rfl,hf,hv'⟩:=hrd.2 j hj
  have hl:=left_upd hi hf
  obtain ⟨o,ho,hd,hw,hrun⟩:=hop i hi
  have hrun':=hrun σ wx
  have hc':=hc i hi
  rcases hK:K i with ⟨⟨fn,args,v⟩|ob⟩
  ·rw [hK] at hrun' hc'
   refine wpOp_enter ho (hw _) hrun' ((hc' wx hs).mono ?_)
   rintro e w' ⟨rfl,hb⟩
   refine ⟨hS _ _ hs hb,?_⟩
   rw [put_at hd,hT σ i v hi,hF δ i hi]
   refine ih _ _ w' (by omega) hv' (hS _ _ hs hb) ⟨fun a ha hda=>?_,fun a c ha hcl hac hda hdc hKa hKc=>?_⟩
   ·by_cases e:a=i
    ·subst e
     rw [hK,updB_same]
     exact rfl
    ·rw [updB_ne _ _ e] at hda ⊢
     exact (hu.all a ha hda).below hb
   ·have e1:a ≠ i:=fun e=>by subst e;rw [hK] at hKa;exact hKa
    have e2:c ≠ i:=fun e=>by subst e;rw [hK] at hKc;exact hKc
    rw [updB_ne _ _ e1] at hda ⊢
    rw [updB_ne _ _ e2] at hdc ⊢
    exact hu.apart a c ha hcl hac hda hdc hKa hKc
  ·rw [hK] at hrun'
   have hb:Below wx.heap.size wx (wx.alloc ob):=(Below.refl _ _).alloc (Nat.le_refl _) _
   refine wpOp_value ho (hw _) hrun' ⟨hS _ _ hs hb,?_⟩
   rw [put_at hd,hT σ i _ hi,hF δ i hi]
   have far:∀ a,a<k->δ a=true->isBox (K a)->σ a ≠ .pointer (some ⟨wx.heap.size,0,none⟩):=fun a ha hda hKa e2=>by
    have h0:=hu.all a ha hda
    rcases hKb:K a with ⟨⟨_,_,_⟩|ob'⟩
    ·rw [hKb] at hKa;exact hKa
    ·rw [hKb] at h0
     obtain ⟨b,h1,h2,h3⟩:=h0
     rw [h1] at e2
     have:=heap_lt0 h2
     injection e2 with e2
     injection e2 with e2
     injection e2 with e2
     omega
   refine ih _ _ _ (by omega) hv' (hS _ _ hs hb) ⟨fun a ha hda=>?_,fun a c ha hcl hac hda hdc hKa hKc=>?_⟩
   ·by_cases e:a=i
    ·subst e
     rw [hK,updB_same]
     exact ⟨wx.heap.size,rfl,heap_alloc_last wx ob,hH wx hs⟩
    ·rw [updB_ne _ _ e] at hda ⊢
     exact (hu.all a ha hda).below hb
   ·by_cases e1:a=i
    ·subst e1
     have e2:c ≠ a:=Ne.symm hac
     rw [updB_ne _ _ e2] at hdc
     rw [updB_same,updB_ne _ _ e2]
     exact Ne.symm (far c hcl hdc hKc)
    ·rw [updB_ne _ _ e1] at hda
     by_cases e2:c=i
     ·subst e2
      rw [updB_same,updB_ne _ _ e1]
      exact far a ha hda hKa
     ·rw [updB_ne _ _ e2] at hdc
      rw [updB_ne _ _ e1,updB_ne _ _ e2]
      exact hu.apart a c ha hcl hac hda hdc hKa hKc
end
end
section
open Go.RowKit
open Flm (Px FS)
def PixIn (w:World) (nb N:Nat) (ps:List Px):Prop:=nb<w.heap.size/\∀ k,k<N->w.cell? ⟨nb,k*3,none⟩=some (.int .u8 (ps.getD k (0,0,0)).1)/\w.cell? ⟨nb,k*3+1,none⟩=some (.int .u8 (ps.getD k (0,0,0)).2.1)/\w.cell? ⟨nb,k*3+2,none⟩=some (.int .u8 (ps.getD k (0,0,0)).2.2)
theorem PixIn.frm {S:Nat->Prop} {a b:World} {nb N:Nat} {ps:List Px} (h:PixIn a nb N ps) (f:Frm S a b) (hn:¬ S nb):PixIn b nb N ps :=
 ⟨Nat.lt_of_lt_of_le h.1 f.size,fun k hk=>⟨f.cell (h.2 k hk).1 hn,f.cell (h.2 k hk).2.1 hn,f.cell (h.2 k hk).2.2 hn⟩⟩
theorem PixIn.below {a b:World} {nb N:Nat} {ps:List Px} (h:PixIn a nb N ps) (f:Below a.heap.size a b):PixIn b nb N ps:=h.frm (Frm.of_below (S:=fun _=>False) f) (fun e=>e)
set_option maxRecDepth 20000 in
theorem pAt_raw {C:Nat} (w:World) (nb N z x y:Nat) (a b c:Int) (k:Nat) (hk:k=y*z+x) (hkN:k<N) (hN2:N<=256)
  (k0:w.cell? ⟨nb,k*3,none⟩=some (.int .u8 a)) (k1:w.cell? ⟨nb,k*3+1,none⟩=some (.int .u8 b)) (k2:w.cell? ⟨nb,k*3+2,none⟩=some (.int .u8 c)) :
  Calls Tryz.prog 113 #[.agg #[.int .i64 z,.slice (some ⟨nb,0,none⟩) N C],.int .i64 x,.int .i64 y] w fun e w'=>e=.returned (.agg #[.int .u8 a,.int .u8 b,.int .u8 c])/\Below w.heap.size w w':=by
 have e2:(y:Int)*(z:Int)+(x:Int)=(k:Int):=by rw [hk,Int.natCast_add,Int.natCast_mul]
 have hyz:y*z<=256:=by omega
 have p0:0<=(y:Int)*(z:Int):=by rw [<- Int.natCast_mul];omega
 have p1:(y:Int)*(z:Int)<=256:=by rw [<- Int.natCast_mul];omega
 have hk':(k:Int)<(N:Int):=by omega
 have w1:wrap64 ((y:Int)*(z:Int))=(y:Int)*(z:Int):=by unfold wrap64;omega
 have w2:wrap64 ((y:Int)*(z:Int)+(x:Int))=(k:Int):=by rw [e2];unfold wrap64;omega
 obtain ⟨W,hW⟩:∃ W,W=(w.alloc (.cells #[.int .i64 z,.slice (some ⟨nb,0,none⟩) N C] 89)).alloc (.cells #[.int .u8 0,.int .u8 0,.int .u8 0] 50):=⟨_,rfl⟩
 have hB:Below w.heap.size w W:=by rw [hW];exact ((Below.refl _ _).alloc (Nat.le_refl _) _).alloc (by simp) _
 have Q:∀ (bk off:Nat) (v:Value),w.cell? ⟨bk,off,none⟩=some v->W.cell? ⟨bk,off,none⟩=some v:=fun bk off v h=>(hB.cell (World.block_lt_of_cell? w _ h)).trans h
 have l0:=Q _ _ _ k0
 have l1:=Q _ _ _ k1
 have l2:=Q _ _ _ k2
 rw [hW] at l0 l1 l2
 have HB:Hid (Below w.heap.size w ((w.alloc (.cells #[.int .i64 z,.slice (some ⟨nb,0,none⟩) N C] 89)).alloc (.cells #[.int .u8 0,.int .u8 0,.int .u8 0] 50))):=by rw [<- hW];exact hB
 clear hk hyz Q k0 k1 k2 hW hB
 go_enter Tryz.func113,Tryz.ntmps113
 go_wp2
 refine bodyPost_ret (v:=.agg #[.int .u8 a,.int .u8 b,.int .u8 c]) (by simp [results,Tryz.results113,go_sem]) rfl ⟨rfl,?_⟩
 have hbel:=HB.out
 repeat (first|exact hbel|exact Below.refl _ _|refine Below.setCell ?_ (by simp) _|refine Below.alloc ?_ (by simp) _|refine below_drewN ?_ _)
theorem pAt {C:Nat} (w:World) (nb z:Nat) (ps:List Px) (hz:z*z<=256) (h:PixIn w nb (z*z) ps) (x y:Nat) (hx:x<z) (hy:y<z) :
  Calls Tryz.prog 113 #[.agg #[.int .i64 z,.slice (some ⟨nb,0,none⟩) (z*z) C],.int .i64 x,.int .i64 y] w fun e w'=>e=.returned (.agg #[.int .u8 (ps.getD (y*z+x) (0,0,0)).1,.int .u8 (ps.getD (y*z+x) (0,0,0)).2.1,.int .u8 (ps.getD (y*z+x) (0,0,0)).2.2])/\Below w.heap.size w w':=by
 have hk:=spot_lt hx hy
 obtain ⟨k0,k1,k2⟩:=h.2 (y*z+x) hk
 exact pAt_raw w nb (z*z) z x y _ _ _ _ rfl hk hz k0 k1 k2
theorem pTurned {C:Nat} (w:World) (nb z:Nat) (ps:List Px) (hz:z*z<=256) (h:PixIn w nb (z*z) ps) (hp:∀ k,Flm.okPx (ps.getD k (0,0,0))) (fs:FS) (hps:ps=fs.frs.getD (Flm.now fs) []) (x y:Int) (hx1:x<z) (hy1:y<z) :
  Calls Tryz.prog 132 #[.agg #[.int .i64 z,.slice (some ⟨nb,0,none⟩) (z*z) C],.int .i64 x,.int .i64 y] w fun e w'=>e=.returned (.agg #[.int .i64 (Flm.near z fs x y).1,.int .i64 (Flm.near z fs x y).2.1,.int .i64 (Flm.near z fs x y).2.2])/\Below w.heap.size w w':=by
 by_cases hx:x<0
 ·have e:Flm.near z fs x y=(0,0,0):=by unfold Flm.near;rw [if_pos (.inl hx)]
  rw [e]
  clear h hp hps e
  go_enter Tryz.func132,Tryz.ntmps132
  go_wp2
  refine bodyPost_ret (v:=.agg #[.int .i64 0,.int .i64 0,.int .i64 0]) (by simp [results,Tryz.results132,go_sem]) rfl ⟨rfl,?_⟩
  repeat (first|exact Below.refl _ _|refine Below.setCell ?_ (by simp) _|refine Below.alloc ?_ (by simp) _|refine below_drewN ?_ _)
 by_cases hy:y<0
 ·have e:Flm.near z fs x y=(0,0,0):=by unfold Flm.near;rw [if_pos (.inr (.inl hy))]
  rw [e]
  clear h hp hps e
  go_enter Tryz.func132,Tryz.ntmps132
  go_wp2
  refine bodyPost_ret (v:=.agg #[.int .i64 0,.int .i64 0,.int .i64 0]) (by simp [results,Tryz.results132,go_sem]) rfl ⟨rfl,?_⟩
  repeat (first|exact Below.refl _ _|refine Below.setCell ?_ (by simp) _|refine Below.alloc ?_ (by simp) _|refine below_drewN ?_ _)
 ·obtain ⟨X,rfl⟩:=Int.eq_ofNat_of_zero_le (Int.not_lt.1 hx)
  obtain ⟨Y,rfl⟩:=Int.eq_ofNat_of_zero_le (Int.not_lt.1 hy)
  obtain ⟨q,hq⟩:∃ q,q=ps.getD (Y*z+X) (0,0,0):=⟨_,rfl⟩
  have e:Flm.near z fs (X:Int) (Y:Int)=(Pix.tY q.1 q.2.1 q.2.2,q.1-q.2.2,Pix.tV q.1 q.2.1 q.2.2):=by
   unfold Flm.near Flm.px
   rw [if_neg (by omega),hq,hps]
   rfl
  have HA:Hid (∀ wx,Below w.heap.size w wx->Calls Tryz.prog 113 #[.agg #[.int .i64 z,.slice (some ⟨nb,0,none⟩) (z*z) C],.int .i64 X,.int .i64 Y] wx fun e w'=>e=.returned (.agg #[.int .u8 q.1,.int .u8 q.2.1,.int .u8 q.2.2])/\Below wx.heap.size wx w'):=by
   intro wx hb
   have:=pAt (C:=C) wx nb z ps hz (h.frm (Frm.of_below (S:=fun _=>False) hb) (fun e=>e)) X Y (by omega) (by omega)
   rw [<- hq] at this
   exact this
  obtain ⟨⟨q0,q1⟩,⟨q2,q3⟩,⟨q4,q5⟩⟩:Flm.okPx q:=by rw [hq];exact hp _
  have HT:=fun wx=>colTurn q.1 q.2.1 q.2.2 wx q0 q1 q2 q3 q4 q5
  rw [e]
  clear h e hq hp hps q0 q1 q2 q3 q4 q5
  obtain ⟨Z,hZ⟩:∃ Z,Z=z*z:=⟨_,rfl⟩
  rw [<- hZ] at HA
  rw [<- hZ]
  obtain ⟨W,hW⟩:∃ W,W=(w.alloc (.cells #[.int .i64 z,.slice (some ⟨nb,0,none⟩) Z C] 89)).alloc (.cells #[.int .i64 0,.int .i64 0,.int .i64 0] 48):=⟨_,rfl⟩
  have hh:W.heap[w.heap.size+1]?=some (.cells #[.int .i64 0,.int .i64 0,.int .i64 0] 48):=by
   have:=heap_alloc_last (w.alloc (.cells #[.int .i64 z,.slice (some ⟨nb,0,none⟩) Z C] 89)) (.cells #[.int .i64 0,.int .i64 0,.int .i64 0] 48)
   rw [World.size_alloc] at this
   rw [hW];exact this
  have hB:Below w.heap.size w W:=by rw [hW];exact ((Below.refl _ _).alloc (Nat.le_refl _) _).alloc (by simp) _
  have hoW:w.heap.size+1<W.heap.size:=by rw [hW];simp
  have HH:Hid (∀ w2,Below W.heap.size W w2->w2.heap[w.heap.size+1]?=some (.cells #[.int .i64 0,.int .i64 0,.int .i64 0] 48)):=fun w2 b2=>(b2.block _ hoW).trans hh
  have HB:Hid (Below w.heap.size w W):=hB
  have HW:Hid (W=(w.alloc (.cells #[.int .i64 z,.slice (some ⟨nb,0,none⟩) Z C] 89)).alloc (.cells #[.int .i64 0,.int .i64 0,.int .i64 0] 48)):=hW
  clear hW hh hB hoW hZ hz
  go_enter Tryz.func132,Tryz.ntmps132
  go_wp2_with (first
   | (go_at_call 113;rw [<- HW.out];refine (HA.out _ HB.out).mono ?_;rintro e w1 ⟨rfl,b1⟩)
   | (go_at_call 96;refine (HT _).mono ?_;rintro e w2 ⟨rfl,b2⟩;have hg:=HH.out w2 (b1.trans (b2.mono b1.size));have s0:=cell_of_row w2 (w.heap.size+1) 0 _ _ _ hg;have s1:=cell_of_row w2 (w.heap.size+1) 1 _ _ _ hg;have s2:=cell_of_row w2 (w.heap.size+1) 2 _ _ _ hg;have z0:=frozen_of_row w2 (w.heap.size+1) 0 _ _ hg;have z1:=frozen_of_row w2 (w.heap.size+1) 1 _ _ hg;have z2:=frozen_of_row w2 (w.heap.size+1) 2 _ _ hg;simp at s0 s1 s2))
  refine bodyPost_ret (v:=.agg #[.int .i64 (Pix.tY q.1 q.2.1 q.2.2),.int .i64 (q.1-q.2.2),.int .i64 (Pix.tV q.1 q.2.1 q.2.2)]) (by simp [results,Tryz.results132,go_sem,s0,s1,s2]) rfl ⟨rfl,?_⟩
  have hb2:Below w.heap.size w w2:=HB.out.trans ((b1.trans (b2.mono b1.size)).mono HB.out.size)
  repeat (first|exact hb2|refine Below.setCell ?_ (by simp) _|refine below_drewN ?_ _)
end
section
open Go.RowKit Go.Shelf
open Flm (Px FS)
attribute [local go_sem] Oper.semAt_some
structure FwAt (w:World) (q z nb C:Nat) (mh mb:Value) (T:List Px):Prop where
 c0:w.cell? ⟨q,0,none⟩=some (.int .i64 z)
 c1:w.cell? ⟨q,1,none⟩=some (.slice (some ⟨nb,0,none⟩) (z*z) C)
 c2:w.cell? ⟨q,2,none⟩=some mh
 c3:w.cell? ⟨q,3,none⟩=some mb
 px:PixIn w nb (z*z) T
 zz:z=4 \/ z=8 \/ z=16
 ok:∀ p ∈ T,Flm.okPx p
theorem FwAt.z16 {w:World} {q z nb C:Nat} {mh mb:Value} {T:List Px} (h:FwAt w q z nb C mh mb T):z<=16/\z*z<=256:=by
 rcases h.zz with rfl|rfl|rfl <;> decide
theorem FwAt.up {w:World} {q z nb C:Nat} {mh mb:Value} {T:List Px} (h:FwAt w q z nb C mh mb T):q<w.heap.size:=World.block_lt_of_cell? w _ h.c0
theorem FwAt.frm {S:Nat->Prop} {w w':World} {q z nb C:Nat} {mh mb:Value} {T:List Px} (h:FwAt w q z nb C mh mb T) (f:Frm S w w') (h1:¬ S q) (h2:¬ S nb):FwAt w' q z nb C mh mb T :=
 ⟨f.cell h.c0 h1,f.cell h.c1 h1,f.cell h.c2 h1,f.cell h.c3 h1,h.px.frm f h2,h.zz,h.ok⟩
theorem FwAt.below {w w':World} {q z nb C:Nat} {mh mb:Value} {T:List Px} (h:FwAt w q z nb C mh mb T) (f:Below w.heap.size w w'):FwAt w' q z nb C mh mb T :=
 h.frm (Frm.of_below (S:=fun _=>False) f) (fun e=>e) (fun e=>e)
def PlainJ (z:Nat) (T:List Px) (x y n:Nat) (XG W:World) (pre:List (Pt x y n)):Prop:=Below XG.heap.size XG W/\∀ p ∈ pre,Pk.pixT z T p.1=Pk.pixT z T (x,y)
def PlainX (z:Nat) (T:List Px) (x y n K:Nat) (XG W:World) (c:Code) (pre:List (Pt x y n)):Prop:=c=.ret/\Frm (fun k=>k=K) XG W/\W.cell? ⟨K,0,none⟩=some (.bool false)/\∃ p ∈ pre,Pk.pixT z T p.1 ≠ Pk.pixT z T (x,y)
set_option maxRecDepth 100000 in
theorem pIsPlain (w:World) (q z nb C:Nat) (mh mb:Value) (T:List Px) (h:FwAt w q z nb C mh mb T) (x y n:Nat) (hx:x+n<=z) (hy:y+n<=z) (hn:0<n) :
  Calls Tryz.prog 78 #[.pointer (some ⟨q,0,none⟩),.agg #[.int .i64 x,.int .i64 y,.int .i64 n]] w fun e w'=>e=.returned (.bool (Pk.plainB z T x y n))/\Below w.heap.size w w':=by
 obtain ⟨Z,hZ⟩:∃ Z,Z=z*z:=⟨_,rfl⟩
 obtain ⟨hz16,hzz⟩:=h.z16
 obtain ⟨H,hH⟩:∃ H,H=w.heap.size:=⟨_,rfl⟩
 have hmx:Tryz.prog.follows .mixedOrders=true:=by kernel_rfl
 obtain ⟨W3,hW3⟩:∃ W3,W3=((w.alloc (.cells #[.pointer (some ⟨q,0,none⟩)] 87)).alloc (.cells #[.int .i64 x,.int .i64 y,.int .i64 n] 100)).alloc (.cells #[.bool false] 4):=⟨_,rfl⟩
 have hB3:Below w.heap.size w W3:=by rw [hW3];exact below3 w _ _ _
 have hs3:W3.heap.size=H+3:=by rw [hW3,hH];simp
 have hx0:W3.heap[H]?=some (.cells #[.pointer (some ⟨q,0,none⟩)] 87):=by
  rw [hW3,hH];exact (Below.heap_alloc _ _ _ (by simp only [World.size_alloc];omega)).trans ((Below.heap_alloc _ _ _ (by simp only [World.size_alloc];omega)).trans (heap_alloc_last w _))
 have hx1:W3.heap[H+1]?=some (.cells #[.int .i64 x,.int .i64 y,.int .i64 n] 100):=by
  have:=heap_alloc_last (w.alloc (.cells #[.pointer (some ⟨q,0,none⟩)] 87)) (.cells #[.int .i64 x,.int .i64 y,.int .i64 n] 100)
  rw [World.size_alloc] at this
  rw [hW3,hH];exact (Below.heap_alloc _ _ _ (by simp only [World.size_alloc];omega)).trans this
 have hx2:W3.heap[H+1+1]?=some (.cells #[.bool false] 4):=by
  have:=heap_alloc_last ((w.alloc (.cells #[.pointer (some ⟨q,0,none⟩)] 87)).alloc (.cells #[.int .i64 x,.int .i64 y,.int .i64 n] 100)) (.cells #[.bool false] 4)
  simp only [World.size_alloc] at this
  rw [hW3,hH];exact this
 obtain ⟨f0,f1,f2,hf⟩:∃ f0 f1 f2,T.getD (y*z+x) (0,0,0)=(f0,f1,f2):=⟨_,_,_,rfl⟩
 have hFw:=h.below hB3
 have HAT:Hid (∀ wx,Below W3.heap.size W3 wx->∀ X Y:Nat,X<z->Y<z->Calls Tryz.prog 113 #[.agg #[.int .i64 z,.slice (some ⟨nb,0,none⟩) Z C],.int .i64 X,.int .i64 Y] wx fun e w'=>e=.returned (.agg #[.int .u8 (T.getD (Y*z+X) (0,0,0)).1,.int .u8 (T.getD (Y*z+X) (0,0,0)).2.1,.int .u8 (T.getD (Y*z+X) (0,0,0)).2.2])/\Below wx.heap.size wx w'):=fun wx hb X Y hX hY=>by
  rw [hZ];exact pAt wx nb z T hzz (hFw.px.below hb) X Y hX hY
 have b00:=cell_of_row _ _ 0 _ _ _ hx0
 have b10:=cell_of_row _ _ 0 _ _ _ hx1
 have b11:=cell_of_row _ _ 1 _ _ _ hx1
 have d0:=hFw.c0
 have d1:=hFw.c1
 rw [<- hZ] at d1
 simp at b00 b10 b11
 have HW3:Hid (W3=((w.alloc (.cells #[.pointer (some ⟨q,0,none⟩)] 87)).alloc (.cells #[.int .i64 x,.int .i64 y,.int .i64 n] 100)).alloc (.cells #[.bool false] 4)):=hW3
 have HH:Hid (H=w.heap.size/\W3.heap.size=H+3/\Below w.heap.size w W3):=⟨hH,hs3,hB3⟩
 have HX:Hid (W3.heap[H]?=some (.cells #[.pointer (some ⟨q,0,none⟩)] 87)/\W3.heap[H+1]?=some (.cells #[.int .i64 x,.int .i64 y,.int .i64 n] 100)/\W3.heap[H+1+1]?=some (.cells #[.bool false] 4)):=⟨hx0,hx1,hx2⟩
 have HF:Hid (T.getD (y*z+x) (0,0,0)=(f0,f1,f2)):=hf
 have HFW:Hid (FwAt W3 q z nb C mh mb T):=hFw
 have HZ:Hid (Z=z*z):=hZ
 have hqH:q<H:=by rw [hH];exact h.up
 clear hW3 hx0 hx1 hx2 hB3 hf hZ hFw h hH hs3
 refine (callsIn_wide (n:=5)).1 ?_
 refine callsIn_of_wp_marks Tryz.func78 rfl trivial ?_ rfl
 simp only [Tryz.ntmps78,List.size_toArray,List.length_cons,List.length_nil,Nat.reduceAdd,Nat.reduceSub,Array.replicate_succ,Array.replicate_zero,List.push_toArray,List.append_toArray,List.nil_append,List.cons_append]
 refine wpIn_wide.2 ?_
 go_wp2_with fail
 rw [<- HW3.out,<- HH.out.1]
 refine region_calm (S:=fun w'=>w'.cell? ⟨H,0,none⟩=some (.pointer (some ⟨q,0,none⟩))/\w'.cell? ⟨q,0,none⟩=some (.int .i64 z)/\w'.cell? ⟨q,1,none⟩=some (.slice (some ⟨nb,0,none⟩) Z C)/\w'.cell? ⟨H+1,0,none⟩=some (.int .i64 x)/\w'.cell? ⟨H+1,1,none⟩=some (.int .i64 y)/\Below W3.heap.size W3 w') 11 #[false,false,false,false,false,false,false,false,false,false,false] rfl rfl hmx ?_
 have hS0:(W3.drew.cell? ⟨H,0,none⟩=some (.pointer (some ⟨q,0,none⟩))/\W3.drew.cell? ⟨q,0,none⟩=some (.int .i64 z)/\W3.drew.cell? ⟨q,1,none⟩=some (.slice (some ⟨nb,0,none⟩) Z C)/\W3.drew.cell? ⟨H+1,0,none⟩=some (.int .i64 x)/\W3.drew.cell? ⟨H+1,1,none⟩=some (.int .i64 y)/\Below W3.heap.size W3 W3.drew):=⟨b00,d0,d1,b10,b11,⟨rfl,rfl,rfl,Nat.le_refl _,fun _ _=>rfl⟩⟩
 refine tk_at 0 8 (.pointer (some ⟨q,0,none⟩)) #[true,false,false,false,false,false,false,false,false,false,false] rfl rfl rfl (by kernel_rfl) (by rfl) (by rintro w ⟨t0,t1,t2,t3,t4,t5⟩;go_simp) (by assumption) ?_
 simp only [sIb,sCs,sCz]
 refine tk_at 1 9 (.pointer (some ⟨q,0,none⟩)) #[true,true,false,false,false,false,false,false,false,false,false] rfl rfl rfl (by kernel_rfl) (by rfl) (by rintro w ⟨t0,t1,t2,t3,t4,t5⟩;go_simp) (by assumption) ?_
 simp only [sIb,sCs,sCz]
 refine tk_at 2 10 (.pointer (some ⟨q,0,none⟩)) #[true,true,true,false,false,false,false,false,false,false,false] rfl rfl rfl (by kernel_rfl) (by rfl) (by rintro w ⟨t0,t1,t2,t3,t4,t5⟩;go_simp) (by assumption) ?_
 simp only [sIb,sCs,sCz]
 refine tk_at 3 11 (.agg #[.int .i64 z,.slice (some ⟨nb,0,none⟩) Z C]) #[true,true,true,true,false,false,false,false,false,false,false] rfl rfl rfl (by kernel_rfl) (by rfl) (by rintro w ⟨t0,t1,t2,t3,t4,t5⟩;go_simp) (by assumption) ?_
 simp only [sIb,sCs,sCz]
 refine tk_at 4 12 (.pointer (some ⟨H+1,0,none⟩)) #[true,true,true,true,true,false,false,false,false,false,false] rfl rfl rfl (by kernel_rfl) (by rfl) (by rintro w ⟨t0,t1,t2,t3,t4,t5⟩;go_simp) (by assumption) ?_
 simp only [sIb,sCs,sCz]
 refine tk_at 5 13 (.int .i64 x) #[true,true,true,true,true,true,false,false,false,false,false] rfl rfl rfl (by kernel_rfl) (by rfl) (by rintro w ⟨t0,t1,t2,t3,t4,t5⟩;go_simp) (by assumption) ?_
 simp only [sIb,sCs,sCz]
 refine tk_at 6 14 (.pointer (some ⟨H+1,1,none⟩)) #[true,true,true,true,true,true,true,false,false,false,false] rfl rfl rfl (by kernel_rfl) (by rfl) (by rintro w ⟨t0,t1,t2,t3,t4,t5⟩;go_simp) (by assumption) ?_
 simp only [sIb,sCs,sCz]
 refine tk_at 7 15 (.int .i64 y) #[true,true,true,true,true,true,true,true,false,false,false] rfl rfl rfl (by kernel_rfl) (by rfl) (by rintro w ⟨t0,t1,t2,t3,t4,t5⟩;go_simp) (by assumption) ?_
 simp only [sIb,sCs,sCz]
 refine any_law (k:=2) (m:=1) (fun σ=>#[.pointer (some ⟨q,0,none⟩),.agg #[.int .i64 x,.int .i64 y,.int .i64 n],.pointer (some ⟨H,0,none⟩),.pointer (some ⟨H+1,0,none⟩),.pointer (some ⟨H+1+1,0,none⟩),σ 1,undef,undef,.pointer (some ⟨q,0,none⟩),.pointer (some ⟨q,0,none⟩),.pointer (some ⟨q,0,none⟩),.agg #[.int .i64 z,.slice (some ⟨nb,0,none⟩) Z C],.pointer (some ⟨H+1,0,none⟩),.int .i64 x,.pointer (some ⟨H+1,1,none⟩),.int .i64 y,σ 0,undef,undef,undef,undef,undef,undef,undef,undef,undef,undef,undef,undef,undef]) (fun δ=>#[true,true,true,true,true,true,true,true,δ 0,δ 1,false]) (fun i=>match i with|0=>8|_=>9) (fun i=>match i with|0=>16|_=>5)
  (fun i=>match i with|0=>.call 113 #[.agg #[.int .i64 z,.slice (some ⟨nb,0,none⟩) Z C],.int .i64 x,.int .i64 y] (.agg #[.int .u8 f0,.int .u8 f1,.int .u8 f2])|_=>.box (.cells #[.int .u8 0,.int .u8 0,.int .u8 0] 50)) (fun _=>true) (H+3) ?hop ?hT ?hF ?hr ?hc ?hS ?hH ?hend 2 (fun _=>false) (fun _=>undef) _ rfl rfl hS0 ⟨fun i _ e=>absurd e (by decide),fun i j _ _ _ e=>absurd e (by decide)⟩
 case hop =>
  intro i hi
  rcases (by omega:i=0 \/ i=1) with rfl|rfl
  ·exact ⟨_,rfl,rfl,fun _=>rfl,fun σ w=>by show _=_;go_simp⟩
  ·exact ⟨_,rfl,rfl,fun _=>rfl,fun σ w=>by show _=_;go_simp⟩
 case hT =>
  intro σ i v hi
  rcases (by omega:i=0 \/ i=1) with rfl|rfl <;> rfl
 case hF =>
  intro δ i hi
  rcases (by omega:i=0 \/ i=1) with rfl|rfl <;> rfl
 case hr =>
  intro δ _ hex
  cases h0:δ 0 <;> cases h1:δ 1
  ·exact ⟨[8,9],by kernel_rfl,by simp [rdy,h0,h1,List.range_succ]⟩
  ·exact ⟨[8],by kernel_rfl,by simp [rdy,h0,h1,List.range_succ]⟩
  ·exact ⟨[9],by kernel_rfl,by simp [rdy,h0,h1,List.range_succ]⟩
  ·obtain ⟨i,hi,e⟩:=hex
   rcases (by omega:i=0 \/ i=1) with rfl|rfl
   ·rw [h0] at e;cases e
   ·rw [h1] at e;cases e
 case hc =>
  intro i hi
  rcases (by omega:i=0 \/ i=1) with rfl|rfl
  ·intro wx hs
   have:=HAT.out wx hs.2.2.2.2.2 x y (by omega) (by omega)
   rw [HF.out] at this
   exact this
  ·exact trivial
 case hS =>
  rintro wx wy ⟨s0,s1,s2,s3,s4,s5⟩ hb
  have c:∀ (a:Addr) (v:Value),wx.cell? a=some v->wy.cell? a=some v:=fun a v e=>(hb.cell (World.block_lt_of_cell? wx _ e)).trans e
  exact ⟨c _ _ s0,c _ _ s1,c _ _ s2,c _ _ s3,c _ _ s4,s5.trans (hb.mono s5.size)⟩
 case hH =>
  rintro wx ⟨_,_,_,_,_,s5⟩
  have:=s5.size
  have:=HH.out.2.1
  omega
 case hend =>
  rintro δ σ wx hδ hs hu
  have h0:=hδ 0 (by decide)
  have h1:=hδ 1 (by decide)
  have e0:σ 0=.agg #[.int .u8 f0,.int .u8 f1,.int .u8 f2]:=hu.all 0 (by decide) h0
  obtain ⟨b5,e1,hb5,hH5⟩:∃ b5,σ 1=.pointer (some ⟨b5,0,none⟩)/\wx.heap[b5]?=some (.cells #[.int .u8 0,.int .u8 0,.int .u8 0] 50)/\H+3<=b5:=hu.all 1 (by decide) h1
  rw [h0,h1,e0,e1]
  have k0:=cell_of_row _ _ 0 _ _ _ hb5
  have k1:=cell_of_row _ _ 1 _ _ _ hb5
  have k2:=cell_of_row _ _ 2 _ _ _ hb5
  have z0:=frozen_of_row _ _ 0 _ _ hb5
  have z1:=frozen_of_row _ _ 1 _ _ hb5
  have z2:=frozen_of_row _ _ 2 _ _ hb5
  simp at k0 k1 k2
  obtain ⟨X,hX⟩:∃ X,X=((wx.setCell ⟨b5,0,none⟩ (.int .u8 f0)).setCell ⟨b5,1,none⟩ (.int .u8 f1)).setCell ⟨b5,2,none⟩ (.int .u8 f2):=⟨_,rfl⟩
  obtain ⟨g0,g1,g2,fX⟩:=three_set wx b5 (.int .u8 f0) (.int .u8 f1) (.int .u8 f2) k0 k1 k2 X hX
  obtain ⟨s0,s1,s2,s3,s4,s5⟩:=hs
  have c:∀ (a:Addr) (v:Value),a.block<H+3->wx.cell? a=some v->X.cell? a=some v:=fun a v hl e=>fX.cell e (by omega)
  have hbX:Below W3.heap.size W3 X:=s5.trans (fX.below (by have:=s5.size;omega) (fun k e=>by rw [e,HH.out.2.1];exact hH5))
  have hS1:(X.cell? ⟨H,0,none⟩=some (.pointer (some ⟨q,0,none⟩))/\X.cell? ⟨q,0,none⟩=some (.int .i64 z)/\X.cell? ⟨q,1,none⟩=some (.slice (some ⟨nb,0,none⟩) Z C)/\X.cell? ⟨H+1,0,none⟩=some (.int .i64 x)/\X.cell? ⟨H+1,1,none⟩=some (.int .i64 y)/\Below W3.heap.size W3 X):=⟨c _ _ (by show H<H+3;omega) s0,c _ _ (by show q<H+3;omega) s1,c _ _ (by show q<H+3;omega) s2,c _ _ (by show H+1<H+3;omega) s3,c _ _ (by show H+1<H+3;omega) s4,hbX⟩
  refine store_at (i:=10) (w':=X) #[true,true,true,true,true,true,true,true,true,true,true] (by kernel_rfl) rfl rfl rfl (by rfl) ?y10 hS1 ?r10
  case y10 =>
   rw [hX]
   clear hX
   go_simp
  case r10 =>
  refine wpAnyH_done (by kernel_rfl) ?_ _
  dsimp only [calmPost]
  have a00:=cell_of_row _ _ 0 _ _ _ HX.out.2.1
  have a01:=cell_of_row _ _ 1 _ _ _ HX.out.2.1
  have a02:=cell_of_row _ _ 2 _ _ _ HX.out.2.1
  have r0:=(hbX.cell (p:=⟨H+1,0,none⟩) (by rw [HH.out.2.1];show H+1<H+3;omega)).trans a00
  have r1:=(hbX.cell (p:=⟨H+1,1,none⟩) (by rw [HH.out.2.1];show H+1<H+3;omega)).trans a01
  have r2:=(hbX.cell (p:=⟨H+1,2,none⟩) (by rw [HH.out.2.1];show H+1<H+3;omega)).trans a02
  simp at r0 r1 r2
  have HBX:Hid (Below W3.heap.size W3 X):=hbX
  have HG3:Hid (X.cell? ⟨b5,0,none⟩=some (.int .u8 f0)/\X.cell? ⟨b5,1,none⟩=some (.int .u8 f1)/\X.cell? ⟨b5,2,none⟩=some (.int .u8 f2)):=⟨g0,g1,g2⟩
  clear k0 k1 k2 z0 z1 z2 hX g0 g1 g2 fX s0 s1 s2 s3 s4 s5 hbX hS1 a00 a01 a02 hb5 hu hδ h0 h1 e0 e1 c b00 b10 b11 d0 d1 hS0
  go_wp2_with (go_at_call 105;refine (pPoints _ _ _ _).mono ?_;rintro e wq ⟨rfl,rfl⟩)
  clear r0 r1 r2
  obtain ⟨G,hG⟩:∃ G,G=X.heap.size:=⟨_,rfl⟩
  obtain ⟨XG,hXG⟩:∃ XG,XG=X.alloc (.cells #[.int .i64 x,.int .i64 y,.int .i64 n] 100):=⟨_,rfl⟩
  have hit:XG.heap[G]?=some (.cells #[.int .i64 x,.int .i64 y,.int .i64 n] 100 (0,0)):=by rw [hXG,hG];exact heap_alloc_last X _
  have hBG:Below X.heap.size X XG:=by rw [hXG];exact (Below.refl _ X).alloc (Nat.le_refl _) _
  have hsG:XG.heap.size=G+1:=by rw [hXG,hG];simp
  have hbG:b5<G:=by rw [hG];exact World.block_lt_of_cell? X _ HG3.out.1
  have HB3:Hid (Below W3.heap.size W3 XG):=HBX.out.trans (hBG.mono HBX.out.size)
  have hHG:H+3<=G:=by rw [hG];have:=HBX.out.size;have:=HH.out.2.1;omega
  have HG4:Hid (XG.cell? ⟨b5,0,none⟩=some (.int .u8 f0)/\XG.cell? ⟨b5,1,none⟩=some (.int .u8 f1)/\XG.cell? ⟨b5,2,none⟩=some (.int .u8 f2)):=⟨(hBG.cell (p:=⟨b5,0,none⟩) (by rw [<- hG];exact hbG)).trans HG3.out.1,(hBG.cell (p:=⟨b5,1,none⟩) (by rw [<- hG];exact hbG)).trans HG3.out.2.1,(hBG.cell (p:=⟨b5,2,none⟩) (by rw [<- hG];exact hbG)).trans HG3.out.2.2⟩
  rw [<- hG,<- hXG]
  have HGG:Hid (G=X.heap.size/\XG.heap.size=G+1):=⟨hG,hsG⟩
  clear hG hXG hBG
  refine (wpIn_wide (n:=5)).1 ?_
  refine wpIn_rangeFunc_ownF rfl (by decide) (gf:=131) (lb:=#[.pointer (some ⟨G,0,none⟩)]) rfl trivial (enters_of Tryz.func131 (by kernel_rfl) rfl)
   (points_stops Fence.wide (5-1) trivial rfl (by decide) G x y n (by omega) (by omega) XG hit)
   (fun h1 h2=>h2.trans h1) (fun W l o o' hl _ _ _=>World.putObj_heap_other (by omega)) (Below.refl _ _) (fun _=>rfl)
   (fun pre W=>PlainJ z T x y n XG W pre)
   (fun c pre W=>PlainX z T x y n (H+1+1) XG W c pre)
   ?own ?ownx ⟨Below.refl _ _,fun p hp=>by cases hp⟩
   (fun pt=>{ tmps:=#[.pointer (some ⟨q,0,none⟩),.agg #[.int .i64 x,.int .i64 y,.int .i64 n],.pointer (some ⟨H,0,none⟩),.pointer (some ⟨H+1,0,none⟩),.pointer (some ⟨H+1+1,0,none⟩),.pointer (some ⟨b5,0,none⟩),.int .i64 pt.1.1,.int .i64 pt.1.2,.pointer (some ⟨q,0,none⟩),.pointer (some ⟨q,0,none⟩),.pointer (some ⟨q,0,none⟩),.agg #[.int .i64 z,.slice (some ⟨nb,0,none⟩) Z C],.pointer (some ⟨H+1,0,none⟩),.int .i64 x,.pointer (some ⟨H+1,1,none⟩),.int .i64 y,.agg #[.int .u8 f0,.int .u8 f1,.int .u8 f2],.agg #[.int .i64 x,.int .i64 y,.int .i64 n],.func (.func 131) #[] #[.pointer (some ⟨G,0,none⟩)],.int .i64 pt.1.1,.int .i64 pt.1.2,undef,undef,undef,undef,undef,undef,undef,undef,undef],defers:=[] }) ?assign ?body ?done ?stop
  case own =>
   rintro pre W W' row ⟨i1,i2⟩ hg hr
   exact ⟨i1.grown hg i1.size (fun j e=>by have:=(hr j e).1;omega),i2⟩
  case ownx =>
   rintro c pre W W' row ⟨i1,i2,i3,i4⟩ hg hr
   have hr':∀ r,row=some r->G+1<=r:=fun r e=>by have:=(hr r e).1;omega
   have fg:Frm (fun k=>row=some k) W W':=(Frm.refl _ W).grown hg (fun k e=>.inl e)
   exact ⟨i1,i2.grown hg (fun k e=>.inr (by have:=hr' k e;omega)),fg.cell i3 (fun e=>by have h9:G+1<=H+1+1:=hr' _ e;omega),i4⟩
  case assign =>
   intro l pt W K hK
   dsimp only [encPt]
   gi_wp2
   exact hK
  case body =>
   rintro l pre ⟨⟨PX,PY⟩,⟨hpx1,hpx2⟩,hpy1,hpy2⟩ W ⟨i1,i2⟩ hlen
   dsimp only at hpx1 hpx2 hpy1 hpy2 ⊢
   have hB:Below W3.heap.size W3 W:=HB3.out.trans (i1.mono HB3.out.size)
   obtain ⟨g0,g1,g2,hg⟩:∃ g0 g1 g2,T.getD (PY*z+PX) (0,0,0)=(g0,g1,g2):=⟨_,_,_,rfl⟩
   have HA:Hid (∀ wx,Below W.heap.size W wx->Calls Tryz.prog 113 #[.agg #[.int .i64 z,.slice (some ⟨nb,0,none⟩) Z C],.int .i64 PX,.int .i64 PY] wx fun e w'=>e=.returned (.agg #[.int .u8 g0,.int .u8 g1,.int .u8 g2])/\Below wx.heap.size wx w'):=fun wx hb=>by
    have:=HAT.out wx (hB.trans (hb.mono hB.size)) PX PY (by omega) (by omega)
    rw [hg] at this
    exact this
   obtain ⟨E,hE⟩:∃ E,E=(g0 == f0 && (g1 == f1 && g2 == f2)):=⟨_,rfl⟩
   have heq:=fun w=>eqPix w g0 g1 g2 f0 f1 f2
   rw [<- hE] at heq
   have HE:Hid (E=true ↔ Pk.pixT z T (PX,PY)=Pk.pixT z T (x,y)):=by
    unfold Hid Pk.pixT
    rw [hE,hg,HF.out]
    simp
   have HI:Hid (PlainJ z T x y n XG W pre):=⟨i1,i2⟩
   have c0:=(i1.cell (p:=⟨b5,0,none⟩) (by rw [HGG.out.2];show b5<G+1;omega)).trans HG4.out.1
   have c1:=(i1.cell (p:=⟨b5,1,none⟩) (by rw [HGG.out.2];show b5<G+1;omega)).trans HG4.out.2.1
   have c2:=(i1.cell (p:=⟨b5,2,none⟩) (by rw [HGG.out.2];show b5<G+1;omega)).trans HG4.out.2.2
   have d0:=(hB.cell (p:=⟨q,0,none⟩) (by rw [HH.out.2.1];show q<H+3;omega)).trans HFW.out.c0
   have d1:=(hB.cell (p:=⟨q,1,none⟩) (by rw [HH.out.2.1];show q<H+3;omega)).trans HFW.out.c1
   rw [<- HZ.out] at d1
   have k00:=(hB.cell (p:=⟨H,0,none⟩) (by rw [HH.out.2.1];show H<H+3;omega)).trans (cell_of_row _ _ 0 _ _ _ HX.out.1)
   have kf:=(hB.cell (p:=⟨H+1+1,0,none⟩) (by rw [HH.out.2.1];show H+1+1<H+3;omega)).trans (cell_of_row _ _ 0 _ _ _ HX.out.2.2)
   have zf:=(hB.frozen (p:=⟨H+1+1,0,none⟩) (by rw [HH.out.2.1];show H+1+1<H+3;omega)).trans (frozen_of_row _ _ 0 _ _ HX.out.2.2)
   simp at k00 kf
   clear i1 i2 hB hg hE
   gi_wp2
   refine region_round_at (S:=fun w'=>w'.cell? ⟨H,0,none⟩=some (.pointer (some ⟨q,0,none⟩))/\w'.cell? ⟨q,0,none⟩=some (.int .i64 z)/\w'.cell? ⟨q,1,none⟩=some (.slice (some ⟨nb,0,none⟩) Z C)/\w'.cell? ⟨b5,0,none⟩=some (.int .u8 f0)/\w'.cell? ⟨b5,1,none⟩=some (.int .u8 f1)/\w'.cell? ⟨b5,2,none⟩=some (.int .u8 f2)/\w'.cell? ⟨H+1+1,0,none⟩=some (.bool false)/\w'.frozen? ⟨H+1+1,0,none⟩=false/\Below W.heap.size W w') 9 #[false,false,false,false,false,false,false,false,false] rfl rfl hmx (by kernel_rfl) (fun ⟨_,_,h⟩=>h) ?_
   have hS0:(W.drew.cell? ⟨H,0,none⟩=some (.pointer (some ⟨q,0,none⟩))/\W.drew.cell? ⟨q,0,none⟩=some (.int .i64 z)/\W.drew.cell? ⟨q,1,none⟩=some (.slice (some ⟨nb,0,none⟩) Z C)/\W.drew.cell? ⟨b5,0,none⟩=some (.int .u8 f0)/\W.drew.cell? ⟨b5,1,none⟩=some (.int .u8 f1)/\W.drew.cell? ⟨b5,2,none⟩=some (.int .u8 f2)/\W.drew.cell? ⟨H+1+1,0,none⟩=some (.bool false)/\W.drew.frozen? ⟨H+1+1,0,none⟩=false/\Below W.heap.size W W.drew):=⟨k00,d0,d1,c0,c1,c2,kf,zf,⟨rfl,rfl,rfl,Nat.le_refl _,fun _ _=>rfl⟩⟩
   refine tk_at 0 21 (.pointer (some ⟨q,0,none⟩)) #[true,false,false,false,false,false,false,false,false] rfl rfl rfl (by kernel_rfl) (by rfl) (by rintro w ⟨t0,t1,t2,t3,t4,t5,t6,t7,t8⟩;go_simp) (by assumption) ?_
   simp only [sIb,sCs,sCz]
   refine tk_at 1 22 (.pointer (some ⟨q,0,none⟩)) #[true,true,false,false,false,false,false,false,false] rfl rfl rfl (by kernel_rfl) (by rfl) (by rintro w ⟨t0,t1,t2,t3,t4,t5,t6,t7,t8⟩;go_simp) (by assumption) ?_
   simp only [sIb,sCs,sCz]
   refine tk_at 2 23 (.pointer (some ⟨q,0,none⟩)) #[true,true,true,false,false,false,false,false,false] rfl rfl rfl (by kernel_rfl) (by rfl) (by rintro w ⟨t0,t1,t2,t3,t4,t5,t6,t7,t8⟩;go_simp) (by assumption) ?_
   simp only [sIb,sCs,sCz]
   refine tk_at 3 24 (.agg #[.int .i64 z,.slice (some ⟨nb,0,none⟩) Z C]) #[true,true,true,true,false,false,false,false,false] rfl rfl rfl (by kernel_rfl) (by rfl) (by rintro w ⟨t0,t1,t2,t3,t4,t5,t6,t7,t8⟩;go_simp) (by assumption) ?_
   simp only [sIb,sCs,sCz]
   refine tk_at 4 25 (.int .i64 PX) #[true,true,true,true,true,false,false,false,false] rfl rfl rfl (by kernel_rfl) (by rfl) (by rintro w ⟨t0,t1,t2,t3,t4,t5,t6,t7,t8⟩;go_simp) (by assumption) ?_
   simp only [sIb,sCs,sCz]
   refine tk_at 5 26 (.int .i64 PY) #[true,true,true,true,true,true,false,false,false] rfl rfl rfl (by kernel_rfl) (by rfl) (by rintro w ⟨t0,t1,t2,t3,t4,t5,t6,t7,t8⟩;go_simp) (by assumption) ?_
   simp only [sIb,sCs,sCz]
   refine tk_at 7 28 (.agg #[.int .u8 f0,.int .u8 f1,.int .u8 f2]) #[true,true,true,true,true,true,false,true,false] rfl rfl rfl (by kernel_rfl) (by rfl) (by rintro w ⟨t0,t1,t2,t3,t4,t5,t6,t7,t8⟩;go_simp) (by assumption) ?_
   simp only [sIb,sCs,sCz]
   refine enter_at (i:=6) (d:=27) (f:=113) (args:=#[.agg #[.int .i64 z,.slice (some ⟨nb,0,none⟩) Z C],.int .i64 PX,.int .i64 PY]) #[true,true,true,true,true,true,true,true,false] (by kernel_rfl) rfl rfl rfl (by rfl) (by go_simp) (fun v' w'=>v'=.agg #[.int .u8 g0,.int .u8 g1,.int .u8 g2]/\Below W.heap.size W w') ((HA.out W.drew hS0.2.2.2.2.2.2.2.2).mono (fun e w' he=>⟨_,he.1,rfl,hS0.2.2.2.2.2.2.2.2.trans he.2⟩)) ?_
   rintro va wa ⟨rfl,ba⟩
   have cc:∀ (a:Addr) (v:Value),W.cell? a=some v->wa.cell? a=some v:=fun a v e=>(ba.cell (World.block_lt_of_cell? W _ e)).trans e
   have hSA:(wa.cell? ⟨H,0,none⟩=some (.pointer (some ⟨q,0,none⟩))/\wa.cell? ⟨q,0,none⟩=some (.int .i64 z)/\wa.cell? ⟨q,1,none⟩=some (.slice (some ⟨nb,0,none⟩) Z C)/\wa.cell? ⟨b5,0,none⟩=some (.int .u8 f0)/\wa.cell? ⟨b5,1,none⟩=some (.int .u8 f1)/\wa.cell? ⟨b5,2,none⟩=some (.int .u8 f2)/\wa.cell? ⟨H+1+1,0,none⟩=some (.bool false)/\wa.frozen? ⟨H+1+1,0,none⟩=false/\Below W.heap.size W wa):=⟨cc _ _ k00,cc _ _ d0,cc _ _ d1,cc _ _ c0,cc _ _ c1,cc _ _ c2,cc _ _ kf,(ba.frozen (World.block_lt_of_cell? W _ kf)).trans zf,ba⟩
   refine ⟨hSA,?_⟩
   simp only [sIb,sCs,sCz]
   refine tk_at 8 29 (.bool (!E)) #[true,true,true,true,true,true,true,true,true] rfl rfl rfl (by kernel_rfl) (by rfl) (by rintro w ⟨t0,t1,t2,t3,t4,t5,t6,t7,t8⟩;go_simp) (by assumption) ?_
   simp only [sIb,sCs,sCz]
   refine wpAnyH_done (by kernel_rfl) ?_ _
   have ka:=hSA.2.2.2.2.2.2.1
   have za:=hSA.2.2.2.2.2.2.2.1
   have HBA:Hid (Below W.heap.size W wa):=ba
   clear hSA hS0 k00 d0 d1 c0 c1 c2 kf zf cc ba
   cases E
   ·gi_wp2
    obtain ⟨i1,i2⟩:=HI.out
    have fa:Frm (fun k=>k=H+1+1) W wa:=Frm.of_below HBA.out
    have fX:Frm (fun k=>k=H+1+1) W (wa.setCell ⟨H+1+1,0,none⟩ (.bool false)):=fa.setCell (.inl rfl) _
    have hk0:∃ v,W.cell? ⟨H+1+1,0,none⟩=some v:=⟨_,(HB3.out.trans (i1.mono HB3.out.size)).cell (p:=⟨H+1+1,0,none⟩) (by rw [HH.out.2.1];show H+1+1<H+3;omega) |>.trans (cell_of_row _ _ 0 _ _ _ HX.out.2.2)⟩
    refine ⟨keeps_frm fX (fun k e=>by rw [e];exact hk0),rfl,?_,World.cell?_setCell_same _ _ _ ka,⟨⟨(PX,PY),⟨hpx1,hpx2⟩,hpy1,hpy2⟩,by simp,fun e=>by have:=HE.out.2 e;cases this⟩⟩
    exact (Frm.of_below i1).trans fX
   ·gi_wp2
    obtain ⟨i1,i2⟩:=HI.out
    refine ⟨keeps_frm (Frm.of_below (S:=fun _=>False) HBA.out) (fun k e=>e.elim),HBA.out.block G (by have:=i1.size;have:=HGG.out.2;omega),i1.trans (HBA.out.mono i1.size),fun p hp=>?_⟩
    rcases List.mem_append.1 hp with hp|hp
    ·exact i2 p hp
    ·obtain rfl:=List.mem_singleton.1 hp
     exact HE.out.1 (by trivial)
  case done =>
   rintro D xs W hD hxs ⟨i1,i2⟩ hK
   have HP:Hid (Pk.plainB z T x y n=true):=by
    unfold Hid Pk.plainB
    rw [List.all_eq_true]
    intro p hp
    rw [<- hxs] at hp
    obtain ⟨p',hp',rfl⟩:=List.mem_map.1 hp
    exact decide_eq_true (i2 p' hp')
   have hB:Below W3.heap.size W3 W:=HB3.out.trans (i1.mono HB3.out.size)
   have kf:=(hB.cell (p:=⟨H+1+1,0,none⟩) (by rw [HH.out.2.1];show H+1+1<H+3;omega)).trans (cell_of_row _ _ 0 _ _ _ HX.out.2.2)
   have zf:=(hB.frozen (p:=⟨H+1+1,0,none⟩) (by rw [HH.out.2.1];show H+1+1<H+3;omega)).trans (frozen_of_row _ _ 0 _ _ HX.out.2.2)
   simp at kf
   have HK:Hid (W.heap[D]?=some (.deferred (some []))/\Below W3.heap.size W3 W):=⟨hK,hB⟩
   clear i1 i2 hB hK hxs
   go_wp2_with fail
   obtain ⟨X2,hX2⟩:∃ X2,X2=W.setCell ⟨H+1+1,0,none⟩ (.bool true):=⟨_,rfl⟩
   rw [<- hX2]
   have q0:X2.cell? ⟨H+1+1,0,none⟩=some (.bool true):=by rw [hX2];exact World.cell?_setCell_same _ _ _ kf
   have fX:Frm (fun k=>k=H+1+1) W X2:=by rw [hX2];exact Frm.setCell (p:=⟨H+1+1,0,none⟩) (Frm.refl (fun k=>k=H+1+1) W) (.inl rfl) _
   have hKX:X2.heap[D]?=some (.deferred (some [])):=(fX.block _ (heap_lt0 HK.out.1) (by omega)).trans HK.out.1
   have hg:=grownBy_putObj' X2 D (.deferred none)
   have fg:Frm (fun k=>k=D) X2 (X2.putObj D (.deferred none)):=(Frm.refl _ X2).grown hg (fun k e=>by cases e;exact .inl rfl)
   have q1:(X2.putObj D (.deferred none)).cell? ⟨H+1+1,0,none⟩=some (.bool true):=fg.cell q0 (by show ¬ H+1+1=D;omega)
   refine retM_mark (v:=.bool true) rfl hKX (by simp [results,Tryz.results78,go_sem,q1]) ⟨by rw [HP.out],?_⟩
   have hw:=HH.out.1
   have hb0:Below w.heap.size w W:=HH.out.2.2.trans (HK.out.2.mono HH.out.2.2.size)
   have hb1:Below w.heap.size w X2:=hb0.trans (fX.below (by have:=hb0.size;omega) (fun k e=>by omega))
   exact hb1.trans (fg.below (by have:=hb1.size;omega) (fun k e=>by omega))
  case stop =>
   rintro D c pre W hD hpre ⟨rfl,i2,i3,p,hp,hne⟩ hK
   have hps:p.1 ∈ Flm.spots x y n:=hpre.subset (List.mem_map.2 ⟨p,hp,rfl⟩)
   have HP:Hid (Pk.plainB z T x y n=false):=by
    unfold Hid Pk.plainB
    rw [List.all_eq_false]
    exact ⟨p.1,hps,by simpa using hne⟩
   have HR:Hid (Frm (fun k=>k=H+1+1) XG W/\W.cell? ⟨H+1+1,0,none⟩=some (.bool false)/\W.heap[D]?=some (.deferred (some []))):=⟨i2,i3,hK⟩
   clear i2 i3 hp hne hK hps hpre
   refine wpIn_wide.2 ?_
   go_wp2_with fail
   obtain ⟨r1,r2,r3⟩:=HR.out
   have hg:=grownBy_putObj' W D (.deferred none)
   have fg:Frm (fun k=>k=D) W (W.putObj D (.deferred none)):=(Frm.refl _ W).grown hg (fun k e=>by cases e;exact .inl rfl)
   have q1:(W.putObj D (.deferred none)).cell? ⟨H+1+1,0,none⟩=some (.bool false):=fg.cell r2 (by show ¬ H+1+1=D;omega)
   refine retM_mark (v:=.bool false) rfl r3 (by simp [results,Tryz.results78,go_sem,q1]) ⟨by rw [HP.out],?_⟩
   have hw:=HH.out.1
   have hb0:Below w.heap.size w XG:=HH.out.2.2.trans (HB3.out.mono HH.out.2.2.size)
   have hb1:Below w.heap.size w W:=hb0.trans (r1.below (by have:=hb0.size;omega) (fun k e=>by omega))
   exact hb1.trans (fg.below (by have:=hb1.size;omega) (fun k e=>by omega))
end
end Go.Proofs.YtekfbphnoibnjaaGreatDoor
