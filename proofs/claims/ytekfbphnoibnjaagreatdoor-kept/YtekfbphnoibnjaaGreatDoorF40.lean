/-
  Laid0 Laid3 SoftLaid
-/
import Derived.Test.YtekfbphnoibnjaaGreatDoorF38
import Derived.Test.YtekfbphnoibnjaaGreatDoorTie
import Derived.Lay
import Derived.Lib.SmallJoins
import Derived.Stop.LaidTwo
set_option maxHeartbeats 4000000
namespace Go.Proofs.YtekfbphnoibnjaaGreatDoor
section
open Go
def lineLaid : List (String × DataW Unit) := [("errors.errorType", Rows.laid_errors_errorType), ("flipbook/line.ErrShort", Rows.laid_flipbook_line_ErrShort), ("flipbook/line.ErrCode", Rows.laid_flipbook_line_ErrCode), ("flipbook/line.ErrTrail", Rows.laid_flipbook_line_ErrTrail), ("flipbook/line.ErrNumber", Rows.laid_flipbook_line_ErrNumber), ("flipbook/film.ErrHead", Rows.laid_flipbook_film_ErrHead), ("flipbook/film.ErrColour", Rows.laid_flipbook_film_ErrColour), ("flipbook/film.ErrVector", Rows.laid_flipbook_film_ErrVector), ("flipbook/film.ErrFirst", Rows.laid_flipbook_film_ErrFirst), ("flipbook/film.softContexts", Rows.laid_flipbook_film_softContexts)]
noncomputable def holdH (os:Os):World :=
 let w0:=World.holding Tryz.prog os ⟨#[],#[],[]⟩
 { w0 with heap:=w0.heap.modify 8 fun
   | .cells _ t frozen=>.cells #[.iface 220 (.agg #[.pointer (some ⟨10,62,none⟩)])] t frozen
   | o=>o }
def laid8:List (String × DataW Unit):=lineLaid.filter fun x=>x.2.handleName?.isNone
noncomputable def startW (os:Os):World:=(holdH os).layVars Tryz.prog laid8
theorem startW_os (os:Os):(startW os).os=os:=(World.layVars_os _ _ _).trans rfl
theorem startW_met (os:Os):laidMet Tryz.prog laid8 (startW os) :=
 laidMet_layVars (w0:=holdH os) (laid8.map (·.1)) [] (by kernel_rfl) (by kernel_rfl) (by kernel_rfl) (by exact LaidIn.none)
theorem startW_laid (os:Os) (args:Array Value):laidMetH Tryz.prog lineLaid ((startW os).forCall (fun _ _=>0) ⟨#[],args,[]⟩).memory :=
 laidMetH_of_parts ((startW_met os).of_heap (by simp [World.memory,World.forCall,Input.heap])) (by kernel_rfl)
end
section
open Go.ChangeShapes Go.WideShapes Go.ChangeAt Go.RowKit Go.Joins
def sntD (nm:String) (l:List (String × List UInt8)):List (String × DataW Unit):=l.map fun x=>(x.1,DataW.iface nm (.ptr (.agg [.lit (.string x.2)])))
theorem laid_snts {P:Program} {nm:String} {W:World} {ti tp te ts:TypeId} {ms:Array (String × TypeId)} {f:Field}
  (hi:P.underlying ti=some (.interface ms)) (hrow:∀ u,P.typeName? 3 u=some nm->u=tp)
  (hp:P.underlying tp=some (.pointer te)) (he:P.underlying te=some (.struct #[f])) (hft:f.type=ts) (hfo:f.offset=0) (hs:P.underlying ts=some .string) (hc:P.cellsOf te=1) (hcs:P.cellsOf ts=1) :
  ∀ (l:List (String × List UInt8)) (ps:List MemPlace),DataW.LaidVars P W (sntD nm l) ps->ps.Nodup ->
   (∀ b off,MemPlace.cell b off ∈ ps->(∃ c t,W.heap[b]?=some (.cells c t (0,0)))/\∀ u v,W.cell? ⟨b,off,none⟩=some (.iface u v)->Value.okWide P W .any 0 u v) ->
   (∀ x ∈ l,∃ g,P.globalNamed x.1=some g/\(P.globals[g]?).map (·.type)=some ti) ->
   ∃ adrs:List Addr,adrs.length=l.length/\adrs.Nodup/\(∀ a ∈ adrs,MemPlace.cell a.block a.off ∈ ps/\∃ c t,W.heap[a.block]?=some (.cells c t (0,0)))/\∀ (i:Nat) x,l[i]?=some x->∃ a,adrs[i]?=some a/\W.var? P x.1=some #[.iface tp (.pointer (some a))]
 | [],ps,_,_,_,_=>⟨[],rfl,by simp,by simp,by simp⟩
 | (n0,x0) :: l,ps,h,hnd,hrows,hg=>by
  obtain ⟨g0',t0',cs0,f0,p0,q0,hg0',ht0',hv0,hd0,hrest,e0⟩:=h
  obtain ⟨g0,hg0,ht0⟩:=hg (n0,x0) (by simp)
  obtain rfl:=Option.some.inj (hg0.symm.trans hg0')
  obtain rfl:=Option.some.inj (ht0.symm.trans ht0')
  subst e0
  obtain ⟨l0⟩:=cs0
  rw [List.nodup_append] at hnd
  obtain ⟨hnd1,hnd2,hdis⟩:=hnd
  obtain ⟨adrs,hal,hand,hap,hav⟩:=laid_snts hi hrow hp he hft hfo hs hc hcs l q0 hrest hnd2 (fun b off hb=>hrows b off (List.mem_append_right _ hb)) (fun x hx=>hg x (by simp [hx]))
  have ok0:∀ u v,l0=[.iface u v]->Value.okWide P W .any 0 u v:=fun u v e=>by
   subst e
   exact (hrows g0 0 (by simp [MemPlace.row])).2 u v (by simpa using World.var?_cell hg0' hv0 0)
  obtain ⟨a0,s0,rfl,hc0,hs0,hz0,rfl⟩:=errorString_of_trod hi hrow hp he hft hfo hs hc hcs hd0 ok0
  have hm0:MemPlace.cell a0.block a0.off ∈ MemPlace.row ⟨g0,0,none⟩ [Value.iface tp (.pointer (some a0))].toArray.size++MemPlace.row a0 1:=by simp [MemPlace.row]
  refine ⟨a0 :: adrs,by simp [hal],?_,?_,?_⟩
  ·rw [List.nodup_cons]
   exact ⟨fun hm=>hdis _ hm0 _ (hap a0 hm).1 rfl,hand⟩
  ·intro a ha
   rw [List.mem_cons] at ha
   rcases ha with rfl|ha
   ·exact ⟨List.mem_append_left _ hm0,(hrows _ _ (List.mem_append_left _ hm0)).1⟩
   ·exact ⟨List.mem_append_right _ (hap a ha).1,(hap a ha).2⟩
  ·intro i x hx
   cases i with
   | zero=>simp at hx;subst hx;exact ⟨a0,rfl,hv0⟩
   | succ i=>exact hav i x (by simpa using hx)
theorem cellsErr:Tryz.prog.cellsOf 297=1:=by kernel_rfl
theorem cellsStr1:Tryz.prog.cellsOf 9=1:=by kernel_rfl
theorem starErr : "*" ++ "errors.errorString" = "*errors.errorString" := by decide
theorem rowErr (u : TypeId) (h : Tryz.prog.typeName? 3 u = some "*errors.errorString") : u = 278 :=
 typeName_ptr_named (nm := "errors.errorString") (by rw [starErr]; kernel_rfl) (by kernel_rfl) (by decide) u (by rw [starErr]; exact h)
def txt:DataW Unit->List UInt8
 | .iface _ (.ptr (.agg [.lit (.string s)]))=>s
 | _=>[]
def sntN : List (String × List UInt8) := [("flipbook/line.ErrShort", txt Rows.laid_flipbook_line_ErrShort), ("flipbook/line.ErrCode", txt Rows.laid_flipbook_line_ErrCode), ("flipbook/line.ErrTrail", txt Rows.laid_flipbook_line_ErrTrail), ("flipbook/line.ErrNumber", txt Rows.laid_flipbook_line_ErrNumber), ("flipbook/film.ErrHead", txt Rows.laid_flipbook_film_ErrHead), ("flipbook/film.ErrColour", txt Rows.laid_flipbook_film_ErrColour), ("flipbook/film.ErrVector", txt Rows.laid_flipbook_film_ErrVector), ("flipbook/film.ErrFirst", txt Rows.laid_flipbook_film_ErrFirst)]
def sntIdx : List (String × Nat) := [("flipbook/line.ErrShort", 1), ("flipbook/line.ErrCode", 7), ("flipbook/line.ErrTrail", 6), ("flipbook/line.ErrNumber", 3), ("flipbook/film.ErrHead", 0), ("flipbook/film.ErrColour", 5), ("flipbook/film.ErrVector", 4), ("flipbook/film.ErrFirst", 2)]
theorem snt_named:∀ x ∈ sntIdx,Tryz.prog.globalNamed x.1=some x.2/\(Tryz.prog.globals[x.2]?).map (·.type)=some 62:=by
 intro x hx
 simp only [sntIdx,List.mem_cons,List.not_mem_nil,or_false] at hx
 rcases hx with rfl|rfl|rfl|rfl|rfl|rfl|rfl|rfl <;> exact ⟨by kernel_rfl,by kernel_rfl⟩
theorem laid_front {P:Program} {W:World}:∀ (l m:List (String × DataW Unit)) (ps:List MemPlace),DataW.LaidVars P W (l++m) ps->∃ p q,ps=p++q/\DataW.LaidVars P W l p/\DataW.LaidVars P W m q
 | [],m,ps,h=>⟨[],ps,rfl,rfl,h⟩
 | (n,d) :: l,m,ps,h=>by
  obtain ⟨g,t,cs,f,p,q,h1,h2,h3,h4,h5,rfl⟩:=h
  obtain ⟨p',q',rfl,h6,h7⟩:=laid_front l m q h5
  exact ⟨MemPlace.row ⟨g,0,none⟩ cs.size++p++p',q',by simp,⟨g,t,cs,f,p,p',h1,h2,h3,h4,h6,rfl⟩,h7⟩
theorem met_front {P:Program} {W:World} {l m:List (String × DataW Unit)} (h:laidMet P (l++m) W):laidMet P l W:=by
 obtain ⟨ps,h1,h2,h3⟩:=h
 obtain ⟨p,q,rfl,h4,h5⟩:=laid_front l m ps h1
 exact ⟨p,h4,(List.nodup_append.1 h2).1,fun b off hb=>h3 b off (List.mem_append_left _ hb)⟩
theorem met8 {W : World} (h : laidMetH Tryz.prog lineLaid W) : laidMet Tryz.prog (sntD "*errors.errorString" sntN) W := by
 exact met_front (m := [("flipbook/film.softContexts", Rows.laid_flipbook_film_softContexts)]) h.1
def atOf (adrs:List Addr) (e:Nat):Addr:=adrs.getD (if e=5 then 0 else if e=7 then 1 else if e=6 then 2 else if e=8 then 3 else if e=4 then 4 else if e=2 then 5 else if e=9 then 6 else 7) ⟨0,0,none⟩
theorem errsA_of_laid {W:World} (h:laidMetH Tryz.prog lineLaid W):∃ A,ErrsA W A:=by
 obtain ⟨ps,hl,hnd,hrows⟩:=met8 h
 obtain ⟨adrs,hal,hand,hap,hav⟩:=laid_snts Tryz.underlying62 rowErr Tryz.underlying278 Tryz.underlying297 rfl rfl Tryz.underlying9 cellsErr cellsStr1 sntN ps hl hnd hrows (fun x hx=>by
  obtain ⟨y,hy,e⟩:∃ y ∈ sntIdx,y.1=x.1:=by
   simp only [sntN,List.mem_cons,List.not_mem_nil,or_false] at hx
   rcases hx with rfl|rfl|rfl|rfl|rfl|rfl|rfl|rfl <;> simp [sntIdx]
  exact ⟨y.2,by rw [<- e];exact (snt_named y hy).1,(snt_named y hy).2⟩)
 match adrs,hal with
 | [b0,b1,b2,b3,b4,b5,b6,b7],_ =>
  have V:∀ (i:Nat) (n:String) (tx:List UInt8) (g:Nat) (a:Addr),sntN[i]?=some (n,tx)->(n,g) ∈ sntIdx->[b0,b1,b2,b3,b4,b5,b6,b7][i]?=some a->W.cell? ⟨g,0,none⟩=some (.iface 278 (.pointer (some a))):=fun i n tx g a hi hg ha=>by
   obtain ⟨a',ha',hv⟩:=hav i (n,tx) hi
   obtain rfl:a'=a:=Option.some.inj (ha'.symm.trans ha)
   simpa using World.var?_cell (snt_named (n,g) hg).1 hv 0
  refine ⟨atOf [b0,b1,b2,b3,b4,b5,b6,b7],?_,?_,?_⟩
  ·intro x hx
   simp only [sntG,List.mem_cons,List.not_mem_nil,or_false] at hx
   rcases hx with rfl|rfl|rfl|rfl|rfl|rfl|rfl|rfl
   ·exact V 0 _ _ _ b0 rfl (by simp [sntIdx]) rfl
   ·exact V 1 _ _ _ b1 rfl (by simp [sntIdx]) rfl
   ·exact V 2 _ _ _ b2 rfl (by simp [sntIdx]) rfl
   ·exact V 3 _ _ _ b3 rfl (by simp [sntIdx]) rfl
   ·exact V 4 _ _ _ b4 rfl (by simp [sntIdx]) rfl
   ·exact V 5 _ _ _ b5 rfl (by simp [sntIdx]) rfl
   ·exact V 6 _ _ _ b6 rfl (by simp [sntIdx]) rfl
   ·exact V 7 _ _ _ b7 rfl (by simp [sntIdx]) rfl
  ·intro x hx
   simp only [sntG,List.mem_cons,List.not_mem_nil,or_false] at hx
   rcases hx with rfl|rfl|rfl|rfl|rfl|rfl|rfl|rfl
   ·exact (hap b0 (by simp)).2
   ·exact (hap b1 (by simp)).2
   ·exact (hap b2 (by simp)).2
   ·exact (hap b3 (by simp)).2
   ·exact (hap b4 (by simp)).2
   ·exact (hap b5 (by simp)).2
   ·exact (hap b6 (by simp)).2
   ·exact (hap b7 (by simp)).2
  ·have inj:∀ (i j:Nat) (hi:i<8) (hj:j<8),i ≠ j->[b0,b1,b2,b3,b4,b5,b6,b7][i] ≠ [b0,b1,b2,b3,b4,b5,b6,b7][j]:=fun i j hi hj hne e=>by
    have hpw:=List.pairwise_iff_getElem.1 hand
    rcases Nat.lt_trichotomy i j with h'|h'|h'
    ·exact hpw i j (by simpa using hi) (by simpa using hj) h' e
    ·exact hne h'
    ·exact hpw j i (by simpa using hj) (by simpa using hi) h' e.symm
   have key:∀ x ∈ sntG,∃ i,∃ hi:i<8,atOf [b0,b1,b2,b3,b4,b5,b6,b7] x.1=[b0,b1,b2,b3,b4,b5,b6,b7][i]/\[5,7,6,8,4,2,9,10][i]?=some x.1:=by
    intro x hx
    simp only [sntG,List.mem_cons,List.not_mem_nil,or_false] at hx
    rcases hx with rfl|rfl|rfl|rfl|rfl|rfl|rfl|rfl
    ·exact ⟨0,by decide,rfl,rfl⟩
    ·exact ⟨1,by decide,rfl,rfl⟩
    ·exact ⟨2,by decide,rfl,rfl⟩
    ·exact ⟨3,by decide,rfl,rfl⟩
    ·exact ⟨4,by decide,rfl,rfl⟩
    ·exact ⟨5,by decide,rfl,rfl⟩
    ·exact ⟨6,by decide,rfl,rfl⟩
    ·exact ⟨7,by decide,rfl,rfl⟩
   intro x hx y hy hne e
   obtain ⟨i,hi,hi1,hi2⟩:=key x hx
   obtain ⟨j,hj,hj1,hj2⟩:=key y hy
   rw [hi1,hj1] at e
   by_cases hij:i=j
   ·subst hij
    exact hne (Option.some.inj (hi2.symm.trans hj2))
   ·exact inj i j hi hj hij e
end
section
open Go.ChangeShapes Go.WideShapes Go.ChangeAt Go.RowKit Go.Joins Go.Deep
theorem cellsI:Tryz.prog.cellsOf 3=1:=by kernel_rfl
theorem soft_named : Tryz.prog.globalNamed "flipbook/film.softContexts" = some 9 /\ (Tryz.prog.globals[9]?).map (·.type) = some 48 := ⟨by kernel_rfl, by kernel_rfl⟩
theorem soft_of_laid {W:World} (h:laidMetH Tryz.prog lineLaid W):SoftG W W.heap.size:=by
 obtain ⟨ps, hl, _, _⟩ : laidMet Tryz.prog (sntD "*errors.errorString" sntN ++ [("flipbook/film.softContexts", Rows.laid_flipbook_film_softContexts)]) W := h.1
 obtain ⟨p,q,_,_,g,t,cs,fuel,p',q',hg,ht,hv,hd,_,_⟩:=laid_front _ _ ps hl
 obtain rfl:=Option.some.inj (soft_named.1.symm.trans hg)
 obtain rfl:=Option.some.inj (soft_named.2.symm.trans ht)
 obtain ⟨xs,m,_,ex,_,hxl,hel⟩:=DataW.trod_array Tryz.underlying48 hd
 have e3:xs.map (·.1)=[.lit (.int .i64 100),.lit (.int .i64 124),.lit (.int .i64 148)]:=(DataW.agg.inj (Prod.mk.inj ex).1).symm
 have hx3:xs.length=3:=by have:=congrArg List.length e3;simpa using this
 have key:∀ (r:Nat) (z:Int),r<3->[DataW.lit (.int .i64 100),DataW.lit (.int .i64 124),(DataW.lit (.int .i64 148):DataW Unit)][r]?=some (.lit (.int .i64 z))->W.cell? ⟨9,r,none⟩=some (.int .i64 z):=fun r z hr hz=>by
  have hE:=hel r (by omega)
  rw [cellsI,Nat.mul_one,List.getElem?_eq_getElem (by omega)] at hE
  obtain ⟨y,e1,e2,_⟩:=DataW.trod_int Tryz.underlying3 hE
  have e4:(xs.map (·.1))[r]?=some (.lit (.int .i64 z)):=by rw [e3];exact hz
  rw [List.getElem?_map,List.getElem?_eq_getElem (by omega:r<xs.length),e2] at e4
  simp only [Option.map_some,Option.some.injEq,DataW.lit.injEq,Lit.int.injEq,true_and] at e4
  rw [World.var?_cell hg hv r]
  have:cs.toList[r]?=some (.int .i64 z):=by
   have h0:((cs.toList.drop r).take 1)[0]?=some (.int .i64 y):=by rw [e1];rfl
   rw [<- e4]
   simpa using h0
  simpa using this
 have k0:=key 0 100 (by decide) rfl
 exact ⟨⟨k0,key 1 124 (by decide) rfl,key 2 148 (by decide) rfl⟩,World.block_lt_of_cell? _ _ k0⟩
end
end Go.Proofs.YtekfbphnoibnjaaGreatDoor
