/-
  Laid0 LRd Laid3 SoftLaid
-/
import Derived.Test.YtekfbphnoibnjaaGreatDoorG35
import Derived.Test.YtekfbphnoibnjaaGreatDoorTie
import Derived.Lay
import Derived.Stop.LaidTwo
set_option maxHeartbeats 4000000
namespace Go.Proofs.YtekfbphnoibnjaaGreatDoor
section
open Go
def lineLaid : List (String × DataW Unit) := [("errors.errorType", Rows.laid_errors_errorType), ("flipbook/line.ErrShort", Rows.laid_flipbook_line_ErrShort), ("flipbook/line.ErrCode", Rows.laid_flipbook_line_ErrCode), ("flipbook/line.ErrTrail", Rows.laid_flipbook_line_ErrTrail), ("flipbook/line.ErrNumber", Rows.laid_flipbook_line_ErrNumber), ("flipbook/film.ErrHead", Rows.laid_flipbook_film_ErrHead), ("flipbook/film.ErrColour", Rows.laid_flipbook_film_ErrColour), ("flipbook/film.ErrVector", Rows.laid_flipbook_film_ErrVector), ("flipbook/film.ErrFirst", Rows.laid_flipbook_film_ErrFirst), ("flipbook/film.softContexts", Rows.laid_flipbook_film_softContexts)]
noncomputable def holdH (os:Os):World :=
 let w0:=World.holding Tryz.prog os ⟨#[],#[],[]⟩
 { w0 with heap:=w0.heap.modify 8 fun
   | .cells _ t frozen=>.cells #[.iface 220 (.agg #[.pointer (some ⟨10,62,none⟩)])] t frozen
   | o=>o }
def laid8:List (String × DataW Unit):=lineLaid.filter fun x=>x.2.handleName?.isNone
noncomputable def startW (os:Os):World:=(holdH os).layVars Tryz.prog laid8
theorem startW_os (os:Os):(startW os).os=os:=(World.layVars_os _ _ _).trans rfl
theorem startW_met (os:Os):laidMet Tryz.prog laid8 (startW os) :=
 laidMet_layVars (w0:=holdH os) (laid8.map (·.1)) [] (by kernel_rfl) (by kernel_rfl) (by kernel_rfl) (by exact LaidIn.none)
theorem startW_laid (os:Os) (args:Array Value):laidMetH Tryz.prog lineLaid ((startW os).forCall (fun _ _=>0) ⟨#[],args,[]⟩).memory :=
 laidMetH_of_parts ((startW_met os).of_heap (by simp [World.memory,World.forCall,Input.heap])) (by kernel_rfl)
end
section
open Go.RowKit
structure PR (w:World) (b:Nat) (s:ByteArray) (r:RS):Prop where
 c0:w.cell? ⟨b,0,none⟩=some (.string (s.extract r.pos s.size))
 c1:w.cell? ⟨b,1,none⟩=some (.int .u32 r.rng)
 c2:w.cell? ⟨b,2,none⟩=some (.int .u32 r.code)
 fz:∀ o,o<3->w.frozen? ⟨b,o,none⟩=false
 ch:ChAt w b 3 r.ch
theorem PR.put0 {w:World} {b:Nat} {s:ByteArray} {r:RS} (h:PR w b s r) (n:Nat):PR (w.setCell ⟨b,0,none⟩ (.string (s.extract n s.size))) b s { r with pos:=n } :=
 ⟨World.cell?_setCell_same _ _ _ h.c0,cell_off h.c1 (.inr (by decide)),cell_off h.c2 (.inr (by decide)),fun o ho=>by rw [World.frozen?_setCell];exact h.fz o ho,h.ch.off (.inr (.inl (by decide)))⟩
theorem PR.put1 {w:World} {b:Nat} {s:ByteArray} {r:RS} (h:PR w b s r) (n:Int):PR (w.setCell ⟨b,1,none⟩ (.int .u32 n)) b s { r with rng:=n } :=
 ⟨cell_off h.c0 (.inr (by decide)),World.cell?_setCell_same _ _ _ h.c1,cell_off h.c2 (.inr (by decide)),fun o ho=>by rw [World.frozen?_setCell];exact h.fz o ho,h.ch.off (.inr (.inl (by decide)))⟩
theorem PR.put2 {w:World} {b:Nat} {s:ByteArray} {r:RS} (h:PR w b s r) (n:Int):PR (w.setCell ⟨b,2,none⟩ (.int .u32 n)) b s { r with code:=n } :=
 ⟨cell_off h.c0 (.inr (by decide)),cell_off h.c1 (.inr (by decide)),World.cell?_setCell_same _ _ _ h.c2,fun o ho=>by rw [World.frozen?_setCell];exact h.fz o ho,h.ch.off (.inr (.inl (by decide)))⟩
theorem PR.putC {w:World} {b:Nat} {s:ByteArray} {r:RS} (h:PR w b s r) (k:Nat) (v:Int):PR (w.setCell ⟨b,3+k,none⟩ (.int .u32 v)) b s { r with ch:=r.ch.set k v } :=
 ⟨cell_off h.c0 (.inr (by omega)),cell_off h.c1 (.inr (by omega)),cell_off h.c2 (.inr (by omega)),fun o ho=>by rw [World.frozen?_setCell];exact h.fz o ho,h.ch.set k v⟩
theorem PR.on {w w':World} {b:Nat} {s:ByteArray} {r:RS} (h:PR w b s r) (hb:w'.heap[b]?=w.heap[b]?):PR w' b s r:=by
 have hc:∀ o,w'.cell? ⟨b,o,none⟩=w.cell? ⟨b,o,none⟩:=fun o=>World.cell?_of_block (a:=⟨b,o,none⟩) hb
 exact ⟨(hc 0).trans h.c0,(hc 1).trans h.c1,(hc 2).trans h.c2,fun o ho=>(World.frozen?_of_block (a:=⟨b,o,none⟩) hb).trans (h.fz o ho),h.ch.on hb⟩
theorem PR.drewN {w:World} {b:Nat} {s:ByteArray} {r:RS} (h:PR w b s r) (n:Nat):PR (w.drewN n) b s r:=h.on rfl
theorem PR.drew {w:World} {b:Nat} {s:ByteArray} {r:RS} (h:PR w b s r):PR w.drew b s r:=h.on rfl
end
section
open Go.ChangeShapes Go.WideShapes Go.ChangeAt Go.RowKit Go.Joins
def sntD (nm:String) (l:List (String × List UInt8)):List (String × DataW Unit):=l.map fun x=>(x.1,DataW.iface nm (.ptr (.agg [.lit (.string x.2)])))
def txt:DataW Unit->List UInt8
 | .iface _ (.ptr (.agg [.lit (.string s)]))=>s
 | _=>[]
def sntN : List (String × List UInt8) := [("flipbook/line.ErrShort", txt Rows.laid_flipbook_line_ErrShort), ("flipbook/line.ErrCode", txt Rows.laid_flipbook_line_ErrCode), ("flipbook/line.ErrTrail", txt Rows.laid_flipbook_line_ErrTrail), ("flipbook/line.ErrNumber", txt Rows.laid_flipbook_line_ErrNumber), ("flipbook/film.ErrHead", txt Rows.laid_flipbook_film_ErrHead), ("flipbook/film.ErrColour", txt Rows.laid_flipbook_film_ErrColour), ("flipbook/film.ErrVector", txt Rows.laid_flipbook_film_ErrVector), ("flipbook/film.ErrFirst", txt Rows.laid_flipbook_film_ErrFirst)]
theorem laid_front {P:Program} {W:World}:∀ (l m:List (String × DataW Unit)) (ps:List MemPlace),DataW.LaidVars P W (l++m) ps->∃ p q,ps=p++q/\DataW.LaidVars P W l p/\DataW.LaidVars P W m q
 | [],m,ps,h=>⟨[],ps,rfl,rfl,h⟩
 | (n,d) :: l,m,ps,h=>by
  obtain ⟨g,t,cs,f,p,q,h1,h2,h3,h4,h5,rfl⟩:=h
  obtain ⟨p',q',rfl,h6,h7⟩:=laid_front l m q h5
  exact ⟨MemPlace.row ⟨g,0,none⟩ cs.size++p++p',q',by simp,⟨g,t,cs,f,p,p',h1,h2,h3,h4,h6,rfl⟩,h7⟩
end
section
open Go.ChangeShapes Go.WideShapes Go.ChangeAt Go.RowKit Go.Joins Go.Deep
theorem cellsI:Tryz.prog.cellsOf 3=1:=by kernel_rfl
theorem soft_named : Tryz.prog.globalNamed "flipbook/film.softContexts" = some 9 /\ (Tryz.prog.globals[9]?).map (·.type) = some 48 := ⟨by kernel_rfl, by kernel_rfl⟩
theorem soft_of_laid {W:World} (h:laidMetH Tryz.prog lineLaid W):SoftG W W.heap.size:=by
 obtain ⟨ps, hl, _, _⟩ : laidMet Tryz.prog (sntD "*errors.errorString" sntN ++ [("flipbook/film.softContexts", Rows.laid_flipbook_film_softContexts)]) W := h.1
 obtain ⟨p,q,_,_,g,t,cs,fuel,p',q',hg,ht,hv,hd,_,_⟩:=laid_front _ _ ps hl
 obtain rfl:=Option.some.inj (soft_named.1.symm.trans hg)
 obtain rfl:=Option.some.inj (soft_named.2.symm.trans ht)
 obtain ⟨xs,m,_,ex,_,hxl,hel⟩:=DataW.trod_array Tryz.underlying48 hd
 have e3:xs.map (·.1)=[.lit (.int .i64 100),.lit (.int .i64 124),.lit (.int .i64 148)]:=(DataW.agg.inj (Prod.mk.inj ex).1).symm
 have hx3:xs.length=3:=by have:=congrArg List.length e3;simpa using this
 have key:∀ (r:Nat) (z:Int),r<3->[DataW.lit (.int .i64 100),DataW.lit (.int .i64 124),(DataW.lit (.int .i64 148):DataW Unit)][r]?=some (.lit (.int .i64 z))->W.cell? ⟨9,r,none⟩=some (.int .i64 z):=fun r z hr hz=>by
  have hE:=hel r (by omega)
  rw [cellsI,Nat.mul_one,List.getElem?_eq_getElem (by omega)] at hE
  obtain ⟨y,e1,e2,_⟩:=DataW.trod_int Tryz.underlying3 hE
  have e4:(xs.map (·.1))[r]?=some (.lit (.int .i64 z)):=by rw [e3];exact hz
  rw [List.getElem?_map,List.getElem?_eq_getElem (by omega:r<xs.length),e2] at e4
  simp only [Option.map_some,Option.some.injEq,DataW.lit.injEq,Lit.int.injEq,true_and] at e4
  rw [World.var?_cell hg hv r]
  have:cs.toList[r]?=some (.int .i64 z):=by
   have h0:((cs.toList.drop r).take 1)[0]?=some (.int .i64 y):=by rw [e1];rfl
   rw [<- e4]
   simpa using h0
  simpa using this
 have k0:=key 0 100 (by decide) rfl
 exact ⟨⟨k0,key 1 124 (by decide) rfl,key 2 148 (by decide) rfl⟩,World.block_lt_of_cell? _ _ k0⟩
end
end Go.Proofs.YtekfbphnoibnjaaGreatDoor
