/-
  PAs PPix PMath
-/
import Derived.Test.YtekfbphnoibnjaaGreatDoorF26
set_option maxHeartbeats 4000000
namespace Go.Proofs.YtekfbphnoibnjaaGreatDoor
section
open Go.RowKit Go.Extern.Stop Go.Stop Go.Extern
theorem frm_setRow (w:World) (g:Nat) (cs:Array Value):Frm (fun k=>k=g) w (w.setRow g cs):=⟨rfl,rfl,rfl,by simp [World.setRow],fun k _ hn=>setRow_other w g k cs hn⟩
theorem asValueOf (t:Addr) (w:World):(ReflectliteValue.unpack (.iface 115 (.pointer (some t)))).run Tryz.prog w=.ok (.agg #[.pointer (some ⟨10,115,none⟩),.pointer (some ⟨w.heap.size,0,none⟩),.int .u64 150]) (w.alloc (.cells #[.pointer (some t)] 115)):=by kernel_rfl
theorem asType (a : Addr) (w : World) : (ReflectliteValue.methodAny (ReflectliteValue.valueError "reflectlite.Value.Type" 0) (fun t _ _ _ => ReflectliteType.toType t) #[.agg #[.pointer (some ⟨10, 115, none⟩), .pointer (some a), .int .u64 150]]).run Tryz.prog w = .ok (.iface 220 (.agg #[.pointer (some ⟨10, 115, none⟩)])) w := by kernel_rfl
theorem asMethodKind (h : Value) (w : World) : (Go.method 408 220 (.agg #[h]) "Kind").run Tryz.prog w = .ok (204, h) w := by kernel_rfl
theorem asKindP (w:World):((ReflectliteType.abiMethod fun t=>(fun a:Nat=>Value.int IntKind.u8 (a:Int)) <$> Rtype.kind t) #[.pointer (some ⟨10,115,none⟩)]).run Tryz.prog w=.ok (.int .u8 22) w:=by kernel_rfl
theorem asKindF (w:World):((ReflectliteType.abiMethod fun t=>(fun a:Nat=>Value.int IntKind.u8 (a:Int)) <$> Rtype.kind t) #[.pointer (some ⟨10,113,none⟩)]).run Tryz.prog w=.ok (.int .u8 25) w:=by kernel_rfl
theorem asMethod1 (z:Sem Value) (f:TypeId->Addr->Nat->Nat->Sem Value) (v:Value):ReflectliteValue.method z f #[v]=(ReflectliteValue.parts v >>= fun r=>r.elim z (fun q=>f q.1 q.2.1 q.2.2 (q.2.2 % 32))):=by
 show (ReflectliteValue.parts v >>= _)=_
 congr 1
 funext r
 cases r <;> rfl
theorem asPartsP (a:Addr) (w:World):(ReflectliteValue.parts (.agg #[.pointer (some ⟨10,115,none⟩),.pointer (some a),.int .u64 150])).run Tryz.prog w=.ok (some (115,a,150)) w:=by kernel_rfl
theorem asIsNil (a p : Addr) (W : World) (ha : W.cell? a = some (.pointer (some p))) : (ReflectliteValue.method (ReflectliteValue.valueError "reflectlite.Value.IsNil" 0) ReflectliteValue.isNil #[.agg #[.pointer (some ⟨10, 115, none⟩), .pointer (some a), .int .u64 150]]).run Tryz.prog W = .ok (.bool false) W := by
 rw [asMethod1]
 simp only [Sem.run_bind,asPartsP,Result.andThen,Option.elim]
 simp [ReflectliteValue.isNil,loadVar,isAgg,underlying,Tryz.underlying115,ha,Result.andThen]
theorem asMethodElem (h : Value) (w : World) : (Go.method 408 220 (.agg #[h]) "Elem").run Tryz.prog w = .ok (215, .agg #[h]) w := by kernel_rfl
theorem asMethodImplements (h : Value) (w : World) : (Go.method 408 220 (.agg #[h]) "Implements").run Tryz.prog w = .ok (216, .agg #[h]) w := by kernel_rfl
theorem asMethodAssignableTo (h : Value) (w : World) : (Go.method 408 220 (.agg #[h]) "AssignableTo").run Tryz.prog w = .ok (213, .agg #[h]) w := by kernel_rfl
theorem asElem (w:World):(ReflectliteType.method ReflectliteType.elem #[.agg #[.pointer (some ⟨10,115,none⟩)]]).run Tryz.prog w=.ok (.iface 220 (.agg #[.pointer (some ⟨10,113,none⟩)])) w:=by kernel_rfl
theorem asImplements (w : World) : (ReflectliteType.relation "Implements" ReflectliteType.implements_ #[.agg #[.pointer (some ⟨10, 113, none⟩)], .iface 220 (.agg #[.pointer (some ⟨10, 62, none⟩)])]).run Tryz.prog w = .ok (.bool true) w := by kernel_rfl
theorem asTypeOfF (v:Value) (w:World):(ReflectliteType.typeOf #[.iface 113 v]).run Tryz.prog w=.ok (.iface 220 (.agg #[.pointer (some ⟨10,113,none⟩)])) w:=by kernel_rfl
theorem asAssignF (w : World) : (ReflectliteType.relation "AssignableTo" ReflectliteType.assignableTo #[.agg #[.pointer (some ⟨10, 113, none⟩)], .iface 220 (.agg #[.pointer (some ⟨10, 113, none⟩)])]).run Tryz.prog w = .ok (.bool true) w := by kernel_rfl
theorem asAssignE (w : World) : (ReflectliteType.relation "AssignableTo" ReflectliteType.assignableTo #[.agg #[.pointer (some ⟨10, 278, none⟩)], .iface 220 (.agg #[.pointer (some ⟨10, 113, none⟩)])]).run Tryz.prog w = .ok (.bool false) w := by kernel_rfl
theorem noAsE (v:Value) (xT:TypeId) (w:World):(Instr.typeAssert (.iface 278 v) xT 224 true).run Tryz.prog w=.ok (.tuple #[.nilIface,.bool false]) w:=run_typeAssert_lacksB Tryz.underlying224 (by kernel_rfl) (by kernel_rfl) v xT w
theorem asValueOfF (f x y:Int) (a:Addr) (w:World):(ReflectliteValue.unpack (.iface 113 (.agg #[.int .i64 f,.int .i64 x,.int .i64 y,.iface 278 (.pointer (some a))]))).run Tryz.prog w=.ok (.agg #[.pointer (some ⟨10,113,none⟩),.pointer (some ⟨w.heap.size,0,none⟩),.int .u64 153]) (w.alloc (.cells #[.int .i64 f,.int .i64 x,.int .i64 y,.iface 278 (.pointer (some a))] 113)):=by kernel_rfl
theorem asElemOf (w:World):(Rtype.elem? 115).run Tryz.prog w=.ok (some 113) w:=by kernel_rfl
theorem asMk (p:Addr) (w:World):(ReflectliteValue.mk 113 p ReflectliteValue.flagAddr).run Tryz.prog w=.ok (.agg #[.pointer (some ⟨10,113,none⟩),.pointer (some p),.int .u64 409]) w:=by kernel_rfl
theorem asElemV (a p : Addr) (W : World) (ha : W.cell? a = some (.pointer (some p))) : (ReflectliteValue.method (ReflectliteValue.valueError "reflectlite.Value.Elem" 0) ReflectliteValue.elem #[.agg #[.pointer (some ⟨10, 115, none⟩), .pointer (some a), .int .u64 150]]).run Tryz.prog W = .ok (.agg #[.pointer (some ⟨10, 113, none⟩), .pointer (some p), .int .u64 409]) W := by
 rw [asMethod1]
 simp only [Sem.run_bind,asPartsP,Result.andThen,Option.elim]
 simp [ReflectliteValue.elem,loadVar,isAgg,underlying,Tryz.underlying115,ha,Result.andThen,asElemOf,asMk]
set_option maxRecDepth 100000 in
theorem as_miss (a:Addr) (t:Nat) (w:World) (hg:w.cell? ⟨8,0,none⟩=some (.iface 220 (.agg #[.pointer (some ⟨10,62,none⟩)]))) :
  Calls Tryz.prog 48 #[.iface 278 (.pointer (some a)),.iface 115 (.pointer (some ⟨t,0,none⟩))] w fun ev w'=>ev=.returned (.bool false)/\Below w.heap.size w w':=by
 have h6:=@run_callFunc_extern Tryz.prog 88 _ (fun args=>ReflectliteValue.unpack (args.getD 0 (.tuple #[]))) Tryz.func88 (by kernel_rfl) (by kernel_rfl) (by kernel_rfl) (by kernel_rfl)
 have h7 := @run_callFunc_extern Tryz.prog 89 _ (ReflectliteValue.methodAny (ReflectliteValue.valueError "reflectlite.Value.Type" 0) (fun t _ _ _ => ReflectliteType.toType t)) Tryz.func89 (by kernel_rfl) (by kernel_rfl) (by kernel_rfl) (by kernel_rfl)
 have h8 := @run_callFunc_extern Tryz.prog 90 _ (ReflectliteValue.method (ReflectliteValue.valueError "reflectlite.Value.IsNil" 0) ReflectliteValue.isNil) Tryz.func90 (by kernel_rfl) (by kernel_rfl) (by kernel_rfl) (by kernel_rfl)
 have h27:=@run_callFunc_extern Tryz.prog 204 _ (ReflectliteType.abiMethod fun t=>do pure (.int .u8 (<- Rtype.kind t))) Tryz.func204 (by kernel_rfl) (by kernel_rfl) (by kernel_rfl) (by kernel_rfl)
 have h37:=@run_callFunc_extern Tryz.prog 215 _ (ReflectliteType.method ReflectliteType.elem) Tryz.func215 (by kernel_rfl) (by kernel_rfl) (by kernel_rfl) (by kernel_rfl)
 have h38 := @run_callFunc_extern Tryz.prog 216 _ (ReflectliteType.relation "Implements" ReflectliteType.implements_) Tryz.func216 (by kernel_rfl) (by kernel_rfl) (by kernel_rfl) (by kernel_rfl)
 have h10:=@run_callFunc_extern Tryz.prog 92 _ ReflectliteType.typeOf Tryz.func92 (by kernel_rfl) (by kernel_rfl) (by kernel_rfl) (by kernel_rfl)
 have h35 := @run_callFunc_extern Tryz.prog 213 _ (ReflectliteType.relation "AssignableTo" ReflectliteType.assignableTo) Tryz.func213 (by kernel_rfl) (by kernel_rfl) (by kernel_rfl) (by kernel_rfl)
 have f6:=asValueOf
 have f7:=asType
 have mK:=asMethodKind
 have mE:=asMethodElem
 have mI:=asMethodImplements
 have mA:=asMethodAssignableTo
 have kP:=asKindP
 have kF:=asKindF
 have eP:=asElem
 have iF:=asImplements
 have tE:=isTypeOf
 have aE:=asAssignE
 have nE:=noAsE
 have uE:=noUnwrapE
 have vE:=noUnwrapsE
 have n8:=asIsNil ⟨w.heap.size,0,none⟩ ⟨t,0,none⟩ ((w.alloc (.cells #[.pointer (some ⟨t,0,none⟩)] 115)).alloc (.cells #[.pointer (some ⟨10,115,none⟩),.pointer (some ⟨w.heap.size,0,none⟩),.int .u64 150] 168)) (by simp)
 have hlt:8<w.heap.size:=World.block_lt_of_cell? w _ hg
 have hg2:((w.alloc (.cells #[.pointer (some ⟨t,0,none⟩)] 115)).alloc (.cells #[.pointer (some ⟨10,115,none⟩),.pointer (some ⟨w.heap.size,0,none⟩),.int .u64 150] 168)).cell? ⟨8,0,none⟩=some (.iface 220 (.agg #[.pointer (some ⟨10,62,none⟩)])):=by
  rw [World.cell?_alloc_lt _ _ ⟨8,0,none⟩ (by simp;omega),World.cell?_alloc_lt _ _ ⟨8,0,none⟩ hlt];exact hg
 go_enter Tryz.func48,Tryz.ntmps48
 go_wp2
 refine wp_loop_rounds 1 ?_
 rw [rounds_succ]
 go_wp2
 go_ret
 exact ⟨rfl,(((Below.refl _ w).alloc (Nat.le_refl _) _).alloc (by simp) _).alloc (by simp;omega) _⟩
theorem asPartsF (a:Addr) (w:World):(ReflectliteValue.parts (.agg #[.pointer (some ⟨10,113,none⟩),.pointer (some a),.int .u64 409])).run Tryz.prog w=.ok (some (113,a,409)) w:=by kernel_rfl
theorem asPartsV (a:Addr) (w:World):(ReflectliteValue.parts (.agg #[.pointer (some ⟨10,113,none⟩),.pointer (some a),.int .u64 153])).run Tryz.prog w=.ok (some (113,a,153)) w:=by kernel_rfl
theorem asDirect (w:World):(Rtype.directlyAssignable 113 113).run Tryz.prog w=.ok true w:=by kernel_rfl
theorem asSetRun {P:Program} {w w':World} {v x val:Value} {d s:TypeId} {a b:Addr} {fl g:Nat} (hv:(ReflectliteValue.parts v).run P w=.ok (some (d,a,fl)) w) (hx:(ReflectliteValue.parts x).run P w=.ok (some (s,b,g)) w) (hf:(fl / ReflectliteValue.flagAddr % 2 == 0)=false) (hl:(loadVar s b).run P w=.ok val w) (hd:(Rtype.directlyAssignable d s).run P w=.ok true w) (hs:(storeVar d a val).run P w=.ok () w'):(ReflectliteValue.set #[v,x]).run P w=.ok (.tuple #[]) w':=by
 show ((ReflectliteValue.parts v >>= _):Sem Value).run P w=_
 rw [Sem.run_bind,hv,Result.andThen_ok]
 show ((ReflectliteValue.parts x >>= _):Sem Value).run P w=_
 rw [Sem.run_bind,hx,Result.andThen_ok]
 dsimp only
 rw [hf]
 simp [hl,hd,hs]
theorem asSet (t b:Nat) (f x y:Int) (a:Addr) (old:Array Value) (W:World) (hb:W.heap[b]?=some (.cells #[.int .i64 f,.int .i64 x,.int .i64 y,.iface 278 (.pointer (some a))] 113 (0,0))) (ht:W.heap[t]?=some (.cells old 113 (0,0))) (ho:old.size=4) :
  (ReflectliteValue.set #[.agg #[.pointer (some ⟨10,113,none⟩),.pointer (some ⟨t,0,none⟩),.int .u64 409],.agg #[.pointer (some ⟨10,113,none⟩),.pointer (some ⟨b,0,none⟩),.int .u64 153]]).run Tryz.prog W=.ok (.tuple #[]) (W.setRow t #[.int .i64 f,.int .i64 x,.int .i64 y,.iface 278 (.pointer (some a))]):=by
 have hl:=run_loadVar_row (P:=Tryz.prog) W b 113 113 #[.int .i64 f,.int .i64 x,.int .i64 y,.iface 278 (.pointer (some a))] (0,0) _ hb Tryz.underlying113 (by rfl) (by kernel_rfl)
 have hst:=run_storeVar_row (P:=Tryz.prog) W t 113 113 old #[.int .i64 f,.int .i64 x,.int .i64 y,.iface 278 (.pointer (some a))] ht (by kernel_rfl) (by rw [ho];rfl) (by simp [Value.oneCell'])
 exact asSetRun (asPartsF _ W) (asPartsV _ W) rfl hl (asDirect W) hst
set_option maxRecDepth 100000 in
theorem as_hit (a:Addr) (f x y:Int) (t:Nat) (old:Array Value) (w:World) (hg:w.cell? ⟨8,0,none⟩=some (.iface 220 (.agg #[.pointer (some ⟨10,62,none⟩)]))) (ht:w.heap[t]?=some (.cells old 113 (0,0))) (ho:old.size=4) :
  Calls Tryz.prog 48 #[.iface 113 (.agg #[.int .i64 f,.int .i64 x,.int .i64 y,.iface 278 (.pointer (some a))]),.iface 115 (.pointer (some ⟨t,0,none⟩))] w fun ev w'=>ev=.returned (.bool true)/\w'.heap[t]?=some (.cells #[.int .i64 f,.int .i64 x,.int .i64 y,.iface 278 (.pointer (some a))] 113 (0,0))/\Frm (fun k=>k=t) w w':=by
 have h6:=@run_callFunc_extern Tryz.prog 88 _ (fun args=>ReflectliteValue.unpack (args.getD 0 (.tuple #[]))) Tryz.func88 (by kernel_rfl) (by kernel_rfl) (by kernel_rfl) (by kernel_rfl)
 have h7 := @run_callFunc_extern Tryz.prog 89 _ (ReflectliteValue.methodAny (ReflectliteValue.valueError "reflectlite.Value.Type" 0) (fun t _ _ _ => ReflectliteType.toType t)) Tryz.func89 (by kernel_rfl) (by kernel_rfl) (by kernel_rfl) (by kernel_rfl)
 have h8 := @run_callFunc_extern Tryz.prog 90 _ (ReflectliteValue.method (ReflectliteValue.valueError "reflectlite.Value.IsNil" 0) ReflectliteValue.isNil) Tryz.func90 (by kernel_rfl) (by kernel_rfl) (by kernel_rfl) (by kernel_rfl)
 have h27:=@run_callFunc_extern Tryz.prog 204 _ (ReflectliteType.abiMethod fun t=>do pure (.int .u8 (<- Rtype.kind t))) Tryz.func204 (by kernel_rfl) (by kernel_rfl) (by kernel_rfl) (by kernel_rfl)
 have h37:=@run_callFunc_extern Tryz.prog 215 _ (ReflectliteType.method ReflectliteType.elem) Tryz.func215 (by kernel_rfl) (by kernel_rfl) (by kernel_rfl) (by kernel_rfl)
 have h38 := @run_callFunc_extern Tryz.prog 216 _ (ReflectliteType.relation "Implements" ReflectliteType.implements_) Tryz.func216 (by kernel_rfl) (by kernel_rfl) (by kernel_rfl) (by kernel_rfl)
 have h10:=@run_callFunc_extern Tryz.prog 92 _ ReflectliteType.typeOf Tryz.func92 (by kernel_rfl) (by kernel_rfl) (by kernel_rfl) (by kernel_rfl)
 have h35 := @run_callFunc_extern Tryz.prog 213 _ (ReflectliteType.relation "AssignableTo" ReflectliteType.assignableTo) Tryz.func213 (by kernel_rfl) (by kernel_rfl) (by kernel_rfl) (by kernel_rfl)
 have f6:=asValueOf
 have f7:=asType
 have mK:=asMethodKind
 have mE:=asMethodElem
 have mI:=asMethodImplements
 have mA:=asMethodAssignableTo
 have kP:=asKindP
 have kF:=asKindF
 have eP:=asElem
 have iF:=asImplements
 have h11 := @run_callFunc_extern Tryz.prog 122 _ (ReflectliteValue.method (ReflectliteValue.valueError "reflectlite.Value.Elem" 0) ReflectliteValue.elem) Tryz.func122 (by kernel_rfl) (by kernel_rfl) (by kernel_rfl) (by kernel_rfl)
 have h12:=@run_callFunc_extern Tryz.prog 123 _ ReflectliteValue.set Tryz.func123 (by kernel_rfl) (by kernel_rfl) (by kernel_rfl) (by kernel_rfl)
 have tF:=asTypeOfF
 have aF:=asAssignF
 have vF:=asValueOfF
 have n8:=asIsNil ⟨w.heap.size,0,none⟩ ⟨t,0,none⟩ ((w.alloc (.cells #[.pointer (some ⟨t,0,none⟩)] 115)).alloc (.cells #[.pointer (some ⟨10,115,none⟩),.pointer (some ⟨w.heap.size,0,none⟩),.int .u64 150] 168)) (by simp)
 have hlt:8<w.heap.size:=World.block_lt_of_cell? w _ hg
 have hg2:((w.alloc (.cells #[.pointer (some ⟨t,0,none⟩)] 115)).alloc (.cells #[.pointer (some ⟨10,115,none⟩),.pointer (some ⟨w.heap.size,0,none⟩),.int .u64 150] 168)).cell? ⟨8,0,none⟩=some (.iface 220 (.agg #[.pointer (some ⟨10,62,none⟩)])):=by
  rw [World.cell?_alloc_lt _ _ ⟨8,0,none⟩ (by simp;omega),World.cell?_alloc_lt _ _ ⟨8,0,none⟩ hlt];exact hg
 have el:=asElemV ⟨w.heap.size,0,none⟩ ⟨t,0,none⟩ (((w.alloc (.cells #[.pointer (some ⟨t,0,none⟩)] 115)).alloc (.cells #[.pointer (some ⟨10,115,none⟩),.pointer (some ⟨w.heap.size,0,none⟩),.int .u64 150] 168)).alloc (.cells #[.pointer (some ⟨10,115,none⟩),.pointer (some ⟨w.heap.size,0,none⟩),.int .u64 150] 168)) (by rw [World.cell?_alloc_lt _ _ ⟨w.heap.size,0,none⟩ (by simp;omega)];simp)
 obtain ⟨W4,hW4⟩:∃ W4,W4=(((w.alloc (.cells #[.pointer (some ⟨t,0,none⟩)] 115)).alloc (.cells #[.pointer (some ⟨10,115,none⟩),.pointer (some ⟨w.heap.size,0,none⟩),.int .u64 150] 168)).alloc (.cells #[.pointer (some ⟨10,115,none⟩),.pointer (some ⟨w.heap.size,0,none⟩),.int .u64 150] 168)).alloc (.cells #[.int .i64 f,.int .i64 x,.int .i64 y,.iface 278 (.pointer (some a))] 113):=⟨_,rfl⟩
 have hB4:Below w.heap.size w W4:=by rw [hW4];exact ((((Below.refl _ w).alloc (Nat.le_refl _) _).alloc (by simp) _).alloc (by simp;omega) _).alloc (by simp;omega) _
 have ht4:W4.heap[t]?=some (.cells old 113 (0,0)):=(hB4.block _ (heap_lt ht)).trans ht
 have hn4:W4.heap[w.heap.size+1+1+1]?=some (.cells #[.int .i64 f,.int .i64 x,.int .i64 y,.iface 278 (.pointer (some a))] 113 (0,0)):=by
  have:=heap_alloc_last (((w.alloc (.cells #[.pointer (some ⟨t,0,none⟩)] 115)).alloc (.cells #[.pointer (some ⟨10,115,none⟩),.pointer (some ⟨w.heap.size,0,none⟩),.int .u64 150] 168)).alloc (.cells #[.pointer (some ⟨10,115,none⟩),.pointer (some ⟨w.heap.size,0,none⟩),.int .u64 150] 168)) (.cells #[.int .i64 f,.int .i64 x,.int .i64 y,.iface 278 (.pointer (some a))] 113)
  simp only [World.size_alloc] at this
  rw [hW4];exact this
 have st:=asSet t (w.heap.size+1+1+1) f x y a old W4 hn4 ht4 ho
 have HR:Hid ((W4.setRow t #[.int .i64 f,.int .i64 x,.int .i64 y,.iface 278 (.pointer (some a))]).heap[t]?=some (.cells #[.int .i64 f,.int .i64 x,.int .i64 y,.iface 278 (.pointer (some a))] 113 (0,0))/\Frm (fun k=>k=t) w (W4.setRow t #[.int .i64 f,.int .i64 x,.int .i64 y,.iface 278 (.pointer (some a))])):=⟨setRow_heap W4 t old _ _ _ ht4,(Frm.of_below hB4).trans (frm_setRow W4 t _)⟩
 rw [hW4] at st HR
 clear hW4 hB4 ht4 hn4 hlt
 go_enter Tryz.func48,Tryz.ntmps48
 go_wp2
 refine wp_loop_rounds 1 ?_
 rw [rounds_succ]
 go_wp2
 go_ret
 exact ⟨rfl,HR.out⟩
end
section
open Go.RowKit
open Flm (Px FS)
theorem Rdr.number_off {s:ByteArray} {r:RS} {k:Nat} (h:r.err ≠ 0):Rdr.number s r k=(0,r):=by
 unfold Rdr.number
 rw [Rdr.run_off h,Rdr.lows_off h]
 rfl
theorem Flm.shade_off {s:ByteArray} {r:RS} (h:r.err ≠ 0):(Flm.shade s r).2=r:=by
 unfold Flm.shade
 rw [Rdr.number_off h]
 rfl
theorem Flm.hAt_off {s:ByteArray} {r:RS} {k:Nat} (h:(Flm.hAt s r k).err ≠ 0):∀ j,Flm.hAt s r (k+j)=Flm.hAt s r k
 | 0=>rfl
 | j+1=>by
  show (Flm.shade s (Flm.hAt s r (k+j))).2=_
  rw [Flm.hAt_off h j,Flm.shade_off h]
theorem Flm.hAt_bad {s:ByteArray} {r:RS} {k:Nat} (hk:k<3) (h:(Flm.hAt s r (k+1)).err ≠ 0):(Flm.colour s r).2=Flm.hAt s r (k+1):=by
 have:=Flm.hAt_off h (3-(k+1))
 rw [show k+1+(3-(k+1))=3 by omega] at this
 exact this
theorem frm_own {a b c:World} {k:Nat} (h:Frm (oneS k) a b) (f:Frm (fun t=>t=k \/ a.heap.size<=t) b c):Frm (oneS k) a c :=
 ⟨f.os.trans h.os,f.tape.trans h.tape,f.output.trans h.output,Nat.le_trans h.size f.size,fun t ht hs=>(f.block t (Nat.lt_of_lt_of_le ht h.size) (fun e=>e.elim (fun e=>hs e) (fun e=>by omega))).trans (h.block t ht hs)⟩
def pixRet (A:Nat->Addr) (c:Px × RS):Ending:=.returned (.tuple #[if c.2.err=0 then .agg #[.int .u8 c.1.1,.int .u8 c.1.2.1,.int .u8 c.1.2.2] else .agg #[.int .u8 0,.int .u8 0,.int .u8 0],errA A c.2.err])
set_option maxRecDepth 20000 in
theorem pPixel (w:World) (L p b nb rg:Nat) (Dv:Value) (dbs:List Nat) (s:ByteArray) (z:Nat) (fs:FS) (A:Nat->Addr) (h:PAt w L p b nb rg Dv dbs s z fs) (hs:s.size<=maxLen) (E:ErrsL w A L) (hLw:L<=w.heap.size) :
  Calls Tryz.prog 168 #[.pointer (some ⟨p,0,none⟩)] w fun x w'=>x=pixRet A (Flm.colour s fs.r)/\goesOn w' L p b nb rg Dv dbs s z fs (Flm.colour s fs.r).2/\Frm (oneS b) w w':=by
 have HP:Hid (PAt w L p b nb rg Dv dbs s z fs):=h
 have HE:Hid (ErrsL w A L):=E
 obtain ⟨W2,hW2⟩:∃ W2,W2=(w.alloc (.cells #[.int .u8 0,.int .u8 0,.int .u8 0] 50)).alloc (.cells #[.int .u8 0,.int .u8 0,.int .u8 0] 50):=⟨_,rfl⟩
 have hB2:Below w.heap.size w W2:=by rw [hW2];exact ((Below.refl _ w).alloc (Nat.le_refl _) _).alloc (by simp) _
 have HP2:Hid (PAt W2 L p b nb rg Dv dbs s z fs):=h.below hB2
 have HE2:Hid (ErrsL W2 A L):=E.below (hB2.mono hLw)
 have hsz:W2.heap.size=w.heap.size+2:=by rw [hW2];simp
 have HG:Hid (BoxP W2 (w.heap.size+1) (0,0,0)):=by
  have:=BoxP.new (w.alloc (.cells #[.int .u8 0,.int .u8 0,.int .u8 0] 50)) (0,0,0)
  rw [World.size_alloc] at this
  unfold Hid;rw [hW2];exact this
 have HR:Hid (BoxP W2 w.heap.size (0,0,0)):=by
  have:=BoxP.new w (0,0,0)
  unfold Hid BoxP;rw [hW2,Below.heap_alloc _ _ _ (by simp)];exact this
 have HF2:Hid (Frm (oneS b) w W2):=Frm.of_below hB2
 have HW2:Hid (W2=(w.alloc (.cells #[.int .u8 0,.int .u8 0,.int .u8 0] 50)).alloc (.cells #[.int .u8 0,.int .u8 0,.int .u8 0] 50)):=hW2
 have hbH:b<w.heap.size:=h.up.2
 have HLT:Hid (∀ k,paB p b nb rg Dv dbs k->k<w.heap.size):=h.lt
 have H5L:Hid (5<L):=(E.v (2,5) (by decide)).1
 clear h E hW2 hB2
 go_enter Tryz.func168,Tryz.ntmps168
 go_wp2_with (rw [<- HW2.out])
 go_loopw [8] (fun kv wr=>∃ (k:Nat),k<=3/\kv=.int .i64 k/\PAt wr L p b nb rg Dv dbs s z { fs with r:=Flm.hAt s fs.r k }/\BoxP wr w.heap.size (0,0,0)/\BoxP wr (w.heap.size+1) (part3 (Flm.vAt s fs.r) k)/\Frm (fun t=>t=b \/ w.heap.size<=t) W2 wr) (fun kv _=>3-(intOf kv).toNat)
 case atStart=>exact ⟨0,by omega,rfl,HP2.out,HR.out,HG.out,Frm.refl _ _⟩
 case round =>
  obtain ⟨k,hk,rfl,hq,hr,hg,hfr⟩:=hrel
  have HEW:Hid (ErrsL wr A L):=HE2.out.below (hfr.below (by omega) (fun t e=>e.elim (fun e=>by rw [e];exact HP.out.lo.2) (fun e=>Nat.le_trans hLw e)))
  by_cases hk3:k<3
  ·have hk3':(k:Int)<3:=by omega
   have HB:=hq.number hs HEW.out (by have:=hfr.size;omega) 224 (by decide)
   have d0:wr.cell? ⟨p,0,none⟩=some (.pointer (some ⟨b,0,none⟩)):=hq.c0
   dsimp only at HB
   obtain ⟨q,hqq⟩:∃ q,q=Flm.hAt s fs.r k:=⟨_,rfl⟩
   rw [<- hqq] at HB hq
   have hbd:=Rdr.number_bd (s:=s) (k:=224) hq.ok (by decide)
   obtain ⟨N,hN⟩:∃ N,N=(Rdr.number s q 224).1:=⟨_,rfl⟩
   obtain ⟨r1,hr1⟩:∃ r1,r1=(Rdr.number s q 224).2:=⟨_,rfl⟩
   rw [<- hN,<- hr1] at HB
   dsimp only at hbd
   rw [<- hN] at hbd
   have hnext:Flm.hAt s fs.r (k+1)=if 255<N then Rdr.fail r1 2 else r1:=by
    show (Flm.shade s (Flm.hAt s fs.r k)).2=_
    rw [<- hqq,hN,hr1];rfl
   have hval:Flm.vAt s fs.r k=N % 256:=by
    show (Flm.shade s (Flm.hAt s fs.r k)).1=_
    rw [<- hqq,hN];rfl
   have HFR:Hid (Frm (fun t=>t=b \/ w.heap.size<=t) W2 wr):=hfr
   have HBX:Hid (BoxP wr w.heap.size (0,0,0)/\BoxP wr (w.heap.size+1) (part3 (Flm.vAt s fs.r) k)):=⟨hr,hg⟩
   have HC:Hid (∀ w1,Frm (oneS b) wr w1->BoxP w1 w.heap.size (0,0,0)/\BoxP w1 (w.heap.size+1) (part3 (Flm.vAt s fs.r) k)):=fun w1 f1=>⟨hr.frm f1 (fun e=>by have e':w.heap.size=b:=e;omega),hg.frm f1 (fun e=>by have e':w.heap.size+1=b:=e;omega)⟩
   have HEC:Hid (∀ w1,Frm (oneS b) wr w1->w1.cell? ⟨5,0,none⟩=some (.iface 278 (.pointer (some (A 2))))):=fun w1 f1=>((hq.errs (by have:=hfr.size;omega) HEW.out f1).v (2,5) (by decide)).2
   have HFF:Hid (∀ w1,Frm (oneS b) wr w1->Frm (oneS b) w w1):=fun w1 f1=>(frm_own HF2.out hfr).trans f1
   have HQ:Hid (PAt wr L p b nb rg Dv dbs s z { fs with r:=q }):=hq
   by_cases he:r1.err=0
   ·rw [numRet_good A _ he] at HB
    have HBE:Hid (r1.err=0):=he
    have HBH:Hid (Calls Tryz.prog 167 #[.pointer (some ⟨b,0,none⟩),.int .i64 224] wr fun x w'=>x=.returned (.tuple #[.int .i64 N,.nilIface])/\goesOn w' L p b nb rg Dv dbs s z { fs with r:=q } r1/\Frm (oneS b) wr w'):=HB
    by_cases hN5:255<N
    ·rw [if_pos hN5] at hnext
     have HNX:Hid ((Flm.colour s fs.r).2.err=2):=by
      have h2:(Flm.hAt s fs.r (k+1)).err=2:=by rw [hnext];unfold Rdr.fail;simp [he]
      unfold Hid;rw [Flm.hAt_bad hk3 (by rw [h2];decide)];exact h2
     clear HB hq hr hg hfr hqq hN hr1 hnext hval he
     go_wp2_with (go_at_call 167;refine HBH.out.mono ?_;rintro x w1 ⟨rfl,h1,f1⟩)
     have k5:=HEC.out w1 f1
     have hgo:=(HC.out w1 f1).1
     have s0:=hgo.cell 0 (by decide)
     have s1:=hgo.cell 1 (by decide)
     have s2:=hgo.cell 2 (by decide)
     have z0:=hgo.frozen 0
     have z1:=hgo.frozen 1
     have z2:=hgo.frozen 2
     obtain ⟨X,hX⟩:∃ X,X=((w1.setCell ⟨w.heap.size,0,none⟩ (.int .u8 0)).setCell ⟨w.heap.size,1,none⟩ (.int .u8 0)).setCell ⟨w.heap.size,2,none⟩ (.int .u8 0):=⟨_,rfl⟩
     obtain ⟨q0,q1,q2,fX⟩:=three_set w1 w.heap.size _ _ _ s0 s1 s2 X hX
     have k5x:X.drew.cell? ⟨5,0,none⟩=some (.iface 278 (.pointer (some (A 2)))):=fX.cell k5 (fun e=>by have:=H5L.out;have e':5=w.heap.size:=e;omega)
     rw [hX] at k5x
     go_wp2
     go_region
     all_goals go_wp2
     all_goals rw [<- hX]
     all_goals
      refine bodyPost_ret (v:=.tuple #[.agg #[.int .u8 0,.int .u8 0,.int .u8 0],.iface 278 (.pointer (some (A 2)))]) (by simp [results,Tryz.results168,go_sem,q0,q1,q2]) rfl ?_
      refine ⟨by unfold pixRet;rw [HNX.out];rfl,fun h=>absurd h (by rw [HNX.out];decide),?_⟩
      first|(exact frm_new (HFF.out w1 f1) (G:=w.heap.size) fX (by omega))|(exact frm_new (HFF.out w1 f1) (G:=w.heap.size) fX.drew (by omega))
    ·rw [if_neg hN5] at hnext
     have hNm:N % 256=N:=by omega
     have hNu:IntKind.u8.wrap N=N:=by rw [IntKind.wrap_u8];omega
     rw [hNm] at hval
     have HNX:Hid (Flm.hAt s fs.r (k+1)=r1):=hnext
     have HVX:Hid (Flm.vAt s fs.r k=N):=hval
     clear HB hq hr hg hfr hqq hN hr1 hnext hval he
     go_wp2_with (go_at_call 167;refine HBH.out.mono ?_;rintro x w1 ⟨rfl,h1,f1⟩;have hgo:=(HC.out w1 f1).2;have s0:=hgo.cell k (by omega);have z0:=hgo.frozen k)
     go_roundw
     case rel =>
      have hb1:=(HC.out w1 f1).1
      have hgp:=hgo.put hk3
      rw [HVX.out] at hgp
      have fo:Frm (fun t=>t=w.heap.size+1) w1 (w1.setCell ⟨w.heap.size+1,k,none⟩ (.int .u8 N)):=Frm.setCell (p:=⟨w.heap.size+1,k,none⟩) (Frm.refl (fun t=>t=w.heap.size+1) w1) (.inl rfl) _
      refine ⟨k+1,by omega,by go_num,?_,hb1.frm fo (by omega),hgp,?_⟩
      ·rw [HNX.out];exact (h1 HBE.out).frm fo (fun t ht e=>by have:=HLT.out t ht;omega)
      ·exact (HFR.out.trans (f1.mono (fun t _ e=>.inl e))).trans (fo.mono (fun t _ e=>.inr (by omega)))
     case measure=>simp [intOf];omega
   ·rw [numRet_bad A _ he] at HB
    have HNX:Hid ((Flm.colour s fs.r).2=r1):=by
     have h2:Flm.hAt s fs.r (k+1)=r1:=by rw [hnext];split <;> first|exact Rdr.fail_of he|rfl
     unfold Hid;rw [Flm.hAt_bad hk3 (by rw [h2];exact he)];exact h2
    have HBE:Hid (r1.err ≠ 0):=he
    obtain ⟨ea,hea⟩:∃ ea,ea=A r1.err.toNat:=⟨_,rfl⟩
    rw [<- hea] at HB
    have HEA:Hid (ea=A r1.err.toNat):=hea
    have HBH:Hid (Calls Tryz.prog 167 #[.pointer (some ⟨b,0,none⟩),.int .i64 224] wr fun x w'=>x=.returned (.tuple #[.int .i64 0,.iface 278 (.pointer (some ea))])/\goesOn w' L p b nb rg Dv dbs s z { fs with r:=q } r1/\Frm (oneS b) wr w'):=HB
    clear HB hq hr hg hfr hqq hN hr1 hnext hval he hea
    go_wp2_with (go_at_call 167;refine HBH.out.mono ?_;rintro x w1 ⟨rfl,h1,f1⟩;have hgo:=(HC.out w1 f1).1;have s0:=hgo.cell 0 (by decide);have s1:=hgo.cell 1 (by decide);have s2:=hgo.cell 2 (by decide);have z0:=hgo.frozen 0;have z1:=hgo.frozen 1;have z2:=hgo.frozen 2)
    obtain ⟨X,hX⟩:∃ X,X=((w1.setCell ⟨w.heap.size,0,none⟩ (.int .u8 0)).setCell ⟨w.heap.size,1,none⟩ (.int .u8 0)).setCell ⟨w.heap.size,2,none⟩ (.int .u8 0):=⟨_,rfl⟩
    obtain ⟨q0,q1,q2,fX⟩:=three_set w1 w.heap.size _ _ _ s0 s1 s2 X hX
    rw [<- hX]
    refine bodyPost_ret (v:=.tuple #[.agg #[.int .u8 0,.int .u8 0,.int .u8 0],.iface 278 (.pointer (some ea))]) (by simp [results,Tryz.results168,go_sem,q0,q1,q2]) rfl ?_
    refine ⟨by unfold pixRet;rw [HNX.out,if_neg HBE.out,errA_pos A HBE.out,HEA.out],fun h=>absurd h (by rw [HNX.out];exact HBE.out),?_⟩
    exact frm_new (HFF.out w1 f1) (G:=w.heap.size) fX (by omega)
  ·have hk3':¬ (k:Int)<3:=by omega
   have e3:k=3:=by omega
   rw [e3] at hq hg
   clear e3
   have HQ:Hid (PAt wr L p b nb rg Dv dbs s z { fs with r:=(Flm.colour s fs.r).2 }):=hq
   have HFF:Hid (Frm (oneS b) w wr):=frm_own HF2.out hfr
   have s0:=hr.cell 0 (by decide)
   have s1:=hr.cell 1 (by decide)
   have s2:=hr.cell 2 (by decide)
   have z0:=hr.frozen 0
   have z1:=hr.frozen 1
   have z2:=hr.frozen 2
   have v0:wr.cell? ⟨w.heap.size+1,0,none⟩=some (.int .u8 (Flm.colour s fs.r).1.1):=hg.cell 0 (by decide)
   have v1:wr.cell? ⟨w.heap.size+1,1,none⟩=some (.int .u8 (Flm.colour s fs.r).1.2.1):=hg.cell 1 (by decide)
   have v2:wr.cell? ⟨w.heap.size+1,2,none⟩=some (.int .u8 (Flm.colour s fs.r).1.2.2):=hg.cell 2 (by decide)
   obtain ⟨C,hC⟩:∃ C,C=Flm.colour s fs.r:=⟨_,rfl⟩
   rw [<- hC] at v0 v1 v2 HQ
   have HCC:Hid (C=Flm.colour s fs.r):=hC
   obtain ⟨X,hX⟩:∃ X,X=((wr.setCell ⟨w.heap.size,0,none⟩ (.int .u8 C.1.1)).setCell ⟨w.heap.size,1,none⟩ (.int .u8 C.1.2.1)).setCell ⟨w.heap.size,2,none⟩ (.int .u8 C.1.2.2):=⟨_,rfl⟩
   obtain ⟨q0,q1,q2,fX⟩:=three_set wr w.heap.size _ _ _ s0 s1 s2 X hX
   clear hq hr hg hfr hC
   go_wp2_with fail
   rw [<- hX]
   refine bodyPost_ret (v:=.tuple #[.agg #[.int .u8 C.1.1,.int .u8 C.1.2.1,.int .u8 C.1.2.2],.nilIface]) (by simp [results,Tryz.results168,go_sem,q0,q1,q2]) rfl ?_
   have he:C.2.err=0:=HQ.out.err
   rw [<- HCC.out]
   refine ⟨by unfold pixRet;rw [if_pos he,he];rfl,fun _=>HQ.out.frm fX (fun t ht e=>by have:=HLT.out t ht;omega),frm_new HFF.out (G:=w.heap.size) fX (by omega)⟩
end
section
open Go.RowKit
open Flm (Px FS)
namespace Flm
theorem in_spots {x y n:Nat} {q:Nat × Nat}:q ∈ spots x y n ↔ (x<=q.1/\q.1<x+n)/\y<=q.2/\q.2<y+n:=by
 unfold spots
 simp only [List.mem_flatMap,List.mem_range,List.mem_map]
 constructor
 ·rintro ⟨j,hj,i,hi,rfl⟩
  dsimp only;omega
 ·rintro ⟨⟨h1,h2⟩,h3,h4⟩
  exact ⟨q.2-y,by omega,q.1-x,by omega,by ext <;> dsimp only <;> omega⟩
theorem srcR_eq (s:ByteArray) (r:RS) (k k':Nat):srcR s r k k'=(Rdr.number s (Rdr.number s r k).2 k').2:=by
 unfold srcR
 split
 ·rfl
 ·rename_i h
  rw [Rdr.number_off h]
theorem hasB_iff {z x y n:Int}:hasB z x y n=true ↔ 0<=x/\0<=y/\x+n<=z/\y+n<=z:=by
 unfold hasB
 simp only [Bool.and_eq_true,decide_eq_true_eq]
 omega
theorem copies_err {s:ByteArray} {z x y n k f:Nat} {fs:FS} (h:(srcR s fs.r k (k+24)).err ≠ 0):copies s z x y n k f fs={ fs with r:=srcR s fs.r k (k+24) }:=by
 rw [srcR_eq] at h ⊢
 unfold copies
 dsimp only
 rw [if_neg h]
theorem copies_out {s:ByteArray} {z x y n k f:Nat} {fs:FS} (h:(srcR s fs.r k (k+24)).err=0) (hn:0<n) (hh:hasB z (x+srcX s fs.r k) (y+srcY s fs.r k (k+24)) n=false):copies s z x y n k f fs={ fs with r:=Rdr.fail (srcR s fs.r k (k+24)) 9 }:=by
 rw [srcR_eq] at h ⊢
 unfold copies
 dsimp only
 rw [if_pos h,if_neg]
 intro ha
 rw [List.all_eq_true] at ha
 have h1:=ha (x,y) (in_spots.2 (by dsimp only;omega))
 have h2:=ha (x+n-1,y+n-1) (in_spots.2 (by dsimp only;omega))
 unfold may at h1 h2
 simp only [Bool.and_eq_true,decide_eq_true_eq] at h1 h2
 have:hasB z (x+srcX s fs.r k) (y+srcY s fs.r k (k+24)) n=true:=by
  rw [hasB_iff]
  unfold srcX srcY
  omega
 rw [this] at hh
 cases hh
theorem copies_in {s:ByteArray} {z x y n k f u v:Nat} {fs:FS} (h:(srcR s fs.r k (k+24)).err=0) (hu:(u:Int)=x+srcX s fs.r k) (hv:(v:Int)=y+srcY s fs.r k (k+24)) (h1:u+n<=z) (h2:v+n<=z) (hr:f=now fs->∀ q ∈ spots u v n,fs.rd.getD (q.2*z+q.1) false=true) :
  copies s z x y n k f fs=moves z f ((u:Int)-x) ((v:Int)-y) (spots x y n) { fs with r:=srcR s fs.r k (k+24) }:=by
 have e1:(u:Int)-x=Rdr.signed s fs.r k:=by unfold srcX at hu;omega
 have e2:(v:Int)-y=Rdr.signed s (Rdr.number s fs.r k).2 (k+24):=by unfold srcY at hv;omega
 rw [srcR_eq] at h ⊢
 rw [e1,e2]
 unfold copies
 dsimp only
 rw [if_pos h,if_pos]
 rw [List.all_eq_true]
 intro q hq
 rw [in_spots] at hq
 rw [<- e1,<- e2]
 unfold may
 simp only [Bool.and_eq_true,decide_eq_true_eq,Bool.or_eq_true,Bool.not_eq_true']
 refine ⟨⟨⟨⟨by omega,by omega⟩,by omega⟩,by omega⟩,?_⟩
 by_cases hf:f=now fs
 ·right
  have:=hr hf (q.1-x+u,q.2-y+v) (in_spots.2 (by dsimp only;omega))
  dsimp only at this
  rw [show ((q.2:Int)+((v:Int)-y)).toNat=q.2-y+v by omega,show ((q.1:Int)+((u:Int)-x)).toNat=q.1-x+u by omega]
  exact this
 ·left
  simpa using hf
theorem copies_unread {s:ByteArray} {z x y n k u v:Nat} {fs:FS} (h:(srcR s fs.r k (k+24)).err=0) (hu:(u:Int)=x+srcX s fs.r k) (hv:(v:Int)=y+srcY s fs.r k (k+24)) {q:Nat × Nat} (hq:q ∈ spots u v n) (hr:fs.rd.getD (q.2*z+q.1) false=false) :
  copies s z x y n k (now fs) fs={ fs with r:=Rdr.fail (srcR s fs.r k (k+24)) 9 }:=by
 have e1:(u:Int)-x=Rdr.signed s fs.r k:=by unfold srcX at hu;omega
 have e2:(v:Int)-y=Rdr.signed s (Rdr.number s fs.r k).2 (k+24):=by unfold srcY at hv;omega
 rw [srcR_eq] at h ⊢
 rw [in_spots] at hq
 unfold copies
 dsimp only
 rw [if_pos h,if_neg]
 intro ha
 rw [List.all_eq_true] at ha
 have h1:=ha (q.1-u+x,q.2-v+y) (in_spots.2 (by dsimp only;omega))
 unfold may at h1
 rw [<- e1,<- e2] at h1
 dsimp only at h1
 rw [show (((q.2-v+y:Nat):Int)+((v:Int)-y)).toNat=q.2 by omega,show (((q.1-u+x:Nat):Int)+((u:Int)-x)).toNat=q.1 by omega,hr] at h1
 simp at h1
end Flm
structure FBox (W:World) (H p x y n:Nat) (e:Value):Prop where
 b0:W.heap[H]?=some (.cells #[.pointer (some ⟨p,0,none⟩)] 107 (0,0))
 b1:W.heap[H+1]?=some (.cells #[.int .i64 x,.int .i64 y,.int .i64 n] 100 (0,0))
 b2:W.heap[H+1+1]?=some (.cells #[e] 62 (0,0))
theorem FBox.frm {S:Nat->Prop} {W W':World} {H p x y n:Nat} {e:Value} (h:FBox W H p x y n e) (f:Frm S W W') (hS:∀ k,S k->k<H \/ H+3<=k):FBox W' H p x y n e :=
 ⟨(f.block _ (heap_lt h.b0) (fun e=>by have:=hS _ e;omega)).trans h.b0,(f.block _ (heap_lt h.b1) (fun e=>by have:=hS _ e;omega)).trans h.b1,(f.block _ (heap_lt h.b2) (fun e=>by have:=hS _ e;omega)).trans h.b2⟩
theorem FBox.below {W W':World} {H p x y n:Nat} {e:Value} (h:FBox W H p x y n e) (f:Below W.heap.size W W'):FBox W' H p x y n e :=
 h.frm (Frm.of_below (S:=fun _=>False) f) (fun _ e=>e.elim)
theorem fbox_new (w:World) (p x y n:Nat):FBox (((w.alloc (.cells #[.pointer (some ⟨p,0,none⟩)] 107)).alloc (.cells #[.int .i64 x,.int .i64 y,.int .i64 n] 100)).alloc (.cells #[.nilIface] 62)) w.heap.size p x y n .nilIface:=by
 have h2:=heap_alloc_last ((w.alloc (.cells #[.pointer (some ⟨p,0,none⟩)] 107)).alloc (.cells #[.int .i64 x,.int .i64 y,.int .i64 n] 100)) (.cells #[.nilIface] 62)
 have h1:=heap_alloc_last (w.alloc (.cells #[.pointer (some ⟨p,0,none⟩)] 107)) (.cells #[.int .i64 x,.int .i64 y,.int .i64 n] 100)
 simp only [World.size_alloc] at h1 h2
 refine ⟨?_,(Below.heap_alloc _ _ _ (by simp only [World.size_alloc];omega)).trans h1,h2⟩
 exact (Below.heap_alloc _ _ _ (by simp only [World.size_alloc];omega)).trans ((Below.heap_alloc _ _ _ (by simp only [World.size_alloc];omega)).trans (heap_alloc_last w _))
end
end Go.Proofs.YtekfbphnoibnjaaGreatDoor
