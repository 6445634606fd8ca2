/-
  errors.As where the target is a variable of the type that wraps what is wrong with its place.
-/
import Derived.Test.YtekfbphnoibnjaaGreatDoorF33
import Derived.Test.YtekfbphnoibnjaaGreatDoorF14
namespace Go.Proofs.YtekfbphnoibnjaaGreatDoor
open Go.RowKit Go.Extern.Stop Go.Stop Go.Extern
theorem frm_setRow (w : World) (g : Nat) (cs : Array Value) : Frm (fun k => k = g) w (w.setRow g cs) := ⟨rfl, rfl, rfl, by simp [World.setRow], fun k _ hn => setRow_other w g k cs hn⟩
theorem asValueOf (t : Addr) (w : World) : (ReflectliteValue.unpack (.iface 115 (.pointer (some t)))).run Tryz.prog w = .ok (.agg #[.pointer (some ⟨10, 115, none⟩), .pointer (some ⟨w.heap.size, 0, none⟩), .int .u64 150]) (w.alloc (.cells #[.pointer (some t)] 115)) := by kernel_rfl
theorem asType (a : Addr) (w : World) : (ReflectliteValue.methodAny (ReflectliteValue.valueError "reflectlite.Value.Type" 0) (fun t _ _ _ => ReflectliteType.toType t) #[.agg #[.pointer (some ⟨10, 115, none⟩), .pointer (some a), .int .u64 150]]).run Tryz.prog w = .ok (.iface 220 (.agg #[.pointer (some ⟨10, 115, none⟩)])) w := by kernel_rfl
theorem asMethodKind (h : Value) (w : World) : (Go.method 408 220 (.agg #[h]) "Kind").run Tryz.prog w = .ok (204, h) w := by kernel_rfl
theorem asKindP (w : World) : ((ReflectliteType.abiMethod fun t => (fun a : Nat => Value.int IntKind.u8 (a : Int)) <$> Rtype.kind t) #[.pointer (some ⟨10, 115, none⟩)]).run Tryz.prog w = .ok (.int .u8 22) w := by kernel_rfl
theorem asKindF (w : World) : ((ReflectliteType.abiMethod fun t => (fun a : Nat => Value.int IntKind.u8 (a : Int)) <$> Rtype.kind t) #[.pointer (some ⟨10, 113, none⟩)]).run Tryz.prog w = .ok (.int .u8 25) w := by kernel_rfl
theorem asMethod1 (z : Sem Value) (f : TypeId -> Addr -> Nat -> Nat -> Sem Value) (v : Value) : ReflectliteValue.method z f #[v] = (ReflectliteValue.parts v >>= fun r => r.elim z (fun q => f q.1 q.2.1 q.2.2 (q.2.2 % 32))) := by
 show (ReflectliteValue.parts v >>= _) = _
 congr 1
 funext r
 cases r <;> rfl
theorem asPartsP (a : Addr) (w : World) : (ReflectliteValue.parts (.agg #[.pointer (some ⟨10, 115, none⟩), .pointer (some a), .int .u64 150])).run Tryz.prog w = .ok (some (115, a, 150)) w := by kernel_rfl
theorem asIsNil (a p : Addr) (W : World) (ha : W.cell? a = some (.pointer (some p))) : (ReflectliteValue.method (ReflectliteValue.valueError "reflectlite.Value.IsNil" 0) ReflectliteValue.isNil #[.agg #[.pointer (some ⟨10, 115, none⟩), .pointer (some a), .int .u64 150]]).run Tryz.prog W = .ok (.bool false) W := by
 rw [asMethod1]
 simp only [Sem.run_bind, asPartsP, Result.andThen, Option.elim]
 simp [ReflectliteValue.isNil, loadVar, isAgg, underlying, Tryz.underlying115, ha, Result.andThen]
theorem asMethodElem (h : Value) (w : World) : (Go.method 408 220 (.agg #[h]) "Elem").run Tryz.prog w = .ok (215, .agg #[h]) w := by kernel_rfl
theorem asMethodImplements (h : Value) (w : World) : (Go.method 408 220 (.agg #[h]) "Implements").run Tryz.prog w = .ok (216, .agg #[h]) w := by kernel_rfl
theorem asMethodAssignableTo (h : Value) (w : World) : (Go.method 408 220 (.agg #[h]) "AssignableTo").run Tryz.prog w = .ok (213, .agg #[h]) w := by kernel_rfl
theorem asElem (w : World) : (ReflectliteType.method ReflectliteType.elem #[.agg #[.pointer (some ⟨10, 115, none⟩)]]).run Tryz.prog w = .ok (.iface 220 (.agg #[.pointer (some ⟨10, 113, none⟩)])) w := by kernel_rfl
theorem asImplements (w : World) : (ReflectliteType.relation "Implements" ReflectliteType.implements_ #[.agg #[.pointer (some ⟨10, 113, none⟩)], .iface 220 (.agg #[.pointer (some ⟨10, 62, none⟩)])]).run Tryz.prog w = .ok (.bool true) w := by kernel_rfl
theorem asTypeOfF (v : Value) (w : World) : (ReflectliteType.typeOf #[.iface 113 v]).run Tryz.prog w = .ok (.iface 220 (.agg #[.pointer (some ⟨10, 113, none⟩)])) w := by kernel_rfl
theorem asAssignF (w : World) : (ReflectliteType.relation "AssignableTo" ReflectliteType.assignableTo #[.agg #[.pointer (some ⟨10, 113, none⟩)], .iface 220 (.agg #[.pointer (some ⟨10, 113, none⟩)])]).run Tryz.prog w = .ok (.bool true) w := by kernel_rfl
theorem asAssignE (w : World) : (ReflectliteType.relation "AssignableTo" ReflectliteType.assignableTo #[.agg #[.pointer (some ⟨10, 278, none⟩)], .iface 220 (.agg #[.pointer (some ⟨10, 113, none⟩)])]).run Tryz.prog w = .ok (.bool false) w := by kernel_rfl
theorem noAsE (v : Value) (xT : TypeId) (w : World) : (Instr.typeAssert (.iface 278 v) xT 224 true).run Tryz.prog w = .ok (.tuple #[.nilIface, .bool false]) w := run_typeAssert_lacksB Tryz.underlying224 (by kernel_rfl) (by kernel_rfl) v xT w
theorem asValueOfF (f x y : Int) (a : Addr) (w : World) : (ReflectliteValue.unpack (.iface 113 (.agg #[.int .i64 f, .int .i64 x, .int .i64 y, .iface 278 (.pointer (some a))]))).run Tryz.prog w = .ok (.agg #[.pointer (some ⟨10, 113, none⟩), .pointer (some ⟨w.heap.size, 0, none⟩), .int .u64 153]) (w.alloc (.cells #[.int .i64 f, .int .i64 x, .int .i64 y, .iface 278 (.pointer (some a))] 113)) := by kernel_rfl
theorem asElemOf (w : World) : (Rtype.elem? 115).run Tryz.prog w = .ok (some 113) w := by kernel_rfl
theorem asMk (p : Addr) (w : World) : (ReflectliteValue.mk 113 p ReflectliteValue.flagAddr).run Tryz.prog w = .ok (.agg #[.pointer (some ⟨10, 113, none⟩), .pointer (some p), .int .u64 409]) w := by kernel_rfl
theorem asElemV (a p : Addr) (W : World) (ha : W.cell? a = some (.pointer (some p))) : (ReflectliteValue.method (ReflectliteValue.valueError "reflectlite.Value.Elem" 0) ReflectliteValue.elem #[.agg #[.pointer (some ⟨10, 115, none⟩), .pointer (some a), .int .u64 150]]).run Tryz.prog W = .ok (.agg #[.pointer (some ⟨10, 113, none⟩), .pointer (some p), .int .u64 409]) W := by
 rw [asMethod1]
 simp only [Sem.run_bind, asPartsP, Result.andThen, Option.elim]
 simp [ReflectliteValue.elem, loadVar, isAgg, underlying, Tryz.underlying115, ha, Result.andThen, asElemOf, asMk]
set_option maxHeartbeats 4000000 in
set_option maxRecDepth 100000 in
theorem as_miss (a : Addr) (t : Nat) (w : World) (hg : w.cell? ⟨8, 0, none⟩ = some (.iface 220 (.agg #[.pointer (some ⟨10, 62, none⟩)]))) :
  Calls Tryz.prog 48 #[.iface 278 (.pointer (some a)), .iface 115 (.pointer (some ⟨t, 0, none⟩))] w fun ev w' => ev = .returned (.bool false) /\ Below w.heap.size w w' := by
 have h6 := @run_callFunc_extern Tryz.prog 88 _ (fun args => ReflectliteValue.unpack (args.getD 0 (.tuple #[]))) Tryz.func88 (by kernel_rfl) (by kernel_rfl) (by kernel_rfl) (by kernel_rfl)
 have h7 := @run_callFunc_extern Tryz.prog 89 _ (ReflectliteValue.methodAny (ReflectliteValue.valueError "reflectlite.Value.Type" 0) (fun t _ _ _ => ReflectliteType.toType t)) Tryz.func89 (by kernel_rfl) (by kernel_rfl) (by kernel_rfl) (by kernel_rfl)
 have h8 := @run_callFunc_extern Tryz.prog 90 _ (ReflectliteValue.method (ReflectliteValue.valueError "reflectlite.Value.IsNil" 0) ReflectliteValue.isNil) Tryz.func90 (by kernel_rfl) (by kernel_rfl) (by kernel_rfl) (by kernel_rfl)
 have h27 := @run_callFunc_extern Tryz.prog 204 _ (ReflectliteType.abiMethod fun t => do pure (.int .u8 (<- Rtype.kind t))) Tryz.func204 (by kernel_rfl) (by kernel_rfl) (by kernel_rfl) (by kernel_rfl)
 have h37 := @run_callFunc_extern Tryz.prog 215 _ (ReflectliteType.method ReflectliteType.elem) Tryz.func215 (by kernel_rfl) (by kernel_rfl) (by kernel_rfl) (by kernel_rfl)
 have h38 := @run_callFunc_extern Tryz.prog 216 _ (ReflectliteType.relation "Implements" ReflectliteType.implements_) Tryz.func216 (by kernel_rfl) (by kernel_rfl) (by kernel_rfl) (by kernel_rfl)
 have h10 := @run_callFunc_extern Tryz.prog 92 _ ReflectliteType.typeOf Tryz.func92 (by kernel_rfl) (by kernel_rfl) (by kernel_rfl) (by kernel_rfl)
 have h35 := @run_callFunc_extern Tryz.prog 213 _ (ReflectliteType.relation "AssignableTo" ReflectliteType.assignableTo) Tryz.func213 (by kernel_rfl) (by kernel_rfl) (by kernel_rfl) (by kernel_rfl)
 have f6 := asValueOf
 have f7 := asType
 have mK := asMethodKind
 have mE := asMethodElem
 have mI := asMethodImplements
 have mA := asMethodAssignableTo
 have kP := asKindP
 have kF := asKindF
 have eP := asElem
 have iF := asImplements
 have tE := isTypeOf
 have aE := asAssignE
 have nE := noAsE
 have uE := noUnwrapE
 have vE := noUnwrapsE
 have n8 := asIsNil ⟨w.heap.size, 0, none⟩ ⟨t, 0, none⟩ ((w.alloc (.cells #[.pointer (some ⟨t, 0, none⟩)] 115)).alloc (.cells #[.pointer (some ⟨10, 115, none⟩), .pointer (some ⟨w.heap.size, 0, none⟩), .int .u64 150] 168)) (by simp)
 have hlt : 8 < w.heap.size := World.block_lt_of_cell? w _ hg
 have hg2 : ((w.alloc (.cells #[.pointer (some ⟨t, 0, none⟩)] 115)).alloc (.cells #[.pointer (some ⟨10, 115, none⟩), .pointer (some ⟨w.heap.size, 0, none⟩), .int .u64 150] 168)).cell? ⟨8, 0, none⟩ = some (.iface 220 (.agg #[.pointer (some ⟨10, 62, none⟩)])) := by
  rw [World.cell?_alloc_lt _ _ ⟨8, 0, none⟩ (by simp; omega), World.cell?_alloc_lt _ _ ⟨8, 0, none⟩ hlt]; exact hg
 go_enter Tryz.func48, Tryz.ntmps48
 go_wp2
 refine wp_loop_rounds 1 ?_
 rw [rounds_succ]
 go_wp2
 go_ret
 exact ⟨rfl, (((Below.refl _ w).alloc (Nat.le_refl _) _).alloc (by simp) _).alloc (by simp; omega) _⟩
theorem asPartsF (a : Addr) (w : World) : (ReflectliteValue.parts (.agg #[.pointer (some ⟨10, 113, none⟩), .pointer (some a), .int .u64 409])).run Tryz.prog w = .ok (some (113, a, 409)) w := by kernel_rfl
theorem asPartsV (a : Addr) (w : World) : (ReflectliteValue.parts (.agg #[.pointer (some ⟨10, 113, none⟩), .pointer (some a), .int .u64 153])).run Tryz.prog w = .ok (some (113, a, 153)) w := by kernel_rfl
theorem asDirect (w : World) : (Rtype.directlyAssignable 113 113).run Tryz.prog w = .ok true w := by kernel_rfl
theorem asSetRun {P : Program} {w w' : World} {v x val : Value} {d s : TypeId} {a b : Addr} {fl g : Nat} (hv : (ReflectliteValue.parts v).run P w = .ok (some (d, a, fl)) w) (hx : (ReflectliteValue.parts x).run P w = .ok (some (s, b, g)) w) (hf : (fl / ReflectliteValue.flagAddr % 2 == 0) = false) (hl : (loadVar s b).run P w = .ok val w) (hd : (Rtype.directlyAssignable d s).run P w = .ok true w) (hs : (storeVar d a val).run P w = .ok () w') : (ReflectliteValue.set #[v, x]).run P w = .ok (.tuple #[]) w' := by
 show ((ReflectliteValue.parts v >>= _) : Sem Value).run P w = _
 rw [Sem.run_bind, hv, Result.andThen_ok]
 show ((ReflectliteValue.parts x >>= _) : Sem Value).run P w = _
 rw [Sem.run_bind, hx, Result.andThen_ok]
 dsimp only
 rw [hf]
 simp [hl, hd, hs]
theorem asSet (t b : Nat) (f x y : Int) (a : Addr) (old : Array Value) (W : World) (hb : W.heap[b]? = some (.cells #[.int .i64 f, .int .i64 x, .int .i64 y, .iface 278 (.pointer (some a))] 113 (0, 0))) (ht : W.heap[t]? = some (.cells old 113 (0, 0))) (ho : old.size = 4) :
  (ReflectliteValue.set #[.agg #[.pointer (some ⟨10, 113, none⟩), .pointer (some ⟨t, 0, none⟩), .int .u64 409], .agg #[.pointer (some ⟨10, 113, none⟩), .pointer (some ⟨b, 0, none⟩), .int .u64 153]]).run Tryz.prog W = .ok (.tuple #[]) (W.setRow t #[.int .i64 f, .int .i64 x, .int .i64 y, .iface 278 (.pointer (some a))]) := by
 have hl := run_loadVar_row (P := Tryz.prog) W b 113 113 #[.int .i64 f, .int .i64 x, .int .i64 y, .iface 278 (.pointer (some a))] (0, 0) _ hb Tryz.underlying113 (by rfl) (by kernel_rfl)
 have hst := run_storeVar_row (P := Tryz.prog) W t 113 113 old #[.int .i64 f, .int .i64 x, .int .i64 y, .iface 278 (.pointer (some a))] ht (by kernel_rfl) (by rw [ho]; rfl) (by simp [Value.oneCell'])
 exact asSetRun (asPartsF _ W) (asPartsV _ W) rfl hl (asDirect W) hst
set_option maxHeartbeats 4000000 in
set_option maxRecDepth 100000 in
theorem as_hit (a : Addr) (f x y : Int) (t : Nat) (old : Array Value) (w : World) (hg : w.cell? ⟨8, 0, none⟩ = some (.iface 220 (.agg #[.pointer (some ⟨10, 62, none⟩)]))) (ht : w.heap[t]? = some (.cells old 113 (0, 0))) (ho : old.size = 4) :
  Calls Tryz.prog 48 #[.iface 113 (.agg #[.int .i64 f, .int .i64 x, .int .i64 y, .iface 278 (.pointer (some a))]), .iface 115 (.pointer (some ⟨t, 0, none⟩))] w fun ev w' => ev = .returned (.bool true) /\ w'.heap[t]? = some (.cells #[.int .i64 f, .int .i64 x, .int .i64 y, .iface 278 (.pointer (some a))] 113 (0, 0)) /\ Frm (fun k => k = t) w w' := by
 have h6 := @run_callFunc_extern Tryz.prog 88 _ (fun args => ReflectliteValue.unpack (args.getD 0 (.tuple #[]))) Tryz.func88 (by kernel_rfl) (by kernel_rfl) (by kernel_rfl) (by kernel_rfl)
 have h7 := @run_callFunc_extern Tryz.prog 89 _ (ReflectliteValue.methodAny (ReflectliteValue.valueError "reflectlite.Value.Type" 0) (fun t _ _ _ => ReflectliteType.toType t)) Tryz.func89 (by kernel_rfl) (by kernel_rfl) (by kernel_rfl) (by kernel_rfl)
 have h8 := @run_callFunc_extern Tryz.prog 90 _ (ReflectliteValue.method (ReflectliteValue.valueError "reflectlite.Value.IsNil" 0) ReflectliteValue.isNil) Tryz.func90 (by kernel_rfl) (by kernel_rfl) (by kernel_rfl) (by kernel_rfl)
 have h27 := @run_callFunc_extern Tryz.prog 204 _ (ReflectliteType.abiMethod fun t => do pure (.int .u8 (<- Rtype.kind t))) Tryz.func204 (by kernel_rfl) (by kernel_rfl) (by kernel_rfl) (by kernel_rfl)
 have h37 := @run_callFunc_extern Tryz.prog 215 _ (ReflectliteType.method ReflectliteType.elem) Tryz.func215 (by kernel_rfl) (by kernel_rfl) (by kernel_rfl) (by kernel_rfl)
 have h38 := @run_callFunc_extern Tryz.prog 216 _ (ReflectliteType.relation "Implements" ReflectliteType.implements_) Tryz.func216 (by kernel_rfl) (by kernel_rfl) (by kernel_rfl) (by kernel_rfl)
 have h10 := @run_callFunc_extern Tryz.prog 92 _ ReflectliteType.typeOf Tryz.func92 (by kernel_rfl) (by kernel_rfl) (by kernel_rfl) (by kernel_rfl)
 have h35 := @run_callFunc_extern Tryz.prog 213 _ (ReflectliteType.relation "AssignableTo" ReflectliteType.assignableTo) Tryz.func213 (by kernel_rfl) (by kernel_rfl) (by kernel_rfl) (by kernel_rfl)
 have f6 := asValueOf
 have f7 := asType
 have mK := asMethodKind
 have mE := asMethodElem
 have mI := asMethodImplements
 have mA := asMethodAssignableTo
 have kP := asKindP
 have kF := asKindF
 have eP := asElem
 have iF := asImplements
 have h11 := @run_callFunc_extern Tryz.prog 122 _ (ReflectliteValue.method (ReflectliteValue.valueError "reflectlite.Value.Elem" 0) ReflectliteValue.elem) Tryz.func122 (by kernel_rfl) (by kernel_rfl) (by kernel_rfl) (by kernel_rfl)
 have h12 := @run_callFunc_extern Tryz.prog 123 _ ReflectliteValue.set Tryz.func123 (by kernel_rfl) (by kernel_rfl) (by kernel_rfl) (by kernel_rfl)
 have tF := asTypeOfF
 have aF := asAssignF
 have vF := asValueOfF
 have n8 := asIsNil ⟨w.heap.size, 0, none⟩ ⟨t, 0, none⟩ ((w.alloc (.cells #[.pointer (some ⟨t, 0, none⟩)] 115)).alloc (.cells #[.pointer (some ⟨10, 115, none⟩), .pointer (some ⟨w.heap.size, 0, none⟩), .int .u64 150] 168)) (by simp)
 have hlt : 8 < w.heap.size := World.block_lt_of_cell? w _ hg
 have hg2 : ((w.alloc (.cells #[.pointer (some ⟨t, 0, none⟩)] 115)).alloc (.cells #[.pointer (some ⟨10, 115, none⟩), .pointer (some ⟨w.heap.size, 0, none⟩), .int .u64 150] 168)).cell? ⟨8, 0, none⟩ = some (.iface 220 (.agg #[.pointer (some ⟨10, 62, none⟩)])) := by
  rw [World.cell?_alloc_lt _ _ ⟨8, 0, none⟩ (by simp; omega), World.cell?_alloc_lt _ _ ⟨8, 0, none⟩ hlt]; exact hg
 have el := asElemV ⟨w.heap.size, 0, none⟩ ⟨t, 0, none⟩ (((w.alloc (.cells #[.pointer (some ⟨t, 0, none⟩)] 115)).alloc (.cells #[.pointer (some ⟨10, 115, none⟩), .pointer (some ⟨w.heap.size, 0, none⟩), .int .u64 150] 168)).alloc (.cells #[.pointer (some ⟨10, 115, none⟩), .pointer (some ⟨w.heap.size, 0, none⟩), .int .u64 150] 168)) (by rw [World.cell?_alloc_lt _ _ ⟨w.heap.size, 0, none⟩ (by simp; omega)]; simp)
 obtain ⟨W4, hW4⟩ : ∃ W4, W4 = (((w.alloc (.cells #[.pointer (some ⟨t, 0, none⟩)] 115)).alloc (.cells #[.pointer (some ⟨10, 115, none⟩), .pointer (some ⟨w.heap.size, 0, none⟩), .int .u64 150] 168)).alloc (.cells #[.pointer (some ⟨10, 115, none⟩), .pointer (some ⟨w.heap.size, 0, none⟩), .int .u64 150] 168)).alloc (.cells #[.int .i64 f, .int .i64 x, .int .i64 y, .iface 278 (.pointer (some a))] 113) := ⟨_, rfl⟩
 have hB4 : Below w.heap.size w W4 := by rw [hW4]; exact ((((Below.refl _ w).alloc (Nat.le_refl _) _).alloc (by simp) _).alloc (by simp; omega) _).alloc (by simp; omega) _
 have ht4 : W4.heap[t]? = some (.cells old 113 (0, 0)) := (hB4.block _ (heap_lt ht)).trans ht
 have hn4 : W4.heap[w.heap.size + 1 + 1 + 1]? = some (.cells #[.int .i64 f, .int .i64 x, .int .i64 y, .iface 278 (.pointer (some a))] 113 (0, 0)) := by
  have := heap_alloc_last (((w.alloc (.cells #[.pointer (some ⟨t, 0, none⟩)] 115)).alloc (.cells #[.pointer (some ⟨10, 115, none⟩), .pointer (some ⟨w.heap.size, 0, none⟩), .int .u64 150] 168)).alloc (.cells #[.pointer (some ⟨10, 115, none⟩), .pointer (some ⟨w.heap.size, 0, none⟩), .int .u64 150] 168)) (.cells #[.int .i64 f, .int .i64 x, .int .i64 y, .iface 278 (.pointer (some a))] 113)
  simp only [World.size_alloc] at this
  rw [hW4]; exact this
 have st := asSet t (w.heap.size + 1 + 1 + 1) f x y a old W4 hn4 ht4 ho
 have HR : Hid ((W4.setRow t #[.int .i64 f, .int .i64 x, .int .i64 y, .iface 278 (.pointer (some a))]).heap[t]? = some (.cells #[.int .i64 f, .int .i64 x, .int .i64 y, .iface 278 (.pointer (some a))] 113 (0, 0)) /\ Frm (fun k => k = t) w (W4.setRow t #[.int .i64 f, .int .i64 x, .int .i64 y, .iface 278 (.pointer (some a))])) := ⟨setRow_heap W4 t old _ _ _ ht4, (Frm.of_below hB4).trans (frm_setRow W4 t _)⟩
 rw [hW4] at st HR
 clear hW4 hB4 ht4 hn4 hlt
 go_enter Tryz.func48, Tryz.ntmps48
 go_wp2
 refine wp_loop_rounds 1 ?_
 rw [rounds_succ]
 go_wp2
 go_ret
 exact ⟨rfl, HR.out⟩
end Go.Proofs.YtekfbphnoibnjaaGreatDoor
