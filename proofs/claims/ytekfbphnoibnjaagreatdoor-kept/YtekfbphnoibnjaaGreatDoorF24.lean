/-
  Is Errno PIsF PNum PNum2
-/
import Derived.Test.YtekfbphnoibnjaaGreatDoorF23
import Derived.Stop.Asserts
set_option maxHeartbeats 4000000
namespace Go.Proofs.YtekfbphnoibnjaaGreatDoor
section
open Go.RowKit Go.Extern.Stop Go.Stop Go.Extern
theorem isTypeOf (v:Value) (w:World):(Extern.ReflectliteType.typeOf #[.iface 278 v]).run Tryz.prog w=.ok (.iface 220 (.agg #[.pointer (some ⟨10,278,none⟩)])) w:=by kernel_rfl
def cmpEntry : Array Value -> Sem Value := Extern.ReflectliteType.method fun t => do Extern.Rtype.noPackHeld "Comparable" t; pure (.bool (<- typeInfo t).comparable)
theorem isComparable (w:World):(cmpEntry #[.agg #[.pointer (some ⟨10,278,none⟩)]]).run Tryz.prog w=.ok (.bool true) w:=by kernel_rfl
theorem isMethodComparable (v : Value) (w : World) : (Go.method 408 220 v "Comparable").run Tryz.prog w = .ok (214, v) w := by kernel_rfl
theorem isComp:(Tryz.prog.info? 278).map (·.comparable)=some true:=by kernel_rfl
theorem isSize:(Tryz.prog.info? 297).map (·.size)=some 1:=by kernel_rfl
theorem noIsE (v:Value) (xT:TypeId) (w:World):(Instr.typeAssert (.iface 278 v) xT 231 true).run Tryz.prog w=.ok (.tuple #[.nilIface,.bool false]) w:=run_typeAssert_lacksB Tryz.underlying231 (by kernel_rfl) (by kernel_rfl) v xT w
theorem noUnwrapE (v:Value) (xT:TypeId) (w:World):(Instr.typeAssert (.iface 278 v) xT 227 true).run Tryz.prog w=.ok (.tuple #[.nilIface,.bool false]) w:=run_typeAssert_lacksB Tryz.underlying227 (by kernel_rfl) (by kernel_rfl) v xT w
theorem noUnwrapsE (v:Value) (xT:TypeId) (w:World):(Instr.typeAssert (.iface 278 v) xT 228 true).run Tryz.prog w=.ok (.tuple #[.nilIface,.bool false]) w:=run_typeAssert_lacksB Tryz.underlying228 (by kernel_rfl) (by kernel_rfl) v xT w
set_option maxRecDepth 100000 in
theorem is_same (a:Addr) (w:World) :
  Calls Tryz.prog 49 #[.iface 278 (.pointer (some a)),.iface 278 (.pointer (some a))] w fun e w'=>e=.returned (.bool true)/\w'=w:=by
 obtain ⟨i,hi,hcmp⟩:=Option.map_eq_some_iff.1 isComp
 obtain ⟨j,hj,hjs⟩:=Option.map_eq_some_iff.1 isSize
 have h8:=@run_callFunc_extern Tryz.prog 92 _ Extern.ReflectliteType.typeOf Tryz.func92 (by kernel_rfl) (by kernel_rfl) (by kernel_rfl) (by kernel_rfl)
 have h32:=@run_callFunc_extern Tryz.prog 214 _ cmpEntry Tryz.func214 (by kernel_rfl) (by kernel_rfl) (by kernel_rfl) (by kernel_rfl)
 have tT:=isTypeOf
 have cT:=isComparable
 have mR:=isMethodComparable
 have heq:=run_eql_iface_ptr_same (P:=Tryz.prog) w a Tryz.underlying62 Tryz.underlying278 hi hcmp hj
 go_enter Tryz.func49,Tryz.ntmps49
 go_wp2
 refine wp_loop_rounds 1 ?_
 rw [rounds_succ]
 go_wp2
 go_ret
 exact ⟨rfl,rfl⟩
set_option maxRecDepth 100000 in
theorem is_other (a b:Addr) (ca cb:Array Value) (ta tb:TypeId) (w:World) (hne:a ≠ b) (ha:w.heap[a.block]?=some (.cells ca ta (0,0))) (hb:w.heap[b.block]?=some (.cells cb tb (0,0))) :
  Calls Tryz.prog 49 #[.iface 278 (.pointer (some a)),.iface 278 (.pointer (some b))] w fun e w'=>e=.returned (.bool false)/\w'=w:=by
 obtain ⟨i,hi,hcmp⟩:=Option.map_eq_some_iff.1 isComp
 obtain ⟨j,hj,hjs⟩:=Option.map_eq_some_iff.1 isSize
 have h8:=@run_callFunc_extern Tryz.prog 92 _ Extern.ReflectliteType.typeOf Tryz.func92 (by kernel_rfl) (by kernel_rfl) (by kernel_rfl) (by kernel_rfl)
 have h32:=@run_callFunc_extern Tryz.prog 214 _ cmpEntry Tryz.func214 (by kernel_rfl) (by kernel_rfl) (by kernel_rfl) (by kernel_rfl)
 have tT:=isTypeOf
 have cT:=isComparable
 have mR:=isMethodComparable
 have nE:=noIsE
 have uE:=noUnwrapE
 have vE:=noUnwrapsE
 have heq:=run_eql_iface_ptr_other (P:=Tryz.prog) w Tryz.underlying62 Tryz.underlying278 hi hcmp hj (by rw [hjs];decide) hne ha hb
 go_enter Tryz.func49,Tryz.ntmps49
 go_wp2
 refine wp_loop_rounds 1 ?_
 rw [rounds_succ]
 go_wp2
 go_ret
 exact ⟨rfl,rfl⟩
end
section
open Go.RowKit
theorem errV5 (a0 a1 a2:Addr):errV a0 a1 a2 5=.iface 278 (.pointer (some a0)):=by unfold errV;rw [if_neg (by decide),if_pos rfl]
theorem errV6 (a0 a1 a2:Addr):errV a0 a1 a2 6=.iface 278 (.pointer (some a1)):=by unfold errV;rw [if_neg (by decide),if_neg (by decide),if_pos rfl]
theorem errV7 (a0 a1 a2:Addr):errV a0 a1 a2 7=.iface 278 (.pointer (some a2)):=by unfold errV;rw [if_neg (by decide),if_neg (by decide),if_neg (by decide)]
theorem errV0 (a0 a1 a2:Addr):errV a0 a1 a2 0=.nilIface:=by unfold errV;rw [if_pos rfl]
theorem is_snt {w:World} {A:Nat->Addr} (E:ErrsA w A) (x y:Nat × Nat) (hx:x ∈ sntG) (hy:y ∈ sntG) (hn:x.1 ≠ y.1) :
  Calls Tryz.prog 49 #[.iface 278 (.pointer (some (A x.1))),.iface 278 (.pointer (some (A y.1)))] w fun e w'=>e=.returned (.bool false)/\w'=w:=by
 obtain ⟨c,t,h⟩:=E.h x hx
 obtain ⟨c',t',h'⟩:=E.h y hy
 exact is_other _ _ c c' t t' w (E.n x hx y hy hn) h h'
theorem pErrno4 (w:World) (A:Nat->Addr) (E:ErrsA w A) :
  Calls Tryz.prog 23 #[.iface 278 (.pointer (some (A 4)))] w fun x w'=>x=.returned (.int .i64 4)/\w'=w:=by
 have v0:=E.v (4,0) (by decide)
 clear E
 dsimp only at v0
 go_enter Tryz.func23,Tryz.ntmps23
 go_wp2_with (first
  | (go_at_call 49;refine (is_same (A 4) _).mono ?_;rintro e w' ⟨rfl,hw⟩;rw [hw];clear hw))
 go_ret
 exact ⟨rfl,rfl⟩
theorem pErrno5 (w:World) (A:Nat->Addr) (E:ErrsA w A) :
  Calls Tryz.prog 23 #[.iface 278 (.pointer (some (A 5)))] w fun x w'=>x=.returned (.int .i64 5)/\w'=w:=by
 have v0:=E.v (4,0) (by decide)
 have c0:=is_snt E (5,1) (4,0) (by decide) (by decide) (by decide)
 have T0:Hid True:=trivial
 have v1:=E.v (5,1) (by decide)
 clear E
 dsimp only at v0 v1 c0
 go_enter Tryz.func23,Tryz.ntmps23
 go_wp2_with (first
  | (clear T0;go_at_call 49;refine c0.mono ?_;rintro e w' ⟨rfl,hw⟩;rw [hw];clear hw)
  | (go_at_call 49;refine (is_same (A 5) _).mono ?_;rintro e w' ⟨rfl,hw⟩;rw [hw];clear hw))
 go_ret
 exact ⟨rfl,rfl⟩
theorem pErrno10 (w:World) (A:Nat->Addr) (E:ErrsA w A) :
  Calls Tryz.prog 23 #[.iface 278 (.pointer (some (A 10)))] w fun x w'=>x=.returned (.int .i64 10)/\w'=w:=by
 have v0:=E.v (4,0) (by decide)
 have c0:=is_snt E (10,2) (4,0) (by decide) (by decide) (by decide)
 have T0:Hid True:=trivial
 have v1:=E.v (5,1) (by decide)
 have c1:=is_snt E (10,2) (5,1) (by decide) (by decide) (by decide)
 have T1:Hid True:=trivial
 have v2:=E.v (10,2) (by decide)
 clear E
 dsimp only at v0 v1 v2 c0 c1
 go_enter Tryz.func23,Tryz.ntmps23
 go_wp2_with (first
  | (clear T0;go_at_call 49;refine c0.mono ?_;rintro e w' ⟨rfl,hw⟩;rw [hw];clear hw)
  | (clear T1;go_at_call 49;refine c1.mono ?_;rintro e w' ⟨rfl,hw⟩;rw [hw];clear hw)
  | (go_at_call 49;refine (is_same (A 10) _).mono ?_;rintro e w' ⟨rfl,hw⟩;rw [hw];clear hw))
 go_ret
 exact ⟨rfl,rfl⟩
theorem pErrno8 (w:World) (A:Nat->Addr) (E:ErrsA w A) :
  Calls Tryz.prog 23 #[.iface 278 (.pointer (some (A 8)))] w fun x w'=>x=.returned (.int .i64 8)/\w'=w:=by
 have v0:=E.v (4,0) (by decide)
 have c0:=is_snt E (8,3) (4,0) (by decide) (by decide) (by decide)
 have T0:Hid True:=trivial
 have v1:=E.v (5,1) (by decide)
 have c1:=is_snt E (8,3) (5,1) (by decide) (by decide) (by decide)
 have T1:Hid True:=trivial
 have v2:=E.v (10,2) (by decide)
 have c2:=is_snt E (8,3) (10,2) (by decide) (by decide) (by decide)
 have T2:Hid True:=trivial
 have v3:=E.v (8,3) (by decide)
 clear E
 dsimp only at v0 v1 v2 v3 c0 c1 c2
 go_enter Tryz.func23,Tryz.ntmps23
 go_wp2_with (first
  | (clear T0;go_at_call 49;refine c0.mono ?_;rintro e w' ⟨rfl,hw⟩;rw [hw];clear hw)
  | (clear T1;go_at_call 49;refine c1.mono ?_;rintro e w' ⟨rfl,hw⟩;rw [hw];clear hw)
  | (clear T2;go_at_call 49;refine c2.mono ?_;rintro e w' ⟨rfl,hw⟩;rw [hw];clear hw)
  | (go_at_call 49;refine (is_same (A 8) _).mono ?_;rintro e w' ⟨rfl,hw⟩;rw [hw];clear hw))
 go_ret
 exact ⟨rfl,rfl⟩
theorem pErrno9 (w:World) (A:Nat->Addr) (E:ErrsA w A) :
  Calls Tryz.prog 23 #[.iface 278 (.pointer (some (A 9)))] w fun x w'=>x=.returned (.int .i64 9)/\w'=w:=by
 have v0:=E.v (4,0) (by decide)
 have c0:=is_snt E (9,4) (4,0) (by decide) (by decide) (by decide)
 have T0:Hid True:=trivial
 have v1:=E.v (5,1) (by decide)
 have c1:=is_snt E (9,4) (5,1) (by decide) (by decide) (by decide)
 have T1:Hid True:=trivial
 have v2:=E.v (10,2) (by decide)
 have c2:=is_snt E (9,4) (10,2) (by decide) (by decide) (by decide)
 have T2:Hid True:=trivial
 have v3:=E.v (8,3) (by decide)
 have c3:=is_snt E (9,4) (8,3) (by decide) (by decide) (by decide)
 have T3:Hid True:=trivial
 have v4:=E.v (9,4) (by decide)
 clear E
 dsimp only at v0 v1 v2 v3 v4 c0 c1 c2 c3
 go_enter Tryz.func23,Tryz.ntmps23
 go_wp2_with (first
  | (clear T0;go_at_call 49;refine c0.mono ?_;rintro e w' ⟨rfl,hw⟩;rw [hw];clear hw)
  | (clear T1;go_at_call 49;refine c1.mono ?_;rintro e w' ⟨rfl,hw⟩;rw [hw];clear hw)
  | (clear T2;go_at_call 49;refine c2.mono ?_;rintro e w' ⟨rfl,hw⟩;rw [hw];clear hw)
  | (clear T3;go_at_call 49;refine c3.mono ?_;rintro e w' ⟨rfl,hw⟩;rw [hw];clear hw)
  | (go_at_call 49;refine (is_same (A 9) _).mono ?_;rintro e w' ⟨rfl,hw⟩;rw [hw];clear hw))
 go_ret
 exact ⟨rfl,rfl⟩
theorem pErrno2 (w:World) (A:Nat->Addr) (E:ErrsA w A) :
  Calls Tryz.prog 23 #[.iface 278 (.pointer (some (A 2)))] w fun x w'=>x=.returned (.int .i64 2)/\w'=w:=by
 have v0:=E.v (4,0) (by decide)
 have c0:=is_snt E (2,5) (4,0) (by decide) (by decide) (by decide)
 have T0:Hid True:=trivial
 have v1:=E.v (5,1) (by decide)
 have c1:=is_snt E (2,5) (5,1) (by decide) (by decide) (by decide)
 have T1:Hid True:=trivial
 have v2:=E.v (10,2) (by decide)
 have c2:=is_snt E (2,5) (10,2) (by decide) (by decide) (by decide)
 have T2:Hid True:=trivial
 have v3:=E.v (8,3) (by decide)
 have c3:=is_snt E (2,5) (8,3) (by decide) (by decide) (by decide)
 have T3:Hid True:=trivial
 have v4:=E.v (9,4) (by decide)
 have c4:=is_snt E (2,5) (9,4) (by decide) (by decide) (by decide)
 have T4:Hid True:=trivial
 have v5:=E.v (2,5) (by decide)
 clear E
 dsimp only at v0 v1 v2 v3 v4 v5 c0 c1 c2 c3 c4
 go_enter Tryz.func23,Tryz.ntmps23
 go_wp2_with (first
  | (clear T0;go_at_call 49;refine c0.mono ?_;rintro e w' ⟨rfl,hw⟩;rw [hw];clear hw)
  | (clear T1;go_at_call 49;refine c1.mono ?_;rintro e w' ⟨rfl,hw⟩;rw [hw];clear hw)
  | (clear T2;go_at_call 49;refine c2.mono ?_;rintro e w' ⟨rfl,hw⟩;rw [hw];clear hw)
  | (clear T3;go_at_call 49;refine c3.mono ?_;rintro e w' ⟨rfl,hw⟩;rw [hw];clear hw)
  | (clear T4;go_at_call 49;refine c4.mono ?_;rintro e w' ⟨rfl,hw⟩;rw [hw];clear hw)
  | (go_at_call 49;refine (is_same (A 2) _).mono ?_;rintro e w' ⟨rfl,hw⟩;rw [hw];clear hw))
 go_ret
 exact ⟨rfl,rfl⟩
theorem pErrno6 (w:World) (A:Nat->Addr) (E:ErrsA w A) :
  Calls Tryz.prog 23 #[.iface 278 (.pointer (some (A 6)))] w fun x w'=>x=.returned (.int .i64 6)/\w'=w:=by
 have v0:=E.v (4,0) (by decide)
 have c0:=is_snt E (6,6) (4,0) (by decide) (by decide) (by decide)
 have T0:Hid True:=trivial
 have v1:=E.v (5,1) (by decide)
 have c1:=is_snt E (6,6) (5,1) (by decide) (by decide) (by decide)
 have T1:Hid True:=trivial
 have v2:=E.v (10,2) (by decide)
 have c2:=is_snt E (6,6) (10,2) (by decide) (by decide) (by decide)
 have T2:Hid True:=trivial
 have v3:=E.v (8,3) (by decide)
 have c3:=is_snt E (6,6) (8,3) (by decide) (by decide) (by decide)
 have T3:Hid True:=trivial
 have v4:=E.v (9,4) (by decide)
 have c4:=is_snt E (6,6) (9,4) (by decide) (by decide) (by decide)
 have T4:Hid True:=trivial
 have v5:=E.v (2,5) (by decide)
 have c5:=is_snt E (6,6) (2,5) (by decide) (by decide) (by decide)
 have T5:Hid True:=trivial
 have v6:=E.v (6,6) (by decide)
 clear E
 dsimp only at v0 v1 v2 v3 v4 v5 v6 c0 c1 c2 c3 c4 c5
 go_enter Tryz.func23,Tryz.ntmps23
 go_wp2_with (first
  | (clear T0;go_at_call 49;refine c0.mono ?_;rintro e w' ⟨rfl,hw⟩;rw [hw];clear hw)
  | (clear T1;go_at_call 49;refine c1.mono ?_;rintro e w' ⟨rfl,hw⟩;rw [hw];clear hw)
  | (clear T2;go_at_call 49;refine c2.mono ?_;rintro e w' ⟨rfl,hw⟩;rw [hw];clear hw)
  | (clear T3;go_at_call 49;refine c3.mono ?_;rintro e w' ⟨rfl,hw⟩;rw [hw];clear hw)
  | (clear T4;go_at_call 49;refine c4.mono ?_;rintro e w' ⟨rfl,hw⟩;rw [hw];clear hw)
  | (clear T5;go_at_call 49;refine c5.mono ?_;rintro e w' ⟨rfl,hw⟩;rw [hw];clear hw)
  | (go_at_call 49;refine (is_same (A 6) _).mono ?_;rintro e w' ⟨rfl,hw⟩;rw [hw];clear hw))
 go_ret
 exact ⟨rfl,rfl⟩
theorem pErrno7 (w:World) (A:Nat->Addr) (E:ErrsA w A) :
  Calls Tryz.prog 23 #[.iface 278 (.pointer (some (A 7)))] w fun x w'=>x=.returned (.int .i64 7)/\w'=w:=by
 have v0:=E.v (4,0) (by decide)
 have c0:=is_snt E (7,7) (4,0) (by decide) (by decide) (by decide)
 have T0:Hid True:=trivial
 have v1:=E.v (5,1) (by decide)
 have c1:=is_snt E (7,7) (5,1) (by decide) (by decide) (by decide)
 have T1:Hid True:=trivial
 have v2:=E.v (10,2) (by decide)
 have c2:=is_snt E (7,7) (10,2) (by decide) (by decide) (by decide)
 have T2:Hid True:=trivial
 have v3:=E.v (8,3) (by decide)
 have c3:=is_snt E (7,7) (8,3) (by decide) (by decide) (by decide)
 have T3:Hid True:=trivial
 have v4:=E.v (9,4) (by decide)
 have c4:=is_snt E (7,7) (9,4) (by decide) (by decide) (by decide)
 have T4:Hid True:=trivial
 have v5:=E.v (2,5) (by decide)
 have c5:=is_snt E (7,7) (2,5) (by decide) (by decide) (by decide)
 have T5:Hid True:=trivial
 have v6:=E.v (6,6) (by decide)
 have c6:=is_snt E (7,7) (6,6) (by decide) (by decide) (by decide)
 have T6:Hid True:=trivial
 clear E
 dsimp only at v0 v1 v2 v3 v4 v5 v6 c0 c1 c2 c3 c4 c5 c6
 go_enter Tryz.func23,Tryz.ntmps23
 go_wp2_with (first
  | (clear T0;go_at_call 49;refine c0.mono ?_;rintro e w' ⟨rfl,hw⟩;rw [hw];clear hw)
  | (clear T1;go_at_call 49;refine c1.mono ?_;rintro e w' ⟨rfl,hw⟩;rw [hw];clear hw)
  | (clear T2;go_at_call 49;refine c2.mono ?_;rintro e w' ⟨rfl,hw⟩;rw [hw];clear hw)
  | (clear T3;go_at_call 49;refine c3.mono ?_;rintro e w' ⟨rfl,hw⟩;rw [hw];clear hw)
  | (clear T4;go_at_call 49;refine c4.mono ?_;rintro e w' ⟨rfl,hw⟩;rw [hw];clear hw)
  | (clear T5;go_at_call 49;refine c5.mono ?_;rintro e w' ⟨rfl,hw⟩;rw [hw];clear hw)
  | (clear T6;go_at_call 49;refine c6.mono ?_;rintro e w' ⟨rfl,hw⟩;rw [hw];clear hw))
 go_ret
 exact ⟨rfl,rfl⟩
theorem pErrnoA (w:World) (A:Nat->Addr) (E:ErrsA w A) (x:Nat × Nat) (hx:x ∈ sntG) :
  Calls Tryz.prog 23 #[.iface 278 (.pointer (some (A x.1)))] w fun e w'=>e=.returned (.int .i64 x.1)/\w'=w:=by
 simp only [sntG,List.mem_cons,List.not_mem_nil,or_false] at hx
 rcases hx with rfl|rfl|rfl|rfl|rfl|rfl|rfl|rfl
 ·exact pErrno5 w A E
 ·exact pErrno7 w A E
 ·exact pErrno6 w A E
 ·exact pErrno8 w A E
 ·exact pErrno4 w A E
 ·exact pErrno2 w A E
 ·exact pErrno9 w A E
 ·exact pErrno10 w A E
end
section
open Go.RowKit Go.Extern.Stop Go.Stop Go.Extern
theorem fltMethodUnwrap (v : Value) (w : World) : (Go.method 408 113 v "Unwrap").run Tryz.prog w = .ok (208, v) w := by kernel_rfl
theorem noIsF (v:Value) (xT:TypeId) (w:World):(Instr.typeAssert (.iface 113 v) xT 231 true).run Tryz.prog w=.ok (.tuple #[.nilIface,.bool false]) w:=run_typeAssert_lacksB Tryz.underlying231 (by kernel_rfl) (by kernel_rfl) v xT w
theorem hasUnwrapF (v:Value) (xT:TypeId) (w:World):(Instr.typeAssert (.iface 113 v) xT 227 true).run Tryz.prog w=.ok (.tuple #[.iface 113 v,.bool true]) w:=run_typeAssert_hasB Tryz.underlying227 (by kernel_rfl) v xT w
set_option maxRecDepth 100000 in
theorem is_flt_same (a:Addr) (f x y:Int) (w:World) :
  Calls Tryz.prog 49 #[.iface 113 (.agg #[.int .i64 f,.int .i64 x,.int .i64 y,.iface 278 (.pointer (some a))]),.iface 278 (.pointer (some a))] w fun e w'=>e=.returned (.bool true)/\Below w.heap.size w w':=by
 obtain ⟨i,hi,hcmp⟩:=Option.map_eq_some_iff.1 isComp
 obtain ⟨j,hj,hjs⟩:=Option.map_eq_some_iff.1 isSize
 have h8:=@run_callFunc_extern Tryz.prog 92 _ Extern.ReflectliteType.typeOf Tryz.func92 (by kernel_rfl) (by kernel_rfl) (by kernel_rfl) (by kernel_rfl)
 have h32:=@run_callFunc_extern Tryz.prog 214 _ cmpEntry Tryz.func214 (by kernel_rfl) (by kernel_rfl) (by kernel_rfl) (by kernel_rfl)
 have tT:=isTypeOf
 have cT:=isComparable
 have mR:=isMethodComparable
 have mU:=fltMethodUnwrap
 have nF:=noIsF
 have uF:=hasUnwrapF
 have heq:=fun w=>run_eql_iface_ptr_same (P:=Tryz.prog) w a Tryz.underlying62 Tryz.underlying278 hi hcmp hj
 have hdf:=fun v w=>run_eql_iface_types (P:=Tryz.prog) 113 278 v (.pointer (some a)) Tryz.underlying62 (by decide) w
 go_enter Tryz.func49,Tryz.ntmps49
 go_wp2
 refine wp_loop_rounds 2 ?_
 rw [rounds_succ]
 go_wp2
 rw [rounds_succ]
 go_wp2
 go_ret
 exact ⟨rfl,(Below.refl _ w).alloc (Nat.le_refl _) _⟩
set_option maxRecDepth 100000 in
theorem is_flt_other (a b:Addr) (ca cb:Array Value) (ta tb:TypeId) (f x y:Int) (w:World) (hne:a ≠ b) (ha:w.heap[a.block]?=some (.cells ca ta (0,0))) (hb:w.heap[b.block]?=some (.cells cb tb (0,0))) :
  Calls Tryz.prog 49 #[.iface 113 (.agg #[.int .i64 f,.int .i64 x,.int .i64 y,.iface 278 (.pointer (some a))]),.iface 278 (.pointer (some b))] w fun e w'=>e=.returned (.bool false)/\Below w.heap.size w w':=by
 obtain ⟨i,hi,hcmp⟩:=Option.map_eq_some_iff.1 isComp
 obtain ⟨j,hj,hjs⟩:=Option.map_eq_some_iff.1 isSize
 have h8:=@run_callFunc_extern Tryz.prog 92 _ Extern.ReflectliteType.typeOf Tryz.func92 (by kernel_rfl) (by kernel_rfl) (by kernel_rfl) (by kernel_rfl)
 have h32:=@run_callFunc_extern Tryz.prog 214 _ cmpEntry Tryz.func214 (by kernel_rfl) (by kernel_rfl) (by kernel_rfl) (by kernel_rfl)
 have tT:=isTypeOf
 have cT:=isComparable
 have mR:=isMethodComparable
 have mU:=fltMethodUnwrap
 have nF:=noIsF
 have uF:=hasUnwrapF
 have nE:=noIsE
 have uE:=noUnwrapE
 have vE:=noUnwrapsE
 obtain ⟨W,hW⟩:∃ W,W=w.alloc (.cells #[.int .i64 f,.int .i64 x,.int .i64 y,.iface 278 (.pointer (some a))] 113):=⟨_,rfl⟩
 have hB:Below w.heap.size w W:=by rw [hW];exact (Below.refl _ w).alloc (Nat.le_refl _) _
 have heq:=run_eql_iface_ptr_other (P:=Tryz.prog) W Tryz.underlying62 Tryz.underlying278 hi hcmp hj (by rw [hjs];decide) hne ((hB.block _ (heap_lt ha)).trans ha) ((hB.block _ (heap_lt hb)).trans hb)
 have hdf:=fun v w=>run_eql_iface_types (P:=Tryz.prog) 113 278 v (.pointer (some b)) Tryz.underlying62 (by decide) w
 rw [hW] at heq
 clear hW hB
 go_enter Tryz.func49,Tryz.ntmps49
 go_wp2
 refine wp_loop_rounds 2 ?_
 rw [rounds_succ]
 go_wp2
 rw [rounds_succ]
 go_wp2
 go_ret
 exact ⟨rfl,(Below.refl _ w).alloc (Nat.le_refl _) _⟩
end
section
open Go.RowKit
structure ErrsL (w:World) (A:Nat->Addr) (L:Nat):Prop where
 v:∀ x ∈ sntG,x.2<L/\w.cell? ⟨x.2,0,none⟩=some (.iface 278 (.pointer (some (A x.1))))
 h:∀ x ∈ sntG,(A x.1).block<L/\∃ c t,w.heap[(A x.1).block]?=some (.cells c t (0,0))
 n:∀ x ∈ sntG,∀ y ∈ sntG,x.1 ≠ y.1->A x.1 ≠ A y.1
theorem ErrsA.low {w:World} {A:Nat->Addr} (h:ErrsA w A):ErrsL w A w.heap.size :=
 ⟨fun x hx=>⟨World.block_lt_of_cell? w _ (h.v x hx),h.v x hx⟩,fun x hx=>by
  obtain ⟨c,t,e⟩:=h.h x hx
  exact ⟨heap_lt e,c,t,e⟩,h.n⟩
theorem ErrsL.all {w:World} {A:Nat->Addr} {L:Nat} (h:ErrsL w A L):ErrsA w A:=⟨fun x hx=>(h.v x hx).2,fun x hx=>(h.h x hx).2,h.n⟩
theorem ErrsL.below {w w':World} {A:Nat->Addr} {L:Nat} (h:ErrsL w A L) (f:Below L w w'):ErrsL w' A L :=
 ⟨fun x hx=>⟨(h.v x hx).1,(f.cell (p:=⟨x.2,0,none⟩) (h.v x hx).1).trans (h.v x hx).2⟩,fun x hx=>by
  obtain ⟨hl,c,t,e⟩:=h.h x hx
  exact ⟨hl,c,t,(f.block _ hl).trans e⟩,h.n⟩
def errA (A:Nat->Addr) (e:Int):Value:=if e=0 then .nilIface else .iface 278 (.pointer (some (A e.toNat)))
theorem errA_zero (A:Nat->Addr):errA A 0=.nilIface:=rfl
theorem errA_pos (A:Nat->Addr) {e:Int} (h:e ≠ 0):errA A e=.iface 278 (.pointer (some (A e.toNat))):=by unfold errA;rw [if_neg h]
def numRet (A:Nat->Addr) (v e:Int):Ending:=.returned (.tuple #[.int .i64 (if e=0 then v else 0),errA A e])
theorem numRet_good (A:Nat->Addr) (v:Int) {e:Int} (h:e=0):numRet A v e=.returned (.tuple #[.int .i64 v,.nilIface]):=by subst h;rfl
theorem numRet_bad (A:Nat->Addr) (v:Int) {e:Int} (h:e ≠ 0):numRet A v e=.returned (.tuple #[.int .i64 0,.iface 278 (.pointer (some (A e.toNat)))]):=by
 unfold numRet;rw [if_neg h,errA_pos A h]
def numAt (w':World) (b:Nat) (s:ByteArray) (q:RS):Prop:=q.err=0->PR w' b s q
namespace Rdr
theorem norm_errs {s:ByteArray} {r:RS} (he:r.err=0):(norm s r).err=0 \/ (norm s r).err=5:=by
 unfold norm
 split
 ·unfold pull octS
  split
  ·exact .inl he
  ·right;simp
 ·exact .inl he
theorem bitS_errs {s:ByteArray} {r:RS} {k:Nat} (he:r.err=0):(bitS s r k).err=0 \/ (bitS s r k).err=5:=by
 rw [bitS_err he]
 apply norm_errs
 split <;> exact he
theorem fail_of {r:RS} {e:Int} (he:r.err ≠ 0):fail r e=r:=by unfold fail;rw [if_neg he]
theorem fail_zero {r:RS} {e:Int} (he:r.err=0):(fail r e).err=e:=by unfold fail;rw [if_pos he]
theorem run_off {s:ByteArray} {k f n:Nat} {r:RS} (he:r.err ≠ 0):run s k f n r=(n,r):=by
 cases f with
 | zero=>rfl
 | succ f=>unfold run;rw [if_neg he]
theorem run_bad {s:ByteArray} {k f n:Nat} {r:RS} (he:r.err=0) (hb:(bitS s r (k+n)).err ≠ 0):(run s k (f+1) n r).2.err=(bitS s r (k+n)).err:=by
 unfold run
 rw [if_pos he]
 split
 ·rfl
 ·rw [fail_of hb,ite_self,run_off hb]
theorem run_stop {s:ByteArray} {k f n:Nat} {r:RS} (he:r.err=0) (hv:bitV r (k+n)=0):run s k (f+1) n r=(n,bitS s r (k+n)):=by
 rw [run];rw [if_pos he,if_pos hv]
theorem run_ten {s:ByteArray} {k f:Nat} {r:RS} (he:r.err=0) (hv:bitV r (k+9)=1) (hb:(bitS s r (k+9)).err=0):(run s k (f+1) 9 r).2.err=8:=by
 rw [run];rw [if_pos he,if_neg (by omega),if_pos rfl,run_off (by rw [fail_zero hb];decide)]
 exact fail_zero hb
theorem run_on {s:ByteArray} {k f n:Nat} {r:RS} (he:r.err=0) (hv:bitV r (k+n)=1) (hn:n<9):run s k (f+1) n r=run s k f (n+1) (bitS s r (k+n)):=by
 rw [run];rw [if_pos he,if_neg (by omega),if_neg (by omega)]
theorem lows_off {s:ByteArray} {k f:Nat} {d u:Int} {r:RS} (he:r.err ≠ 0):lows s k f d u r=(d,u,r):=by
 cases f with
 | zero=>rfl
 | succ f=>unfold lows;rw [if_neg he]
end Rdr
theorem pBitA (w:World) (b L:Nat) (s:ByteArray) (r:RS) (k:Nat) (A:Nat->Addr) (h:PR w b s r) (ok:Rdr.Ok s r) (he:r.err=0) (hs:s.size<=maxLen) (hk:k<400) (hL:L<=b) (E:ErrsL w A L) :
  Calls Tryz.prog 129 #[.pointer (some ⟨b,0,none⟩),.int .i64 k] w fun x w'=>x=.returned (.tuple #[.int .i64 (if (Rdr.bitS s r k).err=0 then Rdr.bitV r k else 0),errA A (Rdr.bitS s r k).err])/\((Rdr.bitS s r k).err=0->PR w' b s (Rdr.bitS s r k))/\Frm (oneS b) w w':=by
 obtain ⟨hl,hv⟩:=E.v (5,1) (by decide)
 refine (pBit w b s r k (A 5) (A 6) (A 7) h ok he hs hk (by intro e;rw [e] at hL;exact absurd hL (Nat.not_le.2 hl)) hv).mono ?_
 rintro x w' ⟨rfl,h1,h2⟩
 refine ⟨?_,h1,h2⟩
 congr 3
 rcases Rdr.bitS_errs (s:=s) (k:=k) he with e|e <;> rw [e] <;> rfl
theorem pBit_good (w:World) (b L:Nat) (s:ByteArray) (r:RS) (k:Nat) (A:Nat->Addr) (h:PR w b s r) (ok:Rdr.Ok s r) (he:r.err=0) (hs:s.size<=maxLen) (hk:k<400) (hL:L<=b) (E:ErrsL w A L) (hb:(Rdr.bitS s r k).err=0) :
  Calls Tryz.prog 129 #[.pointer (some ⟨b,0,none⟩),.int .i64 k] w fun x w'=>x=.returned (.tuple #[.int .i64 (Rdr.bitV r k),.nilIface])/\PR w' b s (Rdr.bitS s r k)/\Frm (oneS b) w w':=by
 refine (pBitA w b L s r k A h ok he hs hk hL E).mono ?_
 rintro x w' ⟨rfl,h1,h2⟩
 refine ⟨?_,h1 hb,h2⟩
 rw [hb,if_pos rfl,errA_zero]
theorem pBit_bad (w:World) (b L:Nat) (s:ByteArray) (r:RS) (k:Nat) (A:Nat->Addr) (h:PR w b s r) (ok:Rdr.Ok s r) (he:r.err=0) (hs:s.size<=maxLen) (hk:k<400) (hL:L<=b) (E:ErrsL w A L) (hb:(Rdr.bitS s r k).err=5) :
  Calls Tryz.prog 129 #[.pointer (some ⟨b,0,none⟩),.int .i64 k] w fun x w'=>x=.returned (.tuple #[.int .i64 0,.iface 278 (.pointer (some (A 5)))])/\Frm (oneS b) w w':=by
 refine (pBitA w b L s r k A h ok he hs hk hL E).mono ?_
 rintro x w' ⟨rfl,h1,h2⟩
 refine ⟨?_,h2⟩
 rw [hb,if_neg (by decide),errA_pos A (by decide)]
 rfl
set_option maxRecDepth 20000 in
theorem pOnes (w:World) (b L:Nat) (s:ByteArray) (r:RS) (k:Nat) (A:Nat->Addr) (h:PR w b s r) (ok:Rdr.Ok s r) (he:r.err=0) (hs:s.size<=maxLen) (hk:k+22<=400) (hL:L<=b) (hLw:L<=w.heap.size) (E:ErrsL w A L) :
  Calls Tryz.prog 181 #[.pointer (some ⟨b,0,none⟩),.int .i64 k] w fun x w'=>x=numRet A (Rdr.run s k 11 0 r).1 (Rdr.run s k 11 0 r).2.err/\numAt w' b s (Rdr.run s k 11 0 r).2/\Frm (oneS b) w w':=by
 obtain ⟨RR,hRR⟩:∃ RR,RR=Rdr.run s k 11 0 r:=⟨_,rfl⟩
 rw [<- hRR]
 have HRR:Hid (RR=Rdr.run s k 11 0 r):=hRR
 have H:Hid (PR w b s r/\Rdr.Ok s r/\r.err=0):=⟨h,ok,he⟩
 have HE:Hid (ErrsL w A L):=E
 clear h ok he E hRR
 go_enter Tryz.func181,Tryz.ntmps181
 go_wp2_with fail
 go_loopw [6] (fun iv wr=>∃ (n f:Nat) (q:RS),iv=.int .i64 n/\f+n=11/\n<=9/\Rdr.run s k f n q=RR/\PR wr b s q/\Rdr.Ok s q/\q.err=0/\Frm (oneS b) w wr) (fun iv _=>11-(intOf iv).toNat)
 case atStart=>exact ⟨0,11,r,rfl,rfl,by omega,HRR.out.symm,H.out.1,H.out.2.1,H.out.2.2,Frm.refl _ _⟩
 case round =>
  clear H
  obtain ⟨n,f,q,rfl,hfn,hn,hrun,hq,hok,hqe,hfr⟩:=hrel
  obtain ⟨f',rfl⟩:∃ f',f=f'+1:=⟨f-1,by omega⟩
  have hbl:Below L w wr:=hfr.below hLw (fun j e=>by rw [show j=b from e];exact hL)
  have E1:=HE.out.below hbl
  have hok1:=hok.bitS (k:=k+n) (by omega)
  have HRUN:Hid (Rdr.run s k (f'+1) n q=RR):=hrun
  have HQ:Hid (q.err=0):=hqe
  have HFR:Hid (Frm (oneS b) w wr):=hfr
  have HOK1:Hid (Rdr.Ok s (Rdr.bitS s q (k+n))):=hok1
  have HE1:Hid (ErrsL wr A L):=E1
  rcases Rdr.bitS_errs (s:=s) (k:=k+n) hqe with hbe|hbe
  ·have HBE:Hid ((Rdr.bitS s q (k+n)).err=0):=hbe
   have HB:=pBit_good wr b L s q (k+n) A hq hok hqe hs (by omega) hL E1 hbe
   rw [Int.natCast_add] at HB
   rcases Rdr.bitV_cases q (k+n) with hv|hv
   ·have HV:Hid (Rdr.bitV q (k+n)=0):=hv
    rw [hv] at HB
    have HBH:Hid (Calls Tryz.prog 129 #[.pointer (some ⟨b,0,none⟩),.int .i64 ((k:Int)+n)] wr fun x w'=>x=.returned (.tuple #[.int .i64 0,.nilIface])/\PR w' b s (Rdr.bitS s q (k+n))/\Frm (oneS b) wr w'):=HB
    clear HB hv hbe hrun hqe hfr hok hok1 hq E1 hbl
    go_wp2_with (go_at_call 129;refine HBH.out.mono ?_;rintro x w1 ⟨rfl,h1,f1⟩)
    go_ret2
    rw [<- HRUN.out,Rdr.run_stop HQ.out HV.out]
    rw [numRet_good A _ HBE.out]
    exact ⟨rfl,fun _=>h1,HFR.out.trans f1⟩
   ·have HV:Hid (Rdr.bitV q (k+n)=1):=hv
    rw [hv] at HB
    have HBH:Hid (Calls Tryz.prog 129 #[.pointer (some ⟨b,0,none⟩),.int .i64 ((k:Int)+n)] wr fun x w'=>x=.returned (.tuple #[.int .i64 1,.nilIface])/\PR w' b s (Rdr.bitS s q (k+n))/\Frm (oneS b) wr w'):=HB
    clear HB hv hbe hrun hqe hfr hok hok1 hq E1 hbl
    by_cases h9:n=9
    ·subst h9
     go_wp2_with (go_at_call 129;refine HBH.out.mono ?_;rintro x w1 ⟨rfl,h1,f1⟩;have e8:=((HE1.out.below (f1.below (by have:=HFR.out.size;omega) (fun j e=>by rw [show j=b from e];exact hL))).v (8,3) (by decide)).2)
     go_region
     go_wp2
     go_ret2
     have e8':=Rdr.run_ten (f:=f') HQ.out HV.out HBE.out
     rw [HRUN.out] at e8'
     rw [numRet_bad A _ (by rw [e8'];decide),e8']
     exact ⟨rfl,fun h=>absurd h (by rw [e8'];decide),(HFR.out.trans f1).drewN 1⟩
    ·have hn9:((n:Int) == 9)=false:=by simp;omega
     go_wp2_with (go_at_call 129;refine HBH.out.mono ?_;rintro x w1 ⟨rfl,h1,f1⟩)
     go_roundw
     case rel=>exact ⟨n+1,f',_,by go_num,by omega,by omega,by rw [<- HRUN.out,Rdr.run_on HQ.out HV.out (by omega)],h1,HOK1.out,HBE.out,HFR.out.trans f1⟩
     case measure=>simp [intOf];omega
  ·have HBE:Hid ((Rdr.bitS s q (k+n)).err=5):=hbe
   have HB:=pBit_bad wr b L s q (k+n) A hq hok hqe hs (by omega) hL E1 hbe
   rw [Int.natCast_add] at HB
   have HBH:Hid (Calls Tryz.prog 129 #[.pointer (some ⟨b,0,none⟩),.int .i64 ((k:Int)+n)] wr fun x w'=>x=.returned (.tuple #[.int .i64 0,.iface 278 (.pointer (some (A 5)))])/\Frm (oneS b) wr w'):=HB
   clear HB hbe hrun hqe hfr hok hok1 hq E1 hbl
   go_wp2_with (go_at_call 129;refine HBH.out.mono ?_;rintro x w1 ⟨rfl,f1⟩)
   go_ret2
   have e5:=Rdr.run_bad (f:=f') HQ.out (by rw [HBE.out];decide)
   rw [HRUN.out,HBE.out] at e5
   rw [numRet_bad A _ (by rw [e5];decide),e5]
   exact ⟨rfl,fun h=>absurd h (by rw [e5];decide),HFR.out.trans f1⟩
end
section
open Go.RowKit
namespace Rdr
theorem run_le {s:ByteArray} {k:Nat} {r:RS} (hk:k+22<=400) (ok:Ok s r) (he:(run s k 11 0 r).2.err=0):(run s k 11 0 r).1<=9:=by
 obtain ⟨_,_,h⟩:=run_ok (s:=s) hk 11 0 r rfl (by omega) ok
 rcases h he with h|h
 ·exact h
 ·omega
theorem number_of {s:ByteArray} {k:Nat} {r:RS} {n:Nat} {q:RS} (h:run s k 11 0 r=(n,q)):number s r k=((lows s (k+12+n) n 0 1 q).2.1+(lows s (k+12+n) n 0 1 q).1-1,(lows s (k+12+n) n 0 1 q).2.2):=by
 unfold number;rw [h]
end Rdr
theorem i64_or_nat (a b:Nat) (ha:a<4611686018427387904) (hb:b<4611686018427387904):bits .or .i64 (a:Int) (b:Int)=((a ||| b:Nat):Int):=by
 have hx:a ||| b<2 ^ 62:=Nat.or_lt_two_pow (by omega) (by omega)
 show IntKind.i64.wrap ((BitVec.ofInt 64 (a:Int) ||| BitVec.ofInt 64 (b:Int)).toNat:Int)=_
 rw [BitVec.toNat_or,ofInt_u64 a (by omega),ofInt_u64 b (by omega)]
 simp [IntKind.wrap,IntKind.bits,IntKind.signed]
 omega
theorem or_digit (M v:Int) (h0:0<=M) (h1:M<=100000) (hv:v=0 \/ v=1):bits .or .i64 (M*2) v=2*M+v:=by
 obtain ⟨m,rfl⟩:=Int.eq_ofNat_of_zero_le h0
 obtain ⟨x,rfl,hx⟩:∃ x:Nat,v=x/\x<2:=by
  rcases hv with rfl|rfl
  ·exact ⟨0,rfl,by decide⟩
  ·exact ⟨1,rfl,by decide⟩
 rw [show ((m:Int)*2)=((m*2:Nat):Int) by simp,i64_or_nat (m*2) x (by omega) (by omega)]
 have h:=Nat.two_pow_add_eq_or_of_lt (i:=1) (b:=x) (by omega) m
 rw [show m*2=2 ^ 1*m by omega,<- h]
 omega
set_option maxRecDepth 20000 in
theorem pNumber (w:World) (b L:Nat) (s:ByteArray) (r:RS) (k:Nat) (A:Nat->Addr) (h:PR w b s r) (ok:Rdr.Ok s r) (he:r.err=0) (hs:s.size<=maxLen) (hk:k+22<=400) (hL:L<=b) (hLw:L<=w.heap.size) (E:ErrsL w A L) :
  Calls Tryz.prog 167 #[.pointer (some ⟨b,0,none⟩),.int .i64 k] w fun x w'=>x=numRet A (Rdr.number s r k).1 (Rdr.number s r k).2.err/\numAt w' b s (Rdr.number s r k).2/\Frm (oneS b) w w':=by
 obtain ⟨n,q,hrun⟩:∃ n q,Rdr.run s k 11 0 r=(n,q):=⟨_,_,rfl⟩
 have HO:=pOnes w b L s r k A h ok he hs hk hL hLw E
 have hnum:=Rdr.number_of hrun
 rw [hrun] at HO
 have hqok:Rdr.Ok s q:=by have:=(Rdr.run_ok (s:=s) hk 11 0 r rfl (by omega) ok).1;rw [hrun] at this;exact this
 have hn9:q.err=0->n<=9:=fun e=>by have:=Rdr.run_le hk ok (by rw [hrun];exact e);rw [hrun] at this;exact this
 dsimp only at HO
 obtain ⟨NN,hNN⟩:∃ NN,NN=Rdr.number s r k:=⟨_,rfl⟩
 rw [<- hNN] at hnum ⊢
 have HNUM:Hid (NN=((Rdr.lows s (k+12+n) n 0 1 q).2.1+(Rdr.lows s (k+12+n) n 0 1 q).1-1,(Rdr.lows s (k+12+n) n 0 1 q).2.2)):=hnum
 have HE:Hid (ErrsL w A L):=E
 clear h ok he E hNN hrun hnum
 by_cases hqe:q.err=0
 ·have hn:=hn9 hqe
  rw [numRet_good A _ hqe] at HO
  have HOH:Hid (Calls Tryz.prog 181 #[.pointer (some ⟨b,0,none⟩),.int .i64 k] w fun x w'=>x=.returned (.tuple #[.int .i64 n,.nilIface])/\numAt w' b s q/\Frm (oneS b) w w'):=HO
  have HQE:Hid (q.err=0):=hqe
  have HQOK:Hid (Rdr.Ok s q):=hqok
  clear HO hqe hqok hn9
  go_enter Tryz.func167,Tryz.ntmps167
  go_wp2_with (go_at_call 181;refine HOH.out.mono ?_;rintro x w1 ⟨rfl,h1,f1⟩)
  have HP1:Hid (PR w1 b s q):=h1 HQE.out
  clear h1
  go_loopw [8,21] (fun mv iv wr=>∃ (j:Nat) (D U:Int) (q':RS),mv=.int .i64 (U+D)/\iv=.int .i64 j/\j<=n/\Rdr.lows s (k+12+n) (n-j) D U q'=Rdr.lows s (k+12+n) n 0 1 q/\0<=D/\D+1<=U/\U<=2 ^ j/\PR wr b s q'/\Rdr.Ok s q'/\q'.err=0/\Frm (oneS b) w wr) (fun _ iv _=>n-(intOf iv).toNat)
  case atStart=>exact ⟨0,0,1,q,rfl,rfl,by omega,rfl,by omega,by omega,by decide,HP1.out,HQOK.out,HQE.out,f1⟩
  case round =>
   clear HP1 HQOK f1
   obtain ⟨j,D,U,q',rfl,rfl,hj,hl,d0,d1,u1,hq',hok',hqe',hfr⟩:=hrel
   have hpow:(2:Int) ^ j<=512:=by
    have:(2:Nat) ^ j<=2 ^ 9:=Nat.pow_le_pow_right (by decide) (by omega)
    exact_mod_cast this
   by_cases hjn:j<n
   ·have hjn':(j:Int)<(n:Int):=by omega
    have hbl:Below L w wr:=hfr.below hLw (fun x e=>by rw [show x=b from e];exact hL)
    have E1:=HE.out.below hbl
    have hok1:=hok'.bitS (k:=k+12+n) (by omega)
    have HL:Hid (Rdr.lows s (k+12+n) (n-j) D U q'=Rdr.lows s (k+12+n) n 0 1 q):=hl
    have HQ:Hid (q'.err=0):=hqe'
    have HFR:Hid (Frm (oneS b) w wr):=hfr
    have HOK1:Hid (Rdr.Ok s (Rdr.bitS s q' (k+12+n))):=hok1
    have hstep:Rdr.lows s (k+12+n) (n-j) D U q'=Rdr.lows s (k+12+n) (n-(j+1)) (2*D+Rdr.bitV q' (k+12+n)) (2*U) (Rdr.bitS s q' (k+12+n)):=by
     rw [show n-j=(n-(j+1))+1 by omega]
     conv=>lhs;unfold Rdr.lows
     rw [if_pos hqe']
    have HST:Hid (Rdr.lows s (k+12+n) (n-j) D U q'=Rdr.lows s (k+12+n) (n-(j+1)) (2*D+Rdr.bitV q' (k+12+n)) (2*U) (Rdr.bitS s q' (k+12+n))):=hstep
    have hp2:Hid ((2:Int) ^ (j+1)=2*2 ^ j):=by unfold Hid;rw [Int.pow_succ];omega
    rcases Rdr.bitS_errs (s:=s) (k:=k+12+n) hqe' with hbe|hbe
    ·have HBE:Hid ((Rdr.bitS s q' (k+12+n)).err=0):=hbe
     have HB:=pBit_good wr b L s q' (k+12+n) A hq' hok' hqe' hs (by omega) hL E1 hbe
     rw [Int.natCast_add,Int.natCast_add] at HB
     obtain ⟨v,hv⟩:∃ v,v=Rdr.bitV q' (k+12+n):=⟨_,rfl⟩
     have hv01:v=0 \/ v=1:=by rw [hv];exact Rdr.bitV_cases _ _
     have HV:Hid (v=Rdr.bitV q' (k+12+n)):=hv
     rw [<- hv] at HB
     have HBH:Hid (Calls Tryz.prog 129 #[.pointer (some ⟨b,0,none⟩),.int .i64 ((k:Int)+12+n)] wr fun x w'=>x=.returned (.tuple #[.int .i64 v,.nilIface])/\PR w' b s (Rdr.bitS s q' (k+12+n))/\Frm (oneS b) wr w'):=HB
     have hor:=or_digit (U+D) v (by omega) (by omega) hv01
     have HU:Hid (U<=2 ^ j):=u1
     have hU5:U<=512:=by omega
     clear HB hv hbe hl hqe' hfr hok' hok1 hq' E1 hbl hstep hpow u1
     go_wp2_with (go_at_call 129;refine HBH.out.mono ?_;rintro x w2 ⟨rfl,h2,f2⟩)
     go_roundw
     case rel =>
      refine ⟨j+1,2*D+v,2*U,_,?_,by go_num,by omega,?_,by omega,by omega,?_,h2,HOK1.out,HBE.out,HFR.out.trans f2⟩
      ·congr 1
       omega
      ·rw [<- HL.out,HST.out,HV.out]
      ·rw [hp2.out];have:=HU.out;omega
     case measure=>simp [intOf];omega
    ·have HBE:Hid ((Rdr.bitS s q' (k+12+n)).err=5):=hbe
     have HB:=pBit_bad wr b L s q' (k+12+n) A hq' hok' hqe' hs (by omega) hL E1 hbe
     rw [Int.natCast_add,Int.natCast_add] at HB
     have HBH:Hid (Calls Tryz.prog 129 #[.pointer (some ⟨b,0,none⟩),.int .i64 ((k:Int)+12+n)] wr fun x w'=>x=.returned (.tuple #[.int .i64 0,.iface 278 (.pointer (some (A 5)))])/\Frm (oneS b) wr w'):=HB
     clear HB hbe hl hqe' hfr hok' hok1 hq' E1 hbl hstep hpow u1
     go_wp2_with (go_at_call 129;refine HBH.out.mono ?_;rintro x w2 ⟨rfl,f2⟩)
     go_ret2
     have e5:NN.2.err=5:=by rw [HNUM.out,<- HL.out,HST.out,Rdr.lows_off (by rw [HBE.out];decide)];exact HBE.out
     rw [numRet_bad A _ (by rw [e5];decide),e5]
     exact ⟨rfl,fun h=>absurd h (by rw [e5];decide),HFR.out.trans f2⟩
   ·have hjn':¬ (j:Int)<(n:Int):=by omega
    obtain rfl:j=n:=by omega
    have HEND:Hid (NN=(U+D-1,q')):=by rw [HNUM.out,<- hl,Nat.sub_self];exact rfl
    have HP:Hid (PR wr b s q'/\q'.err=0/\Frm (oneS b) w wr):=⟨hq',hqe',hfr⟩
    clear hl hq' hok' hqe' hfr
    go_wp2_with fail
    go_ret2
    rw [HEND.out,numRet_good A _ HP.out.2.1]
    exact ⟨rfl,fun _=>HP.out.1,HP.out.2.2⟩
 ·rw [numRet_bad A _ hqe] at HO
  obtain ⟨ea,hea⟩:∃ ea,ea=A q.err.toNat:=⟨_,rfl⟩
  rw [<- hea] at HO
  have HEA:Hid (ea=A q.err.toNat):=hea
  have HQE:Hid (q.err ≠ 0):=hqe
  have HOH:Hid (Calls Tryz.prog 181 #[.pointer (some ⟨b,0,none⟩),.int .i64 k] w fun x w'=>x=.returned (.tuple #[.int .i64 0,.iface 278 (.pointer (some ea))])/\numAt w' b s q/\Frm (oneS b) w w'):=HO
  clear HO hea hqe hqok hn9
  go_enter Tryz.func167,Tryz.ntmps167
  go_wp2_with (go_at_call 181;refine HOH.out.mono ?_;rintro x w1 ⟨rfl,h1,f1⟩)
  go_ret2
  have he2:NN.2=q:=by rw [HNUM.out,Rdr.lows_off HQE.out]
  rw [he2,numRet_bad A _ HQE.out,<- HEA.out]
  exact ⟨rfl,h1,f1⟩
set_option maxRecDepth 20000 in
theorem pSigned (w:World) (b L:Nat) (s:ByteArray) (r:RS) (k:Nat) (A:Nat->Addr) (h:PR w b s r) (ok:Rdr.Ok s r) (he:r.err=0) (hs:s.size<=maxLen) (hk:k+22<=400) (hL:L<=b) (hLw:L<=w.heap.size) (E:ErrsL w A L) :
  Calls Tryz.prog 165 #[.pointer (some ⟨b,0,none⟩),.int .i64 k] w fun x w'=>x=numRet A (Rdr.signed s r k) (Rdr.number s r k).2.err/\numAt w' b s (Rdr.number s r k).2/\Frm (oneS b) w w':=by
 have HN:=pNumber w b L s r k A h ok he hs hk hL hLw E
 have hbd:=Rdr.number_bd (s:=s) ok hk
 obtain ⟨NN,hNN⟩:∃ NN,NN=Rdr.number s r k:=⟨_,rfl⟩
 obtain ⟨M,hM⟩:∃ M,M=NN.1:=⟨_,rfl⟩
 rw [<- hNN] at HN hbd ⊢
 rw [<- hM] at HN hbd
 have HSG:Hid (Rdr.signed s r k=if M % 2=0 then M / 2 else -((M+1) / 2)):=by
  unfold Hid Rdr.signed;rw [hM,hNN]
 clear h ok he E hNN hM
 by_cases hqe:NN.2.err=0
 ·rw [numRet_good A _ hqe] at HN
  have HQE:Hid (NN.2.err=0):=hqe
  have HNH:Hid (Calls Tryz.prog 167 #[.pointer (some ⟨b,0,none⟩),.int .i64 k] w fun x w'=>x=.returned (.tuple #[.int .i64 M,.nilIface])/\numAt w' b s NN.2/\Frm (oneS b) w w'):=HN
  clear HN hqe
  by_cases hev:M % 2=0
  ·have m0:=hbd.1
   have m1:=hbd.2
   go_enter Tryz.func165,Tryz.ntmps165
   go_wp2_with (go_at_call 167;refine HNH.out.mono ?_;rintro x w1 ⟨rfl,h1,f1⟩)
   go_ret2
   rw [HSG.out,if_pos hev,numRet_good A _ HQE.out]
   exact ⟨rfl,h1,f1⟩
  ·have m0:=hbd.1
   have m1:=hbd.2
   go_enter Tryz.func165,Tryz.ntmps165
   go_wp2_with (go_at_call 167;refine HNH.out.mono ?_;rintro x w1 ⟨rfl,h1,f1⟩)
   go_ret2
   rw [HSG.out,if_neg hev,numRet_good A _ HQE.out]
   refine ⟨?_,h1,f1⟩
   show Ending.returned (.tuple #[Value.int IntKind.i64 (wrap64 (-(M+1).tdiv 2)),.nilIface])=_
   have e:wrap64 (-((M+1) / 2))=-((M+1) / 2):=by unfold wrap64;omega
   rw [Int.tdiv_eq_ediv_of_nonneg (by omega),e]
 ·rw [numRet_bad A _ hqe] at HN
  obtain ⟨ea,hea⟩:∃ ea,ea=A NN.2.err.toNat:=⟨_,rfl⟩
  rw [<- hea] at HN
  have HEA:Hid (ea=A NN.2.err.toNat):=hea
  have HQE:Hid (NN.2.err ≠ 0):=hqe
  have HNH:Hid (Calls Tryz.prog 167 #[.pointer (some ⟨b,0,none⟩),.int .i64 k] w fun x w'=>x=.returned (.tuple #[.int .i64 0,.iface 278 (.pointer (some ea))])/\numAt w' b s NN.2/\Frm (oneS b) w w'):=HN
  clear HN hea hqe
  go_enter Tryz.func165,Tryz.ntmps165
  go_wp2_with (go_at_call 167;refine HNH.out.mono ?_;rintro x w1 ⟨rfl,h1,f1⟩)
  go_ret2
  rw [numRet_bad A _ HQE.out,<- HEA.out]
  exact ⟨rfl,h1,f1⟩
end
end Go.Proofs.YtekfbphnoibnjaaGreatDoor
