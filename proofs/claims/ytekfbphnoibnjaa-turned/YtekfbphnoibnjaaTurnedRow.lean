/-
  Turned holds of the program at this commit: for every pixel and every three numbers the law answers true and leaves its arguments as they were, with no condition.
-/
import Derived.Test.YtekfbphnoibnjaaTurned
import Derived.ProofKit
import Derived.OpenShut
import Derived.ChangeOld
import Derived.Lib.SmallJoins
namespace Go.Proofs.Ytekfbphnoibnjaa
open Go.ChangeShapes Go.WideShapes Go.ChangeAt Go.RowKit Go.Joins

theorem own : ownKnob Try.prog.godebug = none := by kernel_rfl
theorem laidOut : laidOutB Try.prog = true := by kernel_rfl

theorem okWide_array3 {P : Program} {w : World} {r : Reach} {base : Nat} {t e : TypeId} {v : Value} (ht : P.underlying t = some (.array 3 e)) (hc : P.cellsOf t = 3) (h : Value.okWide P w r base t v) : ∃ a b c, v = .agg #[a, b, c] := by
  simp only [Value.okWide, ht] at h
  obtain ⟨cs, h1, h2, _⟩ := h
  obtain ⟨a, b, c, rfl⟩ := array3 (h2.trans hc)
  exact ⟨a, b, c, h1⟩

theorem open_ints3 {H : Type} {enc : TypeId × Value → H} {P : Program} {w : World} {base : Nat} {spare : Nat → Bool} {held : Bool} {t e : TypeId} {k : IntKind} {a b c : Value} {d : DataW H} {p : List MemPlace}
    (ht : P.underlying t = some (.array 3 e)) (he : P.underlying e = some (.int k)) (hce : P.cellsOf e = 1) (h : DataW.Trod enc P w base spare held t (.agg #[a, b, c]) d p) :
    ∃ x y z : Int, a = .int k x ∧ b = .int k y ∧ c = .int k z ∧ (Lit.int k x).wf = true ∧ (Lit.int k y).wf = true ∧ (Lit.int k z).wf = true := by
  obtain ⟨fuel, hf⟩ := h
  obtain ⟨xs, m, _, _, _, hl, hi⟩ := DataW.trod_array ht hf
  have g0 := hi 0 (by omega)
  have g1 := hi 1 (by omega)
  have g2 := hi 2 (by omega)
  rw [List.getElem?_eq_getElem (by omega)] at g0 g1 g2
  simp only [hce, Value.cells] at g0 g1 g2
  obtain ⟨x, e0, _, w0⟩ := DataW.trod_int he g0
  obtain ⟨y, e1, _, w1⟩ := DataW.trod_int he g1
  obtain ⟨z, e2, _, w2⟩ := DataW.trod_int he g2
  simp at e0 e1 e2
  exact ⟨x, y, z, e0, e1, e2, w0, w1, w2⟩

theorem cellsPix : Try.prog.cellsOf 23 = 3 := by kernel_rfl
theorem cellsNum : Try.prog.cellsOf 24 = 3 := by kernel_rfl

set_option maxRecDepth 100000 in
theorem turned_lifted (os : Os) (started : os.Started) (H : Type) (enc : TypeId × Value → H) :
    ReturnsInHanded {} Try.checked os 3 .any (Rows.turnedSpec.pre6 enc Try.prog Try.f3 Rows.turnedRow.domain false) (Rows.turnedSpec.post enc Try.prog Try.f3 false true false false) := by
  refine returnsInHanded_of_change (C := Try.checked) own started (by kernel_rfl) Try.func3
    (ChangeSpec.witness6 (enc := enc) (C := Try.checked) false ⟨#[], #[.agg #[.int .u8 0, .int .u8 0, .int .u8 0], .agg #[.int .i64 0, .int .i64 0, .int .i64 0]], []⟩ 8 (by kernel_rfl) (by kernel_rfl) (by kernel_rfl) (by kernel_rfl)) ?_
  intro W base args ds gs before hval0 hW hcnd _
  have hval : ∀ (j : Nat) t v, Try.f3.params[j]? = some t → args[j]? = some v → Value.okWide Try.prog W .any base t v := hval0
  have hW' := hW
  obtain ⟨p, q, hA0, hV, rfl, hfz, hnd⟩ := hW
  have hA : DataW.TrodAll enc Try.prog W 0 (fun _ => true) true Try.f3.params.toList args.toList ds p := hA0
  rw [Try.params3] at hA hval
  obtain ⟨v0, vs0, d0, ds0, p0, q0, hargs, rfl, rfl, h0, r0⟩ := trodAll_cons hA
  obtain ⟨v1, vs1, d1, ds1, p1, q1, rfl, rfl, rfl, h1, r1⟩ := trodAll_cons r0
  obtain ⟨rfl, rfl, rfl⟩ := trodAll_nil r1
  obtain rfl : args = #[v0, v1] := by cases args; simp_all
  obtain ⟨rfl, rfl⟩ := trodVars_none hV
  have k0 := h0
  have k1 := h1
  have lt0 : ∀ x ∈ p0, x.block < W.heap.size := by obtain ⟨m, hm⟩ := k0; exact DataW.trod_lt m _ _ _ hm
  have lt1 : ∀ x ∈ p1, x.block < W.heap.size := by obtain ⟨m, hm⟩ := k1; exact DataW.trod_lt m _ _ _ hm
  obtain ⟨a, b, c, rfl⟩ := okWide_array3 Try.underlying23 cellsPix (hval 0 23 v0 rfl rfl)
  obtain ⟨y, u, v, rfl⟩ := okWide_array3 Try.underlying24 cellsNum (hval 1 24 v1 rfl rfl)
  obtain ⟨xr, xg, xb, rfl, rfl, rfl, wr, wg, wb⟩ := open_ints3 Try.underlying23 Try.underlying5 cellsU8 h0
  obtain ⟨xy, xu, xv, rfl, rfl, rfl, _, _, _⟩ := open_ints3 Try.underlying24 Try.underlying3 cellsI64 h1
  clear hA0 hval0
  obtain ⟨r0, r1⟩ := bounds_u8 wr
  obtain ⟨g0, g1⟩ := bounds_u8 wg
  obtain ⟨b0, b1⟩ := bounds_u8 wb
  refine (turned_any xr xg xb xy xu xv W r0 r1 g0 g1 b0 b1).mono fun e W' ⟨he, bel⟩ => ?_
  subst he
  exact ⟨_, rfl, _, _, _, [], _, [], hW', trodAll_mk1 (shut_bool Try.underlying4 _), (trodAll_cons_mk (Below.trod laidOut (by kernel_rfl) (of_decide_eq_true (by kernel_rfl)) k0 bel lt0) (trodAll_cons_mk (Below.trod laidOut (by kernel_rfl) (of_decide_eq_true (by kernel_rfl)) k1 bel lt1) trodAll_mk0)), rfl, bel.frame _, fun h => by cases h⟩

theorem turned_over : Rows.turnedRow.holds Try.pinned (OpenSpec.ofChange Rows.turnedSpec) :=
  OpenClaim.holds_of_wide 3 Try.f3 rfl rfl rfl rfl rfl rfl rfl ⟨rfl, rfl, rfl, rfl, rfl⟩ rfl rfl rfl rfl rfl (by kernel_rfl) Try.func3 (by kernel_rfl)
    (of_decide_eq_true (by kernel_rfl)) (by unfold Func.isWrapper; first | (rw [if_pos (by decide +kernel)]; kernel_rfl) | (rw [if_neg (by decide +kernel)]; exact ⟨rfl, rfl⟩))
    (fun os started H enc _ => turned_lifted os started H enc)

theorem turned_proved : Rows.TurnedSaid := turned_over
#print axioms turned_proved
end Go.Proofs.Ytekfbphnoibnjaa
