/-
  What == and != of pixels and of three numbers come to: all three parts are the same.
-/
import Derived.Test.YtekfbphnoibnjaaGreatDoorRows
import Derived.WalkKit
import Derived.ChangeKeysEq
namespace Go.Proofs.YtekfbphnoibnjaaGreatDoor

theorem cellsU8 : Tryz.prog.cellsOf 5 = 1 := by kernel_rfl
theorem cellsI64 : Tryz.prog.cellsOf 3 = 1 := by kernel_rfl

theorem part1 {P : Program} {e : TypeId} {k : IntKind} (he : P.underlying e = some (.int k)) (w : World) (xs : Array Value) (i : Nat) (v : Value) (hv : xs[i]? = some v) : (part e xs i).run P w = .ok v w := by
  simp [part, isAgg, run_underlying he, hv]

theorem eq3 {P : Program} {t e : TypeId} {k : IntKind} (ht : P.underlying t = some (.array 3 e)) (he : P.underlying e = some (.int k)) (hc : P.cellsOf e = 1) (w : World) (a b c a' b' c' : Int) :
    Sem.run P (Op.equalIn 10000 t (.agg #[.int k a, .int k b, .int k c]) (.agg #[.int k a', .int k b', .int k c'])) w = .ok (a == a' && (b == b' && c == c')) w := by
  obtain ⟨i, hi⟩ := info_of_underlying he
  rw [run_equalIn_array w 9999 _ _ ht hi, hc]
  have r3 : List.range 3 = [0, 1, 2] := rfl
  rw [r3]
  simp only [Op.eqItems, Sem.run_bind]
  rw [part1 he w _ _ (.int k a) rfl]
  simp only [Result.andThen_ok]
  rw [part1 he w _ _ (.int k a') rfl]
  simp only [Result.andThen_ok, run_equalIn_int w _ e k k _ _ he]
  cases h1 : (a == a')
  · simp
  simp only [Bool.not_true, Bool.false_eq_true, if_false, Sem.run_bind]
  rw [part1 he w _ _ (.int k b) rfl]
  simp only [Result.andThen_ok]
  rw [part1 he w _ _ (.int k b') rfl]
  simp only [Result.andThen_ok, run_equalIn_int w _ e k k _ _ he]
  cases h2 : (b == b')
  · simp
  simp only [Bool.not_true, Bool.false_eq_true, if_false, Sem.run_bind]
  rw [part1 he w _ _ (.int k c) rfl]
  simp only [Result.andThen_ok]
  rw [part1 he w _ _ (.int k c') rfl]
  simp only [Result.andThen_ok, run_equalIn_int w _ e k k _ _ he]
  cases h3 : (c == c')
  · simp
  · simp

theorem eqPix (w : World) (a b c a' b' c' : Int) :
    Sem.run Tryz.prog (Op.equalIn 10000 50 (.agg #[.int .u8 a, .int .u8 b, .int .u8 c]) (.agg #[.int .u8 a', .int .u8 b', .int .u8 c'])) w = .ok (a == a' && (b == b' && c == c')) w :=
  eq3 Tryz.underlying50 Tryz.underlying5 cellsU8 w a b c a' b' c'
theorem eqNum (w : World) (a b c a' b' c' : Int) :
    Sem.run Tryz.prog (Op.equalIn 10000 48 (.agg #[.int .i64 a, .int .i64 b, .int .i64 c]) (.agg #[.int .i64 a', .int .i64 b', .int .i64 c'])) w = .ok (a == a' && (b == b' && c == c')) w :=
  eq3 Tryz.underlying48 Tryz.underlying3 cellsI64 w a b c a' b' c'

end Go.Proofs.YtekfbphnoibnjaaGreatDoor
