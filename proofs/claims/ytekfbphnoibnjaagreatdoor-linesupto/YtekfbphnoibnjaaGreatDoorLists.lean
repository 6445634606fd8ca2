/-
  Lists of numbers and of bits as they lie in memory; what Squeeze and Stretch are to answer of them, as plain functions.
-/
import Derived.Test.YtekfbphnoibnjaaGreatDoorFrm
import Derived.Test.YtekfbphnoibnjaaGreatDoorRdr
namespace Go.Proofs.YtekfbphnoibnjaaGreatDoor
open Go.RowKit

theorem ret_int {k : IntKind} {a b : Int} (h : a = b) : Ending.returned (.int k a) = .returned (.int k b) := by rw [h]

theorem byteAt_get (s : ByteArray) (i : Nat) (h : i < s.size) : Rdr.byteAt s i = (s[i].toNat : Int) := by
  unfold Rdr.byteAt
  rw [List.getD_eq_getElem?_getD, List.getElem?_eq_getElem (by simpa using h)]
  rfl

theorem octS_rng (s : ByteArray) (r : RS) : (Rdr.octS s r).rng = r.rng := by unfold Rdr.octS; split <;> rfl
theorem octS_code (s : ByteArray) (r : RS) : (Rdr.octS s r).code = r.code := by unfold Rdr.octS; split <;> rfl
theorem octB_bd (s : ByteArray) (r : RS) : 0 ≤ Rdr.octB s r ∧ Rdr.octB s r ≤ 255 := by
  unfold Rdr.octB
  split
  · exact Rdr.byteAt_bd s _
  · omega

theorem ch0_ok : Rdr.ChOk ch0 := ⟨by unfold ch0; exact List.length_replicate, fun k hk => by rw [ch0_get k hk]; decide⟩

/-- A list of numbers as it lies in memory: its elements. -/
def IntsIn (w : World) (a : Option Addr) (len : Nat) (zs : List Int) : Prop :=
  zs.length = len ∧ (len = 0 ∨ ∃ b off, a = some ⟨b, off, none⟩ ∧ b < w.heap.size ∧ ∀ i, i < len → w.cell? ⟨b, off + i, none⟩ = some (.int .i64 (zs.getD i 0)))

theorem IntsIn.frm {S : Nat → Prop} {w w' : World} {a : Option Addr} {len : Nat} {zs : List Int} (h : IntsIn w a len zs) (f : Frm S w w') (hn : ∀ p, a = some p → ¬ S p.block) : IntsIn w' a len zs := by
  refine ⟨h.1, ?_⟩
  rcases h.2 with h2 | ⟨b, off, rfl, hb, hc⟩
  · exact .inl h2
  · exact .inr ⟨b, off, rfl, Nat.lt_of_lt_of_le hb f.size, fun i hi => f.cell (hc i hi) (hn ⟨b, off, none⟩ rfl)⟩
theorem IntsIn.below {w w' : World} {a : Option Addr} {len : Nat} {zs : List Int} (h : IntsIn w a len zs) (f : Below w.heap.size w w') : IntsIn w' a len zs := by
  refine ⟨h.1, ?_⟩
  rcases h.2 with h2 | ⟨b, off, rfl, hb, hc⟩
  · exact .inl h2
  · exact .inr ⟨b, off, rfl, Nat.lt_of_lt_of_le hb f.size, fun i hi => (f.cell (p := ⟨b, off + i, none⟩) hb).trans (hc i hi)⟩

theorem ints_snoc (zs : List Int) (z : Int) : ints zs ++ [.int .i64 z] = ints (zs ++ [z]) := by simp [ints]
theorem oneCell_int (z : Int) : ∀ u ∈ [Value.int .i64 z], u.oneCell' = true := by intro u hu; simp at hu; subst hu; rfl
theorem cell_new1 (w : World) (v : Value) (e : TypeId) : ∀ j u, [v][j]? = some u → (w.alloc (.cells #[v] e)).cell? ((⟨w.heap.size, 0, none⟩ : Addr).add j) = some u := by
  intro j u hj
  match j, hj with
  | 0, hj => simp at hj; subst hj; simp [Addr.add]

theorem owns_base {w : World} {base base' : Nat} {e : TypeId} {size : Nat} {v : Value} {n : Nat} {xs : List Value} (h : w.ownsRow base e size v n xs) (hb : base' ≤ base) : w.ownsRow base' e size v n xs := by
  refine ⟨h.1, ?_⟩
  rcases h.2 with h2 | ⟨g, cap, cur, rfl, hb', hc⟩
  · exact .inl h2
  · exact .inr ⟨g, cap, cur, rfl, Nat.le_trans hb hb', hc⟩

/-- Stretch by the document: its error, its bits. -/
def ctxB (zs : List Int) : Bool := zs.all fun z => decide (0 ≤ z) && decide (z < 400)
theorem ctxB_iff (zs : List Int) : ctxB zs = true ↔ Rdr.CtxOk zs := by
  unfold ctxB Rdr.CtxOk
  rw [List.all_eq_true]
  constructor
  · intro h i hi
    have := h zs[i] (List.getElem_mem hi)
    rw [List.getD_eq_getElem?_getD, List.getElem?_eq_getElem hi]
    simpa using this
  · intro h z hz
    obtain ⟨i, hi, rfl⟩ := List.getElem_of_mem hz
    have := h i hi
    rw [List.getD_eq_getElem?_getD, List.getElem?_eq_getElem hi] at this
    simpa using this
def strE (s : ByteArray) (zs : List Int) : Int := if 4000 < zs.length then 1 else if ctxB zs = true then Rdr.stE s ch0 zs else 7
def strL (s : ByteArray) (zs : List Int) : List Int := if strE s zs = 0 then (Rdr.all s ch0 zs zs.length).1 else []

/-- What a Stretch answers, and what it leaves. -/
def StrPost (w : World) (s : ByteArray) (zs : List Int) (x : Ending) (w' : World) : Prop :=
  ∃ v, x = .returned (.tuple #[v, .int .i64 (strE s zs)]) ∧ w'.ownsRow w.heap.size 3 1 v (strL s zs).length (ints (strL s zs)) ∧ (strE s zs ≠ 0 → v = .slice none 0 0) ∧ ((strL s zs).length = 0 → ∃ a c, v = .slice a 0 c) ∧ Below w.heap.size w w'

/-- A list of bits as it lies in memory: contexts and values. -/
def BitsIn (w : World) (a : Option Addr) (len : Nat) (bs : List (Int × Int)) : Prop :=
  bs.length = len ∧ (len = 0 ∨ ∃ b off, a = some ⟨b, off, none⟩ ∧ b < w.heap.size ∧ ∀ i, i < len → w.cell? ⟨b, off + i * 2, none⟩ = some (.int .i64 (bs.getD i (0, 0)).1) ∧ w.cell? ⟨b, off + i * 2 + 1, none⟩ = some (.int .i64 (bs.getD i (0, 0)).2))

theorem BitsIn.frm {S : Nat → Prop} {w w' : World} {a : Option Addr} {len : Nat} {bs : List (Int × Int)} (h : BitsIn w a len bs) (f : Frm S w w') (hn : ∀ p, a = some p → ¬ S p.block) : BitsIn w' a len bs := by
  refine ⟨h.1, ?_⟩
  rcases h.2 with h2 | ⟨b, off, rfl, hb, hc⟩
  · exact .inl h2
  · exact .inr ⟨b, off, rfl, Nat.lt_of_lt_of_le hb f.size, fun i hi => ⟨f.cell (hc i hi).1 (hn ⟨b, off, none⟩ rfl), f.cell (hc i hi).2 (hn ⟨b, off, none⟩ rfl)⟩⟩
theorem BitsIn.below {w w' : World} {a : Option Addr} {len : Nat} {bs : List (Int × Int)} (h : BitsIn w a len bs) (f : Below w.heap.size w w') : BitsIn w' a len bs := by
  refine ⟨h.1, ?_⟩
  rcases h.2 with h2 | ⟨b, off, rfl, hb, hc⟩
  · exact .inl h2
  · exact .inr ⟨b, off, rfl, Nat.lt_of_lt_of_le hb f.size, fun i hi => ⟨(f.cell (p := ⟨b, off + i * 2, none⟩) hb).trans (hc i hi).1, (f.cell (p := ⟨b, off + i * 2 + 1, none⟩) hb).trans (hc i hi).2⟩⟩

/-- A bit that may be squeezed. -/
def bitOk (b : Int × Int) : Prop := (0 ≤ b.1 ∧ b.1 < 400) ∧ (0 ≤ b.2 ∧ b.2 ≤ 1)
def bitOkB (b : Int × Int) : Bool := (decide (0 ≤ b.1) && decide (b.1 < 400)) && (decide (0 ≤ b.2) && decide (b.2 ≤ 1))
theorem bitOkB_iff (b : Int × Int) : bitOkB b = true ↔ bitOk b := by simp [bitOkB, bitOk]
def sqE (bs : List (Int × Int)) : Int := if 4000 < bs.length then 1 else if bs.all bitOkB = true then 0 else 7

theorem all_iff (bs : List (Int × Int)) : bs.all bitOkB = true ↔ ∀ i, i < bs.length → bitOk (bs.getD i (0, 0)) := by
  rw [List.all_eq_true]
  constructor
  · intro h i hi
    have := h bs[i] (List.getElem_mem hi)
    rw [List.getD_eq_getElem?_getD, List.getElem?_eq_getElem hi]
    exact (bitOkB_iff _).1 this
  · intro h z hz
    obtain ⟨i, hi, rfl⟩ := List.getElem_of_mem hz
    have := h i hi
    rw [List.getD_eq_getElem?_getD, List.getElem?_eq_getElem hi] at this
    exact (bitOkB_iff _).2 this

def ctxOf (bs : List (Int × Int)) : List Int := bs.map (·.1)
theorem ctxOf_snoc (bs : List (Int × Int)) (k : Nat) (h : k < bs.length) : ctxOf (bs.take (k + 1)) = ctxOf (bs.take k) ++ [(bs.getD k (0, 0)).1] := by
  unfold ctxOf
  rw [List.take_succ_eq_append_getElem h, List.map_append]
  simp [List.getD_eq_getElem?_getD, h]


end Go.Proofs.YtekfbphnoibnjaaGreatDoor
