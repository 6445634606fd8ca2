/-
  Bits as cells, two each.
-/
import Derived.Test.YtekfbphnoibnjaaGreatDoorLists
namespace Go.Proofs.YtekfbphnoibnjaaGreatDoor
open Go.RowKit

def bitCells (bs : List (Int × Int)) : List Value := bs.flatMap fun b => [.int .i64 b.1, .int .i64 b.2]
theorem bitCells_len (bs : List (Int × Int)) : (bitCells bs).length = bs.length * 2 := by
  induction bs with
  | nil => rfl
  | cons b bs ih => simp [bitCells] at ih ⊢; omega
theorem bitCells_app (xs ys : List (Int × Int)) : bitCells (xs ++ ys) = bitCells xs ++ bitCells ys := by simp [bitCells]
theorem bitCells_get (bs : List (Int × Int)) (i : Nat) (h : i < bs.length) : (bitCells bs)[i * 2]? = some (.int .i64 (bs.getD i (0, 0)).1) ∧ (bitCells bs)[i * 2 + 1]? = some (.int .i64 (bs.getD i (0, 0)).2) := by
  induction bs generalizing i with
  | nil => simp at h
  | cons b bs ih =>
    have e : bitCells (b :: bs) = .int .i64 b.1 :: .int .i64 b.2 :: bitCells bs := by simp [bitCells]
    rw [e]
    cases i with
    | zero => simp
    | succ i =>
      have := ih i (by simpa using h)
      rw [show (i + 1) * 2 = i * 2 + 1 + 1 by omega]
      simpa using this
theorem bitCells_set (bs : List (Int × Int)) (i : Nat) (b : Int × Int) (h : i < bs.length) : ((bitCells bs).set (i * 2) (.int .i64 b.1)).set (i * 2 + 1) (.int .i64 b.2) = bitCells (bs.set i b) := by
  induction bs generalizing i with
  | nil => simp at h
  | cons c bs ih =>
    have e : ∀ (d : Int × Int) ds, bitCells (d :: ds) = .int .i64 d.1 :: .int .i64 d.2 :: bitCells ds := fun d ds => by simp [bitCells]
    cases i with
    | zero => rw [e]; simp [e]
    | succ i =>
      rw [e, List.set_cons_succ, e, ← ih i (by simpa using h), show (i + 1) * 2 = i * 2 + 1 + 1 by omega]
      simp
theorem oneCell_bits (bs : List (Int × Int)) : ∀ u ∈ bitCells bs, u.oneCell' = true := by
  intro u hu
  unfold bitCells at hu
  obtain ⟨b, _, hb⟩ := List.mem_flatMap.1 hu
  simp at hb
  rcases hb with rfl | rfl <;> rfl

theorem infoBit : (Tryz.prog.info? 69).map (fun i => (i.zero, i.size, i.bytes)) = some (some (.agg #[.int .i64 0, .int .i64 0]), 2, 16) := by kernel_rfl

theorem BitsIn.of_own {w : World} {B : Nat} {v : Value} {bs : List (Int × Int)} (h : w.ownsRow B 69 2 v bs.length (bitCells bs)) : ∃ a cap, v = .slice a bs.length cap ∧ BitsIn w a bs.length bs := by
  rcases h.2 with ⟨rfl, h0⟩ | ⟨g, cap, cur, rfl, hb, hg, hr⟩
  · exact ⟨none, 0, by rw [h0], rfl, .inl h0⟩
  · refine ⟨_, cap, rfl, rfl, .inr ⟨g, 0, rfl, (World.ownsRow.lt h g rfl).2, fun i hi => ?_⟩⟩
    have h1 := World.ownsRow.cellAt h (i * 2) (by omega)
    have h2 := World.ownsRow.cellAt h (i * 2 + 1) (by omega)
    obtain ⟨k1, k2⟩ := bitCells_get bs i hi
    exact ⟨by rw [Nat.zero_add, h1, k1], by rw [show 0 + i * 2 + 1 = i * 2 + 1 by omega, h2, k2]⟩
theorem IntsIn.of_own {w : World} {B : Nat} {v : Value} {zs : List Int} (h : w.ownsRow B 3 1 v zs.length (ints zs)) : ∃ a cap, v = .slice a zs.length cap ∧ IntsIn w a zs.length zs := by
  rcases h.2 with ⟨rfl, h0⟩ | ⟨g, cap, cur, rfl, hb, hg, hr⟩
  · exact ⟨none, 0, by rw [h0], rfl, .inl h0⟩
  · refine ⟨_, cap, rfl, rfl, .inr ⟨g, 0, rfl, (World.ownsRow.lt h g rfl).2, fun i hi => ?_⟩⟩
    have h1 := World.ownsRow.cellAt h i (by omega)
    rw [Nat.zero_add, h1, ints_get _ _ hi]

end Go.Proofs.YtekfbphnoibnjaaGreatDoor
