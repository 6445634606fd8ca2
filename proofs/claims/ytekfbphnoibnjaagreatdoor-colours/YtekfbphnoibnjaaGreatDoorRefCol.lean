/-
  What the document's own Turn and Back do, call by call.
-/
import Derived.Test.YtekfbphnoibnjaaGreatDoorColour
namespace Go.Proofs.YtekfbphnoibnjaaGreatDoor
open Go.RowKit

theorem negHalf (n : Int) : -((1 - n) / 2) = n / 2 := by omega

set_option maxHeartbeats 400000 in
theorem refHalf (n : Int) (w : World) (h1 : -100000 ≤ n) (h2 : n ≤ 100000) :
    Calls Tryz.prog 97 #[.int .i64 n] w fun e w' => e = .returned (.int .i64 (n / 2)) ∧ w' = w := by
  by_cases h : n < 0
  · go_enter Tryz.func97, Tryz.ntmps97
    go_wp2
    go_ret
    exact ⟨by rw [← negHalf n]; rfl, rfl⟩
  · go_enter Tryz.func97, Tryz.ntmps97
    go_wp2
    go_ret
    exact ⟨rfl, rfl⟩

set_option maxHeartbeats 400000 in
theorem refTurn (r g b : Int) (w : World) (r0 : 0 ≤ r) (r1 : r ≤ 255) (g0 : 0 ≤ g) (g1 : g ≤ 255) (b0 : 0 ≤ b) (b1 : b ≤ 255) :
    Calls Tryz.prog 54 #[.agg #[.int .u8 r, .int .u8 g, .int .u8 b]] w fun e w' => e = .returned (.agg #[.int .i64 (Pix.tY r g b), .int .i64 (r - b), .int .i64 (Pix.tV r g b)]) ∧ Below w.heap.size w w' := by
  go_enter Tryz.func54, Tryz.ntmps54
  go_wp2_with (go_at_call 97; refine (refHalf _ _ (by omega) (by omega)).mono ?_; rintro e w1 ⟨rfl, rfl⟩)
  refine bodyPost_ret (v := .agg #[.int .i64 (Pix.tY r g b), .int .i64 (r - b), .int .i64 (Pix.tV r g b)]) (by simp [results, Tryz.results54, go_sem, Pix.tY, Pix.tV, Pix.tT]) rfl ⟨rfl, ?_⟩
  repeat (first | exact Below.refl _ _ | refine Below.setCell ?_ (by simp) _ | refine Below.alloc ?_ (by simp) _ | refine below_drewN ?_ _)

def far (n : Int) : Prop := n < -1000 ∨ 1000 < n
theorem not_far {n : Int} (h : ¬ far n) : -1000 ≤ n ∧ n ≤ 1000 := by unfold far at h; omega

theorem nopix6 {y u v : Int} (h : ¬ Pix.isPix y u v) : u + (y - v / 2 - u / 2) < 0 ∨ (0 ≤ u + (y - v / 2 - u / 2) ∧ 255 < u + (y - v / 2 - u / 2)) ∨
    (0 ≤ u + (y - v / 2 - u / 2) ∧ u + (y - v / 2 - u / 2) ≤ 255 ∧ v + (y - v / 2) < 0) ∨ (0 ≤ u + (y - v / 2 - u / 2) ∧ u + (y - v / 2 - u / 2) ≤ 255 ∧ 0 ≤ v + (y - v / 2) ∧ 255 < v + (y - v / 2)) ∨
    (0 ≤ u + (y - v / 2 - u / 2) ∧ u + (y - v / 2 - u / 2) ≤ 255 ∧ 0 ≤ v + (y - v / 2) ∧ v + (y - v / 2) ≤ 255 ∧ y - v / 2 - u / 2 < 0) ∨
    (0 ≤ u + (y - v / 2 - u / 2) ∧ u + (y - v / 2 - u / 2) ≤ 255 ∧ 0 ≤ v + (y - v / 2) ∧ v + (y - v / 2) ≤ 255 ∧ 0 ≤ y - v / 2 - u / 2 ∧ 255 < y - v / 2 - u / 2) := by
  unfold Pix.isPix Pix.bR Pix.bG Pix.bB Pix.bT at h
  omega

set_option maxHeartbeats 1000000 in
theorem refBack_out (y u v : Int) (w : World) (h : ¬ Pix.isPix y u v) :
    Calls Tryz.prog 56 #[.agg #[.int .i64 y, .int .i64 u, .int .i64 v]] w fun e w' => e = .returned (.tuple #[.agg #[.int .u8 0, .int .u8 0, .int .u8 0], .int .i64 2]) ∧ Below w.heap.size w w' := by
  go_enter Tryz.func56, Tryz.ntmps56
  go_wp2
  go_loop [4] (fun i => ∃ k : Nat, k ≤ 3 ∧ i = .int .i64 k ∧ (0 < k → ¬ far y) ∧ (1 < k → ¬ far u) ∧ (2 < k → ¬ far v)) (fun i => 4 - (intOf i).toNat)
  case atStart => exact ⟨0, by omega, rfl, by omega, by omega, by omega⟩
  case round =>
    obtain ⟨k, hk, rfl, hy, hu, hv⟩ := hrel
    rcases (by omega : k = 0 ∨ k = 1 ∨ k = 2 ∨ k = 3) with rfl | rfl | rfl | rfl
    · clear hy hu hv
      by_cases hf : far y
      · unfold far at hf
        rcases hf with hf | hf
        · go_wp2
          refine bodyPost_ret (v := .tuple #[.agg #[.int .u8 0, .int .u8 0, .int .u8 0], .int .i64 2]) (by simp [results, Tryz.results56, go_sem]) rfl ⟨rfl, ?_⟩
          repeat (first | exact Below.refl _ _ | refine Below.setCell ?_ (by simp) _ | refine Below.alloc ?_ (by simp) _ | refine below_drewN ?_ _)
        · have hg : ¬ y < -1000 := by omega
          go_wp2
          refine bodyPost_ret (v := .tuple #[.agg #[.int .u8 0, .int .u8 0, .int .u8 0], .int .i64 2]) (by simp [results, Tryz.results56, go_sem]) rfl ⟨rfl, ?_⟩
          repeat (first | exact Below.refl _ _ | refine Below.setCell ?_ (by simp) _ | refine Below.alloc ?_ (by simp) _ | refine below_drewN ?_ _)
      · obtain ⟨ha, hb⟩ := not_far hf
        have HF : Hid (¬ far y) := hf
        clear hf
        go_wp2
        go_round
        case rel => exact ⟨0 + 1, by omega, by go_num, fun _ => HF.out, fun h => absurd h (by omega), fun h => absurd h (by omega)⟩
        case measure => simp [intOf]
    · have h0 : Hid (¬ far y) := hy (by omega)
      clear hy hu hv
      by_cases hf : far u
      · unfold far at hf
        rcases hf with hf | hf
        · go_wp2
          refine bodyPost_ret (v := .tuple #[.agg #[.int .u8 0, .int .u8 0, .int .u8 0], .int .i64 2]) (by simp [results, Tryz.results56, go_sem]) rfl ⟨rfl, ?_⟩
          repeat (first | exact Below.refl _ _ | refine Below.setCell ?_ (by simp) _ | refine Below.alloc ?_ (by simp) _ | refine below_drewN ?_ _)
        · have hg : ¬ u < -1000 := by omega
          go_wp2
          refine bodyPost_ret (v := .tuple #[.agg #[.int .u8 0, .int .u8 0, .int .u8 0], .int .i64 2]) (by simp [results, Tryz.results56, go_sem]) rfl ⟨rfl, ?_⟩
          repeat (first | exact Below.refl _ _ | refine Below.setCell ?_ (by simp) _ | refine Below.alloc ?_ (by simp) _ | refine below_drewN ?_ _)
      · obtain ⟨ha, hb⟩ := not_far hf
        have HF : Hid (¬ far u) := hf
        clear hf
        go_wp2
        go_round
        case rel => exact ⟨1 + 1, by omega, by go_num, fun _ => h0.out, fun _ => HF.out, fun h => absurd h (by omega)⟩
        case measure => simp [intOf]
    · have h0 : Hid (¬ far y) := hy (by omega)
      have h1 : Hid (¬ far u) := hu (by omega)
      clear hy hu hv
      by_cases hf : far v
      · unfold far at hf
        rcases hf with hf | hf
        · go_wp2
          refine bodyPost_ret (v := .tuple #[.agg #[.int .u8 0, .int .u8 0, .int .u8 0], .int .i64 2]) (by simp [results, Tryz.results56, go_sem]) rfl ⟨rfl, ?_⟩
          repeat (first | exact Below.refl _ _ | refine Below.setCell ?_ (by simp) _ | refine Below.alloc ?_ (by simp) _ | refine below_drewN ?_ _)
        · have hg : ¬ v < -1000 := by omega
          go_wp2
          refine bodyPost_ret (v := .tuple #[.agg #[.int .u8 0, .int .u8 0, .int .u8 0], .int .i64 2]) (by simp [results, Tryz.results56, go_sem]) rfl ⟨rfl, ?_⟩
          repeat (first | exact Below.refl _ _ | refine Below.setCell ?_ (by simp) _ | refine Below.alloc ?_ (by simp) _ | refine below_drewN ?_ _)
      · obtain ⟨ha, hb⟩ := not_far hf
        have HF : Hid (¬ far v) := hf
        clear hf
        go_wp2
        go_round
        case rel => exact ⟨2 + 1, by omega, by go_num, fun _ => h0.out, fun _ => h1.out, fun _ => HF.out⟩
        case measure => simp [intOf]
    · obtain ⟨y0, y1⟩ := not_far (hy (by omega))
      obtain ⟨u0, u1⟩ := not_far (hu (by omega))
      obtain ⟨v0, v1⟩ := not_far (hv (by omega))
      clear hy hu hv
      rcases nopix6 h with h1 | ⟨h1, h2⟩ | ⟨h1, h2, h3⟩ | ⟨h1, h2, h3, h4⟩ | ⟨h1, h2, h3, h4, h5⟩ | ⟨h1, h2, h3, h4, h5, h6⟩
      all_goals
        clear h
        go_wp2
        go_quiet ((go_at_call 97; exact Calls.quiet_of_same (refHalf _ _ (by omega) (by omega))))
        go_wp2_with (go_at_call 97; refine (refHalf _ _ (by omega) (by omega)).mono ?_; rintro e w1 ⟨rfl, rfl⟩)
        refine bodyPost_ret (v := .tuple #[.agg #[.int .u8 0, .int .u8 0, .int .u8 0], .int .i64 2]) (by simp [results, Tryz.results56, go_sem]) rfl ⟨rfl, ?_⟩
        repeat (first | exact Below.refl _ _ | refine Below.setCell ?_ (by simp) _ | refine Below.alloc ?_ (by simp) _ | refine below_drewN ?_ _)

set_option maxHeartbeats 1000000 in
theorem refBack_in (y u v : Int) (w : World) (h : Pix.isPix y u v) :
    Calls Tryz.prog 56 #[.agg #[.int .i64 y, .int .i64 u, .int .i64 v]] w fun e w' => e = .returned (.tuple #[.agg #[.int .u8 (Pix.bR y u v), .int .u8 (Pix.bG y v), .int .u8 (Pix.bB y u v)], .int .i64 0]) ∧ Below w.heap.size w w' := by
  obtain ⟨⟨y0, y1⟩, ⟨u0, u1⟩, ⟨v0, v1⟩⟩ := Pix.near y u v h
  have y2 : -1000 ≤ y := by omega
  have y3 : y ≤ 1000 := by omega
  have u2 : -1000 ≤ u := by omega
  have u3 : u ≤ 1000 := by omega
  have v2 : -1000 ≤ v := by omega
  have v3 : v ≤ 1000 := by omega
  obtain ⟨⟨a0, a1⟩, ⟨b0, b1⟩, ⟨c0, c1⟩⟩ := h
  unfold Pix.bR Pix.bB Pix.bT at a0 a1
  unfold Pix.bG Pix.bT at b0 b1
  unfold Pix.bB Pix.bT at c0 c1
  go_enter Tryz.func56, Tryz.ntmps56
  go_wp2
  go_loop [4] (fun i => ∃ k : Nat, k ≤ 3 ∧ i = .int .i64 k) (fun i => 4 - (intOf i).toNat)
  case atStart => exact ⟨0, by omega, rfl⟩
  case round =>
    obtain ⟨k, hk, rfl⟩ := hrel
    rcases (by omega : k = 0 ∨ k = 1 ∨ k = 2 ∨ k = 3) with rfl | rfl | rfl | rfl
    · go_wp2
      go_round
      case rel => exact ⟨1, by omega, by go_num⟩
      case measure => simp [intOf]
    · go_wp2
      go_round
      case rel => exact ⟨2, by omega, by go_num⟩
      case measure => simp [intOf]
    · go_wp2
      go_round
      case rel => exact ⟨3, by omega, by go_num⟩
      case measure => simp [intOf]
    · go_wp2
      go_quiet ((go_at_call 97; exact Calls.quiet_of_same (refHalf _ _ (by omega) (by omega))))
      go_wp2_with (go_at_call 97; refine (refHalf _ _ (by omega) (by omega)).mono ?_; rintro e w1 ⟨rfl, rfl⟩)
      refine bodyPost_ret (v := .tuple #[.agg #[.int .u8 (Pix.bR y u v), .int .u8 (Pix.bG y v), .int .u8 (Pix.bB y u v)], .int .i64 0]) (by simp [results, Tryz.results56, go_sem, Pix.bR, Pix.bG, Pix.bB, Pix.bT]) rfl ⟨rfl, ?_⟩
      repeat (first | exact Below.refl _ _ | refine Below.setCell ?_ (by simp) _ | refine Below.alloc ?_ (by simp) _ | refine below_drewN ?_ _)

end Go.Proofs.YtekfbphnoibnjaaGreatDoor
