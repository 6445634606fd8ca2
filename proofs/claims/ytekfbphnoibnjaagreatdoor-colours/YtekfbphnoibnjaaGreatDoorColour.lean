/-
  What Turn and Back of the program do, call by call: the numbers they answer, and that nothing old is written.
-/
import Derived.Test.YtekfbphnoibnjaaGreatDoorRows
import Derived.Test.YtekfbphnoibnjaaGreatDoorMath
import Derived.WalkKit
import Derived.WalkSpells
import Derived.WalkLawsBesides
import Derived.Below
import Derived.WalkSmall
import Derived.Deep.QuietTactic
import Derived.BigQuiet
namespace Go.Proofs.YtekfbphnoibnjaaGreatDoor
open Go.RowKit

set_option maxHeartbeats 400000 in
theorem half_any (n : Int) (w : World) :
    Calls Tryz.prog 124 #[.int .i64 n] w fun e w' => e = .returned (.int .i64 (n / 2)) ∧ w' = w := by
  go_enter Tryz.func124, Tryz.ntmps124
  go_wp2
  go_ret
  exact ⟨rfl, rfl⟩

theorem bcell {W w1 : World} (hb : Below W.heap.size W w1) : (∀ b o, b < W.heap.size → w1.cell? ⟨b, o, none⟩ = W.cell? ⟨b, o, none⟩) ∧ (∀ b o, b < W.heap.size → w1.frozen? ⟨b, o, none⟩ = W.frozen? ⟨b, o, none⟩) :=
  ⟨fun b o h => hb.cell (p := ⟨b, o, none⟩) h, fun b o h => hb.frozen (p := ⟨b, o, none⟩) h⟩

set_option maxHeartbeats 400000 in
theorem colTurn (r g b : Int) (w : World) (r0 : 0 ≤ r) (r1 : r ≤ 255) (g0 : 0 ≤ g) (g1 : g ≤ 255) (b0 : 0 ≤ b) (b1 : b ≤ 255) :
    Calls Tryz.prog 96 #[.agg #[.int .u8 r, .int .u8 g, .int .u8 b]] w fun e w' => e = .returned (.agg #[.int .i64 (Pix.tY r g b), .int .i64 (r - b), .int .i64 (Pix.tV r g b)]) ∧ Below w.heap.size w w' := by
  go_enter Tryz.func96, Tryz.ntmps96
  go_wp2
  go_quiet (fail)
  go_wp2
  refine bodyPost_ret (v := .agg #[.int .i64 (Pix.tY r g b), .int .i64 (r - b), .int .i64 (Pix.tV r g b)]) (by simp [results, Tryz.results96, go_sem, Pix.tY, Pix.tV, Pix.tT]) rfl ⟨rfl, ?_⟩
  repeat (first | exact Below.refl _ _ | refine Below.setCell ?_ (by simp) _ | refine Below.alloc ?_ (by simp) _ | refine below_drewN ?_ _)

set_option maxHeartbeats 400000 in
theorem fbTurn (r g b : Int) (w : World) (r0 : 0 ≤ r) (r1 : r ≤ 255) (g0 : 0 ≤ g) (g1 : g ≤ 255) (b0 : 0 ≤ b) (b1 : b ≤ 255) :
    Calls Tryz.prog 53 #[.agg #[.int .u8 r, .int .u8 g, .int .u8 b]] w fun e w' => e = .returned (.agg #[.int .i64 (Pix.tY r g b), .int .i64 (r - b), .int .i64 (Pix.tV r g b)]) ∧ Below w.heap.size w w' := by
  go_enter Tryz.func53, Tryz.ntmps53
  go_wp2_with (go_at_call 96; refine (colTurn r g b _ r0 r1 g0 g1 b0 b1).mono ?_; rintro e w1 ⟨rfl, hb⟩; obtain ⟨hc, hf⟩ := bcell hb; have hz : w.heap.size + 1 < w1.heap.size := by (have := hb.size; simp at this; omega))
  refine bodyPost_ret (v := .agg #[.int .i64 (Pix.tY r g b), .int .i64 (r - b), .int .i64 (Pix.tV r g b)]) (by simp [results, Tryz.results53, go_sem, hc]) rfl ⟨rfl, ?_⟩
  have hw : Below w.heap.size w w1 := (((Below.refl _ _).alloc (Nat.le_refl _) _).alloc (by simp) _).trans (hb.mono (by simp; omega))
  exact ((hw.setCell (by simp) _).setCell (by simp) _).setCell (by simp) _

def nearB (n : Int) : Bool := decide (-255 ≤ n ∧ n ≤ 255)
def byteB (n : Int) : Bool := decide (0 ≤ n ∧ n ≤ 255)

set_option maxHeartbeats 400000 in
theorem isNear_any (n : Int) (w : World) :
    Calls Tryz.prog 125 #[.int .i64 n] w fun e w' => e = .returned (.bool (nearB n)) ∧ w' = w := by
  by_cases h1 : -255 ≤ n
  · by_cases h2 : n ≤ 255
    · go_enter Tryz.func125, Tryz.ntmps125
      go_wp2
      go_ret
      exact ⟨by simp [nearB, h1, h2], rfl⟩
    · go_enter Tryz.func125, Tryz.ntmps125
      go_wp2
      go_ret
      exact ⟨by simp [nearB, h2], rfl⟩
  · go_enter Tryz.func125, Tryz.ntmps125
    go_wp2
    go_ret
    exact ⟨by simp only [nearB]; rw [decide_eq_false (by omega)]; rfl, rfl⟩

set_option maxHeartbeats 400000 in
theorem isByte_any (n : Int) (w : World) :
    Calls Tryz.prog 126 #[.int .i64 n] w fun e w' => e = .returned (.bool (byteB n)) ∧ w' = w := by
  by_cases h1 : 0 ≤ n
  · by_cases h2 : n ≤ 255
    · go_enter Tryz.func126, Tryz.ntmps126
      go_wp2
      go_ret
      exact ⟨by simp [byteB, h1, h2], rfl⟩
    · go_enter Tryz.func126, Tryz.ntmps126
      go_wp2
      go_ret
      exact ⟨by simp [byteB, h2], rfl⟩
  · go_enter Tryz.func126, Tryz.ntmps126
    go_wp2
    go_ret
    exact ⟨by simp only [byteB]; rw [decide_eq_false (by omega)]; rfl, rfl⟩

set_option maxHeartbeats 400000 in
theorem colBack_far (y u v : Int) (w : World) (h : (nearB y && nearB u && nearB v) = false) :
    Calls Tryz.prog 98 #[.agg #[.int .i64 y, .int .i64 u, .int .i64 v]] w fun e w' => e = .returned (.tuple #[.agg #[.int .u8 0, .int .u8 0, .int .u8 0], .bool false]) ∧ Below w.heap.size w w' := by
  rcases hy : nearB y with _ | _ <;> rcases hu : nearB u with _ | _ <;> rcases hv : nearB v with _ | _ <;> first | (simp [hy, hu, hv] at h; done) | skip
  all_goals
    clear h
    go_enter Tryz.func98, Tryz.ntmps98
    go_wp2
    go_quiet (fail)
    go_wp2_with (go_at_call 125; refine (isNear_any _ _).mono ?_; rintro e w1 ⟨rfl, rfl⟩)
    refine bodyPost_ret (v := .tuple #[.agg #[.int .u8 0, .int .u8 0, .int .u8 0], .bool false]) (by simp [results, Tryz.results98, go_sem]) rfl ⟨rfl, ?_⟩
    repeat (first | exact Below.refl _ _ | refine Below.setCell ?_ (by simp) _ | refine Below.alloc ?_ (by simp) _ | refine below_drewN ?_ _)

theorem nearB_true {n : Int} (h : nearB n = true) : -255 ≤ n ∧ n ≤ 255 := of_decide_eq_true h
theorem nearB_mk {n : Int} (h : -255 ≤ n ∧ n ≤ 255) : nearB n = true := decide_eq_true h
theorem byteB_true {n : Int} (h : byteB n = true) : 0 ≤ n ∧ n ≤ 255 := of_decide_eq_true h
theorem byteB_mk {n : Int} (h : 0 ≤ n ∧ n ≤ 255) : byteB n = true := decide_eq_true h

set_option maxHeartbeats 400000 in
theorem colBack_no (y u v : Int) (w : World) (hy : nearB y = true) (hu : nearB u = true) (hv : nearB v = true)
    (h : (byteB (u + (y - v / 2 - u / 2)) && byteB (v + (y - v / 2)) && byteB (y - v / 2 - u / 2)) = false) :
    Calls Tryz.prog 98 #[.agg #[.int .i64 y, .int .i64 u, .int .i64 v]] w fun e w' => e = .returned (.tuple #[.agg #[.int .u8 0, .int .u8 0, .int .u8 0], .bool false]) ∧ Below w.heap.size w w' := by
  obtain ⟨y0, y1⟩ := nearB_true hy
  obtain ⟨u0, u1⟩ := nearB_true hu
  obtain ⟨v0, v1⟩ := nearB_true hv
  rcases hr : byteB (u + (y - v / 2 - u / 2)) with _ | _ <;> rcases hg : byteB (v + (y - v / 2)) with _ | _ <;> rcases hb : byteB (y - v / 2 - u / 2) with _ | _ <;> first | (simp [hr, hg, hb] at h; done) | skip
  all_goals
    clear h
    go_enter Tryz.func98, Tryz.ntmps98
    go_wp2
    go_quiet (fail)
    go_wp2_with (first | (go_at_call 125; refine (isNear_any _ _).mono ?_; rintro e w1 ⟨rfl, rfl⟩) | (go_at_call 126; refine (isByte_any _ _).mono ?_; rintro e w1 ⟨rfl, rfl⟩) | (go_at_call 124; refine (half_any _ _).mono ?_; rintro e w1 ⟨rfl, rfl⟩))
    refine bodyPost_ret (v := .tuple #[.agg #[.int .u8 0, .int .u8 0, .int .u8 0], .bool false]) (by simp [results, Tryz.results98, go_sem]) rfl ⟨rfl, ?_⟩
    repeat (first | exact Below.refl _ _ | refine Below.setCell ?_ (by simp) _ | refine Below.alloc ?_ (by simp) _ | refine below_drewN ?_ _)

set_option maxHeartbeats 400000 in
theorem colBack_yes (y u v : Int) (w : World) (hy : nearB y = true) (hu : nearB u = true) (hv : nearB v = true)
    (hr : byteB (u + (y - v / 2 - u / 2)) = true) (hg : byteB (v + (y - v / 2)) = true) (hb : byteB (y - v / 2 - u / 2) = true) :
    Calls Tryz.prog 98 #[.agg #[.int .i64 y, .int .i64 u, .int .i64 v]] w fun e w' => e = .returned (.tuple #[.agg #[.int .u8 (Pix.bR y u v), .int .u8 (Pix.bG y v), .int .u8 (Pix.bB y u v)], .bool true]) ∧ Below w.heap.size w w' := by
  obtain ⟨y0, y1⟩ := nearB_true hy
  obtain ⟨u0, u1⟩ := nearB_true hu
  obtain ⟨v0, v1⟩ := nearB_true hv
  obtain ⟨r0, r1⟩ := byteB_true hr
  obtain ⟨g0, g1⟩ := byteB_true hg
  obtain ⟨b0, b1⟩ := byteB_true hb
  go_enter Tryz.func98, Tryz.ntmps98
  go_wp2
  go_quiet (fail)
  go_wp2_with (first | (go_at_call 125; refine (isNear_any _ _).mono ?_; rintro e w1 ⟨rfl, rfl⟩) | (go_at_call 126; refine (isByte_any _ _).mono ?_; rintro e w1 ⟨rfl, rfl⟩) | (go_at_call 124; refine (half_any _ _).mono ?_; rintro e w1 ⟨rfl, rfl⟩))
  refine bodyPost_ret (v := .tuple #[.agg #[.int .u8 (Pix.bR y u v), .int .u8 (Pix.bG y v), .int .u8 (Pix.bB y u v)], .bool true]) (by simp [results, Tryz.results98, go_sem, Pix.bR, Pix.bG, Pix.bB, Pix.bT]) rfl ⟨rfl, ?_⟩
  repeat (first | exact Below.refl _ _ | refine Below.setCell ?_ (by simp) _ | refine Below.alloc ?_ (by simp) _ | refine below_drewN ?_ _)

theorem pix_bytes {y u v : Int} (h : Pix.isPix y u v) : (nearB y = true ∧ nearB u = true ∧ nearB v = true) ∧ byteB (u + (y - v / 2 - u / 2)) = true ∧ byteB (v + (y - v / 2)) = true ∧ byteB (y - v / 2 - u / 2) = true := by
  obtain ⟨n1, n2, n3⟩ := Pix.near y u v h
  exact ⟨⟨nearB_mk n1, nearB_mk n2, nearB_mk n3⟩, byteB_mk h.1, byteB_mk h.2.1, byteB_mk h.2.2⟩
theorem nopix {y u v : Int} (h : ¬ Pix.isPix y u v) : (nearB y && nearB u && nearB v) = false ∨ ((nearB y = true ∧ nearB u = true ∧ nearB v = true) ∧ (byteB (u + (y - v / 2 - u / 2)) && byteB (v + (y - v / 2)) && byteB (y - v / 2 - u / 2)) = false) := by
  cases hn : (nearB y && nearB u && nearB v)
  · exact Or.inl rfl
  · refine Or.inr ⟨by simpa [and_assoc] using hn, ?_⟩
    cases hb : (byteB (u + (y - v / 2 - u / 2)) && byteB (v + (y - v / 2)) && byteB (y - v / 2 - u / 2))
    · rfl
    · simp only [Bool.and_eq_true] at hb
      exact absurd ⟨byteB_true hb.1.1, byteB_true hb.1.2, byteB_true hb.2⟩ h

theorem colBack_out (y u v : Int) (w : World) (h : ¬ Pix.isPix y u v) :
    Calls Tryz.prog 98 #[.agg #[.int .i64 y, .int .i64 u, .int .i64 v]] w fun e w' => e = .returned (.tuple #[.agg #[.int .u8 0, .int .u8 0, .int .u8 0], .bool false]) ∧ Below w.heap.size w w' := by
  rcases nopix h with h | ⟨⟨h1, h2, h3⟩, h⟩
  · exact colBack_far y u v w h
  · exact colBack_no y u v w h1 h2 h3 h
theorem colBack_in (y u v : Int) (w : World) (h : Pix.isPix y u v) :
    Calls Tryz.prog 98 #[.agg #[.int .i64 y, .int .i64 u, .int .i64 v]] w fun e w' => e = .returned (.tuple #[.agg #[.int .u8 (Pix.bR y u v), .int .u8 (Pix.bG y v), .int .u8 (Pix.bB y u v)], .bool true]) ∧ Below w.heap.size w w' := by
  obtain ⟨⟨h1, h2, h3⟩, h4, h5, h6⟩ := pix_bytes h
  exact colBack_yes y u v w h1 h2 h3 h4 h5 h6

set_option maxHeartbeats 400000 in
theorem fbBack_out (y u v : Int) (w : World) (h : ¬ Pix.isPix y u v) :
    Calls Tryz.prog 55 #[.agg #[.int .i64 y, .int .i64 u, .int .i64 v]] w fun e w' => e = .returned (.tuple #[.agg #[.int .u8 0, .int .u8 0, .int .u8 0], .int .i64 2]) ∧ Below w.heap.size w w' := by
  go_enter Tryz.func55, Tryz.ntmps55
  go_wp2_with (go_at_call 98; refine (colBack_out y u v _ h).mono ?_; rintro e w1 ⟨rfl, hb⟩; obtain ⟨hc, hf⟩ := bcell hb; have hz : w.heap.size + 1 < w1.heap.size := by (have := hb.size; simp at this; omega))
  have hw : Below w.heap.size w w1 := (((Below.refl _ _).alloc (Nat.le_refl _) _).alloc (by simp) _).trans (hb.mono (by simp; omega))
  refine bodyPost_ret (v := .tuple #[.agg #[.int .u8 0, .int .u8 0, .int .u8 0], .int .i64 2]) (by simp [results, Tryz.results55, go_sem, hc, hz]) rfl ⟨rfl, ?_⟩
  repeat (first | exact hw | refine Below.setCell ?_ (by first | (simp; done) | (simp; omega)) _ | refine Below.alloc ?_ (by first | (simp; done) | (simp; omega)) _ | refine below_drewN ?_ _)

set_option maxHeartbeats 400000 in
theorem fbBack_in (y u v : Int) (w : World) (h : Pix.isPix y u v) :
    Calls Tryz.prog 55 #[.agg #[.int .i64 y, .int .i64 u, .int .i64 v]] w fun e w' => e = .returned (.tuple #[.agg #[.int .u8 (Pix.bR y u v), .int .u8 (Pix.bG y v), .int .u8 (Pix.bB y u v)], .int .i64 0]) ∧ Below w.heap.size w w' := by
  go_enter Tryz.func55, Tryz.ntmps55
  go_wp2_with (go_at_call 98; refine (colBack_in y u v _ h).mono ?_; rintro e w1 ⟨rfl, hb⟩; obtain ⟨hc, hf⟩ := bcell hb; have hz : w.heap.size + 1 < w1.heap.size := by (have := hb.size; simp at this; omega))
  have hw : Below w.heap.size w w1 := (((Below.refl _ _).alloc (Nat.le_refl _) _).alloc (by simp) _).trans (hb.mono (by simp; omega))
  refine bodyPost_ret (v := .tuple #[.agg #[.int .u8 (Pix.bR y u v), .int .u8 (Pix.bG y v), .int .u8 (Pix.bB y u v)], .int .i64 0]) (by simp [results, Tryz.results55, go_sem, hc, hz]) rfl ⟨rfl, ?_⟩
  repeat (first | exact hw | refine Below.setCell ?_ (by first | (simp; done) | (simp; omega)) _ | refine Below.alloc ?_ (by first | (simp; done) | (simp; omega)) _ | refine below_drewN ?_ _)

end Go.Proofs.YtekfbphnoibnjaaGreatDoor
