/-
  Turned holds of the program at this commit: for every pixel and every three numbers the law answers true, with no condition.
-/
import Derived.Test.YtekfbphnoibnjaaColour
import Derived.Test.YtekfbphnoibnjaaArr
import Derived.ProofKit
import Derived.OpenShut
import Derived.Lib.SmallJoins
namespace Go.Proofs.Ytekfbphnoibnjaa
open Go.RowKit

theorem fbBack_turned (r g b : Int) (w : World) (r0 : 0 ≤ r) (r1 : r ≤ 255) (g0 : 0 ≤ g) (g1 : g ≤ 255) (b0 : 0 ≤ b) (b1 : b ≤ 255) :
    Calls Try.prog 6 #[.agg #[.int .i64 (Pix.tY r g b), .int .i64 (r - b), .int .i64 (Pix.tV r g b)]] w fun e w' => e = .returned (.tuple #[.agg #[.int .u8 r, .int .u8 g, .int .u8 b], .int .i64 0]) ∧ Below w.heap.size w w' := by
  have h := fbBack_in (Pix.tY r g b) (r - b) (Pix.tV r g b) w (Pix.turn_isPix r g b r0 r1 g0 g1 b0 b1)
  obtain ⟨e1, e2, e3⟩ := Pix.back_turn r g b
  rw [e1, e2, e3] at h
  exact h
theorem fbTurn_backed (y u v : Int) (w : World) (h : Pix.isPix y u v) :
    Calls Try.prog 5 #[.agg #[.int .u8 (Pix.bR y u v), .int .u8 (Pix.bG y v), .int .u8 (Pix.bB y u v)]] w fun e w' => e = .returned (.agg #[.int .i64 y, .int .i64 u, .int .i64 v]) ∧ Below w.heap.size w w' := by
  have k := fbTurn (Pix.bR y u v) (Pix.bG y v) (Pix.bB y u v) w h.1.1 h.1.2 h.2.1.1 h.2.1.2 h.2.2.1 h.2.2.2
  obtain ⟨e1, e2, e3⟩ := Pix.turn_back y u v
  rw [e1, e2, e3] at k
  exact k
theorem fbTurn_grey (a : Int) (w : World) (a0 : 0 ≤ a) (a1 : a ≤ 255) :
    Calls Try.prog 5 #[.agg #[.int .u8 a, .int .u8 a, .int .u8 a]] w fun e w' => e = .returned (.agg #[.int .i64 a, .int .i64 0, .int .i64 0]) ∧ Below w.heap.size w w' := by
  have k := fbTurn a a a w a0 a1 a0 a1 a0 a1
  obtain ⟨_, e2, e3⟩ := Pix.grey a
  rw [e2, e3, show a - a = 0 by omega] at k
  exact k
theorem fbTurn_one (w : World) :
    Calls Try.prog 5 #[.agg #[.int .u8 10, .int .u8 20, .int .u8 30]] w fun e w' => e = .returned (.agg #[.int .i64 20, .int .i64 (-20), .int .i64 0]) ∧ Below w.heap.size w w' :=
  fbTurn 10 20 30 w (by decide) (by decide) (by decide) (by decide) (by decide) (by decide)
theorem fbBack_one (w : World) :
    Calls Try.prog 6 #[.agg #[.int .i64 20, .int .i64 (-20), .int .i64 0]] w fun e w' => e = .returned (.tuple #[.agg #[.int .u8 10, .int .u8 20, .int .u8 30], .int .i64 0]) ∧ Below w.heap.size w w' :=
  fbBack_turned 10 20 30 w (by decide) (by decide) (by decide) (by decide) (by decide) (by decide)

set_option maxHeartbeats 400000 in
set_option maxRecDepth 100000 in
theorem knows_any (w : World) :
    Calls Try.prog 4 #[] w fun e w' => e = .returned (.bool true) ∧ Below w.heap.size w w' := by
  have q1 := eqPix
  have q2 := eqNum
  go_enter Try.func4, Try.ntmps4
  go_wp2_with (first
    | (go_at_call 5; refine (fbTurn_one _).mono ?_; rintro e w1 ⟨rfl, hb1⟩; obtain ⟨hc1, hf1⟩ := bcell hb1; have hz1 : w.heap.size ≤ w1.heap.size := hb1.size)
    | (go_at_call 6; refine (fbBack_one _).mono ?_; rintro e w2 ⟨rfl, hb2⟩; obtain ⟨hc2, hf2⟩ := bcell hb2; have hz2 : w1.heap.size < w2.heap.size := by (have := hb2.size; simp at this; omega)))
  go_ret
  refine ⟨rfl, ?_⟩
  have k1 : Below w.heap.size w (w1.alloc (.cells #[.int .i64 20, .int .i64 (-20), .int .i64 0] 24)) := hb1.alloc hz1 _
  have k2 : Below w.heap.size w w2 := k1.trans (hb2.mono (by simp; omega))
  exact k2.alloc (by omega) _

set_option maxHeartbeats 1000000 in
set_option maxRecDepth 100000 in
theorem turned_out (r g b y u v : Int) (w : World) (r0 : 0 ≤ r) (r1 : r ≤ 255) (g0 : 0 ≤ g) (g1 : g ≤ 255) (b0 : 0 ≤ b) (b1 : b ≤ 255) (h : ¬ Pix.isPix y u v) :
    Calls Try.prog 3 #[.agg #[.int .u8 r, .int .u8 g, .int .u8 b], .agg #[.int .i64 y, .int .i64 u, .int .i64 v]] w fun e w' => e = .returned (.bool true) ∧ Below w.heap.size w w' := by
  have q1 := eqPix
  have q2 := eqNum
  have t1 : True := trivial
  have t2 : True := trivial
  have t3 : True := trivial
  go_enter Try.func3, Try.ntmps3
  go_wp2_with (first
    | (go_at_call 4; refine (knows_any _).mono ?_; rintro e w1 ⟨rfl, hb1⟩; obtain ⟨hc1, hf1⟩ := bcell hb1; have hz1 : w.heap.size + 1 < w1.heap.size := (by have := hb1.size; simp at this; omega); have ha1 : w.heap.size < w1.heap.size := (by omega))
    | (go_at_call 5; have _t := t1; refine (fbTurn r g b _ r0 r1 g0 g1 b0 b1).mono ?_; clear t1; rintro e w2 ⟨rfl, hb2⟩; obtain ⟨hc2, hf2⟩ := bcell hb2; have hz2 : w1.heap.size ≤ w2.heap.size := hb2.size; have ha2 : w.heap.size < w2.heap.size := (by omega); have hd2 : w.heap.size + 1 < w2.heap.size := (by omega))
    | (go_at_call 6; have _t := t2; refine (fbBack_turned r g b _ r0 r1 g0 g1 b0 b1).mono ?_; clear t2; rintro e w3 ⟨rfl, hb3⟩; obtain ⟨hc3, hf3⟩ := bcell hb3; have hz3 : w2.heap.size < w3.heap.size := (by have := hb3.size; simp at this; omega); have ha3 : w.heap.size < w3.heap.size := (by omega); have hd3 : w.heap.size + 1 < w3.heap.size := (by omega))
    | (go_at_call 5; have _t := t3; refine (fbTurn_grey r _ r0 r1).mono ?_; clear t3; rintro e w4 ⟨rfl, hb4⟩; obtain ⟨hc4, hf4⟩ := bcell hb4; have hz4 : w3.heap.size < w4.heap.size := (by have := hb4.size; simp at this; omega); have ha4 : w.heap.size < w4.heap.size := (by omega); have hd4 : w.heap.size + 1 < w4.heap.size := (by omega); have he42 : w2.heap.size < w4.heap.size := (by omega))
    | (go_at_call 6; refine (fbBack_out y u v _ h).mono ?_; rintro e w5 ⟨rfl, hb5⟩; obtain ⟨hc5, hf5⟩ := bcell hb5; have hz5 : w4.heap.size < w5.heap.size := (by have := hb5.size; simp at this; omega); have ha5 : w.heap.size < w5.heap.size := (by omega); have hd5 : w.heap.size + 1 < w5.heap.size := (by omega); have he52 : w2.heap.size < w5.heap.size := (by omega); have he53 : w3.heap.size < w5.heap.size := (by omega)))
  go_ret
  refine ⟨rfl, ?_⟩
  have k1 : Below w.heap.size w w1 := (((Below.refl _ _).alloc (Nat.le_refl _) _).alloc (by simp) _).trans (hb1.mono (by simp; omega))
  have k2 : Below w.heap.size w w2 := k1.trans (hb2.mono (by omega))
  have k3 : Below w.heap.size w w3 := (k2.alloc (by omega) _).trans (hb3.mono (by simp; omega))
  have k4 : Below w.heap.size w w4 := (k3.alloc (by omega) _).trans (hb4.mono (by simp; omega))
  have k5 : Below w.heap.size w w5 := (k4.alloc (by omega) _).trans (hb5.mono (by simp; omega))
  exact k5.alloc (by omega) _

set_option maxHeartbeats 1000000 in
set_option maxRecDepth 100000 in
theorem turned_in (r g b y u v : Int) (w : World) (r0 : 0 ≤ r) (r1 : r ≤ 255) (g0 : 0 ≤ g) (g1 : g ≤ 255) (b0 : 0 ≤ b) (b1 : b ≤ 255) (h : Pix.isPix y u v) :
    Calls Try.prog 3 #[.agg #[.int .u8 r, .int .u8 g, .int .u8 b], .agg #[.int .i64 y, .int .i64 u, .int .i64 v]] w fun e w' => e = .returned (.bool true) ∧ Below w.heap.size w w' := by
  have q1 := eqPix
  have q2 := eqNum
  have t1 : True := trivial
  have t2 : True := trivial
  have t3 : True := trivial
  go_enter Try.func3, Try.ntmps3
  go_wp2_with (first
    | (go_at_call 4; refine (knows_any _).mono ?_; rintro e w1 ⟨rfl, hb1⟩; obtain ⟨hc1, hf1⟩ := bcell hb1; have hz1 : w.heap.size + 1 < w1.heap.size := (by have := hb1.size; simp at this; omega); have ha1 : w.heap.size < w1.heap.size := (by omega))
    | (go_at_call 5; have _t := t1; refine (fbTurn r g b _ r0 r1 g0 g1 b0 b1).mono ?_; clear t1; rintro e w2 ⟨rfl, hb2⟩; obtain ⟨hc2, hf2⟩ := bcell hb2; have hz2 : w1.heap.size ≤ w2.heap.size := hb2.size; have ha2 : w.heap.size < w2.heap.size := (by omega); have hd2 : w.heap.size + 1 < w2.heap.size := (by omega))
    | (go_at_call 6; have _t := t2; refine (fbBack_turned r g b _ r0 r1 g0 g1 b0 b1).mono ?_; clear t2; rintro e w3 ⟨rfl, hb3⟩; obtain ⟨hc3, hf3⟩ := bcell hb3; have hz3 : w2.heap.size < w3.heap.size := (by have := hb3.size; simp at this; omega); have ha3 : w.heap.size < w3.heap.size := (by omega); have hd3 : w.heap.size + 1 < w3.heap.size := (by omega))
    | (go_at_call 5; have _t := t3; refine (fbTurn_grey r _ r0 r1).mono ?_; clear t3; rintro e w4 ⟨rfl, hb4⟩; obtain ⟨hc4, hf4⟩ := bcell hb4; have hz4 : w3.heap.size < w4.heap.size := (by have := hb4.size; simp at this; omega); have ha4 : w.heap.size < w4.heap.size := (by omega); have hd4 : w.heap.size + 1 < w4.heap.size := (by omega); have he42 : w2.heap.size < w4.heap.size := (by omega))
    | (go_at_call 6; refine (fbBack_in y u v _ h).mono ?_; rintro e w5 ⟨rfl, hb5⟩; obtain ⟨hc5, hf5⟩ := bcell hb5; have hz5 : w4.heap.size < w5.heap.size := (by have := hb5.size; simp at this; omega); have ha5 : w.heap.size < w5.heap.size := (by omega); have hd5 : w.heap.size + 1 < w5.heap.size := (by omega); have he52 : w2.heap.size < w5.heap.size := (by omega); have he53 : w3.heap.size < w5.heap.size := (by omega))
    | (go_at_call 5; refine (fbTurn_backed y u v _ h).mono ?_; rintro e w6 ⟨rfl, hb6⟩; obtain ⟨hc6, hf6⟩ := bcell hb6; have hz6 : w5.heap.size < w6.heap.size := (by have := hb6.size; simp at this; omega); have ha6 : w.heap.size < w6.heap.size := (by omega); have hd6 : w.heap.size + 1 < w6.heap.size := (by omega)))
  go_ret
  refine ⟨rfl, ?_⟩
  have k1 : Below w.heap.size w w1 := (((Below.refl _ _).alloc (Nat.le_refl _) _).alloc (by simp) _).trans (hb1.mono (by simp; omega))
  have k2 : Below w.heap.size w w2 := k1.trans (hb2.mono (by omega))
  have k3 : Below w.heap.size w w3 := (k2.alloc (by omega) _).trans (hb3.mono (by simp; omega))
  have k4 : Below w.heap.size w w4 := (k3.alloc (by omega) _).trans (hb4.mono (by simp; omega))
  have k5 : Below w.heap.size w w5 := (k4.alloc (by omega) _).trans (hb5.mono (by simp; omega))
  have k6 : Below w.heap.size w w6 := (k5.alloc (by omega) _).trans (hb6.mono (by simp; omega))
  exact k6.alloc (by omega) _

theorem turned_any (r g b y u v : Int) (w : World) (r0 : 0 ≤ r) (r1 : r ≤ 255) (g0 : 0 ≤ g) (g1 : g ≤ 255) (b0 : 0 ≤ b) (b1 : b ≤ 255) :
    Calls Try.prog 3 #[.agg #[.int .u8 r, .int .u8 g, .int .u8 b], .agg #[.int .i64 y, .int .i64 u, .int .i64 v]] w fun e w' => e = .returned (.bool true) ∧ Below w.heap.size w w' := by
  by_cases h : Pix.isPix y u v
  · exact turned_in r g b y u v w r0 r1 g0 g1 b0 b1 h
  · exact turned_out r g b y u v w r0 r1 g0 g1 b0 b1 h

end Go.Proofs.Ytekfbphnoibnjaa
