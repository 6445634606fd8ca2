/-
  A step of the kinds Turn and Back: the program's answer is the document's.
-/
import Derived.Test.YtekfbphnoibnjaaGreatDoorRefCol
import Derived.Test.YtekfbphnoibnjaaGreatDoorArr
import Derived.Test.YtekfbphnoibnjaaGreatDoorOpen2
import Derived.Test.YtekfbphnoibnjaaGreatDoorNum
namespace Go.Proofs.YtekfbphnoibnjaaGreatDoor
open Go.RowKit

set_option maxHeartbeats 1000000 in
set_option maxRecDepth 100000 in
theorem colours_turn (s : ByteArray) (c0 c1 c2 r g b : Int) (vb vl : Value) (z : Int) (vf : Value) (w : World) (r0 : 0 ≤ r) (r1 : r ≤ 255) (g0 : 0 ≤ g) (g1 : g ≤ 255) (b0 : 0 ≤ b) (b1 : b ≤ 255) :
    Calls Tryz.prog 25 #[.agg #[.int .i64 1, .string s, .int .i64 c0, .int .i64 c1, .int .i64 c2, .int .u8 r, .int .u8 g, .int .u8 b, vb, vl, .int .i64 z, vf]] w fun e w' => e = .returned (.bool true) ∧ Below w.heap.size w w' := by
  have q2 := eqNum
  go_enter Tryz.func25, Tryz.ntmps25
  go_wp2_with (first
    | (go_at_call 53; refine (fbTurn r g b _ r0 r1 g0 g1 b0 b1).mono ?_; rintro e w1 ⟨rfl, hb1⟩; obtain ⟨hc1, hf1⟩ := bcell hb1; have hz1 : w.heap.size < w1.heap.size := (by have := hb1.size; simp at this; omega))
    | (go_at_call 54; refine (refTurn r g b _ r0 r1 g0 g1 b0 b1).mono ?_; rintro e w2 ⟨rfl, hb2⟩; obtain ⟨hc2, hf2⟩ := bcell hb2; have hz2 : w1.heap.size < w2.heap.size := (by have := hb2.size; simp at this; omega)))
  go_ret
  refine ⟨rfl, ?_⟩
  have k1 : Below w.heap.size w w1 := ((Below.refl _ _).alloc (Nat.le_refl _) _).trans (hb1.mono (by simp))
  have k2 : Below w.heap.size w w2 := (k1.alloc (by omega) _).trans (hb2.mono (by simp; omega))
  exact k2.alloc (by omega) _

set_option maxHeartbeats 1000000 in
set_option maxRecDepth 100000 in
theorem colours_out (s : ByteArray) (y u v r g b : Int) (vb vl : Value) (z : Int) (vf : Value) (w : World) (h : ¬ Pix.isPix y u v) :
    Calls Tryz.prog 25 #[.agg #[.int .i64 2, .string s, .int .i64 y, .int .i64 u, .int .i64 v, .int .u8 r, .int .u8 g, .int .u8 b, vb, vl, .int .i64 z, vf]] w fun e w' => e = .returned (.bool true) ∧ Below w.heap.size w w' := by
  have q1 := eqPix
  go_enter Tryz.func25, Tryz.ntmps25
  go_wp2_with (first
    | (go_at_call 55; refine (fbBack_out y u v _ h).mono ?_; rintro e w1 ⟨rfl, hb1⟩; obtain ⟨hc1, hf1⟩ := bcell hb1; have hz1 : w.heap.size < w1.heap.size := (by have := hb1.size; simp at this; omega))
    | (go_at_call 56; refine (refBack_out y u v _ h).mono ?_; rintro e w2 ⟨rfl, hb2⟩; obtain ⟨hc2, hf2⟩ := bcell hb2; have hz2 : w1.heap.size < w2.heap.size := (by have := hb2.size; simp at this; omega))
    | (go_at_call 57; refine (num_any _ _).mono ?_; rintro e w3 ⟨rfl, rfl⟩))
  go_ret
  refine ⟨rfl, ?_⟩
  have k1 : Below w.heap.size w w1 := ((Below.refl _ _).alloc (Nat.le_refl _) _).trans (hb1.mono (by simp))
  have k2 : Below w.heap.size w w2 := (k1.alloc (by omega) _).trans (hb2.mono (by simp; omega))
  exact k2.alloc (by omega) _

set_option maxHeartbeats 1000000 in
set_option maxRecDepth 100000 in
theorem colours_in (s : ByteArray) (y u v r g b : Int) (vb vl : Value) (z : Int) (vf : Value) (w : World) (h : Pix.isPix y u v) :
    Calls Tryz.prog 25 #[.agg #[.int .i64 2, .string s, .int .i64 y, .int .i64 u, .int .i64 v, .int .u8 r, .int .u8 g, .int .u8 b, vb, vl, .int .i64 z, vf]] w fun e w' => e = .returned (.bool true) ∧ Below w.heap.size w w' := by
  have q1 := eqPix
  go_enter Tryz.func25, Tryz.ntmps25
  go_wp2_with (first
    | (go_at_call 55; refine (fbBack_in y u v _ h).mono ?_; rintro e w1 ⟨rfl, hb1⟩; obtain ⟨hc1, hf1⟩ := bcell hb1; have hz1 : w.heap.size < w1.heap.size := (by have := hb1.size; simp at this; omega))
    | (go_at_call 56; refine (refBack_in y u v _ h).mono ?_; rintro e w2 ⟨rfl, hb2⟩; obtain ⟨hc2, hf2⟩ := bcell hb2; have hz2 : w1.heap.size < w2.heap.size := (by have := hb2.size; simp at this; omega))
    | (go_at_call 57; refine (num_any _ _).mono ?_; rintro e w3 ⟨rfl, rfl⟩))
  go_ret
  refine ⟨rfl, ?_⟩
  have k1 : Below w.heap.size w w1 := ((Below.refl _ _).alloc (Nat.le_refl _) _).trans (hb1.mono (by simp))
  have k2 : Below w.heap.size w w2 := (k1.alloc (by omega) _).trans (hb2.mono (by simp; omega))
  exact k2.alloc (by omega) _

set_option maxHeartbeats 1000000 in
theorem step_one (p : Value) (s : ByteArray) (c0 c1 c2 r g b : Int) (vb vl : Value) (z : Int) (vf : Value) (w : World) (r0 : 0 ≤ r) (r1 : r ≤ 255) (g0 : 0 ≤ g) (g1 : g ≤ 255) (b0 : 0 ≤ b) (b1 : b ≤ 255) :
    Calls Tryz.prog 15 #[p, .agg #[.int .i64 1, .string s, .int .i64 c0, .int .i64 c1, .int .i64 c2, .int .u8 r, .int .u8 g, .int .u8 b, vb, vl, .int .i64 z, vf]] w fun e w' => e = .returned (.bool true) ∧ Below w.heap.size w w' := by
  go_enter Tryz.func15, Tryz.ntmps15
  go_wp2_with (go_at_call 25; refine (colours_turn s c0 c1 c2 r g b vb vl z vf _ r0 r1 g0 g1 b0 b1).mono ?_; rintro e w1 ⟨rfl, hb1⟩)
  go_ret
  exact ⟨rfl, ((Below.refl _ _).alloc (Nat.le_refl _) _).trans (hb1.mono (by simp))⟩

set_option maxHeartbeats 1000000 in
theorem step_two (p : Value) (s : ByteArray) (y u v r g b : Int) (vb vl : Value) (z : Int) (vf : Value) (w : World) :
    Calls Tryz.prog 15 #[p, .agg #[.int .i64 2, .string s, .int .i64 y, .int .i64 u, .int .i64 v, .int .u8 r, .int .u8 g, .int .u8 b, vb, vl, .int .i64 z, vf]] w fun e w' => e = .returned (.bool true) ∧ Below w.heap.size w w' := by
  have H : ∀ w, Calls Tryz.prog 25 #[.agg #[.int .i64 2, .string s, .int .i64 y, .int .i64 u, .int .i64 v, .int .u8 r, .int .u8 g, .int .u8 b, vb, vl, .int .i64 z, vf]] w fun e w' => e = .returned (.bool true) ∧ Below w.heap.size w w' := by
    intro w
    by_cases h : Pix.isPix y u v
    · exact colours_in s y u v r g b vb vl z vf w h
    · exact colours_out s y u v r g b vb vl z vf w h
  go_enter Tryz.func15, Tryz.ntmps15
  go_wp2_with (go_at_call 25; refine (H _).mono ?_; rintro e w1 ⟨rfl, hb1⟩)
  go_ret
  exact ⟨rfl, ((Below.refl _ _).alloc (Nat.le_refl _) _).trans (hb1.mono (by simp))⟩

end Go.Proofs.YtekfbphnoibnjaaGreatDoor
