/-
  The opening that every script is played behind: it answers eleven steps, and writes nothing old.
-/
import Derived.Test.YtekfbphnoibnjaaGreatDoorOpening
namespace Go.Proofs.YtekfbphnoibnjaaGreatDoor
open Go.RowKit

set_option maxHeartbeats 400000 in
theorem black_any (w : World) :
    Calls Tryz.prog 24 #[] w fun e w' => (∃ s : ByteArray, e = .returned (.string s) ∧ s.size = 8) ∧ Below w.heap.size w w' := by
  have ta : True := trivial
  have tb : True := trivial
  have tc : True := trivial
  have t1 : True := trivial
  have t2 : True := trivial
  have t3 : True := trivial
  go_enter Tryz.func24, Tryz.ntmps24
  go_wp2_with (first
    | (go_at_call 50; refine (newWriter_any _).mono ?_; rintro e w1 ⟨b, rfl, hw1, hb1⟩)
    | (go_at_call 51; have _t := ta; refine (bitA _ w.heap.size b w.heap.size hw1).mono ?_; clear ta; rintro e w2 ⟨rfl, hw2, hb2⟩)
    | (go_at_call 51; have _t := tb; refine (bitB _ w.heap.size b w.heap.size hw2).mono ?_; clear tb; rintro e w3 ⟨rfl, hw3, hb3⟩)
    | (go_at_call 51; have _t := tc; refine (bitC _ w.heap.size b w.heap.size hw3).mono ?_; clear tc; rintro e w4 ⟨rfl, hw4, hb4⟩)
    | (go_at_call 51; have _t := t1; refine (bitD _ w.heap.size b w.heap.size 536870912 2048 hw4 (by decide) (by decide) (by decide) (by decide) (by decide) (by decide)).mono ?_; clear t1; rintro e w5 ⟨rfl, hw5, hb5⟩)
    | (go_at_call 51; have _t := t2; refine (bitD _ w.heap.size b w.heap.size 268435456 2112 hw5 (by decide) (by decide) (by decide) (by decide) (by decide) (by decide)).mono ?_; clear t2; rintro e w6 ⟨rfl, hw6, hb6⟩)
    | (go_at_call 51; have _t := t3; refine (bitD _ w.heap.size b w.heap.size 138412032 2174 hw6 (by decide) (by decide) (by decide) (by decide) (by decide) (by decide)).mono ?_; clear t3; rintro e w7 ⟨rfl, ⟨cs, hw7, hq7⟩, hb7⟩)
    | (go_at_call 52; refine (wend_any _ w.heap.size b w.heap.size _ _ cs hw7 (by decide) (by decide)).mono ?_; rintro e w8 ⟨⟨s, rfl, hs⟩, hb8⟩))
  go_ret
  have k1 : Below w.heap.size w w7 := (((((hb1.trans hb2).trans hb3).trans hb4).trans hb5).trans hb6).trans hb7
  refine ⟨⟨_, rfl, ?_⟩, k1.trans (hb8.mono k1.size)⟩
  rw [ByteArray.size_append, hs]; rfl

/-- A step of a script, as it lies in memory: twelve cells. -/
structure OpV where
  kind : Int
  s : ByteArray
  c0 : Int
  c1 : Int
  c2 : Int
  p0 : Int
  p1 : Int
  p2 : Int
  b : Option Addr
  bl : Nat
  bc : Nat
  l : Option Addr
  ll : Nat
  lc : Nat
  size : Int
  f : Option Addr
  fl : Nat
  fc : Nat

def OpV.cells (o : OpV) : List Value := [.int .i64 o.kind, .string o.s, .int .i64 o.c0, .int .i64 o.c1, .int .i64 o.c2, .int .u8 o.p0, .int .u8 o.p1, .int .u8 o.p2, .slice o.b o.bl o.bc, .slice o.l o.ll o.lc, .int .i64 o.size, .slice o.f o.fl o.fc]
def OpV.val (o : OpV) : Value := .agg #[.int .i64 o.kind, .string o.s, .int .i64 o.c0, .int .i64 o.c1, .int .i64 o.c2, .int .u8 o.p0, .int .u8 o.p1, .int .u8 o.p2, .slice o.b o.bl o.bc, .slice o.l o.ll o.lc, .int .i64 o.size, .slice o.f o.fl o.fc]
def opA (k : Int) : OpV := ⟨k, ⟨#[]⟩, 0, 0, 0, 0, 0, 0, none, 0, 0, none, 0, 0, 0, none, 0, 0⟩

/-- The opening's eleven steps. -/
def headOps (s : ByteArray) (b0 b1 b2 b4 : Nat) : List OpV :=
  [⟨1, ⟨#[]⟩, 0, 0, 0, 10, 20, 30, none, 0, 0, none, 0, 0, 0, none, 0, 0⟩,
   ⟨2, ⟨#[]⟩, 20, -20, 0, 0, 0, 0, none, 0, 0, none, 0, 0, 0, none, 0, 0⟩,
   ⟨2, ⟨#[]⟩, 0, 0, -2, 0, 0, 0, none, 0, 0, none, 0, 0, 0, none, 0, 0⟩,
   ⟨3, ⟨#[]⟩, 0, 0, 0, 0, 0, 0, some ⟨b0, 0, none⟩, 1, 1, none, 0, 0, 0, none, 0, 0⟩,
   ⟨3, ⟨#[]⟩, 0, 0, 0, 0, 0, 0, some ⟨b1, 0, none⟩, 1, 1, none, 0, 0, 0, none, 0, 0⟩,
   ⟨4, ⟨#[255, 255, 255, 254]⟩, 0, 0, 0, 0, 0, 0, none, 0, 0, some ⟨b2, 0, none⟩, 1, 1, 0, none, 0, 0⟩,
   ⟨4, ⟨#[]⟩, 0, 0, 0, 0, 0, 0, none, 0, 0, none, 0, 0, 0, none, 0, 0⟩,
   ⟨5, s, 0, 0, 0, 0, 0, 0, none, 0, 0, none, 0, 0, 0, none, 0, 0⟩,
   ⟨5, ⟨#[70, 66]⟩, 0, 0, 0, 0, 0, 0, none, 0, 0, none, 0, 0, 0, none, 0, 0⟩,
   ⟨6, ⟨#[]⟩, 0, 0, 0, 0, 0, 0, none, 0, 0, none, 0, 0, 4, some ⟨b4, 0, none⟩, 1, 1⟩,
   ⟨6, ⟨#[]⟩, 0, 0, 0, 0, 0, 0, none, 0, 0, none, 0, 0, 0, none, 0, 0⟩]

def opsCells (ops : List OpV) : List Value := ops.flatMap OpV.cells

/-- What stands in memory behind the opening: w0 ahead of it, wH behind it. -/
structure Opened (w0 wH : World) (g : Nat) (s : ByteArray) (b0 b1 b2 b3 b4 : Nat) : Prop where
  below : Below w0.heap.size w0 wH
  ssize : s.size = 8
  hg : wH.heap[g]? = some (.cells (opsCells (headOps s b0 b1 b2 b4)).toArray 54 (0, 0))
  h0 : wH.heap[b0]? = some (.cells #[.int .i64 7, .int .i64 1] 69 (0, 0))
  h1 : wH.heap[b1]? = some (.cells #[.int .i64 (-1), .int .i64 0] 69 (0, 0))
  h2 : wH.heap[b2]? = some (.cells #[.int .i64 7] 3 (0, 0))
  h3 : wH.ownsRow w0.heap.size 50 3 (.slice (some ⟨b3, 0, none⟩) 16 16) 16 (madeCells #[.int .u8 0, .int .u8 0, .int .u8 0] 48).toList
  h4 : wH.heap[b4]? = some (.cells #[.slice (some ⟨b3, 0, none⟩) 16 16] 58 (0, 0))
  lo : w0.heap.size ≤ b0
  o1 : b0 < b1
  o2 : b1 < b2
  o3 : b2 < b3
  o4 : b3 < b4
  o5 : b4 < g
  up : g < wH.heap.size

theorem infoPix : (Tryz.prog.info? 50).map (fun i => (i.zero, i.size, i.bytes)) = some (some (.agg #[.int .u8 0, .int .u8 0, .int .u8 0]), 3, 3) := by kernel_rfl

theorem heap_new (w : World) (o : Obj) : (w.alloc o).heap[w.heap.size]? = some o := by
  show (w.heap.push o)[w.heap.size]? = some o
  simp
theorem heap_old {w : World} {o x : Obj} {k : Nat} (h : w.heap[k]? = some x) : (w.alloc o).heap[k]? = some x := by
  have hk : k < w.heap.size := by
    rcases Nat.lt_or_ge k w.heap.size with h' | h'
    · exact h'
    · rw [Array.getElem?_eq_none h'] at h; cases h
  rw [Below.heap_alloc w o k hk]; exact h
theorem heap_grown {w w' : World} {x : Obj} {k : Nat} (hg : w.grownBy w' none) (h : w.heap[k]? = some x) : w'.heap[k]? = some x := by
  have hk : k < w.heap.size := by
    rcases Nat.lt_or_ge k w.heap.size with h' | h'
    · exact h'
    · rw [Array.getElem?_eq_none h'] at h; cases h
  rw [hg.block k hk (by simp)]; exact h

theorem opened_mk (w w1 w2 : World) (s : ByteArray) (hs : s.size = 8) (hb1 : Below w.heap.size w w1)
    (hown : w2.ownsRow w.heap.size 50 3 (.slice (some ⟨w1.heap.size + 1 + 1 + 1, 0, none⟩) 16 16) 16 (madeCells #[.int .u8 0, .int .u8 0, .int .u8 0] 48).toList)
    (hgrow : (((w1.alloc (.cells #[.int .i64 7, .int .i64 1] 69)).alloc (.cells #[.int .i64 (-1), .int .i64 0] 69)).alloc (.cells #[.int .i64 7] 3)).grownBy w2 none) :
    Opened w ((w2.alloc (.cells #[.slice (some ⟨w1.heap.size + 1 + 1 + 1, 0, none⟩) 16 16] 58)).alloc (.cells (opsCells (headOps s w1.heap.size (w1.heap.size + 1) (w1.heap.size + 1 + 1) w2.heap.size)).toArray 54))
      (w2.heap.size + 1) s w1.heap.size (w1.heap.size + 1) (w1.heap.size + 1 + 1) (w1.heap.size + 1 + 1 + 1) w2.heap.size := by
  have hsz := hgrow.size
  simp only [World.size_alloc] at hsz
  have hl := World.ownsRow.lt hown _ rfl
  have hz := hb1.size
  have g0 := heap_new w1 (.cells #[.int .i64 7, .int .i64 1] 69)
  have g1 := heap_new (w1.alloc (.cells #[.int .i64 7, .int .i64 1] 69)) (.cells #[.int .i64 (-1), .int .i64 0] 69)
  have g2 := heap_new ((w1.alloc (.cells #[.int .i64 7, .int .i64 1] 69)).alloc (.cells #[.int .i64 (-1), .int .i64 0] 69)) (.cells #[.int .i64 7] 3)
  have g4 := heap_new w2 (.cells #[.slice (some ⟨w1.heap.size + 1 + 1 + 1, 0, none⟩) 16 16] 58)
  have g5 := heap_new (w2.alloc (.cells #[.slice (some ⟨w1.heap.size + 1 + 1 + 1, 0, none⟩) 16 16] 58)) (.cells (opsCells (headOps s w1.heap.size (w1.heap.size + 1) (w1.heap.size + 1 + 1) w2.heap.size)).toArray 54)
  rw [World.size_alloc] at g1 g5
  rw [World.size_alloc, World.size_alloc] at g2
  have k1 : Below w.heap.size w w2 := (((hb1.alloc hz _).alloc (by simp; omega) _).alloc (by simp; omega) _).grown hgrow (by simp; omega) (fun _ h => by cases h)
  refine ⟨(k1.alloc (by omega) _).alloc (by simp; omega) _, hs, g5, heap_old (heap_old (heap_grown hgrow (heap_old (heap_old g0)))), heap_old (heap_old (heap_grown hgrow (heap_old g1))), heap_old (heap_old (heap_grown hgrow g2)), (hown.alloc _).alloc _, heap_old g4, hz, by omega, by omega, by omega, hl.2, by omega, by simp⟩

set_option maxHeartbeats 400000 in
set_option maxRecDepth 20000 in
theorem opening_any (w : World) :
    Calls Tryz.prog 14 #[] w fun e w' => ∃ g s b0 b1 b2 b3 b4, e = .returned (.slice (some ⟨g, 0, none⟩) 11 11) ∧ Opened w w' g s b0 b1 b2 b3 b4 := by
  obtain ⟨i0, hi, hz0, hz1, hz2⟩ := info_parts infoPix
  go_enter Tryz.func14, Tryz.ntmps14
  go_wp2_with (first
    | (go_at_call 24; refine (black_any _).mono ?_; rintro e w1 ⟨⟨s, rfl, hs⟩, hb1⟩; have hsz := hb1.size)
    | (at_make; refine wpList_make_full _ rfl _ _ 58 rfl w.heap.size 50 i0 (.agg #[.int .u8 0, .int .u8 0, .int .u8 0]) 3 Tryz.underlying58 hi hz0 hz1 _ _ _ _ 16 rfl rfl rfl rfl (by rw [hz2]; decide) (by decide) (by simp; omega) ?_; intro w2 hown hgrow))
  go_ret
  rw [World.size_alloc, World.size_alloc, World.size_alloc] at hown
  exact ⟨_, s, _, _, _, _, _, rfl, opened_mk w w1 w2 s hs hb1 hown hgrow⟩

end Go.Proofs.YtekfbphnoibnjaaGreatDoor
