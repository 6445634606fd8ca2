/-
  The opening that every script is played behind: it answers eleven steps, and writes nothing old. The caller's book while nothing has come out yet: settling it and looking at it answer true. A script is played: each step of the kinds in question answers true, then so does the whole. A script is played, the steps counted. errors.Is where the target is a sentinel: the sentinel itself, and another one. The number of what is wrong with bytes. errors.Is where what is wrong is wrapped with its place.
-/
import Derived.Test.YtekfbphnoibnjaaGreatDoorF32
import Derived.Test.YtekfbphnoibnjaaGreatDoorF01
import Derived.Test.YtekfbphnoibnjaaGreatDoorF11
import Derived.LaidEql
import Derived.Stop.Asserts
import Derived.RowKitTokens
namespace Go.Proofs.YtekfbphnoibnjaaGreatDoor
open Go.RowKit
set_option maxHeartbeats 400000 in
theorem black_any (w : World) :
  Calls Tryz.prog 24 #[] w fun e w' => (∃ s : ByteArray, e = .returned (.string s) /\ s.size = 8) /\ Below w.heap.size w w' := by
 have ta : True := trivial
 have tb : True := trivial
 have tc : True := trivial
 have t1 : True := trivial
 have t2 : True := trivial
 have t3 : True := trivial
 go_enter Tryz.func24, Tryz.ntmps24
 go_wp2_with (first
  | (go_at_call 50; refine (newWriter_any _).mono ?_; rintro e w1 ⟨b, rfl, hw1, hb1⟩)
  | (go_at_call 51; have _t := ta; refine (bitA _ w.heap.size b w.heap.size hw1).mono ?_; clear ta; rintro e w2 ⟨rfl, hw2, hb2⟩)
  | (go_at_call 51; have _t := tb; refine (bitB _ w.heap.size b w.heap.size hw2).mono ?_; clear tb; rintro e w3 ⟨rfl, hw3, hb3⟩)
  | (go_at_call 51; have _t := tc; refine (bitC _ w.heap.size b w.heap.size hw3).mono ?_; clear tc; rintro e w4 ⟨rfl, hw4, hb4⟩)
  | (go_at_call 51; have _t := t1; refine (bitD _ w.heap.size b w.heap.size 536870912 2048 hw4 (by decide) (by decide) (by decide) (by decide) (by decide) (by decide)).mono ?_; clear t1; rintro e w5 ⟨rfl, hw5, hb5⟩)
  | (go_at_call 51; have _t := t2; refine (bitD _ w.heap.size b w.heap.size 268435456 2112 hw5 (by decide) (by decide) (by decide) (by decide) (by decide) (by decide)).mono ?_; clear t2; rintro e w6 ⟨rfl, hw6, hb6⟩)
  | (go_at_call 51; have _t := t3; refine (bitD _ w.heap.size b w.heap.size 138412032 2174 hw6 (by decide) (by decide) (by decide) (by decide) (by decide) (by decide)).mono ?_; clear t3; rintro e w7 ⟨rfl, ⟨cs, hw7, hq7⟩, hb7⟩)
  | (go_at_call 52; refine (wend_any _ w.heap.size b w.heap.size _ _ cs hw7 (by decide) (by decide)).mono ?_; rintro e w8 ⟨⟨s, rfl, hs⟩, hb8⟩))
 go_ret
 have k1 : Below w.heap.size w w7 := (((((hb1.trans hb2).trans hb3).trans hb4).trans hb5).trans hb6).trans hb7
 refine ⟨⟨_, rfl, ?_⟩, k1.trans (hb8.mono k1.size)⟩
 rw [ByteArray.size_append, hs]; rfl
structure OpV where
 kind : Int
 s : ByteArray
 c0 : Int
 c1 : Int
 c2 : Int
 p0 : Int
 p1 : Int
 p2 : Int
 b : Option Addr
 bl : Nat
 bc : Nat
 l : Option Addr
 ll : Nat
 lc : Nat
 size : Int
 f : Option Addr
 fl : Nat
 fc : Nat
def OpV.cells (o : OpV) : List Value := [.int .i64 o.kind, .string o.s, .int .i64 o.c0, .int .i64 o.c1, .int .i64 o.c2, .int .u8 o.p0, .int .u8 o.p1, .int .u8 o.p2, .slice o.b o.bl o.bc, .slice o.l o.ll o.lc, .int .i64 o.size, .slice o.f o.fl o.fc]
def OpV.val (o : OpV) : Value := .agg #[.int .i64 o.kind, .string o.s, .int .i64 o.c0, .int .i64 o.c1, .int .i64 o.c2, .int .u8 o.p0, .int .u8 o.p1, .int .u8 o.p2, .slice o.b o.bl o.bc, .slice o.l o.ll o.lc, .int .i64 o.size, .slice o.f o.fl o.fc]
def opA (k : Int) : OpV := ⟨k, ⟨#[]⟩, 0, 0, 0, 0, 0, 0, none, 0, 0, none, 0, 0, 0, none, 0, 0⟩
def headOps (s : ByteArray) (b0 b1 b2 b4 : Nat) : List OpV :=
 [⟨1, ⟨#[]⟩, 0, 0, 0, 10, 20, 30, none, 0, 0, none, 0, 0, 0, none, 0, 0⟩,
  ⟨2, ⟨#[]⟩, 20, -20, 0, 0, 0, 0, none, 0, 0, none, 0, 0, 0, none, 0, 0⟩,
  ⟨2, ⟨#[]⟩, 0, 0, -2, 0, 0, 0, none, 0, 0, none, 0, 0, 0, none, 0, 0⟩,
  ⟨3, ⟨#[]⟩, 0, 0, 0, 0, 0, 0, some ⟨b0, 0, none⟩, 1, 1, none, 0, 0, 0, none, 0, 0⟩,
  ⟨3, ⟨#[]⟩, 0, 0, 0, 0, 0, 0, some ⟨b1, 0, none⟩, 1, 1, none, 0, 0, 0, none, 0, 0⟩,
  ⟨4, ⟨#[255, 255, 255, 254]⟩, 0, 0, 0, 0, 0, 0, none, 0, 0, some ⟨b2, 0, none⟩, 1, 1, 0, none, 0, 0⟩,
  ⟨4, ⟨#[]⟩, 0, 0, 0, 0, 0, 0, none, 0, 0, none, 0, 0, 0, none, 0, 0⟩,
  ⟨5, s, 0, 0, 0, 0, 0, 0, none, 0, 0, none, 0, 0, 0, none, 0, 0⟩,
  ⟨5, ⟨#[70, 66]⟩, 0, 0, 0, 0, 0, 0, none, 0, 0, none, 0, 0, 0, none, 0, 0⟩,
  ⟨6, ⟨#[]⟩, 0, 0, 0, 0, 0, 0, none, 0, 0, none, 0, 0, 4, some ⟨b4, 0, none⟩, 1, 1⟩,
  ⟨6, ⟨#[]⟩, 0, 0, 0, 0, 0, 0, none, 0, 0, none, 0, 0, 0, none, 0, 0⟩]
def opsCells (ops : List OpV) : List Value := ops.flatMap OpV.cells
structure Opened (w0 wH : World) (g : Nat) (s : ByteArray) (b0 b1 b2 b3 b4 : Nat) : Prop where
 below : Below w0.heap.size w0 wH
 ssize : s.size = 8
 hg : wH.heap[g]? = some (.cells (opsCells (headOps s b0 b1 b2 b4)).toArray 54 (0, 0))
 h0 : wH.heap[b0]? = some (.cells #[.int .i64 7, .int .i64 1] 69 (0, 0))
 h1 : wH.heap[b1]? = some (.cells #[.int .i64 (-1), .int .i64 0] 69 (0, 0))
 h2 : wH.heap[b2]? = some (.cells #[.int .i64 7] 3 (0, 0))
 h3 : wH.ownsRow w0.heap.size 50 3 (.slice (some ⟨b3, 0, none⟩) 16 16) 16 (madeCells #[.int .u8 0, .int .u8 0, .int .u8 0] 48).toList
 h4 : wH.heap[b4]? = some (.cells #[.slice (some ⟨b3, 0, none⟩) 16 16] 58 (0, 0))
 lo : w0.heap.size <= b0
 o1 : b0 < b1
 o2 : b1 < b2
 o3 : b2 < b3
 o4 : b3 < b4
 o5 : b4 < g
 up : g < wH.heap.size
theorem infoPix : (Tryz.prog.info? 50).map (fun i => (i.zero, i.size, i.bytes)) = some (some (.agg #[.int .u8 0, .int .u8 0, .int .u8 0]), 3, 3) := by kernel_rfl
theorem heap_new (w : World) (o : Obj) : (w.alloc o).heap[w.heap.size]? = some o := by
 show (w.heap.push o)[w.heap.size]? = some o
 simp
theorem heap_old {w : World} {o x : Obj} {k : Nat} (h : w.heap[k]? = some x) : (w.alloc o).heap[k]? = some x := by
 have hk : k < w.heap.size := by
  rcases Nat.lt_or_ge k w.heap.size with h' | h'
  ·exact h'
  ·rw [Array.getElem?_eq_none h'] at h; cases h
 rw [Below.heap_alloc w o k hk]; exact h
theorem heap_grown {w w' : World} {x : Obj} {k : Nat} (hg : w.grownBy w' none) (h : w.heap[k]? = some x) : w'.heap[k]? = some x := by
 have hk : k < w.heap.size := by
  rcases Nat.lt_or_ge k w.heap.size with h' | h'
  ·exact h'
  ·rw [Array.getElem?_eq_none h'] at h; cases h
 rw [hg.block k hk (by simp)]; exact h
theorem opened_mk (w w1 w2 : World) (s : ByteArray) (hs : s.size = 8) (hb1 : Below w.heap.size w w1)
  (hown : w2.ownsRow w.heap.size 50 3 (.slice (some ⟨w1.heap.size + 1 + 1 + 1, 0, none⟩) 16 16) 16 (madeCells #[.int .u8 0, .int .u8 0, .int .u8 0] 48).toList)
  (hgrow : (((w1.alloc (.cells #[.int .i64 7, .int .i64 1] 69)).alloc (.cells #[.int .i64 (-1), .int .i64 0] 69)).alloc (.cells #[.int .i64 7] 3)).grownBy w2 none) :
  Opened w ((w2.alloc (.cells #[.slice (some ⟨w1.heap.size + 1 + 1 + 1, 0, none⟩) 16 16] 58)).alloc (.cells (opsCells (headOps s w1.heap.size (w1.heap.size + 1) (w1.heap.size + 1 + 1) w2.heap.size)).toArray 54))
   (w2.heap.size + 1) s w1.heap.size (w1.heap.size + 1) (w1.heap.size + 1 + 1) (w1.heap.size + 1 + 1 + 1) w2.heap.size := by
 have hsz := hgrow.size
 simp only [World.size_alloc] at hsz
 have hl := World.ownsRow.lt hown _ rfl
 have hz := hb1.size
 have g0 := heap_new w1 (.cells #[.int .i64 7, .int .i64 1] 69)
 have g1 := heap_new (w1.alloc (.cells #[.int .i64 7, .int .i64 1] 69)) (.cells #[.int .i64 (-1), .int .i64 0] 69)
 have g2 := heap_new ((w1.alloc (.cells #[.int .i64 7, .int .i64 1] 69)).alloc (.cells #[.int .i64 (-1), .int .i64 0] 69)) (.cells #[.int .i64 7] 3)
 have g4 := heap_new w2 (.cells #[.slice (some ⟨w1.heap.size + 1 + 1 + 1, 0, none⟩) 16 16] 58)
 have g5 := heap_new (w2.alloc (.cells #[.slice (some ⟨w1.heap.size + 1 + 1 + 1, 0, none⟩) 16 16] 58)) (.cells (opsCells (headOps s w1.heap.size (w1.heap.size + 1) (w1.heap.size + 1 + 1) w2.heap.size)).toArray 54)
 rw [World.size_alloc] at g1 g5
 rw [World.size_alloc, World.size_alloc] at g2
 have k1 : Below w.heap.size w w2 := (((hb1.alloc hz _).alloc (by simp; omega) _).alloc (by simp; omega) _).grown hgrow (by simp; omega) (fun _ h => by cases h)
 refine ⟨(k1.alloc (by omega) _).alloc (by simp; omega) _, hs, g5, heap_old (heap_old (heap_grown hgrow (heap_old (heap_old g0)))), heap_old (heap_old (heap_grown hgrow (heap_old g1))), heap_old (heap_old (heap_grown hgrow g2)), (hown.alloc _).alloc _, heap_old g4, hz, by omega, by omega, by omega, hl.2, by omega, by simp⟩
set_option maxHeartbeats 400000 in
set_option maxRecDepth 20000 in
theorem opening_any (w : World) :
  Calls Tryz.prog 14 #[] w fun e w' => ∃ g s b0 b1 b2 b3 b4, e = .returned (.slice (some ⟨g, 0, none⟩) 11 11) /\ Opened w w' g s b0 b1 b2 b3 b4 := by
 obtain ⟨i0, hi, hz0, hz1, hz2⟩ := info_parts infoPix
 go_enter Tryz.func14, Tryz.ntmps14
 go_wp2_with (first
  | (go_at_call 24; refine (black_any _).mono ?_; rintro e w1 ⟨⟨s, rfl, hs⟩, hb1⟩; have hsz := hb1.size)
  | (at_make; refine wpList_make_full _ rfl _ _ 58 rfl w.heap.size 50 i0 (.agg #[.int .u8 0, .int .u8 0, .int .u8 0]) 3 Tryz.underlying58 hi hz0 hz1 _ _ _ _ 16 rfl rfl rfl rfl (by rw [hz2]; decide) (by decide) (by simp; omega) ?_; intro w2 hown hgrow))
 go_ret
 rw [World.size_alloc, World.size_alloc, World.size_alloc] at hown
 exact ⟨_, s, _, _, _, _, _, rfl, opened_mk w w1 w2 s hs hb1 hown hgrow⟩
end Go.Proofs.YtekfbphnoibnjaaGreatDoor
namespace Go.Proofs.YtekfbphnoibnjaaGreatDoor
open Go.RowKit
structure Book0 (w : World) (p : Nat) : Prop where
 c0 : w.cell? ⟨p, 0, none⟩ = some (.int .i64 0)
 c1 : w.cell? ⟨p, 1, none⟩ = some (.slice none 0 0)
 c2 : w.cell? ⟨p, 2, none⟩ = some (.slice none 0 0)
 c3 : w.cell? ⟨p, 3, none⟩ = some (.slice none 0 0)
 c4 : w.cell? ⟨p, 4, none⟩ = some (.slice none 0 0)
 c5 : w.cell? ⟨p, 5, none⟩ = some (.slice none 0 0)
 c6 : w.cell? ⟨p, 6, none⟩ = some (.slice none 0 0)
 c7 : w.cell? ⟨p, 7, none⟩ = some (.slice none 0 0)
 c8 : w.cell? ⟨p, 8, none⟩ = some (.slice none 0 0)
 fz : ∀ o, w.frozen? ⟨p, o, none⟩ = false
theorem Book0.of_block {w w' : World} {p : Nat} (h : Book0 w p) (hb : w'.heap[p]? = w.heap[p]?) : Book0 w' p := by
 have hc : ∀ o, w'.cell? ⟨p, o, none⟩ = w.cell? ⟨p, o, none⟩ := fun o => World.cell?_of_block (a := ⟨p, o, none⟩) hb
 exact ⟨(hc 0).trans h.c0, (hc 1).trans h.c1, (hc 2).trans h.c2, (hc 3).trans h.c3, (hc 4).trans h.c4, (hc 5).trans h.c5, (hc 6).trans h.c6, (hc 7).trans h.c7, (hc 8).trans h.c8,
  fun o => (World.frozen?_of_block (a := ⟨p, o, none⟩) hb).trans (h.fz o)⟩
end Go.Proofs.YtekfbphnoibnjaaGreatDoor
namespace Go.Proofs.YtekfbphnoibnjaaGreatDoor
open Go.RowKit
def Script (w : World) (a : Option Addr) (len : Nat) (ops : List OpV) : Prop :=
 (len = 0 /\ ops = []) \/
 ∃ b off, a = some ⟨b, off, none⟩ /\ b < w.heap.size /\ ops.length = len /\ ∀ i (h : i < ops.length) (j : Nat) (v : Value), ops[i].cells[j]? = some v -> w.cell? ⟨b, off + i * 12 + j, none⟩ = some v
theorem opsCells_get (ops : List OpV) (i : Nat) (h : i < ops.length) (j : Nat) (v : Value) (hv : ops[i].cells[j]? = some v) : (opsCells ops)[i * 12 + j]? = some v := by
 induction ops generalizing i with
 | nil => simp at h
 | cons o ops ih =>
  have hl : o.cells.length = 12 := rfl
  rw [show opsCells (o :: ops) = o.cells ++ opsCells ops by simp [opsCells]]
  cases i with
  | zero =>
   simp only [List.getElem_cons_zero] at hv
   have hj : j < o.cells.length := by
    rcases Nat.lt_or_ge j o.cells.length with h' | h'
    ·exact h'
    ·rw [List.getElem?_eq_none h'] at hv; cases hv
   rw [Nat.zero_mul, Nat.zero_add, List.getElem?_append_left hj]; exact hv
  | succ i =>
   simp only [List.getElem_cons_succ] at hv
   rw [List.getElem?_append_right (by rw [hl]; omega), hl, show (i + 1) * 12 + j - 12 = i * 12 + j by omega]
   exact ih i (by simpa using h) hv
theorem head_cell {w : World} {g : Nat} {hd : List OpV} (h : w.heap[g]? = some (.cells (opsCells hd).toArray 54 (0, 0))) (i : Nat) (hi : i < hd.length) (j : Nat) (v : Value) (hv : hd[i].cells[j]? = some v) :
  w.cell? ⟨g, i * 12 + j, none⟩ = some v := by
 rw [cell_of_row w g _ _ _ _ h]
 simpa using opsCells_get hd i hi j v hv
def world0 : Obj := .cells #[.int .i64 0, .slice none 0 0, .slice none 0 0, .slice none 0 0, .slice none 0 0, .slice none 0 0, .slice none 0 0, .slice none 0 0, .slice none 0 0] 46
theorem book0_new {w wH : World} (hb : Below (w.alloc world0).heap.size (w.alloc world0) wH) : Book0 wH w.heap.size := by
 have hh : wH.heap[w.heap.size]? = some world0 := (hb.block w.heap.size (by simp)).trans (heap_new w world0)
 have hc := fun j => cell_of_row wH w.heap.size j _ _ _ hh
 exact ⟨hc 0, hc 1, hc 2, hc 3, hc 4, hc 5, hc 6, hc 7, hc 8, fun j => frozen_of_row wH w.heap.size j _ _ hh⟩
end Go.Proofs.YtekfbphnoibnjaaGreatDoor
namespace Go.Proofs.YtekfbphnoibnjaaGreatDoor
open Go.RowKit
structure PlayerN (lo up : Int) (w : World) (p g N : Nat) (hd ops : List OpV) (I : Nat -> World -> Prop) : Prop where
 below : ∀ c w', I c w' -> Below w.heap.size w w'
 head : ∀ c w', I c w' -> w'.heap[g]? = some (.cells (opsCells hd).toArray 54 (0, 0))
 alloc : ∀ c w' o, I c w' -> I c (w'.alloc o)
 mono : ∀ c w', I c w' -> I (c + 1) w'
 step : ∀ c w' o, c < N -> I c w' -> o ∈ hd \/ o ∈ ops -> lo <= o.kind -> o.kind <= up -> Calls Tryz.prog 15 #[.pointer (some ⟨p, 0, none⟩), o.val] w' fun e w'' => e = .returned (.bool true) /\ I (c + 1) w''
 settle : ∀ c w', c <= N -> I c w' -> Calls Tryz.prog 16 #[.pointer (some ⟨p, 0, none⟩)] w' fun e w'' => e = .returned (.bool true) /\ I c w''
 looks : ∀ c w', c <= N -> I c w' -> Calls Tryz.prog 17 #[.pointer (some ⟨p, 0, none⟩)] w' fun e w'' => e = .returned (.bool true) /\ I c w''
set_option maxHeartbeats 1000000 in
set_option maxRecDepth 20000 in
theorem plays_cnt (lo up : Int) (w : World) (a : Option Addr) (len cap : Nat) (ops : List OpV) (hs : Script w a len ops) (hl : len <= maxLen)
  (start : ∀ wH g s b0 b1 b2 b3 b4, Opened (w.alloc world0) wH g s b0 b1 b2 b3 b4 -> ∃ I : Nat -> World -> Prop, I 0 wH /\ PlayerN lo up w w.heap.size g (11 + len) (headOps s b0 b1 b2 b4) ops I) :
  Calls Tryz.prog 9 #[.slice a len cap, .int .i64 lo, .int .i64 up] w fun e w' => e = .returned (.bool true) /\ Below w.heap.size w w' := by
 unfold maxLen at hl
 go_enter Tryz.func9, Tryz.ntmps9
 go_wp2_with (go_at_call 14; refine (opening_any _).mono ?_; rintro e wH ⟨g, s, b0, b1, b2, b3, b4, rfl, hop⟩)
 obtain ⟨I, hI, P⟩ := start wH g s b0 b1 b2 b3 b4 hop
 have HS : Hid (Script w a len ops) := hs
 have HP : Hid (PlayerN lo up w w.heap.size g (11 + len) (headOps s b0 b1 b2 b4) ops I) := P
 clear hs hop start P
 go_loopw [9] (fun i wr => ∃ k : Nat, k <= 11 /\ i = .int .i64 k /\ I k wr) (fun i _ => 11 - (intOf i).toNat)
 case atStart => exact ⟨0, by omega, rfl, hI⟩
 case round =>
  obtain ⟨k, hk, rfl, hIr⟩ := hrel
  by_cases hlt : k < 11
  ·have hlen : (headOps s b0 b1 b2 b4).length = 11 := rfl
   obtain ⟨o, ho⟩ : ∃ o, o = (headOps s b0 b1 b2 b4)[k]'(by rw [hlen]; exact hlt) := ⟨_, rfl⟩
   have hc : ∀ j v, o.cells[j]? = some v -> wr.cell? ⟨g, k * 12 + j, none⟩ = some v := fun j v hv => head_cell (HP.out.head _ wr hIr) k (by rw [hlen]; exact hlt) j v (by rw [<- ho]; exact hv)
   have hm : Hid (o ∈ headOps s b0 b1 b2 b4) := by rw [ho]; exact List.getElem_mem _
   obtain ⟨kd, os, c0, c1, c2, p0, p1, p2, va, va1, va2, vl, vl1, vl2, sz, vf, vf1, vf2⟩ := o
   have i0 := hc 0 _ rfl
   have i1 := hc 1 _ rfl
   have i2 := hc 2 _ rfl
   have i3 := hc 3 _ rfl
   have i4 := hc 4 _ rfl
   have i5 := hc 5 _ rfl
   have i6 := hc 6 _ rfl
   have i7 := hc 7 _ rfl
   have i8 := hc 8 _ rfl
   have i9 := hc 9 _ rfl
   have i10 := hc 10 _ rfl
   have i11 := hc 11 _ rfl
   clear hc ho
   rw [Nat.add_zero] at i0
   have hlt' : (k : Int) < 11 := by omega
   by_cases h1 : lo <= kd
   ·by_cases h2 : kd <= up
    ·have hst := HP.out.step k wr _ (by omega) hIr (.inl hm.out) h1 h2
     go_wp2_with (go_at_call 15; refine hst.mono ?_; rintro e w1 ⟨rfl, hI1⟩)
     go_roundw
     case rel => exact ⟨k + 1, by omega, by go_num, hI1⟩
     case measure => simp [intOf]; omega
    ·go_wp2
     go_roundw
     case rel => exact ⟨k + 1, by omega, by go_num, HP.out.mono _ _ hIr⟩
     case measure => simp [intOf]; omega
   ·go_wp2
    go_roundw
    case rel => exact ⟨k + 1, by omega, by go_num, HP.out.mono _ _ hIr⟩
    case measure => simp [intOf]; omega
  ·have hge : ¬ (k : Int) < 11 := by omega
   obtain ⟨k9, h9⟩ : ∃ k9, k9 = k := ⟨k, rfl⟩
   subst h9
   have hIr' : I 11 wr := by rw [show (11 : Nat) = k9 by omega]; exact hIr
   have HIR : Hid (I 11 wr) := hIr'
   clear hlt hk hI hIr hIr'
   go_wp2
   go_loopw [11] (fun i wr => ∃ k : Nat, k <= len /\ i = .int .i64 k /\ I (11 + k) wr) (fun i _ => len - (intOf i).toNat)
   case atStart => exact ⟨0, by omega, rfl, HIR.out⟩
   case round =>
    clear HIR
    obtain ⟨k, hk, rfl, hIr⟩ := hrel
    by_cases hend : k < len /\ (k : Int) < 1152921504606846976
    ·obtain ⟨hlt, hM⟩ := hend
     obtain ⟨b, off, ha, hbs, hlen, hcl⟩ : ∃ b off, a = some ⟨b, off, none⟩ /\ b < w.heap.size /\ ops.length = len /\ ∀ i (h : i < ops.length) (j : Nat) (v : Value), ops[i].cells[j]? = some v -> w.cell? ⟨b, off + i * 12 + j, none⟩ = some v := by
      rcases HS.out with ⟨h, _⟩ | h
      ·omega
      ·exact h
     subst ha
     obtain ⟨o, ho⟩ : ∃ o, o = ops[k]'(by rw [hlen]; exact hlt) := ⟨_, rfl⟩
     have hbel := HP.out.below _ wr hIr
     have hc : ∀ j v, o.cells[j]? = some v -> wr.cell? ⟨b, off + k * 12 + j, none⟩ = some v := fun j v hv => (hbel.cell (p := ⟨b, off + k * 12 + j, none⟩) hbs).trans (hcl k (by rw [hlen]; exact hlt) j v (by rw [<- ho]; exact hv))
     have hm : Hid (o ∈ ops) := by rw [ho]; exact List.getElem_mem _
     obtain ⟨kd, os, c0, c1, c2, p0, p1, p2, va, va1, va2, vl, vl1, vl2, sz, vf, vf1, vf2⟩ := o
     have i0 := hc 0 _ rfl
     have i1 := hc 1 _ rfl
     have i2 := hc 2 _ rfl
     have i3 := hc 3 _ rfl
     have i4 := hc 4 _ rfl
     have i5 := hc 5 _ rfl
     have i6 := hc 6 _ rfl
     have i7 := hc 7 _ rfl
     have i8 := hc 8 _ rfl
     have i9 := hc 9 _ rfl
     have i10 := hc 10 _ rfl
     have i11 := hc 11 _ rfl
     clear hc ho hcl hbel
     rw [Nat.add_zero] at i0
     have hlt' : (k : Int) < (len : Int) := by omega
     have hIa := HP.out.alloc _ wr (.cells #[.int .i64 kd, .string os, .int .i64 c0, .int .i64 c1, .int .i64 c2, .int .u8 p0, .int .u8 p1, .int .u8 p2, .slice va va1 va2, .slice vl vl1 vl2, .int .i64 sz, .slice vf vf1 vf2] 54) hIr
     by_cases h1 : kd < lo
     ·go_wp2
      go_roundw
      case rel => exact ⟨k + 1, by omega, by go_num, HP.out.mono _ _ hIa⟩
      case measure => simp [intOf]; omega
     ·by_cases h2 : up < kd
      ·go_wp2
       go_roundw
       case rel => exact ⟨k + 1, by omega, by go_num, HP.out.mono _ _ hIa⟩
       case measure => simp [intOf]; omega
      ·have hst := HP.out.step (11 + k) _ _ (by omega) hIa (.inr hm.out) (by simpa using h1) (by simpa using h2)
       rcases h3 : ((k : Int) % 3 == 2) with _ | _
       ·go_wp2_with (first
         | (go_at_call 15; refine hst.mono ?_; rintro e w1 ⟨rfl, hI1⟩)
         | (go_at_call 17; refine (HP.out.looks _ _ (by omega) hI1).mono ?_; rintro e w3 ⟨rfl, hI3⟩))
        go_roundw
        case rel => exact ⟨k + 1, by omega, by go_num, hI3⟩
        case measure => simp [intOf]; omega
       ·go_wp2_with (first
         | (go_at_call 15; refine hst.mono ?_; rintro e w1 ⟨rfl, hI1⟩)
         | (go_at_call 16; refine (HP.out.settle _ _ (by omega) hI1).mono ?_; rintro e w2 ⟨rfl, hI2⟩)
         | (go_at_call 17; refine (HP.out.looks _ _ (by omega) hI2).mono ?_; rintro e w3 ⟨rfl, hI3⟩))
        go_roundw
        case rel => exact ⟨k + 1, by omega, by go_num, hI3⟩
        case measure => simp [intOf]; omega
    ·by_cases hlt : k < len
     ·have hM : ¬ (k : Int) < 1152921504606846976 := fun h => hend ⟨hlt, h⟩
      have hlt' : (k : Int) < (len : Int) := by omega
      go_wp2_with (first
       | (go_at_call 16; refine (HP.out.settle _ _ (by omega) hIr).mono ?_; rintro e w2 ⟨rfl, hI2⟩)
       | (go_at_call 17; refine (HP.out.looks _ _ (by omega) hI2).mono ?_; rintro e w3 ⟨rfl, hI3⟩))
      go_ret
      exact ⟨rfl, HP.out.below _ _ hI3⟩
     ·go_wp2_with (first
       | (go_at_call 16; refine (HP.out.settle _ _ (by omega) hIr).mono ?_; rintro e w2 ⟨rfl, hI2⟩)
       | (go_at_call 17; refine (HP.out.looks _ _ (by omega) hI2).mono ?_; rintro e w3 ⟨rfl, hI3⟩))
      go_ret
      exact ⟨rfl, HP.out.below _ _ hI3⟩
end Go.Proofs.YtekfbphnoibnjaaGreatDoor
namespace Go.Proofs.YtekfbphnoibnjaaGreatDoor
open Go.RowKit Go.Extern.Stop Go.Stop Go.Extern
theorem isTypeOf (v : Value) (w : World) : (Extern.ReflectliteType.typeOf #[.iface 278 v]).run Tryz.prog w = .ok (.iface 220 (.agg #[.pointer (some ⟨10, 278, none⟩)])) w := by kernel_rfl
def cmpEntry : Array Value -> Sem Value := Extern.ReflectliteType.method fun t => do Extern.Rtype.noPackHeld "Comparable" t; pure (.bool (<- typeInfo t).comparable)
theorem isComparable (w : World) : (cmpEntry #[.agg #[.pointer (some ⟨10, 278, none⟩)]]).run Tryz.prog w = .ok (.bool true) w := by kernel_rfl
theorem isMethodComparable (v : Value) (w : World) : (Go.method 408 220 v "Comparable").run Tryz.prog w = .ok (214, v) w := by kernel_rfl
theorem isComp : (Tryz.prog.info? 278).map (·.comparable) = some true := by kernel_rfl
theorem isSize : (Tryz.prog.info? 297).map (·.size) = some 1 := by kernel_rfl
theorem noIsE (v : Value) (xT : TypeId) (w : World) : (Instr.typeAssert (.iface 278 v) xT 231 true).run Tryz.prog w = .ok (.tuple #[.nilIface, .bool false]) w := run_typeAssert_lacksB Tryz.underlying231 (by kernel_rfl) (by kernel_rfl) v xT w
theorem noUnwrapE (v : Value) (xT : TypeId) (w : World) : (Instr.typeAssert (.iface 278 v) xT 227 true).run Tryz.prog w = .ok (.tuple #[.nilIface, .bool false]) w := run_typeAssert_lacksB Tryz.underlying227 (by kernel_rfl) (by kernel_rfl) v xT w
theorem noUnwrapsE (v : Value) (xT : TypeId) (w : World) : (Instr.typeAssert (.iface 278 v) xT 228 true).run Tryz.prog w = .ok (.tuple #[.nilIface, .bool false]) w := run_typeAssert_lacksB Tryz.underlying228 (by kernel_rfl) (by kernel_rfl) v xT w
set_option maxHeartbeats 4000000 in
set_option maxRecDepth 100000 in
theorem is_same (a : Addr) (w : World) :
  Calls Tryz.prog 49 #[.iface 278 (.pointer (some a)), .iface 278 (.pointer (some a))] w fun e w' => e = .returned (.bool true) /\ w' = w := by
 obtain ⟨i, hi, hcmp⟩ := Option.map_eq_some_iff.1 isComp
 obtain ⟨j, hj, hjs⟩ := Option.map_eq_some_iff.1 isSize
 have h8 := @run_callFunc_extern Tryz.prog 92 _ Extern.ReflectliteType.typeOf Tryz.func92 (by kernel_rfl) (by kernel_rfl) (by kernel_rfl) (by kernel_rfl)
 have h32 := @run_callFunc_extern Tryz.prog 214 _ cmpEntry Tryz.func214 (by kernel_rfl) (by kernel_rfl) (by kernel_rfl) (by kernel_rfl)
 have tT := isTypeOf
 have cT := isComparable
 have mR := isMethodComparable
 have heq := run_eql_iface_ptr_same (P := Tryz.prog) w a Tryz.underlying62 Tryz.underlying278 hi hcmp hj
 go_enter Tryz.func49, Tryz.ntmps49
 go_wp2
 refine wp_loop_rounds 1 ?_
 rw [rounds_succ]
 go_wp2
 go_ret
 exact ⟨rfl, rfl⟩
set_option maxHeartbeats 4000000 in
set_option maxRecDepth 100000 in
theorem is_other (a b : Addr) (ca cb : Array Value) (ta tb : TypeId) (w : World) (hne : a ≠ b) (ha : w.heap[a.block]? = some (.cells ca ta (0, 0))) (hb : w.heap[b.block]? = some (.cells cb tb (0, 0))) :
  Calls Tryz.prog 49 #[.iface 278 (.pointer (some a)), .iface 278 (.pointer (some b))] w fun e w' => e = .returned (.bool false) /\ w' = w := by
 obtain ⟨i, hi, hcmp⟩ := Option.map_eq_some_iff.1 isComp
 obtain ⟨j, hj, hjs⟩ := Option.map_eq_some_iff.1 isSize
 have h8 := @run_callFunc_extern Tryz.prog 92 _ Extern.ReflectliteType.typeOf Tryz.func92 (by kernel_rfl) (by kernel_rfl) (by kernel_rfl) (by kernel_rfl)
 have h32 := @run_callFunc_extern Tryz.prog 214 _ cmpEntry Tryz.func214 (by kernel_rfl) (by kernel_rfl) (by kernel_rfl) (by kernel_rfl)
 have tT := isTypeOf
 have cT := isComparable
 have mR := isMethodComparable
 have nE := noIsE
 have uE := noUnwrapE
 have vE := noUnwrapsE
 have heq := run_eql_iface_ptr_other (P := Tryz.prog) w Tryz.underlying62 Tryz.underlying278 hi hcmp hj (by rw [hjs]; decide) hne ha hb
 go_enter Tryz.func49, Tryz.ntmps49
 go_wp2
 refine wp_loop_rounds 1 ?_
 rw [rounds_succ]
 go_wp2
 go_ret
 exact ⟨rfl, rfl⟩
end Go.Proofs.YtekfbphnoibnjaaGreatDoor
namespace Go.Proofs.YtekfbphnoibnjaaGreatDoor
open Go.RowKit
theorem errV5 (a0 a1 a2 : Addr) : errV a0 a1 a2 5 = .iface 278 (.pointer (some a0)) := by unfold errV; rw [if_neg (by decide), if_pos rfl]
theorem errV6 (a0 a1 a2 : Addr) : errV a0 a1 a2 6 = .iface 278 (.pointer (some a1)) := by unfold errV; rw [if_neg (by decide), if_neg (by decide), if_pos rfl]
theorem errV7 (a0 a1 a2 : Addr) : errV a0 a1 a2 7 = .iface 278 (.pointer (some a2)) := by unfold errV; rw [if_neg (by decide), if_neg (by decide), if_neg (by decide)]
theorem errV0 (a0 a1 a2 : Addr) : errV a0 a1 a2 0 = .nilIface := by unfold errV; rw [if_pos rfl]
theorem is_snt {w : World} {A : Nat -> Addr} (E : ErrsA w A) (x y : Nat × Nat) (hx : x ∈ sntG) (hy : y ∈ sntG) (hn : x.1 ≠ y.1) :
  Calls Tryz.prog 49 #[.iface 278 (.pointer (some (A x.1))), .iface 278 (.pointer (some (A y.1)))] w fun e w' => e = .returned (.bool false) /\ w' = w := by
 obtain ⟨c, t, h⟩ := E.h x hx
 obtain ⟨c', t', h'⟩ := E.h y hy
 exact is_other _ _ c c' t t' w (E.n x hx y hy hn) h h'
set_option maxHeartbeats 1000000 in
theorem pErrno4 (w : World) (A : Nat -> Addr) (E : ErrsA w A) :
  Calls Tryz.prog 23 #[.iface 278 (.pointer (some (A 4)))] w fun x w' => x = .returned (.int .i64 4) /\ w' = w := by
 have v0 := E.v (4, 0) (by decide)
 clear E
 dsimp only at v0
 go_enter Tryz.func23, Tryz.ntmps23
 go_wp2_with (first
  | (go_at_call 49; refine (is_same (A 4) _).mono ?_; rintro e w' ⟨rfl, hw⟩; rw [hw]; clear hw))
 go_ret
 exact ⟨rfl, rfl⟩
set_option maxHeartbeats 1000000 in
theorem pErrno5 (w : World) (A : Nat -> Addr) (E : ErrsA w A) :
  Calls Tryz.prog 23 #[.iface 278 (.pointer (some (A 5)))] w fun x w' => x = .returned (.int .i64 5) /\ w' = w := by
 have v0 := E.v (4, 0) (by decide)
 have c0 := is_snt E (5, 1) (4, 0) (by decide) (by decide) (by decide)
 have T0 : Hid True := trivial
 have v1 := E.v (5, 1) (by decide)
 clear E
 dsimp only at v0 v1 c0
 go_enter Tryz.func23, Tryz.ntmps23
 go_wp2_with (first
  | (clear T0; go_at_call 49; refine c0.mono ?_; rintro e w' ⟨rfl, hw⟩; rw [hw]; clear hw)
  | (go_at_call 49; refine (is_same (A 5) _).mono ?_; rintro e w' ⟨rfl, hw⟩; rw [hw]; clear hw))
 go_ret
 exact ⟨rfl, rfl⟩
set_option maxHeartbeats 1000000 in
theorem pErrno10 (w : World) (A : Nat -> Addr) (E : ErrsA w A) :
  Calls Tryz.prog 23 #[.iface 278 (.pointer (some (A 10)))] w fun x w' => x = .returned (.int .i64 10) /\ w' = w := by
 have v0 := E.v (4, 0) (by decide)
 have c0 := is_snt E (10, 2) (4, 0) (by decide) (by decide) (by decide)
 have T0 : Hid True := trivial
 have v1 := E.v (5, 1) (by decide)
 have c1 := is_snt E (10, 2) (5, 1) (by decide) (by decide) (by decide)
 have T1 : Hid True := trivial
 have v2 := E.v (10, 2) (by decide)
 clear E
 dsimp only at v0 v1 v2 c0 c1
 go_enter Tryz.func23, Tryz.ntmps23
 go_wp2_with (first
  | (clear T0; go_at_call 49; refine c0.mono ?_; rintro e w' ⟨rfl, hw⟩; rw [hw]; clear hw)
  | (clear T1; go_at_call 49; refine c1.mono ?_; rintro e w' ⟨rfl, hw⟩; rw [hw]; clear hw)
  | (go_at_call 49; refine (is_same (A 10) _).mono ?_; rintro e w' ⟨rfl, hw⟩; rw [hw]; clear hw))
 go_ret
 exact ⟨rfl, rfl⟩
set_option maxHeartbeats 1000000 in
theorem pErrno8 (w : World) (A : Nat -> Addr) (E : ErrsA w A) :
  Calls Tryz.prog 23 #[.iface 278 (.pointer (some (A 8)))] w fun x w' => x = .returned (.int .i64 8) /\ w' = w := by
 have v0 := E.v (4, 0) (by decide)
 have c0 := is_snt E (8, 3) (4, 0) (by decide) (by decide) (by decide)
 have T0 : Hid True := trivial
 have v1 := E.v (5, 1) (by decide)
 have c1 := is_snt E (8, 3) (5, 1) (by decide) (by decide) (by decide)
 have T1 : Hid True := trivial
 have v2 := E.v (10, 2) (by decide)
 have c2 := is_snt E (8, 3) (10, 2) (by decide) (by decide) (by decide)
 have T2 : Hid True := trivial
 have v3 := E.v (8, 3) (by decide)
 clear E
 dsimp only at v0 v1 v2 v3 c0 c1 c2
 go_enter Tryz.func23, Tryz.ntmps23
 go_wp2_with (first
  | (clear T0; go_at_call 49; refine c0.mono ?_; rintro e w' ⟨rfl, hw⟩; rw [hw]; clear hw)
  | (clear T1; go_at_call 49; refine c1.mono ?_; rintro e w' ⟨rfl, hw⟩; rw [hw]; clear hw)
  | (clear T2; go_at_call 49; refine c2.mono ?_; rintro e w' ⟨rfl, hw⟩; rw [hw]; clear hw)
  | (go_at_call 49; refine (is_same (A 8) _).mono ?_; rintro e w' ⟨rfl, hw⟩; rw [hw]; clear hw))
 go_ret
 exact ⟨rfl, rfl⟩
set_option maxHeartbeats 1000000 in
theorem pErrno9 (w : World) (A : Nat -> Addr) (E : ErrsA w A) :
  Calls Tryz.prog 23 #[.iface 278 (.pointer (some (A 9)))] w fun x w' => x = .returned (.int .i64 9) /\ w' = w := by
 have v0 := E.v (4, 0) (by decide)
 have c0 := is_snt E (9, 4) (4, 0) (by decide) (by decide) (by decide)
 have T0 : Hid True := trivial
 have v1 := E.v (5, 1) (by decide)
 have c1 := is_snt E (9, 4) (5, 1) (by decide) (by decide) (by decide)
 have T1 : Hid True := trivial
 have v2 := E.v (10, 2) (by decide)
 have c2 := is_snt E (9, 4) (10, 2) (by decide) (by decide) (by decide)
 have T2 : Hid True := trivial
 have v3 := E.v (8, 3) (by decide)
 have c3 := is_snt E (9, 4) (8, 3) (by decide) (by decide) (by decide)
 have T3 : Hid True := trivial
 have v4 := E.v (9, 4) (by decide)
 clear E
 dsimp only at v0 v1 v2 v3 v4 c0 c1 c2 c3
 go_enter Tryz.func23, Tryz.ntmps23
 go_wp2_with (first
  | (clear T0; go_at_call 49; refine c0.mono ?_; rintro e w' ⟨rfl, hw⟩; rw [hw]; clear hw)
  | (clear T1; go_at_call 49; refine c1.mono ?_; rintro e w' ⟨rfl, hw⟩; rw [hw]; clear hw)
  | (clear T2; go_at_call 49; refine c2.mono ?_; rintro e w' ⟨rfl, hw⟩; rw [hw]; clear hw)
  | (clear T3; go_at_call 49; refine c3.mono ?_; rintro e w' ⟨rfl, hw⟩; rw [hw]; clear hw)
  | (go_at_call 49; refine (is_same (A 9) _).mono ?_; rintro e w' ⟨rfl, hw⟩; rw [hw]; clear hw))
 go_ret
 exact ⟨rfl, rfl⟩
set_option maxHeartbeats 1000000 in
theorem pErrno2 (w : World) (A : Nat -> Addr) (E : ErrsA w A) :
  Calls Tryz.prog 23 #[.iface 278 (.pointer (some (A 2)))] w fun x w' => x = .returned (.int .i64 2) /\ w' = w := by
 have v0 := E.v (4, 0) (by decide)
 have c0 := is_snt E (2, 5) (4, 0) (by decide) (by decide) (by decide)
 have T0 : Hid True := trivial
 have v1 := E.v (5, 1) (by decide)
 have c1 := is_snt E (2, 5) (5, 1) (by decide) (by decide) (by decide)
 have T1 : Hid True := trivial
 have v2 := E.v (10, 2) (by decide)
 have c2 := is_snt E (2, 5) (10, 2) (by decide) (by decide) (by decide)
 have T2 : Hid True := trivial
 have v3 := E.v (8, 3) (by decide)
 have c3 := is_snt E (2, 5) (8, 3) (by decide) (by decide) (by decide)
 have T3 : Hid True := trivial
 have v4 := E.v (9, 4) (by decide)
 have c4 := is_snt E (2, 5) (9, 4) (by decide) (by decide) (by decide)
 have T4 : Hid True := trivial
 have v5 := E.v (2, 5) (by decide)
 clear E
 dsimp only at v0 v1 v2 v3 v4 v5 c0 c1 c2 c3 c4
 go_enter Tryz.func23, Tryz.ntmps23
 go_wp2_with (first
  | (clear T0; go_at_call 49; refine c0.mono ?_; rintro e w' ⟨rfl, hw⟩; rw [hw]; clear hw)
  | (clear T1; go_at_call 49; refine c1.mono ?_; rintro e w' ⟨rfl, hw⟩; rw [hw]; clear hw)
  | (clear T2; go_at_call 49; refine c2.mono ?_; rintro e w' ⟨rfl, hw⟩; rw [hw]; clear hw)
  | (clear T3; go_at_call 49; refine c3.mono ?_; rintro e w' ⟨rfl, hw⟩; rw [hw]; clear hw)
  | (clear T4; go_at_call 49; refine c4.mono ?_; rintro e w' ⟨rfl, hw⟩; rw [hw]; clear hw)
  | (go_at_call 49; refine (is_same (A 2) _).mono ?_; rintro e w' ⟨rfl, hw⟩; rw [hw]; clear hw))
 go_ret
 exact ⟨rfl, rfl⟩
set_option maxHeartbeats 1000000 in
theorem pErrno6 (w : World) (A : Nat -> Addr) (E : ErrsA w A) :
  Calls Tryz.prog 23 #[.iface 278 (.pointer (some (A 6)))] w fun x w' => x = .returned (.int .i64 6) /\ w' = w := by
 have v0 := E.v (4, 0) (by decide)
 have c0 := is_snt E (6, 6) (4, 0) (by decide) (by decide) (by decide)
 have T0 : Hid True := trivial
 have v1 := E.v (5, 1) (by decide)
 have c1 := is_snt E (6, 6) (5, 1) (by decide) (by decide) (by decide)
 have T1 : Hid True := trivial
 have v2 := E.v (10, 2) (by decide)
 have c2 := is_snt E (6, 6) (10, 2) (by decide) (by decide) (by decide)
 have T2 : Hid True := trivial
 have v3 := E.v (8, 3) (by decide)
 have c3 := is_snt E (6, 6) (8, 3) (by decide) (by decide) (by decide)
 have T3 : Hid True := trivial
 have v4 := E.v (9, 4) (by decide)
 have c4 := is_snt E (6, 6) (9, 4) (by decide) (by decide) (by decide)
 have T4 : Hid True := trivial
 have v5 := E.v (2, 5) (by decide)
 have c5 := is_snt E (6, 6) (2, 5) (by decide) (by decide) (by decide)
 have T5 : Hid True := trivial
 have v6 := E.v (6, 6) (by decide)
 clear E
 dsimp only at v0 v1 v2 v3 v4 v5 v6 c0 c1 c2 c3 c4 c5
 go_enter Tryz.func23, Tryz.ntmps23
 go_wp2_with (first
  | (clear T0; go_at_call 49; refine c0.mono ?_; rintro e w' ⟨rfl, hw⟩; rw [hw]; clear hw)
  | (clear T1; go_at_call 49; refine c1.mono ?_; rintro e w' ⟨rfl, hw⟩; rw [hw]; clear hw)
  | (clear T2; go_at_call 49; refine c2.mono ?_; rintro e w' ⟨rfl, hw⟩; rw [hw]; clear hw)
  | (clear T3; go_at_call 49; refine c3.mono ?_; rintro e w' ⟨rfl, hw⟩; rw [hw]; clear hw)
  | (clear T4; go_at_call 49; refine c4.mono ?_; rintro e w' ⟨rfl, hw⟩; rw [hw]; clear hw)
  | (clear T5; go_at_call 49; refine c5.mono ?_; rintro e w' ⟨rfl, hw⟩; rw [hw]; clear hw)
  | (go_at_call 49; refine (is_same (A 6) _).mono ?_; rintro e w' ⟨rfl, hw⟩; rw [hw]; clear hw))
 go_ret
 exact ⟨rfl, rfl⟩
set_option maxHeartbeats 1000000 in
theorem pErrno7 (w : World) (A : Nat -> Addr) (E : ErrsA w A) :
  Calls Tryz.prog 23 #[.iface 278 (.pointer (some (A 7)))] w fun x w' => x = .returned (.int .i64 7) /\ w' = w := by
 have v0 := E.v (4, 0) (by decide)
 have c0 := is_snt E (7, 7) (4, 0) (by decide) (by decide) (by decide)
 have T0 : Hid True := trivial
 have v1 := E.v (5, 1) (by decide)
 have c1 := is_snt E (7, 7) (5, 1) (by decide) (by decide) (by decide)
 have T1 : Hid True := trivial
 have v2 := E.v (10, 2) (by decide)
 have c2 := is_snt E (7, 7) (10, 2) (by decide) (by decide) (by decide)
 have T2 : Hid True := trivial
 have v3 := E.v (8, 3) (by decide)
 have c3 := is_snt E (7, 7) (8, 3) (by decide) (by decide) (by decide)
 have T3 : Hid True := trivial
 have v4 := E.v (9, 4) (by decide)
 have c4 := is_snt E (7, 7) (9, 4) (by decide) (by decide) (by decide)
 have T4 : Hid True := trivial
 have v5 := E.v (2, 5) (by decide)
 have c5 := is_snt E (7, 7) (2, 5) (by decide) (by decide) (by decide)
 have T5 : Hid True := trivial
 have v6 := E.v (6, 6) (by decide)
 have c6 := is_snt E (7, 7) (6, 6) (by decide) (by decide) (by decide)
 have T6 : Hid True := trivial
 clear E
 dsimp only at v0 v1 v2 v3 v4 v5 v6 c0 c1 c2 c3 c4 c5 c6
 go_enter Tryz.func23, Tryz.ntmps23
 go_wp2_with (first
  | (clear T0; go_at_call 49; refine c0.mono ?_; rintro e w' ⟨rfl, hw⟩; rw [hw]; clear hw)
  | (clear T1; go_at_call 49; refine c1.mono ?_; rintro e w' ⟨rfl, hw⟩; rw [hw]; clear hw)
  | (clear T2; go_at_call 49; refine c2.mono ?_; rintro e w' ⟨rfl, hw⟩; rw [hw]; clear hw)
  | (clear T3; go_at_call 49; refine c3.mono ?_; rintro e w' ⟨rfl, hw⟩; rw [hw]; clear hw)
  | (clear T4; go_at_call 49; refine c4.mono ?_; rintro e w' ⟨rfl, hw⟩; rw [hw]; clear hw)
  | (clear T5; go_at_call 49; refine c5.mono ?_; rintro e w' ⟨rfl, hw⟩; rw [hw]; clear hw)
  | (clear T6; go_at_call 49; refine c6.mono ?_; rintro e w' ⟨rfl, hw⟩; rw [hw]; clear hw))
 go_ret
 exact ⟨rfl, rfl⟩
theorem pErrnoA (w : World) (A : Nat -> Addr) (E : ErrsA w A) (x : Nat × Nat) (hx : x ∈ sntG) :
  Calls Tryz.prog 23 #[.iface 278 (.pointer (some (A x.1)))] w fun e w' => e = .returned (.int .i64 x.1) /\ w' = w := by
 simp only [sntG, List.mem_cons, List.not_mem_nil, or_false] at hx
 rcases hx with rfl | rfl | rfl | rfl | rfl | rfl | rfl | rfl
 ·exact pErrno5 w A E
 ·exact pErrno7 w A E
 ·exact pErrno6 w A E
 ·exact pErrno8 w A E
 ·exact pErrno4 w A E
 ·exact pErrno2 w A E
 ·exact pErrno9 w A E
 ·exact pErrno10 w A E
end Go.Proofs.YtekfbphnoibnjaaGreatDoor
namespace Go.Proofs.YtekfbphnoibnjaaGreatDoor
open Go.RowKit Go.Extern.Stop Go.Stop Go.Extern
theorem fltMethodUnwrap (v : Value) (w : World) : (Go.method 408 113 v "Unwrap").run Tryz.prog w = .ok (208, v) w := by kernel_rfl
theorem noIsF (v : Value) (xT : TypeId) (w : World) : (Instr.typeAssert (.iface 113 v) xT 231 true).run Tryz.prog w = .ok (.tuple #[.nilIface, .bool false]) w := run_typeAssert_lacksB Tryz.underlying231 (by kernel_rfl) (by kernel_rfl) v xT w
theorem hasUnwrapF (v : Value) (xT : TypeId) (w : World) : (Instr.typeAssert (.iface 113 v) xT 227 true).run Tryz.prog w = .ok (.tuple #[.iface 113 v, .bool true]) w := run_typeAssert_hasB Tryz.underlying227 (by kernel_rfl) v xT w
set_option maxHeartbeats 4000000 in
set_option maxRecDepth 100000 in
theorem is_flt_same (a : Addr) (f x y : Int) (w : World) :
  Calls Tryz.prog 49 #[.iface 113 (.agg #[.int .i64 f, .int .i64 x, .int .i64 y, .iface 278 (.pointer (some a))]), .iface 278 (.pointer (some a))] w fun e w' => e = .returned (.bool true) /\ Below w.heap.size w w' := by
 obtain ⟨i, hi, hcmp⟩ := Option.map_eq_some_iff.1 isComp
 obtain ⟨j, hj, hjs⟩ := Option.map_eq_some_iff.1 isSize
 have h8 := @run_callFunc_extern Tryz.prog 92 _ Extern.ReflectliteType.typeOf Tryz.func92 (by kernel_rfl) (by kernel_rfl) (by kernel_rfl) (by kernel_rfl)
 have h32 := @run_callFunc_extern Tryz.prog 214 _ cmpEntry Tryz.func214 (by kernel_rfl) (by kernel_rfl) (by kernel_rfl) (by kernel_rfl)
 have tT := isTypeOf
 have cT := isComparable
 have mR := isMethodComparable
 have mU := fltMethodUnwrap
 have nF := noIsF
 have uF := hasUnwrapF
 have heq := fun w => run_eql_iface_ptr_same (P := Tryz.prog) w a Tryz.underlying62 Tryz.underlying278 hi hcmp hj
 have hdf := fun v w => run_eql_iface_types (P := Tryz.prog) 113 278 v (.pointer (some a)) Tryz.underlying62 (by decide) w
 go_enter Tryz.func49, Tryz.ntmps49
 go_wp2
 refine wp_loop_rounds 2 ?_
 rw [rounds_succ]
 go_wp2
 rw [rounds_succ]
 go_wp2
 go_ret
 exact ⟨rfl, (Below.refl _ w).alloc (Nat.le_refl _) _⟩
set_option maxHeartbeats 4000000 in
set_option maxRecDepth 100000 in
theorem is_flt_other (a b : Addr) (ca cb : Array Value) (ta tb : TypeId) (f x y : Int) (w : World) (hne : a ≠ b) (ha : w.heap[a.block]? = some (.cells ca ta (0, 0))) (hb : w.heap[b.block]? = some (.cells cb tb (0, 0))) :
  Calls Tryz.prog 49 #[.iface 113 (.agg #[.int .i64 f, .int .i64 x, .int .i64 y, .iface 278 (.pointer (some a))]), .iface 278 (.pointer (some b))] w fun e w' => e = .returned (.bool false) /\ Below w.heap.size w w' := by
 obtain ⟨i, hi, hcmp⟩ := Option.map_eq_some_iff.1 isComp
 obtain ⟨j, hj, hjs⟩ := Option.map_eq_some_iff.1 isSize
 have h8 := @run_callFunc_extern Tryz.prog 92 _ Extern.ReflectliteType.typeOf Tryz.func92 (by kernel_rfl) (by kernel_rfl) (by kernel_rfl) (by kernel_rfl)
 have h32 := @run_callFunc_extern Tryz.prog 214 _ cmpEntry Tryz.func214 (by kernel_rfl) (by kernel_rfl) (by kernel_rfl) (by kernel_rfl)
 have tT := isTypeOf
 have cT := isComparable
 have mR := isMethodComparable
 have mU := fltMethodUnwrap
 have nF := noIsF
 have uF := hasUnwrapF
 have nE := noIsE
 have uE := noUnwrapE
 have vE := noUnwrapsE
 obtain ⟨W, hW⟩ : ∃ W, W = w.alloc (.cells #[.int .i64 f, .int .i64 x, .int .i64 y, .iface 278 (.pointer (some a))] 113) := ⟨_, rfl⟩
 have hB : Below w.heap.size w W := by rw [hW]; exact (Below.refl _ w).alloc (Nat.le_refl _) _
 have heq := run_eql_iface_ptr_other (P := Tryz.prog) W Tryz.underlying62 Tryz.underlying278 hi hcmp hj (by rw [hjs]; decide) hne ((hB.block _ (heap_lt ha)).trans ha) ((hB.block _ (heap_lt hb)).trans hb)
 have hdf := fun v w => run_eql_iface_types (P := Tryz.prog) 113 278 v (.pointer (some b)) Tryz.underlying62 (by decide) w
 rw [hW] at heq
 clear hW hB
 go_enter Tryz.func49, Tryz.ntmps49
 go_wp2
 refine wp_loop_rounds 2 ?_
 rw [rounds_succ]
 go_wp2
 rw [rounds_succ]
 go_wp2
 go_ret
 exact ⟨rfl, (Below.refl _ w).alloc (Nat.le_refl _) _⟩
end Go.Proofs.YtekfbphnoibnjaaGreatDoor
