/-
  The law Colours answers true of the program at this commit: for every script the law answers true and leaves the script as it was, with no condition.
-/
import Derived.Test.YtekfbphnoibnjaaGreatDoorStep1
import Derived.Test.YtekfbphnoibnjaaGreatDoorRead
namespace Go.Proofs.YtekfbphnoibnjaaGreatDoor
open Go.ChangeShapes Go.WideShapes Go.ChangeAt Go.RowKit Go.Joins Go.Deep

/-- What holds between two steps: old memory, the opening's too, is as it was, but for the book, which is empty. -/
structure ColI (w wH : World) (p : Nat) (w' : World) : Prop where
  below : Below w.heap.size w w'
  size : wH.heap.size ≤ w'.heap.size
  kept : ∀ k, k < wH.heap.size → k ≠ p → w'.heap[k]? = wH.heap[k]?
  book : Book0 w' p

theorem ColI.on {w wH : World} {p : Nat} {w' w'' : World} (h : ColI w wH p w') (hw : w.heap.size ≤ wH.heap.size) (hp : p < wH.heap.size) (hb : Below w'.heap.size w' w'') : ColI w wH p w'' :=
  ⟨h.below.trans (hb.mono (Nat.le_trans hw h.size)), Nat.le_trans h.size hb.size, fun k hk hne => (hb.block k (Nat.lt_of_lt_of_le hk h.size)).trans (h.kept k hk hne), h.book.of_block (hb.block p (Nat.lt_of_lt_of_le hp h.size))⟩

theorem Book0.put {w : World} {p : Nat} (h : Book0 w p) (o : Nat) (ho : o ≠ 0) : Book0 (w.setCell ⟨p, o, none⟩ (.slice none 0 0)) p := by
  have hc : ∀ j, w.cell? ⟨p, j, none⟩ = some (.slice none 0 0) → (w.setCell ⟨p, o, none⟩ (.slice none 0 0)).cell? ⟨p, j, none⟩ = some (.slice none 0 0) := fun j hj => by
    by_cases e : o = j
    · subst e; exact World.cell?_setCell_same _ _ _ hj
    · exact cell_off hj (.inr e)
  exact ⟨cell_off h.c0 (.inr ho), hc 1 h.c1, hc 2 h.c2, hc 3 h.c3, hc 4 h.c4, hc 5 h.c5, hc 6 h.c6, hc 7 h.c7, hc 8 h.c8, fun j => by rw [World.frozen?_setCell]; exact h.fz j⟩

theorem ColI.put {w wH : World} {p : Nat} {w' : World} (h : ColI w wH p w') (hp : w.heap.size ≤ p) (o : Nat) (ho : o ≠ 0) : ColI w wH p (w'.setCell ⟨p, o, none⟩ (.slice none 0 0)) :=
  ⟨h.below.setCell hp _, by rw [World.size_setCell]; exact h.size, fun k hk hne => (Below.heap_setCell w' ⟨p, o, none⟩ _ k hne).trans (h.kept k hk hne), h.book.put o ho⟩

theorem head_fits (s : ByteArray) (b0 b1 b2 b4 : Nat) : ∀ o ∈ headOps s b0 b1 b2 b4, o.fits := by
  intro o ho
  simp only [headOps, List.mem_cons, List.not_mem_nil, or_false] at ho
  rcases ho with rfl | rfl | rfl | rfl | rfl | rfl | rfl | rfl | rfl | rfl | rfl <;> (unfold OpV.fits; dsimp only; decide)

theorem step_col (p : Value) (o : OpV) (w : World) (ho : o.fits) (h1 : 1 ≤ o.kind) (h2 : o.kind ≤ 2) :
    Calls Tryz.prog 15 #[p, o.val] w fun e w' => e = .returned (.bool true) ∧ Below w.heap.size w w' := by
  obtain ⟨kd, s, c0, c1, c2, p0, p1, p2, b, bl, bc, l, ll, lc, sz, f, fl, fc⟩ := o
  obtain ⟨⟨r0, r1⟩, ⟨g0, g1⟩, ⟨q0, q1⟩⟩ := ho
  rcases (show kd = 1 ∨ kd = 2 by simp only at h1 h2; omega) with rfl | rfl
  · exact step_one p s c0 c1 c2 p0 p1 p2 _ _ sz _ w r0 r1 g0 g1 q0 q1
  · exact step_two p s c0 c1 c2 p0 p1 p2 _ _ sz _ w

theorem col_player (w wH : World) (g : Nat) (s : ByteArray) (b0 b1 b2 b3 b4 : Nat) (ops : List OpV) (hf : ∀ o ∈ ops, o.fits) (h : Opened (w.alloc world0) wH g s b0 b1 b2 b3 b4) :
    ColI w wH w.heap.size wH ∧ Player 1 2 w w.heap.size g (headOps s b0 b1 b2 b4) ops (ColI w wH w.heap.size) := by
  have hsz := h.below.size
  rw [World.size_alloc] at hsz
  have hlo := h.lo
  rw [World.size_alloc] at hlo
  have o1 := h.o1
  have o2 := h.o2
  have o3 := h.o3
  have o4 := h.o4
  have o5 := h.o5
  have k0 : Below w.heap.size w wH := ((Below.refl _ _).alloc (Nat.le_refl _) _).trans (h.below.mono (by simp))
  refine ⟨⟨k0, Nat.le_refl _, fun _ _ _ => rfl, book0_new h.below⟩, ⟨fun w' hw => hw.below, fun w' hw => (hw.kept g h.up (by omega)).trans h.hg, ?_, ?_, ?_, ?_⟩⟩
  · intro w' o hw
    exact hw.on k0.size (by omega) ((Below.refl _ _).alloc (Nat.le_refl _) _)
  · intro w' o hw ho h1 h2
    have hfit : o.fits := by
      rcases ho with ho | ho
      · exact head_fits s b0 b1 b2 b4 o ho
      · exact hf o ho
    refine (step_col _ o w' hfit h1 h2).mono ?_
    rintro e w'' ⟨rfl, hb⟩
    exact ⟨rfl, hw.on k0.size (by omega) hb⟩
  · intro w' hw
    refine (settle0 w' w.heap.size hw.book).mono ?_
    rintro e w'' ⟨rfl, rfl⟩
    exact ⟨rfl, (((hw.put (Nat.le_refl _) 5 (by decide)).put (Nat.le_refl _) 6 (by decide)).put (Nat.le_refl _) 7 (by decide)).put (Nat.le_refl _) 8 (by decide)⟩
  · intro w' hw
    refine (looks0 w' w.heap.size hw.book).mono ?_
    rintro e w'' ⟨rfl, rfl⟩
    exact ⟨rfl, hw⟩

set_option maxHeartbeats 400000 in
theorem colours_any (w : World) (a : Option Addr) (len cap : Nat) (ops : List OpV) (hs : Script w a len ops) (hl : len ≤ maxLen) (hf : ∀ o ∈ ops, o.fits) :
    Calls Tryz.prog 3 #[.slice a len cap] w fun e w' => e = .returned (.bool true) ∧ Below w.heap.size w w' := by
  have H := plays_gen 1 2 w a len cap ops hs hl (fun wH g s b0 b1 b2 b3 b4 h => ⟨_, col_player w wH g s b0 b1 b2 b3 b4 ops hf h⟩)
  go_enter Tryz.func3, Tryz.ntmps3
  go_wp2_with (go_at_call 9; refine H.mono ?_; rintro e w1 ⟨rfl, hb1⟩)
  go_ret
  exact ⟨rfl, hb1⟩

end Go.Proofs.YtekfbphnoibnjaaGreatDoor
