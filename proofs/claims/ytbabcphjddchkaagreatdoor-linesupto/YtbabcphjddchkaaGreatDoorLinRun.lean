/-
  The law Lines over a script whose lists are read: every step answers true.
-/
import Derived.Test.YtbabcphjddchkaaGreatDoorStStep3
import Derived.Test.YtbabcphjddchkaaGreatDoorPlaysN
import Derived.Test.YtbabcphjddchkaaGreatDoorColoursAny
namespace Go.Proofs.YtbabcphjddchkaaGreatDoor
open Go.RowKit

set_option maxHeartbeats 1000000 in
theorem step_three (P : World → Prop) (p : Value) (s : ByteArray) (c0 c1 c2 r g b : Int) (vb vl : Value) (z : Int) (vf : Value) (w : World)
    (H : ∀ o, Calls Tryz.prog 12 #[p, .agg #[.int .i64 3, .string s, .int .i64 c0, .int .i64 c1, .int .i64 c2, .int .u8 r, .int .u8 g, .int .u8 b, vb, vl, .int .i64 z, vf]] (w.alloc o) fun e w' => e = .returned (.bool true) ∧ P w') :
    Calls Tryz.prog 7 #[p, .agg #[.int .i64 3, .string s, .int .i64 c0, .int .i64 c1, .int .i64 c2, .int .u8 r, .int .u8 g, .int .u8 b, vb, vl, .int .i64 z, vf]] w fun e w' => e = .returned (.bool true) ∧ P w' := by
  go_enter Tryz.func7, Tryz.ntmps7
  go_wp2_with (go_at_call 12; refine (H _).mono ?_; rintro e w1 ⟨rfl, hb1⟩)
  go_ret
  exact ⟨rfl, hb1⟩

set_option maxHeartbeats 1000000 in
theorem step_four (P : World → Prop) (p : Value) (s : ByteArray) (c0 c1 c2 r g b : Int) (vb vl : Value) (z : Int) (vf : Value) (w : World)
    (H : ∀ o, Calls Tryz.prog 13 #[p, .agg #[.int .i64 4, .string s, .int .i64 c0, .int .i64 c1, .int .i64 c2, .int .u8 r, .int .u8 g, .int .u8 b, vb, vl, .int .i64 z, vf]] (w.alloc o) fun e w' => e = .returned (.bool true) ∧ P w') :
    Calls Tryz.prog 7 #[p, .agg #[.int .i64 4, .string s, .int .i64 c0, .int .i64 c1, .int .i64 c2, .int .u8 r, .int .u8 g, .int .u8 b, vb, vl, .int .i64 z, vf]] w fun e w' => e = .returned (.bool true) ∧ P w' := by
  go_enter Tryz.func7, Tryz.ntmps7
  go_wp2_with (go_at_call 13; refine (H _).mono ?_; rintro e w1 ⟨rfl, hb1⟩)
  go_ret
  exact ⟨rfl, hb1⟩

/-- The lists of a step, as they lie in memory. -/
structure OpL (w : World) (o : OpV) : Prop where
  b : (o.b = none ∧ o.bl = 0) ∨ ∃ a bs, o.b = some a ∧ BitsIn w (some a) o.bl bs ∧ o.bl ≤ 800000000
  l : (o.l = none ∧ o.ll = 0) ∨ ∃ a zs, o.l = some a ∧ IntsIn w (some a) o.ll zs ∧ o.ll ≤ 800000000
  s : o.s.size ≤ maxLen
/-- None of them lies in the block p. -/
def OpN (p : Nat) (o : OpV) : Prop := (∀ a, o.b = some a → o.bl ≠ 0 → a.block ≠ p) ∧ (∀ a, o.l = some a → o.ll ≠ 0 → a.block ≠ p)

/-- What holds behind c steps. -/
structure LinI (w wH : World) (p c : Nat) (w' : World) : Prop where
  st : ∃ M own vi vb vw ve ibs bbs wts, St w wH w' p M own vi vb vw ve ibs bbs wts 0 ∧ M + wts.length ≤ 3 * c ∧ ibs.length + wts.length ≤ 3 * c ∧ bbs.length ≤ 3 * c
theorem LinI.below {w wH w' w'' : World} {p c : Nat} (h : LinI w wH p c w') (f : Below w'.heap.size w' w'') : LinI w wH p c w'' := by
  obtain ⟨M, own, vi, vb, vw, ve, ibs, bbs, wts, h1, h2, h3, h4⟩ := h.st
  exact ⟨M, own, vi, vb, vw, ve, ibs, bbs, wts, h1.below f, h2, h3, h4⟩

theorem lin_three {w wH w' : World} {p c : Nat} {o : OpV} (hc : 3 * c ≤ 90000000) (h : LinI w wH p c w') (ho : OpL wH o) (hp : OpN p o) (hk : o.kind = 3) :
    Calls Tryz.prog 7 #[.pointer (some ⟨p, 0, none⟩), o.val] w' fun e w'' => e = .returned (.bool true) ∧ LinI w wH p (c + 1) w'' := by
  obtain ⟨kd, s, c0, c1, c2, p0, p1, p2, b, bl, bc, l, ll, lc, sz, f, fl, fc⟩ := o
  simp only at hk
  subst hk
  refine step_three (LinI w wH p (c + 1)) _ s c0 c1 c2 p0 p1 p2 _ _ sz _ w' (fun ox => ?_)
  have h' := h.below ((Below.refl w'.heap.size w').alloc (Nat.le_refl _) ox)
  obtain ⟨M, own, vi, vb, vw, ve, ibs, bbs, wts, h1, h2, h3, h4⟩ := h'.st
  rcases ho.b with ⟨e1, e2⟩ | ⟨a, bs, e1, e2, e3⟩
  · simp only at e1 e2
    subst e1 e2
    refine (squeezes_nil w wH _ p M vi vw ve ibs bbs.length wts ⟨own, vb, bbs, h1, rfl⟩ 3 s c0 c1 c2 p0 p1 p2 bc l ll lc sz f fl fc).mono ?_
    rintro e w'' ⟨rfl, ⟨own2, vb2, bbs2, g1, g2⟩⟩
    exact ⟨rfl, ⟨_, _, _, _, _, _, _, _, _, g1, by omega, by omega, by omega⟩⟩
  · simp only at e1 e2 e3
    subst e1
    refine (squeezes_some w wH _ p M own vi vb vw ve ibs bbs wts h1 3 s c0 c1 c2 p0 p1 p2 a bl bc l ll lc sz f fl fc bs e2 (hp.1 a rfl) e3 (by omega) (by omega)).mono ?_
    rintro e w'' ⟨rfl, ⟨own2, vb2, bbs2, g1, g2⟩⟩
    exact ⟨rfl, ⟨_, _, _, _, _, _, _, _, _, g1, by omega, by omega, by omega⟩⟩

theorem lin_four {w wH w' : World} {p c : Nat} {o : OpV} (hc : 3 * c ≤ 90000000) (h : LinI w wH p c w') (ho : OpL wH o) (hp : OpN p o) (hk : o.kind = 4) {a0 a1 a2 : Addr} (E : Errs w a0 a1 a2) :
    Calls Tryz.prog 7 #[.pointer (some ⟨p, 0, none⟩), o.val] w' fun e w'' => e = .returned (.bool true) ∧ LinI w wH p (c + 1) w'' := by
  obtain ⟨kd, s, c0, c1, c2, p0, p1, p2, b, bl, bc, l, ll, lc, sz, f, fl, fc⟩ := o
  simp only at hk
  subst hk
  refine step_four (LinI w wH p (c + 1)) _ s c0 c1 c2 p0 p1 p2 _ _ sz _ w' (fun ox => ?_)
  have h' := h.below ((Below.refl w'.heap.size w').alloc (Nat.le_refl _) ox)
  obtain ⟨M, own, vi, vb, vw, ve, ibs, bbs, wts, h1, h2, h3, h4⟩ := h'.st
  have hs := ho.s
  rcases ho.l with ⟨e1, e2⟩ | ⟨a, zs, e1, e2, e3⟩
  · simp only at e1 e2
    subst e1 e2
    refine (stretches_nil w wH _ p M own vi vb vw ve ibs bbs wts h1 4 s c0 c1 c2 p0 p1 p2 b bl bc lc sz f fl fc hs (by omega) a0 a1 a2 E).mono ?_
    rintro e w'' ⟨rfl, ⟨own2, vi2, vw2, ve2, ibs2, wts2, g1, g2, g3⟩⟩
    exact ⟨rfl, ⟨_, _, _, _, _, _, _, _, _, g1, by omega, by omega, by omega⟩⟩
  · simp only at e1 e2 e3
    subst e1
    refine (stretches_some w wH _ p M own vi vb vw ve ibs bbs wts h1 4 s c0 c1 c2 p0 p1 p2 b bl bc a ll lc sz f fl fc zs e2 (hp.2 a rfl) e3 hs (by omega) (by omega) (by omega) a0 a1 a2 E).mono ?_
    rintro e w'' ⟨rfl, ⟨own2, vi2, vw2, ve2, ibs2, wts2, g1, g2, g3⟩⟩
    exact ⟨rfl, ⟨_, _, _, _, _, _, _, _, _, g1, by omega, by omega, by omega⟩⟩

theorem st_start {w wH : World} {g : Nat} {s : ByteArray} {b0 b1 b2 b3 b4 : Nat} (h : Opened (w.alloc world0) wH g s b0 b1 b2 b3 b4) : LinI w wH w.heap.size 0 wH := by
  have hsz := h.below.size
  rw [World.size_alloc] at hsz
  have k0 : Below w.heap.size w wH := ((Below.refl _ _).alloc (Nat.le_refl _) _).trans (h.below.mono (by simp))
  have bk := book0_new h.below
  refine ⟨0, fun k => if k = w.heap.size then 0 else 1, .slice none 0 0, .slice none 0 0, .slice none 0 0, .slice none 0 0, [], [], [], ?_, by simp, by simp, by simp⟩
  have rn : ∀ (o : Nat → Nat) (r : Nat), role o (.slice none 0 0) r := fun o r k hk => by simp [Value.ownBlock] at hk
  refine ⟨⟨bk.c0, fun j v hv => ?_, rfl, bk.fz, by omega⟩, World.ownsRow_nil _ _ _ _, World.ownsRow_nil _ _ _ _, World.ownsRow_nil _ _ _ _, World.ownsRow_nil _ _ _ _, rn _ _, rn _ _, rn _ _, rn _ _, fun x hx => by simp at hx, fun x hx => by simp at hx, fun i x hx => by simp at hx, by simp, fun k _ hne => by simp [hne], Nat.le_refl _, fun _ _ _ => rfl, k0, rfl, by omega⟩
  unfold bookVs at hv
  match j, hv with
  | 0, hv => simp at hv; subst hv; exact bk.c1
  | 1, hv => simp at hv; subst hv; exact bk.c2
  | 2, hv => simp at hv; subst hv; exact bk.c3
  | 3, hv => simp at hv; subst hv; exact bk.c4
  | 4, hv => simp at hv; subst hv; exact bk.c5
  | 5, hv => simp at hv; subst hv; exact bk.c6
  | 6, hv => simp at hv; subst hv; exact bk.c7
  | 7, hv => simp at hv; subst hv; exact bk.c8
  | j + 8, hv => simp at hv

theorem head_lists {w0 wH : World} {g : Nat} {s : ByteArray} {b0 b1 b2 b3 b4 : Nat} (h : Opened w0 wH g s b0 b1 b2 b3 b4) {p : Nat} (hp : p < w0.heap.size) : ∀ o ∈ headOps s b0 b1 b2 b4, OpL wH o ∧ OpN p o := by
  have hlo := h.lo
  have o1 := h.o1
  have o2 := h.o2
  have o3 := h.o3
  have o4 := h.o4
  have o5 := h.o5
  have up := h.up
  have ss := h.ssize
  have q0 : BitsIn wH (some ⟨b0, 0, none⟩) 1 [(7, 1)] := ⟨rfl, .inr ⟨b0, 0, rfl, by omega, fun i hi => by
    obtain rfl : i = 0 := by omega
    exact ⟨cell_of_row wH b0 0 _ _ _ h.h0, cell_of_row wH b0 1 _ _ _ h.h0⟩⟩⟩
  have q1 : BitsIn wH (some ⟨b1, 0, none⟩) 1 [(-1, 0)] := ⟨rfl, .inr ⟨b1, 0, rfl, by omega, fun i hi => by
    obtain rfl : i = 0 := by omega
    exact ⟨cell_of_row wH b1 0 _ _ _ h.h1, cell_of_row wH b1 1 _ _ _ h.h1⟩⟩⟩
  have q2 : IntsIn wH (some ⟨b2, 0, none⟩) 1 [7] := ⟨rfl, .inr ⟨b2, 0, rfl, by omega, fun i hi => by
    obtain rfl : i = 0 := by omega
    exact cell_of_row wH b2 0 _ _ _ h.h2⟩⟩
  intro o ho
  simp only [headOps, List.mem_cons, List.not_mem_nil, or_false] at ho
  have e0 : (ByteArray.mk #[]).size ≤ maxLen := by decide
  have e4 : (ByteArray.mk #[255, 255, 255, 254]).size ≤ maxLen := by decide
  have e2 : (ByteArray.mk #[70, 66]).size ≤ maxLen := by decide
  have e8 : s.size ≤ maxLen := by rw [ss]; decide
  have N0 : ∀ a : Addr, (none : Option Addr) = some a → (0 : Nat) ≠ 0 → a.block ≠ p := fun a e => by cases e
  have B : ∀ b : Nat, p < b → ∀ a : Addr, some (⟨b, 0, none⟩ : Addr) = some a → (1 : Nat) ≠ 0 → a.block ≠ p := fun b hb a e _ => by injection e with e; subst e; simp only; omega
  rcases ho with rfl | rfl | rfl | rfl | rfl | rfl | rfl | rfl | rfl | rfl | rfl
  · exact ⟨⟨.inl ⟨rfl, rfl⟩, .inl ⟨rfl, rfl⟩, e0⟩, N0, N0⟩
  · exact ⟨⟨.inl ⟨rfl, rfl⟩, .inl ⟨rfl, rfl⟩, e0⟩, N0, N0⟩
  · exact ⟨⟨.inl ⟨rfl, rfl⟩, .inl ⟨rfl, rfl⟩, e0⟩, N0, N0⟩
  · exact ⟨⟨.inr ⟨_, _, rfl, q0, by dsimp only; omega⟩, .inl ⟨rfl, rfl⟩, e0⟩, B b0 (by omega), N0⟩
  · exact ⟨⟨.inr ⟨_, _, rfl, q1, by dsimp only; omega⟩, .inl ⟨rfl, rfl⟩, e0⟩, B b1 (by omega), N0⟩
  · exact ⟨⟨.inl ⟨rfl, rfl⟩, .inr ⟨_, _, rfl, q2, by dsimp only; omega⟩, e4⟩, N0, B b2 (by omega)⟩
  · exact ⟨⟨.inl ⟨rfl, rfl⟩, .inl ⟨rfl, rfl⟩, e0⟩, N0, N0⟩
  · exact ⟨⟨.inl ⟨rfl, rfl⟩, .inl ⟨rfl, rfl⟩, e8⟩, N0, N0⟩
  · exact ⟨⟨.inl ⟨rfl, rfl⟩, .inl ⟨rfl, rfl⟩, e2⟩, N0, N0⟩
  · exact ⟨⟨.inl ⟨rfl, rfl⟩, .inl ⟨rfl, rfl⟩, e0⟩, N0, N0⟩
  · exact ⟨⟨.inl ⟨rfl, rfl⟩, .inl ⟨rfl, rfl⟩, e0⟩, N0, N0⟩

/-- Lists that came in lie below. -/
theorem OpL.on {w wH : World} {o : OpV} (h : OpL w o) (f : Below w.heap.size w wH) : OpL wH o ∧ OpN w.heap.size o := by
  refine ⟨⟨?_, ?_, h.s⟩, fun a ha hn => ?_, fun a ha hn => ?_⟩
  · rcases h.b with h' | ⟨a, bs, e1, e2, e3⟩
    · exact .inl h'
    · exact .inr ⟨a, bs, e1, e2.below f, e3⟩
  · rcases h.l with h' | ⟨a, bs, e1, e2, e3⟩
    · exact .inl h'
    · exact .inr ⟨a, bs, e1, e2.below f, e3⟩
  · rcases h.b with ⟨e1, _⟩ | ⟨x, bs, e1, e2, e3⟩
    · rw [e1] at ha; cases ha
    · rw [e1] at ha
      injection ha with ha
      subst ha
      rcases e2.2 with e | ⟨b, off, e, hb, _⟩
      · exact absurd e hn
      · injection e with e
        rw [e]; simp only; omega
  · rcases h.l with ⟨e1, _⟩ | ⟨x, bs, e1, e2, e3⟩
    · rw [e1] at ha; cases ha
    · rw [e1] at ha
      injection ha with ha
      subst ha
      rcases e2.2 with e | ⟨b, off, e, hb, _⟩
      · exact absurd e hn
      · injection e with e
        rw [e]; simp only; omega

theorem lin_player (w wH : World) (g : Nat) (s : ByteArray) (b0 b1 b2 b3 b4 : Nat) (len : Nat) (hl : len ≤ 2000000) (ops : List OpV) (hf : ∀ o ∈ ops, OpL w o) {a0 a1 a2 : Addr} (E : Errs w a0 a1 a2) (h : Opened (w.alloc world0) wH g s b0 b1 b2 b3 b4) :
    PlayerN 3 4 w w.heap.size g (11 + len) (headOps s b0 b1 b2 b4) ops (LinI w wH w.heap.size) := by
  have hlo := h.lo
  rw [World.size_alloc] at hlo
  have o1 := h.o1
  have o2 := h.o2
  have o3 := h.o3
  have o4 := h.o4
  have o5 := h.o5
  have k0 : Below w.heap.size w wH := ((Below.refl _ _).alloc (Nat.le_refl _) _).trans (h.below.mono (by simp))
  refine ⟨fun c w' hw => ?_, fun c w' hw => ?_, fun c w' o hw => hw.below ((Below.refl _ _).alloc (Nat.le_refl _) _), fun c w' hw => ?_, fun c w' o hc hw ho h1 h2 => ?_, fun c w' hc hw => ?_, fun c w' hc hw => ?_⟩
  · obtain ⟨M, own, vi, vb, vw, ve, ibs, bbs, wts, g1, _⟩ := hw.st
    exact g1.bel
  · obtain ⟨M, own, vi, vb, vw, ve, ibs, bbs, wts, g1, _⟩ := hw.st
    exact (g1.kept g h.up (by omega)).trans h.hg
  · obtain ⟨M, own, vi, vb, vw, ve, ibs, bbs, wts, g1, g2, g3, g4⟩ := hw.st
    exact ⟨M, own, vi, vb, vw, ve, ibs, bbs, wts, g1, by omega, by omega, by omega⟩
  · have hol : OpL wH o ∧ OpN w.heap.size o := by
      rcases ho with ho | ho
      · exact head_lists h (p := w.heap.size) (by simp) o ho
      · exact (hf o ho).on k0
    rcases (show o.kind = 3 ∨ o.kind = 4 by omega) with e | e
    · exact lin_three (by omega) hw hol.1 hol.2 e
    · exact lin_four (by omega) hw hol.1 hol.2 e E
  · obtain ⟨M, own, vi, vb, vw, ve, ibs, bbs, wts, g1, g2, g3, g4⟩ := hw.st
    refine (settle_st w wH w' _ M own vi vb vw ve ibs bbs wts g1 (by omega) (by omega)).mono ?_
    rintro e w'' ⟨rfl, own2, vi2, ibs2, q1, q2⟩
    exact ⟨rfl, ⟨_, _, _, _, _, _, _, _, _, q1, by simp; omega, by simp; omega, by omega⟩⟩
  · obtain ⟨M, own, vi, vb, vw, ve, ibs, bbs, wts, g1, g2, g3, g4⟩ := hw.st
    refine (looks_st w wH w' _ M own vi vb vw ve ibs bbs wts g1 (by omega) (by omega)).mono ?_
    rintro e w'' ⟨rfl, q1⟩
    exact ⟨rfl, hw.below q1⟩

set_option maxHeartbeats 400000 in
theorem lines_any (w : World) (a : Option Addr) (len cap : Nat) (ops : List OpV) (hs : Script w a len ops) (hl : len ≤ 2000000) (hf : ∀ o ∈ ops, OpL w o) {a0 a1 a2 : Addr} (E : Errs w a0 a1 a2) :
    Calls Tryz.prog 4 #[.slice a len cap] w fun e w' => e = .returned (.bool true) ∧ Below w.heap.size w w' := by
  have H := plays_cnt 3 4 w a len cap ops hs (by unfold maxLen; omega) (fun wH g s b0 b1 b2 b3 b4 h => ⟨_, st_start h, lin_player w wH g s b0 b1 b2 b3 b4 len hl ops hf E h⟩)
  go_enter Tryz.func4, Tryz.ntmps4
  go_wp2_with (go_at_call 5; refine H.mono ?_; rintro e w1 ⟨rfl, hb1⟩)
  go_ret
  exact ⟨rfl, hb1⟩

end Go.Proofs.YtbabcphjddchkaaGreatDoor
