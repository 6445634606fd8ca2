/-
  A script is played, the steps counted. The law Lines over a script whose lists are read: every step answers true. A script that came in, its lists too; how long they are at the most.
-/
import Derived.Test.YtekfbphnoibnjaaGreatDoorPlays
import Derived.Test.YtekfbphnoibnjaaGreatDoorStAll
import Derived.Test.YtekfbphnoibnjaaGreatDoorRead
namespace Go.Proofs.YtekfbphnoibnjaaGreatDoor
open Go.RowKit

/-- The same, with a count of the steps: I c is what holds of the world behind c steps; N steps are played at the most. -/
structure PlayerN (lo up : Int) (w : World) (p g N : Nat) (hd ops : List OpV) (I : Nat → World → Prop) : Prop where
  below : ∀ c w', I c w' → Below w.heap.size w w'
  head : ∀ c w', I c w' → w'.heap[g]? = some (.cells (opsCells hd).toArray 54 (0, 0))
  alloc : ∀ c w' o, I c w' → I c (w'.alloc o)
  mono : ∀ c w', I c w' → I (c + 1) w'
  step : ∀ c w' o, c < N → I c w' → o ∈ hd ∨ o ∈ ops → lo ≤ o.kind → o.kind ≤ up → Calls Tryz.prog 15 #[.pointer (some ⟨p, 0, none⟩), o.val] w' fun e w'' => e = .returned (.bool true) ∧ I (c + 1) w''
  settle : ∀ c w', c ≤ N → I c w' → Calls Tryz.prog 16 #[.pointer (some ⟨p, 0, none⟩)] w' fun e w'' => e = .returned (.bool true) ∧ I c w''
  looks : ∀ c w', c ≤ N → I c w' → Calls Tryz.prog 17 #[.pointer (some ⟨p, 0, none⟩)] w' fun e w'' => e = .returned (.bool true) ∧ I c w''

set_option maxHeartbeats 1000000 in
set_option maxRecDepth 20000 in
theorem plays_cnt (lo up : Int) (w : World) (a : Option Addr) (len cap : Nat) (ops : List OpV) (hs : Script w a len ops) (hl : len ≤ maxLen)
    (start : ∀ wH g s b0 b1 b2 b3 b4, Opened (w.alloc world0) wH g s b0 b1 b2 b3 b4 → ∃ I : Nat → World → Prop, I 0 wH ∧ PlayerN lo up w w.heap.size g (11 + len) (headOps s b0 b1 b2 b4) ops I) :
    Calls Tryz.prog 9 #[.slice a len cap, .int .i64 lo, .int .i64 up] w fun e w' => e = .returned (.bool true) ∧ Below w.heap.size w w' := by
  unfold maxLen at hl
  go_enter Tryz.func9, Tryz.ntmps9
  go_wp2_with (go_at_call 14; refine (opening_any _).mono ?_; rintro e wH ⟨g, s, b0, b1, b2, b3, b4, rfl, hop⟩)
  obtain ⟨I, hI, P⟩ := start wH g s b0 b1 b2 b3 b4 hop
  have HS : Hid (Script w a len ops) := hs
  have HP : Hid (PlayerN lo up w w.heap.size g (11 + len) (headOps s b0 b1 b2 b4) ops I) := P
  clear hs hop start P
  go_loopw [9] (fun i wr => ∃ k : Nat, k ≤ 11 ∧ i = .int .i64 k ∧ I k wr) (fun i _ => 11 - (intOf i).toNat)
  case atStart => exact ⟨0, by omega, rfl, hI⟩
  case round =>
    obtain ⟨k, hk, rfl, hIr⟩ := hrel
    by_cases hlt : k < 11
    · have hlen : (headOps s b0 b1 b2 b4).length = 11 := rfl
      obtain ⟨o, ho⟩ : ∃ o, o = (headOps s b0 b1 b2 b4)[k]'(by rw [hlen]; exact hlt) := ⟨_, rfl⟩
      have hc : ∀ j v, o.cells[j]? = some v → wr.cell? ⟨g, k * 12 + j, none⟩ = some v := fun j v hv => head_cell (HP.out.head _ wr hIr) k (by rw [hlen]; exact hlt) j v (by rw [← ho]; exact hv)
      have hm : Hid (o ∈ headOps s b0 b1 b2 b4) := by rw [ho]; exact List.getElem_mem _
      obtain ⟨kd, os, c0, c1, c2, p0, p1, p2, va, va1, va2, vl, vl1, vl2, sz, vf, vf1, vf2⟩ := o
      have i0 := hc 0 _ rfl
      have i1 := hc 1 _ rfl
      have i2 := hc 2 _ rfl
      have i3 := hc 3 _ rfl
      have i4 := hc 4 _ rfl
      have i5 := hc 5 _ rfl
      have i6 := hc 6 _ rfl
      have i7 := hc 7 _ rfl
      have i8 := hc 8 _ rfl
      have i9 := hc 9 _ rfl
      have i10 := hc 10 _ rfl
      have i11 := hc 11 _ rfl
      clear hc ho
      rw [Nat.add_zero] at i0
      have hlt' : (k : Int) < 11 := by omega
      by_cases h1 : lo ≤ kd
      · by_cases h2 : kd ≤ up
        · have hst := HP.out.step k wr _ (by omega) hIr (.inl hm.out) h1 h2
          go_wp2_with (go_at_call 15; refine hst.mono ?_; rintro e w1 ⟨rfl, hI1⟩)
          go_roundw
          case rel => exact ⟨k + 1, by omega, by go_num, hI1⟩
          case measure => simp [intOf]; omega
        · go_wp2
          go_roundw
          case rel => exact ⟨k + 1, by omega, by go_num, HP.out.mono _ _ hIr⟩
          case measure => simp [intOf]; omega
      · go_wp2
        go_roundw
        case rel => exact ⟨k + 1, by omega, by go_num, HP.out.mono _ _ hIr⟩
        case measure => simp [intOf]; omega
    · have hge : ¬ (k : Int) < 11 := by omega
      obtain ⟨k9, h9⟩ : ∃ k9, k9 = k := ⟨k, rfl⟩
      subst h9
      have hIr' : I 11 wr := by rw [show (11 : Nat) = k9 by omega]; exact hIr
      have HIR : Hid (I 11 wr) := hIr'
      clear hlt hk hI hIr hIr'
      go_wp2
      go_loopw [11] (fun i wr => ∃ k : Nat, k ≤ len ∧ i = .int .i64 k ∧ I (11 + k) wr) (fun i _ => len - (intOf i).toNat)
      case atStart => exact ⟨0, by omega, rfl, HIR.out⟩
      case round =>
        clear HIR
        obtain ⟨k, hk, rfl, hIr⟩ := hrel
        by_cases hend : k < len ∧ (k : Int) < 1152921504606846976
        · obtain ⟨hlt, hM⟩ := hend
          obtain ⟨b, off, ha, hbs, hlen, hcl⟩ : ∃ b off, a = some ⟨b, off, none⟩ ∧ b < w.heap.size ∧ ops.length = len ∧ ∀ i (h : i < ops.length) (j : Nat) (v : Value), ops[i].cells[j]? = some v → w.cell? ⟨b, off + i * 12 + j, none⟩ = some v := by
            rcases HS.out with ⟨h, _⟩ | h
            · omega
            · exact h
          subst ha
          obtain ⟨o, ho⟩ : ∃ o, o = ops[k]'(by rw [hlen]; exact hlt) := ⟨_, rfl⟩
          have hbel := HP.out.below _ wr hIr
          have hc : ∀ j v, o.cells[j]? = some v → wr.cell? ⟨b, off + k * 12 + j, none⟩ = some v := fun j v hv => (hbel.cell (p := ⟨b, off + k * 12 + j, none⟩) hbs).trans (hcl k (by rw [hlen]; exact hlt) j v (by rw [← ho]; exact hv))
          have hm : Hid (o ∈ ops) := by rw [ho]; exact List.getElem_mem _
          obtain ⟨kd, os, c0, c1, c2, p0, p1, p2, va, va1, va2, vl, vl1, vl2, sz, vf, vf1, vf2⟩ := o
          have i0 := hc 0 _ rfl
          have i1 := hc 1 _ rfl
          have i2 := hc 2 _ rfl
          have i3 := hc 3 _ rfl
          have i4 := hc 4 _ rfl
          have i5 := hc 5 _ rfl
          have i6 := hc 6 _ rfl
          have i7 := hc 7 _ rfl
          have i8 := hc 8 _ rfl
          have i9 := hc 9 _ rfl
          have i10 := hc 10 _ rfl
          have i11 := hc 11 _ rfl
          clear hc ho hcl hbel
          rw [Nat.add_zero] at i0
          have hlt' : (k : Int) < (len : Int) := by omega
          have hIa := HP.out.alloc _ wr (.cells #[.int .i64 kd, .string os, .int .i64 c0, .int .i64 c1, .int .i64 c2, .int .u8 p0, .int .u8 p1, .int .u8 p2, .slice va va1 va2, .slice vl vl1 vl2, .int .i64 sz, .slice vf vf1 vf2] 54) hIr
          by_cases h1 : kd < lo
          · go_wp2
            go_roundw
            case rel => exact ⟨k + 1, by omega, by go_num, HP.out.mono _ _ hIa⟩
            case measure => simp [intOf]; omega
          · by_cases h2 : up < kd
            · go_wp2
              go_roundw
              case rel => exact ⟨k + 1, by omega, by go_num, HP.out.mono _ _ hIa⟩
              case measure => simp [intOf]; omega
            · have hst := HP.out.step (11 + k) _ _ (by omega) hIa (.inr hm.out) (by simpa using h1) (by simpa using h2)
              rcases h3 : ((k : Int) % 3 == 2) with _ | _
              · go_wp2_with (first
                  | (go_at_call 15; refine hst.mono ?_; rintro e w1 ⟨rfl, hI1⟩)
                  | (go_at_call 17; refine (HP.out.looks _ _ (by omega) hI1).mono ?_; rintro e w3 ⟨rfl, hI3⟩))
                go_roundw
                case rel => exact ⟨k + 1, by omega, by go_num, hI3⟩
                case measure => simp [intOf]; omega
              · go_wp2_with (first
                  | (go_at_call 15; refine hst.mono ?_; rintro e w1 ⟨rfl, hI1⟩)
                  | (go_at_call 16; refine (HP.out.settle _ _ (by omega) hI1).mono ?_; rintro e w2 ⟨rfl, hI2⟩)
                  | (go_at_call 17; refine (HP.out.looks _ _ (by omega) hI2).mono ?_; rintro e w3 ⟨rfl, hI3⟩))
                go_roundw
                case rel => exact ⟨k + 1, by omega, by go_num, hI3⟩
                case measure => simp [intOf]; omega
        · by_cases hlt : k < len
          · have hM : ¬ (k : Int) < 1152921504606846976 := fun h => hend ⟨hlt, h⟩
            have hlt' : (k : Int) < (len : Int) := by omega
            go_wp2_with (first
              | (go_at_call 16; refine (HP.out.settle _ _ (by omega) hIr).mono ?_; rintro e w2 ⟨rfl, hI2⟩)
              | (go_at_call 17; refine (HP.out.looks _ _ (by omega) hI2).mono ?_; rintro e w3 ⟨rfl, hI3⟩))
            go_ret
            exact ⟨rfl, HP.out.below _ _ hI3⟩
          · go_wp2_with (first
              | (go_at_call 16; refine (HP.out.settle _ _ (by omega) hIr).mono ?_; rintro e w2 ⟨rfl, hI2⟩)
              | (go_at_call 17; refine (HP.out.looks _ _ (by omega) hI2).mono ?_; rintro e w3 ⟨rfl, hI3⟩))
            go_ret
            exact ⟨rfl, HP.out.below _ _ hI3⟩

end Go.Proofs.YtekfbphnoibnjaaGreatDoor
namespace Go.Proofs.YtekfbphnoibnjaaGreatDoor
open Go.RowKit

set_option maxHeartbeats 1000000 in
theorem step_three (P : World → Prop) (p : Value) (s : ByteArray) (c0 c1 c2 r g b : Int) (vb vl : Value) (z : Int) (vf : Value) (w : World)
    (H : ∀ o, Calls Tryz.prog 26 #[p, .agg #[.int .i64 3, .string s, .int .i64 c0, .int .i64 c1, .int .i64 c2, .int .u8 r, .int .u8 g, .int .u8 b, vb, vl, .int .i64 z, vf]] (w.alloc o) fun e w' => e = .returned (.bool true) ∧ P w') :
    Calls Tryz.prog 15 #[p, .agg #[.int .i64 3, .string s, .int .i64 c0, .int .i64 c1, .int .i64 c2, .int .u8 r, .int .u8 g, .int .u8 b, vb, vl, .int .i64 z, vf]] w fun e w' => e = .returned (.bool true) ∧ P w' := by
  go_enter Tryz.func15, Tryz.ntmps15
  go_wp2_with (go_at_call 26; refine (H _).mono ?_; rintro e w1 ⟨rfl, hb1⟩)
  go_ret
  exact ⟨rfl, hb1⟩

set_option maxHeartbeats 1000000 in
theorem step_four (P : World → Prop) (p : Value) (s : ByteArray) (c0 c1 c2 r g b : Int) (vb vl : Value) (z : Int) (vf : Value) (w : World)
    (H : ∀ o, Calls Tryz.prog 27 #[p, .agg #[.int .i64 4, .string s, .int .i64 c0, .int .i64 c1, .int .i64 c2, .int .u8 r, .int .u8 g, .int .u8 b, vb, vl, .int .i64 z, vf]] (w.alloc o) fun e w' => e = .returned (.bool true) ∧ P w') :
    Calls Tryz.prog 15 #[p, .agg #[.int .i64 4, .string s, .int .i64 c0, .int .i64 c1, .int .i64 c2, .int .u8 r, .int .u8 g, .int .u8 b, vb, vl, .int .i64 z, vf]] w fun e w' => e = .returned (.bool true) ∧ P w' := by
  go_enter Tryz.func15, Tryz.ntmps15
  go_wp2_with (go_at_call 27; refine (H _).mono ?_; rintro e w1 ⟨rfl, hb1⟩)
  go_ret
  exact ⟨rfl, hb1⟩

/-- The lists of a step, as they lie in memory. -/
structure OpL (w : World) (o : OpV) : Prop where
  b : (o.b = none ∧ o.bl = 0) ∨ ∃ a bs, o.b = some a ∧ BitsIn w (some a) o.bl bs ∧ o.bl ≤ 800000000
  l : (o.l = none ∧ o.ll = 0) ∨ ∃ a zs, o.l = some a ∧ IntsIn w (some a) o.ll zs ∧ o.ll ≤ 800000000
  s : o.s.size ≤ maxLen
/-- None of them lies in the block p. -/
def OpN (p : Nat) (o : OpV) : Prop := (∀ a, o.b = some a → o.bl ≠ 0 → a.block ≠ p) ∧ (∀ a, o.l = some a → o.ll ≠ 0 → a.block ≠ p)

/-- What holds behind c steps. -/
structure LinI (w wH : World) (p c : Nat) (w' : World) : Prop where
  st : ∃ M own vi vb vw ve ibs bbs wts, St w wH w' p M own vi vb vw ve ibs bbs wts 0 ∧ M + wts.length ≤ 3 * c ∧ ibs.length + wts.length ≤ 3 * c ∧ bbs.length ≤ 3 * c
theorem LinI.below {w wH w' w'' : World} {p c : Nat} (h : LinI w wH p c w') (f : Below w'.heap.size w' w'') : LinI w wH p c w'' := by
  obtain ⟨M, own, vi, vb, vw, ve, ibs, bbs, wts, h1, h2, h3, h4⟩ := h.st
  exact ⟨M, own, vi, vb, vw, ve, ibs, bbs, wts, h1.below f, h2, h3, h4⟩

theorem lin_three {w wH w' : World} {p c : Nat} {o : OpV} (hc : 3 * c ≤ 90000000) (h : LinI w wH p c w') (ho : OpL wH o) (hp : OpN p o) (hk : o.kind = 3) :
    Calls Tryz.prog 15 #[.pointer (some ⟨p, 0, none⟩), o.val] w' fun e w'' => e = .returned (.bool true) ∧ LinI w wH p (c + 1) w'' := by
  obtain ⟨kd, s, c0, c1, c2, p0, p1, p2, b, bl, bc, l, ll, lc, sz, f, fl, fc⟩ := o
  simp only at hk
  subst hk
  refine step_three (LinI w wH p (c + 1)) _ s c0 c1 c2 p0 p1 p2 _ _ sz _ w' (fun ox => ?_)
  have h' := h.below ((Below.refl w'.heap.size w').alloc (Nat.le_refl _) ox)
  obtain ⟨M, own, vi, vb, vw, ve, ibs, bbs, wts, h1, h2, h3, h4⟩ := h'.st
  rcases ho.b with ⟨e1, e2⟩ | ⟨a, bs, e1, e2, e3⟩
  · simp only at e1 e2
    subst e1 e2
    refine (squeezes_nil w wH _ p M vi vw ve ibs bbs.length wts ⟨own, vb, bbs, h1, rfl⟩ 3 s c0 c1 c2 p0 p1 p2 bc l ll lc sz f fl fc).mono ?_
    rintro e w'' ⟨rfl, ⟨own2, vb2, bbs2, g1, g2⟩⟩
    exact ⟨rfl, ⟨_, _, _, _, _, _, _, _, _, g1, by omega, by omega, by omega⟩⟩
  · simp only at e1 e2 e3
    subst e1
    refine (squeezes_some w wH _ p M own vi vb vw ve ibs bbs wts h1 3 s c0 c1 c2 p0 p1 p2 a bl bc l ll lc sz f fl fc bs e2 (hp.1 a rfl) e3 (by omega) (by omega)).mono ?_
    rintro e w'' ⟨rfl, ⟨own2, vb2, bbs2, g1, g2⟩⟩
    exact ⟨rfl, ⟨_, _, _, _, _, _, _, _, _, g1, by omega, by omega, by omega⟩⟩

theorem lin_four {w wH w' : World} {p c : Nat} {o : OpV} (hc : 3 * c ≤ 90000000) (h : LinI w wH p c w') (ho : OpL wH o) (hp : OpN p o) (hk : o.kind = 4) {a0 a1 a2 : Addr} (E : Errs w a0 a1 a2) :
    Calls Tryz.prog 15 #[.pointer (some ⟨p, 0, none⟩), o.val] w' fun e w'' => e = .returned (.bool true) ∧ LinI w wH p (c + 1) w'' := by
  obtain ⟨kd, s, c0, c1, c2, p0, p1, p2, b, bl, bc, l, ll, lc, sz, f, fl, fc⟩ := o
  simp only at hk
  subst hk
  refine step_four (LinI w wH p (c + 1)) _ s c0 c1 c2 p0 p1 p2 _ _ sz _ w' (fun ox => ?_)
  have h' := h.below ((Below.refl w'.heap.size w').alloc (Nat.le_refl _) ox)
  obtain ⟨M, own, vi, vb, vw, ve, ibs, bbs, wts, h1, h2, h3, h4⟩ := h'.st
  have hs := ho.s
  rcases ho.l with ⟨e1, e2⟩ | ⟨a, zs, e1, e2, e3⟩
  · simp only at e1 e2
    subst e1 e2
    refine (stretches_nil w wH _ p M own vi vb vw ve ibs bbs wts h1 4 s c0 c1 c2 p0 p1 p2 b bl bc lc sz f fl fc hs (by omega) a0 a1 a2 E).mono ?_
    rintro e w'' ⟨rfl, ⟨own2, vi2, vw2, ve2, ibs2, wts2, g1, g2, g3⟩⟩
    exact ⟨rfl, ⟨_, _, _, _, _, _, _, _, _, g1, by omega, by omega, by omega⟩⟩
  · simp only at e1 e2 e3
    subst e1
    refine (stretches_some w wH _ p M own vi vb vw ve ibs bbs wts h1 4 s c0 c1 c2 p0 p1 p2 b bl bc a ll lc sz f fl fc zs e2 (hp.2 a rfl) e3 hs (by omega) (by omega) (by omega) a0 a1 a2 E).mono ?_
    rintro e w'' ⟨rfl, ⟨own2, vi2, vw2, ve2, ibs2, wts2, g1, g2, g3⟩⟩
    exact ⟨rfl, ⟨_, _, _, _, _, _, _, _, _, g1, by omega, by omega, by omega⟩⟩

theorem st_start {w wH : World} {g : Nat} {s : ByteArray} {b0 b1 b2 b3 b4 : Nat} (h : Opened (w.alloc world0) wH g s b0 b1 b2 b3 b4) : LinI w wH w.heap.size 0 wH := by
  have hsz := h.below.size
  rw [World.size_alloc] at hsz
  have k0 : Below w.heap.size w wH := ((Below.refl _ _).alloc (Nat.le_refl _) _).trans (h.below.mono (by simp))
  have bk := book0_new h.below
  refine ⟨0, fun k => if k = w.heap.size then 0 else 1, .slice none 0 0, .slice none 0 0, .slice none 0 0, .slice none 0 0, [], [], [], ?_, by simp, by simp, by simp⟩
  have rn : ∀ (o : Nat → Nat) (r : Nat), role o (.slice none 0 0) r := fun o r k hk => by simp [Value.ownBlock] at hk
  refine ⟨⟨bk.c0, fun j v hv => ?_, rfl, bk.fz, by omega⟩, World.ownsRow_nil _ _ _ _, World.ownsRow_nil _ _ _ _, World.ownsRow_nil _ _ _ _, World.ownsRow_nil _ _ _ _, rn _ _, rn _ _, rn _ _, rn _ _, fun x hx => by simp at hx, fun x hx => by simp at hx, fun i x hx => by simp at hx, by simp, fun k _ hne => by simp [hne], Nat.le_refl _, fun _ _ _ => rfl, k0, rfl, by omega⟩
  unfold bookVs at hv
  match j, hv with
  | 0, hv => simp at hv; subst hv; exact bk.c1
  | 1, hv => simp at hv; subst hv; exact bk.c2
  | 2, hv => simp at hv; subst hv; exact bk.c3
  | 3, hv => simp at hv; subst hv; exact bk.c4
  | 4, hv => simp at hv; subst hv; exact bk.c5
  | 5, hv => simp at hv; subst hv; exact bk.c6
  | 6, hv => simp at hv; subst hv; exact bk.c7
  | 7, hv => simp at hv; subst hv; exact bk.c8
  | j + 8, hv => simp at hv

theorem head_lists {w0 wH : World} {g : Nat} {s : ByteArray} {b0 b1 b2 b3 b4 : Nat} (h : Opened w0 wH g s b0 b1 b2 b3 b4) {p : Nat} (hp : p < w0.heap.size) : ∀ o ∈ headOps s b0 b1 b2 b4, OpL wH o ∧ OpN p o := by
  have hlo := h.lo
  have o1 := h.o1
  have o2 := h.o2
  have o3 := h.o3
  have o4 := h.o4
  have o5 := h.o5
  have up := h.up
  have ss := h.ssize
  have q0 : BitsIn wH (some ⟨b0, 0, none⟩) 1 [(7, 1)] := ⟨rfl, .inr ⟨b0, 0, rfl, by omega, fun i hi => by
    obtain rfl : i = 0 := by omega
    exact ⟨cell_of_row wH b0 0 _ _ _ h.h0, cell_of_row wH b0 1 _ _ _ h.h0⟩⟩⟩
  have q1 : BitsIn wH (some ⟨b1, 0, none⟩) 1 [(-1, 0)] := ⟨rfl, .inr ⟨b1, 0, rfl, by omega, fun i hi => by
    obtain rfl : i = 0 := by omega
    exact ⟨cell_of_row wH b1 0 _ _ _ h.h1, cell_of_row wH b1 1 _ _ _ h.h1⟩⟩⟩
  have q2 : IntsIn wH (some ⟨b2, 0, none⟩) 1 [7] := ⟨rfl, .inr ⟨b2, 0, rfl, by omega, fun i hi => by
    obtain rfl : i = 0 := by omega
    exact cell_of_row wH b2 0 _ _ _ h.h2⟩⟩
  intro o ho
  simp only [headOps, List.mem_cons, List.not_mem_nil, or_false] at ho
  have e0 : (ByteArray.mk #[]).size ≤ maxLen := by decide
  have e4 : (ByteArray.mk #[255, 255, 255, 254]).size ≤ maxLen := by decide
  have e2 : (ByteArray.mk #[70, 66]).size ≤ maxLen := by decide
  have e8 : s.size ≤ maxLen := by rw [ss]; decide
  have N0 : ∀ a : Addr, (none : Option Addr) = some a → (0 : Nat) ≠ 0 → a.block ≠ p := fun a e => by cases e
  have B : ∀ b : Nat, p < b → ∀ a : Addr, some (⟨b, 0, none⟩ : Addr) = some a → (1 : Nat) ≠ 0 → a.block ≠ p := fun b hb a e _ => by injection e with e; subst e; simp only; omega
  rcases ho with rfl | rfl | rfl | rfl | rfl | rfl | rfl | rfl | rfl | rfl | rfl
  · exact ⟨⟨.inl ⟨rfl, rfl⟩, .inl ⟨rfl, rfl⟩, e0⟩, N0, N0⟩
  · exact ⟨⟨.inl ⟨rfl, rfl⟩, .inl ⟨rfl, rfl⟩, e0⟩, N0, N0⟩
  · exact ⟨⟨.inl ⟨rfl, rfl⟩, .inl ⟨rfl, rfl⟩, e0⟩, N0, N0⟩
  · exact ⟨⟨.inr ⟨_, _, rfl, q0, by dsimp only; omega⟩, .inl ⟨rfl, rfl⟩, e0⟩, B b0 (by omega), N0⟩
  · exact ⟨⟨.inr ⟨_, _, rfl, q1, by dsimp only; omega⟩, .inl ⟨rfl, rfl⟩, e0⟩, B b1 (by omega), N0⟩
  · exact ⟨⟨.inl ⟨rfl, rfl⟩, .inr ⟨_, _, rfl, q2, by dsimp only; omega⟩, e4⟩, N0, B b2 (by omega)⟩
  · exact ⟨⟨.inl ⟨rfl, rfl⟩, .inl ⟨rfl, rfl⟩, e0⟩, N0, N0⟩
  · exact ⟨⟨.inl ⟨rfl, rfl⟩, .inl ⟨rfl, rfl⟩, e8⟩, N0, N0⟩
  · exact ⟨⟨.inl ⟨rfl, rfl⟩, .inl ⟨rfl, rfl⟩, e2⟩, N0, N0⟩
  · exact ⟨⟨.inl ⟨rfl, rfl⟩, .inl ⟨rfl, rfl⟩, e0⟩, N0, N0⟩
  · exact ⟨⟨.inl ⟨rfl, rfl⟩, .inl ⟨rfl, rfl⟩, e0⟩, N0, N0⟩

/-- Lists that came in lie below. -/
theorem OpL.on {w wH : World} {o : OpV} (h : OpL w o) (f : Below w.heap.size w wH) : OpL wH o ∧ OpN w.heap.size o := by
  refine ⟨⟨?_, ?_, h.s⟩, fun a ha hn => ?_, fun a ha hn => ?_⟩
  · rcases h.b with h' | ⟨a, bs, e1, e2, e3⟩
    · exact .inl h'
    · exact .inr ⟨a, bs, e1, e2.below f, e3⟩
  · rcases h.l with h' | ⟨a, bs, e1, e2, e3⟩
    · exact .inl h'
    · exact .inr ⟨a, bs, e1, e2.below f, e3⟩
  · rcases h.b with ⟨e1, _⟩ | ⟨x, bs, e1, e2, e3⟩
    · rw [e1] at ha; cases ha
    · rw [e1] at ha
      injection ha with ha
      subst ha
      rcases e2.2 with e | ⟨b, off, e, hb, _⟩
      · exact absurd e hn
      · injection e with e
        rw [e]; simp only; omega
  · rcases h.l with ⟨e1, _⟩ | ⟨x, bs, e1, e2, e3⟩
    · rw [e1] at ha; cases ha
    · rw [e1] at ha
      injection ha with ha
      subst ha
      rcases e2.2 with e | ⟨b, off, e, hb, _⟩
      · exact absurd e hn
      · injection e with e
        rw [e]; simp only; omega

theorem lin_player (w wH : World) (g : Nat) (s : ByteArray) (b0 b1 b2 b3 b4 : Nat) (len : Nat) (hl : len ≤ 2000000) (ops : List OpV) (hf : ∀ o ∈ ops, OpL w o) {a0 a1 a2 : Addr} (E : Errs w a0 a1 a2) (h : Opened (w.alloc world0) wH g s b0 b1 b2 b3 b4) :
    PlayerN 3 4 w w.heap.size g (11 + len) (headOps s b0 b1 b2 b4) ops (LinI w wH w.heap.size) := by
  have hlo := h.lo
  rw [World.size_alloc] at hlo
  have o1 := h.o1
  have o2 := h.o2
  have o3 := h.o3
  have o4 := h.o4
  have o5 := h.o5
  have k0 : Below w.heap.size w wH := ((Below.refl _ _).alloc (Nat.le_refl _) _).trans (h.below.mono (by simp))
  refine ⟨fun c w' hw => ?_, fun c w' hw => ?_, fun c w' o hw => hw.below ((Below.refl _ _).alloc (Nat.le_refl _) _), fun c w' hw => ?_, fun c w' o hc hw ho h1 h2 => ?_, fun c w' hc hw => ?_, fun c w' hc hw => ?_⟩
  · obtain ⟨M, own, vi, vb, vw, ve, ibs, bbs, wts, g1, _⟩ := hw.st
    exact g1.bel
  · obtain ⟨M, own, vi, vb, vw, ve, ibs, bbs, wts, g1, _⟩ := hw.st
    exact (g1.kept g h.up (by omega)).trans h.hg
  · obtain ⟨M, own, vi, vb, vw, ve, ibs, bbs, wts, g1, g2, g3, g4⟩ := hw.st
    exact ⟨M, own, vi, vb, vw, ve, ibs, bbs, wts, g1, by omega, by omega, by omega⟩
  · have hol : OpL wH o ∧ OpN w.heap.size o := by
      rcases ho with ho | ho
      · exact head_lists h (p := w.heap.size) (by simp) o ho
      · exact (hf o ho).on k0
    rcases (show o.kind = 3 ∨ o.kind = 4 by omega) with e | e
    · exact lin_three (by omega) hw hol.1 hol.2 e
    · exact lin_four (by omega) hw hol.1 hol.2 e E
  · obtain ⟨M, own, vi, vb, vw, ve, ibs, bbs, wts, g1, g2, g3, g4⟩ := hw.st
    refine (settle_st w wH w' _ M own vi vb vw ve ibs bbs wts g1 (by omega) (by omega)).mono ?_
    rintro e w'' ⟨rfl, own2, vi2, ibs2, q1, q2⟩
    exact ⟨rfl, ⟨_, _, _, _, _, _, _, _, _, q1, by simp; omega, by simp; omega, by omega⟩⟩
  · obtain ⟨M, own, vi, vb, vw, ve, ibs, bbs, wts, g1, g2, g3, g4⟩ := hw.st
    refine (looks_st w wH w' _ M own vi vb vw ve ibs bbs wts g1 (by omega) (by omega)).mono ?_
    rintro e w'' ⟨rfl, q1⟩
    exact ⟨rfl, hw.below q1⟩

set_option maxHeartbeats 400000 in
theorem lines_any (w : World) (a : Option Addr) (len cap : Nat) (ops : List OpV) (hs : Script w a len ops) (hl : len ≤ 2000000) (hf : ∀ o ∈ ops, OpL w o) {a0 a1 a2 : Addr} (E : Errs w a0 a1 a2) :
    Calls Tryz.prog 4 #[.slice a len cap] w fun e w' => e = .returned (.bool true) ∧ Below w.heap.size w w' := by
  have H := plays_cnt 3 4 w a len cap ops hs (by unfold maxLen; omega) (fun wH g s b0 b1 b2 b3 b4 h => ⟨_, st_start h, lin_player w wH g s b0 b1 b2 b3 b4 len hl ops hf E h⟩)
  go_enter Tryz.func4, Tryz.ntmps4
  go_wp2_with (go_at_call 9; refine H.mono ?_; rintro e w1 ⟨rfl, hb1⟩)
  go_ret
  exact ⟨rfl, hb1⟩

end Go.Proofs.YtekfbphnoibnjaaGreatDoor
namespace Go.Proofs.YtekfbphnoibnjaaGreatDoor
open Go.ChangeShapes Go.WideShapes Go.ChangeAt Go.RowKit Go.Joins Go.Deep

theorem bulk_pos {H : Type} (d : DataW H) : 1 ≤ Rows.uptoBulk d := by
  cases d with
  | lit l => cases l <;> simp [Rows.uptoBulk]
  | nil => simp [Rows.uptoBulk]
  | ptr d => simp [Rows.uptoBulk]
  | slice elems spare => simp [Rows.uptoBulk]
  | agg parts => simp [Rows.uptoBulk]
  | iface t d => simp [Rows.uptoBulk]
  | map entries => simp [Rows.uptoBulk]
  | held h => simp [Rows.uptoBulk]
theorem bulk_mem {H : Type} {d : DataW H} : ∀ {l : List (DataW H)}, d ∈ l → Rows.uptoBulk d ≤ Rows.uptoBulkAll l
  | [], h => by cases h
  | x :: r, h => by
    rw [Rows.uptoBulkAll]
    rcases List.mem_cons.1 h with e | e
    · subst e; omega
    · have := bulk_mem e; omega
theorem bulk_len {H : Type} : ∀ (l : List (DataW H)), l.length ≤ Rows.uptoBulkAll l
  | [] => by simp
  | x :: r => by
    have := bulk_len r
    have := bulk_pos x
    rw [Rows.uptoBulkAll, List.length_cons]
    omega

theorem cellsBit : Tryz.prog.cellsOf 69 = 2 := by kernel_rfl

theorem list2 {α : Type} {l : List α} (h : l.length = 2) : ∃ a0 a1, l = [a0, a1] := by
  match l, h with
  | [a0, a1], _ => exact ⟨_, _, rfl⟩

section
variable {H : Type} {enc : TypeId × Value → H} {w : World} {base : Nat} {spare : Nat → Bool} {held : Bool}

theorem slice_bulk {P : Program} {t e : TypeId} {fuel : Nat} {a : Option Addr} {len cap : Nat} {x : DataW H × List MemPlace} (ht : P.underlying t = some (.slice e)) (h : DataW.trod enc P w base spare held fuel t [.slice a len cap] = some x) : len ≤ Rows.uptoBulk x.1 := by
  rcases open_slice ht h with ⟨h1, _⟩ | ⟨a', len', cap', m, n, D, Pl, h1, _, hl, hm, hmm, rfl, hx⟩
  · simp at h1; omega
  · simp at h1
    obtain ⟨rfl, rfl, rfl⟩ := h1
    have := bulk_len ((List.range len).map D)
    rw [List.length_map, List.length_range] at this
    show len ≤ Rows.uptoBulk (.slice _ _)
    rw [Rows.uptoBulk]
    omega

theorem open_ints2 {fuel : Nat} {a : Option Addr} {len cap : Nat} {x : DataW H × List MemPlace} (h : DataW.trod enc Tryz.prog w base spare held fuel 52 [.slice a len cap] = some x) (hk : Rows.uptoBulk x.1 ≤ 1048576) :
    (a = none ∧ len = 0) ∨ ∃ a' zs, a = some a' ∧ IntsIn w (some a') len zs ∧ len ≤ 800000000 := by
  have hlb := slice_bulk Tryz.underlying52 h
  rcases ChangeShapes.open_ints Tryz.underlying52 Tryz.underlying3 cellsI64 h with ⟨h1, _⟩ | ⟨a', len', cap', zs, h1, _, hl, hm, hz, _, hcell, hwf⟩
  · simp at h1
    exact .inl ⟨h1.1, h1.2.1⟩
  · simp at h1
    obtain ⟨rfl, rfl, rfl⟩ := h1
    refine .inr ?_
    have hlz : len ≤ zs.length := by rw [hz]; split <;> omega
    have hgt : ∀ i, i < len → (zs.take len).getD i 0 = zs.getD i 0 := fun i hi => by
      rw [List.getD_eq_getElem?_getD, List.getD_eq_getElem?_getD, List.getElem?_take, if_pos hi]
    by_cases h0 : len = 0
    · exact ⟨a', [], rfl, ⟨by simp [h0], .inl h0⟩, by omega⟩
    · obtain ⟨b, off, spot⟩ := a'
      have hc0 := hcell 0 (by omega)
      have hspot : spot = none := by
        have := World.cell?_spot hc0
        simpa [Addr.add] using this
      subst hspot
      refine ⟨_, zs.take len, rfl, ⟨by simp; omega, .inr ⟨b, off, rfl, ?_, fun i hi => ?_⟩⟩, by omega⟩
      · rw [add_plain] at hc0
        exact World.block_lt_of_cell? w _ hc0
      · rw [hgt i hi, ← add_plain]
        exact hcell i (by omega)

theorem open_bit {n : Nat} {cs : List Value} {x : DataW H × List MemPlace} (h : DataW.trod enc Tryz.prog w base spare held n 69 cs = some x) : ∃ c b : Int, cs = [.int .i64 c, .int .i64 b] := by
  obtain ⟨xs, m, _, _, hlen, hxl, hf⟩ := DataW.trod_struct Tryz.underlying69 h
  rw [cellsBit] at hlen
  have hx2 : xs.length = 2 := hxl
  obtain ⟨a0, a1, rfl⟩ := list2 hlen
  have k0 : DataW.trod enc Tryz.prog w base spare held m 3 [a0] = some (xs[0]'(by omega)) := by
    have k : DataW.trod enc Tryz.prog w base spare held m 3 (([a0, a1].drop 0).take (Tryz.prog.cellsOf 3)) = xs[0]? := hf 0 _ rfl
    rw [cellsI64, List.getElem?_eq_getElem (by omega)] at k
    exact k
  have k1 : DataW.trod enc Tryz.prog w base spare held m 3 [a1] = some (xs[1]'(by omega)) := by
    have k : DataW.trod enc Tryz.prog w base spare held m 3 (([a0, a1].drop 1).take (Tryz.prog.cellsOf 3)) = xs[1]? := hf 1 _ rfl
    rw [cellsI64, List.getElem?_eq_getElem (by omega)] at k
    exact k
  obtain ⟨c, e0, _, _⟩ := DataW.trod_int Tryz.underlying3 k0
  obtain ⟨b, e1, _, _⟩ := DataW.trod_int Tryz.underlying3 k1
  simp at e0 e1
  exact ⟨c, b, by rw [e0, e1]⟩

theorem open_bits2 {fuel : Nat} {a : Option Addr} {len cap : Nat} {x : DataW H × List MemPlace} (h : DataW.trod enc Tryz.prog w base spare held fuel 51 [.slice a len cap] = some x) (hk : Rows.uptoBulk x.1 ≤ 1048576) :
    (a = none ∧ len = 0) ∨ ∃ a' bs, a = some a' ∧ BitsIn w (some a') len bs ∧ len ≤ 800000000 := by
  have hlb := slice_bulk Tryz.underlying51 h
  rcases open_slice Tryz.underlying51 h with ⟨h1, _⟩ | ⟨a', len', cap', m, n, D, Pl, h1, _, hl, hm, hmm, _, hx⟩
  · simp at h1
    exact .inl ⟨h1.1, h1.2.1⟩
  · simp at h1
    obtain ⟨rfl, rfl, rfl⟩ := h1
    refine .inr ?_
    rw [cellsBit] at hx
    have hlm : len ≤ m := by rw [hmm]; split <;> omega
    have hop : ∀ i, i < len → ∃ cb : Int × Int, w.cells? base (a'.add (i * 2)) 2 = some [.int .i64 cb.1, .int .i64 cb.2] := fun i hi => by
      obtain ⟨cs, h1, h2⟩ := hx i (by omega)
      obtain ⟨c, b, rfl⟩ := open_bit h2
      exact ⟨(c, b), h1⟩
    by_cases h0 : len = 0
    · exact ⟨a', [], rfl, ⟨by simp [h0], .inl h0⟩, by omega⟩
    · obtain ⟨f, hf⟩ := choose_lt hop
      obtain ⟨b, off, spot⟩ := a'
      have hz := (World.cells?_some (hf 0 (by omega))).2.2 0 (by omega)
      have hc0 : w.cell? ⟨b, off, spot⟩ = some (.int .i64 (f 0).1) := by simpa [Addr.add] using hz
      have hspot : spot = none := by simpa [Addr.add] using World.cell?_spot hc0
      subst hspot
      refine ⟨_, (List.range len).map f, rfl, ⟨by simp, .inr ⟨b, off, rfl, World.block_lt_of_cell? w _ hc0, fun i hi => ?_⟩⟩, by omega⟩
      have e : ((List.range len).map f).getD i (0, 0) = f i := by
        rw [List.getD_eq_getElem?_getD, List.getElem?_map, List.getElem?_range hi]; rfl
      have k0 := (World.cells?_some (hf i hi)).2.2 0 (by omega)
      have k1 := (World.cells?_some (hf i hi)).2.2 1 (by omega)
      rw [add_plain, add_plain] at k0 k1
      rw [e]
      exact ⟨by simpa using k0, by simpa using k1⟩

theorem open_op_lists {n : Nat} {o : OpV} {x : DataW H × List MemPlace} (h : DataW.trod enc Tryz.prog w base spare held n 54 o.cells = some x) (hk : Rows.uptoBulk x.1 ≤ 1048576) : OpL w o := by
  obtain ⟨xs, m, _, hx, _, hxl, hf⟩ := DataW.trod_struct Tryz.underlying54 h
  have hx7 : xs.length = 7 := hxl
  have hb : ∀ i (hi : i < xs.length), Rows.uptoBulk (xs[i]).1 ≤ 1048576 := fun i hi => by
    have hm : (xs[i]).1 ∈ xs.map (·.1) := List.mem_map.2 ⟨_, List.getElem_mem hi, rfl⟩
    have := bulk_mem hm
    rw [hx] at hk
    have hk' : Rows.uptoBulk (.agg (xs.map (·.1))) ≤ 1048576 := hk
    rw [Rows.uptoBulk] at hk'
    omega
  have g1 : DataW.trod enc Tryz.prog w base spare held m 9 [.string o.s] = some (xs[1]'(by omega)) := by
    have k : DataW.trod enc Tryz.prog w base spare held m 9 ((o.cells.drop 1).take (Tryz.prog.cellsOf 9)) = xs[1]? := hf 1 _ rfl
    rw [cellsStr, List.getElem?_eq_getElem (by omega)] at k
    exact k
  have g4 : DataW.trod enc Tryz.prog w base spare held m 51 [.slice o.b o.bl o.bc] = some (xs[4]'(by omega)) := by
    have k : DataW.trod enc Tryz.prog w base spare held m 51 ((o.cells.drop 8).take (Tryz.prog.cellsOf 51)) = xs[4]? := hf 4 _ rfl
    rw [cellsBits, List.getElem?_eq_getElem (by omega)] at k
    exact k
  have g5 : DataW.trod enc Tryz.prog w base spare held m 52 [.slice o.l o.ll o.lc] = some (xs[5]'(by omega)) := by
    have k : DataW.trod enc Tryz.prog w base spare held m 52 ((o.cells.drop 9).take (Tryz.prog.cellsOf 52)) = xs[5]? := hf 5 _ rfl
    rw [cellsInts, List.getElem?_eq_getElem (by omega)] at k
    exact k
  obtain ⟨s, e1, _, hs⟩ := DataW.trod_string Tryz.underlying9 g1
  simp at e1
  exact ⟨open_bits2 g4 (hb 4 (by omega)), open_ints2 g5 (hb 5 (by omega)), by rw [e1]; exact hs⟩

theorem open_script2 {fuel : Nat} {a : Option Addr} {len cap : Nat} {x : DataW H × List MemPlace} (h : DataW.trod enc Tryz.prog w base spare held fuel 22 [.slice a len cap] = some x) (hk : Rows.uptoBulk x.1 ≤ 1048576) :
    ∃ ops : List OpV, Script w a len ops ∧ (∀ o ∈ ops, OpL w o) ∧ len ≤ 1048576 := by
  have hlb := slice_bulk Tryz.underlying22 h
  rcases open_slice Tryz.underlying22 h with ⟨h1, _⟩ | ⟨a', len', cap', m, n, D, Pl, h1, _, hl, hm, hmm, rfl, hx⟩
  · simp at h1
    obtain ⟨rfl, rfl, rfl⟩ := h1
    exact ⟨[], .inl ⟨rfl, rfl⟩, by simp, by omega⟩
  · simp at h1
    obtain ⟨rfl, rfl, rfl⟩ := h1
    rw [cellsOp] at hx
    have hlm : len ≤ m := by rw [hmm]; split <;> omega
    have hD : ∀ i, i < len → Rows.uptoBulk (D i) ≤ 1048576 := fun i hi => by
      have hm : D i ∈ (List.range len).map D := List.mem_map.2 ⟨i, List.mem_range.2 hi, rfl⟩
      have := bulk_mem hm
      have hk' : Rows.uptoBulk (.slice ((List.range len).map D) ((List.range (m - len)).map fun j => D (len + j))) ≤ 1048576 := hk
      rw [Rows.uptoBulk] at hk'
      omega
    have hop : ∀ i, i < len → ∃ o : OpV, OpL w o ∧ w.cells? base (a'.add (i * 12)) 12 = some o.cells := fun i hi => by
      obtain ⟨cs, h1, h2⟩ := hx i (by omega)
      obtain ⟨o, rfl, hfit⟩ := open_op h2
      exact ⟨o, open_op_lists h2 (hD i hi), h1⟩
    have inh : Inhabited OpV := ⟨opA 0⟩
    obtain ⟨f, hf⟩ := choose_lt hop
    by_cases h0 : len = 0
    · exact ⟨[], .inl ⟨h0, rfl⟩, by simp, by omega⟩
    · obtain ⟨b, off, spot⟩ := a'
      have hz := (World.cells?_some (hf 0 (by omega)).2).2.2 0 (by omega)
      have hc0 : w.cell? ⟨b, off, spot⟩ = some (.int .i64 (f 0).kind) := by simpa [Addr.add, OpV.cells] using hz
      have hspot : spot = none := by simpa [Addr.add] using World.cell?_spot hc0
      subst hspot
      refine ⟨(List.range len).map f, .inr ⟨b, off, rfl, World.block_lt_of_cell? w _ hc0, by simp, ?_⟩, ?_, by omega⟩
      · intro i hi j v hv
        have hi' : i < len := by simpa using hi
        have hj : j < 12 := by
          rcases Nat.lt_or_ge j 12 with h' | h'
          · exact h'
          · rw [List.getElem?_eq_none (by rw [cells_length]; exact h')] at hv; cases hv
        have hcell := (World.cells?_some (hf i hi').2).2.2 j hj
        rw [add_plain, add_plain] at hcell
        rw [hcell, ← hv]
        simp
      · intro o ho
        obtain ⟨i, hi, rfl⟩ := List.mem_map.1 ho
        exact (hf i (List.mem_range.1 hi)).1
end
end Go.Proofs.YtekfbphnoibnjaaGreatDoor
