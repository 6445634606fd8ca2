/-
  A script is played: each step of the kinds in question answers true, then so does the whole.
-/
import Derived.Test.YtekfbphnoibnjaaGreatDoorOpen2
import Derived.Test.YtekfbphnoibnjaaGreatDoorWorld0
namespace Go.Proofs.YtekfbphnoibnjaaGreatDoor
open Go.RowKit

/-- The script as it lies in memory. -/
def Script (w : World) (a : Option Addr) (len : Nat) (ops : List OpV) : Prop :=
  (len = 0 ∧ ops = []) ∨
  ∃ b off, a = some ⟨b, off, none⟩ ∧ b < w.heap.size ∧ ops.length = len ∧ ∀ i (h : i < ops.length) (j : Nat) (v : Value), ops[i].cells[j]? = some v → w.cell? ⟨b, off + i * 12 + j, none⟩ = some v

/-- What a law has to say of its steps, for the script to be played: I is what holds of the world between two steps. -/
structure Player (lo up : Int) (w : World) (p g : Nat) (hd ops : List OpV) (I : World → Prop) : Prop where
  below : ∀ w', I w' → Below w.heap.size w w'
  head : ∀ w', I w' → w'.heap[g]? = some (.cells (opsCells hd).toArray 54 (0, 0))
  alloc : ∀ w' o, I w' → I (w'.alloc o)
  step : ∀ w' o, I w' → o ∈ hd ∨ o ∈ ops → lo ≤ o.kind → o.kind ≤ up → Calls Tryz.prog 15 #[.pointer (some ⟨p, 0, none⟩), o.val] w' fun e w'' => e = .returned (.bool true) ∧ I w''
  settle : ∀ w', I w' → Calls Tryz.prog 16 #[.pointer (some ⟨p, 0, none⟩)] w' fun e w'' => e = .returned (.bool true) ∧ I w''
  looks : ∀ w', I w' → Calls Tryz.prog 17 #[.pointer (some ⟨p, 0, none⟩)] w' fun e w'' => e = .returned (.bool true) ∧ I w''

theorem opsCells_get (ops : List OpV) (i : Nat) (h : i < ops.length) (j : Nat) (v : Value) (hv : ops[i].cells[j]? = some v) : (opsCells ops)[i * 12 + j]? = some v := by
  induction ops generalizing i with
  | nil => simp at h
  | cons o ops ih =>
    have hl : o.cells.length = 12 := rfl
    rw [show opsCells (o :: ops) = o.cells ++ opsCells ops by simp [opsCells]]
    cases i with
    | zero =>
      simp only [List.getElem_cons_zero] at hv
      have hj : j < o.cells.length := by
        rcases Nat.lt_or_ge j o.cells.length with h' | h'
        · exact h'
        · rw [List.getElem?_eq_none h'] at hv; cases hv
      rw [Nat.zero_mul, Nat.zero_add, List.getElem?_append_left hj]; exact hv
    | succ i =>
      simp only [List.getElem_cons_succ] at hv
      rw [List.getElem?_append_right (by rw [hl]; omega), hl, show (i + 1) * 12 + j - 12 = i * 12 + j by omega]
      exact ih i (by simpa using h) hv

theorem head_cell {w : World} {g : Nat} {hd : List OpV} (h : w.heap[g]? = some (.cells (opsCells hd).toArray 54 (0, 0))) (i : Nat) (hi : i < hd.length) (j : Nat) (v : Value) (hv : hd[i].cells[j]? = some v) :
    w.cell? ⟨g, i * 12 + j, none⟩ = some v := by
  rw [cell_of_row w g _ _ _ _ h]
  simpa using opsCells_get hd i hi j v hv

def world0 : Obj := .cells #[.int .i64 0, .slice none 0 0, .slice none 0 0, .slice none 0 0, .slice none 0 0, .slice none 0 0, .slice none 0 0, .slice none 0 0, .slice none 0 0] 46

theorem book0_new {w wH : World} (hb : Below (w.alloc world0).heap.size (w.alloc world0) wH) : Book0 wH w.heap.size := by
  have hh : wH.heap[w.heap.size]? = some world0 := (hb.block w.heap.size (by simp)).trans (heap_new w world0)
  have hc := fun j => cell_of_row wH w.heap.size j _ _ _ hh
  exact ⟨hc 0, hc 1, hc 2, hc 3, hc 4, hc 5, hc 6, hc 7, hc 8, fun j => frozen_of_row wH w.heap.size j _ _ hh⟩

set_option maxHeartbeats 1000000 in
set_option maxRecDepth 20000 in
theorem plays_gen (lo up : Int) (w : World) (a : Option Addr) (len cap : Nat) (ops : List OpV) (hs : Script w a len ops) (hl : len ≤ maxLen)
    (start : ∀ wH g s b0 b1 b2 b3 b4, Opened (w.alloc world0) wH g s b0 b1 b2 b3 b4 → ∃ I : World → Prop, I wH ∧ Player lo up w w.heap.size g (headOps s b0 b1 b2 b4) ops I) :
    Calls Tryz.prog 9 #[.slice a len cap, .int .i64 lo, .int .i64 up] w fun e w' => e = .returned (.bool true) ∧ Below w.heap.size w w' := by
  unfold maxLen at hl
  go_enter Tryz.func9, Tryz.ntmps9
  go_wp2_with (go_at_call 14; refine (opening_any _).mono ?_; rintro e wH ⟨g, s, b0, b1, b2, b3, b4, rfl, hop⟩)
  obtain ⟨I, hI, P⟩ := start wH g s b0 b1 b2 b3 b4 hop
  have HS : Hid (Script w a len ops) := hs
  have HP : Hid (Player lo up w w.heap.size g (headOps s b0 b1 b2 b4) ops I) := P
  clear hs hop start P
  go_loopw [9] (fun i wr => ∃ k : Nat, k ≤ 11 ∧ i = .int .i64 k ∧ I wr) (fun i _ => 11 - (intOf i).toNat)
  case atStart => exact ⟨0, by omega, rfl, hI⟩
  case round =>
    obtain ⟨k, hk, rfl, hIr⟩ := hrel
    by_cases hlt : k < 11
    · have hlen : (headOps s b0 b1 b2 b4).length = 11 := rfl
      obtain ⟨o, ho⟩ : ∃ o, o = (headOps s b0 b1 b2 b4)[k]'(by rw [hlen]; exact hlt) := ⟨_, rfl⟩
      have hc : ∀ j v, o.cells[j]? = some v → wr.cell? ⟨g, k * 12 + j, none⟩ = some v := fun j v hv => head_cell (HP.out.head wr hIr) k (by rw [hlen]; exact hlt) j v (by rw [← ho]; exact hv)
      have hm : Hid (o ∈ headOps s b0 b1 b2 b4) := by rw [ho]; exact List.getElem_mem _
      obtain ⟨kd, os, c0, c1, c2, p0, p1, p2, va, va1, va2, vl, vl1, vl2, sz, vf, vf1, vf2⟩ := o
      have i0 := hc 0 _ rfl
      have i1 := hc 1 _ rfl
      have i2 := hc 2 _ rfl
      have i3 := hc 3 _ rfl
      have i4 := hc 4 _ rfl
      have i5 := hc 5 _ rfl
      have i6 := hc 6 _ rfl
      have i7 := hc 7 _ rfl
      have i8 := hc 8 _ rfl
      have i9 := hc 9 _ rfl
      have i10 := hc 10 _ rfl
      have i11 := hc 11 _ rfl
      clear hc ho
      rw [Nat.add_zero] at i0
      have hlt' : (k : Int) < 11 := by omega
      by_cases h1 : lo ≤ kd
      · by_cases h2 : kd ≤ up
        · have hst := HP.out.step wr _ hIr (.inl hm.out) h1 h2
          go_wp2_with (go_at_call 15; refine hst.mono ?_; rintro e w1 ⟨rfl, hI1⟩)
          go_roundw
          case rel => exact ⟨k + 1, by omega, by go_num, hI1⟩
          case measure => simp [intOf]; omega
        · go_wp2
          go_roundw
          case rel => exact ⟨k + 1, by omega, by go_num, hIr⟩
          case measure => simp [intOf]; omega
      · go_wp2
        go_roundw
        case rel => exact ⟨k + 1, by omega, by go_num, hIr⟩
        case measure => simp [intOf]; omega
    · have hge : ¬ (k : Int) < 11 := by omega
      obtain ⟨k9, h9⟩ : ∃ k9, k9 = k := ⟨k, rfl⟩
      subst h9
      clear hlt hk hI
      go_wp2
      go_loopw [11] (fun i wr => ∃ k : Nat, k ≤ len ∧ i = .int .i64 k ∧ I wr) (fun i _ => len - (intOf i).toNat)
      case atStart => exact ⟨0, by omega, rfl, hIr⟩
      case round =>
        clear hIr
        obtain ⟨k, hk, rfl, hIr⟩ := hrel
        by_cases hend : k < len ∧ (k : Int) < 1152921504606846976
        · obtain ⟨hlt, hM⟩ := hend
          obtain ⟨b, off, ha, hbs, hlen, hcl⟩ : ∃ b off, a = some ⟨b, off, none⟩ ∧ b < w.heap.size ∧ ops.length = len ∧ ∀ i (h : i < ops.length) (j : Nat) (v : Value), ops[i].cells[j]? = some v → w.cell? ⟨b, off + i * 12 + j, none⟩ = some v := by
            rcases HS.out with ⟨h, _⟩ | h
            · omega
            · exact h
          subst ha
          obtain ⟨o, ho⟩ : ∃ o, o = ops[k]'(by rw [hlen]; exact hlt) := ⟨_, rfl⟩
          have hbel := HP.out.below wr hIr
          have hc : ∀ j v, o.cells[j]? = some v → wr.cell? ⟨b, off + k * 12 + j, none⟩ = some v := fun j v hv => (hbel.cell (p := ⟨b, off + k * 12 + j, none⟩) hbs).trans (hcl k (by rw [hlen]; exact hlt) j v (by rw [← ho]; exact hv))
          have hm : Hid (o ∈ ops) := by rw [ho]; exact List.getElem_mem _
          obtain ⟨kd, os, c0, c1, c2, p0, p1, p2, va, va1, va2, vl, vl1, vl2, sz, vf, vf1, vf2⟩ := o
          have i0 := hc 0 _ rfl
          have i1 := hc 1 _ rfl
          have i2 := hc 2 _ rfl
          have i3 := hc 3 _ rfl
          have i4 := hc 4 _ rfl
          have i5 := hc 5 _ rfl
          have i6 := hc 6 _ rfl
          have i7 := hc 7 _ rfl
          have i8 := hc 8 _ rfl
          have i9 := hc 9 _ rfl
          have i10 := hc 10 _ rfl
          have i11 := hc 11 _ rfl
          clear hc ho hcl hbel
          rw [Nat.add_zero] at i0
          have hlt' : (k : Int) < (len : Int) := by omega
          have hIa := HP.out.alloc wr (.cells #[.int .i64 kd, .string os, .int .i64 c0, .int .i64 c1, .int .i64 c2, .int .u8 p0, .int .u8 p1, .int .u8 p2, .slice va va1 va2, .slice vl vl1 vl2, .int .i64 sz, .slice vf vf1 vf2] 54) hIr
          by_cases h1 : kd < lo
          · go_wp2
            go_roundw
            case rel => exact ⟨k + 1, by omega, by go_num, hIa⟩
            case measure => simp [intOf]; omega
          · by_cases h2 : up < kd
            · go_wp2
              go_roundw
              case rel => exact ⟨k + 1, by omega, by go_num, hIa⟩
              case measure => simp [intOf]; omega
            · have hst := HP.out.step _ _ hIa (.inr hm.out) (by simpa using h1) (by simpa using h2)
              rcases h3 : ((k : Int) % 3 == 2) with _ | _
              · go_wp2_with (first
                  | (go_at_call 15; refine hst.mono ?_; rintro e w1 ⟨rfl, hI1⟩)
                  | (go_at_call 17; refine (HP.out.looks _ hI1).mono ?_; rintro e w3 ⟨rfl, hI3⟩))
                go_roundw
                case rel => exact ⟨k + 1, by omega, by go_num, hI3⟩
                case measure => simp [intOf]; omega
              · go_wp2_with (first
                  | (go_at_call 15; refine hst.mono ?_; rintro e w1 ⟨rfl, hI1⟩)
                  | (go_at_call 16; refine (HP.out.settle _ hI1).mono ?_; rintro e w2 ⟨rfl, hI2⟩)
                  | (go_at_call 17; refine (HP.out.looks _ hI2).mono ?_; rintro e w3 ⟨rfl, hI3⟩))
                go_roundw
                case rel => exact ⟨k + 1, by omega, by go_num, hI3⟩
                case measure => simp [intOf]; omega
        · by_cases hlt : k < len
          · have hM : ¬ (k : Int) < 1152921504606846976 := fun h => hend ⟨hlt, h⟩
            have hlt' : (k : Int) < (len : Int) := by omega
            go_wp2_with (first
              | (go_at_call 16; refine (HP.out.settle _ hIr).mono ?_; rintro e w2 ⟨rfl, hI2⟩)
              | (go_at_call 17; refine (HP.out.looks _ hI2).mono ?_; rintro e w3 ⟨rfl, hI3⟩))
            go_ret
            exact ⟨rfl, HP.out.below _ hI3⟩
          · go_wp2_with (first
              | (go_at_call 16; refine (HP.out.settle _ hIr).mono ?_; rintro e w2 ⟨rfl, hI2⟩)
              | (go_at_call 17; refine (HP.out.looks _ hI2).mono ?_; rintro e w3 ⟨rfl, hI3⟩))
            go_ret
            exact ⟨rfl, HP.out.below _ hI3⟩

end Go.Proofs.YtekfbphnoibnjaaGreatDoor
