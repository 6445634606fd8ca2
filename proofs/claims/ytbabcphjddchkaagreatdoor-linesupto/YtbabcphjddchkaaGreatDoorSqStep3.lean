/-
  The step Squeeze of a script, of no list at all.
-/
import Derived.Test.YtbabcphjddchkaaGreatDoorSqStep2
namespace Go.Proofs.YtbabcphjddchkaaGreatDoor
open Go.RowKit

set_option maxHeartbeats 4000000 in
set_option maxRecDepth 20000 in
theorem squeezes_nil (w wH wr : World) (p M : Nat) (vi vw ve : Value) (ibs : List IntB) (bn : Nat) (wts : List Wt) (h : SqW w wH wr p M vi vw ve ibs bn wts) (kd : Int) (s : ByteArray) (c0 c1 c2 q0 q1 q2 : Int) (cap : Nat) (la : Option Addr) (ll lc : Nat) (z : Int) (fa : Option Addr) (fl fc : Nat) :
    Calls Tryz.prog 12 #[.pointer (some ⟨p, 0, none⟩), .agg #[.int .i64 kd, .string s, .int .i64 c0, .int .i64 c1, .int .i64 c2, .int .u8 q0, .int .u8 q1, .int .u8 q2, .slice none 0 cap, .slice la ll lc, .int .i64 z, .slice fa fl fc]] wr fun e w' => e = .returned (.bool true) ∧ SqW w wH w' p M vi vw ve ibs bn wts := by
  have HNI : ∀ (wx : World), Hid (BitsIn wx none 0 ([] : List (Int × Int))) := fun wx => ⟨rfl, .inl rfl⟩
  obtain ⟨W0, hW0⟩ : ∃ W0, W0 = wr.alloc (.cells #[.int .i64 kd, .string s, .int .i64 c0, .int .i64 c1, .int .i64 c2, .int .u8 q0, .int .u8 q1, .int .u8 q2, .slice none 0 cap, .slice la ll lc, .int .i64 z, .slice fa fl fc] 44) := ⟨_, rfl⟩
  obtain ⟨ob, hob⟩ : ∃ ob, ob = wr.heap.size := ⟨_, rfl⟩
  have hbox : Hid (W0.heap[ob]? = some (.cells #[.int .i64 kd, .string s, .int .i64 c0, .int .i64 c1, .int .i64 c2, .int .u8 q0, .int .u8 q1, .int .u8 q2, .slice none 0 cap, .slice la ll lc, .int .i64 z, .slice fa fl fc] 44 (0, 0))) := by rw [hW0, hob]; exact heap_alloc_last wr _
  have HST : Hid (SqW w wH W0 p M vi vw ve ibs bn wts) := h.below (by rw [hW0]; exact (Below.refl _ _).alloc (Nat.le_refl _) _)
  have HW0 : Hid (W0 = wr.alloc (.cells #[.int .i64 kd, .string s, .int .i64 c0, .int .i64 c1, .int .i64 c2, .int .u8 q0, .int .u8 q1, .int .u8 q2, .slice none 0 cap, .slice la ll lc, .int .i64 z, .slice fa fl fc] 44)) := hW0
  have HOB : Hid (ob = wr.heap.size) := hob
  have j8 := boxCell hbox.out 8 _ rfl
  obtain ⟨S, hS⟩ : ∃ S, S = endStr (Pack.fin (plain [])) := ⟨_, rfl⟩
  have HSQ : Hid (sqE [] = 0) := rfl
  have HSS : Hid (sqS [] = S) := by unfold Hid sqS; rw [if_pos HSQ.out, hS]
  have hok : ∀ i, i < ([] : List (Int × Int)).length → bitOk (([] : List (Int × Int)).getD i (0, 0)) := fun i hi => absurd hi (by simp)
  obtain ⟨b1, b2⟩ := sq_back hok (by simp) hS
  obtain ⟨sz0, sz1⟩ := sq_size hS
  have HB1 : Hid (strE S (ctxOf []) = 0) := b1
  have HB2 : Hid (strL S (ctxOf []) = []) := b2
  have hSm : S.size ≤ 4 := by simpa using sz1
  clear h hW0 hob hS hok b1 b2 sz0 sz1
  go_enter Tryz.func12, Tryz.ntmps12
  go_wp2_with (first
    | (go_at_call 32; rw [← HW0.out]; refine (lentBits_nil W0 0 cap).mono ?_; rintro e w1 ⟨rfl, hw⟩; rw [hw, ← HOB.out]; clear hw)
    | (go_at_call 33; refine (pSqueeze _ none 0 0 [] (HNI _).out (by unfold maxLen; omega)).mono ?_; rintro e w2 ⟨rfl, hb2⟩; rw [HSQ.out, HSS.out]; have k8 := boxCell (blk_below hbox.out hb2) 8 _ rfl)
    | (go_at_call 34; refine (wholeBits_nil _ _ _ 0 cap).mono ?_; rintro e w3 ⟨rfl, hw⟩; rw [hw]; clear hw)
    | (go_at_call 35; refine (refSqueezes _ none 0 cap [] (HNI _).out (by unfold maxLen; omega)).mono ?_; rintro e w4 ⟨rfl, hb4⟩; rw [HSQ.out]; have n8 := boxCell (blk_below (blk_below hbox.out hb2) hb4) 8 _ rfl)
    | (go_at_call 31; refine (num_any _ _).mono ?_; rintro e w9 ⟨rfl, hw⟩; rw [hw]; clear hw)
    | (go_at_call 36; refine (contexts_any _ none 0 cap [] (HNI _).out (by omega)).mono ?_; rintro e w5 ⟨vc, rfl, hc5, hb5⟩; obtain ⟨ac, cc, rfl, hcin⟩ : ∃ a c, vc = .slice a 0 c ∧ IntsIn w5 a 0 (ctxOf []) := (IntsIn.of_own (zs := ctxOf []) hc5); have o8 := boxCell (blk_below (blk_below (blk_below hbox.out hb2) hb4) hb5) 8 _ rfl; clear hc5)
    | (go_at_call 37; refine (refStretch _ S ac 0 cc (ctxOf []) hcin (by unfold maxLen; omega)).mono ?_; rintro e w6 ⟨⟨vk, rfl, hk1, hk2, hk3, hb6⟩, _⟩; rw [HB1.out]; rw [HB2.out] at hk1; obtain ⟨ak, ck, rfl, hkin⟩ := IntsIn.of_own (zs := []) hk1; have p8 := boxCell (blk_below (blk_below (blk_below (blk_below hbox.out hb2) hb4) hb5) hb6) 8 _ rfl; clear hk1 hk2 hk3))
  have HQ6 : Hid (SqW w wH w6 p M vi vw ve ibs bn wts) := (((HST.out.below hb2).below hb4).below hb5).below hb6
  clear hkin hb6 hb5 hb4 hb2 hcin
  go_loop [13] (fun i => i = .int .i64 0) (fun _ => 0)
  case atStart => exact rfl
  case round =>
    subst hrel
    go_wp2
    go_ret
    exact ⟨rfl, HQ6.out⟩

end Go.Proofs.YtbabcphjddchkaaGreatDoor
