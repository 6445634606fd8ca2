/-
  A draft of a line, in memory: which of the colours is put; how an area begins.
-/
import Derived.Test.YtekfbphnoibnjaaDoorF12
import Derived.Test.YtekfbphnoibnjaaDoorF05
namespace Go.Proofs.YtekfbphnoibnjaaDoor
open Go.RowKit
open Pk (num sgn dig fold ones lowb)
set_option maxHeartbeats 1000000 in
set_option maxRecDepth 20000 in
theorem pSplitContextW (w : World) (n : Nat) : Calls Tryd.prog 55 #[.int .i64 n] w fun e w' => e = .returned (.int .i64 ((if n = 16 then 0 else 1 : Nat) : Int)) /\ w' = w := by
 by_cases h : n = 16
 ·subst h
  go_enter Tryd.func55, Tryd.ntmps55
  go_wp2
  go_ret
  exact ⟨rfl, rfl⟩
 ·rw [if_neg h]
  have h' : ¬ ((n : Int) = 16) := by omega
  go_enter Tryd.func55, Tryd.ntmps55
  go_wp2
  go_ret
  exact ⟨rfl, rfl⟩
set_option maxHeartbeats 2000000 in
set_option maxRecDepth 20000 in
theorem pPutChoice (w wr : World) (b : Nat) (v : Value) (t : WS) (l p : List (Nat × Int)) (n last : Nat) (h : PutAt w wr b v t l p) (ro : Room t l (p.length + 4)) (op : Pack.BitsOk p) (hn : n <= 3) (hla : last <= 3) :
  Calls Tryd.prog 63 #[.pointer (some ⟨b, 0, none⟩), .int .i64 n, .int .i64 last] wr fun e w' => e = .returned (.tuple #[]) /\ PutAt w w' b v t l (p ++ (ones 250 0 n ++ if n < last then [(250 + n, 0)] else [])) := by
 have HH : Hid (PutAt w wr b v t l p) := h
 have HK : Hid (Pack.BitsOk p /\ Room t l (p.length + 4)) := ⟨op, ro⟩
 obtain ⟨C, hC⟩ : ∃ C : List (Nat × Int), C = (ones 250 0 n ++ if n < last then [(250 + n, 0)] else []) := ⟨_, rfl⟩
 rw [<- hC]
 have HC : Hid (C = (ones 250 0 n ++ if n < last then [(250 + n, 0)] else [])) := hC
 clear h op ro hC
 go_enter Tryd.func63, Tryd.ntmps63
 go_wp2
 go_loopw [8] (fun i wy => ∃ j : Nat, j <= n /\ i = .int .i64 j /\ PutAt w wy b v t l (p ++ ones 250 0 j)) (fun i _ => n - (intOf i).toNat)
 case atStart => exact ⟨0, Nat.zero_le _, rfl, by show PutAt _ _ _ _ _ _ (p ++ []); rw [List.append_nil]; exact HH.out⟩
 case round =>
  obtain ⟨j, hj, rfl, hp⟩ := hrel
  have ho : Pack.BitsOk (p ++ ones 250 0 j) := Pk.ok_app HK.out.1 (Pk.ones_ok 250 j 0 (by omega))
  have HP : Hid (PutAt w wr b v t l (p ++ ones 250 0 j)) := hp
  clear hp
  by_cases hlt : j < n
  ·have hlt' : (j : Int) < (n : Int) := by omega
   have e1 : wrap64 (250 + (j : Int)) = ((250 + j : Nat) : Int) := by unfold wrap64; omega
   go_wp2_with (go_at_call 54; refine (HP.out.step (HK.out.2.le (by rw [List.length_append, Pk.ones_len]; omega)) ho (k := 250 + j) (x := 1) (by omega) (.inr rfl)).mono ?_; rintro e w2 ⟨rfl, h2⟩)
   go_roundw
   case rel => exact ⟨j + 1, by omega, by go_num, by rw [ones_snoc, <- List.append_assoc, Nat.zero_add]; exact h2⟩
   case measure => simp [intOf]; omega
  ·obtain rfl : j = n := by omega
   have hlt' : ¬ (j : Int) < (j : Int) := by omega
   by_cases hl : j < last
   ·have hl' : (j : Int) < (last : Int) := by omega
    have e1 : wrap64 (250 + (j : Int)) = ((250 + j : Nat) : Int) := by unfold wrap64; omega
    go_wp2_with (go_at_call 54; refine (HP.out.step (HK.out.2.le (by rw [List.length_append, Pk.ones_len]; omega)) ho (k := 250 + j) (x := 0) (by omega) (.inl rfl)).mono ?_; rintro e w2 ⟨rfl, h2⟩)
    go_end0
    refine ⟨rfl, ?_⟩
    rw [HC.out, if_pos hl, <- List.append_assoc]
    exact h2
   ·have hl' : ¬ (j : Int) < (last : Int) := by omega
    go_wp2
    go_end0
    refine ⟨rfl, ?_⟩
    rw [HC.out, if_neg hl, List.append_nil]
    exact HP.out
end Go.Proofs.YtekfbphnoibnjaaDoor
