/-
  A draft of a line, in memory: numbers are put. A draft of a line, in memory: numbers and signed numbers are put. The contexts of a soft block's numbers, as the program's text lays them. The program's picture: what is expected of a number. A soft block is read by the document. The program's picture: what is expected of a pixel.
-/
import Derived.Test.YtekfbphnoibnjaaDoorF11
import Derived.Test.YtekfbphnoibnjaaDoorF03
import Derived.Lib.BitFns
import Derived.Lib.Small
import Derived.Lib.Walk
import Derived.Test.YtekfbphnoibnjaaDoorF01
import Derived.Test.YtekfbphnoibnjaaDoorF08
import Derived.Handy
import Derived.Deep.RegionWith
import Derived.Deep.RegionHeld3
import Derived.Deep.CutBlock
import Derived.Deep.DeepCutAuto
namespace Go.Proofs.YtekfbphnoibnjaaDoor
open Go.RowKit
def PutAt (w w' : World) (b : Nat) (v : Value) (t : WS) (l p : List (Nat × Int)) : Prop := ∃ v', DrAt w' b v' (Pack.puts t p) (l ++ p) /\ Wr b v w w' v'
structure Room (t : WS) (l : List (Nat × Int)) (n : Nat) : Prop where
 ok : Pack.Ok t
 m : t.m + n <= 1000000
 l : l.length + n <= 1000000
theorem Room.le {t : WS} {l : List (Nat × Int)} {n k : Nat} (h : Room t l n) (hk : k <= n) : Room t l k := ⟨h.ok, by have := h.m; omega, by have := h.l; omega⟩
theorem PutAt.refl {w : World} {b : Nat} {v : Value} {t : WS} {l : List (Nat × Int)} (h : DrAt w b v t l) : PutAt w w b v t l [] := ⟨v, by rw [List.append_nil]; exact h, Wr.refl _ _ _⟩
theorem PutAt.below {w w' w'' : World} {b : Nat} {v : Value} {t : WS} {l p : List (Nat × Int)} (h : PutAt w w' b v t l p) (k : Below w'.heap.size w' w'') : PutAt w w'' b v t l p := by
 obtain ⟨v', h1, h2⟩ := h
 exact ⟨v', h1.below k, h2.below k⟩
theorem PutAt.step {w wr : World} {b : Nat} {v : Value} {t : WS} {l p : List (Nat × Int)} (h : PutAt w wr b v t l p) (ro : Room t l (p.length + 1)) (op : Pack.BitsOk p) {k : Nat} {x : Int} (hk : k < 400) (hx : x = 0 \/ x = 1) :
  Calls Tryd.prog 54 #[.pointer (some ⟨b, 0, none⟩), .int .i64 k, .int .i64 x] wr fun e w' => e = .returned (.tuple #[]) /\ PutAt w w' b v t l (p ++ [(k, x)]) := by
 obtain ⟨v', hd, hw⟩ := h
 have h1 := Pack.puts_m p t
 have h2 := ro.m
 have h3 := ro.l
 refine (pDPut wr b v' _ _ k x hd (Pack.puts_ok p t ro.ok fun q hq => (op q hq).1) (by omega) (by rw [List.length_append]; omega) hk hx).mono ?_
 rintro e w' ⟨rfl, v'', d, r⟩
 exact ⟨rfl, v'', by rw [Pack.puts_snoc, <- List.append_assoc]; exact d, hw.trans r⟩
theorem tab_size : Lib.len8tab.size = 256 := by kernel_rfl
set_option maxRecDepth 100000 in
theorem tab_fin : ∀ n : Fin 256, (Lib.len8tab[n.val]'(by rw [tab_size]; exact n.isLt)).toNat = Lib.bitLen n.val := by decide +kernel
theorem tab_at (n : Nat) (h : n < Lib.len8tab.size) : (Lib.len8tab[n]'h).toNat = Lib.bitLen n := tab_fin ⟨n, by rw [tab_size] at h; exact h⟩
theorem bitLen_small (n : Nat) (h : n < 256) : Lib.bitLen n <= 8 := Lib.bitLen_le8 ⟨n, h⟩
set_option maxHeartbeats 4000000 in
set_option maxRecDepth 100000 in
theorem pLen64 (w : World) (x : Int) (h0 : 0 <= x) (h1 : x < 1024) :
  Calls Tryd.prog 87 #[.int .u64 x] w fun e w' => e = .returned (.int .i64 (Lib.bitLen x.toNat)) /\ w' = w := by
 by_cases h : x < 256
 ·go_enter Tryd.func87, Tryd.ntmps87
  go_wp2
  go_ret
  refine ⟨congrArg Ending.returned (congrArg (Value.int IntKind.i64) ?_), rfl⟩
  have l := bitLen_small x.toNat (by omega)
  rw [tab_at]
  unfold wrap64
  omega
 ·have hsz : 0 <= x / 256 /\ x / 256 < (Lib.len8tab.size : Int) := by rw [tab_size]; omega
  go_enter Tryd.func87, Tryd.ntmps87
  go_wp2
  go_ret
  refine ⟨congrArg Ending.returned (congrArg (Value.int IntKind.i64) ?_), rfl⟩
  have l := bitLen_small (x.toNat / 256) (by omega)
  have s := Lib.bitLen_shift8 x.toNat (by omega) (by omega)
  rw [tab_at, show (x / 256).toNat = x.toNat / 256 by omega]
  unfold wrap64
  omega
end Go.Proofs.YtekfbphnoibnjaaDoor
namespace Go.Proofs.YtekfbphnoibnjaaDoor
open Go.RowKit
open Pk (num sgn dig fold ones lowb)
set_option maxRecDepth 100000 in
theorem bitLen_fin : ∀ n : Fin 1024, Lib.bitLen n.val = if n.val = 0 then 0 else Nat.log2 n.val + 1 := by decide +kernel
theorem bitLen_dig {m : Nat} (h : m <= 1022) : Lib.bitLen (m + 1) = dig m + 1 := by
 have := bitLen_fin ⟨m + 1, by omega⟩
 rw [if_neg (by simp)] at this
 exact this
set_option maxHeartbeats 1000000 in
set_option maxRecDepth 20000 in
theorem pLen (w : World) (x : Int) (h0 : 0 <= x) (h1 : x < 1024) :
  Calls Tryd.prog 83 #[.int .u64 x] w fun e w' => e = .returned (.int .i64 (Lib.bitLen x.toNat)) /\ w' = w := by
 go_enter Tryd.func83, Tryd.ntmps83
 go_wp2_with (go_at_call 87; refine (pLen64 _ x h0 h1).mono ?_; rintro e w' ⟨rfl, rfl⟩)
 go_ret
 exact ⟨rfl, rfl⟩
set_option maxHeartbeats 1000000 in
set_option maxRecDepth 20000 in
theorem pDigits (w : World) (m : Nat) (hm : m <= 1022) :
  Calls Tryd.prog 77 #[.int .i64 m] w fun e w' => e = .returned (.int .i64 (dig m)) /\ w' = w := by
 have w1 : wrap64 ((m : Int) + 1) = m + 1 := by unfold wrap64; omega
 have w2 : IntKind.u64.wrap ((m : Int) + 1) = m + 1 := by rw [IntKind.wrap_u64]; omega
 have hb := bitLen_dig hm
 have hd := Pk.dig_le hm
 have w3 : wrap64 ((Lib.bitLen ((m : Int) + 1).toNat : Int) - 1) = dig m := by
  rw [show ((m : Int) + 1).toNat = m + 1 by omega, hb]; unfold wrap64; omega
 go_enter Tryd.func77, Tryd.ntmps77
 go_wp2_with (go_at_call 83; refine (pLen _ ((m : Int) + 1) (by omega) (by omega)).mono ?_; rintro e w' ⟨rfl, rfl⟩)
 go_ret
 exact ⟨rfl, rfl⟩
theorem fold_int {n : Int} : (fold n : Int) = if n < 0 then -2 * n - 1 else 2 * n := by unfold Pk.fold; split <;> omega
set_option maxHeartbeats 1000000 in
set_option maxRecDepth 20000 in
theorem pFold (w : World) (n : Int) (h0 : -511 <= n) (h1 : n <= 511) :
  Calls Tryd.prog 71 #[.int .i64 n] w fun e w' => e = .returned (.int .i64 (fold n)) /\ w' = w := by
 rw [fold_int]
 by_cases h : n < 0
 ·rw [if_pos h]
  have e1 : wrap64 (-2 * n) = -2 * n := by unfold wrap64; omega
  have e2 : wrap64 (-2 * n - 1) = -2 * n - 1 := by unfold wrap64; omega
  go_enter Tryd.func71, Tryd.ntmps71
  go_wp2
  go_ret
  refine ⟨?_, rfl⟩
  first | rfl | (congr 2; omega)
 ·rw [if_neg h]
  have e1 : wrap64 (2 * n) = 2 * n := by unfold wrap64; omega
  go_enter Tryd.func71, Tryd.ntmps71
  go_wp2
  go_ret
  refine ⟨?_, rfl⟩
  first | rfl | (congr 2; omega)
set_option maxHeartbeats 1000000 in
set_option maxRecDepth 20000 in
theorem pSignedBits (w : World) (n : Int) (h0 : -511 <= n) (h1 : n <= 511) :
  Calls Tryd.prog 79 #[.int .i64 n] w fun e w' => e = .returned (.int .i64 ((2 * dig (fold n) + 1 : Nat) : Int)) /\ w' = w := by
 have hf := Pk.fold_le h0 h1
 have hd := Pk.dig_le hf
 have e1 : wrap64 (2 * (dig (fold n) : Int)) = 2 * dig (fold n) := by unfold wrap64; omega
 have e2 : wrap64 (2 * (dig (fold n) : Int) + 1) = 2 * dig (fold n) + 1 := by unfold wrap64; omega
 go_enter Tryd.func79, Tryd.ntmps79
 go_wp2_with (first
  | (go_at_call 71; refine (pFold _ n h0 h1).mono ?_; rintro e w' ⟨rfl, rfl⟩)
  | (go_at_call 77; refine (pDigits _ (fold n) hf).mono ?_; rintro e w' ⟨rfl, rfl⟩))
 go_ret
 exact ⟨by congr 2, rfl⟩
theorem ones_snoc (k : Nat) : ∀ n i, ones k i (n + 1) = ones k i n ++ [(k + (i + n), 1)]
 | 0, _ => rfl
 | n + 1, i => by
  show (k + i, 1) :: ones k (i + 1) (n + 1) = (k + i, 1) :: (ones k (i + 1) n ++ [(k + (i + (n + 1)), 1)])
  rw [ones_snoc k n (i + 1), show i + 1 + n = i + (n + 1) by omega]
theorem ok_left {l r s : List (Nat × Int)} (h : Pack.BitsOk s) (e : l ++ r = s) : Pack.BitsOk l := fun p hp => h p (by rw [<- e]; exact List.mem_append_left _ hp)
theorem and_fin : ∀ n : Fin 1024, bits BinOp.and IntKind.i64 ((n.val : Nat) : Int) 1 = ((n.val % 2 : Nat) : Int) := by decide +kernel
theorem and_one {m r : Nat} (hm : m <= 1022) : bits BinOp.and IntKind.i64 (((m : Int) + 1) / 2 ^ r) 1 = (((m + 1) / 2 ^ r % 2 : Nat) : Int) := by
 have h1 : (m + 1) / 2 ^ r <= m + 1 := Nat.div_le_self _ _
 have h2 := and_fin ⟨(m + 1) / 2 ^ r, by omega⟩
 have e : ((m : Int) + 1) / 2 ^ r = (((m + 1) / 2 ^ r : Nat) : Int) := by
  rw [Int.natCast_ediv, Int.natCast_pow]; rfl
 rw [e]
 exact h2
set_option maxHeartbeats 4000000 in
set_option maxRecDepth 20000 in
theorem pPutNumber (w wr : World) (b : Nat) (v : Value) (t : WS) (l p : List (Nat × Int)) (k m : Nat) (h : PutAt w wr b v t l p) (ro : Room t l (p.length + 19)) (op : Pack.BitsOk p) (hk : k + 22 <= 400) (hm : m <= 1022) :
  Calls Tryd.prog 62 #[.pointer (some ⟨b, 0, none⟩), .int .i64 k, .int .i64 m] wr fun e w' => e = .returned (.tuple #[]) /\ PutAt w w' b v t l (p ++ num k m) := by
 have hd := Pk.dig_le hm
 have hok := Pk.num_ok hm hk
 have hlen := Pk.num_len k m
 obtain ⟨D, hD⟩ : ∃ D, D = dig m := ⟨_, rfl⟩
 rw [<- hD] at hd hlen
 have hnum : num k m = ones k 0 D ++ (k + D, 0) :: lowb (k + 12 + D) (m + 1) D := by rw [hD]; rfl
 have HD : Hid (∀ w, Calls Tryd.prog 77 #[.int .i64 m] w fun e w' => e = .returned (.int .i64 D) /\ w' = w) := fun w => by rw [hD]; exact pDigits w m hm
 have HH : Hid (PutAt w wr b v t l p) := h
 have HK : Hid (Pack.BitsOk p /\ Room t l (p.length + 19)) := ⟨op, ro⟩
 clear h hD op ro
 go_enter Tryd.func62, Tryd.ntmps62
 go_wp2_with (go_at_call 77; refine (HD.out _).mono ?_; rintro e w' ⟨rfl, rfl⟩)
 go_loopw [12] (fun i wy => ∃ j : Nat, j <= D /\ i = .int .i64 j /\ PutAt w wy b v t l (p ++ ones k 0 j)) (fun i _ => D - (intOf i).toNat)
 case atStart => exact ⟨0, Nat.zero_le _, rfl, by show PutAt _ _ _ _ _ _ (p ++ []); rw [List.append_nil]; exact HH.out⟩
 case round =>
  obtain ⟨j, hj, rfl, hp⟩ := hrel
  by_cases hlt : j < D
  ·have hlt' : (j : Int) < (D : Int) := by omega
   have e1 : wrap64 ((k : Int) + (j : Int)) = ((k + j : Nat) : Int) := by unfold wrap64; omega
   have ho : Pack.BitsOk (p ++ ones k 0 j) := Pk.ok_app HK.out.1 (Pk.ones_ok k j 0 (by omega))
   have HP : Hid (PutAt w wr b v t l (p ++ ones k 0 j)) := hp
   clear hp
   go_wp2_with (go_at_call 54; refine (HP.out.step (HK.out.2.le (by rw [List.length_append, Pk.ones_len]; omega)) ho (k := k + j) (x := 1) (by omega) (.inr rfl)).mono ?_; rintro e w2 ⟨rfl, h2⟩)
   go_roundw
   case rel => exact ⟨j + 1, by omega, by go_num, by rw [ones_snoc, <- List.append_assoc, Nat.zero_add]; exact h2⟩
   case measure => simp [intOf]; omega
  ·obtain rfl : j = D := by omega
   have hlt' : ¬ (j : Int) < (j : Int) := by omega
   have e1 : wrap64 ((k : Int) + (j : Int)) = ((k + j : Nat) : Int) := by unfold wrap64; omega
   have e2 : wrap64 ((j : Int) - 1) = (j : Int) - 1 := by unfold wrap64; omega
   have ho : Pack.BitsOk (p ++ ones k 0 j) := Pk.ok_app HK.out.1 (Pk.ones_ok k j 0 (by omega))
   have HP : Hid (PutAt w wr b v t l (p ++ ones k 0 j)) := hp
   clear hp
   go_wp2_with (go_at_call 54; refine (HP.out.step (HK.out.2.le (by rw [List.length_append, Pk.ones_len]; omega)) ho (k := k + j) (x := 0) (by omega) (.inl rfl)).mono ?_; rintro e w2 ⟨rfl, h2⟩)
   have HP2 : Hid (PutAt w w2 b v t l (p ++ (ones k 0 j ++ [(k + j, 0)]))) := by unfold Hid; rw [<- List.append_assoc]; exact h2
   clear h2
   go_loopw [8] (fun i wy => ∃ r : Nat, ∃ q : List (Nat × Int), r <= j /\ i = .int .i64 ((r : Int) - 1) /\ q ++ lowb (k + 12 + j) (m + 1) r = num k m /\ PutAt w wy b v t l (p ++ q)) (fun i _ => (intOf i + 1).toNat)
   case atStart => exact ⟨j, _, Nat.le_refl _, rfl, by rw [hnum, List.append_assoc]; rfl, HP2.out⟩
   case round =>
    obtain ⟨r, q, hr, rfl, hq, hp⟩ := hrel
    have HP3 : Hid (PutAt w wr b v t l (p ++ q) /\ q ++ lowb (k + 12 + j) (m + 1) r = num k m) := ⟨hp, hq⟩
    have hql : q.length + r = 2 * j + 1 := by have := congrArg List.length hq; rw [List.length_append, Pk.lowb_len, hlen] at this; exact this
    have hqo : Pack.BitsOk q := ok_left hok hq
    clear hp hq
    cases r with
    | zero =>
     go_wp2
     go_end0
     refine ⟨rfl, ?_⟩
     have := HP3.out.2
     rw [<- this]
     exact (by show PutAt _ _ _ _ _ _ (p ++ (q ++ [])); rw [List.append_nil]; exact HP3.out.1)
    | succ r =>
     have g0 : (0 : Int) <= ((r + 1 : Nat) : Int) - 1 := by omega
     have e3 : wrap64 ((k : Int) + 12) = (k : Int) + 12 := by unfold wrap64; omega
     have e4 : wrap64 ((k : Int) + 12 + (j : Int)) = ((k + 12 + j : Nat) : Int) := by unfold wrap64; omega
     have e5 : wrap64 ((m : Int) + 1) = (m : Int) + 1 := by unfold wrap64; omega
     have e6 : ((r + 1 : Nat) : Int) - 1 = (r : Int) := by omega
     have e7 := and_one (m := m) (r := r) hm
     obtain ⟨X, hX⟩ : ∃ X : Int, X = (((m + 1) / 2 ^ r % 2 : Nat) : Int) := ⟨_, rfl⟩
     have hX01 : X = 0 \/ X = 1 := by omega
     rw [<- hX] at e7
     have HX : Hid (X = (((m + 1) / 2 ^ r % 2 : Nat) : Int)) := hX
     clear hX
     have e8 : wrap64 ((r : Int) - 1) = (r : Int) - 1 := by unfold wrap64; omega
     rw [e6] at g0 ⊢
     go_wp2_with (go_at_call 54; refine (HP3.out.1.step (HK.out.2.le (by rw [List.length_append]; omega)) (Pk.ok_app HK.out.1 hqo) (k := k + 12 + j) (x := X) (by omega) hX01).mono ?_; rintro e w2 ⟨rfl, h2⟩)
     go_roundw
     case rel => exact ⟨r, q ++ [(k + 12 + j, X)], by omega, by go_num, by rw [List.append_assoc, HX.out]; exact HP3.out.2, by rw [<- List.append_assoc]; exact h2⟩
     case measure => simp [intOf]
set_option maxHeartbeats 1000000 in
set_option maxRecDepth 20000 in
theorem pPutSigned (w wr : World) (b : Nat) (v : Value) (t : WS) (l p : List (Nat × Int)) (k : Nat) (n : Int) (h : PutAt w wr b v t l p) (ro : Room t l (p.length + 19)) (op : Pack.BitsOk p) (hk : k + 22 <= 400) (h0 : -511 <= n) (h1 : n <= 511) :
  Calls Tryd.prog 60 #[.pointer (some ⟨b, 0, none⟩), .int .i64 k, .int .i64 n] wr fun e w' => e = .returned (.tuple #[]) /\ PutAt w w' b v t l (p ++ sgn k n) := by
 have HC := fun wy (hw : wy = wr) => pPutNumber w wy b v t l p k (fold n) (hw ▸ h) ro op hk (Pk.fold_le h0 h1)
 go_enter Tryd.func60, Tryd.ntmps60
 go_wp2_with (first
  | (go_at_call 71; refine (pFold _ n h0 h1).mono ?_; rintro e w' ⟨rfl, rfl⟩)
  | (go_at_call 62; refine (HC _ rfl).mono ?_; rintro e w2 ⟨rfl, h2⟩))
 go_end0
 exact ⟨rfl, h2⟩
end Go.Proofs.YtekfbphnoibnjaaDoor
namespace Go.Proofs.YtekfbphnoibnjaaDoor
open Go.RowKit
structure SoftG (w : World) (L : Nat) : Prop where
 v : w.cell? ⟨8, 0, none⟩ = some (.int .i64 100) /\ w.cell? ⟨8, 1, none⟩ = some (.int .i64 124) /\ w.cell? ⟨8, 2, none⟩ = some (.int .i64 148)
 lt : 8 < L
theorem SoftG.of {w wx : World} {L L' : Nat} (h : SoftG w L) (hb : wx.heap[8]? = w.heap[8]?) (hl : 8 < L') : SoftG wx L' :=
 have hc : ∀ o, wx.cell? ⟨8, o, none⟩ = w.cell? ⟨8, o, none⟩ := fun o => World.cell?_of_block (a := ⟨8, o, none⟩) hb
 ⟨⟨(hc 0).trans h.v.1, (hc 1).trans h.v.2.1, (hc 2).trans h.v.2.2⟩, hl⟩
theorem SoftG.below {w w' : World} {L : Nat} (h : SoftG w L) (f : Below L w w') : SoftG w' L := h.of (f.block _ h.lt) h.lt
theorem softIx (k kc : Nat) (hk : k < 3) (hc : kc = 100 + 24 * k) (w : World) : Sem.run Tryd.prog (Instr.index 139 (.agg #[.int .i64 100, .int .i64 124, .int .i64 148]) (.int .i64 k)) w = .ok (.int .i64 kc) w := by
 subst hc
 rcases (by omega : k = 0 \/ k = 1 \/ k = 2) with rfl | rfl | rfl <;> kernel_rfl
end Go.Proofs.YtekfbphnoibnjaaDoor
namespace Go.Proofs.YtekfbphnoibnjaaDoor
open Go.RowKit
set_option maxHeartbeats 400000 in
theorem pExpect (w : World) (a b d : Int) (a0 : -1000000 <= a) (a1 : a <= 1000000) (b0 : -1000000 <= b) (b1 : b <= 1000000) :
  Calls Tryd.prog 70 #[.int .i64 a, .int .i64 b, .int .i64 d] w fun x w' => x = .returned (.int .i64 (Flm.expected a b d)) /\ w' = w := by
 obtain ⟨E, hE⟩ : ∃ E, E = Flm.expected a b d := ⟨_, rfl⟩
 have HE : Hid (E = Flm.expected a b d) := hE
 rw [<- hE]
 clear hE
 go_enter Tryd.func70, Tryd.ntmps70
 go_wp2
 all_goals
  go_ret
  refine ⟨?_, rfl⟩
  rw [HE.out]
  refine congrArg (fun t => Ending.returned (Value.int IntKind.i64 t)) ?_
  unfold Flm.expected
  dsimp only
  (repeat' split at *) <;> omega
end Go.Proofs.YtekfbphnoibnjaaDoor
namespace Go.Proofs.YtekfbphnoibnjaaDoor
open Go.RowKit
open Flm (Px FS)
theorem Frm.step {S T : Nat -> Prop} {a b c : World} (h : Frm S a b) (k : Frm T b c) (hs : ∀ i, i < a.heap.size -> T i -> S i) : Frm S a c :=
 ⟨k.os.trans h.os, k.tape.trans h.tape, k.output.trans h.output, Nat.le_trans h.size k.size, fun i hi hn => (k.block i (Nat.lt_of_lt_of_le hi h.size) (fun e => hn (hs i hi e))).trans (h.block i hi hn)⟩
def Box3 (w : World) (A : Nat) (q : Px) : Prop := w.heap[A]? = some (.cells #[.int .i64 q.1, .int .i64 q.2.1, .int .i64 q.2.2] 139 (0, 0))
theorem Box3.new (w : World) (q : Px) : Box3 (w.alloc (.cells #[.int .i64 q.1, .int .i64 q.2.1, .int .i64 q.2.2] 139)) w.heap.size q := by
 show (w.heap.push _)[w.heap.size]? = _; simp
theorem Box3.lt {w : World} {A : Nat} {q : Px} (h : Box3 w A q) : A < w.heap.size := by
 rcases Nat.lt_or_ge A w.heap.size with h' | h'
 ·exact h'
 ·unfold Box3 at h; rw [Array.getElem?_eq_none h'] at h; cases h
theorem Box3.frm {S : Nat -> Prop} {w w' : World} {A : Nat} {q : Px} (h : Box3 w A q) (f : Frm S w w') (hn : ¬ S A) : Box3 w' A q := (f.block A h.lt hn).trans h
theorem Box3.cell {w : World} {A : Nat} {q : Px} (h : Box3 w A q) (k : Nat) (hk : k < 3) : w.cell? ⟨A, k, none⟩ = some (.int .i64 (Flm.pick q k)) := by
 rw [cell_of_row w A k _ _ _ h]
 rcases (by omega : k = 0 \/ k = 1 \/ k = 2) with rfl | rfl | rfl <;> rfl
theorem Box3.frozen {w : World} {A : Nat} {q : Px} (h : Box3 w A q) (k : Nat) : w.frozen? ⟨A, k, none⟩ = false := frozen_of_row w A k _ _ h
def part3 (f : Nat -> Int) (k : Nat) : Px := (if 0 < k then f 0 else 0, if 1 < k then f 1 else 0, if 2 < k then f 2 else 0)
theorem Box3.put {w : World} {A : Nat} {f : Nat -> Int} {k : Nat} (h : Box3 w A (part3 f k)) (hk : k < 3) : Box3 (w.setCell ⟨A, k, none⟩ (.int .i64 (f k))) A (part3 f (k + 1)) := by
 unfold Box3
 rw [heap_setCell_same w A k _ _ _ h]
 rcases (by omega : k = 0 \/ k = 1 \/ k = 2) with rfl | rfl | rfl <;> simp [part3]
end Go.Proofs.YtekfbphnoibnjaaDoor
namespace Go.Proofs.YtekfbphnoibnjaaDoor
open Go.RowKit
open Flm (Px FS)
def ExpS (w : World) (nb z Z C : Nat) (wx : World) : Prop := Below w.heap.size w wx /\ w.heap.size + 1 < wx.heap.size /\ wx.heap[w.heap.size]? = some (.cells #[.int .i64 z, .slice (some ⟨nb, 0, none⟩) Z C] 77 (0, 0)) /\ wx.heap[w.heap.size + 1]? = some (.cells #[.int .i64 0, .int .i64 0, .int .i64 0] 139 (0, 0))
theorem ExpS.c0 {w wx : World} {nb z Z C : Nat} (h : ExpS w nb z Z C wx) : wx.cell? ⟨w.heap.size, 0, none⟩ = some (.int .i64 z) := cell_of_row _ _ 0 _ _ _ h.2.2.1
theorem ExpS.c1 {w wx : World} {nb z Z C : Nat} (h : ExpS w nb z Z C wx) : wx.cell? ⟨w.heap.size, 1, none⟩ = some (.slice (some ⟨nb, 0, none⟩) Z C) := cell_of_row _ _ 1 _ _ _ h.2.2.1
theorem ExpS.below {w wx wy : World} {nb z Z C : Nat} (h : ExpS w nb z Z C wx) (b : Below wx.heap.size wx wy) : ExpS w nb z Z C wy :=
 ⟨h.1.trans (b.mono h.1.size), Nat.lt_of_lt_of_le h.2.1 b.size, (b.block _ (by have := h.2.1; omega)).trans h.2.2.1, (b.block _ h.2.1).trans h.2.2.2⟩
theorem ExpS.all {w wx : World} {nb z Z C : Nat} (h : ExpS w nb z Z C wx) : (wx.cell? ⟨w.heap.size, 0, none⟩ = some (.int .i64 z) /\ wx.cell? ⟨w.heap.size, 1, none⟩ = some (.slice (some ⟨nb, 0, none⟩) Z C)) /\ ExpS w nb z Z C wx := ⟨⟨h.c0, h.c1⟩, h⟩
theorem ExpS.drew1 {w wx : World} {nb z Z C : Nat} (h : ExpS w nb z Z C wx) : ExpS w nb z Z C wx.drew := h.below ⟨rfl, rfl, rfl, Nat.le_refl _, fun _ _ => rfl⟩
theorem ExpS.st {w wx : World} {nb z Z C : Nat} (h : ExpS w nb z Z C wx) {b o : Nat} {v : Value} (hb : w.heap.size + 1 < b) : ExpS w nb z Z C (wx.setCell ⟨b, o, none⟩ v) :=
 ⟨h.1.setCell (by show w.heap.size <= b; omega) _, by rw [World.size_setCell]; exact h.2.1, (Below.heap_setCell wx ⟨b, o, none⟩ v _ (by show w.heap.size ≠ b; omega)).trans h.2.2.1, (Below.heap_setCell wx ⟨b, o, none⟩ v _ (by show w.heap.size + 1 ≠ b; omega)).trans h.2.2.2⟩
structure EJ (w : World) (nb z Z C : Nat) (a7 a8 a9 : Bool) (b7 b8 b9 : Nat) (wx : World) : Prop where
 ex : ExpS w nb z Z C wx
 h7 : a7 = true -> Box3 wx b7 (0, 0, 0) /\ w.heap.size + 1 < b7
 h8 : a8 = true -> Box3 wx b8 (0, 0, 0) /\ w.heap.size + 1 < b8
 h9 : a9 = true -> Box3 wx b9 (0, 0, 0) /\ w.heap.size + 1 < b9
 d78 : a7 = true -> a8 = true -> b7 ≠ b8
 d79 : a7 = true -> a9 = true -> b7 ≠ b9
 d89 : a8 = true -> a9 = true -> b8 ≠ b9
theorem box3_below {wx wy : World} {b : Nat} {q : Px} (h : Box3 wx b q) (f : Below wx.heap.size wx wy) : Box3 wy b q := (f.block b h.lt).trans h
def zero3 : Obj := .cells #[.int .i64 0, .int .i64 0, .int .i64 0] 139
theorem EJ.below {w wx wy : World} {nb z Z C : Nat} {a7 a8 a9 : Bool} {b7 b8 b9 : Nat} (h : EJ w nb z Z C a7 a8 a9 b7 b8 b9 wx) (f : Below wx.heap.size wx wy) : EJ w nb z Z C a7 a8 a9 b7 b8 b9 wy :=
 ⟨h.ex.below f, fun e => ⟨box3_below (h.h7 e).1 f, (h.h7 e).2⟩, fun e => ⟨box3_below (h.h8 e).1 f, (h.h8 e).2⟩, fun e => ⟨box3_below (h.h9 e).1 f, (h.h9 e).2⟩, h.d78, h.d79, h.d89⟩
theorem EJ.new7 {w wx : World} {nb z Z C : Nat} {a8 a9 : Bool} {b7 b8 b9 : Nat} (h : EJ w nb z Z C false a8 a9 b7 b8 b9 wx) : EJ w nb z Z C true a8 a9 wx.heap.size b8 b9 (wx.alloc zero3) := by
 have f : Below wx.heap.size wx (wx.alloc zero3) := (Below.refl _ _).alloc (Nat.le_refl _) _
 have h' := h.below f
 exact ⟨h'.ex, fun _ => ⟨Box3.new wx (0, 0, 0), h.ex.2.1⟩, h'.h8, h'.h9, fun _ e => by have := (h.h8 e).1.lt; omega, fun _ e => by have := (h.h9 e).1.lt; omega, h.d89⟩
theorem EJ.new8 {w wx : World} {nb z Z C : Nat} {a7 a9 : Bool} {b7 b8 b9 : Nat} (h : EJ w nb z Z C a7 false a9 b7 b8 b9 wx) : EJ w nb z Z C a7 true a9 b7 wx.heap.size b9 (wx.alloc zero3) := by
 have f : Below wx.heap.size wx (wx.alloc zero3) := (Below.refl _ _).alloc (Nat.le_refl _) _
 have h' := h.below f
 exact ⟨h'.ex, h'.h7, fun _ => ⟨Box3.new wx (0, 0, 0), h.ex.2.1⟩, h'.h9, fun e _ => by have := (h.h7 e).1.lt; omega, h.d79, fun _ e => by have := (h.h9 e).1.lt; omega⟩
theorem EJ.new9 {w wx : World} {nb z Z C : Nat} {a7 a8 : Bool} {b7 b8 b9 : Nat} (h : EJ w nb z Z C a7 a8 false b7 b8 b9 wx) : EJ w nb z Z C a7 a8 true b7 b8 wx.heap.size (wx.alloc zero3) := by
 have f : Below wx.heap.size wx (wx.alloc zero3) := (Below.refl _ _).alloc (Nat.le_refl _) _
 have h' := h.below f
 exact ⟨h'.ex, h'.h7, h'.h8, fun _ => ⟨Box3.new wx (0, 0, 0), h.ex.2.1⟩, h.d78, fun e _ => by have := (h.h7 e).1.lt; omega, fun e _ => by have := (h.h8 e).1.lt; omega⟩
def tv (b : Bool) (v : Value) : Value := if b then v else undef
def ptr (b : Nat) : Value := .pointer (some ⟨b, 0, none⟩)
def left6 (c1 c2 c3 a7 a8 a9 : Bool) : Nat := (!c1).toNat + (!c2).toNat + (!c3).toNat + (!a7).toNat + (!a8).toNat + (!a9).toNat
def cellOk (rs : List Nat) (c1 c2 c3 a7 a8 a9 : Bool) : Bool := !rs.isEmpty && rs.all fun j => (j == 4 && !c1) || (j == 9 && c1 && !c2) || (j == 15 && c2 && !c3) || (j == 16 && !a7) || (j == 17 && !a8) || (j == 18 && !a9)
theorem cellOk_spec {rs : List Nat} {c1 c2 c3 a7 a8 a9 : Bool} (h : cellOk rs c1 c2 c3 a7 a8 a9 = true) : rs ≠ [] /\ ∀ j ∈ rs, (j = 4 /\ c1 = false) \/ (j = 9 /\ c1 = true /\ c2 = false) \/ (j = 15 /\ c2 = true /\ c3 = false) \/ (j = 16 /\ a7 = false) \/ (j = 17 /\ a8 = false) \/ (j = 18 /\ a9 = false) := by
 unfold cellOk at h
 rw [Bool.and_eq_true] at h
 refine ⟨fun e => by rw [e] at h; exact absurd h.1 (by decide), fun j hj => ?_⟩
 have := List.all_eq_true.1 h.2 j hj
 simp only [Bool.or_eq_true, Bool.and_eq_true, beq_iff_eq, Bool.not_eq_true'] at this
 rcases this with ((((⟨e, h⟩ | ⟨⟨e, h⟩, h'⟩) | ⟨⟨e, h⟩, h'⟩) | ⟨e, h⟩) | ⟨e, h⟩) | ⟨e, h⟩
 ·exact .inl ⟨e, h⟩
 ·exact .inr (.inl ⟨e, h, h'⟩)
 ·exact .inr (.inr (.inl ⟨e, h, h'⟩))
 ·exact .inr (.inr (.inr (.inl ⟨e, h⟩)))
 ·exact .inr (.inr (.inr (.inr (.inl ⟨e, h⟩))))
 ·exact .inr (.inr (.inr (.inr (.inr ⟨e, h⟩))))
section
variable {P : Program} {ops : Array Oper} {Q : Exit -> Act -> World -> Prop} {S : World -> Prop}
theorem exp_law {w : World} {nb z Z C : Nat} (T : Value -> Value -> Value -> Value -> Value -> Value -> Array Value) (F : Bool -> Bool -> Bool -> Bool -> Bool -> Bool -> Array Bool) {o4 o9 o15 o16 o17 o18 : Oper} {fn : FuncId} {g1 g2 g3 : Array Value} {v1 v2 v3 : Value}
  (i4 : ops[4]? = some o4) (i9 : ops[9]? = some o9) (i15 : ops[15]? = some o15) (i16 : ops[16]? = some o16) (i17 : ops[17]? = some o17) (i18 : ops[18]? = some o18)
  (d4 : o4.dst = some 16) (d9 : o9.dst = some 21) (d15 : o15.dst = some 27) (d16 : o16.dst = some 7) (d17 : o17.dst = some 8) (d18 : o18.dst = some 9)
  (w4 : ∀ t, Region.wanted o4 t = true) (w9 : ∀ t, Region.wanted o9 t = true) (w15 : ∀ t, Region.wanted o15 t = true) (w16 : ∀ t, Region.wanted o16 t = true) (w17 : ∀ t, Region.wanted o17 t = true) (w18 : ∀ t, Region.wanted o18 t = true)
  (t4 : ∀ a b c d e f v, (T a b c d e f).setIfInBounds 16 v = T v b c d e f) (t9 : ∀ a b c d e f v, (T a b c d e f).setIfInBounds 21 v = T a v c d e f) (t15 : ∀ a b c d e f v, (T a b c d e f).setIfInBounds 27 v = T a b v d e f)
  (t16 : ∀ a b c d e f v, (T a b c d e f).setIfInBounds 7 v = T a b c v e f) (t17 : ∀ a b c d e f v, (T a b c d e f).setIfInBounds 8 v = T a b c d v f) (t18 : ∀ a b c d e f v, (T a b c d e f).setIfInBounds 9 v = T a b c d e v)
  (f4 : ∀ a b c d e f, (F a b c d e f).setIfInBounds 4 true = F true b c d e f) (f9 : ∀ a b c d e f, (F a b c d e f).setIfInBounds 9 true = F a true c d e f) (f15 : ∀ a b c d e f, (F a b c d e f).setIfInBounds 15 true = F a b true d e f)
  (f16 : ∀ a b c d e f, (F a b c d e f).setIfInBounds 16 true = F a b c true e f) (f17 : ∀ a b c d e f, (F a b c d e f).setIfInBounds 17 true = F a b c d true f) (f18 : ∀ a b c d e f, (F a b c d e f).setIfInBounds 18 true = F a b c d e true)
  (hr : ∀ c1 c2 c3 a7 a8 a9 : Bool, ((!c2 || c1) && (!c3 || c2) && !(c3 && a7 && a8 && a9)) = true -> cellOk (Region.ready .any ops (F c1 c2 c3 a7 a8 a9)) c1 c2 c3 a7 a8 a9 = true)
  (r4 : ∀ a b c d e f w, (execOp (Act.eval ⟨T a b c d e f, []⟩) o4).run P w = .ok (.enter fn g1) w) (r9 : ∀ a b c d e f w, (execOp (Act.eval ⟨T a b c d e f, []⟩) o9).run P w = .ok (.enter fn g2) w) (r15 : ∀ a b c d e f w, (execOp (Act.eval ⟨T a b c d e f, []⟩) o15).run P w = .ok (.enter fn g3) w)
  (r16 : ∀ a b c d e f w, (execOp (Act.eval ⟨T a b c d e f, []⟩) o16).run P w = .ok (.value (ptr w.heap.size)) (w.alloc zero3)) (r17 : ∀ a b c d e f w, (execOp (Act.eval ⟨T a b c d e f, []⟩) o17).run P w = .ok (.value (ptr w.heap.size)) (w.alloc zero3)) (r18 : ∀ a b c d e f w, (execOp (Act.eval ⟨T a b c d e f, []⟩) o18).run P w = .ok (.value (ptr w.heap.size)) (w.alloc zero3))
  (hc1 : ∀ wx, ExpS w nb z Z C wx -> Calls P fn g1 wx fun e w' => e = .returned v1 /\ Below wx.heap.size wx w') (hc2 : ∀ wx, ExpS w nb z Z C wx -> Calls P fn g2 wx fun e w' => e = .returned v2 /\ Below wx.heap.size wx w') (hc3 : ∀ wx, ExpS w nb z Z C wx -> Calls P fn g3 wx fun e w' => e = .returned v3 /\ Below wx.heap.size wx w')
  (hS : ∀ wx, ExpS w nb z Z C wx -> S wx)
  (hend : ∀ b7 b8 b9 wx, EJ w nb z Z C true true true b7 b8 b9 wx -> wpAnyH P .any ops Q S 3 (F true true true true true true) ⟨T v1 v2 v3 (ptr b7) (ptr b8) (ptr b9), []⟩ wx) :
  ∀ (n : Nat) (c1 c2 c3 a7 a8 a9 : Bool) (b7 b8 b9 : Nat) (wx : World), left6 c1 c2 c3 a7 a8 a9 = n -> (c2 = true -> c1 = true) -> (c3 = true -> c2 = true) -> EJ w nb z Z C a7 a8 a9 b7 b8 b9 wx ->
   wpAnyH P .any ops Q S (n + 3) (F c1 c2 c3 a7 a8 a9) ⟨T (tv c1 v1) (tv c2 v2) (tv c3 v3) (tv a7 (ptr b7)) (tv a8 (ptr b8)) (tv a9 (ptr b9)), []⟩ wx
 | 0, c1, c2, c3, a7, a8, a9, b7, b8, b9, wx, hn, _, _, hj => by
  have : c1 = true /\ c2 = true /\ c3 = true /\ a7 = true /\ a8 = true /\ a9 = true := by
   revert hn; cases c1 <;> cases c2 <;> cases c3 <;> cases a7 <;> cases a8 <;> cases a9 <;> decide
  obtain ⟨rfl, rfl, rfl, rfl, rfl, rfl⟩ := this
  exact hend b7 b8 b9 wx hj
 | n + 1, c1, c2, c3, a7, a8, a9, b7, b8, b9, wx, hn, h21, h32, hj => by
  have ih := exp_law T F i4 i9 i15 i16 i17 i18 d4 d9 d15 d16 d17 d18 w4 w9 w15 w16 w17 w18 t4 t9 t15 t16 t17 t18 f4 f9 f15 f16 f17 f18 hr r4 r9 r15 r16 r17 r18 hc1 hc2 hc3 hS hend n
  have hrd := cellOk_spec (hr c1 c2 c3 a7 a8 a9 (by revert hn h21 h32; cases c1 <;> cases c2 <;> cases c3 <;> cases a7 <;> cases a8 <;> cases a9 <;> simp [left6]))
  refine wpAnyH_all rfl hrd.1 ?_
  intro j hjr
  rcases hrd.2 j hjr with ⟨rfl, rfl⟩ | ⟨rfl, rfl, rfl⟩ | ⟨rfl, rfl, rfl⟩ | ⟨rfl, rfl⟩ | ⟨rfl, rfl⟩ | ⟨rfl, rfl⟩
  ·refine wpOp_enter i4 (w4 _) (r4 _ _ _ _ _ _ wx) ((hc1 wx hj.ex).mono ?_)
   rintro e w' ⟨rfl, hb⟩
   refine ⟨hS _ (hj.ex.below hb), ?_⟩
   rw [put_at d4, t4, f4]
   exact ih true c2 c3 a7 a8 a9 b7 b8 b9 w' (by simp [left6] at hn ⊢; omega) (fun _ => rfl) h32 (hj.below hb)
  ·refine wpOp_enter i9 (w9 _) (r9 _ _ _ _ _ _ wx) ((hc2 wx hj.ex).mono ?_)
   rintro e w' ⟨rfl, hb⟩
   refine ⟨hS _ (hj.ex.below hb), ?_⟩
   rw [put_at d9, t9, f9]
   exact ih true true c3 a7 a8 a9 b7 b8 b9 w' (by simp [left6] at hn ⊢; omega) (fun _ => rfl) (fun _ => rfl) (hj.below hb)
  ·obtain rfl : c1 = true := h21 rfl
   refine wpOp_enter i15 (w15 _) (r15 _ _ _ _ _ _ wx) ((hc3 wx hj.ex).mono ?_)
   rintro e w' ⟨rfl, hb⟩
   refine ⟨hS _ (hj.ex.below hb), ?_⟩
   rw [put_at d15, t15, f15]
   exact ih true true true a7 a8 a9 b7 b8 b9 w' (by simp [left6] at hn ⊢; omega) (fun _ => rfl) (fun _ => rfl) (hj.below hb)
  ·refine wpOp_value i16 (w16 _) (r16 _ _ _ _ _ _ wx) ?_
   refine ⟨hS _ hj.new7.ex, ?_⟩
   rw [put_at d16, t16, f16]
   exact ih c1 c2 c3 true a8 a9 wx.heap.size b8 b9 _ (by simp [left6] at hn ⊢; omega) h21 h32 hj.new7
  ·refine wpOp_value i17 (w17 _) (r17 _ _ _ _ _ _ wx) ?_
   refine ⟨hS _ hj.new8.ex, ?_⟩
   rw [put_at d17, t17, f17]
   exact ih c1 c2 c3 a7 true a9 b7 wx.heap.size b9 _ (by simp [left6] at hn ⊢; omega) h21 h32 hj.new8
  ·refine wpOp_value i18 (w18 _) (r18 _ _ _ _ _ _ wx) ?_
   refine ⟨hS _ hj.new9.ex, ?_⟩
   rw [put_at d18, t18, f18]
   exact ih c1 c2 c3 a7 a8 true b7 b8 wx.heap.size _ (by simp [left6] at hn ⊢; omega) h21 h32 hj.new9
end
end Go.Proofs.YtekfbphnoibnjaaDoor
