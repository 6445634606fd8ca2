/-
  The program's reader of a line reads a number, a signed number. The program's picture: a pixel, a pixel turned, what is expected. The points of an area, row by row: an iterator. The program's reader of films, as it lies in memory.
-/
import Derived.Test.YtekfbphnoibnjaaGreatDoorF11
import Derived.Laws.BitsAllLaws
import Derived.Test.YtekfbphnoibnjaaGreatDoorF04
import Derived.Test.YtekfbphnoibnjaaGreatDoorF03
import Derived.Deep.WholeRow
import Derived.Deep.MidRow
import Derived.Laws.ResultCell
import Derived.Deep.RegionLaw
import Derived.BigRegion
import Derived.RangeFuncNested
import Derived.RangeFuncBound
import Derived.RangeFuncCalls
import Derived.RangeFuncLeaves
import Derived.Shelf.Abstract
import Derived.Shelf.RegionOpen
import Derived.WalkKit
import Derived.OwnWalkIn
import Derived.TacticsInMore
import Derived.LoopNIn
import Derived.LoopIn
import Derived.Test.YtekfbphnoibnjaaGreatDoorF10
namespace Go.Proofs.YtekfbphnoibnjaaGreatDoor
open Go.RowKit
namespace Rdr
theorem run_le {s : ByteArray} {k : Nat} {r : RS} (hk : k + 22 <= 400) (ok : Ok s r) (he : (run s k 11 0 r).2.err = 0) : (run s k 11 0 r).1 <= 9 := by
 obtain ⟨_, _, h⟩ := run_ok (s := s) hk 11 0 r rfl (by omega) ok
 rcases h he with h | h
 ·exact h
 ·omega
theorem number_of {s : ByteArray} {k : Nat} {r : RS} {n : Nat} {q : RS} (h : run s k 11 0 r = (n, q)) : number s r k = ((lows s (k + 12 + n) n 0 1 q).2.1 + (lows s (k + 12 + n) n 0 1 q).1 - 1, (lows s (k + 12 + n) n 0 1 q).2.2) := by
 unfold number; rw [h]
end Rdr
theorem i64_or_nat (a b : Nat) (ha : a < 4611686018427387904) (hb : b < 4611686018427387904) : bits .or .i64 (a : Int) (b : Int) = ((a ||| b : Nat) : Int) := by
 have hx : a ||| b < 2 ^ 62 := Nat.or_lt_two_pow (by omega) (by omega)
 show IntKind.i64.wrap ((BitVec.ofInt 64 (a : Int) ||| BitVec.ofInt 64 (b : Int)).toNat : Int) = _
 rw [BitVec.toNat_or, ofInt_u64 a (by omega), ofInt_u64 b (by omega)]
 simp [IntKind.wrap, IntKind.bits, IntKind.signed]
 omega
theorem or_digit (M v : Int) (h0 : 0 <= M) (h1 : M <= 100000) (hv : v = 0 \/ v = 1) : bits .or .i64 (M * 2) v = 2 * M + v := by
 obtain ⟨m, rfl⟩ := Int.eq_ofNat_of_zero_le h0
 obtain ⟨x, rfl, hx⟩ : ∃ x : Nat, v = x /\ x < 2 := by
  rcases hv with rfl | rfl
  ·exact ⟨0, rfl, by decide⟩
  ·exact ⟨1, rfl, by decide⟩
 rw [show ((m : Int) * 2) = ((m * 2 : Nat) : Int) by simp, i64_or_nat (m * 2) x (by omega) (by omega)]
 have h := Nat.two_pow_add_eq_or_of_lt (i := 1) (b := x) (by omega) m
 rw [show m * 2 = 2 ^ 1 * m by omega, <- h]
 omega
set_option maxHeartbeats 1000000 in
set_option maxRecDepth 20000 in
theorem pNumber (w : World) (b L : Nat) (s : ByteArray) (r : RS) (k : Nat) (A : Nat -> Addr) (h : PR w b s r) (ok : Rdr.Ok s r) (he : r.err = 0) (hs : s.size <= maxLen) (hk : k + 22 <= 400) (hL : L <= b) (hLw : L <= w.heap.size) (E : ErrsL w A L) :
  Calls Tryz.prog 167 #[.pointer (some ⟨b, 0, none⟩), .int .i64 k] w fun x w' => x = numRet A (Rdr.number s r k).1 (Rdr.number s r k).2.err /\ numAt w' b s (Rdr.number s r k).2 /\ Frm (oneS b) w w' := by
 obtain ⟨n, q, hrun⟩ : ∃ n q, Rdr.run s k 11 0 r = (n, q) := ⟨_, _, rfl⟩
 have HO := pOnes w b L s r k A h ok he hs hk hL hLw E
 have hnum := Rdr.number_of hrun
 rw [hrun] at HO
 have hqok : Rdr.Ok s q := by have := (Rdr.run_ok (s := s) hk 11 0 r rfl (by omega) ok).1; rw [hrun] at this; exact this
 have hn9 : q.err = 0 -> n <= 9 := fun e => by have := Rdr.run_le hk ok (by rw [hrun]; exact e); rw [hrun] at this; exact this
 dsimp only at HO
 obtain ⟨NN, hNN⟩ : ∃ NN, NN = Rdr.number s r k := ⟨_, rfl⟩
 rw [<- hNN] at hnum ⊢
 have HNUM : Hid (NN = ((Rdr.lows s (k + 12 + n) n 0 1 q).2.1 + (Rdr.lows s (k + 12 + n) n 0 1 q).1 - 1, (Rdr.lows s (k + 12 + n) n 0 1 q).2.2)) := hnum
 have HE : Hid (ErrsL w A L) := E
 clear h ok he E hNN hrun hnum
 by_cases hqe : q.err = 0
 ·have hn := hn9 hqe
  rw [numRet_good A _ hqe] at HO
  have HOH : Hid (Calls Tryz.prog 181 #[.pointer (some ⟨b, 0, none⟩), .int .i64 k] w fun x w' => x = .returned (.tuple #[.int .i64 n, .nilIface]) /\ numAt w' b s q /\ Frm (oneS b) w w') := HO
  have HQE : Hid (q.err = 0) := hqe
  have HQOK : Hid (Rdr.Ok s q) := hqok
  clear HO hqe hqok hn9
  go_enter Tryz.func167, Tryz.ntmps167
  go_wp2_with (go_at_call 181; refine HOH.out.mono ?_; rintro x w1 ⟨rfl, h1, f1⟩)
  have HP1 : Hid (PR w1 b s q) := h1 HQE.out
  clear h1
  go_loopw [8, 21] (fun mv iv wr => ∃ (j : Nat) (D U : Int) (q' : RS), mv = .int .i64 (U + D) /\ iv = .int .i64 j /\ j <= n /\ Rdr.lows s (k + 12 + n) (n - j) D U q' = Rdr.lows s (k + 12 + n) n 0 1 q /\ 0 <= D /\ D + 1 <= U /\ U <= 2 ^ j /\ PR wr b s q' /\ Rdr.Ok s q' /\ q'.err = 0 /\ Frm (oneS b) w wr) (fun _ iv _ => n - (intOf iv).toNat)
  case atStart => exact ⟨0, 0, 1, q, rfl, rfl, by omega, rfl, by omega, by omega, by decide, HP1.out, HQOK.out, HQE.out, f1⟩
  case round =>
   clear HP1 HQOK f1
   obtain ⟨j, D, U, q', rfl, rfl, hj, hl, d0, d1, u1, hq', hok', hqe', hfr⟩ := hrel
   have hpow : (2 : Int) ^ j <= 512 := by
    have : (2 : Nat) ^ j <= 2 ^ 9 := Nat.pow_le_pow_right (by decide) (by omega)
    exact_mod_cast this
   by_cases hjn : j < n
   ·have hjn' : (j : Int) < (n : Int) := by omega
    have hbl : Below L w wr := hfr.below hLw (fun x e => by rw [show x = b from e]; exact hL)
    have E1 := HE.out.below hbl
    have hok1 := hok'.bitS (k := k + 12 + n) (by omega)
    have HL : Hid (Rdr.lows s (k + 12 + n) (n - j) D U q' = Rdr.lows s (k + 12 + n) n 0 1 q) := hl
    have HQ : Hid (q'.err = 0) := hqe'
    have HFR : Hid (Frm (oneS b) w wr) := hfr
    have HOK1 : Hid (Rdr.Ok s (Rdr.bitS s q' (k + 12 + n))) := hok1
    have hstep : Rdr.lows s (k + 12 + n) (n - j) D U q' = Rdr.lows s (k + 12 + n) (n - (j + 1)) (2 * D + Rdr.bitV q' (k + 12 + n)) (2 * U) (Rdr.bitS s q' (k + 12 + n)) := by
     rw [show n - j = (n - (j + 1)) + 1 by omega]
     conv => lhs; unfold Rdr.lows
     rw [if_pos hqe']
    have HST : Hid (Rdr.lows s (k + 12 + n) (n - j) D U q' = Rdr.lows s (k + 12 + n) (n - (j + 1)) (2 * D + Rdr.bitV q' (k + 12 + n)) (2 * U) (Rdr.bitS s q' (k + 12 + n))) := hstep
    have hp2 : Hid ((2 : Int) ^ (j + 1) = 2 * 2 ^ j) := by unfold Hid; rw [Int.pow_succ]; omega
    rcases Rdr.bitS_errs (s := s) (k := k + 12 + n) hqe' with hbe | hbe
    ·have HBE : Hid ((Rdr.bitS s q' (k + 12 + n)).err = 0) := hbe
     have HB := pBit_good wr b L s q' (k + 12 + n) A hq' hok' hqe' hs (by omega) hL E1 hbe
     rw [Int.natCast_add, Int.natCast_add] at HB
     obtain ⟨v, hv⟩ : ∃ v, v = Rdr.bitV q' (k + 12 + n) := ⟨_, rfl⟩
     have hv01 : v = 0 \/ v = 1 := by rw [hv]; exact Rdr.bitV_cases _ _
     have HV : Hid (v = Rdr.bitV q' (k + 12 + n)) := hv
     rw [<- hv] at HB
     have HBH : Hid (Calls Tryz.prog 129 #[.pointer (some ⟨b, 0, none⟩), .int .i64 ((k : Int) + 12 + n)] wr fun x w' => x = .returned (.tuple #[.int .i64 v, .nilIface]) /\ PR w' b s (Rdr.bitS s q' (k + 12 + n)) /\ Frm (oneS b) wr w') := HB
     have hor := or_digit (U + D) v (by omega) (by omega) hv01
     have HU : Hid (U <= 2 ^ j) := u1
     have hU5 : U <= 512 := by omega
     clear HB hv hbe hl hqe' hfr hok' hok1 hq' E1 hbl hstep hpow u1
     go_wp2_with (go_at_call 129; refine HBH.out.mono ?_; rintro x w2 ⟨rfl, h2, f2⟩)
     go_roundw
     case rel =>
      refine ⟨j + 1, 2 * D + v, 2 * U, _, ?_, by go_num, by omega, ?_, by omega, by omega, ?_, h2, HOK1.out, HBE.out, HFR.out.trans f2⟩
      ·congr 1
       omega
      ·rw [<- HL.out, HST.out, HV.out]
      ·rw [hp2.out]; have := HU.out; omega
     case measure => simp [intOf]; omega
    ·have HBE : Hid ((Rdr.bitS s q' (k + 12 + n)).err = 5) := hbe
     have HB := pBit_bad wr b L s q' (k + 12 + n) A hq' hok' hqe' hs (by omega) hL E1 hbe
     rw [Int.natCast_add, Int.natCast_add] at HB
     have HBH : Hid (Calls Tryz.prog 129 #[.pointer (some ⟨b, 0, none⟩), .int .i64 ((k : Int) + 12 + n)] wr fun x w' => x = .returned (.tuple #[.int .i64 0, .iface 278 (.pointer (some (A 5)))]) /\ Frm (oneS b) wr w') := HB
     clear HB hbe hl hqe' hfr hok' hok1 hq' E1 hbl hstep hpow u1
     go_wp2_with (go_at_call 129; refine HBH.out.mono ?_; rintro x w2 ⟨rfl, f2⟩)
     go_ret2
     have e5 : NN.2.err = 5 := by rw [HNUM.out, <- HL.out, HST.out, Rdr.lows_off (by rw [HBE.out]; decide)]; exact HBE.out
     rw [numRet_bad A _ (by rw [e5]; decide), e5]
     exact ⟨rfl, fun h => absurd h (by rw [e5]; decide), HFR.out.trans f2⟩
   ·have hjn' : ¬ (j : Int) < (n : Int) := by omega
    obtain rfl : j = n := by omega
    have HEND : Hid (NN = (U + D - 1, q')) := by rw [HNUM.out, <- hl, Nat.sub_self]; exact rfl
    have HP : Hid (PR wr b s q' /\ q'.err = 0 /\ Frm (oneS b) w wr) := ⟨hq', hqe', hfr⟩
    clear hl hq' hok' hqe' hfr
    go_wp2_with fail
    go_ret2
    rw [HEND.out, numRet_good A _ HP.out.2.1]
    exact ⟨rfl, fun _ => HP.out.1, HP.out.2.2⟩
 ·rw [numRet_bad A _ hqe] at HO
  obtain ⟨ea, hea⟩ : ∃ ea, ea = A q.err.toNat := ⟨_, rfl⟩
  rw [<- hea] at HO
  have HEA : Hid (ea = A q.err.toNat) := hea
  have HQE : Hid (q.err ≠ 0) := hqe
  have HOH : Hid (Calls Tryz.prog 181 #[.pointer (some ⟨b, 0, none⟩), .int .i64 k] w fun x w' => x = .returned (.tuple #[.int .i64 0, .iface 278 (.pointer (some ea))]) /\ numAt w' b s q /\ Frm (oneS b) w w') := HO
  clear HO hea hqe hqok hn9
  go_enter Tryz.func167, Tryz.ntmps167
  go_wp2_with (go_at_call 181; refine HOH.out.mono ?_; rintro x w1 ⟨rfl, h1, f1⟩)
  go_ret2
  have he2 : NN.2 = q := by rw [HNUM.out, Rdr.lows_off HQE.out]
  rw [he2, numRet_bad A _ HQE.out, <- HEA.out]
  exact ⟨rfl, h1, f1⟩
set_option maxHeartbeats 1000000 in
set_option maxRecDepth 20000 in
theorem pSigned (w : World) (b L : Nat) (s : ByteArray) (r : RS) (k : Nat) (A : Nat -> Addr) (h : PR w b s r) (ok : Rdr.Ok s r) (he : r.err = 0) (hs : s.size <= maxLen) (hk : k + 22 <= 400) (hL : L <= b) (hLw : L <= w.heap.size) (E : ErrsL w A L) :
  Calls Tryz.prog 165 #[.pointer (some ⟨b, 0, none⟩), .int .i64 k] w fun x w' => x = numRet A (Rdr.signed s r k) (Rdr.number s r k).2.err /\ numAt w' b s (Rdr.number s r k).2 /\ Frm (oneS b) w w' := by
 have HN := pNumber w b L s r k A h ok he hs hk hL hLw E
 have hbd := Rdr.number_bd (s := s) ok hk
 obtain ⟨NN, hNN⟩ : ∃ NN, NN = Rdr.number s r k := ⟨_, rfl⟩
 obtain ⟨M, hM⟩ : ∃ M, M = NN.1 := ⟨_, rfl⟩
 rw [<- hNN] at HN hbd ⊢
 rw [<- hM] at HN hbd
 have HSG : Hid (Rdr.signed s r k = if M % 2 = 0 then M / 2 else -((M + 1) / 2)) := by
  unfold Hid Rdr.signed; rw [hM, hNN]
 clear h ok he E hNN hM
 by_cases hqe : NN.2.err = 0
 ·rw [numRet_good A _ hqe] at HN
  have HQE : Hid (NN.2.err = 0) := hqe
  have HNH : Hid (Calls Tryz.prog 167 #[.pointer (some ⟨b, 0, none⟩), .int .i64 k] w fun x w' => x = .returned (.tuple #[.int .i64 M, .nilIface]) /\ numAt w' b s NN.2 /\ Frm (oneS b) w w') := HN
  clear HN hqe
  by_cases hev : M % 2 = 0
  ·have m0 := hbd.1
   have m1 := hbd.2
   go_enter Tryz.func165, Tryz.ntmps165
   go_wp2_with (go_at_call 167; refine HNH.out.mono ?_; rintro x w1 ⟨rfl, h1, f1⟩)
   go_ret2
   rw [HSG.out, if_pos hev, numRet_good A _ HQE.out]
   exact ⟨rfl, h1, f1⟩
  ·have m0 := hbd.1
   have m1 := hbd.2
   go_enter Tryz.func165, Tryz.ntmps165
   go_wp2_with (go_at_call 167; refine HNH.out.mono ?_; rintro x w1 ⟨rfl, h1, f1⟩)
   go_ret2
   rw [HSG.out, if_neg hev, numRet_good A _ HQE.out]
   refine ⟨?_, h1, f1⟩
   show Ending.returned (.tuple #[Value.int IntKind.i64 (wrap64 (-(M + 1).tdiv 2)), .nilIface]) = _
   have e : wrap64 (-((M + 1) / 2)) = -((M + 1) / 2) := by unfold wrap64; omega
   rw [Int.tdiv_eq_ediv_of_nonneg (by omega), e]
 ·rw [numRet_bad A _ hqe] at HN
  obtain ⟨ea, hea⟩ : ∃ ea, ea = A NN.2.err.toNat := ⟨_, rfl⟩
  rw [<- hea] at HN
  have HEA : Hid (ea = A NN.2.err.toNat) := hea
  have HQE : Hid (NN.2.err ≠ 0) := hqe
  have HNH : Hid (Calls Tryz.prog 167 #[.pointer (some ⟨b, 0, none⟩), .int .i64 k] w fun x w' => x = .returned (.tuple #[.int .i64 0, .iface 278 (.pointer (some ea))]) /\ numAt w' b s NN.2 /\ Frm (oneS b) w w') := HN
  clear HN hea hqe
  go_enter Tryz.func165, Tryz.ntmps165
  go_wp2_with (go_at_call 167; refine HNH.out.mono ?_; rintro x w1 ⟨rfl, h1, f1⟩)
  go_ret2
  rw [numRet_bad A _ HQE.out, <- HEA.out]
  exact ⟨rfl, h1, f1⟩
end Go.Proofs.YtekfbphnoibnjaaGreatDoor
namespace Go.Proofs.YtekfbphnoibnjaaGreatDoor
open Go.RowKit
open Flm (Px FS)
set_option maxHeartbeats 1000000 in
set_option maxRecDepth 20000 in
theorem pAt_raw (w : World) (nb N z x y : Nat) (a b c : Int) (k : Nat) (hk : k = y * z + x) (hkN : k < N) (hN2 : N <= 256)
  (k0 : w.cell? ⟨nb, k * 3, none⟩ = some (.int .u8 a)) (k1 : w.cell? ⟨nb, k * 3 + 1, none⟩ = some (.int .u8 b)) (k2 : w.cell? ⟨nb, k * 3 + 2, none⟩ = some (.int .u8 c)) :
  Calls Tryz.prog 113 #[.agg #[.int .i64 z, .slice (some ⟨nb, 0, none⟩) N N], .int .i64 x, .int .i64 y] w fun e w' => e = .returned (.agg #[.int .u8 a, .int .u8 b, .int .u8 c]) /\ Below w.heap.size w w' := by
 have e2 : (y : Int) * (z : Int) + (x : Int) = (k : Int) := by rw [hk, Int.natCast_add, Int.natCast_mul]
 have hyz : y * z <= 256 := by omega
 have p0 : 0 <= (y : Int) * (z : Int) := by rw [<- Int.natCast_mul]; omega
 have p1 : (y : Int) * (z : Int) <= 256 := by rw [<- Int.natCast_mul]; omega
 have hk' : (k : Int) < (N : Int) := by omega
 have w1 : wrap64 ((y : Int) * (z : Int)) = (y : Int) * (z : Int) := by unfold wrap64; omega
 have w2 : wrap64 ((y : Int) * (z : Int) + (x : Int)) = (k : Int) := by rw [e2]; unfold wrap64; omega
 obtain ⟨W, hW⟩ : ∃ W, W = (w.alloc (.cells #[.int .i64 z, .slice (some ⟨nb, 0, none⟩) N N] 89)).alloc (.cells #[.int .u8 0, .int .u8 0, .int .u8 0] 50) := ⟨_, rfl⟩
 have hB : Below w.heap.size w W := by rw [hW]; exact ((Below.refl _ _).alloc (Nat.le_refl _) _).alloc (by simp) _
 have Q : ∀ (bk off : Nat) (v : Value), w.cell? ⟨bk, off, none⟩ = some v -> W.cell? ⟨bk, off, none⟩ = some v := fun bk off v h => (hB.cell (World.block_lt_of_cell? w _ h)).trans h
 have l0 := Q _ _ _ k0
 have l1 := Q _ _ _ k1
 have l2 := Q _ _ _ k2
 rw [hW] at l0 l1 l2
 have HB : Hid (Below w.heap.size w ((w.alloc (.cells #[.int .i64 z, .slice (some ⟨nb, 0, none⟩) N N] 89)).alloc (.cells #[.int .u8 0, .int .u8 0, .int .u8 0] 50))) := by rw [<- hW]; exact hB
 clear hk hyz Q k0 k1 k2 hW hB
 go_enter Tryz.func113, Tryz.ntmps113
 go_wp2
 refine bodyPost_ret (v := .agg #[.int .u8 a, .int .u8 b, .int .u8 c]) (by simp [results, Tryz.results113, go_sem]) rfl ⟨rfl, ?_⟩
 have hbel := HB.out
 repeat (first | exact hbel | exact Below.refl _ _ | refine Below.setCell ?_ (by simp) _ | refine Below.alloc ?_ (by simp) _ | refine below_drewN ?_ _)
theorem pAt (w : World) (L nb z : Nat) (ps : List Px) (hz : z * z <= 256) (h : Pixs w L nb (z * z) ps) (x y : Nat) (hx : x < z) (hy : y < z) :
  Calls Tryz.prog 113 #[.agg #[.int .i64 z, .slice (some ⟨nb, 0, none⟩) (z * z) (z * z)], .int .i64 x, .int .i64 y] w fun e w' => e = .returned (.agg #[.int .u8 (ps.getD (y * z + x) (0, 0, 0)).1, .int .u8 (ps.getD (y * z + x) (0, 0, 0)).2.1, .int .u8 (ps.getD (y * z + x) (0, 0, 0)).2.2]) /\ Below w.heap.size w w' := by
 have hk := spot_lt hx hy
 obtain ⟨k0, k1, k2⟩ := h.cell (y * z + x) hk
 exact pAt_raw w nb (z * z) z x y _ _ _ _ rfl hk hz k0 k1 k2
set_option maxHeartbeats 1000000 in
set_option maxRecDepth 20000 in
theorem pSet_raw (w : World) (nb N z x y : Nat) (a b c a' b' c' : Int) (k : Nat) (hk : k = y * z + x) (hkN : k < N) (hN2 : N <= 256)
  (k0 : w.cell? ⟨nb, k * 3, none⟩ = some (.int .u8 a')) (k1 : w.cell? ⟨nb, k * 3 + 1, none⟩ = some (.int .u8 b')) (k2 : w.cell? ⟨nb, k * 3 + 2, none⟩ = some (.int .u8 c'))
  (z0 : w.frozen? ⟨nb, k * 3, none⟩ = false) (z1 : w.frozen? ⟨nb, k * 3 + 1, none⟩ = false) (z2 : w.frozen? ⟨nb, k * 3 + 2, none⟩ = false) :
  Calls Tryz.prog 166 #[.agg #[.int .i64 z, .slice (some ⟨nb, 0, none⟩) N N], .int .i64 x, .int .i64 y, .agg #[.int .u8 a, .int .u8 b, .int .u8 c]] w fun e w' => e = .returned (.tuple #[]) /\ w' = ((((w.alloc (.cells #[.int .i64 z, .slice (some ⟨nb, 0, none⟩) N N] 89)).alloc (.cells #[.int .u8 a, .int .u8 b, .int .u8 c] 50)).setCell ⟨nb, k * 3, none⟩ (.int .u8 a)).setCell ⟨nb, k * 3 + 1, none⟩ (.int .u8 b)).setCell ⟨nb, k * 3 + 2, none⟩ (.int .u8 c) := by
 have e2 : (y : Int) * (z : Int) + (x : Int) = (k : Int) := by rw [hk, Int.natCast_add, Int.natCast_mul]
 have hyz : y * z <= 256 := by omega
 have p0 : 0 <= (y : Int) * (z : Int) := by rw [<- Int.natCast_mul]; omega
 have p1 : (y : Int) * (z : Int) <= 256 := by rw [<- Int.natCast_mul]; omega
 have hk' : (k : Int) < (N : Int) := by omega
 have w1 : wrap64 ((y : Int) * (z : Int)) = (y : Int) * (z : Int) := by unfold wrap64; omega
 have w2 : wrap64 ((y : Int) * (z : Int) + (x : Int)) = (k : Int) := by rw [e2]; unfold wrap64; omega
 have hB : Below w.heap.size w ((w.alloc (.cells #[.int .i64 z, .slice (some ⟨nb, 0, none⟩) N N] 89)).alloc (.cells #[.int .u8 a, .int .u8 b, .int .u8 c] 50)) := ((Below.refl _ _).alloc (Nat.le_refl _) _).alloc (by simp) _
 have hnb : nb < w.heap.size := World.block_lt_of_cell? w _ k0
 have l0 := (hB.cell (p := ⟨nb, k * 3, none⟩) hnb).trans k0
 have l1 := (hB.cell (p := ⟨nb, k * 3 + 1, none⟩) hnb).trans k1
 have l2 := (hB.cell (p := ⟨nb, k * 3 + 2, none⟩) hnb).trans k2
 have y0 := (hB.frozen (p := ⟨nb, k * 3, none⟩) hnb).trans z0
 have y1 := (hB.frozen (p := ⟨nb, k * 3 + 1, none⟩) hnb).trans z1
 have y2 := (hB.frozen (p := ⟨nb, k * 3 + 2, none⟩) hnb).trans z2
 clear hk hyz k0 k1 k2 z0 z1 z2 hB hnb
 go_enter Tryz.func166, Tryz.ntmps166
 go_wp2
 go_end0
 exact ⟨rfl, rfl⟩
set_option maxHeartbeats 1000000 in
theorem pTurned (w : World) (L nb z : Nat) (ps : List Px) (hz : z * z <= 256) (h : Pixs w L nb (z * z) ps) (hp : ∀ k, Flm.okPx (ps.getD k (0, 0, 0))) (fs : FS) (hps : ps = fs.frs.getD (Flm.now fs) []) (x y : Int) (hx1 : x < z) (hy1 : y < z) :
  Calls Tryz.prog 132 #[.agg #[.int .i64 z, .slice (some ⟨nb, 0, none⟩) (z * z) (z * z)], .int .i64 x, .int .i64 y] w fun e w' => e = .returned (.agg #[.int .i64 (Flm.near z fs x y).1, .int .i64 (Flm.near z fs x y).2.1, .int .i64 (Flm.near z fs x y).2.2]) /\ Below w.heap.size w w' := by
 by_cases hx : x < 0
 ·have e : Flm.near z fs x y = (0, 0, 0) := by unfold Flm.near; rw [if_pos (.inl hx)]
  rw [e]
  clear h hp hps e
  go_enter Tryz.func132, Tryz.ntmps132
  go_wp2
  refine bodyPost_ret (v := .agg #[.int .i64 0, .int .i64 0, .int .i64 0]) (by simp [results, Tryz.results132, go_sem]) rfl ⟨rfl, ?_⟩
  repeat (first | exact Below.refl _ _ | refine Below.setCell ?_ (by simp) _ | refine Below.alloc ?_ (by simp) _ | refine below_drewN ?_ _)
 by_cases hy : y < 0
 ·have e : Flm.near z fs x y = (0, 0, 0) := by unfold Flm.near; rw [if_pos (.inr (.inl hy))]
  rw [e]
  clear h hp hps e
  go_enter Tryz.func132, Tryz.ntmps132
  go_wp2
  refine bodyPost_ret (v := .agg #[.int .i64 0, .int .i64 0, .int .i64 0]) (by simp [results, Tryz.results132, go_sem]) rfl ⟨rfl, ?_⟩
  repeat (first | exact Below.refl _ _ | refine Below.setCell ?_ (by simp) _ | refine Below.alloc ?_ (by simp) _ | refine below_drewN ?_ _)
 ·obtain ⟨X, rfl⟩ := Int.eq_ofNat_of_zero_le (Int.not_lt.1 hx)
  obtain ⟨Y, rfl⟩ := Int.eq_ofNat_of_zero_le (Int.not_lt.1 hy)
  obtain ⟨q, hq⟩ : ∃ q, q = ps.getD (Y * z + X) (0, 0, 0) := ⟨_, rfl⟩
  have e : Flm.near z fs (X : Int) (Y : Int) = (Pix.tY q.1 q.2.1 q.2.2, q.1 - q.2.2, Pix.tV q.1 q.2.1 q.2.2) := by
   unfold Flm.near Flm.px
   rw [if_neg (by omega), hq, hps]
   rfl
  have HA : Hid (∀ wx, Below w.heap.size w wx -> Calls Tryz.prog 113 #[.agg #[.int .i64 z, .slice (some ⟨nb, 0, none⟩) (z * z) (z * z)], .int .i64 X, .int .i64 Y] wx fun e w' => e = .returned (.agg #[.int .u8 q.1, .int .u8 q.2.1, .int .u8 q.2.2]) /\ Below wx.heap.size wx w') := by
   intro wx hb
   have := pAt wx L nb z ps hz ((Frm.of_below (S := fun _ => False) hb).pixs h (fun e => e)) X Y (by omega) (by omega)
   rw [<- hq] at this
   exact this
  obtain ⟨⟨q0, q1⟩, ⟨q2, q3⟩, ⟨q4, q5⟩⟩ : Flm.okPx q := by rw [hq]; exact hp _
  have HT := fun wx => colTurn q.1 q.2.1 q.2.2 wx q0 q1 q2 q3 q4 q5
  rw [e]
  clear h e hq hp hps q0 q1 q2 q3 q4 q5
  obtain ⟨Z, hZ⟩ : ∃ Z, Z = z * z := ⟨_, rfl⟩
  rw [<- hZ] at HA
  rw [<- hZ]
  obtain ⟨W, hW⟩ : ∃ W, W = (w.alloc (.cells #[.int .i64 z, .slice (some ⟨nb, 0, none⟩) Z Z] 89)).alloc (.cells #[.int .i64 0, .int .i64 0, .int .i64 0] 48) := ⟨_, rfl⟩
  have hh : W.heap[w.heap.size + 1]? = some (.cells #[.int .i64 0, .int .i64 0, .int .i64 0] 48) := by
   have := heap_alloc_last (w.alloc (.cells #[.int .i64 z, .slice (some ⟨nb, 0, none⟩) Z Z] 89)) (.cells #[.int .i64 0, .int .i64 0, .int .i64 0] 48)
   rw [World.size_alloc] at this
   rw [hW]; exact this
  have hB : Below w.heap.size w W := by rw [hW]; exact ((Below.refl _ _).alloc (Nat.le_refl _) _).alloc (by simp) _
  have hoW : w.heap.size + 1 < W.heap.size := by rw [hW]; simp
  have HH : Hid (∀ w2, Below W.heap.size W w2 -> w2.heap[w.heap.size + 1]? = some (.cells #[.int .i64 0, .int .i64 0, .int .i64 0] 48)) := fun w2 b2 => (b2.block _ hoW).trans hh
  have HB : Hid (Below w.heap.size w W) := hB
  have HW : Hid (W = (w.alloc (.cells #[.int .i64 z, .slice (some ⟨nb, 0, none⟩) Z Z] 89)).alloc (.cells #[.int .i64 0, .int .i64 0, .int .i64 0] 48)) := hW
  clear hW hh hB hoW hZ hz
  go_enter Tryz.func132, Tryz.ntmps132
  go_wp2_with (first
   | (go_at_call 113; rw [<- HW.out]; refine (HA.out _ HB.out).mono ?_; rintro e w1 ⟨rfl, b1⟩)
   | (go_at_call 96; refine (HT _).mono ?_; rintro e w2 ⟨rfl, b2⟩; have hg := HH.out w2 (b1.trans (b2.mono b1.size)); have s0 := cell_of_row w2 (w.heap.size + 1) 0 _ _ _ hg; have s1 := cell_of_row w2 (w.heap.size + 1) 1 _ _ _ hg; have s2 := cell_of_row w2 (w.heap.size + 1) 2 _ _ _ hg; have z0 := frozen_of_row w2 (w.heap.size + 1) 0 _ _ hg; have z1 := frozen_of_row w2 (w.heap.size + 1) 1 _ _ hg; have z2 := frozen_of_row w2 (w.heap.size + 1) 2 _ _ hg; simp at s0 s1 s2))
  refine bodyPost_ret (v := .agg #[.int .i64 (Pix.tY q.1 q.2.1 q.2.2), .int .i64 (q.1 - q.2.2), .int .i64 (Pix.tV q.1 q.2.1 q.2.2)]) (by simp [results, Tryz.results132, go_sem, s0, s1, s2]) rfl ⟨rfl, ?_⟩
  have hb2 : Below w.heap.size w w2 := HB.out.trans ((b1.trans (b2.mono b1.size)).mono HB.out.size)
  repeat (first | exact hb2 | refine Below.setCell ?_ (by simp) _ | refine below_drewN ?_ _)
end Go.Proofs.YtekfbphnoibnjaaGreatDoor
namespace Go.Proofs.YtekfbphnoibnjaaGreatDoor
open Go.RowKit Go.Shelf
attribute [local go_sem] Oper.semAt_some
set_option maxHeartbeats 400000 in
theorem pPoints (w : World) (x y n : Int) :
  Calls Tryz.prog 105 #[.agg #[.int .i64 x, .int .i64 y, .int .i64 n]] w fun e w' => e = .returned (.func (.func 131) #[] #[.pointer (some ⟨w.heap.size, 0, none⟩)]) /\ w' = w.alloc (.cells #[.int .i64 x, .int .i64 y, .int .i64 n] 100) := by
 go_enter Tryz.func105, Tryz.ntmps105
 go_wp2
 go_ret
 exact ⟨rfl, rfl⟩
abbrev Pt (x y n : Nat) := { p : Nat × Nat // (x <= p.1 /\ p.1 < x + n) /\ y <= p.2 /\ p.2 < y + n }
def encPt {x y n : Nat} (p : Pt x y n) : Array Value := #[.int .i64 p.1.1, .int .i64 p.1.2]
def KpB (b : Nat) (W W' : World) : Prop := W'.heap[b]? = W.heap[b]?
set_option maxHeartbeats 2000000 in
set_option maxRecDepth 100000 in
theorem points1_in (F : Fence) (m : Nat) (hF : F.fn 131) (hro : F.round = none) (hm : 1 <= m) (l b x y n : Nat) (hx : x + n <= 16) (hy : y + n <= 16) (J Jx : List (Pt x y n) -> World -> Prop)
  (hY : ∀ pre p W, J pre W -> pre.length < n * n -> YieldAt F (m - 1) Tryz.prog l (encPt p) W fun e W' => (e = .returned (.bool true) /\ J (pre ++ [p]) W' /\ KpB b W W') \/ (e = .returned (.bool false) /\ Jx (pre ++ [p]) W'))
  (W : World) (hb : W.heap[b]? = some (.cells #[.int .i64 x, .int .i64 y, .int .i64 n] 100 (0, 0))) (h0 : J [] W) :
  CallsIn F m Tryz.prog 131 #[.func (.yield l) #[] #[], .pointer (some ⟨b, 0, none⟩)] W fun e W' => (∃ v, e = .returned v) /\
   ((∃ xs : List (Pt x y n), xs.map (·.1) = Flm.spots x y n /\ J xs W') \/ (∃ pre : List (Pt x y n), pre.map (·.1) <+: Flm.spots x y n /\ Jx pre W')) := by
 refine callsIn_of_wp Tryz.func131 rfl hF ?_ hro
 simp only [Tryz.ntmps131, List.size_toArray, List.length_cons, List.length_nil, Nat.reduceAdd, Nat.reduceSub, Array.replicate_succ, Array.replicate_zero, List.push_toArray, List.append_toArray, List.nil_append, List.cons_append]
 have c0 := cell_of_row _ _ 0 _ _ _ hb
 have c1 := cell_of_row _ _ 1 _ _ _ hb
 have c2 := cell_of_row _ _ 2 _ _ _ hb
 have HBX : Hid (W.heap[b]? = some (.cells #[.int .i64 x, .int .i64 y, .int .i64 n] 100 (0, 0))) := hb
 have HJ0 : Hid (J [] W) := h0
 have HY : Hid (∀ pre p W, J pre W -> pre.length < n * n -> YieldAt F (m - 1) Tryz.prog l (encPt p) W fun e W' => (e = .returned (.bool true) /\ J (pre ++ [p]) W' /\ KpB b W W') \/ (e = .returned (.bool false) /\ Jx (pre ++ [p]) W')) := hY
 clear hb h0 hY
 gi_wp2
 clear c0 c1 c2
 gi_loopw [3, 4] (fun yv _ wr => ∃ (j : Nat) (pre : List (Pt x y n)), j <= n /\ yv = .int .i64 ((y + j : Nat) : Int) /\ pre.map (·.1) ++ Flm.left x y n j 0 = Flm.spots x y n /\ J pre wr /\ wr.heap[b]? = some (.cells #[.int .i64 x, .int .i64 y, .int .i64 n] 100 (0, 0))) (fun yv _ _ => y + n - (intOf yv).toNat)
 case atStart => exact ⟨0, [], by omega, rfl, by simp [Flm.left_zero], HJ0.out, HBX.out⟩
 case round =>
  clear HJ0 HBX
  obtain ⟨j, pre, hj, rfl, hpre, hJ, hb⟩ := hrel
  obtain ⟨Y, hYe⟩ : ∃ Y, Y = y + j := ⟨_, rfl⟩
  rw [<- hYe]
  have c0 := cell_of_row _ _ 0 _ _ _ hb
  have c1 := cell_of_row _ _ 1 _ _ _ hb
  have c2 := cell_of_row _ _ 2 _ _ _ hb
  have HI : Hid (pre.map (·.1) ++ Flm.left x y n j 0 = Flm.spots x y n /\ J pre wr /\ wr.heap[b]? = some (.cells #[.int .i64 x, .int .i64 y, .int .i64 n] 100 (0, 0))) := ⟨hpre, hJ, hb⟩
  have HYE : Hid (Y = y + j) := hYe
  by_cases hlt : j < n
  ·have hlt' : (Y : Int) < (y : Int) + (n : Int) := by omega
   clear hpre hJ hb hYe
   gi_wp2
   clear c0 c1 c2
   gi_loopw [4] (fun xv wi => ∃ (i : Nat) (pre : List (Pt x y n)), i <= n /\ xv = .int .i64 ((x + i : Nat) : Int) /\ pre.map (·.1) ++ Flm.left x y n j i = Flm.spots x y n /\ J pre wi /\ wi.heap[b]? = some (.cells #[.int .i64 x, .int .i64 y, .int .i64 n] 100 (0, 0))) (fun xv _ => x + n - (intOf xv).toNat)
   case atStart => exact ⟨0, pre, by omega, rfl, HI.out.1, HI.out.2.1, HI.out.2.2⟩
   case round =>
    clear HI
    obtain ⟨i, pre, hi, rfl, hpre, hJ, hb⟩ := hrel
    obtain ⟨wi, rfl⟩ : ∃ wi, wi = wr := ⟨_, rfl⟩
    obtain ⟨X, hXe⟩ : ∃ X, X = x + i := ⟨_, rfl⟩
    rw [<- hXe]
    have c0 := cell_of_row _ _ 0 _ _ _ hb
    have c1 := cell_of_row _ _ 1 _ _ _ hb
    have c2 := cell_of_row _ _ 2 _ _ _ hb
    have HXE : Hid (X = x + i) := hXe
    by_cases hlt2 : i < n
    ·have hlt2' : (X : Int) < (x : Int) + (n : Int) := by omega
     have hYe := HYE.out
     have hcons := Flm.left_cons x y n j i hlt hlt2
     rw [<- hXe, <- hYe] at hcons
     have hlen : pre.length < n * n := by
      have := congrArg List.length hpre
      rw [hcons] at this
      simp only [List.length_append, List.length_map, List.length_cons, Flm.spots_len] at this
      omega
     obtain ⟨P, hP⟩ : ∃ P : Pt x y n, P.1 = (X, Y) := ⟨⟨(X, Y), by dsimp only; omega⟩, rfl⟩
     have hen : encPt P = #[.int .i64 X, .int .i64 Y] := by unfold encPt; rw [hP]
     have hyield := HY.out pre P wi hJ hlen
     rw [hen] at hyield
     have HP : Hid (P.1 = (X, Y)) := hP
     clear hP hen
     obtain ⟨fn, tmps, assign, body, hy, hR⟩ := hyield
     have HN : Hid (∀ q : Pt x y n, q.1 = (X, Y) -> (pre ++ [q]).map (·.1) ++ Flm.left x y n j (i + 1) = Flm.spots x y n) := fun q hq => by
      rw [List.map_append, List.append_assoc, <- hpre, hcons]
      simp [hq]
     have HB : Hid (wi.heap[b]? = some (.cells #[.int .i64 x, .int .i64 y, .int .i64 n] 100 (0, 0))) := hb
     clear hpre hJ hb hXe hYe hcons
     gi_wp2
     refine hR.mono ?_
     rintro e W3 (⟨rfl, hJ3, hk3⟩ | ⟨rfl, hJx3⟩)
     ·gi_wp2
      go_roundw
      case rel =>
       have hXe := HXE.out
       exact ⟨i + 1, _, by omega, by rw [show ((x + (i + 1) : Nat) : Int) = (X : Int) + 1 by omega], HN.out _ HP.out, hJ3, hk3.trans HB.out⟩
      case measure => simp [intOf]; omega
     ·gi_wp2
      refine bodyPost_ret (results_none rfl _ _ _) rfl ?_
      exact ⟨⟨_, rfl⟩, .inr ⟨_, ⟨_, HN.out _ HP.out⟩, hJx3⟩⟩
    ·have hlt2' : ¬ ((X : Int) < (x : Int) + (n : Int)) := by omega
     obtain rfl : i = n := by omega
     have HI2 : Hid (pre.map (·.1) ++ Flm.left x y i j i = Flm.spots x y i /\ J pre wi /\ wi.heap[b]? = some (.cells #[.int .i64 x, .int .i64 y, .int .i64 i] 100 (0, 0))) := ⟨hpre, hJ, hb⟩
     clear hpre hJ hb hXe
     gi_wp2
     have hYe := HYE.out
     obtain ⟨p1, p2, p3⟩ := HI2.out
     refine ⟨⟨j + 1, pre, by omega, ?_, by rw [<- p1, Flm.left_row], p2, p3⟩, ?_⟩
     ·rw [show ((y + (j + 1) : Nat) : Int) = (Y : Int) + 1 by omega]
     ·simp [intOf]; omega
  ·have hlt' : ¬ ((Y : Int) < (y : Int) + (n : Int)) := by omega
   obtain rfl : j = n := by omega
   clear hpre hJ hb hYe
   gi_wp2
   go_end0
   obtain ⟨p1, p2, p3⟩ := HI.out
   rw [Flm.left_end, List.append_nil] at p1
   exact ⟨⟨_, rfl⟩, .inl ⟨pre, p1, p2⟩⟩
theorem points_stops (F : Fence) (m : Nat) (hF : F.fn 131) (hro : F.round = none) (hm : 1 <= m) (b x y n : Nat) (hx : x + n <= 16) (hy : y + n <= 16) (w : World) (hb : w.heap[b]? = some (.cells #[.int .i64 x, .int .i64 y, .int .i64 n] 100 (0, 0))) :
  SeqStopsK F m Tryz.prog 131 #[.pointer (some ⟨b, 0, none⟩)] (encPt (x := x) (y := y) (n := n)) (KpB b) (fun xs => xs.map (·.1) = Flm.spots x y n) (fun pre => pre.map (·.1) <+: Flm.spots x y n) (n * n) w :=
 fun l J Jx W hW _ _ hY h0 => points1_in F m hF hro hm l b x y n hx hy J Jx hY W ((hW.block b (heap_lt hb)).trans hb) h0
end Go.Proofs.YtekfbphnoibnjaaGreatDoor
namespace Go.Proofs.YtekfbphnoibnjaaGreatDoor
open Go.RowKit
open Flm (Px FS)
structure PAt (w : World) (L p b nb rg : Nat) (Dv : Value) (dbs : List Nat) (s : ByteArray) (z : Nat) (fs : FS) : Prop where
 pr : PR w b s fs.r
 ok : Rdr.Ok s fs.r
 err : fs.r.err = 0
 c0 : w.cell? ⟨p, 0, none⟩ = some (.pointer (some ⟨b, 0, none⟩))
 c1 : w.cell? ⟨p, 1, none⟩ = some (.int .i64 z)
 c2 : w.cell? ⟨p, 2, none⟩ = some Dv
 c3 : w.cell? ⟨p, 3, none⟩ = some (.int .i64 z)
 c4 : w.cell? ⟨p, 4, none⟩ = some (.slice (some ⟨nb, 0, none⟩) (z * z) (z * z))
 c5 : w.cell? ⟨p, 5, none⟩ = some (.slice (some ⟨rg, 0, none⟩) (z * z) (z * z))
 fz : ∀ o, w.frozen? ⟨p, o, none⟩ = false
 rows : w.ownsRow L 58 1 Dv (Flm.now fs) (rowVals (z * z) dbs)
 dn : ∀ i, i < Flm.now fs -> Pixs w L (dbs.getD i 0) (z * z) (fs.frs.getD i [])
 nw : Pixs w L nb (z * z) (fs.frs.getD (Flm.now fs) [])
 read : Bools w L rg (z * z) fs.rd
 n1 : dbs.length = Flm.now fs
 n2 : 0 < fs.frs.length /\ fs.frs.length <= 8
 zz : z = 4 \/ z = 8 \/ z = 16
 ne : (p :: b :: rg :: nb :: dbs).Nodup
 nd : ∀ k, Dv.ownBlock = some k -> k ≠ p /\ k ≠ b /\ k ≠ rg /\ k ≠ nb /\ k ∉ dbs
 px : ∀ i k, Flm.okPx (Flm.px fs i k)
 lo : L <= p /\ L <= b
 up : p < w.heap.size /\ b < w.heap.size
variable {w w' : World} {L p b nb rg : Nat} {Dv : Value} {dbs : List Nat} {s : ByteArray} {z : Nat} {fs : FS}
theorem PAt.zzle (h : PAt w L p b nb rg Dv dbs s z fs) : z * z <= 256 := by
 rcases h.zz with e | e | e <;> subst e <;> decide
theorem PAt.z16 (h : PAt w L p b nb rg Dv dbs s z fs) : z <= 16 := by rcases h.zz with e | e | e <;> omega
theorem PAt.nes (h : PAt w L p b nb rg Dv dbs s z fs) : (p ≠ b /\ p ≠ rg /\ p ≠ nb /\ p ∉ dbs) /\ (b ≠ rg /\ b ≠ nb /\ b ∉ dbs) /\ (rg ≠ nb /\ rg ∉ dbs) /\ nb ∉ dbs /\ dbs.Nodup := by
 have := h.ne
 simp only [List.nodup_cons, List.mem_cons, not_or] at this
 exact this
theorem PAt.db_mem (h : PAt w L p b nb rg Dv dbs s z fs) {i : Nat} (hi : i < Flm.now fs) : dbs.getD i 0 ∈ dbs := by
 have := h.n1
 rw [List.getD_eq_getElem?_getD, List.getElem?_eq_getElem (by omega)]
 exact List.getElem_mem _
theorem PAt.frm {S : Nat -> Prop} (h : PAt w L p b nb rg Dv dbs s z fs) (f : Frm S w w') (hn : ∀ k, (k = p \/ k = b \/ k = rg \/ k = nb \/ k ∈ dbs \/ Dv.ownBlock = some k) -> ¬ S k) : PAt w' L p b nb rg Dv dbs s z fs := by
 have hp := hn p (.inl rfl)
 refine ⟨h.pr.on (f.block b h.up.2 (hn b (.inr (.inl rfl)))), h.ok, h.err, f.cell h.c0 hp, f.cell h.c1 hp, f.cell h.c2 hp, f.cell h.c3 hp, f.cell h.c4 hp, f.cell h.c5 hp, fun o => (World.frozen?_of_block (a := ⟨p, o, none⟩) (f.block p h.up.1 hp)).trans (h.fz o),
  f.owns h.rows (fun k e => hn k (.inr (.inr (.inr (.inr (.inr e)))))), fun i hi => f.pixs (h.dn i hi) (hn _ (.inr (.inr (.inr (.inr (.inl (h.db_mem hi))))))), f.pixs h.nw (hn _ (.inr (.inr (.inr (.inl rfl))))), f.bools h.read (hn _ (.inr (.inr (.inl rfl)))), h.n1, h.n2, h.zz, h.ne, h.nd, h.px, h.lo, Nat.lt_of_lt_of_le h.up.1 f.size, Nat.lt_of_lt_of_le h.up.2 f.size⟩
theorem PAt.below (h : PAt w L p b nb rg Dv dbs s z fs) (f : Below w.heap.size w w') : PAt w' L p b nb rg Dv dbs s z fs :=
 h.frm (Frm.of_below (S := fun _ => False) f) (fun _ _ e => e)
theorem PAt.reader (h : PAt w L p b nb rg Dv dbs s z fs) {r : RS} (hr : PR w' b s r) (hok : Rdr.Ok s r) (he : r.err = 0) (f : Frm (oneS b) w w') : PAt w' L p b nb rg Dv dbs s z { fs with r := r } := by
 obtain ⟨⟨n1, n2, n3, n4⟩, ⟨n5, n6, n7⟩, ⟨n8, n9⟩, n10, n11⟩ := h.nes
 have hS : ∀ k, k ≠ b -> ¬ oneS b k := fun k h1 e => h1 e
 have hp := hS p n1
 refine ⟨hr, hok, he, f.cell h.c0 hp, f.cell h.c1 hp, f.cell h.c2 hp, f.cell h.c3 hp, f.cell h.c4 hp, f.cell h.c5 hp, fun o => (World.frozen?_of_block (a := ⟨p, o, none⟩) (f.block p h.up.1 hp)).trans (h.fz o),
  f.owns h.rows (fun k e => hS k (h.nd k e).2.1), fun i hi => f.pixs (h.dn i hi) (hS _ (fun e => n7 (e ▸ h.db_mem hi))), f.pixs h.nw (hS _ (Ne.symm n6)), f.bools h.read (hS _ (Ne.symm n5)), h.n1, h.n2, h.zz, h.ne, h.nd, h.px, h.lo, Nat.lt_of_lt_of_le h.up.1 f.size, Nat.lt_of_lt_of_le h.up.2 f.size⟩
theorem PAt.put (h : PAt w L p b nb rg Dv dbs s z fs) {k : Nat} (hk : k < z * z) {q : Px} (hq : Flm.okPx q) : PAt (((w.setCell ⟨nb, k * 3, none⟩ (.int .u8 q.1)).setCell ⟨nb, k * 3 + 1, none⟩ (.int .u8 q.2.1)).setCell ⟨nb, k * 3 + 2, none⟩ (.int .u8 q.2.2)) L p b nb rg Dv dbs s z (Flm.put fs k q) := by
 obtain ⟨⟨n1, n2, n3, n4⟩, ⟨n5, n6, n7⟩, ⟨n8, n9⟩, n10, n11⟩ := h.nes
 have hnow : Flm.now fs < fs.frs.length := by have := h.n2; unfold Flm.now; omega
 have f : Frm (fun k => k = nb) w (((w.setCell ⟨nb, k * 3, none⟩ (.int .u8 q.1)).setCell ⟨nb, k * 3 + 1, none⟩ (.int .u8 q.2.1)).setCell ⟨nb, k * 3 + 2, none⟩ (.int .u8 q.2.2)) :=
  Frm.setCell (p := ⟨nb, k * 3 + 2, none⟩) (Frm.setCell (p := ⟨nb, k * 3 + 1, none⟩) (Frm.setCell (p := ⟨nb, k * 3, none⟩) (Frm.refl (fun k => k = nb) w) (.inl rfl) _) (.inl rfl) _) (.inl rfl) _
 have hl : (Flm.put fs k q).frs.length = fs.frs.length := Flm.put_len fs k q
 have hnw : Flm.now (Flm.put fs k q) = Flm.now fs := by unfold Flm.now; rw [hl]
 refine ⟨h.pr.on (f.block b h.up.2 n6), h.ok, h.err, f.cell h.c0 n3, f.cell h.c1 n3, f.cell h.c2 n3, f.cell h.c3 n3, f.cell h.c4 n3, f.cell h.c5 n3, fun o => (World.frozen?_of_block (a := ⟨p, o, none⟩) (f.block p h.up.1 n3)).trans (h.fz o),
  ?_, ?_, ?_, f.bools h.read n8, h.n1.trans hnw.symm, by rw [hl]; exact h.n2, h.zz, h.ne, h.nd, ?_, h.lo, Nat.lt_of_lt_of_le h.up.1 f.size, Nat.lt_of_lt_of_le h.up.2 f.size⟩
 ·rw [hnw]; exact f.owns h.rows (fun k e => (h.nd k e).2.2.2.1)
 ·intro i hi
  rw [hnw] at hi
  have e1 : (Flm.put fs k q).frs.getD i [] = fs.frs.getD i [] := by
   unfold Flm.put
   simp only [List.getD_eq_getElem?_getD, List.getElem?_set]
   rw [if_neg (by omega)]
  rw [e1]
  exact f.pixs (h.dn i hi) (fun e => n10 (e ▸ h.db_mem hi))
 ·have e1 : (Flm.put fs k q).frs.getD (Flm.now fs) [] = (fs.frs.getD (Flm.now fs) []).set k q := by
   unfold Flm.put
   simp [List.getD_eq_getElem?_getD, hnow]
  rw [hnw, e1]
  exact h.nw.store k hk q
 ·intro i j
  rcases Flm.px_put fs k q i j with e | e <;> rw [e]
  ·exact h.px i j
  ·exact hq
theorem PAt.see (h : PAt w L p b nb rg Dv dbs s z fs) (k : Nat) : PAt (w.setCell ⟨rg, k, none⟩ (.bool true)) L p b nb rg Dv dbs s z { fs with rd := fs.rd.set k true } := by
 obtain ⟨⟨n1, n2, n3, n4⟩, ⟨n5, n6, n7⟩, ⟨n8, n9⟩, n10, n11⟩ := h.nes
 have f : Frm (fun k => k = rg) w (w.setCell ⟨rg, k, none⟩ (.bool true)) := Frm.setCell (p := ⟨rg, k, none⟩) (Frm.refl (fun k => k = rg) w) (.inl rfl) _
 exact ⟨h.pr.on (f.block b h.up.2 n5), h.ok, h.err, f.cell h.c0 n2, f.cell h.c1 n2, f.cell h.c2 n2, f.cell h.c3 n2, f.cell h.c4 n2, f.cell h.c5 n2, fun o => (World.frozen?_of_block (a := ⟨p, o, none⟩) (f.block p h.up.1 n2)).trans (h.fz o),
  f.owns h.rows (fun k e => (h.nd k e).2.2.1), fun i hi => f.pixs (h.dn i hi) (fun e => n9 (e ▸ h.db_mem hi)), f.pixs h.nw (fun e => n8 e.symm), h.read.store k true, h.n1, h.n2, h.zz, h.ne, h.nd, h.px, h.lo, Nat.lt_of_lt_of_le h.up.1 f.size, Nat.lt_of_lt_of_le h.up.2 f.size⟩
theorem pSetP (h : PAt w L p b nb rg Dv dbs s z fs) (x y : Nat) (q : Px) (hx : x < z) (hy : y < z) (hq : Flm.okPx q) :
  Calls Tryz.prog 166 #[.agg #[.int .i64 z, .slice (some ⟨nb, 0, none⟩) (z * z) (z * z)], .int .i64 x, .int .i64 y, .agg #[.int .u8 q.1, .int .u8 q.2.1, .int .u8 q.2.2]] w fun e w' => e = .returned (.tuple #[]) /\ PAt w' L p b nb rg Dv dbs s z (Flm.put fs (y * z + x) q) /\ Frm (fun k => k = nb) w w' := by
 have hk := spot_lt hx hy
 obtain ⟨k0, k1, k2⟩ := h.nw.cell (y * z + x) hk
 have fr := h.nw.frozen
 refine (pSet_raw w nb (z * z) z x y q.1 q.2.1 q.2.2 _ _ _ _ rfl hk h.zzle k0 k1 k2 (fr _) (fr _) (fr _)).mono ?_
 rintro e w' ⟨rfl, rfl⟩
 have h1 := h.below (((Below.refl _ w).alloc (Nat.le_refl _) (.cells #[.int .i64 z, .slice (some ⟨nb, 0, none⟩) (z * z) (z * z)] 89)).alloc (by simp) (.cells #[.int .u8 q.1, .int .u8 q.2.1, .int .u8 q.2.2] 50))
 refine ⟨rfl, h1.put hk hq, ?_⟩
 exact Frm.setCell (p := ⟨nb, _, none⟩) (Frm.setCell (p := ⟨nb, _, none⟩) (Frm.setCell (p := ⟨nb, _, none⟩) (((Frm.refl (fun k => k = nb) w).alloc _).alloc _) (.inl rfl) _) (.inl rfl) _) (.inl rfl) _
end Go.Proofs.YtekfbphnoibnjaaGreatDoor
