/-
  Lists of bits as they lie in memory; their contexts; whether the document refuses them.
-/
import Derived.Test.YtekfbphnoibnjaaGreatDoorRefStr
namespace Go.Proofs.YtekfbphnoibnjaaGreatDoor
open Go.RowKit

set_option maxHeartbeats 1000000 in
theorem refSqueezes (w : World) (a : Option Addr) (len cap : Nat) (bs : List (Int × Int)) (hz : BitsIn w a len bs) (hl : len ≤ maxLen) :
    Calls Tryz.prog 61 #[.slice a len cap] w fun x w' => x = .returned (.int .i64 (sqE bs)) ∧ Below w.heap.size w w' := by
  have hlen := hz.1
  unfold maxLen at hl
  by_cases h1 : 4000 < len
  · have h1' : (4000 : Int) < (len : Int) := by omega
    go_enter Tryz.func61, Tryz.ntmps61
    go_wp2
    go_ret
    exact ⟨by unfold sqE; rw [if_pos (by omega)]; rfl, Below.refl _ _⟩
  · have h1' : ¬ (4000 : Int) < (len : Int) := by omega
    have HZ : Hid (BitsIn w a len bs) := hz
    clear hz
    go_enter Tryz.func61, Tryz.ntmps61
    go_wp2
    go_loopw [3] (fun i wr => ∃ k : Nat, k ≤ len ∧ i = .int .i64 k ∧ (∀ j, j < k → bitOk (bs.getD j (0, 0))) ∧ Below w.heap.size w wr) (fun i _ => len - (intOf i).toNat)
    case atStart => exact ⟨0, by omega, rfl, by omega, Below.refl _ _⟩
    case round =>
      obtain ⟨k, hk, rfl, hj, hbr⟩ := hrel
      have HJ : Hid (∀ j, j < k → bitOk (bs.getD j (0, 0))) := hj
      clear hj
      by_cases hlt : k < len
      · have hlt' : (k : Int) < (len : Int) := by omega
        obtain ⟨b, off, rfl, hb, hc⟩ : ∃ b off, a = some ⟨b, off, none⟩ ∧ b < w.heap.size ∧ ∀ i, i < len → w.cell? ⟨b, off + i * 2, none⟩ = some (.int .i64 (bs.getD i (0, 0)).1) ∧ w.cell? ⟨b, off + i * 2 + 1, none⟩ = some (.int .i64 (bs.getD i (0, 0)).2) := by
          rcases HZ.out.2 with h2 | h2
          · omega
          · exact h2
        obtain ⟨x, y, hxy⟩ : ∃ x y, bs.getD k (0, 0) = (x, y) := ⟨_, _, rfl⟩
        have d1 := (hbr.cell (p := ⟨b, off + k * 2, none⟩) hb).trans (hc k hlt).1
        have d2 := (hbr.cell (p := ⟨b, off + k * 2 + 1, none⟩) hb).trans (hc k hlt).2
        rw [hxy] at d1 d2
        have HXY : Hid (bs.getD k (0, 0) = (x, y)) := hxy
        clear hc hxy
        have hbr2 : Below w.heap.size w (wr.alloc (.cells #[.int .i64 x, .int .i64 y] 69)) := hbr.alloc hbr.size _
        have HBR : Hid (Below w.heap.size w (wr.alloc (.cells #[.int .i64 x, .int .i64 y] 69))) := hbr2
        have bad : Hid (¬ bitOk (x, y) → bs.all bitOkB ≠ true) := fun hn h => hn (by rw [← HXY.out]; exact (all_iff bs).1 h k (by omega))
        clear hbr2
        by_cases c1 : x < 0
        · go_wp2
          go_ret
          exact ⟨by unfold sqE; rw [if_neg (by omega), if_neg (bad.out (fun h => by unfold bitOk at h; omega))]; rfl, HBR.out⟩
        · by_cases c2 : 400 ≤ x
          · go_wp2
            go_ret
            exact ⟨by unfold sqE; rw [if_neg (by omega), if_neg (bad.out (fun h => by unfold bitOk at h; omega))]; rfl, HBR.out⟩
          · by_cases c3 : y < 0
            · go_wp2
              go_ret
              exact ⟨by unfold sqE; rw [if_neg (by omega), if_neg (bad.out (fun h => by unfold bitOk at h; omega))]; rfl, HBR.out⟩
            · by_cases c4 : 1 < y
              · go_wp2
                go_ret
                exact ⟨by unfold sqE; rw [if_neg (by omega), if_neg (bad.out (fun h => by unfold bitOk at h; omega))]; rfl, HBR.out⟩
              · go_wp2
                go_roundw
                case rel =>
                  refine ⟨k + 1, by omega, by go_num, fun j hj => ?_, HBR.out⟩
                  rcases Nat.lt_succ_iff_lt_or_eq.1 hj with hj | rfl
                  · exact HJ.out j hj
                  · rw [HXY.out]; unfold bitOk; dsimp only; omega
                case measure => simp [intOf]; omega
      · have hlt' : ¬ (k : Int) < (len : Int) := by omega
        go_wp2
        go_ret
        refine ⟨?_, hbr⟩
        have : bs.all bitOkB = true := (all_iff bs).2 (fun i hi => HJ.out i (by omega))
        unfold sqE
        rw [if_neg (by omega), if_pos this]
        rfl

set_option maxHeartbeats 1000000 in
set_option maxRecDepth 20000 in
theorem contexts_any (w : World) (a : Option Addr) (len cap : Nat) (bs : List (Int × Int)) (hz : BitsIn w a len bs) (hl : len ≤ 1000000000) :
    Calls Tryz.prog 62 #[.slice a len cap] w fun x w' => ∃ v, x = .returned v ∧ w'.ownsRow w.heap.size 3 1 v len (ints (ctxOf bs)) ∧ Below w.heap.size w w' := by
  have hlen := hz.1
  obtain ⟨i0, hi, hz0, hz1, hz2⟩ := info_parts infoI64
  have HZ : Hid (BitsIn w a len bs) := hz
  clear hz
  go_enter Tryz.func62, Tryz.ntmps62
  go_wp2
  go_loopw [3, 4] (fun v i wr => ∃ k : Nat, k ≤ len ∧ i = .int .i64 k ∧ wr.ownsRow w.heap.size 3 1 v k (ints (ctxOf (bs.take k))) ∧ Below w.heap.size w wr) (fun _ i _ => len - (intOf i).toNat)
  case atStart => exact ⟨0, by omega, rfl, World.ownsRow_nil _ _ _ _, Below.refl _ _⟩
  case round =>
    obtain ⟨k, hk, rfl, hown, hbr⟩ := hrel
    by_cases hlt : k < len
    · have hlt' : (k : Int) < (len : Int) := by omega
      obtain ⟨b, off, rfl, hb, hc⟩ : ∃ b off, a = some ⟨b, off, none⟩ ∧ b < w.heap.size ∧ ∀ i, i < len → w.cell? ⟨b, off + i * 2, none⟩ = some (.int .i64 (bs.getD i (0, 0)).1) ∧ w.cell? ⟨b, off + i * 2 + 1, none⟩ = some (.int .i64 (bs.getD i (0, 0)).2) := by
        rcases HZ.out.2 with h2 | h2
        · omega
        · exact h2
      have d1 := (hbr.cell (p := ⟨b, off + k * 2, none⟩) hb).trans (hc k hlt).1
      have HS := ctxOf_snoc bs k (by omega)
      obtain ⟨x, hx⟩ : ∃ x, x = (bs.getD k (0, 0)).1 := ⟨_, rfl⟩
      rw [← hx] at d1 HS
      have HS2 : Hid (ctxOf (bs.take (k + 1)) = ctxOf (bs.take k) ++ [x]) := HS
      have hsz := hbr.size
      clear hc hx HS
      obtain ⟨q, hq⟩ : ∃ q, q = ctxOf (bs.take k) := ⟨_, rfl⟩
      rw [← hq] at hown HS2
      clear hq
      go_wp2_with (at_builtin; refine wpList_append_own _ rfl (.tmp 11) (.tmp 17) 52 rfl w.heap.size 3 i0 (.int .i64 0) 1 8 Tryz.underlying52 hi hz0 hz1 hz2 rfl (by decide) _ k (ints q) rfl ?c0 ⟨wr.heap.size, 0, none⟩ 1 1 [.int .i64 x] rfl rfl ?c1 ?c2 ?c3 ?c4 ?c5 ?_)
      case c0 => exact hown.alloc _
      case c1 => exact cell_new1 _ _ _
      case c2 => exact oneCell_int _
      case c3 => unfold maxLen; omega
      case c4 => omega
      case c5 => simp; omega
      · intro v' w3 hown' hgrow _
        have hb3 : Below w.heap.size w w3 := (hbr.alloc hsz _).grown hgrow (by simp; omega) (fun j e => (World.ownsRow.lt hown j e).1)
        rw [ints_snoc] at hown'
        clear hown hgrow
        go_wp2
        go_roundw
        case rel => exact ⟨k + 1, by omega, by go_num, by rw [HS2.out]; exact hown', hb3⟩
        case measure => simp [intOf]; omega
    · obtain rfl : k = len := by omega
      have hlt' : ¬ (k : Int) < (k : Int) := by omega
      rw [List.take_of_length_le (by omega)] at hown
      go_wp2
      go_ret
      exact ⟨_, rfl, hown, hbr⟩

end Go.Proofs.YtekfbphnoibnjaaGreatDoor
