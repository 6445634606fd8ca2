/-
  The program's Squeeze: its refusals, and the bytes that it packs.
-/
import Derived.Test.YtekfbphnoibnjaaGreatDoorLEnd
namespace Go.Proofs.YtekfbphnoibnjaaGreatDoor
open Go.RowKit

/-- Bits as the plain packer takes them. -/
def plain (bs : List (Int × Int)) : List (Nat × Int) := bs.map fun b => (b.1.toNat, b.2)
theorem plain_snoc (bs : List (Int × Int)) (k : Nat) (h : k < bs.length) : plain (bs.take (k + 1)) = plain (bs.take k) ++ [((bs.getD k (0, 0)).1.toNat, (bs.getD k (0, 0)).2)] := by
  unfold plain
  rw [List.take_succ_eq_append_getElem h, List.map_append]
  simp [List.getD_eq_getElem?_getD, h]
theorem plain_ok {bs : List (Int × Int)} (h : ∀ i, i < bs.length → bitOk (bs.getD i (0, 0))) : Pack.BitsOk (plain bs) := by
  intro p hp
  unfold plain at hp
  obtain ⟨b, hb, rfl⟩ := List.mem_map.1 hp
  obtain ⟨i, hi, rfl⟩ := List.getElem_of_mem hb
  have := h i hi
  rw [List.getD_eq_getElem?_getD, List.getElem?_eq_getElem hi] at this
  obtain ⟨⟨h1, h2⟩, h3, h4⟩ := this
  simp only [Option.getD_some] at h1 h2 h3 h4
  refine ⟨by show bs[i].1.toNat < 400; omega, by show bs[i].2 = 0 ∨ bs[i].2 = 1; omega⟩
theorem take_ok {bs : List (Int × Int)} (h : Pack.BitsOk (plain bs)) (k : Nat) : Pack.BitsOk (plain (bs.take k)) := by
  intro p hp
  refine h p ?_
  unfold plain at hp ⊢
  obtain ⟨b, hb, rfl⟩ := List.mem_map.1 hp
  exact List.mem_map.2 ⟨b, List.mem_of_mem_take hb, rfl⟩

set_option maxHeartbeats 400000 in
theorem pIsContext (w : World) (k : Int) : Calls Tryz.prog 99 #[.int .i64 k] w fun e w' => e = .returned (.bool (decide (0 ≤ k) && decide (k < 400))) ∧ w' = w := by
  by_cases h0 : 0 ≤ k
  · by_cases h1 : k < 400
    · have e : (decide (0 ≤ k) && decide (k < 400)) = true := by simp [h0, h1]
      rw [e]
      go_enter Tryz.func99, Tryz.ntmps99
      go_wp2
      go_ret
      exact ⟨rfl, rfl⟩
    · have e : (decide (0 ≤ k) && decide (k < 400)) = false := by simp [h1]
      rw [e]
      go_enter Tryz.func99, Tryz.ntmps99
      go_wp2
      go_ret
      exact ⟨rfl, rfl⟩
  · have e : (decide (0 ≤ k) && decide (k < 400)) = false := by simp [h0]
    rw [e]
    go_enter Tryz.func99, Tryz.ntmps99
    go_wp2
    go_ret
    exact ⟨rfl, rfl⟩

/-- The bytes that Squeeze answers. -/
def sqS (bs : List (Int × Int)) : ByteArray := if sqE bs = 0 then endStr (Pack.fin (plain bs)) else ByteArray.mk #[]

set_option maxHeartbeats 2000000 in
set_option maxRecDepth 20000 in
theorem pSqueeze (w : World) (a : Option Addr) (len cap : Nat) (bs : List (Int × Int)) (hz : BitsIn w a len bs) (hl : len ≤ maxLen) :
    Calls Tryz.prog 59 #[.slice a len cap] w fun x w' => x = .returned (.tuple #[.string (sqS bs), .int .i64 (sqE bs)]) ∧ Below w.heap.size w w' := by
  have hlen := hz.1
  unfold maxLen at hl
  by_cases h1 : 4000 < len
  · have h1' : (4000 : Int) < (len : Int) := by omega
    have e1 : sqE bs = 1 := by unfold sqE; rw [if_pos (by omega)]
    have HE : Hid (sqE bs = 1) := e1
    clear e1
    go_enter Tryz.func59, Tryz.ntmps59
    go_wp2
    go_ret2
    exact ⟨by unfold sqS; rw [HE.out]; rfl, Below.refl _ _⟩
  · have h1' : ¬ (4000 : Int) < (len : Int) := by omega
    have HZ : Hid (BitsIn w a len bs) := hz
    clear hz
    go_enter Tryz.func59, Tryz.ntmps59
    go_wp2
    go_loopw [14] (fun i wr => ∃ k : Nat, k ≤ len ∧ i = .int .i64 k ∧ (∀ j, j < k → bitOk (bs.getD j (0, 0))) ∧ Below w.heap.size w wr) (fun i _ => len - (intOf i).toNat)
    case atStart => exact ⟨0, by omega, rfl, by omega, Below.refl _ _⟩
    case round =>
      obtain ⟨k, hk, rfl, hj, hbr⟩ := hrel
      have HJ : Hid (∀ j, j < k → bitOk (bs.getD j (0, 0))) := hj
      clear hj
      by_cases hlt : k < len
      · have hlt' : (k : Int) < (len : Int) := by omega
        obtain ⟨b, off, rfl, hb, hc⟩ : ∃ b off, a = some ⟨b, off, none⟩ ∧ b < w.heap.size ∧ ∀ i, i < len → w.cell? ⟨b, off + i * 2, none⟩ = some (.int .i64 (bs.getD i (0, 0)).1) ∧ w.cell? ⟨b, off + i * 2 + 1, none⟩ = some (.int .i64 (bs.getD i (0, 0)).2) := by
          rcases HZ.out.2 with h2 | h2
          · omega
          · exact h2
        obtain ⟨x, y, hxy⟩ : ∃ x y, bs.getD k (0, 0) = (x, y) := ⟨_, _, rfl⟩
        have d1 := (hbr.cell (p := ⟨b, off + k * 2, none⟩) hb).trans (hc k hlt).1
        have d2 := (hbr.cell (p := ⟨b, off + k * 2 + 1, none⟩) hb).trans (hc k hlt).2
        rw [hxy] at d1 d2
        have HXY : Hid (bs.getD k (0, 0) = (x, y)) := hxy
        clear hc hxy
        have hbr2 : Below w.heap.size w (wr.alloc (.cells #[.int .i64 x, .int .i64 y] 69)) := hbr.alloc hbr.size _
        have HBR : Hid (Below w.heap.size w (wr.alloc (.cells #[.int .i64 x, .int .i64 y] 69))) := hbr2
        have bad : Hid (¬ bitOk (x, y) → sqE bs = 7) := fun hn => by
          unfold sqE
          rw [if_neg (by omega), if_neg (fun h => hn (by rw [← HXY.out]; exact (all_iff bs).1 h k (by omega)))]
        clear hbr2
        by_cases c1 : 0 ≤ x ∧ x < 400
        · have hcx : (decide (0 ≤ x) && decide (x < 400)) = true := by simp [c1.1, c1.2]
          by_cases c3 : y = 0
          · subst c3
            go_wp2_with (go_at_call 99; refine (pIsContext _ x).mono ?_; rintro e w' ⟨rfl, rfl⟩; rw [hcx])
            go_roundw
            case rel =>
              refine ⟨k + 1, by omega, by go_num, fun j hj => ?_, HBR.out⟩
              rcases Nat.lt_succ_iff_lt_or_eq.1 hj with hj | rfl
              · exact HJ.out j hj
              · rw [HXY.out]; unfold bitOk; dsimp only; omega
            case measure => simp [intOf]; omega
          · by_cases c4 : y = 1
            · subst c4
              go_wp2_with (go_at_call 99; refine (pIsContext _ x).mono ?_; rintro e w' ⟨rfl, rfl⟩; rw [hcx])
              go_roundw
              case rel =>
                refine ⟨k + 1, by omega, by go_num, fun j hj => ?_, HBR.out⟩
                rcases Nat.lt_succ_iff_lt_or_eq.1 hj with hj | rfl
                · exact HJ.out j hj
                · rw [HXY.out]; unfold bitOk; dsimp only; omega
              case measure => simp [intOf]; omega
            · have y0 : (y != 0) = true := by simpa using c3
              have y1 : (y != 1) = true := by simpa using c4
              have e7 : Hid (sqE bs = 7) := bad.out (fun h => by unfold bitOk at h; dsimp only at h; omega)
              go_wp2_with (go_at_call 99; refine (pIsContext _ x).mono ?_; rintro e w' ⟨rfl, rfl⟩; rw [hcx])
              go_ret2
              exact ⟨by unfold sqS; rw [e7.out]; rfl, HBR.out⟩
        · have hcx : (decide (0 ≤ x) && decide (x < 400)) = false := by
            rcases Int.lt_or_le x 0 with h | h
            · simp [show ¬ 0 ≤ x by omega]
            · simp [show ¬ x < 400 by omega]
          have e7 : Hid (sqE bs = 7) := bad.out (fun h => by unfold bitOk at h; dsimp only at h; omega)
          go_wp2_with (go_at_call 99; refine (pIsContext _ x).mono ?_; rintro e w' ⟨rfl, rfl⟩; rw [hcx])
          go_ret2
          exact ⟨by unfold sqS; rw [e7.out]; rfl, HBR.out⟩
      · have hlt' : ¬ (k : Int) < (len : Int) := by omega
        obtain rfl : k = len := by omega
        have hall : ∀ i, i < bs.length → bitOk (bs.getD i (0, 0)) := fun i hi => HJ.out i (by omega)
        have e0 : Hid (sqE bs = 0) := by unfold Hid sqE; rw [if_neg (by omega), if_pos ((all_iff bs).2 hall)]
        have hpl := plain_ok hall
        obtain ⟨W0, rfl⟩ : ∃ W0, W0 = wr := ⟨_, rfl⟩
        have hsz := hbr.size
        go_wp2_with (go_at_call 81; refine (pNewWriter _).mono ?_; rintro e w1 ⟨b1, rfl, hb1, hp1, hbw1⟩)
        go_loopw [36] (fun i wr => ∃ j : Nat, ∃ v : Value, j ≤ k ∧ i = .int .i64 j ∧ PW wr W0.heap.size b1 v (Pack.fin (plain (bs.take j))) ∧ vLo W0.heap.size v ∧ Below W0.heap.size W0 wr) (fun i _ => k - (intOf i).toNat)
        case atStart => exact ⟨0, _, by omega, rfl, hp1, fun j hj => by simp [Value.ownBlock] at hj, hbw1⟩
        case round =>
          clear hp1 hbw1
          obtain ⟨j, v, hjk, rfl, hp, hvl, hbr2⟩ := hrel
          have okj : Pack.Ok (Pack.fin (plain (bs.take j))) := Pack.puts_ok _ _ Pack.init_ok (fun p hp => (take_ok hpl j p hp).1)
          have hmj : (Pack.fin (plain (bs.take j))).m ≤ 100000 := by
            have h1 := Pack.puts_m (plain (bs.take j)) Pack.init
            have h2 : (plain (bs.take j)).length ≤ 4000 := by unfold plain; rw [List.length_map, List.length_take]; omega
            have h3 : (Pack.init).m = 0 := rfl
            show (Pack.puts Pack.init (plain (bs.take j))).m ≤ 100000
            omega
          by_cases hltj : j < k
          · have hltj' : (j : Int) < (k : Int) := by omega
            obtain ⟨b, off, rfl, hb, hc⟩ : ∃ b off, a = some ⟨b, off, none⟩ ∧ b < w.heap.size ∧ ∀ i, i < k → w.cell? ⟨b, off + i * 2, none⟩ = some (.int .i64 (bs.getD i (0, 0)).1) ∧ w.cell? ⟨b, off + i * 2 + 1, none⟩ = some (.int .i64 (bs.getD i (0, 0)).2) := by
              rcases HZ.out.2 with h2 | h2
              · omega
              · exact h2
            obtain ⟨x, y, hxy⟩ : ∃ x y, bs.getD j (0, 0) = (x, y) := ⟨_, _, rfl⟩
            have hok := hall j (by omega)
            rw [hxy] at hok
            obtain ⟨⟨x0, x1⟩, y0, y1⟩ := hok
            obtain ⟨n, rfl⟩ : ∃ n : Nat, x = (n : Int) := ⟨x.toNat, by omega⟩
            have hn4 : n < 400 := by omega
            have d1 := ((hbr2.cell (p := ⟨b, off + j * 2, none⟩) (show b < W0.heap.size by omega)).trans (hbr.cell (p := ⟨b, off + j * 2, none⟩) hb)).trans (hc j hltj).1
            have d2 := ((hbr2.cell (p := ⟨b, off + j * 2 + 1, none⟩) (show b < W0.heap.size by omega)).trans (hbr.cell (p := ⟨b, off + j * 2 + 1, none⟩) hb)).trans (hc j hltj).2
            rw [hxy] at d1 d2
            have HS : Hid (Pack.fin (plain (bs.take (j + 1))) = Pack.put (Pack.fin (plain (bs.take j))) n y) := by
              unfold Hid Pack.fin
              rw [plain_snoc bs j (by omega), Pack.puts_snoc, hxy]
              rfl
            have HALL : Hid (∀ i, i < bs.length → bitOk (bs.getD i (0, 0))) := hall
            obtain ⟨T, hT⟩ : ∃ T, T = Pack.fin (plain (bs.take j)) := ⟨_, rfl⟩
            rw [← hT] at hp okj hmj HS
            clear hc hxy hall hT
            have hpa : PW (wr.alloc (.cells #[.int .i64 (n : Int), .int .i64 y] 69)) W0.heap.size b1 v T := by
              have hbk := Below.heap_alloc wr (.cells #[.int .i64 (n : Int), .int .i64 y] 69) b1 hp.up
              have hcc : ∀ o, (wr.alloc (.cells #[.int .i64 (n : Int), .int .i64 y] 69)).cell? ⟨b1, o, none⟩ = wr.cell? ⟨b1, o, none⟩ := fun o => World.cell?_of_block (a := ⟨b1, o, none⟩) hbk
              exact ⟨(hcc 401).trans hp.c0, by have := hp.own; unfold Octs at this ⊢; exact this.alloc _, hp.ne, (hcc 402).trans hp.c1, (hcc 0).trans hp.c2, fun o ho => (World.frozen?_of_block (a := ⟨b1, o, none⟩) hbk).trans (hp.fz o ho), hp.ch.on hbk, by simp; have := hp.up; omega⟩
            have hsz2 := hbr2.size
            go_wp2_with (go_at_call 82; refine (pPut _ W0.heap.size b1 v T n y hpa okj hmj hn4 (by omega) hb1 (by simp; omega) hvl).mono ?_; rintro e w3 ⟨rfl, v', hp3, hvl3, hb3⟩)
            go_roundw
            case rel => exact ⟨j + 1, v', by omega, by go_num, by rw [HS.out]; exact hp3, hvl3, (hbr2.alloc hbr2.size _).trans hb3⟩
            case measure => simp [intOf]; omega
          · have hltj' : ¬ (j : Int) < (k : Int) := by omega
            obtain rfl : j = k := by omega
            rw [List.take_of_length_le (by omega)] at hp hmj
            have hs2 := hbr2.size
            go_wp2_with (go_at_call 83; refine (pLEnd _ W0.heap.size b1 v _ hp hmj).mono ?_; rintro e w3 ⟨rfl, hb3⟩)
            go_ret2
            refine ⟨by unfold sqS; rw [e0.out]; rfl, hbr.trans ?_⟩
            exact ((hbr2.trans (hb3.mono hs2))).mono hsz

end Go.Proofs.YtekfbphnoibnjaaGreatDoor
