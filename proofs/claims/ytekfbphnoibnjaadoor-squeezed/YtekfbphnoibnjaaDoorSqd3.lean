/-
  The law Squeezed, walked: it answers true.
-/
import Derived.Test.YtekfbphnoibnjaaDoorSqd2
import Derived.Test.YtekfbphnoibnjaaDoorSqd
import Derived.Deep.CutBlock
import Derived.Deep.DeepCutAuto
namespace Go.Proofs.YtekfbphnoibnjaaDoor
open Go.RowKit

theorem bitOk_app {bs : List (Int × Int)} {b : Int × Int} (h : ∀ i, i < bs.length → bitOk (bs.getD i (0, 0))) (hb : bitOk b) : ∀ i, i < (bs ++ [b]).length → bitOk ((bs ++ [b]).getD i (0, 0)) := by
  intro i hi
  rw [List.getD_eq_getElem?_getD]
  rcases Nat.lt_or_ge i bs.length with hl | hl
  · rw [List.getElem?_append_left hl, ← List.getD_eq_getElem?_getD]; exact h i hl
  · have : i = bs.length := by simp at hi; omega
    subst this
    simpa using hb
theorem rawBits_ok (zs : List Int) (k : Nat) : ∀ i, i < (rawBits zs k).length → bitOk ((rawBits zs k).getD i (0, 0)) := by
  intro i hi
  unfold rawBits at hi ⊢
  rw [List.getD_eq_getElem?_getD, List.getElem?_eq_getElem hi]
  simp only [List.getElem_map, Option.getD_some]
  exact rawBit_ok _

/-- The bits that the law packs. -/
structure LawBits (w wr : World) (bs : List (Int × Int)) (v : Value) : Prop where
  own : wr.ownsRow w.heap.size 27 2 v bs.length (bitCells bs)
  len : bs.length ≤ 4000
  ok : ∀ i, i < bs.length → bitOk (bs.getD i (0, 0))
  bel : Below w.heap.size w wr

theorem eqlNil (w : World) : Sem.run Tryd.prog (binOp BinOp.eql 22 (Value.slice none 0 0) (Value.slice none 0 0)) w = .ok (.bool true) w := by kernel_rfl

/-- What stands behind the first packing: the bits, their bytes. -/
structure Sqd (w wc : World) (bs : List (Int × Int)) (n : Nat) (av : Option Addr) (S : ByteArray) (a0 a1 a2 : Addr) : Prop where
  len : n = bs.length
  n4 : n ≤ 4000
  ok : ∀ i, i < bs.length → bitOk (bs.getD i (0, 0))
  inn : BitsIn wc av n bs
  err : Errs wc a0 a1 a2
  bel : Below w.heap.size w wc
  str : S = endStr (Pack.fin (plain bs))
theorem Sqd.below {w wc wd : World} {bs : List (Int × Int)} {n : Nat} {av : Option Addr} {S : ByteArray} {a0 a1 a2 : Addr} (h : Sqd w wc bs n av S a0 a1 a2) (f : Below wc.heap.size wc wd) : Sqd w wd bs n av S a0 a1 a2 :=
  ⟨h.len, h.n4, h.ok, h.inn.below f, h.err.below f, h.bel.trans (f.mono h.bel.size), h.str⟩

set_option maxHeartbeats 2000000 in
set_option maxRecDepth 20000 in
theorem squeezed_any (w : World) (a : Option Addr) (len cap : Nat) (zs : List Int) (one many : Int) (hz : IntsIn w a len zs) (hl : len ≤ maxLen) (hr : ∀ i, i < len → -9223372036854775808 ≤ zs.getD i 0 ∧ zs.getD i 0 ≤ 9223372036854775807)
    (o0 : -9223372036854775808 ≤ one) (o1 : one ≤ 9223372036854775807) (m0 : -9223372036854775808 ≤ many) (m1 : many ≤ 9223372036854775807) (a0 a1 a2 : Addr) (E : Errs w a0 a1 a2) :
    Calls Tryd.prog 3 #[.slice a len cap, .int .i64 one, .int .i64 many] w fun e w' => e = .returned (.bool true) ∧ Below w.heap.size w w' := by
  obtain ⟨i0, hi, hz0, hz1, hz2⟩ := info_parts infoBit
  obtain ⟨k0, ki, kz0, kz1, kz2⟩ := info_parts infoI64
  have HE : Hid (Errs w a0 a1 a2) := E
  have HR : Hid (∀ i, i < len → -9223372036854775808 ≤ zs.getD i 0 ∧ zs.getD i 0 ≤ 9223372036854775807) := hr
  have HZ : Hid (IntsIn w a len zs) := hz
  have hzl := hz.1
  obtain ⟨p1, hp1⟩ : ∃ p, p = pk one 800 := ⟨_, rfl⟩
  obtain ⟨p2, hp2⟩ : ∃ p, p = pk many 1000 := ⟨_, rfl⟩
  have pb1 := pk_bd one 800 (by decide)
  have pb2 := pk_bd many 1000 (by decide)
  rw [← hp1] at pb1
  rw [← hp2] at pb2
  have HP1 : Hid (p1 = pk one 800) := hp1
  have HP2 : Hid (p2 = pk many 1000) := hp2
  clear hz hr E hp1 hp2
  go_enter Tryd.func3, Tryd.ntmps3
  go_upto_block 0 with (first
    | (go_at_call 5; refine (pKeepBits _ a len cap zs HZ.out hl HR.out).mono ?_; rintro e w1 ⟨v0, n0, rfl, hn0, hn4, hown0, hb0⟩)
    | (go_at_call 6; refine (pPick _ one 800 o0 o1 (by decide) (by decide)).mono ?_; rintro e w2 ⟨rfl, hw⟩; rw [hw, ← HP1.out]; clear hw))
  have hrl : (rawBits zs n0).length = n0 := rawBits_len zs n0 (by omega)
  have hL0 : LawBits w w1 (rawBits zs n0) v0 := ⟨by rw [hrl]; exact hown0, by omega, rawBits_ok zs n0, hb0⟩
  clear hown0 hb0 hrl
  go_cut [7] (fun l wc => ∃ bs : List (Int × Int), LawBits w wc bs l)
  case first =>
    go_wp2_with fail
    go_loopw [7, 9] (fun l i wr => ∃ bs : List (Int × Int), ∃ k : Nat, k ≤ 1000 ∧ i = .int .i64 k ∧ LawBits w wr bs l) (fun _ i _ => 1000 - (intOf i).toNat)
    case atStart => exact ⟨_, 0, by omega, rfl, hL0⟩
    case round =>
      clear hL0
      obtain ⟨bs, k, hk, rfl, hL⟩ := hrel
      obtain ⟨av, cv, rfl, hbin⟩ := BitsIn.of_own hL.own
      have HL : Hid (LawBits w wr bs (.slice av bs.length cv)) := hL
      obtain ⟨hown, hbl, hbok, hbel⟩ := hL
      have hsz := hbel.size
      have HBOK : Hid (∀ i, i < bs.length → bitOk (bs.getD i (0, 0))) := hbok
      clear hbok hbin
      obtain ⟨n, hn⟩ : ∃ n, n = bs.length := ⟨_, rfl⟩
      rw [← hn] at hown hbl HL ⊢
      have HN : Hid (n = bs.length) := hn
      clear hn
      by_cases hlt : (k : Int) < p2 ∧ n < 4000
      · obtain ⟨hlt1, hlt2⟩ := hlt
        have hlt2' : (n : Int) < 4000 := by omega
        go_wp2_with (first
          | (go_at_call 6; refine (pPick _ many 1000 m0 m1 (by decide) (by decide)).mono ?_; rintro e w2 ⟨rfl, hw⟩; rw [hw, ← HP2.out]; clear hw)
          | (at_builtin; refine wpList_append_own _ rfl (.tmp 36) (.tmp 42) 23 rfl w.heap.size 27 i0 (.agg #[.int .i64 0, .int .i64 0]) 2 16 Tryd.underlying23 hi hz0 hz1 hz2 rfl (by decide) _ n (bitCells bs) rfl ?c0 ⟨wr.heap.size, 0, none⟩ 1 1 [.int .i64 (p1 / 2), .int .i64 (p1 % 2)] rfl rfl ?c1 ?c2 ?c3 ?c4 ?c5 ?_))
        case c0 => exact hown.alloc _
        case c1 => exact cell_new2 _ _ _ _
        case c2 => exact oneCell_two _ _
        case c3 => unfold maxLen; omega
        case c4 => omega
        case c5 => simp; omega
        · intro v' w3 hown' hgrow _
          have hb3 : Below w.heap.size w w3 := (hbel.alloc hsz _).grown hgrow (by simp; omega) (fun j e => (World.ownsRow.lt hown j e).1)
          have hL3 : Hid (LawBits w w3 (bs ++ [(p1 / 2, p1 % 2)]) v') := by
            refine ⟨?_, by simp; have := HN.out; omega, bitOk_app HBOK.out (by unfold bitOk; dsimp only; omega), hb3⟩
            rw [bitCells_app, List.length_append, ← HN.out]
            exact hown'
          clear hown hgrow hown'
          go_wp2
          go_roundw
          case rel => exact ⟨_, k + 1, by omega, by go_num, hL3.out⟩
          case measure => simp [intOf]; omega
      · rcases (by omega : (¬ (k : Int) < p2) ∨ ((k : Int) < p2 ∧ ¬ (n : Int) < 4000)) with hc1 | ⟨hc1, hc2⟩
        all_goals
          go_wp2_with (go_at_call 6; refine (pPick _ many 1000 m0 m1 (by decide) (by decide)).mono ?_; rintro e w2 ⟨rfl, hw⟩; rw [hw, ← HP2.out]; clear hw)
          go_meet
          exact ⟨bs, HL.out⟩
  case rest =>
    clear hL0 hn0 hn4
    obtain ⟨bs, hL⟩ := hcut
    obtain ⟨av, cv, rfl, hbin⟩ := BitsIn.of_own hL.own
    have hsq0 : Hid (sqE bs = 0) := by
      have := hL.len
      unfold Hid sqE
      rw [if_neg (by omega), if_pos ((all_iff bs).2 hL.ok)]
    obtain ⟨S, hS⟩ : ∃ S, S = endStr (Pack.fin (plain bs)) := ⟨_, rfl⟩
    have hss : Hid (sqS bs = S) := by unfold Hid sqS; rw [hsq0.out, if_pos rfl, hS]
    obtain ⟨sz0, sz1⟩ := sq_size hS
    have HQ : Hid (Sqd w wc bs bs.length av S a0 a1 a2) := ⟨rfl, hL.len, hL.ok, hbin, HE.out.below hL.bel, hL.bel, hS⟩
    have hbl := hL.len
    clear hL hbin hS
    obtain ⟨n, hn⟩ : ∃ n, n = bs.length := ⟨_, rfl⟩
    rw [← hn] at hbl sz1 HQ ⊢
    clear hn
    obtain ⟨W1, rfl⟩ : ∃ W1, W1 = wc := ⟨_, rfl⟩
    go_upto_block 2 with (go_at_call 7; refine (pSqueeze _ av n cv bs HQ.out.inn (by unfold maxLen; omega)).mono ?_; rintro e w2 ⟨rfl, hb2⟩; rw [hss.out, hsq0.out])
    have HQ2 : Hid (Sqd w w2 bs n av S a0 a1 a2) := HQ.out.below hb2
    clear HQ hb2
    go_cut [12] (fun c wd => ∃ ac cc, c = .slice ac n cc ∧ IntsIn wd ac n (ctxOf bs) ∧ Below w2.heap.size w2 wd)
    case first =>
      go_wp2_with fail
      go_loopw [12, 13] (fun c i wr => ∃ j : Nat, j ≤ n ∧ i = .int .i64 j ∧ wr.ownsRow w2.heap.size 3 1 c j (ints (ctxOf (bs.take j))) ∧ Below w2.heap.size w2 wr) (fun _ i _ => n - (intOf i).toNat)
      case atStart => exact ⟨0, by omega, rfl, World.ownsRow_nil _ _ _ _, Below.refl _ _⟩
      case round =>
        obtain ⟨j, hj, rfl, hown, hbr⟩ := hrel
        have hsz2 := hbr.size
        by_cases hjn : j < n
        · have hjn' : (j : Int) < (n : Int) := by omega
          obtain ⟨b, off, rfl, hb, hc⟩ : ∃ b off, av = some ⟨b, off, none⟩ ∧ b < wr.heap.size ∧ ∀ i, i < n → wr.cell? ⟨b, off + i * 2, none⟩ = some (.int .i64 (bs.getD i (0, 0)).1) ∧ wr.cell? ⟨b, off + i * 2 + 1, none⟩ = some (.int .i64 (bs.getD i (0, 0)).2) := by
            rcases (HQ2.out.inn.below hbr).2 with h2 | h2
            · omega
            · exact h2
          have d1 := (hc j hjn).1
          have HS := ctxOf_snoc bs j (by have := HQ2.out.len; omega)
          obtain ⟨x, hx⟩ : ∃ x, x = (bs.getD j (0, 0)).1 := ⟨_, rfl⟩
          rw [← hx] at d1 HS
          have HS2 : Hid (ctxOf (bs.take (j + 1)) = ctxOf (bs.take j) ++ [x]) := HS
          clear hc hx HS
          obtain ⟨q, hq⟩ : ∃ q, q = ctxOf (bs.take j) := ⟨_, rfl⟩
          rw [← hq] at hown HS2
          clear hq
          go_wp2_with (at_builtin; refine wpList_append_own _ rfl (.tmp 62) (.tmp 68) 22 rfl w2.heap.size 3 k0 (.int .i64 0) 1 8 Tryd.underlying22 ki kz0 kz1 kz2 rfl (by decide) _ j (ints q) rfl ?d0 ⟨wr.heap.size, 0, none⟩ 1 1 [.int .i64 x] rfl rfl ?d1 ?d2 ?d3 ?d4 ?d5 ?_)
          case d0 => exact hown.alloc _
          case d1 => exact cell_new1 _ _ _
          case d2 => exact oneCell_int _
          case d3 => unfold maxLen; omega
          case d4 => omega
          case d5 => simp; omega
          · intro v' w3 hown' hgrow _
            have hb3 : Below w2.heap.size w2 w3 := (hbr.alloc hsz2 _).grown hgrow (by simp; omega) (fun j e => (World.ownsRow.lt hown j e).1)
            rw [ints_snoc] at hown'
            clear hown hgrow
            go_wp2
            go_roundw
            case rel => exact ⟨j + 1, by omega, by go_num, by rw [HS2.out]; exact hown', hb3⟩
            case measure => simp [intOf]; omega
        · obtain rfl : j = n := by omega
          have hjn' : ¬ (j : Int) < (j : Int) := by omega
          rw [List.take_of_length_le (by have := HQ2.out.len; omega)] at hown
          have HO : Hid (∃ ac cc, u12 = .slice ac j cc ∧ IntsIn wr ac j (ctxOf bs)) := by
            have hcl : (ctxOf bs).length = j := by rw [ctxOf_len]; exact HQ2.out.len.symm
            rw [← hcl] at hown
            have := IntsIn.of_own hown
            rw [hcl] at this
            exact this
          clear hown
          go_wp2_with fail
          go_meet
          obtain ⟨ac, cc, e, hin⟩ := HO.out
          exact ⟨ac, cc, e, hin, hbr⟩
    case rest =>
      obtain ⟨ac, cc, rfl, hcin, hb3⟩ := hcut
      obtain ⟨W3, rfl⟩ : ∃ W3, W3 = wc := ⟨_, rfl⟩
      have HCIN : Hid (IntsIn W3 ac n (ctxOf bs)) := hcin
      have HQ3 : Hid (Sqd w W3 bs n av S a0 a1 a2) := HQ2.out.below hb3
      clear hcin hb3 HQ2
      obtain ⟨b1, b2⟩ := sq_back HQ3.out.ok (by have := HQ3.out.len; omega) HQ3.out.str
      have HB1 : Hid (strE S (ctxOf bs) = 0) := b1
      have HB2 : Hid (strL S (ctxOf bs) = bs.map (·.2)) := b2
      have HML : Hid ((bs.map (·.2)).length = n) := by have := HQ3.out.len; unfold Hid; simp; omega
      clear b1 b2
      go_upto_block 4 with (go_at_call 8; refine (pStretch _ S ac n cc (ctxOf bs) HCIN.out (by unfold maxLen; omega) a0 a1 a2 HQ3.out.err).mono ?_; rintro e w4 ⟨vk, rfl, hk1, hk2, hk3, hb4⟩; rw [HB1.out]; rw [HB2.out] at hk1; obtain ⟨ak, ck, rfl, hkin⟩ := IntsIn.of_own hk1; rw [HML.out] at hkin ⊢; clear hk1 hk2 hk3)
      have HQ4 : Hid (Sqd w w4 bs n av S a0 a1 a2) := HQ3.out.below hb4
      have HC4 : Hid (IntsIn w4 ac n (ctxOf bs)) := HCIN.out.below hb4
      have HK4 : Hid (IntsIn w4 ak n (bs.map (·.2))) := hkin
      clear HQ3 HCIN hkin hb4
      go_cut [] (fun wd => Below w4.heap.size w4 wd)
      case first =>
        go_wp2_with fail
        go_loopw [16] (fun i wr => ∃ j : Nat, j ≤ n ∧ i = .int .i64 j ∧ Below w4.heap.size w4 wr) (fun i _ => n - (intOf i).toNat)
        case atStart => exact ⟨0, by omega, rfl, Below.refl _ _⟩
        case round =>
          obtain ⟨j, hj, rfl, hbr⟩ := hrel
          by_cases hjn : j < n
          · have hjn' : (j : Int) < (n : Int) := by omega
            obtain ⟨b, off, rfl, hb, hc⟩ : ∃ b off, av = some ⟨b, off, none⟩ ∧ b < wr.heap.size ∧ ∀ i, i < n → wr.cell? ⟨b, off + i * 2, none⟩ = some (.int .i64 (bs.getD i (0, 0)).1) ∧ wr.cell? ⟨b, off + i * 2 + 1, none⟩ = some (.int .i64 (bs.getD i (0, 0)).2) := by
              rcases (HQ4.out.inn.below hbr).2 with h2 | h2
              · omega
              · exact h2
            obtain ⟨bk, offk, rfl, hbk, hck⟩ : ∃ b off, ak = some ⟨b, off, none⟩ ∧ b < wr.heap.size ∧ ∀ i, i < n → wr.cell? ⟨b, off + i, none⟩ = some (.int .i64 ((bs.map (·.2)).getD i 0)) := by
              rcases (HK4.out.below hbr).2 with h2 | h2
              · omega
              · exact h2
            have d1 := (hc j hjn).2
            have d2 := hck j hjn
            have he : (bs.map (·.2)).getD j 0 = (bs.getD j (0, 0)).2 := by
              have := HQ4.out.len
              rw [List.getD_eq_getElem?_getD, List.getElem?_map, List.getD_eq_getElem?_getD, List.getElem?_eq_getElem (show j < bs.length by omega)]
              rfl
            rw [he] at d2
            obtain ⟨y, hy⟩ : ∃ y, y = (bs.getD j (0, 0)).2 := ⟨_, rfl⟩
            rw [← hy] at d1 d2
            clear hc hck he hy
            go_wp2
            go_quiet (fail)
            go_wp2
            go_roundw
            case rel => exact ⟨j + 1, by omega, by go_num, below_drewN hbr _⟩
            case measure => simp [intOf]; omega
          · have hjn' : ¬ (j : Int) < (n : Int) := by omega
            go_wp2_with fail
            go_meet
            exact hbr
      case rest =>
        obtain ⟨W5, rfl⟩ : ∃ W5, W5 = wc := ⟨_, rfl⟩
        have HQ5 : Hid (Sqd w W5 bs n av S a0 a1 a2) := HQ4.out.below hcut
        have HC5 : Hid (IntsIn W5 ac n (ctxOf bs)) := HC4.out.below hcut
        have hSz : (S.size : Int) ≤ 9223372036854775807 := by omega
        obtain ⟨xt, xs⟩ := ext_take S (S.size - 1) (by omega)
        obtain ⟨yt, ys⟩ := ext_app S (ByteArray.mk #[120])
        have L5 : Hid (strE (S.extract 0 (S.size - 1)) (ctxOf bs) = 5) := sq_less HQ5.out.ok (by have := HQ5.out.len; omega) HQ5.out.str xt (by omega)
        have L6 : Hid (strE (S ++ ByteArray.mk #[120]) (ctxOf bs) = 6) := sq_more HQ5.out.ok (by have := HQ5.out.len; omega) HQ5.out.str yt (by rw [ys]; show S.size < S.size + 1; omega)
        have HXS : Hid ((S.extract 0 (S.size - 1)).size = S.size - 1) := xs
        have HYS : Hid ((S ++ ByteArray.mk #[120]).size = S.size + 1) := ys
        have T1 : Hid True := trivial
        have hnil := eqlNil
        clear HQ4 HC4 HK4 hcut xt xs yt ys
        go_wp2_with (first
          | (clear T1; go_at_call 8; refine (pStretch _ (S.extract 0 (S.size - 1)) ac n cc (ctxOf bs) HC5.out (by rw [HXS.out]; unfold maxLen; omega) a0 a1 a2 HQ5.out.err).mono ?_; rintro e w6 ⟨vx, rfl, hx1, hx2, hx3, hb6⟩; have hvx := hx2 (by rw [L5.out]; decide); rw [L5.out, hvx]; clear hx1 hx2 hx3)
          | (go_at_call 8; refine (pStretch _ (S ++ ByteArray.mk #[120]) ac n cc (ctxOf bs) (HC5.out.below hb6) (by rw [HYS.out]; unfold maxLen; omega) a0 a1 a2 (HQ5.out.err.below hb6)).mono ?_; rintro e w7 ⟨vy, rfl, hy1, hy2, hy3, hb7⟩; have hvy := hy2 (by rw [L6.out]; decide); rw [L6.out, hvy]; clear hy1 hy2 hy3))
        go_ret
        have hfin : decide ((S.size : Int) ≤ 5 + (n : Int)) = true := by simp; omega
        refine ⟨by show Ending.returned (.bool (decide ((S.size : Int) ≤ 5 + (n : Int)))) = _; rw [hfin], (HQ5.out.bel.trans (hb6.mono HQ5.out.bel.size)).trans (hb7.mono ?_)⟩
        have h1 := HQ5.out.bel.size
        have h2 := hb6.size
        omega

end Go.Proofs.YtekfbphnoibnjaaDoor
