/-
  The program's Stretch: what it answers is the plain reader's.
-/
import Derived.Test.YtekfbphnoibnjaaGreatDoorErrno
import Derived.Test.YtekfbphnoibnjaaGreatDoorLSq
namespace Go.Proofs.YtekfbphnoibnjaaGreatDoor
open Go.RowKit

theorem all_zero (s : ByteArray) (ch zs : List Int) : Rdr.all s ch zs 0 = ([], Rdr.start s ch) := by unfold Rdr.all Rdr.ctxs; simp [Rdr.bits]
theorem all_stay (s : ByteArray) (ch zs : List Int) (k : Nat) (h : (Rdr.all s ch zs k).2.err ≠ 0) : ∀ m, k + m ≤ zs.length → (Rdr.all s ch zs (k + m)).2 = (Rdr.all s ch zs k).2
  | 0, _ => rfl
  | m + 1, hm => by
    have ih := all_stay s ch zs k h m (by omega)
    rw [show k + (m + 1) = (k + m) + 1 by omega, Rdr.all_succ s ch zs (k + m) (by omega)]
    show Rdr.bitS s (Rdr.all s ch zs (k + m)).2 _ = _
    rw [ih]
    unfold Rdr.bitS
    rw [if_neg h]
theorem stE_stay (s : ByteArray) (zs : List Int) (k : Nat) (e : Int) (h : (Rdr.all s ch0 zs k).2.err = e) (he : e ≠ 0) (hk : k ≤ zs.length) : Rdr.stE s ch0 zs = e := by
  have := all_stay s ch0 zs k (by rw [h]; exact he) (zs.length - k) (by omega)
  rw [show k + (zs.length - k) = zs.length by omega] at this
  unfold Rdr.stE
  rw [this]
  unfold Rdr.finish
  rw [if_neg (fun hh => he (h.symm.trans hh.1)), h]
theorem bit_err (s : ByteArray) (r : RS) (k : Nat) (he : r.err = 0) : (Rdr.bitS s r k).err = 0 ∨ (Rdr.bitS s r k).err = 5 := by
  rw [bitS_err he]
  have h0 : (if r.code < Rdr.cut r k then Rdr.zero r k else Rdr.one r k).err = 0 := by split <;> exact he
  obtain ⟨q, hq⟩ : ∃ q, q = (if r.code < Rdr.cut r k then Rdr.zero r k else Rdr.one r k) := ⟨_, rfl⟩
  rw [← hq] at h0 ⊢
  unfold Rdr.norm
  by_cases hl : q.rng < 16777216
  · rw [if_pos hl]
    by_cases hp : q.pos < s.size
    · exact .inl (pull_ok h0 hp)
    · exact .inr (pull_err h0 hp)
  · rw [if_neg hl]
    exact .inl h0
theorem start_err (s : ByteArray) (ch : List Int) : (Rdr.start s ch).err = 0 ∨ (Rdr.start s ch).err = 5 ∨ (Rdr.start s ch).err = 7 := by
  have h4 : ∀ n, (Rdr.four s (Rdr.r0 ch) n).err = 0 ∨ (Rdr.four s (Rdr.r0 ch) n).err = 5 := by
    intro n
    induction n with
    | zero => exact .inl rfl
    | succ n ih =>
      rw [Rdr.four_succ]
      show (Rdr.octS s (Rdr.four s (Rdr.r0 ch) n)).err = 0 ∨ (Rdr.octS s (Rdr.four s (Rdr.r0 ch) n)).err = 5
      unfold Rdr.octS
      split
      · exact ih
      · show (if (Rdr.four s (Rdr.r0 ch) n).err = 0 then (5 : Int) else (Rdr.four s (Rdr.r0 ch) n).err) = 0 ∨ (if (Rdr.four s (Rdr.r0 ch) n).err = 0 then (5 : Int) else (Rdr.four s (Rdr.r0 ch) n).err) = 5
        rcases ih with ih | ih <;> rw [ih]
        · exact .inr rfl
        · exact .inr rfl
  rw [Rdr.start_eq]
  by_cases h : (Rdr.four s (Rdr.r0 ch) 4).err = 0 ∧ 4294967295 ≤ (Rdr.four s (Rdr.r0 ch) 4).code
  · rw [if_pos h]
    refine .inr (.inr ?_)
    unfold Rdr.fail
    show (if (Rdr.four s (Rdr.r0 ch) 4).err = 0 then (7 : Int) else (Rdr.four s (Rdr.r0 ch) 4).err) = 7
    rw [if_pos h.1]
  · rw [if_neg h]
    rcases h4 4 with h4 | h4
    · exact .inl h4
    · exact .inr (.inl h4)
theorem all_err (s : ByteArray) (zs : List Int) : ∀ k, k ≤ zs.length → (Rdr.all s ch0 zs k).2.err = 0 ∨ (Rdr.all s ch0 zs k).2.err = 5 ∨ (Rdr.all s ch0 zs k).2.err = 7
  | 0, _ => by rw [all_zero]; exact start_err s ch0
  | k + 1, hk => by
    rcases all_err s zs k (by omega) with h | h
    · rw [Rdr.all_succ s ch0 zs k (by omega)]
      rcases bit_err s (Rdr.all s ch0 zs k).2 (zs.getD k 0).toNat h with h | h
      · exact .inl h
      · exact .inr (.inl h)
    · have hne : (Rdr.all s ch0 zs k).2.err ≠ 0 := by rcases h with h | h <;> rw [h] <;> decide
      rw [all_stay s ch0 zs k hne 1 hk]
      exact .inr h
theorem stE_cases (s : ByteArray) (zs : List Int) : Rdr.stE s ch0 zs = 0 ∨ Rdr.stE s ch0 zs = 5 ∨ Rdr.stE s ch0 zs = 6 ∨ Rdr.stE s ch0 zs = 7 := by
  unfold Rdr.stE Rdr.finish
  split
  · exact .inr (.inr (.inl rfl))
  · rcases all_err s zs zs.length (Nat.le_refl _) with h | h | h
    · exact .inl h
    · exact .inr (.inl h)
    · exact .inr (.inr (.inr h))

/-- The values read so far, and zeros behind them. -/
def valsN (l : List Int) (n : Nat) : List Int := l ++ List.replicate (n - l.length) 0
theorem valsN_nil (n : Nat) : valsN [] n = List.replicate n 0 := by simp [valsN]
theorem valsN_full (l : List Int) (n : Nat) (h : n = l.length) : valsN l n = l := by simp [valsN, h]
theorem valsN_set (l : List Int) (n : Nat) (v : Int) (h : l.length < n) : (valsN l n).set l.length v = valsN (l ++ [v]) n := by
  unfold valsN
  rw [List.set_append_right _ _ (Nat.le_refl _), Nat.sub_self, show n - l.length = (n - (l ++ [v]).length) + 1 by simp; omega, List.replicate_succ, List.set_cons_zero]
  simp

set_option maxHeartbeats 4000000 in
set_option maxRecDepth 20000 in
theorem pReadBits (w : World) (s : ByteArray) (a : Option Addr) (len cap : Nat) (zs : List Int) (hz : IntsIn w a len zs) (hl : len ≤ 4000) (hn : Rdr.CtxOk zs) (hs : s.size ≤ maxLen) (a0 a1 a2 : Addr) (E : Errs w a0 a1 a2) :
    Calls Tryz.prog 103 #[.string s, .slice a len cap] w fun x w' => ∃ v, x = .returned (.tuple #[v, errV a0 a1 a2 (Rdr.stE s ch0 zs)]) ∧ (Rdr.stE s ch0 zs = 0 → ∃ g, v = .slice (some ⟨g, 0, none⟩) len len ∧ Nums w' w.heap.size g len (Rdr.all s ch0 zs len).1) ∧ Below w.heap.size w w' := by
  have hlen := hz.1
  obtain ⟨i0, hi, hz0, hz1, hz2⟩ := info_parts infoI64
  have HZ : Hid (IntsIn w a len zs) := hz
  have HE : Hid (Errs w a0 a1 a2) := E
  clear hz E
  rcases start_err s ch0 with hst | hst
  · have HST : Hid ((Rdr.start s ch0).err = 0) := hst
    clear hst
    go_enter Tryz.func103, Tryz.ntmps103
    go_wp2_with (first
      | (go_at_call 45; refine (pNewReader _ s hs a0 a1 a2 HE.out).mono ?_; rintro e w1 ⟨p, rfl, hp, hb1⟩; rw [HST.out]; obtain ⟨rb, rfl, hrlo, hrup, hpr⟩ := hp HST.out; clear hp; rw [errV0])
      | (at_make; refine wpList_make_full _ rfl _ _ 52 rfl w1.heap.size 3 i0 (.int .i64 0) 1 Tryz.underlying52 hi hz0 hz1 _ _ _ _ len rfl rfl rfl rfl (by rw [hz2]; omega) (by unfold maxLen; omega) (Nat.le_refl _) ?_))
    intro w2 hown hgrow
    have hnum : Nums w2 w1.heap.size w1.heap.size len (valsN [] len) := by
      rw [made_ints len] at hown
      rw [valsN_nil]
      exact hown
    have hpr2 : PR w2 rb s (Rdr.start s ch0) := hpr.on (hgrow.block rb hrup (by simp))
    have hb2 : Below w.heap.size w w2 := hb1.grown hgrow hb1.size (fun _ h => by cases h)
    obtain ⟨G, hG⟩ : ∃ G, G = w1.heap.size := ⟨_, rfl⟩
    rw [← hG] at hnum hrup ⊢
    have hGlo : w.heap.size ≤ G := by rw [hG]; exact hb1.size
    have hne : rb ≠ G := by omega
    clear hG hown hgrow hpr hb1
    go_wp2
    go_loopw [24] (fun i wr => ∃ k : Nat, k ≤ len ∧ i = .int .i64 k ∧ PR wr rb s (Rdr.all s ch0 zs k).2 ∧ (Rdr.all s ch0 zs k).2.err = 0 ∧ Nums wr G G len (valsN (Rdr.all s ch0 zs k).1 len) ∧ Below w.heap.size w wr ∧ rb < wr.heap.size) (fun i _ => len - (intOf i).toNat)
    case atStart => exact ⟨0, by omega, rfl, by rw [all_zero]; exact hpr2, by rw [all_zero]; exact HST.out, by rw [all_zero]; exact hnum, hb2, by have := hnum.lt; omega⟩
    case round =>
      clear hpr2 hnum hb2
      obtain ⟨k, hk, rfl, hr, he0, hnr, hbr, hrbu⟩ := hrel
      have hkl : (Rdr.all s ch0 zs k).1.length = k := Rdr.all_len s ch0 zs k (by omega)
      have hok := Rdr.all_ok (s := s) ch0_ok hn k
      by_cases hlt : k < len
      · have hltn : (k : Int) < (len : Int) := by omega
        obtain ⟨b, off, rfl, hb, hc⟩ : ∃ b off, a = some ⟨b, off, none⟩ ∧ b < w.heap.size ∧ ∀ i, i < len → w.cell? ⟨b, off + i, none⟩ = some (.int .i64 (zs.getD i 0)) := by
          rcases HZ.out.2 with h2 | h2
          · omega
          · exact h2
        obtain ⟨n, hnk⟩ : ∃ n : Nat, zs.getD k 0 = (n : Int) := ⟨(zs.getD k 0).toNat, by have := (hn k (by omega)).1; omega⟩
        have hn4 : n < 400 := by have := (hn k (by omega)).2; omega
        have hck := (hbr.cell (p := ⟨b, off + k, none⟩) hb).trans (hc k hlt)
        rw [hnk] at hck
        have HS : Hid (Rdr.all s ch0 zs (k + 1) = ((Rdr.all s ch0 zs k).1 ++ [Rdr.bitV (Rdr.all s ch0 zs k).2 n], Rdr.bitS s (Rdr.all s ch0 zs k).2 n)) := by
          rw [Rdr.all_succ s ch0 zs k (by omega), hnk]; rfl
        have HST5 : Hid ((Rdr.all s ch0 zs (k + 1)).2.err = 5 → Rdr.stE s ch0 zs = 5) := fun h => stE_stay s zs (k + 1) 5 h (by decide) (by omega)
        obtain ⟨q, hq⟩ : ∃ q, q = Rdr.all s ch0 zs k := ⟨_, rfl⟩
        rw [← hq] at hr he0 hnr hok hkl HS
        have hv0 := (HE.out.below hbr).v0
        have hbe := bit_err s q.2 n he0
        have HE0 : Hid (q.2.err = 0) := he0
        have hng : rb ≠ 1 := by have h0 : 1 < w.heap.size := World.block_lt_of_cell? w _ HE.out.v0; omega
        have hset : ∀ (wx : World) (u : Int), Frm (oneS rb) wr wx → Hid (Nums (wx.setCell ⟨G, k, none⟩ (.int .i64 u)) G G len ((valsN q.1 len).set k u)) := fun wx u hf => (hf.nums hnr (fun e => hne e.symm)).store k u
        have hvs : ∀ u : Int, Hid ((valsN q.1 len).set k u = valsN (q.1 ++ [u]) len) := fun u => by
          have := valsN_set q.1 len u (by omega)
          rw [hkl] at this
          exact this
        have HNR : Hid (Nums wr G G len (valsN q.1 len)) := hnr
        clear hq hc hnk he0 hnr
        rcases hbe with hb0 | hb5
        · have HB0 : Hid ((Rdr.bitS s q.2 n).err = 0) := hb0
          clear hb0
          go_wp2_with (go_at_call 129; refine (pBit _ rb s q.2 n a0 a1 a2 hr hok HE0.out hs hn4 hng hv0).mono ?_; rintro x w3 ⟨rfl, hp3, hf3⟩; rw [HB0.out, if_pos rfl, errV0]; have hn3 := hf3.nums HNR.out (fun e => hne e.symm); have hc3 := hn3.cell k hlt; have hz3 := hn3.frozen k; have hp3' := hp3 HB0.out; clear hn3 hp3)
          have hlt3 : k < len := hlt
          go_roundw
          case rel =>
            refine ⟨k + 1, by omega, by go_num, ?_, ?_, ?_, ?_, ?_⟩
            · rw [HS.out]; exact hp3'.on (Below.heap_setCell w3 ⟨G, k, none⟩ _ rb hne)
            · rw [HS.out]; exact HB0.out
            · rw [HS.out]; have := (hset w3 (Rdr.bitV q.2 n) hf3).out; rw [(hvs _).out] at this; exact this
            · exact (hbr.trans (hf3.below hbr.size (fun j hj => by rw [show j = rb from hj]; exact hrlo))).setCell hGlo _
            · rw [World.size_setCell]; exact Nat.lt_of_lt_of_le hrbu hf3.size
          case measure => simp [intOf]; omega
        · have HB5 : Hid ((Rdr.bitS s q.2 n).err = 5) := hb5
          have e5 : Hid (Rdr.stE s ch0 zs = 5) := HST5.out (by rw [HS.out]; exact hb5)
          clear hb5
          go_wp2_with (go_at_call 129; refine (pBit _ rb s q.2 n a0 a1 a2 hr hok HE0.out hs hn4 hng hv0).mono ?_; rintro x w3 ⟨rfl, hp3, hf3⟩; rw [HB5.out, if_neg (by decide), errV5]; have hn3 := hf3.nums HNR.out (fun e => hne e.symm); have hc3 := hn3.cell k hlt; have hz3 := hn3.frozen k; clear hn3 hp3)
          go_ret2
          exact ⟨_, by rw [e5.out, errV5]; rfl, fun h => absurd (e5.out.symm.trans h) (by decide), (hbr.trans (hf3.below hbr.size (fun j hj => by rw [show j = rb from hj]; exact hrlo))).setCell hGlo _⟩
      · obtain rfl : k = len := by omega
        have hltn : ¬ (k : Int) < (k : Int) := by omega
        have HEE : Hid (Rdr.stE s ch0 zs = (Rdr.finish s (Rdr.all s ch0 zs k).2).err) := by unfold Hid Rdr.stE; rw [hlen]
        rw [valsN_full _ _ hkl.symm] at hnr
        have hv1 := (HE.out.below hbr).v1
        go_wp2_with (go_at_call 47; refine (pEnd _ rb s _ a0 a1 a2 hr he0 hv1).mono ?_; rintro x w3 ⟨rfl, rfl⟩)
        go_ret2
        refine ⟨_, by rw [HEE.out]; rfl, fun _ => ⟨G, rfl, owns_base hnr hGlo⟩, hbr⟩
  · have hE : Hid (Rdr.stE s ch0 zs = (Rdr.start s ch0).err) := by
      have h0 : (Rdr.all s ch0 zs 0).2.err = (Rdr.start s ch0).err := by rw [all_zero]
      exact stE_stay s zs 0 _ h0 (by rcases hst with h | h <;> rw [h] <;> decide) (Nat.zero_le _)
    rcases hst with h5 | h7
    · have H5 : Hid ((Rdr.start s ch0).err = 5) := h5
      clear h5
      go_enter Tryz.func103, Tryz.ntmps103
      go_wp2_with (go_at_call 45; refine (pNewReader _ s hs a0 a1 a2 HE.out).mono ?_; rintro e w1 ⟨p, rfl, hp, hb1⟩; rw [H5.out, errV5])
      go_ret2
      exact ⟨_, by rw [hE.out, H5.out, errV5]; rfl, fun h => absurd (((hE.out.trans H5.out).symm).trans h) (by decide), hb1⟩
    · have H7 : Hid ((Rdr.start s ch0).err = 7) := h7
      clear h7
      go_enter Tryz.func103, Tryz.ntmps103
      go_wp2_with (go_at_call 45; refine (pNewReader _ s hs a0 a1 a2 HE.out).mono ?_; rintro e w1 ⟨p, rfl, hp, hb1⟩; rw [H7.out, errV7])
      go_ret2
      exact ⟨_, by rw [hE.out, H7.out, errV7]; rfl, fun h => absurd (((hE.out.trans H7.out).symm).trans h) (by decide), hb1⟩

set_option maxHeartbeats 1000000 in
theorem pStretch_long (w : World) (s : ByteArray) (a : Option Addr) (len cap : Nat) (h : 4000 < len) :
    Calls Tryz.prog 65 #[.string s, .slice a len cap] w fun x w' => x = .returned (.tuple #[.slice none 0 0, .int .i64 1]) ∧ w' = w := by
  have h' : (4000 : Int) < (len : Int) := by omega
  go_enter Tryz.func65, Tryz.ntmps65
  go_wp2
  go_ret2
  exact ⟨rfl, rfl⟩

set_option maxHeartbeats 1000000 in
theorem pStretch_code (w : World) (s : ByteArray) (a : Option Addr) (len cap : Nat) (zs : List Int) (hz : IntsIn w a len zs) (h : len ≤ 4000) (hn : ¬ Rdr.CtxOk zs) :
    Calls Tryz.prog 65 #[.string s, .slice a len cap] w fun x w' => x = .returned (.tuple #[.slice none 0 0, .int .i64 7]) ∧ w' = w := by
  have h' : ¬ (4000 : Int) < (len : Int) := by omega
  have hlen := hz.1
  go_enter Tryz.func65, Tryz.ntmps65
  go_wp2
  go_loop [15] (fun i => ∃ k : Nat, k ≤ len ∧ i = .int .i64 k ∧ ∀ j, j < k → 0 ≤ zs.getD j 0 ∧ zs.getD j 0 < 400) (fun i => len - (intOf i).toNat)
  case atStart => exact ⟨0, by omega, rfl, by omega⟩
  case round =>
    obtain ⟨k, hk, rfl, hj⟩ := hrel
    have HJ : Hid (∀ j, j < k → 0 ≤ zs.getD j 0 ∧ zs.getD j 0 < 400) := hj
    clear hj
    by_cases hlt : k < len
    · have hlt' : (k : Int) < (len : Int) := by omega
      obtain ⟨b, off, rfl, hb, hc⟩ : ∃ b off, a = some ⟨b, off, none⟩ ∧ b < w.heap.size ∧ ∀ i, i < len → w.cell? ⟨b, off + i, none⟩ = some (.int .i64 (zs.getD i 0)) := by
        rcases hz.2 with h2 | h2
        · omega
        · exact h2
      obtain ⟨z, hzk⟩ : ∃ z, z = zs.getD k 0 := ⟨_, rfl⟩
      have hck := hc k hlt
      rw [← hzk] at hck
      have HZ : Hid (z = zs.getD k 0) := hzk
      clear hc hzk
      by_cases h1 : 0 ≤ z ∧ z < 400
      · have hcx : (decide (0 ≤ z) && decide (z < 400)) = true := by simp [h1.1, h1.2]
        go_wp2_with (go_at_call 99; refine (pIsContext _ z).mono ?_; rintro e w' ⟨rfl, rfl⟩; rw [hcx])
        go_round
        case rel =>
          refine ⟨k + 1, by omega, by go_num, fun j hj => ?_⟩
          rcases Nat.lt_succ_iff_lt_or_eq.1 hj with hj | rfl
          · exact HJ.out j hj
          · rw [← HZ.out]; exact h1
        case measure => simp [intOf]; omega
      · have hcx : (decide (0 ≤ z) && decide (z < 400)) = false := by
          rcases Int.lt_or_le z 0 with h | h
          · simp [show ¬ 0 ≤ z by omega]
          · simp [show ¬ z < 400 by omega]
        go_wp2_with (go_at_call 99; refine (pIsContext _ z).mono ?_; rintro e w' ⟨rfl, rfl⟩; rw [hcx])
        go_ret2
        exact ⟨rfl, rfl⟩
    · exact absurd (fun i hi => HJ.out i (by omega)) hn

set_option maxHeartbeats 1000000 in
theorem pStretch_main (w : World) (s : ByteArray) (a : Option Addr) (len cap : Nat) (zs : List Int) (hz : IntsIn w a len zs) (h : len ≤ 4000) (hn : Rdr.CtxOk zs) (hs : s.size ≤ maxLen) (a0 a1 a2 : Addr) (E : Errs w a0 a1 a2) :
    Calls Tryz.prog 65 #[.string s, .slice a len cap] w fun x w' => ∃ v, x = .returned (.tuple #[v, .int .i64 (Rdr.stE s ch0 zs)]) ∧ (Rdr.stE s ch0 zs = 0 → ∃ g, v = .slice (some ⟨g, 0, none⟩) len len ∧ Nums w' w.heap.size g len (Rdr.all s ch0 zs len).1) ∧ (Rdr.stE s ch0 zs ≠ 0 → v = .slice none 0 0) ∧ Below w.heap.size w w' := by
  have h' : ¬ (4000 : Int) < (len : Int) := by omega
  have hlen := hz.1
  have HZ : Hid (IntsIn w a len zs) := hz
  have HE : Hid (Errs w a0 a1 a2) := E
  have hcs := stE_cases s zs
  clear hz E
  go_enter Tryz.func65, Tryz.ntmps65
  go_wp2
  go_loop [15] (fun i => ∃ k : Nat, k ≤ len ∧ i = .int .i64 k) (fun i => len - (intOf i).toNat)
  case atStart => exact ⟨0, by omega, rfl⟩
  case round =>
    obtain ⟨k, hk, rfl⟩ := hrel
    by_cases hlt : k < len
    · have hlt' : (k : Int) < (len : Int) := by omega
      obtain ⟨b, off, rfl, hb, hc⟩ : ∃ b off, a = some ⟨b, off, none⟩ ∧ b < w.heap.size ∧ ∀ i, i < len → w.cell? ⟨b, off + i, none⟩ = some (.int .i64 (zs.getD i 0)) := by
        rcases HZ.out.2 with h2 | h2
        · omega
        · exact h2
      obtain ⟨z, hzk⟩ : ∃ z, z = zs.getD k 0 := ⟨_, rfl⟩
      have hck := hc k hlt
      have hbd := hn k (by omega)
      rw [← hzk] at hck hbd
      clear hc hzk
      have hcx : (decide (0 ≤ z) && decide (z < 400)) = true := by simp [hbd.1, hbd.2]
      go_wp2_with (go_at_call 99; refine (pIsContext _ z).mono ?_; rintro e w' ⟨rfl, rfl⟩; rw [hcx])
      go_round
      case rel => exact ⟨k + 1, by omega, by go_num⟩
      case measure => simp [intOf]; omega
    · have hlt' : ¬ (k : Int) < (len : Int) := by omega
      by_cases he : Rdr.stE s ch0 zs = 0
      · have H0 : Hid (Rdr.stE s ch0 zs = 0) := he
        clear he
        go_wp2_with (go_at_call 103; refine (pReadBits _ s a len cap zs HZ.out h hn hs a0 a1 a2 HE.out).mono ?_; rintro x w1 ⟨v, rfl, hv, hb⟩; rw [H0.out, errV0])
        go_ret2
        exact ⟨v, by rw [H0.out]; rfl, hv, fun hne => absurd H0.out hne, hb⟩
      · have hcs' : Rdr.stE s ch0 zs = 5 ∨ Rdr.stE s ch0 zs = 6 ∨ Rdr.stE s ch0 zs = 7 := by
          rcases hcs with h | h
          · exact absurd h he
          · exact h
        obtain ⟨e, hee⟩ : ∃ e, e = Rdr.stE s ch0 zs := ⟨_, rfl⟩
        rw [← hee] at hcs' he
        have HEE : Hid (e = Rdr.stE s ch0 zs) := hee
        obtain ⟨p, hp⟩ : ∃ p, errV a0 a1 a2 e = .iface 278 (.pointer (some p)) := by unfold errV; rw [if_neg he]; exact ⟨_, rfl⟩
        have HP : Hid (errV a0 a1 a2 e = .iface 278 (.pointer (some p))) := hp
        have HNE : Hid (e ≠ 0) := he
        have HCS : Hid (e = 5 ∨ e = 6 ∨ e = 7) := hcs'
        clear hee hp he hcs hcs'
        go_wp2_with (first
          | (go_at_call 103; refine (pReadBits _ s a len cap zs HZ.out h hn hs a0 a1 a2 HE.out).mono ?_; rintro x w1 ⟨v, rfl, hv, hb⟩; rw [← HEE.out, HP.out])
          | (go_at_call 23; rw [← HP.out]; refine (pErrno _ a0 a1 a2 e (HE.out.below hb) HCS.out).mono ?_; rintro x w2 ⟨rfl, rfl⟩))
        go_ret2
        exact ⟨_, by rw [← HEE.out]; rfl, fun h => absurd (HEE.out.trans h) HNE.out, fun _ => rfl, hb⟩

/-- The program's Stretch answers what the plain reader does. -/
theorem pStretch (w : World) (s : ByteArray) (a : Option Addr) (len cap : Nat) (zs : List Int) (hz : IntsIn w a len zs) (hs : s.size ≤ maxLen) (a0 a1 a2 : Addr) (E : Errs w a0 a1 a2) :
    Calls Tryz.prog 65 #[.string s, .slice a len cap] w fun x w' => StrPost w s zs x w' := by
  have hlen := hz.1
  by_cases h1 : 4000 < len
  · refine (pStretch_long w s a len cap h1).mono ?_
    rintro x w' ⟨rfl, rfl⟩
    have e1 : strE s zs = 1 := by unfold strE; rw [if_pos (by omega)]
    have e2 : strL s zs = [] := by unfold strL; rw [e1]; rfl
    unfold StrPost
    rw [e2, e1]
    exact ⟨_, rfl, World.ownsRow_nil _ _ _ _, fun _ => rfl, fun _ => ⟨_, _, rfl⟩, Below.refl _ _⟩
  · by_cases h2 : Rdr.CtxOk zs
    · refine (pStretch_main w s a len cap zs hz (by omega) h2 hs a0 a1 a2 E).mono ?_
      rintro x w' ⟨v, rfl, h3, h4, h5⟩
      have e1 : strE s zs = Rdr.stE s ch0 zs := by unfold strE; rw [if_neg (by omega), if_pos ((ctxB_iff zs).2 h2)]
      by_cases he : Rdr.stE s ch0 zs = 0
      · obtain ⟨g, rfl, ho⟩ := h3 he
        have e2 : strL s zs = (Rdr.all s ch0 zs len).1 := by unfold strL; rw [e1, if_pos he, hlen]
        have e3 : (strL s zs).length = len := by rw [e2, Rdr.all_len _ _ _ _ (by omega)]
        exact ⟨_, by rw [e1], by rw [e3, e2]; exact ho, by rw [e1]; exact h4, fun h => ⟨_, _, by rw [← e3, h]⟩, h5⟩
      · have e2 : strL s zs = [] := by unfold strL; rw [e1, if_neg he]
        have hv := h4 he
        subst hv
        exact ⟨_, by rw [e1], by rw [e2]; exact World.ownsRow_nil _ _ _ _, fun _ => rfl, fun _ => ⟨_, _, rfl⟩, h5⟩
    · refine (pStretch_code w s a len cap zs hz (by omega) h2).mono ?_
      rintro x w' ⟨rfl, rfl⟩
      have e1 : strE s zs = 7 := by unfold strE; rw [if_neg (by omega), if_neg (fun h => h2 ((ctxB_iff zs).1 h))]
      have e2 : strL s zs = [] := by unfold strL; rw [e1]; rfl
      unfold StrPost
      rw [e2, e1]
      exact ⟨_, rfl, World.ownsRow_nil _ _ _ _, fun _ => rfl, fun _ => ⟨_, _, rfl⟩, Below.refl _ _⟩

end Go.Proofs.YtekfbphnoibnjaaGreatDoor
