/-
  The document's Stretch: what it answers is the plain reader's.
-/
import Derived.Test.YtekfbphnoibnjaaGreatDoorRefNew
namespace Go.Proofs.YtekfbphnoibnjaaGreatDoor
open Go.RowKit

set_option maxHeartbeats 400000 in
theorem refStretch_long (w : World) (s : ByteArray) (a : Option Addr) (len cap : Nat) (h : 4000 < len) :
    Calls Tryz.prog 63 #[.string s, .slice a len cap] w fun x w' => x = .returned (.tuple #[.slice none 0 0, .int .i64 1]) ∧ w' = w := by
  have h' : (4000 : Int) < (len : Int) := by omega
  go_enter Tryz.func63, Tryz.ntmps63
  go_wp2
  go_ret2
  exact ⟨rfl, rfl⟩

set_option maxHeartbeats 400000 in
theorem refStretch_code (w : World) (s : ByteArray) (a : Option Addr) (len cap : Nat) (zs : List Int) (hz : IntsIn w a len zs) (h : len ≤ 4000) (hn : ¬ Rdr.CtxOk zs) :
    Calls Tryz.prog 63 #[.string s, .slice a len cap] w fun x w' => x = .returned (.tuple #[.slice none 0 0, .int .i64 7]) ∧ w' = w := by
  have h' : ¬ (4000 : Int) < (len : Int) := by omega
  have hlen := hz.1
  go_enter Tryz.func63, Tryz.ntmps63
  go_wp2
  go_loop [6] (fun i => ∃ k : Nat, k ≤ len ∧ i = .int .i64 k ∧ ∀ j, j < k → 0 ≤ zs.getD j 0 ∧ zs.getD j 0 < 400) (fun i => len - (intOf i).toNat)
  case atStart => exact ⟨0, by omega, rfl, by omega⟩
  case round =>
    obtain ⟨k, hk, rfl, hj⟩ := hrel
    have HJ : Hid (∀ j, j < k → 0 ≤ zs.getD j 0 ∧ zs.getD j 0 < 400) := hj
    clear hj
    by_cases hlt : k < len
    · have hlt' : (k : Int) < (len : Int) := by omega
      obtain ⟨b, off, rfl, hb, hc⟩ : ∃ b off, a = some ⟨b, off, none⟩ ∧ b < w.heap.size ∧ ∀ i, i < len → w.cell? ⟨b, off + i, none⟩ = some (.int .i64 (zs.getD i 0)) := by
        rcases hz.2 with h2 | h2
        · omega
        · exact h2
      obtain ⟨z, hzk⟩ : ∃ z, z = zs.getD k 0 := ⟨_, rfl⟩
      have hck := hc k hlt
      rw [← hzk] at hck
      have HZ : Hid (z = zs.getD k 0) := hzk
      clear hc hzk
      by_cases h1 : z < 0
      · go_wp2
        go_ret2
        exact ⟨rfl, rfl⟩
      · by_cases h2 : 400 ≤ z
        · go_wp2
          go_ret2
          exact ⟨rfl, rfl⟩
        · go_wp2
          go_round
          case rel =>
            refine ⟨k + 1, by omega, by go_num, fun j hj => ?_⟩
            rcases Nat.lt_succ_iff_lt_or_eq.1 hj with hj | rfl
            · exact HJ.out j hj
            · rw [← HZ.out]; omega
          case measure => simp [intOf]; omega
    · exact absurd (fun i hi => HJ.out i (by omega)) hn

set_option maxHeartbeats 1000000 in
set_option maxRecDepth 20000 in
theorem refStretch_main (w : World) (s : ByteArray) (a : Option Addr) (len cap : Nat) (zs : List Int) (hz : IntsIn w a len zs) (h : len ≤ 4000) (hn : Rdr.CtxOk zs) (hs : s.size ≤ maxLen) :
    Calls Tryz.prog 63 #[.string s, .slice a len cap] w fun x w' => ∃ v, x = .returned (.tuple #[v, .int .i64 (Rdr.stE s ch0 zs)]) ∧ (Rdr.stE s ch0 zs = 0 → w'.ownsRow w.heap.size 3 1 v len (ints (Rdr.all s ch0 zs len).1) ∧ (len = 0 → v = .slice none 0 0)) ∧ (Rdr.stE s ch0 zs ≠ 0 → v = .slice none 0 0) ∧ Below w.heap.size w w' := by
  have h' : ¬ (4000 : Int) < (len : Int) := by omega
  have hlen := hz.1
  obtain ⟨i0, hi, hz0, hz1, hz2⟩ := info_parts infoI64
  have HZ : Hid (IntsIn w a len zs) := hz
  clear hz
  go_enter Tryz.func63, Tryz.ntmps63
  go_wp2
  go_loop [6] (fun i => ∃ k : Nat, k ≤ len ∧ i = .int .i64 k) (fun i => len - (intOf i).toNat)
  case atStart => exact ⟨0, by omega, rfl⟩
  case round =>
    obtain ⟨k, hk, rfl⟩ := hrel
    by_cases hlt : k < len
    · have hlt' : (k : Int) < (len : Int) := by omega
      obtain ⟨b, off, rfl, hb, hc⟩ : ∃ b off, a = some ⟨b, off, none⟩ ∧ b < w.heap.size ∧ ∀ i, i < len → w.cell? ⟨b, off + i, none⟩ = some (.int .i64 (zs.getD i 0)) := by
        rcases HZ.out.2 with h2 | h2
        · omega
        · exact h2
      obtain ⟨z, hzk⟩ : ∃ z, z = zs.getD k 0 := ⟨_, rfl⟩
      have hck := hc k hlt
      have hbd := hn k (by omega)
      rw [← hzk] at hck hbd
      clear hc hzk
      have h1 : ¬ z < 0 := by omega
      have h2 : ¬ 400 ≤ z := by omega
      go_wp2
      go_round
      case rel => exact ⟨k + 1, by omega, by go_num⟩
      case measure => simp [intOf]; omega
    · have hlt' : ¬ (k : Int) < (len : Int) := by omega
      obtain ⟨k6, hk6⟩ : ∃ k6, k6 = k := ⟨_, rfl⟩
      subst hk6
      go_wp2_with (go_at_call 100; refine (newReader w s hs).mono ?_; rintro x w1 ⟨rb, rfl, hr1, hb1⟩)
      have hrlt := hr1.up
      have hglt := hr1.nums.lt.2
      go_loopw [8, 9, 10] (fun v i _ wr => ∃ k : Nat, k ≤ len ∧ i = .int .i64 k ∧ RdAt wr w.heap.size rb w.heap.size s (Rdr.all s ch0 zs k).2 ∧ wr.ownsRow w1.heap.size 3 1 v k (ints (Rdr.all s ch0 zs k).1) ∧ Below w.heap.size w wr ∧ w1.heap.size ≤ wr.heap.size ∧ (k = 0 → v = .slice none 0 0)) (fun _ i _ _ => len - (intOf i).toNat)
      case atStart => exact ⟨0, by omega, rfl, hr1, World.ownsRow_nil _ _ _ _, hb1, Nat.le_refl _, fun _ => rfl⟩
      case round =>
        obtain ⟨k, hk, rfl, hr, hown, hbr, hwz, hnil⟩ := hrel
        have HNIL : Hid (k = 0 → u8 = .slice none 0 0) := hnil
        clear hnil
        by_cases hlt : k < len
        · have hltn : (k : Int) < (len : Int) := by omega
          obtain ⟨b, off, rfl, hb, hc⟩ : ∃ b off, a = some ⟨b, off, none⟩ ∧ b < w.heap.size ∧ ∀ i, i < len → w.cell? ⟨b, off + i, none⟩ = some (.int .i64 (zs.getD i 0)) := by
            rcases HZ.out.2 with h2 | h2
            · omega
            · exact h2
          obtain ⟨n, hnk⟩ : ∃ n : Nat, zs.getD k 0 = (n : Int) := ⟨(zs.getD k 0).toNat, by have := (hn k (by omega)).1; omega⟩
          have hn4 : n < 400 := by have := (hn k (by omega)).2; omega
          have hck := (hbr.cell (p := ⟨b, off + k, none⟩) hb).trans (hc k hlt)
          rw [hnk] at hck
          have HS : Hid (Rdr.all s ch0 zs (k + 1) = ((Rdr.all s ch0 zs k).1 ++ [Rdr.bitV (Rdr.all s ch0 zs k).2 n], Rdr.bitS s (Rdr.all s ch0 zs k).2 n)) := by
            rw [Rdr.all_succ s ch0 zs k (by omega), hnk]; rfl
          have hok := Rdr.all_ok (s := s) ch0_ok hn k
          obtain ⟨q, hq⟩ : ∃ q, q = Rdr.all s ch0 zs k := ⟨_, rfl⟩
          rw [← hq] at hr hown HS hok
          clear hq hc hnk
          have hob : ∀ j, Value.ownBlock u8 = some j → w1.heap.size ≤ j := fun j e => (World.ownsRow.lt hown j e).1
          go_wp2_with (first
            | (go_at_call 101; refine (rbit _ w.heap.size rb w.heap.size s q.2 n hr hok hs hn4).mono ?_; rintro x w2 ⟨rfl, hr2, hf2⟩; have hsz2 := hf2.size; have hown2 : w2.ownsRow w1.heap.size 3 1 u8 k (ints q.1) := hf2.owns hown (fun j e hj => by have := hob j e; rcases hj with rfl | rfl <;> omega))
            | (at_builtin; refine wpList_append_own _ rfl (.tmp 46) (.tmp 48) 52 rfl w1.heap.size 3 i0 (.int .i64 0) 1 8 Tryz.underlying52 hi hz0 hz1 hz2 rfl (by decide) _ k (ints q.1) rfl ?c0 ⟨w2.heap.size, 0, none⟩ 1 1 [.int .i64 (Rdr.bitV q.2 n)] rfl rfl ?c1 ?c2 ?c3 ?c4 ?c5 ?_))
          case c0 => exact hown2.alloc _
          case c1 => exact cell_new1 _ _ _
          case c2 => exact oneCell_int _
          case c3 => unfold maxLen; omega
          case c4 => omega
          case c5 => simp; omega
          · intro v' w3 hown' hgrow _
            have hrow : ∀ j, j < w1.heap.size → some j ≠ Value.ownBlock u8 := fun j hj e => by have := hob j e.symm; omega
            have hr3 : RdAt w3 w.heap.size rb w.heap.size s (Rdr.bitS s q.2 n) := hr2.on ((hgrow.block rb (by simp; omega) (hrow rb hrlt)).trans (Below.heap_alloc _ _ _ (by omega))) ((hgrow.block w.heap.size (by simp; omega) (hrow _ hglt)).trans (Below.heap_alloc _ _ _ (by omega))) (by have := hgrow.size; simp at this; omega)
            have hb3 : Below w.heap.size w w3 := ((hbr.trans (hf2.below hbr.size (fun j hj => by have := hr.lo; rcases hj with rfl | rfl <;> omega))).alloc (by have := hbr.size; omega) _).grown hgrow (by simp; have := hbr.size; omega) (fun j e => by have := hob j e; omega)
            have hz3 : w1.heap.size ≤ w3.heap.size := by have := hgrow.size; simp at this; omega
            rw [ints_snoc] at hown'
            clear hown hown2 hgrow hr hr2
            go_wp2
            go_roundw
            case rel => exact ⟨k + 1, by omega, by go_num, by rw [HS.out]; exact hr3, by rw [HS.out]; exact hown', hb3, hz3, fun e => absurd e (by omega)⟩
            case measure => simp [intOf]; omega
        · obtain rfl : k = len := by omega
          have hltn : ¬ (k : Int) < (k : Int) := by omega
          have HE : Hid (Rdr.stE s ch0 zs = (Rdr.finish s (Rdr.all s ch0 zs k).2).err) := by unfold Rdr.stE; rw [hlen]; rfl
          obtain ⟨q, hq⟩ : ∃ q, q = Rdr.all s ch0 zs k := ⟨_, rfl⟩
          rw [← hq] at hr hown HE
          have HQ : Hid (q = Rdr.all s ch0 zs k) := hq
          clear hq
          have hob : ∀ j, Value.ownBlock u8 = some j → w1.heap.size ≤ j := fun j e => (World.ownsRow.lt hown j e).1
          have hrlo := hr.lo
          by_cases he : (Rdr.finish s q.2).err = 0
          · have HF : Hid ((Rdr.finish s q.2).err = 0) := he
            go_wp2_with (go_at_call 102; refine (rend _ w.heap.size rb w.heap.size s q.2 hr).mono ?_; rintro x w2 ⟨rfl, hr2, hf2⟩; have j5 := hr2.c5; rw [he] at j5)
            go_ret2
            have hown2 : w2.ownsRow w1.heap.size 3 1 u8 k (ints q.1) := hf2.owns hown (fun j e hj => by have := hob j e; rcases hj with rfl | rfl <;> omega)
            refine ⟨u8, by rw [HE.out, HF.out]; rfl, fun _ => ?_, fun hne => absurd (HE.out.trans HF.out) hne, hbr.trans (hf2.below hbr.size (fun j hj => by rcases hj with rfl | rfl <;> omega))⟩
            rw [← HQ.out]
            exact ⟨owns_base hown2 (by omega), HNIL.out⟩
          · have HF : Hid (¬ (Rdr.finish s q.2).err = 0) := he
            have hd : ((Rdr.finish s q.2).err == 0) = false := by simpa using he
            clear he
            go_wp2_with (go_at_call 102; refine (rend _ w.heap.size rb w.heap.size s q.2 hr).mono ?_; rintro x w2 ⟨rfl, hr2, hf2⟩; have j5 := hr2.c5)
            go_quiet (fail)
            go_wp2
            go_ret2
            refine ⟨_, by rw [HE.out]; rfl, fun hz => absurd (HE.out.symm.trans hz) HF.out, fun _ => rfl, below_drewN (hbr.trans (hf2.below hbr.size (fun j hj => by rcases hj with rfl | rfl <;> omega))) _⟩

theorem refStretch (w : World) (s : ByteArray) (a : Option Addr) (len cap : Nat) (zs : List Int) (hz : IntsIn w a len zs) (hs : s.size ≤ maxLen) :
    Calls Tryz.prog 63 #[.string s, .slice a len cap] w fun x w' => StrPost w s zs x w' ∧ ∀ v e, x = .returned (.tuple #[v, e]) → (strL s zs).length = 0 → v = .slice none 0 0 := by
  have hlen := hz.1
  by_cases h1 : 4000 < len
  · refine (refStretch_long w s a len cap h1).mono ?_
    rintro x w' ⟨rfl, rfl⟩
    have e1 : strE s zs = 1 := by unfold strE; rw [if_pos (by omega)]
    have e2 : strL s zs = [] := by unfold strL; rw [e1]; rfl
    unfold StrPost
    rw [e2, e1]
    refine ⟨⟨_, rfl, World.ownsRow_nil _ _ _ _, fun _ => rfl, fun _ => ⟨_, _, rfl⟩, Below.refl _ _⟩, fun v e h _ => ?_⟩
    simp at h; exact h.1.symm
  · by_cases h2 : Rdr.CtxOk zs
    · refine (refStretch_main w s a len cap zs hz (by omega) h2 hs).mono ?_
      rintro x w' ⟨v, rfl, h3, h4, h5⟩
      have e1 : strE s zs = Rdr.stE s ch0 zs := by unfold strE; rw [if_neg (by omega), if_pos ((ctxB_iff zs).2 h2)]
      by_cases he : Rdr.stE s ch0 zs = 0
      · obtain ⟨ho, hn⟩ := h3 he
        have e2 : strL s zs = (Rdr.all s ch0 zs len).1 := by unfold strL; rw [e1, if_pos he, hlen]
        have e3 : (strL s zs).length = len := by rw [e2, Rdr.all_len _ _ _ _ (by omega)]
        refine ⟨⟨v, by rw [e1], by rw [e3, e2]; exact ho, by rw [e1]; exact h4, fun h => ⟨_, _, hn (by omega)⟩, h5⟩, fun v' e h hz => ?_⟩
        simp at h
        rw [← h.1]
        exact hn (by omega)
      · have e2 : strL s zs = [] := by unfold strL; rw [e1, if_neg he]
        have hv := h4 he
        subst hv
        refine ⟨⟨_, by rw [e1], by rw [e2]; exact World.ownsRow_nil _ _ _ _, fun _ => rfl, fun _ => ⟨_, _, rfl⟩, h5⟩, fun v' e h _ => ?_⟩
        simp at h; exact h.1.symm
    · refine (refStretch_code w s a len cap zs hz (by omega) h2).mono ?_
      rintro x w' ⟨rfl, rfl⟩
      have e1 : strE s zs = 7 := by unfold strE; rw [if_neg (by omega), if_neg (fun h => h2 ((ctxB_iff zs).1 h))]
      have e2 : strL s zs = [] := by unfold strL; rw [e1]; rfl
      unfold StrPost
      rw [e2, e1]
      refine ⟨⟨_, rfl, World.ownsRow_nil _ _ _ _, fun _ => rfl, fun _ => ⟨_, _, rfl⟩, Below.refl _ _⟩, fun v e h _ => ?_⟩
      simp at h; exact h.1.symm

end Go.Proofs.YtekfbphnoibnjaaGreatDoor
