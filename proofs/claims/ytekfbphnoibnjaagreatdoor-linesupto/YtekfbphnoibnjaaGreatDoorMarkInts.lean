/-
  The caller marks a list of numbers.
-/
import Derived.Test.YtekfbphnoibnjaaGreatDoorMark
namespace Go.Proofs.YtekfbphnoibnjaaGreatDoor
open Go.RowKit

set_option maxHeartbeats 1000000 in
set_option maxRecDepth 20000 in
theorem markInts_any (w : World) (B p M : Nat) (vs : List Value) (ia : Option Addr) (ik ic : Nat) (rows : List Value) (la : Option Addr) (n lc : Nat) (zs : List Int)
    (hbk : BookAt w p M vs) (hv0 : vs[0]? = some (.slice ia ik ic)) (hri : w.ownsRow B 76 5 (.slice ia ik ic) ik rows) (hrl : w.ownsRow B 3 1 (.slice la n lc) n (ints zs))
    (hBz : B ≤ w.heap.size) (n1 : (Value.slice ia ik ic).ownBlock ≠ some p) (n2 : (Value.slice la n lc).ownBlock ≠ some p) (n3 : ∀ k, (Value.slice la n lc).ownBlock = some k → (Value.slice ia ik ic).ownBlock ≠ some k)
    (hM : M ≤ 1000000000) (hn : n ≤ 1000000000) (hik : ik ≤ 1000000000) :
    Calls Tryz.prog 32 #[.pointer (some ⟨p, 0, none⟩), .slice la n lc] w fun x w' => x = .returned (.tuple #[]) ∧ MarkedInts w w' B p M vs (.slice ia ik ic) (.slice la n lc) ik n rows := by
  have i0 := hbk.c0
  have f0 := hbk.fz 0
  have hlen : zs.length = n := by have := hrl.1; rw [ints_length] at this; omega
  obtain ⟨j0, hi, hz0, hz1, hz2⟩ := info_parts infoI64
  obtain ⟨k0, hi', hy0, hy1, hy2⟩ := info_parts infoIB
  have H1 : Hid (MK w (w.setCell ⟨p, 0, none⟩ (.int .i64 ((M : Int) + 1))) B p (M + 1) vs (.slice ia ik ic) (.slice la n lc) ik n rows zs) :=
    ⟨hbk.put0 (M + 1), hri.kept (grown_setCell w p 0 _) (.inr n1), hrl.kept (grown_setCell w p 0 _) (.inr n2), (Frm.refl _ w).setCell (.inl (.inl rfl)) _⟩
  have hlb : Hid (∀ k, (Value.slice la n lc).ownBlock = some k → k < w.heap.size) := fun k hk => (World.ownsRow.lt hrl k hk).2
  have hib : Hid (∀ k, (Value.slice ia ik ic).ownBlock = some k → k < w.heap.size) := fun k hk => (World.ownsRow.lt hri k hk).2
  have hpw : p < w.heap.size := hbk.up
  have N1 : Hid ((Value.slice ia ik ic).ownBlock ≠ some p) := n1
  have N2 : Hid ((Value.slice la n lc).ownBlock ≠ some p) := n2
  have N3 : Hid (∀ k, (Value.slice la n lc).ownBlock = some k → (Value.slice ia ik ic).ownBlock ≠ some k) := n3
  clear hbk hri hrl n1 n2 n3
  go_enter Tryz.func32, Tryz.ntmps32
  go_wp2
  clear i0 f0
  go_loopw [5] (fun i wr => ∃ j : Nat, j ≤ n ∧ i = .int .i64 j ∧ MK w wr B p (M + 1) vs (.slice ia ik ic) (.slice la n lc) ik n rows (markRow zs j (-((M : Int) + 1)))) (fun i _ => n - (intOf i).toNat)
  case atStart => exact ⟨0, by omega, rfl, by rw [markRow_zero]; exact H1.out⟩
  case round =>
    obtain ⟨j, hj, rfl, hk⟩ := hrel
    by_cases hlt : j < n
    · have hlt' : (j : Int) < (n : Int) := by omega
      obtain ⟨g, cap, hform, hbg, hgw⟩ := World.ownsRow.form hk.rl (by omega)
      have hla : la = some ⟨g, 0, none⟩ := by simp only [Value.slice.injEq] at hform; exact hform.1
      subst hla
      obtain ⟨c, hc⟩ : ∃ c, wr.cell? ⟨g, j, none⟩ = some (.int .i64 c) := by
        have h1 := World.ownsRow.cellAt hk.rl j (by omega)
        rw [ints_get _ _ (by rw [← ints_length, hk.rl.1]; omega)] at h1
        exact ⟨_, h1⟩
      have hf := World.ownsRow.frozenAt hk.rl j
      have HN : Hid (MK w (wr.setCell ⟨g, j, none⟩ (.int .i64 (-((M : Int) + 1)))) B p (M + 1) vs (.slice ia ik ic) (.slice (some ⟨g, 0, none⟩) n lc) ik n rows (markRow zs (j + 1) (-((M : Int) + 1)))) := by
        refine ⟨hk.bk.of_block (Below.heap_setCell wr ⟨g, j, none⟩ _ p (fun e => N2.out (by rw [e]; rfl))) (by simp), hk.ri.kept (grown_setCell wr g j _) (.inr (N3.out g rfl)), ?_, Frm.setCell (p := ⟨g, j, none⟩) hk.fr (.inl (.inr (.inl rfl))) _⟩
        have := (World.ownsRow.stored hk.rl j (.int .i64 (-((M : Int) + 1)))).1
        rw [ints_set, markRow_set zs j _ (by omega)] at this
        exact this
      have HK : Hid (MK w wr B p (M + 1) vs (.slice ia ik ic) (.slice (some ⟨g, 0, none⟩) n lc) ik n rows (markRow zs j (-((M : Int) + 1)))) := hk
      clear hk hform
      go_wp2
      go_roundw
      case rel => exact ⟨j + 1, by omega, by go_num, HN.out⟩
      case measure => simp [intOf]; omega
    · have hlt' : ¬ (j : Int) < (n : Int) := by omega
      have hje : j = n := by omega
      have hk2 : MK w wr B p (M + 1) vs (.slice ia ik ic) (.slice la n lc) ik n rows (List.replicate n (-((M : Int) + 1))) := by
        rw [hje, ← hlen, markRow_full, hlen] at hk; exact hk
      have HK : Hid (MK w wr B p (M + 1) vs (.slice ia ik ic) (.slice la n lc) ik n rows (List.replicate n (-((M : Int) + 1)))) := hk2
      clear hk hk2 hje H1
      have hwz := HK.out.fr.size
      go_wp2_with (at_builtin; refine wpList_append_keep _ rfl (.tmp 32) (.tmp 34) 52 rfl B 3 j0 (.int .i64 0) 1 8 Tryz.underlying52 hi hz0 hz1 hz2 rfl (by decide) _ n (ints (List.replicate n (-((M : Int) + 1)))) rfl ?c0 ⟨wr.heap.size + 1, 0, none⟩ 1 1 [.int .i64 (-((M : Int) + 1))] rfl rfl ?c1 ?c2 ?c3 ?c4 ?c5 (by decide) ?_)
      case c0 => exact (HK.out.alloc _).rl.alloc _
      case c2 => rfl
      case c3 => unfold maxLen; omega
      case c4 => omega
      case c5 => omega
      intro g1 e1 w1 hg1 hl1 hgr1 hlie1
      obtain ⟨bb, hbb⟩ : ∃ bb, bb = wr.heap.size := ⟨_, rfl⟩
      have HX1 : Hid (MK w w1 B p (M + 1) vs (.slice ia ik ic) (.slice la n lc) ik n rows (List.replicate n (-((M : Int) + 1)))) := (((HK.out.alloc _).alloc _).app hgr1 hl1 N2.out N3.out)
      have hlbb : (Value.slice la n lc).ownBlock ≠ some bb := fun e => by have := hlb.out bb e; omega
      have hibb : (Value.slice ia ik ic).ownBlock ≠ some bb := fun e => by have := hib.out bb e; omega
      have HB1 : Blk w1 bb [.int .i64 (-((M : Int) + 1)), .slice la n lc, .slice none 0 0, .slice none 0 0, .slice none 0 0] 76 := by
        rw [hbb] at hlbb ⊢; exact ((Blk.new wr [.int .i64 (-((M : Int) + 1)), .slice la n lc, .slice none 0 0, .slice none 0 0, .slice none 0 0] 76).alloc _).grown hgr1 hlbb
      have hgb1 : g1 ≠ bb := by
        rcases hlie1 with h | h
        · intro e; exact hlbb (by rw [h, e])
        · have := h.1; omega
      have hsz1 : bb + 2 ≤ w1.heap.size := by have := hgr1.size; simp at this; omega
      have hgz1 : g1 < w1.heap.size := (World.ownsRow.lt hg1 g1 rfl).2
      have HF1 : Fill w1 (.slice (some ⟨g1, 0, none⟩) (n + 1) e1) (n + 1) [.int .i64 (-((M : Int) + 1))] := by
        have h1 : [Value.int IntKind.i64 (-((M : Int) + 1))] = ints (List.replicate 1 (-((M : Int) + 1))) := rfl
        rw [h1, rep_app] at hg1
        exact Fill.of_ints hg1
      have hbw : w.heap.size ≤ bb := by omega
      have hbp : bb ≠ p := by omega
      have q2 := HB1.cell 2 _ rfl
      have r2 := HB1.frozen 2
      have HL1 : Hid ((Value.slice la n lc).ownBlock = some g1 ∨ bb + 2 ≤ g1) := by
        rcases hlie1 with h | h
        · exact .inl h
        · have := h.1; exact .inr (by omega)
      have HB1' : Hid (Blk w1 bb [.int .i64 (-((M : Int) + 1)), .slice la n lc, .slice none 0 0, .slice none 0 0, .slice none 0 0] 76) := HB1
      have HF1' : Hid (Fill w1 (.slice (some ⟨g1, 0, none⟩) (n + 1) e1) (n + 1) [.int .i64 (-((M : Int) + 1))]) := HF1
      have LB : Hid ((Value.slice la n lc).ownBlock ≠ some bb) := hlbb
      have IBB : Hid ((Value.slice ia ik ic).ownBlock ≠ some bb) := hibb
      rw [← hbb]
      clear hg1 hl1 hgr1 hlie1 HB1 HF1 hlbb hibb HK hbb
      go_wp2_with (at_builtin; refine wpList_append_keep _ rfl (.tmp 37) (.tmp 40) 52 rfl B 3 j0 (.int .i64 0) 1 8 Tryz.underlying52 hi hz0 hz1 hz2 rfl (by decide) _ n (ints (List.replicate n (-((M : Int) + 1)))) rfl ?d0 ⟨w1.heap.size, 0, none⟩ 2 2 [.int .i64 (-((M : Int) + 1)), .int .i64 (-((M : Int) + 1))] rfl rfl ?d1 ?d2 ?d3 ?d4 ?d5 (by decide) ?_)
      case d0 => exact ((HX1.out.setNew bb 2 _ hbp IBB.out LB.out hbw).alloc _).rl
      case d1 => exact news_new _ [.int .i64 (-((M : Int) + 1)), .int .i64 (-((M : Int) + 1))] 3 _ (by simp)
      case d2 => intro u hu; simp at hu; subst hu; rfl
      case d3 => unfold maxLen; omega
      case d4 => omega
      case d5 => simp; omega
      intro g2 e2 w2 hg2 hl2 hgr2 hlie2
      have hg2' : w2.ownsRow B 3 1 (.slice (some ⟨g2, 0, none⟩) (n + 2) e2) (n + 2) (ints (List.replicate (n + 2) (-((M : Int) + 1)))) := by
        rw [← rep_app n 2 (-((M : Int) + 1))]; exact hg2
      have hgb2 : g2 ≠ bb := by
        rcases hlie2 with h | h
        · intro e; exact LB.out (by rw [h, e])
        · have := h.1; omega
      have hsz2 : bb + 2 ≤ w2.heap.size := by have := hgr2.size; simp at this; omega
      have hgz2 : g2 < w2.heap.size ∧ w1.heap.size ≤ w2.heap.size := ⟨(World.ownsRow.lt hg2 g2 rfl).2, by have := hgr2.size; simp at this; omega⟩
      have HX2 : Hid (MK w w2 B p (M + 1) vs (.slice ia ik ic) (.slice la n lc) ik n rows (List.replicate n (-((M : Int) + 1)))) := (((HX1.out.setNew bb 2 _ hbp IBB.out LB.out hbw).alloc _).app hgr2 hl2 N2.out N3.out)
      have HB2 : Blk w2 bb [.int .i64 (-((M : Int) + 1)), .slice la n lc, .slice (some ⟨g1, 0, none⟩) (n + 1) e1, .slice none 0 0, .slice none 0 0] 76 := ((HB1'.out.set 2 (.slice (some ⟨g1, 0, none⟩) (n + 1) e1)).alloc _).grown hgr2 LB.out
      have HF12 : Hid (Fill w2 (.slice (some ⟨g1, 0, none⟩) (n + 1) e1) (n + 1) [.int .i64 (-((M : Int) + 1))]) := fill_app (fill_alloc (fill_setOther HF1'.out (fun e => hgb1 e.symm)) _) hgr2 (by rcases hlie2 with h | h; exact .inl h; exact .inr h.2) hg2' (by omega)
      have HF2' : Hid (Fill w2 (.slice (some ⟨g2, 0, none⟩) (n + 2) e2) (n + 2) [.int .i64 (-((M : Int) + 1))]) := Fill.of_ints hg2'
      have HL2 : Hid ((Value.slice la n lc).ownBlock = some g2 ∨ bb + 2 ≤ g2) := by
        rcases hlie2 with h | h
        · exact .inl h
        · have := h.1; exact .inr (by omega)
      have q3 := HB2.cell 3 _ rfl
      have r3 := HB2.frozen 3
      have HB2' : Hid (Blk w2 bb [.int .i64 (-((M : Int) + 1)), .slice la n lc, .slice (some ⟨g1, 0, none⟩) (n + 1) e1, .slice none 0 0, .slice none 0 0] 76) := HB2
      clear hg2 hg2' hl2 hgr2 hlie2 HB2 q2 r2
      go_wp2_with (at_builtin; refine wpList_append_keep _ rfl (.tmp 43) (.tmp 47) 52 rfl B 3 j0 (.int .i64 0) 1 8 Tryz.underlying52 hi hz0 hz1 hz2 rfl (by decide) _ n (ints (List.replicate n (-((M : Int) + 1)))) rfl ?f0 ⟨w2.heap.size, 0, none⟩ 3 3 [.int .i64 (-((M : Int) + 1)), .int .i64 (-((M : Int) + 1)), .int .i64 (-((M : Int) + 1))] rfl rfl ?f1 ?f2 ?f3 ?f4 ?f5 (by decide) ?_)
      case f0 => exact ((HX2.out.setNew bb 3 _ hbp IBB.out LB.out hbw).alloc _).rl
      case f1 => exact news_new _ [.int .i64 (-((M : Int) + 1)), .int .i64 (-((M : Int) + 1)), .int .i64 (-((M : Int) + 1))] 3 _ (by simp)
      case f2 => intro u hu; simp at hu; subst hu; rfl
      case f3 => unfold maxLen; omega
      case f4 => omega
      case f5 => simp; omega
      intro g3 e3 w3 hg3 hl3 hgr3 hlie3
      have hg3' : w3.ownsRow B 3 1 (.slice (some ⟨g3, 0, none⟩) (n + 3) e3) (n + 3) (ints (List.replicate (n + 3) (-((M : Int) + 1)))) := by
        rw [← rep_app n 3 (-((M : Int) + 1))]; exact hg3
      have hgb3 : g3 ≠ bb := by
        rcases hlie3 with h | h
        · intro e; exact LB.out (by rw [h, e])
        · have := h.1; omega
      have hsz3 : bb + 2 ≤ w3.heap.size := by have := hgr3.size; simp at this; omega
      have hgz3 : g3 < w3.heap.size ∧ w2.heap.size ≤ w3.heap.size := ⟨(World.ownsRow.lt hg3 g3 rfl).2, by have := hgr3.size; simp at this; omega⟩
      have HX3 : Hid (MK w w3 B p (M + 1) vs (.slice ia ik ic) (.slice la n lc) ik n rows (List.replicate n (-((M : Int) + 1)))) := (((HX2.out.setNew bb 3 _ hbp IBB.out LB.out hbw).alloc _).app hgr3 hl3 N2.out N3.out)
      have HB3 : Blk w3 bb [.int .i64 (-((M : Int) + 1)), .slice la n lc, .slice (some ⟨g1, 0, none⟩) (n + 1) e1, .slice (some ⟨g2, 0, none⟩) (n + 2) e2, .slice none 0 0] 76 := ((HB2'.out.set 3 (.slice (some ⟨g2, 0, none⟩) (n + 2) e2)).alloc _).grown hgr3 LB.out
      have HF13 : Hid (Fill w3 (.slice (some ⟨g1, 0, none⟩) (n + 1) e1) (n + 1) [.int .i64 (-((M : Int) + 1))]) := fill_app (fill_alloc (fill_setOther HF12.out (fun e => hgb1 e.symm)) _) hgr3 (by rcases hlie3 with h | h; exact .inl h; exact .inr h.2) hg3' (by omega)
      have HF23 : Hid (Fill w3 (.slice (some ⟨g2, 0, none⟩) (n + 2) e2) (n + 2) [.int .i64 (-((M : Int) + 1))]) := fill_app (fill_alloc (fill_setOther HF2'.out (fun e => hgb2 e.symm)) _) hgr3 (by rcases hlie3 with h | h; exact .inl h; exact .inr h.2) hg3' (by omega)
      have HF3' : Hid (Fill w3 (.slice (some ⟨g3, 0, none⟩) (n + 3) e3) (n + 3) [.int .i64 (-((M : Int) + 1))]) := Fill.of_ints hg3'
      have HL3 : Hid ((Value.slice la n lc).ownBlock = some g3 ∨ bb + 2 ≤ g3) := by
        rcases hlie3 with h | h
        · exact .inl h
        · have := h.1; exact .inr (by omega)
      have q4 := HB3.cell 4 _ rfl
      have r4 := HB3.frozen 4
      have HB3' : Hid (Blk w3 bb [.int .i64 (-((M : Int) + 1)), .slice la n lc, .slice (some ⟨g1, 0, none⟩) (n + 1) e1, .slice (some ⟨g2, 0, none⟩) (n + 2) e2, .slice none 0 0] 76) := HB3
      clear hg3 hg3' hl3 hgr3 hlie3 HB3 q3 r3
      go_wp2_with fail
      obtain ⟨w4, hw4⟩ : ∃ w4, w4 = w3.setCell ⟨bb, 4, none⟩ (.slice (some ⟨g3, 0, none⟩) (n + 3) e3) := ⟨_, rfl⟩
      have HX4 : Hid (MK w w4 B p (M + 1) vs (.slice ia ik ic) (.slice la n lc) ik n rows (List.replicate n (-((M : Int) + 1)))) := by rw [hw4]; exact HX3.out.setNew bb 4 _ hbp IBB.out LB.out hbw
      have HB4 : Blk w4 bb [.int .i64 (-((M : Int) + 1)), .slice la n lc, .slice (some ⟨g1, 0, none⟩) (n + 1) e1, .slice (some ⟨g2, 0, none⟩) (n + 2) e2, .slice (some ⟨g3, 0, none⟩) (n + 3) e3] 76 := by rw [hw4]; exact HB3'.out.set 4 (.slice (some ⟨g3, 0, none⟩) (n + 3) e3)
      have HF14 : Hid (Fill w4 (.slice (some ⟨g1, 0, none⟩) (n + 1) e1) (n + 1) [.int .i64 (-((M : Int) + 1))]) := by rw [hw4]; exact fill_setOther HF13.out (fun e => hgb1 e.symm)
      have HF24 : Hid (Fill w4 (.slice (some ⟨g2, 0, none⟩) (n + 2) e2) (n + 2) [.int .i64 (-((M : Int) + 1))]) := by rw [hw4]; exact fill_setOther HF23.out (fun e => hgb2 e.symm)
      have HF34 : Hid (Fill w4 (.slice (some ⟨g3, 0, none⟩) (n + 3) e3) (n + 3) [.int .i64 (-((M : Int) + 1))]) := by rw [hw4]; exact fill_setOther HF3'.out (fun e => hgb3 e.symm)
      have HZ1 : Hid (g1 < w4.heap.size) := by have := hgz1; have := hgz2; have := hgz3; show g1 < w4.heap.size; rw [hw4]; simp; omega
      have HZ2 : Hid (g2 < w4.heap.size) := by have := hgz2; have := hgz3; show g2 < w4.heap.size; rw [hw4]; simp; omega
      have HZ3 : Hid (g3 < w4.heap.size) := by have := hgz3; show g3 < w4.heap.size; rw [hw4]; simp; omega
      have hsz4 : bb + 2 ≤ w4.heap.size := by rw [hw4]; simp; exact hsz3
      rw [← hw4]
      clear hw4 q4 r4 HX1 HX2 HX3 HB1' HB2' HB3' HF1' HF12 HF13 HF2' HF23 HF3'
      have s0 := HB4.cell 0 _ rfl
      have s1 := HB4.cell 1 _ rfl
      have s2 := HB4.cell 2 _ rfl
      have s3 := HB4.cell 3 _ rfl
      have s4 := HB4.cell 4 _ rfl
      have sp := HX4.out.bk.cs 0 _ hv0
      have sf := HX4.out.bk.fz 1
      have hpz := HX4.out.bk.up
      have hri4 := HX4.out.ri
      have hbb4 := HB4.lt
      go_region_law ((refine step_append_lies _ (by rfl) _ _ _ (by rfl) B 76 k0 _ 5 104 Tryz.underlying39 hi' hy0 hy1 hy2 rfl (by omega) (.slice ia ik ic) ik rows (by rfl) ((hri4.alloc _).drew) ⟨w4.heap.size, 0, none⟩ 1 1 [.int .i64 (-((M : Int) + 1)), .slice la n lc, .slice (some ⟨g1, 0, none⟩) (n + 1) e1, .slice (some ⟨g2, 0, none⟩) (n + 2) e2, .slice (some ⟨g3, 0, none⟩) (n + 3) e3] (by rfl) (by rfl) (World.news_of_block (cs := #[.int .i64 (-((M : Int) + 1)), .slice la n lc, .slice (some ⟨g1, 0, none⟩) (n + 1) e1, .slice (some ⟨g2, 0, none⟩) (n + 2) e2, .slice (some ⟨g3, 0, none⟩) (n + 3) e3]) (t := 76) (fr := (0, 0)) (heap_alloc_new w4 _)) (by simp [Value.oneCell']) (by omega) (by unfold maxLen; omega) (by omega) (by simp; omega) (w4.heap.size + 1) (by simp) ?_; intro gg cap w5 hown5 hgrow hat hlt5; have sf5 : w5.frozen? ⟨p, 1, none⟩ = false := ((hgrow.frozen_far ⟨p, 1, none⟩ (by simp; omega) (Ne.symm N1.out)).trans (frozen_alloc_drew hpz)).trans sf; have sc5 : w5.cell? ⟨p, 1, none⟩ = some (.slice ia ik ic) := ((hgrow.cell_far ⟨p, 1, none⟩ (by simp; omega) (Ne.symm N1.out)).trans (cell_alloc_drew hpz)).trans sp))
      all_goals
        go_end0
        exact ⟨rfl, mark_done HX4.out HF14.out HF24.out HF34.out bb hbw HZ1.out HZ2.out HZ3.out HL1.out HL2.out HL3.out N1.out N2.out N3.out hlb.out hib.out hpw hown5 hgrow hat⟩

end Go.Proofs.YtekfbphnoibnjaaGreatDoor
