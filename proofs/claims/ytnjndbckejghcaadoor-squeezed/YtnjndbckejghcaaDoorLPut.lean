/-
  The program's packer packs one bit.
-/
import Derived.Test.YtnjndbckejghcaaDoorLWr2
namespace Go.Proofs.YtnjndbckejghcaaDoor
open Go.RowKit

/-- The range that the packer at block b has. -/
def wspanOf (w : World) (b : Nat) : Nat := (intOf ((w.cell? ⟨b, 2, none⟩).getD undef)).toNat
theorem wspanOf_eq {w : World} {B b : Nat} {v : Value} {t : WS} (h : PW w B b v t) : wspanOf w b = t.rng.toNat := by
  unfold wspanOf; rw [h.c2]; rfl

theorem below_drew {B : Nat} {a w : World} (h : Below B a w) : Below B a w.drew := h.trans ⟨rfl, rfl, rfl, Nat.le_refl _, fun _ _ => rfl⟩

/-- A packer's value keeps its memory from B on. -/
def vLo (B : Nat) (v : Value) : Prop := ∀ k, v.ownBlock = some k → B ≤ k

theorem PW.pulled {w w3 : World} {B b g cap : Nat} {v : Value} {t : WS} (h : PW w B b v t) (ho : Octs w3 B (.slice (some ⟨g, 0, none⟩) (t.m + 1) cap) (Pack.digs (t.m + 1) (256 * t.n / 4294967296))) (hb : w3.heap[b]? = w.heap[b]?) (hz : w.heap.size ≤ w3.heap.size) (hg : g ≠ b) :
    PW (((w3.setCell ⟨b, 0, none⟩ (.slice (some ⟨g, 0, none⟩) (t.m + 1) cap)).setCell ⟨b, 1, none⟩ (.int .u32 (256 * t.n % 4294967296))).setCell ⟨b, 2, none⟩ (.int .u32 (256 * t.rng))) B b (.slice (some ⟨g, 0, none⟩) (t.m + 1) cap) (Pack.pull t) := by
  have hne : (Value.slice (some ⟨g, 0, none⟩) (t.m + 1) cap).ownBlock ≠ some b := by simp [Value.ownBlock]; exact hg
  have hc : ∀ o, w3.cell? ⟨b, o, none⟩ = w.cell? ⟨b, o, none⟩ := fun o => World.cell?_of_block (a := ⟨b, o, none⟩) hb
  refine ⟨cell_off (cell_off (World.cell?_setCell_same _ _ _ ((hc 0).trans h.c0)) (.inr (by decide))) (.inr (by decide)), ((ho.set b 0 _ hne).set b 1 _ hne).set b 2 _ hne, hne, ?_, ?_, fun o hlt => ?_, ?_, ?_⟩
  · exact cell_off (World.cell?_setCell_same _ _ _ (cell_off ((hc 1).trans h.c1) (.inr (by decide)))) (.inr (by decide))
  · exact World.cell?_setCell_same _ _ _ (cell_off (cell_off ((hc 2).trans h.c2) (.inr (by decide))) (.inr (by decide)))
  · simp only [World.frozen?_setCell]
    exact (World.frozen?_of_block (a := ⟨b, o, none⟩) hb).trans (h.fz o hlt)
  · exact (((h.ch.on hb).off (.inr (.inl (by decide)))).off (.inr (.inl (by decide)))).off (.inr (.inl (by decide)))
  · simp only [World.size_setCell]; exact Nat.lt_of_lt_of_le h.up hz

theorem put_done {wr w5 : World} {B b gg cap : Nat} {v : Value} {q : WS} {L : Int} (h : PW wr B b v q) (ho : w5.ownsRow B 5 1 (.slice (some ⟨gg, 0, none⟩) (q.m + 1) cap) (q.m + 1) (octs (Pack.digs q.m (q.n / 4294967296)) ++ [.int .u8 (L / 16777216 % 256)]))
    (hb : w5.heap[b]? = wr.heap[b]?) (hz : wr.heap.size ≤ w5.heap.size) (hat : v.ownBlock = some gg ∨ gg = wr.heap.size + 1) (hL : L = q.n % 4294967296) (hbup : b < wr.heap.size) :
    PW (((w5.setCell ⟨b, 0, none⟩ (.slice (some ⟨gg, 0, none⟩) (q.m + 1) cap)).setCell ⟨b, 1, none⟩ (.int .u32 (L * 256 % 4294967296))).setCell ⟨b, 2, none⟩ (.int .u32 (q.rng * 256))) B b (.slice (some ⟨gg, 0, none⟩) (q.m + 1) cap) (Pack.pull q) := by
  have hg : gg ≠ b := by
    rcases hat with h' | h'
    · exact fun e => h.ne (by rw [h', e])
    · omega
  rw [show L * 256 % 4294967296 = 256 * q.n % 4294967296 by omega, Int.mul_comm q.rng 256]
  refine PW.pulled h ?_ hb hz hg
  unfold Octs
  rw [Pack.digs_length, Pack.digs, ← octs_snoc]
  rw [show 256 * q.n / 4294967296 / 256 = q.n / 4294967296 by omega, show 256 * q.n / 4294967296 % 256 = L / 16777216 % 256 by omega]
  exact ho

set_option maxHeartbeats 2000000 in
set_option maxRecDepth 20000 in
theorem pPut_zero (w : World) (B b : Nat) (v : Value) (t : WS) (k : Nat) (C c : Int) (h : PW w B b v t) (ok : Pack.Ok t) (hm : t.m ≤ 100000) (hk : k < 400) (hbB : B ≤ b) (hvB : vLo B v) (hC : Pack.cut t k = C) (hc : t.ch.getD k 0 = c) :
    Calls Tryd.prog 10 #[.pointer (some ⟨b, 0, none⟩), .int .i64 k, .int .i64 0] w fun x w' => x = .returned (.tuple #[]) ∧ ∃ v', PW w' B b v' (Pack.norm (Pack.zero t k)) ∧ vLo B v' ∧ Below B w w' := by
  have hcb := Pack.cut_bd ok hk
  rw [hC] at hcb
  have hcd := ok.ch.2 k hk
  rw [hc] at hcd
  obtain ⟨c0, c1⟩ := hcd
  have r0 := ok.r0
  have r1 := ok.r1
  have n0 := ok.n0
  obtain ⟨q, hq⟩ : ∃ q : WS, q = Pack.zero t k := ⟨_, rfl⟩
  have HH : Hid (q = { t with rng := C, ch := t.ch.set k (c + (4096 - c) / 32) }) := by rw [hq]; unfold Pack.zero; rw [hC, hc]; rfl
  rw [← hq]
  have q0 : 126976 ≤ q.rng := by rw [HH.out]; show 126976 ≤ C; omega
  have q1 : q.rng ≤ 4294967295 := by rw [HH.out]; show C ≤ 4294967295; omega
  have q2 : 0 ≤ q.n := by rw [HH.out]; show 0 ≤ t.n; omega
  have q3 : q.m ≤ 100000 := by rw [HH.out]; exact hm
  have hck := h.ch.cell k hk
  have hrc : t.rng / 4096 * c = C := by rw [← hC, ← hc]; rfl
  rw [hc] at hck
  have hfk := h.ch.fz k hk
  have hckn : ∀ n : Nat, (w.drewN n).cell? ⟨b, 3 + k, none⟩ = some (.int .u32 c) := fun n => hck
  have hfkn : ∀ n : Nat, (w.drewN n).frozen? ⟨b, 3 + k, none⟩ = false := fun n => hfk
  have i2 := h.c2
  have f2 := h.fz 2 (by decide)
  have HP : Hid (PW w B b v t) := h
  have HC : Hid (t.ch.getD k 0 = c) := hc
  have hk' : (k : Int) < 400 := by omega
  have HCU : Hid (Pack.cut t k = C) := hC
  have HOK : Hid (Pack.Ok t) := ok
  obtain ⟨R, hR⟩ : ∃ R, R = t.rng := ⟨_, rfl⟩
  clear hq h hC hc ok
  go_enter Tryd.func10, Tryd.ntmps10
  go_wp2
  go_quiet ((go_at_call 15; exact Calls.quiet_of_same (chCut _ b 3 k t.rng c hk (by simpa using hck) (by omega) (by omega) (by omega) (by omega))))
  rw [hrc]
  go_wp2_with (go_at_call 17; refine (chLearn0 _ b 3 k c hk (by exact cell_off (hckn _) (.inr (by omega))) (by simp only [World.frozen?_setCell]; exact hfkn _) c0 c1).mono ?_; rintro e w1 ⟨rfl, rfl⟩)
  have HQn : PW (((w.drewN nq).setCell ⟨b, 2, none⟩ (.int .u32 C)).setCell ⟨b, 3 + k, none⟩ (.int .u32 (c + (4096 - c) / 32))).drew B b v q := by rw [HH.out]; exact (((HP.out.drewN nq).put2 C).putC k _).drew
  have HFn : Below B w (((w.drewN nq).setCell ⟨b, 2, none⟩ (.int .u32 C)).setCell ⟨b, 3 + k, none⟩ (.int .u32 (c + (4096 - c) / 32))).drew := below_drew (((below_drewN (Below.refl B w) nq).setCell hbB _).setCell hbB _)
  clear hckn hfkn hck hfk i2 f2
  go_loopw [39] (fun _ wr => (PW wr B b v q ∨ (q.rng < 16777216 ∧ ∃ v', PW wr B b v' (Pack.pull q) ∧ vLo B v')) ∧ Below B w wr) (fun _ wr => 16777216 - wspanOf wr b)
  case atStart => exact ⟨.inl HQn, HFn⟩
  case round =>
    clear HQn HFn
    obtain ⟨hor, hbr⟩ := hrel
    rcases hor with hp | ⟨hlow, v', hp, hvl⟩
    · have i0 := hp.c0
      have i1 := hp.c1
      have i2 := hp.c2
      have f0 := hp.fz 0 (by decide)
      have f1 := hp.fz 1 (by decide)
      have f2 := hp.fz 2 (by decide)
      by_cases hlow : q.rng < 16777216
      · obtain ⟨k0, hi', hy0, hy1, hy2⟩ := info_parts infoU8
        have hpo := hp.own
        unfold Octs at hpo
        rw [Pack.digs_length] at hpo
        obtain ⟨L, hL⟩ : ∃ L, L = q.n % 4294967296 := ⟨_, rfl⟩
        rw [← hL] at i1
        have L0 : 0 ≤ L := by omega
        have L1 : L ≤ 4294967295 := by omega
        have HL : Hid (L = q.n % 4294967296) := hL
        clear hL
        have hbup := hp.up
        have hne := hp.ne
        have HPP : Hid (PW wr B b v q) := hp
        have hBr : B ≤ wr.heap.size := by have := hbr.size; omega
        clear hp
        go_wp2
        go_region_law ((refine step_append_lies _ (by rfl) _ _ _ (by rfl) B 5 k0 _ 1 1 Tryd.underlying48 hi' hy0 hy1 hy2 rfl (by omega) v q.m (octs (Pack.digs q.m (q.n / 4294967296))) (by rfl) ((hpo.alloc _).drew) ⟨wr.heap.size, 0, none⟩ 1 1 [.int .u8 (L / 16777216 % 256)] (by rfl) (by rfl) (World.news_of_block (cs := #[.int .u8 (L / 16777216 % 256)]) (t := 5) (fr := (0, 0)) (heap_alloc_new wr _)) (by simp [Value.oneCell']) (by omega) (by unfold maxLen; omega) (by omega) (by simp; omega) (wr.heap.size + 1) (by simp) ?_; intro gg cap w5 hown5 hgrow hat hlt5; have sf5 : w5.frozen? ⟨b, 0, none⟩ = false := ((hgrow.frozen_far ⟨b, 0, none⟩ (by simp; omega) (Ne.symm hne)).trans (frozen_alloc_drew hbup)).trans f0; have sc5 : w5.cell? ⟨b, 0, none⟩ = some v := ((hgrow.cell_far ⟨b, 0, none⟩ (by simp; omega) (Ne.symm hne)).trans (cell_alloc_drew hbup)).trans i0))
        all_goals
          have hsz5 := hgrow.size
          have hblk : w5.heap[b]? = wr.heap[b]? := (hgrow.block b (by simp; omega) (Ne.symm hne)).trans (Below.heap_alloc wr _ b hbup)
          have sc1 : w5.cell? ⟨b, 1, none⟩ = some (.int .u32 L) := (World.cell?_of_block (a := ⟨b, 1, none⟩) hblk).trans i1
          have sc2 : w5.cell? ⟨b, 2, none⟩ = some (.int .u32 q.rng) := (World.cell?_of_block (a := ⟨b, 2, none⟩) hblk).trans i2
          have sf1 : w5.frozen? ⟨b, 1, none⟩ = false := (World.frozen?_of_block (a := ⟨b, 1, none⟩) hblk).trans f1
          have sf2 : w5.frozen? ⟨b, 2, none⟩ = false := (World.frozen?_of_block (a := ⟨b, 2, none⟩) hblk).trans f2
          have HG := hgrow
          have HGH : Hid ((wr.alloc (Obj.cells #[Value.int IntKind.u8 (IntKind.u8.wrap (L / 16777216))] 5)).drew.grownBy w5 v.ownBlock) := hgrow
          clear HG hgrow
          go_wp2
          refine ⟨⟨.inr ⟨hlow, _, put_done HPP.out hown5 hblk (by simp at hsz5; omega) hat HL.out hbup, fun j hj => by injection hj with hj; exact hj ▸ (World.ownsRow.lt hown5 gg rfl).1⟩, ?_⟩, ?_⟩
          · exact ((((hbr.alloc hBr _).trans (below_drew (Below.refl B _))).grown HGH.out (by simp; omega) (fun j e => hvB j e)).setCell hbB _).setCell hbB _ |>.setCell hbB _
          · rw [wspanOf_eq HPP.out, wspanOf_eq (put_done HPP.out hown5 hblk (by simp at hsz5; omega) hat HL.out hbup)]
            show 16777216 - (256 * q.rng).toNat < 16777216 - q.rng.toNat
            omega
      · go_wp2
        go_end0
        exact ⟨rfl, v, by unfold Pack.norm; rw [if_neg (by omega)]; exact hp, hvB, hbr⟩
    · have i2 := hp.c2
      have hr : ¬ (Pack.pull q).rng < 16777216 := by show ¬ 256 * q.rng < 16777216; omega
      go_wp2
      go_end0
      exact ⟨rfl, v', by unfold Pack.norm; rw [if_pos hlow]; exact hp, hvl, hbr⟩

set_option maxHeartbeats 2000000 in
set_option maxRecDepth 20000 in
theorem pPut_one (w : World) (B b : Nat) (v : Value) (t : WS) (k : Nat) (C c : Int) (h : PW w B b v t) (ok : Pack.Ok t) (hm : t.m ≤ 100000) (hk : k < 400) (hbB : B ≤ b) (hBw : B ≤ w.heap.size) (hvB : vLo B v) (hC : Pack.cut t k = C) (hc : t.ch.getD k 0 = c) :
    Calls Tryd.prog 10 #[.pointer (some ⟨b, 0, none⟩), .int .i64 k, .int .i64 1] w fun x w' => x = .returned (.tuple #[]) ∧ ∃ v', PW w' B b v' (Pack.norm (Pack.one t k)) ∧ vLo B v' ∧ Below B w w' := by
  have hcb := Pack.cut_bd ok hk
  rw [hC] at hcb
  have hcd := ok.ch.2 k hk
  rw [hc] at hcd
  obtain ⟨c0, c1⟩ := hcd
  have r0 := ok.r0
  have r1 := ok.r1
  have n0 := ok.n0
  obtain ⟨q, hq⟩ : ∃ q : WS, q = Pack.one t k := ⟨_, rfl⟩
  have HH : Hid (q = { t with n := t.n + C, rng := t.rng - C, ch := t.ch.set k (c - c / 32) }) := by rw [hq]; unfold Pack.one; rw [hC, hc]; rfl
  rw [← hq]
  have q0 : 126976 ≤ q.rng := by rw [HH.out]; show 126976 ≤ t.rng - C; omega
  have q1 : q.rng ≤ 4294967295 := by rw [HH.out]; show t.rng - C ≤ 4294967295; omega
  have q2 : 0 ≤ q.n := by rw [HH.out]; show 0 ≤ t.n + C; omega
  have q3 : q.m ≤ 100000 := by rw [HH.out]; exact hm
  have hck := h.ch.cell k hk
  have hrc : t.rng / 4096 * c = C := by rw [← hC, ← hc]; rfl
  rw [hc] at hck
  have hfk := h.ch.fz k hk
  have hckn : ∀ n : Nat, (w.drewN n).cell? ⟨b, 3 + k, none⟩ = some (.int .u32 c) := fun n => hck
  have hfkn : ∀ n : Nat, (w.drewN n).frozen? ⟨b, 3 + k, none⟩ = false := fun n => hfk
  have i2 := h.c2
  have f2 := h.fz 2 (by decide)
  have HP : Hid (PW w B b v t) := h
  have HC : Hid (t.ch.getD k 0 = c) := hc
  have hk' : (k : Int) < 400 := by omega
  have HCU : Hid (Pack.cut t k = C) := hC
  have HOK : Hid (Pack.Ok t) := ok
  obtain ⟨R, hR⟩ : ∃ R, R = t.rng := ⟨_, rfl⟩
  clear hq h hC hc ok
  go_enter Tryd.func10, Tryd.ntmps10
  go_wp2
  go_quiet ((go_at_call 15; exact Calls.quiet_of_same (chCut _ b 3 k t.rng c hk (by simpa using hck) (by omega) (by omega) (by omega) (by omega))))
  rw [hrc]
  go_wp2_with (first
    | (go_at_call 16; refine (pRaise _ B b v t C (by omega) (HP.out.drewN _) (by omega) (by omega)).mono ?_; rintro e w1 ⟨rfl, hp1, hf1⟩; have j2 := hp1.c2; have j2f := hp1.fz 2 (by decide); have hck1 := hp1.ch.cell k hk; have hfk1 := hp1.ch.fz k hk)
    | (go_at_call 17; refine (chLearn1 _ b 3 k c hk (by exact cell_off (hck1.trans (by rw [← HC.out])) (.inr (by omega))) (by simp only [World.frozen?_setCell]; exact hfk1) c0 c1).mono ?_; rintro e w2 ⟨rfl, rfl⟩))
  have HQn : PW ((w1.setCell ⟨b, 2, none⟩ (.int .u32 (t.rng - C))).setCell ⟨b, 3 + k, none⟩ (.int .u32 (c - c / 32))).drew B b v q := by rw [HH.out]; exact ((hp1.put2 (t.rng - C)).putC k _).drew
  have HFn : Below B w ((w1.setCell ⟨b, 2, none⟩ (.int .u32 (t.rng - C))).setCell ⟨b, 3 + k, none⟩ (.int .u32 (c - c / 32))).drew := below_drew ((((below_drewN (Below.refl B w) nq).trans (hf1.below (show B ≤ w.heap.size from hBw) (fun j hj => by rcases hj with rfl | hj; exact hbB; exact hvB j hj))).setCell hbB _).setCell hbB _)
  clear hckn hfkn hck hfk i2 f2
  go_loopw [39] (fun _ wr => (PW wr B b v q ∨ (q.rng < 16777216 ∧ ∃ v', PW wr B b v' (Pack.pull q) ∧ vLo B v')) ∧ Below B w wr) (fun _ wr => 16777216 - wspanOf wr b)
  case atStart => exact ⟨.inl HQn, HFn⟩
  case round =>
    clear HQn HFn
    obtain ⟨hor, hbr⟩ := hrel
    rcases hor with hp | ⟨hlow, v', hp, hvl⟩
    · have i0 := hp.c0
      have i1 := hp.c1
      have i2 := hp.c2
      have f0 := hp.fz 0 (by decide)
      have f1 := hp.fz 1 (by decide)
      have f2 := hp.fz 2 (by decide)
      by_cases hlow : q.rng < 16777216
      · obtain ⟨k0, hi', hy0, hy1, hy2⟩ := info_parts infoU8
        have hpo := hp.own
        unfold Octs at hpo
        rw [Pack.digs_length] at hpo
        obtain ⟨L, hL⟩ : ∃ L, L = q.n % 4294967296 := ⟨_, rfl⟩
        rw [← hL] at i1
        have L0 : 0 ≤ L := by omega
        have L1 : L ≤ 4294967295 := by omega
        have HL : Hid (L = q.n % 4294967296) := hL
        clear hL
        have hbup := hp.up
        have hne := hp.ne
        have HPP : Hid (PW wr B b v q) := hp
        have hBr : B ≤ wr.heap.size := by have := hbr.size; omega
        clear hp
        go_wp2
        go_region_law ((refine step_append_lies _ (by rfl) _ _ _ (by rfl) B 5 k0 _ 1 1 Tryd.underlying48 hi' hy0 hy1 hy2 rfl (by omega) v q.m (octs (Pack.digs q.m (q.n / 4294967296))) (by rfl) ((hpo.alloc _).drew) ⟨wr.heap.size, 0, none⟩ 1 1 [.int .u8 (L / 16777216 % 256)] (by rfl) (by rfl) (World.news_of_block (cs := #[.int .u8 (L / 16777216 % 256)]) (t := 5) (fr := (0, 0)) (heap_alloc_new wr _)) (by simp [Value.oneCell']) (by omega) (by unfold maxLen; omega) (by omega) (by simp; omega) (wr.heap.size + 1) (by simp) ?_; intro gg cap w5 hown5 hgrow hat hlt5; have sf5 : w5.frozen? ⟨b, 0, none⟩ = false := ((hgrow.frozen_far ⟨b, 0, none⟩ (by simp; omega) (Ne.symm hne)).trans (frozen_alloc_drew hbup)).trans f0; have sc5 : w5.cell? ⟨b, 0, none⟩ = some v := ((hgrow.cell_far ⟨b, 0, none⟩ (by simp; omega) (Ne.symm hne)).trans (cell_alloc_drew hbup)).trans i0))
        all_goals
          have hsz5 := hgrow.size
          have hblk : w5.heap[b]? = wr.heap[b]? := (hgrow.block b (by simp; omega) (Ne.symm hne)).trans (Below.heap_alloc wr _ b hbup)
          have sc1 : w5.cell? ⟨b, 1, none⟩ = some (.int .u32 L) := (World.cell?_of_block (a := ⟨b, 1, none⟩) hblk).trans i1
          have sc2 : w5.cell? ⟨b, 2, none⟩ = some (.int .u32 q.rng) := (World.cell?_of_block (a := ⟨b, 2, none⟩) hblk).trans i2
          have sf1 : w5.frozen? ⟨b, 1, none⟩ = false := (World.frozen?_of_block (a := ⟨b, 1, none⟩) hblk).trans f1
          have sf2 : w5.frozen? ⟨b, 2, none⟩ = false := (World.frozen?_of_block (a := ⟨b, 2, none⟩) hblk).trans f2
          have HG := hgrow
          have HGH : Hid ((wr.alloc (Obj.cells #[Value.int IntKind.u8 (IntKind.u8.wrap (L / 16777216))] 5)).drew.grownBy w5 v.ownBlock) := hgrow
          clear HG hgrow
          go_wp2
          refine ⟨⟨.inr ⟨hlow, _, put_done HPP.out hown5 hblk (by simp at hsz5; omega) hat HL.out hbup, fun j hj => by injection hj with hj; exact hj ▸ (World.ownsRow.lt hown5 gg rfl).1⟩, ?_⟩, ?_⟩
          · exact ((((hbr.alloc hBr _).trans (below_drew (Below.refl B _))).grown HGH.out (by simp; omega) (fun j e => hvB j e)).setCell hbB _).setCell hbB _ |>.setCell hbB _
          · rw [wspanOf_eq HPP.out, wspanOf_eq (put_done HPP.out hown5 hblk (by simp at hsz5; omega) hat HL.out hbup)]
            show 16777216 - (256 * q.rng).toNat < 16777216 - q.rng.toNat
            omega
      · go_wp2
        go_end0
        exact ⟨rfl, v, by unfold Pack.norm; rw [if_neg (by omega)]; exact hp, hvB, hbr⟩
    · have i2 := hp.c2
      have hr : ¬ (Pack.pull q).rng < 16777216 := by show ¬ 256 * q.rng < 16777216; omega
      go_wp2
      go_end0
      exact ⟨rfl, v', by unfold Pack.norm; rw [if_pos hlow]; exact hp, hvl, hbr⟩

theorem pPut (w : World) (B b : Nat) (v : Value) (t : WS) (k : Nat) (x : Int) (h : PW w B b v t) (ok : Pack.Ok t) (hm : t.m ≤ 100000) (hk : k < 400) (hx : x = 0 ∨ x = 1) (hbB : B ≤ b) (hBw : B ≤ w.heap.size) (hvB : vLo B v) :
    Calls Tryd.prog 10 #[.pointer (some ⟨b, 0, none⟩), .int .i64 k, .int .i64 x] w fun e w' => e = .returned (.tuple #[]) ∧ ∃ v', PW w' B b v' (Pack.put t k x) ∧ vLo B v' ∧ Below B w w' := by
  rcases hx with rfl | rfl
  · exact pPut_zero w B b v t k _ _ h ok hm hk hbB hvB rfl rfl
  · exact pPut_one w B b v t k _ _ h ok hm hk hbB hBw hvB rfl rfl

end Go.Proofs.YtnjndbckejghcaaDoor
