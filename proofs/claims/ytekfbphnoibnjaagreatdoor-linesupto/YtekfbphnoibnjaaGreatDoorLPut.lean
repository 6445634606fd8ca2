/-
  The program's packer packs one bit.
-/
import Derived.Test.YtekfbphnoibnjaaGreatDoorLCrs
namespace Go.Proofs.YtekfbphnoibnjaaGreatDoor
open Go.RowKit

/-- A packer's value keeps its memory from B on. -/
def vLo (B : Nat) (v : Value) : Prop := ∀ k, v.ownBlock = some k → B ≤ k

theorem PW.crs {w : World} {B b : Nat} {v : Value} {t : WS} (h : PW w B b v t) : Crs w b t.rng t.ch := ⟨h.c2, h.fz 0 (by decide), h.ch⟩
theorem PW.part {w w' : World} {B b : Nat} {v : Value} {t : WS} (h : PW w B b v t) {r : Int} {ch : List Int} (hc : Crs w' b r ch) (hp : Part b w w') : PW w' B b v { t with rng := r, ch := ch } :=
  ⟨(hp.cell 401 (by decide)).trans h.c0, by have := h.own; unfold Octs at this ⊢; exact hp.frm.owns this (fun k hk e => h.ne (by rw [hk, e])), h.ne, (hp.cell 402 (by decide)).trans h.c1, hc.c2, fun o ho => (hp.fz o).trans (h.fz o ho), hc.ch, Nat.lt_of_lt_of_le h.up hp.frm.size⟩

theorem put_done {wr w5 : World} {B b gg cap : Nat} {v : Value} {q : WS} {L : Int} (h : PW wr B b v q) (ho : w5.ownsRow B 5 1 (.slice (some ⟨gg, 0, none⟩) (q.m + 1) cap) (q.m + 1) (octs (Pack.digs q.m (q.n / 4294967296)) ++ [.int .u8 (L / 16777216 % 256)]))
    (hb : w5.heap[b]? = wr.heap[b]?) (hz : wr.heap.size ≤ w5.heap.size) (hat : v.ownBlock = some gg ∨ gg = wr.heap.size + 1) (hL : L = q.n % 4294967296) (hbup : b < wr.heap.size) :
    PW ((w5.setCell ⟨b, 401, none⟩ (.slice (some ⟨gg, 0, none⟩) (q.m + 1) cap)).setCell ⟨b, 402, none⟩ (.int .u32 (L * 256 % 4294967296))) B b (.slice (some ⟨gg, 0, none⟩) (q.m + 1) cap) { q with n := 256 * q.n, m := q.m + 1 } := by
  have hg : gg ≠ b := by
    rcases hat with h' | h'
    · exact fun e => h.ne (by rw [h', e])
    · omega
  rw [show L * 256 % 4294967296 = 256 * q.n % 4294967296 by omega]
  have hne : (Value.slice (some ⟨gg, 0, none⟩) (q.m + 1) cap).ownBlock ≠ some b := by simp [Value.ownBlock]; exact hg
  have hc : ∀ o, w5.cell? ⟨b, o, none⟩ = wr.cell? ⟨b, o, none⟩ := fun o => World.cell?_of_block (a := ⟨b, o, none⟩) hb
  have ho' : Octs w5 B (.slice (some ⟨gg, 0, none⟩) (q.m + 1) cap) (Pack.digs (q.m + 1) (256 * q.n / 4294967296)) := by
    unfold Octs
    rw [Pack.digs_length, Pack.digs, ← octs_snoc]
    rw [show 256 * q.n / 4294967296 / 256 = q.n / 4294967296 by omega, show 256 * q.n / 4294967296 % 256 = L / 16777216 % 256 by omega]
    exact ho
  refine ⟨cell_off (World.cell?_setCell_same _ _ _ ((hc 401).trans h.c0)) (.inr (by decide)), (ho'.set b 401 _ hne).set b 402 _ hne, hne, ?_, ?_, fun o hlt => ?_, ?_, ?_⟩
  · exact World.cell?_setCell_same _ _ _ (cell_off ((hc 402).trans h.c1) (.inr (by decide)))
  · exact cell_off (cell_off ((hc 0).trans h.c2) (.inr (by decide))) (.inr (by decide))
  · simp only [World.frozen?_setCell]
    exact (World.frozen?_of_block (a := ⟨b, o, none⟩) hb).trans (h.fz o hlt)
  · exact ((h.ch.on hb).off (.inr (.inr (by decide)))).off (.inr (.inr (by decide)))
  · simp only [World.size_setCell]; exact Nat.lt_of_lt_of_le h.up hz

theorem put_parts (t : WS) (k : Nat) (x : Int) (hx : x = 0 ∨ x = 1) : Pack.put t k x = if Pack.shifts t k x = 1 then { t with n := 256 * (t.n + Pack.rise t k x), m := t.m + 1, rng := (Pack.put t k x).rng, ch := (Pack.put t k x).ch } else { t with n := t.n + Pack.rise t k x, rng := (Pack.put t k x).rng, ch := (Pack.put t k x).ch } := by
  have hn : (Pack.half t k x).n = t.n + Pack.rise t k x := by
    unfold Pack.half Pack.rise
    rcases hx with rfl | rfl
    · simp [Pack.zero]
    · simp [Pack.one]
  have hm := Pack.half_m t k x
  rw [Pack.put_eq]
  unfold Pack.norm Pack.shifts
  by_cases h : (Pack.half t k x).rng < 16777216
  · rw [if_pos h, if_pos h, if_pos rfl]
    unfold Pack.pull
    rw [hn, hm]
  · rw [if_neg h, if_neg h, if_neg (by decide), ← hn, ← hm]

theorem shifts_or (t : WS) (k : Nat) (x : Int) : Pack.shifts t k x = 0 ∨ Pack.shifts t k x = 1 := by unfold Pack.shifts; split <;> simp

set_option maxHeartbeats 2000000 in
set_option maxRecDepth 20000 in
theorem pPut (w : World) (B b : Nat) (v : Value) (t : WS) (k : Nat) (x : Int) (h : PW w B b v t) (ok : Pack.Ok t) (hm : t.m ≤ 100000) (hk : k < 400) (hx : x = 0 ∨ x = 1) (hbB : B ≤ b) (hBw : B ≤ w.heap.size) (hvB : vLo B v) :
    Calls Tryz.prog 82 #[.pointer (some ⟨b, 0, none⟩), .int .i64 k, .int .i64 x] w fun e w' => e = .returned (.tuple #[]) ∧ ∃ v', PW w' B b v' (Pack.put t k x) ∧ vLo B v' ∧ Below B w w' := by
  obtain ⟨Rs, hRs⟩ : ∃ Rs, Rs = Pack.rise t k x := ⟨_, rfl⟩
  obtain ⟨Sh, hSh⟩ : ∃ Sh, Sh = Pack.shifts t k x := ⟨_, rfl⟩
  obtain ⟨P, hP⟩ : ∃ P, P = Pack.put t k x := ⟨_, rfl⟩
  have HT := pTake w b t k x h.crs ok hk hx
  have HPP : Hid (P = if Sh = 1 then { t with n := 256 * (t.n + Rs), m := t.m + 1, rng := P.rng, ch := P.ch } else { t with n := t.n + Rs, rng := P.rng, ch := P.ch }) := by
    unfold Hid; rw [hP, hSh, hRs]; exact put_parts t k x hx
  have hcb := Pack.cut_bd ok hk
  have r1 := ok.r1
  have n0 := ok.n0
  have Rb : 0 ≤ Rs ∧ Rs ≤ 4294967295 := by rw [hRs]; unfold Pack.rise; split <;> omega
  have Sb := shifts_or t k x
  rw [← hSh] at Sb
  rw [← hRs, ← hSh, ← hP] at HT
  rw [← hP]
  have HTT : Hid (Calls Tryz.prog 117 #[.pointer (some ⟨b, 0, none⟩), .int .i64 k, .int .i64 x] w fun e w' => e = .returned (.tuple #[.int .u32 Rs, .int .i64 Sh]) ∧ Crs w' b P.rng P.ch ∧ Part b w w') := HT
  have HH : Hid (PW w B b v t) := h
  have hup := h.up
  clear HT hRs hSh hP hcb ok h
  go_enter Tryz.func82, Tryz.ntmps82
  go_wp2_with (first
    | (go_at_call 117; refine HTT.out.mono ?_; rintro e w1 ⟨rfl, hc1, hp1⟩)
    | (go_at_call 118; refine (pRaise _ B b v { t with rng := P.rng, ch := P.ch } Rs (by show t.m ≤ 1000000; omega) (HH.out.part hc1 hp1) Rb.1 Rb.2).mono ?_; rintro e w2 ⟨rfl, hp2, hf2⟩))
  obtain ⟨q, hq⟩ : ∃ q : WS, q = { t with n := t.n + Rs, rng := P.rng, ch := P.ch } := ⟨_, rfl⟩
  have hq0 : 0 ≤ q.n := by rw [hq]; show 0 ≤ t.n + Rs; omega
  have hqm : q.m ≤ 100000 := by rw [hq]; exact hm
  have HQ : Hid (P = if Sh = 1 then { q with n := 256 * q.n, m := q.m + 1 } else q) := by rw [hq]; exact HPP.out
  have hb2 : Below B w w2 := (hp1.frm.below hBw (fun j e => by rw [e]; exact hbB)).trans (hf2.below (Nat.le_trans hBw hp1.frm.size) (fun j hj => by rcases hj with rfl | hj; exact hbB; exact hvB j hj))
  have hpq : PW w2 B b v q := by rw [hq]; exact hp2
  have HPQ : Hid (PW w2 B b v q ∧ Below B w w2) := ⟨hpq, hb2⟩
  clear hc1 hp1 hp2 hf2 hb2 hpq hq HPP
  go_loopw [21] (fun iv wr => (iv = .int .i64 0 ∧ wr = w2) ∨ (iv = .int .i64 1 ∧ Sh = 1 ∧ (∃ v', PW wr B b v' { q with n := 256 * q.n, m := q.m + 1 } ∧ vLo B v') ∧ Below B w wr)) (fun iv _ => 1 - (intOf iv).toNat)
  case atStart => exact .inl ⟨rfl, rfl⟩
  case round =>
    rcases hrel with ⟨rfl, rfl⟩ | ⟨rfl, hS1, ⟨v', hp, hvl⟩, hbr⟩
    · rcases Sb with hS | hS
      · subst hS
        go_wp2
        go_end0
        refine ⟨rfl, v, ?_, hvB, HPQ.out.2⟩
        rw [HQ.out, if_neg (by decide)]
        exact HPQ.out.1
      · subst hS
        have hp := HPQ.out.1
        have hbr := HPQ.out.2
        have i0 := hp.c0
        have i1 := hp.c1
        have f0 := hp.fz 401 (by decide)
        have f1 := hp.fz 402 (by decide)
        obtain ⟨k0, hi', hy0, hy1, hy2⟩ := info_parts infoU8
        have hpo := hp.own
        unfold Octs at hpo
        rw [Pack.digs_length] at hpo
        obtain ⟨L, hL⟩ : ∃ L, L = q.n % 4294967296 := ⟨_, rfl⟩
        rw [← hL] at i1
        have L0 : 0 ≤ L := by omega
        have L1 : L ≤ 4294967295 := by omega
        have HL : Hid (L = q.n % 4294967296) := hL
        clear hL
        have hbup := hp.up
        have hne := hp.ne
        have hBr : B ≤ wr.heap.size := by have := hbr.size; omega
        have HBR : Hid (Below B w wr) := hbr
        clear hp hbr
        go_wp2
        go_region_law ((refine step_append_lies _ (by rfl) _ _ _ (by rfl) B 5 k0 _ 1 1 Tryz.underlying101 hi' hy0 hy1 hy2 rfl (by omega) v q.m (octs (Pack.digs q.m (q.n / 4294967296))) (by rfl) ((hpo.alloc _).drew) ⟨wr.heap.size, 0, none⟩ 1 1 [.int .u8 (L / 16777216 % 256)] (by rfl) (by rfl) (World.news_of_block (cs := #[.int .u8 (L / 16777216 % 256)]) (t := 5) (fr := (0, 0)) (heap_alloc_new wr _)) (by simp [Value.oneCell']) (by omega) (by unfold maxLen; omega) (by omega) (by simp; omega) (wr.heap.size + 1) (by simp) ?_; intro gg cap w5 hown5 hgrow hat hlt5; have sf5 : w5.frozen? ⟨b, 401, none⟩ = false := ((hgrow.frozen_far ⟨b, 401, none⟩ (by simp; omega) (Ne.symm hne)).trans (frozen_alloc_drew hbup)).trans f0; have sc5 : w5.cell? ⟨b, 401, none⟩ = some v := ((hgrow.cell_far ⟨b, 401, none⟩ (by simp; omega) (Ne.symm hne)).trans (cell_alloc_drew hbup)).trans i0))
        all_goals
          have hsz5 := hgrow.size
          have hblk : w5.heap[b]? = wr.heap[b]? := (hgrow.block b (by simp; omega) (Ne.symm hne)).trans (Below.heap_alloc wr _ b hbup)
          have sc1 : w5.cell? ⟨b, 402, none⟩ = some (.int .u32 L) := (World.cell?_of_block (a := ⟨b, 402, none⟩) hblk).trans i1
          have sf1 : w5.frozen? ⟨b, 402, none⟩ = false := (World.frozen?_of_block (a := ⟨b, 402, none⟩) hblk).trans f1
          have HGH : Hid ((wr.alloc (Obj.cells #[Value.int IntKind.u8 (IntKind.u8.wrap (L / 16777216))] 5)).drew.grownBy w5 v.ownBlock) := hgrow
          clear hgrow
          go_wp2
          go_roundw
          case rel =>
            refine .inr ⟨rfl, trivial, ⟨_, put_done HPQ.out.1 hown5 hblk (by simp at hsz5; omega) hat HL.out hbup, fun j hj => by injection hj with hj; exact hj ▸ (World.ownsRow.lt hown5 gg rfl).1⟩, ?_⟩
            exact (((HBR.out.alloc hBr _).trans (below_drew (Below.refl B _))).grown HGH.out (by simp; omega) (fun j e => hvB j e)).setCell hbB _ |>.setCell hbB _
          case measure => simp [intOf]
    · subst hS1
      go_wp2
      go_end0
      refine ⟨rfl, v', ?_, hvl, hbr⟩
      rw [HQ.out, if_pos trivial]
      exact hp

end Go.Proofs.YtekfbphnoibnjaaGreatDoor
