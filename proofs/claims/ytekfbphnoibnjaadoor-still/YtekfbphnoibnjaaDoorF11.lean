/-
  The program's course of a line: the range is narrowed to the part of a bit. The program's packer packs one bit. A draft of a line, in memory: begun. A draft of a line, in memory: a bit is put.
-/
import Derived.Test.YtekfbphnoibnjaaDoorF10
import Derived.Test.YtekfbphnoibnjaaDoorF01
import Derived.Deep.MidRow
namespace Go.Proofs.YtekfbphnoibnjaaDoor
open Go.RowKit
theorem below_drew {B : Nat} {a w : World} (h : Below B a w) : Below B a w.drew := h.trans ⟨rfl, rfl, rfl, Nat.le_refl _, fun _ _ => rfl⟩
def Pack.rise (t : WS) (k : Nat) (x : Int) : Int := if x = 0 then 0 else Pack.cut t k
def Pack.shifts (t : WS) (k : Nat) (x : Int) : Int := if (Pack.half t k x).rng < 16777216 then 1 else 0
structure Part (b : Nat) (w w' : World) : Prop where
 frm : Frm (fun k => k = b) w w'
 cell : ∀ j, 401 <= j -> w'.cell? ⟨b, j, none⟩ = w.cell? ⟨b, j, none⟩
 fz : ∀ j, w'.frozen? ⟨b, j, none⟩ = w.frozen? ⟨b, j, none⟩
theorem Part.refl (b : Nat) (w : World) : Part b w w := ⟨Frm.refl _ _, fun _ _ => rfl, fun _ => rfl⟩
theorem Part.trans {b : Nat} {a w v : World} (h : Part b a w) (k : Part b w v) : Part b a v := ⟨h.frm.trans k.frm, fun j hj => (k.cell j hj).trans (h.cell j hj), fun j => (k.fz j).trans (h.fz j)⟩
theorem Part.set {b : Nat} {a w : World} (h : Part b a w) {o : Nat} (ho : o < 401) (u : Value) : Part b a (w.setCell ⟨b, o, none⟩ u) :=
 ⟨h.frm.setCell (.inl rfl) u, fun j hj => by
  rw [World.cell?_setCell_other]
  ·exact h.cell j hj
  ·intro e
   simp only [Addr.mk.injEq, and_true, true_and] at e
   omega, fun j => by rw [World.frozen?_setCell]; exact h.fz j⟩
theorem Part.drew {b : Nat} {a w : World} (h : Part b a w) : Part b a w.drew := ⟨h.frm.drew, h.cell, h.fz⟩
theorem Part.drewN {b : Nat} {a w : World} (h : Part b a w) (n : Nat) : Part b a (w.drewN n) := ⟨h.frm.drewN n, h.cell, h.fz⟩
structure Crs (w : World) (b : Nat) (rng : Int) (ch : List Int) : Prop where
 c2 : w.cell? ⟨b, 0, none⟩ = some (.int .u32 rng)
 f2 : w.frozen? ⟨b, 0, none⟩ = false
 ch : ChAt w b 1 ch
theorem Crs.drewN {w : World} {b : Nat} {r : Int} {ch : List Int} (h : Crs w b r ch) (n : Nat) : Crs (w.drewN n) b r ch := ⟨h.c2, h.f2, h.ch.on rfl⟩
theorem Crs.drew {w : World} {b : Nat} {r : Int} {ch : List Int} (h : Crs w b r ch) : Crs w.drew b r ch := ⟨h.c2, h.f2, h.ch.on rfl⟩
theorem Crs.put2 {w : World} {b : Nat} {r : Int} {ch : List Int} (h : Crs w b r ch) (q : Int) : Crs (w.setCell ⟨b, 0, none⟩ (.int .u32 q)) b q ch :=
 ⟨World.cell?_setCell_same _ _ _ h.c2, by rw [World.frozen?_setCell]; exact h.f2, h.ch.off (.inr (.inl (by decide)))⟩
theorem Crs.putC {w : World} {b : Nat} {r : Int} {ch : List Int} (h : Crs w b r ch) (k : Nat) (c : Int) : Crs (w.setCell ⟨b, 1 + k, none⟩ (.int .u32 c)) b r (ch.set k c) :=
 ⟨cell_off h.c2 (.inr (by omega)), by rw [World.frozen?_setCell]; exact h.f2, h.ch.set k c⟩
def wspanOf (w : World) (b : Nat) : Nat := (intOf ((w.cell? ⟨b, 0, none⟩).getD undef)).toNat
theorem wspanOf_eq {w : World} {b : Nat} {r : Int} {ch : List Int} (h : Crs w b r ch) : wspanOf w b = r.toNat := by
 unfold wspanOf; rw [h.c2]; rfl
set_option maxHeartbeats 2000000 in
set_option maxRecDepth 20000 in
theorem pTake_zero (w : World) (b : Nat) (t : WS) (k : Nat) (C c : Int) (h : Crs w b t.rng t.ch) (ok : Pack.Ok t) (hk : k < 400) (hC : Pack.cut t k = C) (hc : t.ch.getD k 0 = c) :
  Calls Tryd.prog 20 #[.pointer (some ⟨b, 0, none⟩), .int .i64 k, .int .i64 0] w fun x w' => x = .returned (.tuple #[.int .u32 0, .int .i64 (Pack.shifts t k 0)]) /\ Crs w' b (Pack.put t k 0).rng (Pack.put t k 0).ch /\ Part b w w' := by
 have hcb := Pack.cut_bd ok hk
 rw [hC] at hcb
 have hcd := ok.ch.2 k hk
 rw [hc] at hcd
 obtain ⟨c0, c1⟩ := hcd
 have r0 := ok.r0
 have r1 := ok.r1
 obtain ⟨q, hq⟩ : ∃ q : WS, q = Pack.zero t k := ⟨_, rfl⟩
 have HH : Hid (q.rng = C /\ q.ch = t.ch.set k (c + (4096 - c) / 32)) := by rw [hq]; unfold Pack.zero; rw [hC, hc]; exact ⟨rfl, rfl⟩
 have HPT : Hid (Pack.put t k 0 = Pack.norm q /\ Pack.shifts t k 0 = if q.rng < 16777216 then 1 else 0) := by rw [hq]; exact ⟨rfl, rfl⟩
 have q0 : 126976 <= q.rng := by rw [HH.out.1]; omega
 have q1 : q.rng <= 4294967295 := by rw [HH.out.1]; omega
 have hck := h.ch.cell k hk
 have hrc : t.rng / 4096 * c = C := by rw [<- hC, <- hc]; rfl
 rw [hc] at hck
 have hfk := h.ch.fz k hk
 have hckn : ∀ n : Nat, (w.drewN n).cell? ⟨b, 1 + k, none⟩ = some (.int .u32 c) := fun n => hck
 have hfkn : ∀ n : Nat, (w.drewN n).frozen? ⟨b, 1 + k, none⟩ = false := fun n => hfk
 have i2 := h.c2
 have f2 := h.f2
 have HP : Hid (Crs w b t.rng t.ch) := h
 have hk' : (k : Int) < 400 := by omega
 clear hq h hC hc ok
 go_enter Tryd.func20, Tryd.ntmps20
 go_wp2
 go_quiet ((go_at_call 33; exact Calls.quiet_of_same (chCut _ b 1 k t.rng c hk (by simpa using hck) (by omega) (by omega) (by omega) (by omega))))
 rw [hrc]
 go_wp2_with (go_at_call 34; refine (chLearn0 _ b 1 k c hk (by exact cell_off (hckn _) (.inr (by omega))) (by simp only [World.frozen?_setCell]; exact hfkn _) c0 c1).mono ?_; rintro e w1 ⟨rfl, rfl⟩)
 have HQn : Crs (((w.drewN nq).setCell ⟨b, 0, none⟩ (.int .u32 C)).setCell ⟨b, 1 + k, none⟩ (.int .u32 (c + (4096 - c) / 32))).drew b q.rng q.ch := by rw [HH.out.1, HH.out.2]; exact (((HP.out.drewN nq).put2 C).putC k _).drew
 have HFn : Part b w (((w.drewN nq).setCell ⟨b, 0, none⟩ (.int .u32 C)).setCell ⟨b, 1 + k, none⟩ (.int .u32 (c + (4096 - c) / 32))).drew := (((((Part.refl b w).drewN nq).set (by decide) _).set (by omega) _)).drew
 clear hckn hfkn hck hfk i2 f2
 go_loopw [7] (fun sv wr => ((Crs wr b q.rng q.ch /\ sv = .int .i64 0) \/ (q.rng < 16777216 /\ sv = .int .i64 1 /\ Crs wr b (256 * q.rng) q.ch)) /\ Part b w wr) (fun _ wr => 16777216 - wspanOf wr b)
 case atStart => exact ⟨.inl ⟨HQn, rfl⟩, HFn⟩
 case round =>
  clear HQn HFn
  obtain ⟨hor, hbr⟩ := hrel
  rcases hor with ⟨hp, rfl⟩ | ⟨hlow, rfl, hp⟩
  ·have i2 := hp.c2
   have f2 := hp.f2
   by_cases hlow : q.rng < 16777216
   ·have hw : IntKind.u32.wrap (q.rng * 256) = 256 * q.rng := by rw [wrap_u32 (by omega) (by omega), Int.mul_comm]
    go_wp2
    go_roundw
    case rel => exact ⟨.inr ⟨hlow, rfl, by rw [Int.mul_comm 256 q.rng]; exact hp.put2 _⟩, hbr.set (by decide) _⟩
    case measure => rw [wspanOf_eq hp, wspanOf_eq (hp.put2 _)]; omega
   ·go_wp2
    go_ret2
    refine ⟨?_, ?_, hbr⟩
    ·rw [HPT.out.2, if_neg (by omega)]; rfl
    ·rw [HPT.out.1]; unfold Pack.norm; rw [if_neg (by omega)]; exact hp
  ·have i2 := hp.c2
   have hr : ¬ 256 * q.rng < 16777216 := by omega
   go_wp2
   go_ret2
   refine ⟨?_, ?_, hbr⟩
   ·rw [HPT.out.2, if_pos hlow]; rfl
   ·rw [HPT.out.1]; unfold Pack.norm; rw [if_pos hlow]; exact hp
set_option maxHeartbeats 2000000 in
set_option maxRecDepth 20000 in
theorem pTake_one (w : World) (b : Nat) (t : WS) (k : Nat) (C c : Int) (h : Crs w b t.rng t.ch) (ok : Pack.Ok t) (hk : k < 400) (hC : Pack.cut t k = C) (hc : t.ch.getD k 0 = c) :
  Calls Tryd.prog 20 #[.pointer (some ⟨b, 0, none⟩), .int .i64 k, .int .i64 1] w fun x w' => x = .returned (.tuple #[.int .u32 C, .int .i64 (Pack.shifts t k 1)]) /\ Crs w' b (Pack.put t k 1).rng (Pack.put t k 1).ch /\ Part b w w' := by
 have hcb := Pack.cut_bd ok hk
 rw [hC] at hcb
 have hcd := ok.ch.2 k hk
 rw [hc] at hcd
 obtain ⟨c0, c1⟩ := hcd
 have r0 := ok.r0
 have r1 := ok.r1
 obtain ⟨q, hq⟩ : ∃ q : WS, q = Pack.one t k := ⟨_, rfl⟩
 have HH : Hid (q.rng = t.rng - C /\ q.ch = t.ch.set k (c - c / 32)) := by rw [hq]; unfold Pack.one; rw [hC, hc]; exact ⟨rfl, rfl⟩
 have HPT : Hid (Pack.put t k 1 = Pack.norm q /\ Pack.shifts t k 1 = if q.rng < 16777216 then 1 else 0) := by rw [hq]; exact ⟨rfl, rfl⟩
 have q0 : 126976 <= q.rng := by rw [HH.out.1]; omega
 have q1 : q.rng <= 4294967295 := by rw [HH.out.1]; omega
 have hck := h.ch.cell k hk
 have hrc : t.rng / 4096 * c = C := by rw [<- hC, <- hc]; rfl
 rw [hc] at hck
 have hfk := h.ch.fz k hk
 have hckn : ∀ n : Nat, (w.drewN n).cell? ⟨b, 1 + k, none⟩ = some (.int .u32 c) := fun n => hck
 have hfkn : ∀ n : Nat, (w.drewN n).frozen? ⟨b, 1 + k, none⟩ = false := fun n => hfk
 have i2 := h.c2
 have f2 := h.f2
 have HP : Hid (Crs w b t.rng t.ch) := h
 have hk' : (k : Int) < 400 := by omega
 clear hq h hC hc ok
 go_enter Tryd.func20, Tryd.ntmps20
 go_wp2
 go_quiet ((go_at_call 33; exact Calls.quiet_of_same (chCut _ b 1 k t.rng c hk (by simpa using hck) (by omega) (by omega) (by omega) (by omega))))
 rw [hrc]
 go_wp2_with (go_at_call 34; refine (chLearn1 _ b 1 k c hk (by exact cell_off (hckn _) (.inr (by omega))) (by simp only [World.frozen?_setCell]; exact hfkn _) c0 c1).mono ?_; rintro e w1 ⟨rfl, rfl⟩)
 have HQn : Crs (((w.drewN nq).setCell ⟨b, 0, none⟩ (.int .u32 (t.rng - C))).setCell ⟨b, 1 + k, none⟩ (.int .u32 (c - c / 32))).drew b q.rng q.ch := by rw [HH.out.1, HH.out.2]; exact (((HP.out.drewN nq).put2 (t.rng - C)).putC k _).drew
 have HFn : Part b w (((w.drewN nq).setCell ⟨b, 0, none⟩ (.int .u32 (t.rng - C))).setCell ⟨b, 1 + k, none⟩ (.int .u32 (c - c / 32))).drew := (((((Part.refl b w).drewN nq).set (by decide) _).set (by omega) _)).drew
 clear hckn hfkn hck hfk i2 f2
 go_loopw [7] (fun sv wr => ((Crs wr b q.rng q.ch /\ sv = .int .i64 0) \/ (q.rng < 16777216 /\ sv = .int .i64 1 /\ Crs wr b (256 * q.rng) q.ch)) /\ Part b w wr) (fun _ wr => 16777216 - wspanOf wr b)
 case atStart => exact ⟨.inl ⟨HQn, rfl⟩, HFn⟩
 case round =>
  clear HQn HFn
  obtain ⟨hor, hbr⟩ := hrel
  rcases hor with ⟨hp, rfl⟩ | ⟨hlow, rfl, hp⟩
  ·have i2 := hp.c2
   have f2 := hp.f2
   by_cases hlow : q.rng < 16777216
   ·have hw : IntKind.u32.wrap (q.rng * 256) = 256 * q.rng := by rw [wrap_u32 (by omega) (by omega), Int.mul_comm]
    go_wp2
    go_roundw
    case rel => exact ⟨.inr ⟨hlow, rfl, by rw [Int.mul_comm 256 q.rng]; exact hp.put2 _⟩, hbr.set (by decide) _⟩
    case measure => rw [wspanOf_eq hp, wspanOf_eq (hp.put2 _)]; omega
   ·go_wp2
    go_ret2
    refine ⟨?_, ?_, hbr⟩
    ·rw [HPT.out.2, if_neg (by omega)]; rfl
    ·rw [HPT.out.1]; unfold Pack.norm; rw [if_neg (by omega)]; exact hp
  ·have i2 := hp.c2
   have hr : ¬ 256 * q.rng < 16777216 := by omega
   go_wp2
   go_ret2
   refine ⟨?_, ?_, hbr⟩
   ·rw [HPT.out.2, if_pos hlow]; rfl
   ·rw [HPT.out.1]; unfold Pack.norm; rw [if_pos hlow]; exact hp
theorem pTake (w : World) (b : Nat) (t : WS) (k : Nat) (x : Int) (h : Crs w b t.rng t.ch) (ok : Pack.Ok t) (hk : k < 400) (hx : x = 0 \/ x = 1) :
  Calls Tryd.prog 20 #[.pointer (some ⟨b, 0, none⟩), .int .i64 k, .int .i64 x] w fun e w' => e = .returned (.tuple #[.int .u32 (Pack.rise t k x), .int .i64 (Pack.shifts t k x)]) /\ Crs w' b (Pack.put t k x).rng (Pack.put t k x).ch /\ Part b w w' := by
 rcases hx with rfl | rfl
 ·exact pTake_zero w b t k _ _ h ok hk rfl rfl
 ·exact pTake_one w b t k _ _ h ok hk rfl rfl
end Go.Proofs.YtekfbphnoibnjaaDoor
namespace Go.Proofs.YtekfbphnoibnjaaDoor
open Go.RowKit
def vLo (B : Nat) (v : Value) : Prop := ∀ k, v.ownBlock = some k -> B <= k
theorem PW.crs {w : World} {B b : Nat} {v : Value} {t : WS} (h : PW w B b v t) : Crs w b t.rng t.ch := ⟨h.c2, h.fz 0 (by decide), h.ch⟩
theorem PW.part {w w' : World} {B b : Nat} {v : Value} {t : WS} (h : PW w B b v t) {r : Int} {ch : List Int} (hc : Crs w' b r ch) (hp : Part b w w') : PW w' B b v { t with rng := r, ch := ch } :=
 ⟨(hp.cell 401 (by decide)).trans h.c0, by have := h.own; unfold Octs at this ⊢; exact hp.frm.owns this (fun k hk e => h.ne (by rw [hk, e])), h.ne, (hp.cell 402 (by decide)).trans h.c1, hc.c2, fun o ho => (hp.fz o).trans (h.fz o ho), hc.ch, Nat.lt_of_lt_of_le h.up hp.frm.size⟩
theorem put_done {wr w5 : World} {B b gg cap : Nat} {v : Value} {q : WS} {L : Int} (h : PW wr B b v q) (ho : w5.ownsRow B 5 1 (.slice (some ⟨gg, 0, none⟩) (q.m + 1) cap) (q.m + 1) (octs (Pack.digs q.m (q.n / 4294967296)) ++ [.int .u8 (L / 16777216 % 256)]))
  (hb : w5.heap[b]? = wr.heap[b]?) (hz : wr.heap.size <= w5.heap.size) (hat : v.ownBlock = some gg \/ gg = wr.heap.size + 1) (hL : L = q.n % 4294967296) (hbup : b < wr.heap.size) :
  PW ((w5.setCell ⟨b, 401, none⟩ (.slice (some ⟨gg, 0, none⟩) (q.m + 1) cap)).setCell ⟨b, 402, none⟩ (.int .u32 (L * 256 % 4294967296))) B b (.slice (some ⟨gg, 0, none⟩) (q.m + 1) cap) { q with n := 256 * q.n, m := q.m + 1 } := by
 have hg : gg ≠ b := by
  rcases hat with h' | h'
  ·exact fun e => h.ne (by rw [h', e])
  ·omega
 rw [show L * 256 % 4294967296 = 256 * q.n % 4294967296 by omega]
 have hne : (Value.slice (some ⟨gg, 0, none⟩) (q.m + 1) cap).ownBlock ≠ some b := by simp [Value.ownBlock]; exact hg
 have hc : ∀ o, w5.cell? ⟨b, o, none⟩ = wr.cell? ⟨b, o, none⟩ := fun o => World.cell?_of_block (a := ⟨b, o, none⟩) hb
 have ho' : Octs w5 B (.slice (some ⟨gg, 0, none⟩) (q.m + 1) cap) (Pack.digs (q.m + 1) (256 * q.n / 4294967296)) := by
  unfold Octs
  rw [Pack.digs_length, Pack.digs, <- octs_snoc]
  rw [show 256 * q.n / 4294967296 / 256 = q.n / 4294967296 by omega, show 256 * q.n / 4294967296 % 256 = L / 16777216 % 256 by omega]
  exact ho
 refine ⟨cell_off (World.cell?_setCell_same _ _ _ ((hc 401).trans h.c0)) (.inr (by decide)), (ho'.set b 401 _ hne).set b 402 _ hne, hne, ?_, ?_, fun o hlt => ?_, ?_, ?_⟩
 ·exact World.cell?_setCell_same _ _ _ (cell_off ((hc 402).trans h.c1) (.inr (by decide)))
 ·exact cell_off (cell_off ((hc 0).trans h.c2) (.inr (by decide))) (.inr (by decide))
 ·simp only [World.frozen?_setCell]
  exact (World.frozen?_of_block (a := ⟨b, o, none⟩) hb).trans (h.fz o hlt)
 ·exact ((h.ch.on hb).off (.inr (.inr (by decide)))).off (.inr (.inr (by decide)))
 ·simp only [World.size_setCell]; exact Nat.lt_of_lt_of_le h.up hz
theorem put_parts (t : WS) (k : Nat) (x : Int) (hx : x = 0 \/ x = 1) : Pack.put t k x = if Pack.shifts t k x = 1 then { t with n := 256 * (t.n + Pack.rise t k x), m := t.m + 1, rng := (Pack.put t k x).rng, ch := (Pack.put t k x).ch } else { t with n := t.n + Pack.rise t k x, rng := (Pack.put t k x).rng, ch := (Pack.put t k x).ch } := by
 have hn : (Pack.half t k x).n = t.n + Pack.rise t k x := by
  unfold Pack.half Pack.rise
  rcases hx with rfl | rfl
  ·simp [Pack.zero]
  ·simp [Pack.one]
 have hm := Pack.half_m t k x
 rw [Pack.put_eq]
 unfold Pack.norm Pack.shifts
 by_cases h : (Pack.half t k x).rng < 16777216
 ·rw [if_pos h, if_pos h, if_pos rfl]
  unfold Pack.pull
  rw [hn, hm]
 ·rw [if_neg h, if_neg h, if_neg (by decide), <- hn, <- hm]
theorem shifts_or (t : WS) (k : Nat) (x : Int) : Pack.shifts t k x = 0 \/ Pack.shifts t k x = 1 := by unfold Pack.shifts; split <;> simp
set_option maxHeartbeats 2000000 in
set_option maxRecDepth 20000 in
theorem pPut (w : World) (B b : Nat) (v : Value) (t : WS) (k : Nat) (x : Int) (h : PW w B b v t) (ok : Pack.Ok t) (hm : t.m <= 200000) (hk : k < 400) (hx : x = 0 \/ x = 1) (hbB : B <= b) (hBw : B <= w.heap.size) (hvB : vLo B v) :
  Calls Tryd.prog 13 #[.pointer (some ⟨b, 0, none⟩), .int .i64 k, .int .i64 x] w fun e w' => e = .returned (.tuple #[]) /\ ∃ v', PW w' B b v' (Pack.put t k x) /\ vLo B v' /\ Below B w w' := by
 obtain ⟨Rs, hRs⟩ : ∃ Rs, Rs = Pack.rise t k x := ⟨_, rfl⟩
 obtain ⟨Sh, hSh⟩ : ∃ Sh, Sh = Pack.shifts t k x := ⟨_, rfl⟩
 obtain ⟨P, hP⟩ : ∃ P, P = Pack.put t k x := ⟨_, rfl⟩
 have HT := pTake w b t k x h.crs ok hk hx
 have HPP : Hid (P = if Sh = 1 then { t with n := 256 * (t.n + Rs), m := t.m + 1, rng := P.rng, ch := P.ch } else { t with n := t.n + Rs, rng := P.rng, ch := P.ch }) := by
  unfold Hid; rw [hP, hSh, hRs]; exact put_parts t k x hx
 have hcb := Pack.cut_bd ok hk
 have r1 := ok.r1
 have n0 := ok.n0
 have Rb : 0 <= Rs /\ Rs <= 4294967295 := by rw [hRs]; unfold Pack.rise; split <;> omega
 have Sb := shifts_or t k x
 rw [<- hSh] at Sb
 rw [<- hRs, <- hSh, <- hP] at HT
 rw [<- hP]
 have HTT : Hid (Calls Tryd.prog 20 #[.pointer (some ⟨b, 0, none⟩), .int .i64 k, .int .i64 x] w fun e w' => e = .returned (.tuple #[.int .u32 Rs, .int .i64 Sh]) /\ Crs w' b P.rng P.ch /\ Part b w w') := HT
 have HH : Hid (PW w B b v t) := h
 have hup := h.up
 clear HT hRs hSh hP hcb ok h
 go_enter Tryd.func13, Tryd.ntmps13
 go_wp2_with (first
  | (go_at_call 20; refine HTT.out.mono ?_; rintro e w1 ⟨rfl, hc1, hp1⟩)
  | (go_at_call 21; refine (pRaise _ B b v { t with rng := P.rng, ch := P.ch } Rs (by show t.m <= 1000000; omega) (HH.out.part hc1 hp1) Rb.1 Rb.2).mono ?_; rintro e w2 ⟨rfl, hp2, hf2⟩))
 obtain ⟨q, hq⟩ : ∃ q : WS, q = { t with n := t.n + Rs, rng := P.rng, ch := P.ch } := ⟨_, rfl⟩
 have hq0 : 0 <= q.n := by rw [hq]; show 0 <= t.n + Rs; omega
 have hqm : q.m <= 200000 := by rw [hq]; exact hm
 have HQ : Hid (P = if Sh = 1 then { q with n := 256 * q.n, m := q.m + 1 } else q) := by rw [hq]; exact HPP.out
 have hb2 : Below B w w2 := (hp1.frm.below hBw (fun j e => by rw [e]; exact hbB)).trans (hf2.below (Nat.le_trans hBw hp1.frm.size) (fun j hj => by rcases hj with rfl | hj; exact hbB; exact hvB j hj))
 have hpq : PW w2 B b v q := by rw [hq]; exact hp2
 have HPQ : Hid (PW w2 B b v q /\ Below B w w2) := ⟨hpq, hb2⟩
 clear hc1 hp1 hp2 hf2 hb2 hpq hq HPP
 go_loopw [21] (fun iv wr => (iv = .int .i64 0 /\ wr = w2) \/ (iv = .int .i64 1 /\ Sh = 1 /\ (∃ v', PW wr B b v' { q with n := 256 * q.n, m := q.m + 1 } /\ vLo B v') /\ Below B w wr)) (fun iv _ => 1 - (intOf iv).toNat)
 case atStart => exact .inl ⟨rfl, rfl⟩
 case round =>
  rcases hrel with ⟨rfl, rfl⟩ | ⟨rfl, hS1, ⟨v', hp, hvl⟩, hbr⟩
  ·rcases Sb with hS | hS
   ·subst hS
    go_wp2
    go_end0
    refine ⟨rfl, v, ?_, hvB, HPQ.out.2⟩
    rw [HQ.out, if_neg (by decide)]
    exact HPQ.out.1
   ·subst hS
    have hp := HPQ.out.1
    have hbr := HPQ.out.2
    have i0 := hp.c0
    have i1 := hp.c1
    have f0 := hp.fz 401 (by decide)
    have f1 := hp.fz 402 (by decide)
    obtain ⟨k0, hi', hy0, hy1, hy2⟩ := info_parts infoU8
    have hpo := hp.own
    unfold Octs at hpo
    rw [Pack.digs_length] at hpo
    obtain ⟨L, hL⟩ : ∃ L, L = q.n % 4294967296 := ⟨_, rfl⟩
    rw [<- hL] at i1
    have L0 : 0 <= L := by omega
    have L1 : L <= 4294967295 := by omega
    have HL : Hid (L = q.n % 4294967296) := hL
    clear hL
    have hbup := hp.up
    have hne := hp.ne
    have hBr : B <= wr.heap.size := by have := hbr.size; omega
    have HBR : Hid (Below B w wr) := hbr
    clear hp hbr
    go_wp2
    go_region_law ((refine step_append_lies _ (by rfl) _ _ _ (by rfl) B 5 k0 _ 1 1 Tryd.underlying61 hi' hy0 hy1 hy2 rfl (by omega) v q.m (octs (Pack.digs q.m (q.n / 4294967296))) (by rfl) ((hpo.alloc _).drew) ⟨wr.heap.size, 0, none⟩ 1 1 [.int .u8 (L / 16777216 % 256)] (by rfl) (by rfl) (World.news_of_block (cs := #[.int .u8 (L / 16777216 % 256)]) (t := 5) (fr := (0, 0)) (heap_alloc_new wr _)) (by simp [Value.oneCell']) (by omega) (by unfold maxLen; omega) (by omega) (by simp; omega) (wr.heap.size + 1) (by simp) ?_; intro gg cap w5 hown5 hgrow hat hlt5; have sf5 : w5.frozen? ⟨b, 401, none⟩ = false := ((hgrow.frozen_far ⟨b, 401, none⟩ (by simp; omega) (Ne.symm hne)).trans (frozen_alloc_drew hbup)).trans f0; have sc5 : w5.cell? ⟨b, 401, none⟩ = some v := ((hgrow.cell_far ⟨b, 401, none⟩ (by simp; omega) (Ne.symm hne)).trans (cell_alloc_drew hbup)).trans i0))
    all_goals
     have hsz5 := hgrow.size
     have hblk : w5.heap[b]? = wr.heap[b]? := (hgrow.block b (by simp; omega) (Ne.symm hne)).trans (Below.heap_alloc wr _ b hbup)
     have sc1 : w5.cell? ⟨b, 402, none⟩ = some (.int .u32 L) := (World.cell?_of_block (a := ⟨b, 402, none⟩) hblk).trans i1
     have sf1 : w5.frozen? ⟨b, 402, none⟩ = false := (World.frozen?_of_block (a := ⟨b, 402, none⟩) hblk).trans f1
     have HGH : Hid ((wr.alloc (Obj.cells #[Value.int IntKind.u8 (IntKind.u8.wrap (L / 16777216))] 5)).drew.grownBy w5 v.ownBlock) := hgrow
     clear hgrow
     go_wp2
     go_roundw
     case rel =>
      refine .inr ⟨rfl, trivial, ⟨_, put_done HPQ.out.1 hown5 hblk (by simp at hsz5; omega) hat HL.out hbup, fun j hj => by injection hj with hj; exact hj ▸ (World.ownsRow.lt hown5 gg rfl).1⟩, ?_⟩
      exact (((HBR.out.alloc hBr _).trans (below_drew (Below.refl B _))).grown HGH.out (by simp; omega) (fun j e => hvB j e)).setCell hbB _ |>.setCell hbB _
     case measure => simp [intOf]
  ·subst hS1
   go_wp2
   go_end0
   refine ⟨rfl, v', ?_, hvl, hbr⟩
   rw [HQ.out, if_pos trivial]
   exact hp
end Go.Proofs.YtekfbphnoibnjaaDoor
namespace Go.Proofs.YtekfbphnoibnjaaDoor
open Go.RowKit
def stepCells (l : List (Nat × Int)) : List Value := l.flatMap fun p => [.int .u16 p.1, .int .u8 p.2]
theorem stepCells_len (l : List (Nat × Int)) : (stepCells l).length = l.length * 2 := by
 induction l with
 | nil => rfl
 | cons b bs ih => simp [stepCells] at ih ⊢; omega
theorem stepCells_app (l r : List (Nat × Int)) : stepCells (l ++ r) = stepCells l ++ stepCells r := by simp [stepCells]
theorem stepCells_get (l : List (Nat × Int)) (i : Nat) (h : i < l.length) : (stepCells l)[i * 2]? = some (.int .u16 (l.getD i (0, 0)).1) /\ (stepCells l)[i * 2 + 1]? = some (.int .u8 (l.getD i (0, 0)).2) := by
 induction l generalizing i with
 | nil => simp at h
 | cons b bs ih =>
  have e : stepCells (b :: bs) = .int .u16 b.1 :: .int .u8 b.2 :: stepCells bs := by simp [stepCells]
  rw [e]
  cases i with
  | zero => simp
  | succ i =>
   have := ih i (by simpa using h)
   rw [show (i + 1) * 2 = i * 2 + 1 + 1 by omega]
   simpa using this
theorem oneCell_steps (l : List (Nat × Int)) : ∀ u ∈ stepCells l, u.oneCell' = true := by
 intro u hu
 unfold stepCells at hu
 obtain ⟨b, _, hb⟩ := List.mem_flatMap.1 hu
 simp at hb
 rcases hb with rfl | rfl <;> rfl
theorem infoStep : (Tryd.prog.info? 109).map (fun i => (i.zero, i.size, i.bytes)) = some (some (.agg #[.int .u16 0, .int .u8 0]), 2, 4) := by kernel_rfl
theorem drInfo : (Tryd.prog.info? 103).map (fun i => (i.zero, i.size)) = some (some (.agg ((#[.int .u32 0] ++ Array.replicate 400 (.int .u32 0)) ++ #[.int .i64 0, .slice none 0 0])), 403) := by kernel_rfl
structure DrAt (w : World) (b : Nat) (v : Value) (t : WS) (l : List (Nat × Int)) : Prop where
 crs : Crs w b t.rng t.ch
 sh : w.cell? ⟨b, 401, none⟩ = some (.int .i64 t.m)
 bits : w.cell? ⟨b, 402, none⟩ = some v
 own : w.ownsRow 0 109 2 v l.length (stepCells l)
 ne : v.ownBlock ≠ some b
 fz : ∀ o, o < 403 -> w.frozen? ⟨b, o, none⟩ = false
 up : b < w.heap.size
theorem Crs.on {w w' : World} {b : Nat} {r : Int} {ch : List Int} (h : Crs w b r ch) (hb : w'.heap[b]? = w.heap[b]?) : Crs w' b r ch :=
 ⟨(World.cell?_of_block (a := ⟨b, 0, none⟩) hb).trans h.c2, (World.frozen?_of_block (a := ⟨b, 0, none⟩) hb).trans h.f2, h.ch.on hb⟩
theorem DrAt.frm {S : Nat -> Prop} {w w' : World} {b : Nat} {v : Value} {t : WS} {l : List (Nat × Int)} (h : DrAt w b v t l) (f : Frm S w w') (hb : ¬ S b) (hv : ∀ k, v.ownBlock = some k -> ¬ S k) : DrAt w' b v t l := by
 have e := f.block b h.up hb
 refine ⟨h.crs.on e, (World.cell?_of_block (a := ⟨b, 401, none⟩) e).trans h.sh, (World.cell?_of_block (a := ⟨b, 402, none⟩) e).trans h.bits, ?_, h.ne, fun o ho => (World.frozen?_of_block (a := ⟨b, o, none⟩) e).trans (h.fz o ho), Nat.lt_of_lt_of_le h.up f.size⟩
 exact f.owns h.own hv
theorem DrAt.below {w w' : World} {b : Nat} {v : Value} {t : WS} {l : List (Nat × Int)} (h : DrAt w b v t l) (f : Below w.heap.size w w') : DrAt w' b v t l :=
 h.frm (Frm.of_below (S := fun _ => False) f) (fun e => e) (fun _ _ e => e)
structure Wr (b : Nat) (v : Value) (w w' : World) (v' : Value) : Prop where
 frm : Frm (fun k => k = b \/ v.ownBlock = some k) w w'
 loc : ∀ k, v'.ownBlock = some k -> v.ownBlock = some k \/ w.heap.size <= k
theorem Wr.refl (b : Nat) (v : Value) (w : World) : Wr b v w w v := ⟨Frm.refl _ _, fun _ e => .inl e⟩
theorem Wr.trans {b : Nat} {v v' v'' : Value} {w w' w'' : World} (h : Wr b v w w' v') (k : Wr b v' w' w'' v'') : Wr b v w w'' v'' := by
 refine ⟨⟨k.frm.os.trans h.frm.os, k.frm.tape.trans h.frm.tape, k.frm.output.trans h.frm.output, Nat.le_trans h.frm.size k.frm.size, fun i hi hn => (k.frm.block i (Nat.lt_of_lt_of_le hi h.frm.size) fun e => ?_).trans (h.frm.block i hi hn)⟩, fun i e => ?_⟩
 ·rcases e with e | e
  ·exact hn (.inl e)
  ·rcases h.loc i e with e | e
   ·exact hn (.inr e)
   ·omega
 ·rcases k.loc i e with e | e
  ·exact h.loc i e
  ·exact .inr (Nat.le_trans h.frm.size e)
theorem Wr.below {b : Nat} {v v' : Value} {w w' w'' : World} (h : Wr b v w w' v') (k : Below w'.heap.size w' w'') : Wr b v w w'' v' := ⟨h.frm.trans (Frm.of_below k), h.loc⟩
set_option maxHeartbeats 1000000 in
set_option maxRecDepth 20000 in
theorem pNewDraft (w : World) :
  Calls Tryd.prog 27 #[] w fun x w' => ∃ b, x = .returned (.pointer (some ⟨b, 0, none⟩)) /\ w.heap.size <= b /\ DrAt w' b (.slice none 0 0) Pack.init [] /\ Below w.heap.size w w' := by
 obtain ⟨hzero, hsize⟩ := zero_of_info drInfo
 obtain ⟨Z, hZ⟩ : ∃ Z, Z = (#[Value.int .u32 0] ++ Array.replicate 400 (.int .u32 0)) ++ #[Value.int .i64 0, .slice none 0 0] := ⟨_, rfl⟩
 rw [<- hZ] at hzero
 have hY : (#[Value.int .u32 0] ++ Array.replicate 400 (Value.int .u32 0)).size = 401 := by rw [Array.size_append, Array.size_replicate]; rfl
 have hZs : Z.size = 403 := by rw [hZ, Array.size_append, hY]; rfl
 have hZ0 : Z[401]? = some (.int .i64 0) := by rw [hZ, Array.getElem?_append_right (by rw [hY]; exact Nat.le_refl _), hY]; rfl
 have hZ1 : Z[402]? = some (.slice none 0 0) := by rw [hZ, Array.getElem?_append_right (by rw [hY]; decide), hY]; rfl
 have hZn : Z ≠ #[] := fun e => by rw [e] at hZs; exact absurd hZs (by decide)
 obtain ⟨E, hE⟩ : ∃ E, E = crsEven := ⟨_, rfl⟩
 have hNC := fun w => pNewCourse w
 rw [<- hE] at hNC
 have hcs : E.size = 401 := by rw [hE]; exact crsEven_size
 have HE : Hid (E = crsEven) := hE
 clear hZ hsize hY hE
 go_enter Tryd.func27, Tryd.ntmps27
 go_wp2_with (go_at_call 19; refine (hNC _).mono ?_; rintro e w1 ⟨rfl, hb⟩)
 obtain ⟨C, hC⟩ : ∃ C, C = Array.foldl (fun cs x => cs.setIfInBounds x.snd x.fst) Z E.zipIdx 0 401 := ⟨_, rfl⟩
 rw [<- hC]
 have hC' : C = laidAt Z 0 crsEven := by
  rw [hC, <- HE.out]; unfold laidAt; rw [hcs]; simp only [Nat.zero_add]
 have HR : DrAt (w1.alloc (.cells C 103)) w1.heap.size (.slice none 0 0) Pack.init [] := by
  rw [hC']
  refine ⟨⟨crs_laid0 w1 _ _ hZs, by simp, crs_laid w1 _ _ hZs⟩, ?_, ?_, World.ownsRow_nil _ _ _ _, by simp [Value.ownBlock], fun o _ => by simp, by simp⟩
  ·rw [crs_laid2 w1 _ _ 401 (by decide), hZ0]; rfl
  ·rw [crs_laid2 w1 _ _ 402 (by decide), hZ1]
 go_ret
 exact ⟨_, rfl, hb.size, HR, hb.alloc hb.size _⟩
end Go.Proofs.YtekfbphnoibnjaaDoor
namespace Go.Proofs.YtekfbphnoibnjaaDoor
open Go.RowKit
theorem u16_id {k : Nat} (h : k < 400) : IntKind.u16.wrap (k : Int) = k := by rw [IntKind.wrap_u16]; omega
theorem u8_id {x : Int} (h : x = 0 \/ x = 1) : IntKind.u8.wrap x = x := by rw [IntKind.wrap_u8]; omega
theorem put_m (t : WS) (k : Nat) (x : Int) (hx : x = 0 \/ x = 1) : ((Pack.put t k x).m : Int) = t.m + Pack.shifts t k x := by
 rw [put_parts t k x hx]
 rcases shifts_or t k x with e | e
 ·rw [e, if_neg (by decide)]; simp
 ·rw [e, if_pos rfl]; simp
theorem Crs.far {w : World} {b : Nat} {r : Int} {ch : List Int} (h : Crs w b r ch) {o : Nat} (ho : 401 <= o) (u : Value) : Crs (w.setCell ⟨b, o, none⟩ u) b r ch :=
 ⟨cell_off h.c2 (.inr (by omega)), (World.frozen?_setCell _ _ _ _).trans h.f2, h.ch.off (.inr (.inr (by omega)))⟩
theorem news_after (w : World) (p : Addr) (u : Value) (cs : Array Value) (t : TypeId) : ∀ j x, cs.toList[j]? = some x -> ((w.setCell p u).alloc (.cells cs t)).cell? ((⟨w.heap.size, 0, none⟩ : Addr).add j) = some x := by
 have h := heap_alloc_last (w.setCell p u) (.cells cs t)
 rw [World.size_setCell] at h
 exact World.news_of_block h
set_option maxHeartbeats 2000000 in
set_option maxRecDepth 20000 in
theorem pDPut (w : World) (b : Nat) (v : Value) (t : WS) (l : List (Nat × Int)) (k : Nat) (x : Int) (h : DrAt w b v t l) (ok : Pack.Ok t) (hm : t.m <= 1000000) (hl : l.length <= 1000000) (hk : k < 400) (hx : x = 0 \/ x = 1) :
  Calls Tryd.prog 54 #[.pointer (some ⟨b, 0, none⟩), .int .i64 k, .int .i64 x] w fun e w' => e = .returned (.tuple #[]) /\ ∃ v', DrAt w' b v' (Pack.put t k x) (l ++ [(k, x)]) /\ Wr b v w w' v' := by
 obtain ⟨Rs, hRs⟩ : ∃ Rs, Rs = Pack.rise t k x := ⟨_, rfl⟩
 obtain ⟨Sh, hSh⟩ : ∃ Sh, Sh = Pack.shifts t k x := ⟨_, rfl⟩
 obtain ⟨P, hP⟩ : ∃ P, P = Pack.put t k x := ⟨_, rfl⟩
 have HT := pTake w b t k x h.crs ok hk hx
 have hPm : (P.m : Int) = t.m + Sh := by rw [hP, hSh]; exact put_m t k x hx
 have Sb := shifts_or t k x
 rw [<- hSh] at Sb
 rw [<- hRs, <- hSh, <- hP] at HT
 rw [<- hP]
 have HTT : Hid (Calls Tryd.prog 20 #[.pointer (some ⟨b, 0, none⟩), .int .i64 k, .int .i64 x] w fun e w' => e = .returned (.tuple #[.int .u32 Rs, .int .i64 Sh]) /\ Crs w' b P.rng P.ch /\ Part b w w') := HT
 have HH : Hid (DrAt w b v t l) := h
 have hup := h.up
 have hne := h.ne
 have wM : wrap64 ((t.m : Int) + Sh) = t.m + Sh := by unfold wrap64; omega
 have w16 := u16_id hk
 have w8 := u8_id hx
 obtain ⟨k0, hi', hy0, hy1, hy2⟩ := info_parts infoStep
 clear HT hRs hSh hP ok h
 go_enter Tryd.func54, Tryd.ntmps54
 go_wp2_with (first
  | (go_at_call 20; refine HTT.out.mono ?_; rintro e w1 ⟨rfl, hc1, hp1⟩; have i0 := (hp1.cell 401 (by decide)).trans HH.out.sh; have i1 := (hp1.cell 402 (by decide)).trans HH.out.bits; have f0 := (hp1.fz 401).trans (HH.out.fz 401 (by decide)); have f1 := (hp1.fz 402).trans (HH.out.fz 402 (by decide)))
  | (at_builtin; refine wpList_append_lies _ rfl (.tmp 29) (.tmp 35) 101 rfl 0 109 k0 _ 2 4 Tryd.underlying101 hi' hy0 hy1 hy2 rfl (by omega) v l.length (stepCells l) rfl (((hp1.frm.owns HH.out.own (fun j e e2 => hne (e2 ▸ e))).kept (grown_setCell w1 b 401 _) (.inr hne)).alloc _) ⟨w1.heap.size, 0, none⟩ 1 1 [.int .u16 k, .int .u8 x] rfl rfl (news_after w1 ⟨b, 401, none⟩ _ #[.int .u16 k, .int .u8 x] 109) (oneCell_steps [(k, x)]) (by omega) (by unfold maxLen; omega) (by omega) (Nat.zero_le _) (w1.heap.size + 1) (by simp) ?_; intro gg cap w5 hown5 hgrow hat hlt5; have hup1 := Nat.lt_of_lt_of_le hup hp1.frm.size; have hblk : w5.heap[b]? = (w1.setCell ⟨b, 401, none⟩ (.int .i64 (t.m + Sh))).heap[b]? := (hgrow.block b (by simp; omega) (Ne.symm hne)).trans (Below.heap_alloc _ _ b (by simp; exact hup1)); have sc5 : w5.cell? ⟨b, 402, none⟩ = some v := (World.cell?_of_block (a := ⟨b, 402, none⟩) hblk).trans (cell_off i1 (.inr (by decide))); have sf5 : w5.frozen? ⟨b, 402, none⟩ = false := (World.frozen?_of_block (a := ⟨b, 402, none⟩) hblk).trans ((World.frozen?_setCell _ _ _ _).trans f1); have HG : Hid (World.grownBy _ w5 v.ownBlock) := hgrow; clear hgrow))
 go_end0
 have hgg : gg ≠ b := by
  rcases hat with e | e
  ·exact fun e2 => hne (e2 ▸ e)
  ·omega
 have hsz := HG.out.size
 have hps := hp1.frm.size
 simp only [World.size_alloc, World.size_setCell] at hsz
 refine ⟨rfl, .slice (some ⟨gg, 0, none⟩) (l.length + 1) cap, ⟨((hc1.far (o := 401) (Nat.le_refl _) _).on hblk).far (by decide) _, ?_, World.cell?_setCell_same _ _ _ sc5, ?_, ?_, fun o ho => ?_, ?_⟩, ?_, ?_⟩
 ·rw [hPm]
  exact cell_off ((World.cell?_of_block (a := ⟨b, 401, none⟩) hblk).trans (World.cell?_setCell_same _ _ _ i0)) (.inr (by decide))
 ·rw [stepCells_app, List.length_append]
  exact hown5.kept (grown_setCell w5 b 402 _) (.inr (by simp [Value.ownBlock]; exact hgg))
 ·simp [Value.ownBlock]; exact hgg
 ·rw [World.frozen?_setCell, World.frozen?_of_block (a := ⟨b, o, none⟩) hblk, World.frozen?_setCell]
  exact (hp1.fz o).trans (HH.out.fz o ho)
 ·rw [World.size_setCell]; omega
 ·refine Frm.setCell ?_ (.inl (.inl rfl)) _
  have f1 : Frm (fun k => k = b \/ v.ownBlock = some k) w w1 := hp1.frm.mono fun _ _ e => .inl e
  exact ((f1.setCell (.inl (.inl rfl)) _).alloc _).grown HG.out fun j e => .inl (.inr e)
 ·intro j e
  simp [Value.ownBlock] at e
  subst e
  rcases hat with e | e
  ·exact .inl e
  ·exact .inr (by omega)
end Go.Proofs.YtekfbphnoibnjaaDoor
