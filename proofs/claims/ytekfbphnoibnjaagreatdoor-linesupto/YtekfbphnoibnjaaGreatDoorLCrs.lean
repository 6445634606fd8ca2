/-
  The program's course of a line: the range is narrowed to the part of a bit.
-/
import Derived.Test.YtekfbphnoibnjaaGreatDoorLWr2
namespace Go.Proofs.YtekfbphnoibnjaaGreatDoor
open Go.RowKit

theorem below_drew {B : Nat} {a w : World} (h : Below B a w) : Below B a w.drew := h.trans ⟨rfl, rfl, rfl, Nat.le_refl _, fun _ _ => rfl⟩

/-- By how much the low end rises with a bit, and how many bytes are shifted. -/
def Pack.rise (t : WS) (k : Nat) (x : Int) : Int := if x = 0 then 0 else Pack.cut t k
def Pack.shifts (t : WS) (k : Nat) (x : Int) : Int := if (Pack.half t k x).rng < 16777216 then 1 else 0

/-- Nothing but the first 401 cells of block b has turned. -/
structure Part (b : Nat) (w w' : World) : Prop where
  frm : Frm (fun k => k = b) w w'
  cell : ∀ j, 401 ≤ j → w'.cell? ⟨b, j, none⟩ = w.cell? ⟨b, j, none⟩
  fz : ∀ j, w'.frozen? ⟨b, j, none⟩ = w.frozen? ⟨b, j, none⟩

theorem Part.refl (b : Nat) (w : World) : Part b w w := ⟨Frm.refl _ _, fun _ _ => rfl, fun _ => rfl⟩
theorem Part.trans {b : Nat} {a w v : World} (h : Part b a w) (k : Part b w v) : Part b a v := ⟨h.frm.trans k.frm, fun j hj => (k.cell j hj).trans (h.cell j hj), fun j => (k.fz j).trans (h.fz j)⟩
theorem Part.set {b : Nat} {a w : World} (h : Part b a w) {o : Nat} (ho : o < 401) (u : Value) : Part b a (w.setCell ⟨b, o, none⟩ u) :=
  ⟨h.frm.setCell (.inl rfl) u, fun j hj => by
    rw [World.cell?_setCell_other]
    · exact h.cell j hj
    · intro e
      simp only [Addr.mk.injEq, and_true, true_and] at e
      omega, fun j => by rw [World.frozen?_setCell]; exact h.fz j⟩
theorem Part.drew {b : Nat} {a w : World} (h : Part b a w) : Part b a w.drew := ⟨h.frm.drew, h.cell, h.fz⟩
theorem Part.drewN {b : Nat} {a w : World} (h : Part b a w) (n : Nat) : Part b a (w.drewN n) := ⟨h.frm.drewN n, h.cell, h.fz⟩

/-- A course in memory, ahead in block b. -/
structure Crs (w : World) (b : Nat) (rng : Int) (ch : List Int) : Prop where
  c2 : w.cell? ⟨b, 0, none⟩ = some (.int .u32 rng)
  f2 : w.frozen? ⟨b, 0, none⟩ = false
  ch : ChAt w b 1 ch
theorem Crs.drewN {w : World} {b : Nat} {r : Int} {ch : List Int} (h : Crs w b r ch) (n : Nat) : Crs (w.drewN n) b r ch := ⟨h.c2, h.f2, h.ch.on rfl⟩
theorem Crs.drew {w : World} {b : Nat} {r : Int} {ch : List Int} (h : Crs w b r ch) : Crs w.drew b r ch := ⟨h.c2, h.f2, h.ch.on rfl⟩
theorem Crs.put2 {w : World} {b : Nat} {r : Int} {ch : List Int} (h : Crs w b r ch) (q : Int) : Crs (w.setCell ⟨b, 0, none⟩ (.int .u32 q)) b q ch :=
  ⟨World.cell?_setCell_same _ _ _ h.c2, by rw [World.frozen?_setCell]; exact h.f2, h.ch.off (.inr (.inl (by decide)))⟩
theorem Crs.putC {w : World} {b : Nat} {r : Int} {ch : List Int} (h : Crs w b r ch) (k : Nat) (c : Int) : Crs (w.setCell ⟨b, 1 + k, none⟩ (.int .u32 c)) b r (ch.set k c) :=
  ⟨cell_off h.c2 (.inr (by omega)), by rw [World.frozen?_setCell]; exact h.f2, h.ch.set k c⟩

/-- The range of the course in block b. -/
def wspanOf (w : World) (b : Nat) : Nat := (intOf ((w.cell? ⟨b, 0, none⟩).getD undef)).toNat
theorem wspanOf_eq {w : World} {b : Nat} {r : Int} {ch : List Int} (h : Crs w b r ch) : wspanOf w b = r.toNat := by
  unfold wspanOf; rw [h.c2]; rfl

set_option maxHeartbeats 2000000 in
set_option maxRecDepth 20000 in
theorem pTake_zero (w : World) (b : Nat) (t : WS) (k : Nat) (C c : Int) (h : Crs w b t.rng t.ch) (ok : Pack.Ok t) (hk : k < 400) (hC : Pack.cut t k = C) (hc : t.ch.getD k 0 = c) :
    Calls Tryz.prog 117 #[.pointer (some ⟨b, 0, none⟩), .int .i64 k, .int .i64 0] w fun x w' => x = .returned (.tuple #[.int .u32 0, .int .i64 (Pack.shifts t k 0)]) ∧ Crs w' b (Pack.put t k 0).rng (Pack.put t k 0).ch ∧ Part b w w' := by
  have hcb := Pack.cut_bd ok hk
  rw [hC] at hcb
  have hcd := ok.ch.2 k hk
  rw [hc] at hcd
  obtain ⟨c0, c1⟩ := hcd
  have r0 := ok.r0
  have r1 := ok.r1
  obtain ⟨q, hq⟩ : ∃ q : WS, q = Pack.zero t k := ⟨_, rfl⟩
  have HH : Hid (q.rng = C ∧ q.ch = t.ch.set k (c + (4096 - c) / 32)) := by rw [hq]; unfold Pack.zero; rw [hC, hc]; exact ⟨rfl, rfl⟩
  have HPT : Hid (Pack.put t k 0 = Pack.norm q ∧ Pack.shifts t k 0 = if q.rng < 16777216 then 1 else 0) := by rw [hq]; exact ⟨rfl, rfl⟩
  have q0 : 126976 ≤ q.rng := by rw [HH.out.1]; omega
  have q1 : q.rng ≤ 4294967295 := by rw [HH.out.1]; omega
  have hck := h.ch.cell k hk
  have hrc : t.rng / 4096 * c = C := by rw [← hC, ← hc]; rfl
  rw [hc] at hck
  have hfk := h.ch.fz k hk
  have hckn : ∀ n : Nat, (w.drewN n).cell? ⟨b, 1 + k, none⟩ = some (.int .u32 c) := fun n => hck
  have hfkn : ∀ n : Nat, (w.drewN n).frozen? ⟨b, 1 + k, none⟩ = false := fun n => hfk
  have i2 := h.c2
  have f2 := h.f2
  have HP : Hid (Crs w b t.rng t.ch) := h
  have hk' : (k : Int) < 400 := by omega
  clear hq h hC hc ok
  go_enter Tryz.func117, Tryz.ntmps117
  go_wp2
  go_quiet ((go_at_call 143; exact Calls.quiet_of_same (chCut _ b 1 k t.rng c hk (by simpa using hck) (by omega) (by omega) (by omega) (by omega))))
  rw [hrc]
  go_wp2_with (go_at_call 144; refine (chLearn0 _ b 1 k c hk (by exact cell_off (hckn _) (.inr (by omega))) (by simp only [World.frozen?_setCell]; exact hfkn _) c0 c1).mono ?_; rintro e w1 ⟨rfl, rfl⟩)
  have HQn : Crs (((w.drewN nq).setCell ⟨b, 0, none⟩ (.int .u32 C)).setCell ⟨b, 1 + k, none⟩ (.int .u32 (c + (4096 - c) / 32))).drew b q.rng q.ch := by rw [HH.out.1, HH.out.2]; exact (((HP.out.drewN nq).put2 C).putC k _).drew
  have HFn : Part b w (((w.drewN nq).setCell ⟨b, 0, none⟩ (.int .u32 C)).setCell ⟨b, 1 + k, none⟩ (.int .u32 (c + (4096 - c) / 32))).drew := (((((Part.refl b w).drewN nq).set (by decide) _).set (by omega) _)).drew
  clear hckn hfkn hck hfk i2 f2
  go_loopw [7] (fun sv wr => ((Crs wr b q.rng q.ch ∧ sv = .int .i64 0) ∨ (q.rng < 16777216 ∧ sv = .int .i64 1 ∧ Crs wr b (256 * q.rng) q.ch)) ∧ Part b w wr) (fun _ wr => 16777216 - wspanOf wr b)
  case atStart => exact ⟨.inl ⟨HQn, rfl⟩, HFn⟩
  case round =>
    clear HQn HFn
    obtain ⟨hor, hbr⟩ := hrel
    rcases hor with ⟨hp, rfl⟩ | ⟨hlow, rfl, hp⟩
    · have i2 := hp.c2
      have f2 := hp.f2
      by_cases hlow : q.rng < 16777216
      · have hw : IntKind.u32.wrap (q.rng * 256) = 256 * q.rng := by rw [wrap_u32 (by omega) (by omega), Int.mul_comm]
        go_wp2
        go_roundw
        case rel => exact ⟨.inr ⟨hlow, rfl, by rw [Int.mul_comm 256 q.rng]; exact hp.put2 _⟩, hbr.set (by decide) _⟩
        case measure => rw [wspanOf_eq hp, wspanOf_eq (hp.put2 _)]; omega
      · go_wp2
        go_ret2
        refine ⟨?_, ?_, hbr⟩
        · rw [HPT.out.2, if_neg (by omega)]; rfl
        · rw [HPT.out.1]; unfold Pack.norm; rw [if_neg (by omega)]; exact hp
    · have i2 := hp.c2
      have hr : ¬ 256 * q.rng < 16777216 := by omega
      go_wp2
      go_ret2
      refine ⟨?_, ?_, hbr⟩
      · rw [HPT.out.2, if_pos hlow]; rfl
      · rw [HPT.out.1]; unfold Pack.norm; rw [if_pos hlow]; exact hp

set_option maxHeartbeats 2000000 in
set_option maxRecDepth 20000 in
theorem pTake_one (w : World) (b : Nat) (t : WS) (k : Nat) (C c : Int) (h : Crs w b t.rng t.ch) (ok : Pack.Ok t) (hk : k < 400) (hC : Pack.cut t k = C) (hc : t.ch.getD k 0 = c) :
    Calls Tryz.prog 117 #[.pointer (some ⟨b, 0, none⟩), .int .i64 k, .int .i64 1] w fun x w' => x = .returned (.tuple #[.int .u32 C, .int .i64 (Pack.shifts t k 1)]) ∧ Crs w' b (Pack.put t k 1).rng (Pack.put t k 1).ch ∧ Part b w w' := by
  have hcb := Pack.cut_bd ok hk
  rw [hC] at hcb
  have hcd := ok.ch.2 k hk
  rw [hc] at hcd
  obtain ⟨c0, c1⟩ := hcd
  have r0 := ok.r0
  have r1 := ok.r1
  obtain ⟨q, hq⟩ : ∃ q : WS, q = Pack.one t k := ⟨_, rfl⟩
  have HH : Hid (q.rng = t.rng - C ∧ q.ch = t.ch.set k (c - c / 32)) := by rw [hq]; unfold Pack.one; rw [hC, hc]; exact ⟨rfl, rfl⟩
  have HPT : Hid (Pack.put t k 1 = Pack.norm q ∧ Pack.shifts t k 1 = if q.rng < 16777216 then 1 else 0) := by rw [hq]; exact ⟨rfl, rfl⟩
  have q0 : 126976 ≤ q.rng := by rw [HH.out.1]; omega
  have q1 : q.rng ≤ 4294967295 := by rw [HH.out.1]; omega
  have hck := h.ch.cell k hk
  have hrc : t.rng / 4096 * c = C := by rw [← hC, ← hc]; rfl
  rw [hc] at hck
  have hfk := h.ch.fz k hk
  have hckn : ∀ n : Nat, (w.drewN n).cell? ⟨b, 1 + k, none⟩ = some (.int .u32 c) := fun n => hck
  have hfkn : ∀ n : Nat, (w.drewN n).frozen? ⟨b, 1 + k, none⟩ = false := fun n => hfk
  have i2 := h.c2
  have f2 := h.f2
  have HP : Hid (Crs w b t.rng t.ch) := h
  have hk' : (k : Int) < 400 := by omega
  clear hq h hC hc ok
  go_enter Tryz.func117, Tryz.ntmps117
  go_wp2
  go_quiet ((go_at_call 143; exact Calls.quiet_of_same (chCut _ b 1 k t.rng c hk (by simpa using hck) (by omega) (by omega) (by omega) (by omega))))
  rw [hrc]
  go_wp2_with (go_at_call 144; refine (chLearn1 _ b 1 k c hk (by exact cell_off (hckn _) (.inr (by omega))) (by simp only [World.frozen?_setCell]; exact hfkn _) c0 c1).mono ?_; rintro e w1 ⟨rfl, rfl⟩)
  have HQn : Crs (((w.drewN nq).setCell ⟨b, 0, none⟩ (.int .u32 (t.rng - C))).setCell ⟨b, 1 + k, none⟩ (.int .u32 (c - c / 32))).drew b q.rng q.ch := by rw [HH.out.1, HH.out.2]; exact (((HP.out.drewN nq).put2 (t.rng - C)).putC k _).drew
  have HFn : Part b w (((w.drewN nq).setCell ⟨b, 0, none⟩ (.int .u32 (t.rng - C))).setCell ⟨b, 1 + k, none⟩ (.int .u32 (c - c / 32))).drew := (((((Part.refl b w).drewN nq).set (by decide) _).set (by omega) _)).drew
  clear hckn hfkn hck hfk i2 f2
  go_loopw [7] (fun sv wr => ((Crs wr b q.rng q.ch ∧ sv = .int .i64 0) ∨ (q.rng < 16777216 ∧ sv = .int .i64 1 ∧ Crs wr b (256 * q.rng) q.ch)) ∧ Part b w wr) (fun _ wr => 16777216 - wspanOf wr b)
  case atStart => exact ⟨.inl ⟨HQn, rfl⟩, HFn⟩
  case round =>
    clear HQn HFn
    obtain ⟨hor, hbr⟩ := hrel
    rcases hor with ⟨hp, rfl⟩ | ⟨hlow, rfl, hp⟩
    · have i2 := hp.c2
      have f2 := hp.f2
      by_cases hlow : q.rng < 16777216
      · have hw : IntKind.u32.wrap (q.rng * 256) = 256 * q.rng := by rw [wrap_u32 (by omega) (by omega), Int.mul_comm]
        go_wp2
        go_roundw
        case rel => exact ⟨.inr ⟨hlow, rfl, by rw [Int.mul_comm 256 q.rng]; exact hp.put2 _⟩, hbr.set (by decide) _⟩
        case measure => rw [wspanOf_eq hp, wspanOf_eq (hp.put2 _)]; omega
      · go_wp2
        go_ret2
        refine ⟨?_, ?_, hbr⟩
        · rw [HPT.out.2, if_neg (by omega)]; rfl
        · rw [HPT.out.1]; unfold Pack.norm; rw [if_neg (by omega)]; exact hp
    · have i2 := hp.c2
      have hr : ¬ 256 * q.rng < 16777216 := by omega
      go_wp2
      go_ret2
      refine ⟨?_, ?_, hbr⟩
      · rw [HPT.out.2, if_pos hlow]; rfl
      · rw [HPT.out.1]; unfold Pack.norm; rw [if_pos hlow]; exact hp

/-- A bit is taken: the low end's rise and the bytes shifted are told, the course goes on. -/
theorem pTake (w : World) (b : Nat) (t : WS) (k : Nat) (x : Int) (h : Crs w b t.rng t.ch) (ok : Pack.Ok t) (hk : k < 400) (hx : x = 0 ∨ x = 1) :
    Calls Tryz.prog 117 #[.pointer (some ⟨b, 0, none⟩), .int .i64 k, .int .i64 x] w fun e w' => e = .returned (.tuple #[.int .u32 (Pack.rise t k x), .int .i64 (Pack.shifts t k x)]) ∧ Crs w' b (Pack.put t k x).rng (Pack.put t k x).ch ∧ Part b w w' := by
  rcases hx with rfl | rfl
  · exact pTake_zero w b t k _ _ h ok hk rfl rfl
  · exact pTake_one w b t k _ _ h ok hk rfl rfl

end Go.Proofs.YtekfbphnoibnjaaGreatDoor
