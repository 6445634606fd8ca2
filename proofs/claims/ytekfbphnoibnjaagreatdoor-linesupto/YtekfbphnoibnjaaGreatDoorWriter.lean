/-
  What the document's writer does at the opening's few bits: it answers a text, and writes nothing old.
-/
import Derived.Test.YtekfbphnoibnjaaGreatDoorBase
namespace Go.Proofs.YtekfbphnoibnjaaGreatDoor
open Go.RowKit

set_option maxHeartbeats 400000 in
theorem chances_any (w : World) :
    Calls Tryz.prog 94 #[] w fun e w' => e = .returned (.slice (some ⟨w.heap.size, 0, none⟩) 400 400) ∧ Nums w' w.heap.size w.heap.size 400 ch0 ∧ Below w.heap.size w w' := by
  obtain ⟨i0, hi, hz0, hz1, hz2⟩ := info_parts infoI64
  go_enter Tryz.func94, Tryz.ntmps94
  go_wp2_with (at_make; refine wpList_make_full _ rfl _ _ 52 rfl w.heap.size 3 i0 (.int .i64 0) 1 Tryz.underlying52 hi hz0 hz1 _ _ _ _ 400 rfl rfl rfl rfl (by rw [hz2]; decide) (by decide) (Nat.le_refl _) ?_)
  intro w1 hown hgrow
  have hn : Nums w1 w.heap.size w.heap.size 400 (fillRow 400 0 2048) := by
    rw [made_ints 400, ← fillRow_zero 400 2048] at hown
    exact hown
  have hb : Below w.heap.size w w1 := (Below.refl _ _).grown hgrow (Nat.le_refl _) (fun _ h => by cases h)
  clear hown hgrow
  go_wp2
  go_loopw [2] (fun i wr => ∃ k : Nat, k ≤ 400 ∧ i = .int .i64 k ∧ Nums wr w.heap.size w.heap.size 400 (fillRow 400 k 2048) ∧ Below w.heap.size w wr) (fun i _ => 400 - (intOf i).toNat)
  case atStart => exact ⟨0, by omega, rfl, hn, hb⟩
  case round =>
    obtain ⟨k, hk, rfl, hnr, hbr⟩ := hrel
    by_cases hlt : k < 400
    · obtain ⟨c0, hc⟩ : ∃ c, wr.cell? ⟨w.heap.size, k, none⟩ = some (.int .i64 c) := ⟨_, hnr.cell k hlt⟩
      have hlt' : (k : Int) < 400 := by omega
      have hf := hnr.frozen k
      have HS : Hid (Nums (wr.setCell ⟨w.heap.size, k, none⟩ (.int .i64 2048)) w.heap.size w.heap.size 400 (fillRow 400 (k + 1) 2048)) := by
        have hs := hnr.store k 2048
        rw [fillRow_set 400 k 2048 hlt] at hs
        exact hs
      have HN : Hid (Nums wr w.heap.size w.heap.size 400 (fillRow 400 k 2048)) := hnr
      clear hnr
      go_wp2
      go_roundw
      case rel => exact ⟨k + 1, by omega, by go_num, HS.out, hbr.setCell (Nat.le_refl _) _⟩
      case measure => simp [intOf]; omega
    · obtain rfl : k = 400 := by omega
      rw [ch0_full] at hnr
      go_wp2
      go_ret
      exact ⟨rfl, hnr, hbr⟩

/-- A writer that has laid no byte down: its cells at block b, its chances at block g. -/
structure Wrt (w : World) (B b g : Nat) (L R : Int) (cs : List Int) : Prop where
  c0 : w.cell? ⟨b, 0, none⟩ = some (.slice none 0 0)
  c1 : w.cell? ⟨b, 1, none⟩ = some (.int .i64 L)
  c2 : w.cell? ⟨b, 2, none⟩ = some (.int .i64 R)
  c3 : w.cell? ⟨b, 3, none⟩ = some (.slice (some ⟨g, 0, none⟩) 400 400)
  fz : ∀ o, w.frozen? ⟨b, o, none⟩ = false
  nums : Nums w B g 400 cs
  ne : b ≠ g
  lo : B ≤ b
  up : b < w.heap.size

set_option maxHeartbeats 400000 in
theorem newWriter_any (w : World) :
    Calls Tryz.prog 50 #[] w fun e w' => ∃ b, e = .returned (.pointer (some ⟨b, 0, none⟩)) ∧ Wrt w' w.heap.size b w.heap.size 0 4294967295 ch0 ∧ Below w.heap.size w w' := by
  go_enter Tryz.func50, Tryz.ntmps50
  go_wp2_with (go_at_call 94; refine (chances_any _).mono ?_; rintro e w1 ⟨rfl, hn, hb⟩)
  go_ret
  have hl := hn.lt
  refine ⟨_, rfl, ⟨by simp, by simp, by simp, by simp, fun o => by simp, ?_, by omega, by omega, by simp⟩, hb.alloc hb.size _⟩
  exact World.ownsRow.alloc hn _

theorem Wrt.putR {w : World} {B b g : Nat} {L R R' : Int} {cs : List Int} (h : Wrt w B b g L R cs) : Wrt (w.setCell ⟨b, 2, none⟩ (.int .i64 R')) B b g L R' cs := by
  obtain ⟨h0, h1, h2, h3, hfz, hn, hne, hlo, hup⟩ := h
  exact ⟨cell_off h0 (.inr (by decide)), cell_off h1 (.inr (by decide)), World.cell?_setCell_same _ _ _ h2, cell_off h3 (.inr (by decide)), fun o => by rw [World.frozen?_setCell]; exact hfz o, hn.other hne, hne, hlo, by rw [World.size_setCell]; exact hup⟩
theorem Wrt.putL {w : World} {B b g : Nat} {L R L' : Int} {cs : List Int} (h : Wrt w B b g L R cs) : Wrt (w.setCell ⟨b, 1, none⟩ (.int .i64 L')) B b g L' R cs := by
  obtain ⟨h0, h1, h2, h3, hfz, hn, hne, hlo, hup⟩ := h
  exact ⟨cell_off h0 (.inr (by decide)), World.cell?_setCell_same _ _ _ h1, cell_off h2 (.inr (by decide)), cell_off h3 (.inr (by decide)), fun o => by rw [World.frozen?_setCell]; exact hfz o, hn.other hne, hne, hlo, by rw [World.size_setCell]; exact hup⟩
theorem Wrt.putC {w : World} {B b g : Nat} {L R : Int} {cs : List Int} (h : Wrt w B b g L R cs) (k : Nat) (v : Int) : Wrt (w.setCell ⟨g, k, none⟩ (.int .i64 v)) B b g L R (cs.set k v) := by
  obtain ⟨h0, h1, h2, h3, hfz, hn, hne, hlo, hup⟩ := h
  have hne' : g ≠ b := fun e => hne e.symm
  exact ⟨cell_off h0 (.inl hne'), cell_off h1 (.inl hne'), cell_off h2 (.inl hne'), cell_off h3 (.inl hne'), fun o => by rw [World.frozen?_setCell]; exact hfz o, hn.store k v, hne, hlo, by rw [World.size_setCell]; exact hup⟩

set_option maxHeartbeats 400000 in
set_option maxRecDepth 20000 in
theorem wbit0 (w : World) (B b g k : Nat) (L R c : Int) (cs : List Int) (h : Wrt w B b g L R cs) (hk : k < 400) (hc : cs.getD k 0 = c) (c0 : 0 ≤ c) (c1 : c ≤ 4096)
    (L0 : 0 ≤ L) (L1 : L ≤ 4294967295) (R0 : 0 ≤ R) (R1 : R ≤ 4294967295) (m0 : 16777216 ≤ R / 4096 * c) (m1 : R / 4096 * c ≤ 4294967295) :
    Calls Tryz.prog 51 #[.pointer (some ⟨b, 0, none⟩), .int .i64 k, .int .i64 0] w fun e w' => e = .returned (.tuple #[]) ∧ Wrt w' B b g L (R / 4096 * c) (cs.set k (c + (4096 - c) / 32)) ∧ Below B w w' := by
  have hw1 : Wrt ((w.setCell ⟨b, 2, none⟩ (.int .i64 (R / 4096 * c))).setCell ⟨g, k, none⟩ (.int .i64 (c + (4096 - c) / 32))) B b g L (R / 4096 * c) (cs.set k (c + (4096 - c) / 32)) := (h.putR).putC k _
  have hB : Below B w ((w.setCell ⟨b, 2, none⟩ (.int .i64 (R / 4096 * c))).setCell ⟨g, k, none⟩ (.int .i64 (c + (4096 - c) / 32))) := ((Below.refl B w).setCell h.lo _).setCell h.nums.lt.1 _
  have HW : Hid (Wrt ((w.setCell ⟨b, 2, none⟩ (.int .i64 (R / 4096 * c))).setCell ⟨g, k, none⟩ (.int .i64 (c + (4096 - c) / 32))) B b g L (R / 4096 * c) (cs.set k (c + (4096 - c) / 32)) ∧ Below B w ((w.setCell ⟨b, 2, none⟩ (.int .i64 (R / 4096 * c))).setCell ⟨g, k, none⟩ (.int .i64 (c + (4096 - c) / 32)))) := ⟨hw1, hB⟩
  clear hw1 hB
  obtain ⟨h0, h1, h2, h3, hfz, hn, hne, hlo, hup⟩ := h
  have hck := hn.cell k hk
  rw [hc] at hck
  have hfk := hn.frozen k
  have hne' : g ≠ b := fun e => hne e.symm
  have hk' : (k : Int) < 400 := by omega
  have HN : Hid (Nums w B g 400 cs) := hn
  clear hn
  go_enter Tryz.func51, Tryz.ntmps51
  go_wp2
  go_loopw [83] (fun _ wr => Wrt wr B b g L (R / 4096 * c) (cs.set k (c + (4096 - c) / 32)) ∧ Below B w wr) (fun _ _ => 0)
  case atStart => exact HW.out
  case round =>
    obtain ⟨hwr, hbr⟩ := hrel
    have i2 := hwr.c2
    have H : Hid (Wrt wr B b g L (R / 4096 * c) (cs.set k (c + (4096 - c) / 32))) := hwr
    clear hwr
    go_wp2
    go_end0
    exact ⟨rfl, H.out, hbr⟩

set_option maxHeartbeats 400000 in
set_option maxRecDepth 20000 in
theorem wbit1 (w : World) (B b g k : Nat) (L R c : Int) (cs : List Int) (h : Wrt w B b g L R cs) (hk : k < 400) (hc : cs.getD k 0 = c) (c0 : 0 ≤ c) (c1 : c ≤ 4096)
    (L0 : 0 ≤ L) (L1 : L ≤ 4294967295) (R0 : 0 ≤ R) (R1 : R ≤ 4294967295) (m00 : 0 ≤ R / 4096 * c) (m0 : 16777216 ≤ R - R / 4096 * c) (m1 : R / 4096 * c ≤ 4294967295) (m2 : L + R / 4096 * c ≤ 4294967295) :
    Calls Tryz.prog 51 #[.pointer (some ⟨b, 0, none⟩), .int .i64 k, .int .i64 1] w fun e w' => e = .returned (.tuple #[]) ∧ Wrt w' B b g (L + R / 4096 * c) (R - R / 4096 * c) (cs.set k (c - c / 32)) ∧ Below B w w' := by
  have hw1 : Wrt (((w.setCell ⟨b, 1, none⟩ (.int .i64 (L + R / 4096 * c))).setCell ⟨b, 2, none⟩ (.int .i64 (R - R / 4096 * c))).setCell ⟨g, k, none⟩ (.int .i64 (c - c / 32))) B b g (L + R / 4096 * c) (R - R / 4096 * c) (cs.set k (c - c / 32)) := ((h.putL).putR).putC k _
  have hB : Below B w (((w.setCell ⟨b, 1, none⟩ (.int .i64 (L + R / 4096 * c))).setCell ⟨b, 2, none⟩ (.int .i64 (R - R / 4096 * c))).setCell ⟨g, k, none⟩ (.int .i64 (c - c / 32))) := (((Below.refl B w).setCell h.lo _).setCell h.lo _).setCell h.nums.lt.1 _
  have HW : Hid (Wrt (((w.setCell ⟨b, 1, none⟩ (.int .i64 (L + R / 4096 * c))).setCell ⟨b, 2, none⟩ (.int .i64 (R - R / 4096 * c))).setCell ⟨g, k, none⟩ (.int .i64 (c - c / 32))) B b g (L + R / 4096 * c) (R - R / 4096 * c) (cs.set k (c - c / 32)) ∧ Below B w (((w.setCell ⟨b, 1, none⟩ (.int .i64 (L + R / 4096 * c))).setCell ⟨b, 2, none⟩ (.int .i64 (R - R / 4096 * c))).setCell ⟨g, k, none⟩ (.int .i64 (c - c / 32)))) := ⟨hw1, hB⟩
  clear hw1 hB
  obtain ⟨h0, h1, h2, h3, hfz, hn, hne, hlo, hup⟩ := h
  have hck := hn.cell k hk
  rw [hc] at hck
  have hfk := hn.frozen k
  have hne' : g ≠ b := fun e => hne e.symm
  have hk' : (k : Int) < 400 := by omega
  have HN : Hid (Nums w B g 400 cs) := hn
  clear hn
  go_enter Tryz.func51, Tryz.ntmps51
  go_wp2
  go_loopw [83] (fun _ wr => Wrt wr B b g (L + R / 4096 * c) (R - R / 4096 * c) (cs.set k (c - c / 32)) ∧ Below B w wr) (fun _ _ => 0)
  case atStart => exact HW.out
  case round =>
    obtain ⟨hwr, hbr⟩ := hrel
    have i2 := hwr.c2
    have H : Hid (Wrt wr B b g (L + R / 4096 * c) (R - R / 4096 * c) (cs.set k (c - c / 32))) := hwr
    clear hwr
    go_wp2
    go_end0
    exact ⟨rfl, H.out, hbr⟩

end Go.Proofs.YtekfbphnoibnjaaGreatDoor
