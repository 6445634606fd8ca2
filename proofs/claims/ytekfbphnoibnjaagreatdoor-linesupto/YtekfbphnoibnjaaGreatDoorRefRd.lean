/-
  What the document's reader does, call by call, against the plain one.
-/
import Derived.Test.YtekfbphnoibnjaaGreatDoorLists
import Derived.Test.YtekfbphnoibnjaaGreatDoorWriter
namespace Go.Proofs.YtekfbphnoibnjaaGreatDoor
open Go.RowKit

/-- A reader in memory: its cells at block b, its chances at block g. -/
structure RdAt (w : World) (B b g : Nat) (s : ByteArray) (r : RS) : Prop where
  c0 : w.cell? ⟨b, 0, none⟩ = some (.string s)
  c1 : w.cell? ⟨b, 1, none⟩ = some (.int .i64 r.pos)
  c2 : w.cell? ⟨b, 2, none⟩ = some (.int .i64 r.rng)
  c3 : w.cell? ⟨b, 3, none⟩ = some (.int .i64 r.code)
  c4 : w.cell? ⟨b, 4, none⟩ = some (.slice (some ⟨g, 0, none⟩) 400 400)
  c5 : w.cell? ⟨b, 5, none⟩ = some (.int .i64 r.err)
  fz : ∀ o, w.frozen? ⟨b, o, none⟩ = false
  nums : Nums w B g 400 r.ch
  ne : b ≠ g
  lo : B ≤ b
  up : b < w.heap.size

/-- The blocks of a reader. -/
def rdS (b g : Nat) : Nat → Prop := fun k => k = b ∨ k = g

theorem RdAt.on {w w' : World} {B b g : Nat} {s : ByteArray} {r : RS} (h : RdAt w B b g s r) (hb : w'.heap[b]? = w.heap[b]?) (hg : w'.heap[g]? = w.heap[g]?) (hz : w.heap.size ≤ w'.heap.size) : RdAt w' B b g s r := by
  have hc : ∀ o, w'.cell? ⟨b, o, none⟩ = w.cell? ⟨b, o, none⟩ := fun o => World.cell?_of_block (a := ⟨b, o, none⟩) hb
  refine ⟨(hc 0).trans h.c0, (hc 1).trans h.c1, (hc 2).trans h.c2, (hc 3).trans h.c3, (hc 4).trans h.c4, (hc 5).trans h.c5, fun o => (World.frozen?_of_block (a := ⟨b, o, none⟩) hb).trans (h.fz o), ?_, h.ne, h.lo, Nat.lt_of_lt_of_le h.up hz⟩
  obtain ⟨n1, n2⟩ := h.nums
  refine ⟨n1, ?_⟩
  rcases n2 with n2 | ⟨g', cap, cur, hv, hb', hg', hc'⟩
  · exact .inl n2
  · simp only [Value.slice.injEq, Option.some.injEq, Addr.mk.injEq, and_true, true_and] at hv
    obtain ⟨rfl, rfl⟩ := hv
    exact .inr ⟨g, 400, cur, rfl, hb', hg.trans hg', hc'⟩
theorem RdAt.frm {S : Nat → Prop} {w w' : World} {B b g : Nat} {s : ByteArray} {r : RS} (h : RdAt w B b g s r) (f : Frm S w w') (hb : ¬ S b) (hg : ¬ S g) : RdAt w' B b g s r :=
  h.on (f.block b h.up hb) (f.block g h.nums.lt.2 hg) f.size
theorem RdAt.drewN {w : World} {B b g : Nat} {s : ByteArray} {r : RS} (h : RdAt w B b g s r) (n : Nat) : RdAt (w.drewN n) B b g s r := h.on rfl rfl (Nat.le_refl _)

theorem RdAt.put1 {w : World} {B b g : Nat} {s : ByteArray} {r : RS} (h : RdAt w B b g s r) (n : Nat) : RdAt (w.setCell ⟨b, 1, none⟩ (.int .i64 n)) B b g s { r with pos := n } := by
  obtain ⟨h0, h1, h2, h3, h4, h5, hfz, hn, hne, hlo, hup⟩ := h
  exact ⟨cell_off h0 (.inr (by decide)), World.cell?_setCell_same _ _ _ h1, cell_off h2 (.inr (by decide)), cell_off h3 (.inr (by decide)), cell_off h4 (.inr (by decide)), cell_off h5 (.inr (by decide)), fun o => by rw [World.frozen?_setCell]; exact hfz o, hn.other hne, hne, hlo, by rw [World.size_setCell]; exact hup⟩
theorem RdAt.put2 {w : World} {B b g : Nat} {s : ByteArray} {r : RS} (h : RdAt w B b g s r) (n : Int) : RdAt (w.setCell ⟨b, 2, none⟩ (.int .i64 n)) B b g s { r with rng := n } := by
  obtain ⟨h0, h1, h2, h3, h4, h5, hfz, hn, hne, hlo, hup⟩ := h
  exact ⟨cell_off h0 (.inr (by decide)), cell_off h1 (.inr (by decide)), World.cell?_setCell_same _ _ _ h2, cell_off h3 (.inr (by decide)), cell_off h4 (.inr (by decide)), cell_off h5 (.inr (by decide)), fun o => by rw [World.frozen?_setCell]; exact hfz o, hn.other hne, hne, hlo, by rw [World.size_setCell]; exact hup⟩
theorem RdAt.put3 {w : World} {B b g : Nat} {s : ByteArray} {r : RS} (h : RdAt w B b g s r) (n : Int) : RdAt (w.setCell ⟨b, 3, none⟩ (.int .i64 n)) B b g s { r with code := n } := by
  obtain ⟨h0, h1, h2, h3, h4, h5, hfz, hn, hne, hlo, hup⟩ := h
  exact ⟨cell_off h0 (.inr (by decide)), cell_off h1 (.inr (by decide)), cell_off h2 (.inr (by decide)), World.cell?_setCell_same _ _ _ h3, cell_off h4 (.inr (by decide)), cell_off h5 (.inr (by decide)), fun o => by rw [World.frozen?_setCell]; exact hfz o, hn.other hne, hne, hlo, by rw [World.size_setCell]; exact hup⟩
theorem RdAt.put5 {w : World} {B b g : Nat} {s : ByteArray} {r : RS} (h : RdAt w B b g s r) (n : Int) : RdAt (w.setCell ⟨b, 5, none⟩ (.int .i64 n)) B b g s { r with err := n } := by
  obtain ⟨h0, h1, h2, h3, h4, h5, hfz, hn, hne, hlo, hup⟩ := h
  exact ⟨cell_off h0 (.inr (by decide)), cell_off h1 (.inr (by decide)), cell_off h2 (.inr (by decide)), cell_off h3 (.inr (by decide)), cell_off h4 (.inr (by decide)), World.cell?_setCell_same _ _ _ h5, fun o => by rw [World.frozen?_setCell]; exact hfz o, hn.other hne, hne, hlo, by rw [World.size_setCell]; exact hup⟩
theorem RdAt.putC {w : World} {B b g : Nat} {s : ByteArray} {r : RS} (h : RdAt w B b g s r) (k : Nat) (v : Int) : RdAt (w.setCell ⟨g, k, none⟩ (.int .i64 v)) B b g s { r with ch := r.ch.set k v } := by
  obtain ⟨h0, h1, h2, h3, h4, h5, hfz, hn, hne, hlo, hup⟩ := h
  have hne' : g ≠ b := fun e => hne e.symm
  exact ⟨cell_off h0 (.inl hne'), cell_off h1 (.inl hne'), cell_off h2 (.inl hne'), cell_off h3 (.inl hne'), cell_off h4 (.inl hne'), cell_off h5 (.inl hne'), fun o => by rw [World.frozen?_setCell]; exact hfz o, hn.store k v, hne, hlo, by rw [World.size_setCell]; exact hup⟩

set_option maxHeartbeats 400000 in
theorem rfail (w : World) (B b g : Nat) (s : ByteArray) (r : RS) (e : Int) (h : RdAt w B b g s r) :
    Calls Tryz.prog 128 #[.pointer (some ⟨b, 0, none⟩), .int .i64 e] w fun x w' => x = .returned (.tuple #[]) ∧ RdAt w' B b g s (Rdr.fail r e) ∧ Frm (rdS b g) w w' := by
  have i5 := h.c5
  have f5 := h.fz 5
  rcases h0 : (r.err == 0) with _ | _
  · have h0' : r.err ≠ 0 := by simpa using h0
    go_enter Tryz.func128, Tryz.ntmps128
    go_wp2
    go_end0
    exact ⟨rfl, by unfold Rdr.fail; rw [if_neg h0']; exact h, Frm.refl _ _⟩
  · have h0' : r.err = 0 := by simpa using h0
    have H : Hid (r.err = 0) := h0'
    clear h0'
    go_enter Tryz.func128, Tryz.ntmps128
    go_wp2
    go_end0
    exact ⟨rfl, by unfold Rdr.fail; rw [if_pos H.out]; exact h.put5 e, (Frm.refl _ _).setCell (.inl (.inl rfl)) _⟩

set_option maxHeartbeats 400000 in
theorem roctet (w : World) (B b g : Nat) (s : ByteArray) (r : RS) (h : RdAt w B b g s r) (hp : r.pos ≤ s.size) (hs : s.size ≤ maxLen) :
    Calls Tryz.prog 127 #[.pointer (some ⟨b, 0, none⟩)] w fun x w' => x = .returned (.int .i64 (Rdr.octB s r)) ∧ RdAt w' B b g s (Rdr.octS s r) ∧ Frm (rdS b g) w w' := by
  unfold maxLen at hs
  have i0 := h.c0
  have i1 := h.c1
  have f1 := h.fz 1
  by_cases hlt : r.pos < s.size
  · have hlt' : (r.pos : Int) < (s.size : Int) := by omega
    have hd : decide ((s.size : Int) ≤ (r.pos : Int)) = false := by simp; omega
    go_enter Tryz.func127, Tryz.ntmps127
    go_wp2
    go_quiet (fail)
    go_wp2
    go_quiet (fail)
    go_wp2
    go_ret
    refine ⟨ret_int ?_, ?_, (((Frm.refl _ w).drewN _).setCell (.inl (.inl rfl)) _).drewN _⟩
    · unfold Rdr.octB
      rw [if_pos hlt, byteAt_get s _ hlt]
      have := (s[r.pos]).toNat_lt
      unfold wrap64
      omega
    · unfold Rdr.octS
      rw [if_pos hlt]
      exact ((h.drewN _).put1 (r.pos + 1)).drewN _
  · have hge : (s.size : Int) ≤ (r.pos : Int) := by omega
    have HP := h
    go_enter Tryz.func127, Tryz.ntmps127
    go_wp2
    go_quiet (fail)
    go_wp2_with (go_at_call 128; refine (rfail _ B b g s r 5 (h.drewN _)).mono ?_; rintro x w1 ⟨rfl, h1, f1⟩)
    go_ret
    refine ⟨by unfold Rdr.octB; rw [if_neg hlt]; rfl, ?_, ((Frm.refl _ w).drewN _).trans f1⟩
    unfold Rdr.octS
    rw [if_neg hlt]
    exact h1

/-- The range that the reader at block b has. -/
def rngOf (w : World) (b : Nat) : Nat := (intOf ((w.cell? ⟨b, 2, none⟩).getD undef)).toNat
theorem rngOf_eq {w : World} {B b g : Nat} {s : ByteArray} {r : RS} (h : RdAt w B b g s r) : rngOf w b = r.rng.toNat := by
  unfold rngOf; rw [h.c2]; rfl


end Go.Proofs.YtekfbphnoibnjaaGreatDoor
