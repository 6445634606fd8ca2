/-
  The program's packer: the low end is raised; a packer is made.
-/
import Derived.Test.YtnjndbckejghcaaDoorLWr
namespace Go.Proofs.YtnjndbckejghcaaDoor
open Go.RowKit

/-- The program's packer in memory: at block b, its bytes in the slice v. -/
structure PW (w : World) (B b : Nat) (v : Value) (t : WS) : Prop where
  c0 : w.cell? ⟨b, 0, none⟩ = some v
  own : Octs w B v (Pack.digs t.m (t.n / 4294967296))
  ne : v.ownBlock ≠ some b
  c1 : w.cell? ⟨b, 1, none⟩ = some (.int .u32 (t.n % 4294967296))
  c2 : w.cell? ⟨b, 2, none⟩ = some (.int .u32 t.rng)
  fz : ∀ o, o < 3 → w.frozen? ⟨b, o, none⟩ = false
  ch : ChAt w b 3 t.ch
  up : b < w.heap.size

theorem Octs.set {w : World} {B : Nat} {v : Value} {zs : List Int} (h : Octs w B v zs) (b o : Nat) (u : Value) (hb : v.ownBlock ≠ some b) : Octs (w.setCell ⟨b, o, none⟩ u) B v zs := by
  unfold Octs at *
  exact h.kept (grown_setCell w b o u) (.inr hb)
theorem PW.put2 {w : World} {B b : Nat} {v : Value} {t : WS} (h : PW w B b v t) (r : Int) : PW (w.setCell ⟨b, 2, none⟩ (.int .u32 r)) B b v { t with rng := r } :=
  ⟨cell_off h.c0 (.inr (by decide)), h.own.set b 2 _ h.ne, h.ne, cell_off h.c1 (.inr (by decide)), World.cell?_setCell_same _ _ _ h.c2, fun o ho => by rw [World.frozen?_setCell]; exact h.fz o ho, h.ch.off (.inr (.inl (by decide))), by rw [World.size_setCell]; exact h.up⟩
theorem PW.putC {w : World} {B b : Nat} {v : Value} {t : WS} (h : PW w B b v t) (k : Nat) (c : Int) : PW (w.setCell ⟨b, 3 + k, none⟩ (.int .u32 c)) B b v { t with ch := t.ch.set k c } :=
  ⟨cell_off h.c0 (.inr (by omega)), h.own.set b _ _ h.ne, h.ne, cell_off h.c1 (.inr (by omega)), cell_off h.c2 (.inr (by omega)), fun o ho => by rw [World.frozen?_setCell]; exact h.fz o ho, h.ch.set k c, by rw [World.size_setCell]; exact h.up⟩
theorem PW.drewN {w : World} {B b : Nat} {v : Value} {t : WS} (h : PW w B b v t) (n : Nat) : PW (w.drewN n) B b v t := ⟨h.c0, h.own, h.ne, h.c1, h.c2, h.fz, h.ch.on rfl, h.up⟩
theorem PW.drew {w : World} {B b : Nat} {v : Value} {t : WS} (h : PW w B b v t) : PW w.drew B b v t := ⟨h.c0, h.own, h.ne, h.c1, h.c2, h.fz, h.ch.on rfl, h.up⟩

/-- The blocks of a packer. -/
def wS (b : Nat) (v : Value) : Nat → Prop := fun k => k = b ∨ v.ownBlock = some k

set_option maxHeartbeats 400000 in
theorem pAdd32 (w : World) (x y : Int) (x0 : 0 ≤ x) (x1 : x ≤ 4294967295) (y0 : 0 ≤ y) (y1 : y ≤ 4294967295) :
    Calls Tryd.prog 22 #[.int .u32 x, .int .u32 y, .int .u32 0] w fun e w' => e = .returned (.tuple #[.int .u32 ((x + y) % 4294967296), .int .u32 ((x + y) / 4294967296)]) ∧ w' = w := by
  go_enter Tryd.func22, Tryd.ntmps22
  go_wp2
  go_ret2
  exact ⟨rfl, rfl⟩

set_option maxHeartbeats 1000000 in
set_option maxRecDepth 20000 in
theorem pRaise (w : World) (B b : Nat) (v : Value) (t : WS) (c : Int) (hm : t.m ≤ 1000000) (h : PW w B b v t) (c0 : 0 ≤ c) (c1 : c ≤ 4294967295) :
    Calls Tryd.prog 16 #[.pointer (some ⟨b, 0, none⟩), .int .u32 c] w fun e w' => e = .returned (.tuple #[]) ∧ PW w' B b v { t with n := t.n + c } ∧ Frm (wS b v) w w' := by
  have i1 := h.c1
  have f1 := h.fz 1 (by decide)
  obtain ⟨L, hL⟩ : ∃ L, L = t.n % 4294967296 := ⟨_, rfl⟩
  rw [← hL] at i1
  have L0 : 0 ≤ L := by omega
  have L1 : L ≤ 4294967295 := by omega
  have HL : Hid (L = t.n % 4294967296) := hL
  have HH : Hid (PW w B b v t) := h
  clear hL h
  by_cases hov : L + c < 4294967296
  · have e1 : (L + c) % 4294967296 = L + c := by omega
    have e2 : (L + c) / 4294967296 = 0 := by omega
    go_enter Tryd.func16, Tryd.ntmps16
    go_wp2_with (go_at_call 22; refine (pAdd32 _ L c L0 L1 c0 c1).mono ?_; rintro e w1 ⟨rfl, rfl⟩; rw [e1, e2])
    go_end0
    have hl := HL.out
    have h := HH.out
    refine ⟨rfl, ⟨cell_off h.c0 (.inr (by decide)), ?_, h.ne, ?_, cell_off h.c2 (.inr (by decide)), fun o ho => by rw [World.frozen?_setCell]; exact h.fz o ho, h.ch.off (.inr (.inl (by decide))), by rw [World.size_setCell]; exact h.up⟩, (Frm.refl (wS b v) w1).setCell (.inl (show wS b v b from .inl rfl)) _⟩
    · show Octs _ B v (Pack.digs t.m ((t.n + c) / 4294967296))
      rw [show (t.n + c) / 4294967296 = t.n / 4294967296 by omega]
      exact h.own.set b 1 _ h.ne
    · show _ = some (Value.int .u32 ((t.n + c) % 4294967296))
      rw [show (t.n + c) % 4294967296 = L + c by omega]
      exact World.cell?_setCell_same _ _ _ h.c1
  · have e1 : (L + c) % 4294967296 = L + c - 4294967296 := by omega
    have e2 : (L + c) / 4294967296 = 1 := by omega
    have hc0 : (w.setCell ⟨b, 1, none⟩ (.int .u32 (L + c - 4294967296))).cell? ⟨b, 0, none⟩ = some v := cell_off HH.out.c0 (.inr (by decide))
    have ho : Octs (w.setCell ⟨b, 1, none⟩ (.int .u32 (L + c - 4294967296))) B v (Pack.digs t.m (t.n / 4294967296)) := HH.out.own.set b 1 _ HH.out.ne
    have HC : Hid ((w.setCell ⟨b, 1, none⟩ (.int .u32 (L + c - 4294967296))).cell? ⟨b, 0, none⟩ = some v ∧ Octs (w.setCell ⟨b, 1, none⟩ (.int .u32 (L + c - 4294967296))) B v (Pack.digs t.m (t.n / 4294967296))) := ⟨hc0, ho⟩
    clear hc0 ho
    go_enter Tryd.func16, Tryd.ntmps16
    go_wp2_with (first
      | (go_at_call 22; refine (pAdd32 _ L c L0 L1 c0 c1).mono ?_; rintro e w1 ⟨rfl, rfl⟩; rw [e1, e2])
      | (go_at_call 23; refine (pCarry _ B b t.m v _ hm HC.out.1 HC.out.2 HH.out.ne).mono ?_; rintro e w2 ⟨rfl, ho2, hf2⟩))
    go_end0
    have hl := HL.out
    have h := HH.out
    have hnb : ¬ ownS v b := fun e => h.ne e
    have hbk : w2.heap[b]? = (w1.setCell ⟨b, 1, none⟩ (.int .u32 (L + c - 4294967296))).heap[b]? := hf2.block b (by rw [World.size_setCell]; exact h.up) hnb
    have hcc : ∀ o, w2.cell? ⟨b, o, none⟩ = (w1.setCell ⟨b, 1, none⟩ (.int .u32 (L + c - 4294967296))).cell? ⟨b, o, none⟩ := fun o => World.cell?_of_block (a := ⟨b, o, none⟩) hbk
    refine ⟨rfl, ⟨(hcc 0).trans (cell_off h.c0 (.inr (by decide))), ?_, h.ne, ?_, (hcc 2).trans (cell_off h.c2 (.inr (by decide))), fun o ho => by rw [World.frozen?_of_block (a := ⟨b, o, none⟩) hbk, World.frozen?_setCell]; exact h.fz o ho, (h.ch.off (.inr (.inl (by decide)))).on hbk, Nat.lt_of_lt_of_le h.up (by have := hf2.size; rw [World.size_setCell] at this; exact this)⟩, ((Frm.refl (wS b v) w1).setCell (.inl (show wS b v b from .inl rfl)) _).trans (hf2.mono (fun k _ e => .inr e))⟩
    · show Octs _ B v (Pack.digs t.m ((t.n + c) / 4294967296))
      rw [show (t.n + c) / 4294967296 = t.n / 4294967296 + 1 by omega]
      exact ho2
    · show _ = some (Value.int .u32 ((t.n + c) % 4294967296))
      rw [show (t.n + c) % 4294967296 = L + c - 4294967296 by omega, hcc 1]
      exact World.cell?_setCell_same _ _ _ h.c1

set_option maxHeartbeats 1000000 in
set_option maxRecDepth 20000 in
theorem pNewWriter (w : World) :
    Calls Tryd.prog 9 #[] w fun x w' => ∃ b, x = .returned (.pointer (some ⟨b, 0, none⟩)) ∧ w.heap.size ≤ b ∧ PW w' w.heap.size b (.slice none 0 0) Pack.init ∧ Below w.heap.size w w' := by
  obtain ⟨hzero, hsize⟩ := zero_of_info lwInfo
  obtain ⟨Z, hZ⟩ : ∃ Z, Z = #[Value.slice none 0 0, .int .u32 0, .int .u32 0] ++ Array.replicate 400 (.int .u32 0) := ⟨_, rfl⟩
  rw [← hZ] at hzero
  have hZs : Z.size = 403 := by rw [hZ, Array.size_append, Array.size_replicate]; rfl
  have hZ0 : Z[0]? = some (.slice none 0 0) := by rw [hZ, Array.getElem?_append_left (by simp)]; rfl
  have hZ1 : Z[1]? = some (.int .u32 0) := by rw [hZ, Array.getElem?_append_left (by simp)]; rfl
  have hZn : Z ≠ #[] := fun e => by rw [e] at hZs; exact absurd hZs (by decide)
  have hcs : chEven.size = 400 := evens_size 400
  clear hZ hsize
  go_enter Tryd.func9, Tryd.ntmps9
  go_wp2_with (go_at_call 14; refine (newChances _).mono ?_; rintro e w1 ⟨rfl, hb⟩)
  obtain ⟨C, hC⟩ : ∃ C, C = Array.foldl (fun cs x => cs.setIfInBounds (3 + x.snd) x.fst) (Z.setIfInBounds 2 (Value.int IntKind.u32 4294967295)) chEven.zipIdx 0 400 := ⟨_, rfl⟩
  rw [← hC]
  have hC' : C = laidAt (Z.setIfInBounds 2 (Value.int IntKind.u32 4294967295)) 3 chEven := by
    rw [hC]; unfold laidAt; rw [hcs]
  have HR : PW (w1.alloc (.cells C 50)) w.heap.size w1.heap.size (.slice none 0 0) Pack.init := by
    rw [hC']
    refine ⟨?_, World.ownsRow_nil _ _ _ _, by simp [Value.ownBlock], ?_, ?_, fun o _ => by simp, chAt_laid w1 _ _ (by simp [hZs]), by simp⟩
    · rw [cell_laid w1 _ _ 0 (by decide), Array.getElem?_setIfInBounds_ne (by decide), hZ0]
    · rw [cell_laid w1 _ _ 1 (by decide), Array.getElem?_setIfInBounds_ne (by decide), hZ1]; rfl
    · rw [cell_laid w1 _ _ 2 (by decide), Array.getElem?_setIfInBounds_self_of_lt (by omega)]; rfl
  go_ret
  exact ⟨_, rfl, hb.size, HR, hb.alloc hb.size _⟩

end Go.Proofs.YtnjndbckejghcaaDoor
