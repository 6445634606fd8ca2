/-
  The program's packer: the low end is raised; a packer is made.
-/
import Derived.Test.YtekfbphnoibnjaaGreatDoorLWr
import Derived.Laws.CopyOwn
namespace Go.Proofs.YtekfbphnoibnjaaGreatDoor
open Go.RowKit

/-- The program's packer in memory: at block b, its bytes in the slice v; its course lies ahead. -/
structure PW (w : World) (B b : Nat) (v : Value) (t : WS) : Prop where
  c0 : w.cell? ⟨b, 401, none⟩ = some v
  own : Octs w B v (Pack.digs t.m (t.n / 4294967296))
  ne : v.ownBlock ≠ some b
  c1 : w.cell? ⟨b, 402, none⟩ = some (.int .u32 (t.n % 4294967296))
  c2 : w.cell? ⟨b, 0, none⟩ = some (.int .u32 t.rng)
  fz : ∀ o, o < 403 → w.frozen? ⟨b, o, none⟩ = false
  ch : ChAt w b 1 t.ch
  up : b < w.heap.size

theorem Octs.set {w : World} {B : Nat} {v : Value} {zs : List Int} (h : Octs w B v zs) (b o : Nat) (u : Value) (hb : v.ownBlock ≠ some b) : Octs (w.setCell ⟨b, o, none⟩ u) B v zs := by
  unfold Octs at *
  exact h.kept (grown_setCell w b o u) (.inr hb)
theorem PW.drewN {w : World} {B b : Nat} {v : Value} {t : WS} (h : PW w B b v t) (n : Nat) : PW (w.drewN n) B b v t := ⟨h.c0, h.own, h.ne, h.c1, h.c2, h.fz, h.ch.on rfl, h.up⟩
theorem PW.drew {w : World} {B b : Nat} {v : Value} {t : WS} (h : PW w B b v t) : PW w.drew B b v t := ⟨h.c0, h.own, h.ne, h.c1, h.c2, h.fz, h.ch.on rfl, h.up⟩

/-- The blocks of a packer. -/
def wS (b : Nat) (v : Value) : Nat → Prop := fun k => k = b ∨ v.ownBlock = some k

set_option maxHeartbeats 400000 in
theorem pAdd32 (w : World) (x y : Int) (x0 : 0 ≤ x) (x1 : x ≤ 4294967295) (y0 : 0 ≤ y) (y1 : y ≤ 4294967295) :
    Calls Tryz.prog 145 #[.int .u32 x, .int .u32 y, .int .u32 0] w fun e w' => e = .returned (.tuple #[.int .u32 ((x + y) % 4294967296), .int .u32 ((x + y) / 4294967296)]) ∧ w' = w := by
  go_enter Tryz.func145, Tryz.ntmps145
  go_wp2
  go_ret2
  exact ⟨rfl, rfl⟩

set_option maxHeartbeats 1000000 in
set_option maxRecDepth 20000 in
theorem pRaise (w : World) (B b : Nat) (v : Value) (t : WS) (c : Int) (hm : t.m ≤ 1000000) (h : PW w B b v t) (c0 : 0 ≤ c) (c1 : c ≤ 4294967295) :
    Calls Tryz.prog 118 #[.pointer (some ⟨b, 0, none⟩), .int .u32 c] w fun e w' => e = .returned (.tuple #[]) ∧ PW w' B b v { t with n := t.n + c } ∧ Frm (wS b v) w w' := by
  have i1 := h.c1
  have f1 := h.fz 402 (by decide)
  obtain ⟨L, hL⟩ : ∃ L, L = t.n % 4294967296 := ⟨_, rfl⟩
  rw [← hL] at i1
  have L0 : 0 ≤ L := by omega
  have L1 : L ≤ 4294967295 := by omega
  have HL : Hid (L = t.n % 4294967296) := hL
  have HH : Hid (PW w B b v t) := h
  clear hL h
  by_cases hov : L + c < 4294967296
  · have e1 : (L + c) % 4294967296 = L + c := by omega
    have e2 : (L + c) / 4294967296 = 0 := by omega
    go_enter Tryz.func118, Tryz.ntmps118
    go_wp2_with (go_at_call 145; refine (pAdd32 _ L c L0 L1 c0 c1).mono ?_; rintro e w1 ⟨rfl, rfl⟩; rw [e1, e2])
    go_end0
    have hl := HL.out
    have h := HH.out
    refine ⟨rfl, ⟨cell_off h.c0 (.inr (by decide)), ?_, h.ne, ?_, cell_off h.c2 (.inr (by decide)), fun o ho => by rw [World.frozen?_setCell]; exact h.fz o ho, h.ch.off (.inr (.inr (by decide))), by rw [World.size_setCell]; exact h.up⟩, (Frm.refl (wS b v) w1).setCell (.inl (show wS b v b from .inl rfl)) _⟩
    · show Octs _ B v (Pack.digs t.m ((t.n + c) / 4294967296))
      rw [show (t.n + c) / 4294967296 = t.n / 4294967296 by omega]
      exact h.own.set b 402 _ h.ne
    · show _ = some (Value.int .u32 ((t.n + c) % 4294967296))
      rw [show (t.n + c) % 4294967296 = L + c by omega]
      exact World.cell?_setCell_same _ _ _ h.c1
  · have e1 : (L + c) % 4294967296 = L + c - 4294967296 := by omega
    have e2 : (L + c) / 4294967296 = 1 := by omega
    have hc0 : (w.setCell ⟨b, 402, none⟩ (.int .u32 (L + c - 4294967296))).cell? ⟨b, 401, none⟩ = some v := cell_off HH.out.c0 (.inr (by decide))
    have ho : Octs (w.setCell ⟨b, 402, none⟩ (.int .u32 (L + c - 4294967296))) B v (Pack.digs t.m (t.n / 4294967296)) := HH.out.own.set b 402 _ HH.out.ne
    have HC : Hid ((w.setCell ⟨b, 402, none⟩ (.int .u32 (L + c - 4294967296))).cell? ⟨b, 401, none⟩ = some v ∧ Octs (w.setCell ⟨b, 402, none⟩ (.int .u32 (L + c - 4294967296))) B v (Pack.digs t.m (t.n / 4294967296))) := ⟨hc0, ho⟩
    clear hc0 ho
    go_enter Tryz.func118, Tryz.ntmps118
    go_wp2_with (first
      | (go_at_call 145; refine (pAdd32 _ L c L0 L1 c0 c1).mono ?_; rintro e w1 ⟨rfl, rfl⟩; rw [e1, e2])
      | (go_at_call 146; refine (pCarry _ B b t.m v _ hm HC.out.1 HC.out.2 HH.out.ne).mono ?_; rintro e w2 ⟨rfl, ho2, hf2⟩))
    go_end0
    have hl := HL.out
    have h := HH.out
    have hnb : ¬ ownS v b := fun e => h.ne e
    have hbk : w2.heap[b]? = (w1.setCell ⟨b, 402, none⟩ (.int .u32 (L + c - 4294967296))).heap[b]? := hf2.block b (by rw [World.size_setCell]; exact h.up) hnb
    have hcc : ∀ o, w2.cell? ⟨b, o, none⟩ = (w1.setCell ⟨b, 402, none⟩ (.int .u32 (L + c - 4294967296))).cell? ⟨b, o, none⟩ := fun o => World.cell?_of_block (a := ⟨b, o, none⟩) hbk
    refine ⟨rfl, ⟨(hcc 401).trans (cell_off h.c0 (.inr (by decide))), ?_, h.ne, ?_, (hcc 0).trans (cell_off h.c2 (.inr (by decide))), fun o ho => by rw [World.frozen?_of_block (a := ⟨b, o, none⟩) hbk, World.frozen?_setCell]; exact h.fz o ho, (h.ch.off (.inr (.inr (by decide)))).on hbk, Nat.lt_of_lt_of_le h.up (by have := hf2.size; rw [World.size_setCell] at this; exact this)⟩, ((Frm.refl (wS b v) w1).setCell (.inl (show wS b v b from .inl rfl)) _).trans (hf2.mono (fun k _ e => .inr e))⟩
    · show Octs _ B v (Pack.digs t.m ((t.n + c) / 4294967296))
      rw [show (t.n + c) / 4294967296 = t.n / 4294967296 + 1 by omega]
      exact ho2
    · show _ = some (Value.int .u32 ((t.n + c) % 4294967296))
      rw [show (t.n + c) % 4294967296 = L + c - 4294967296 by omega, hcc 402]
      exact World.cell?_setCell_same _ _ _ h.c1

theorem crs_one : crsEven.all (·.oneCell') = true := by
  unfold crsEven
  rw [Array.all_append, show chEven.all (·.oneCell') = true from evens_one 400]
  simp [Value.oneCell']
theorem crs_is : laidAt ((#[Value.int .u32 0] ++ Array.replicate 400 (Value.int .u32 0)).setIfInBounds 0 (Value.int .u32 4294967295)) 1 chEven = crsEven := by
  have hcs : chEven.size = 400 := evens_size 400
  have hzs : ((#[Value.int .u32 0] ++ Array.replicate 400 (Value.int .u32 0)).setIfInBounds 0 (Value.int .u32 4294967295)).size = 401 := by
    rw [Array.size_setIfInBounds, Array.size_append, Array.size_replicate]; rfl
  apply Array.ext_getElem?
  intro j
  rw [laidAt_get, hcs, hzs]
  unfold crsEven
  by_cases h0 : j = 0
  · subst h0
    rw [if_neg (by omega), Array.getElem?_setIfInBounds_self_of_lt (by rw [Array.size_append, Array.size_replicate]; decide), Array.getElem?_append_left (by simp)]
    rfl
  · rw [Array.getElem?_append_right (by simp; omega)]
    by_cases h1 : j < 401
    · rw [if_pos ⟨by omega, by omega, h1⟩]
      rfl
    · rw [if_neg (by omega), Array.getElem?_eq_none (by rw [hzs]; omega), Array.getElem?_eq_none (by rw [hcs]; simp; omega)]

set_option maxHeartbeats 1000000 in
set_option maxRecDepth 20000 in
theorem pNewCourse (w : World) :
    Calls Tryz.prog 75 #[] w fun x w' => x = .returned (.agg crsEven) ∧ Below w.heap.size w w' := by
  obtain ⟨hzero, hsize⟩ := zero_of_info crsInfo
  have hCI := crs_is
  obtain ⟨Z, hZ⟩ : ∃ Z, Z = #[Value.int .u32 0] ++ Array.replicate 400 (.int .u32 0) := ⟨_, rfl⟩
  rw [← hZ] at hzero hCI
  have hZs : Z.size = 401 := by rw [hZ, Array.size_append, Array.size_replicate]; rfl
  have hZn : Z ≠ #[] := fun e => by rw [e] at hZs; exact absurd hZs (by decide)
  obtain ⟨E, hE⟩ : ∃ E, E = chEven := ⟨_, rfl⟩
  obtain ⟨F, hF⟩ : ∃ F, F = crsEven := ⟨_, rfl⟩
  have hNC := fun w => newChances w
  have hF1 := crs_one
  have hFs := crsEven_size
  have hcs : E.size = 400 := by rw [hE]; exact evens_size 400
  rw [← hE] at hNC hCI
  rw [← hF] at hCI hF1 hFs ⊢
  have HCI : Hid (laidAt (Z.setIfInBounds 0 (.int .u32 4294967295)) 1 E = F) := hCI
  have HNC : Hid (∀ w, Calls Tryz.prog 84 #[] w fun e w' => e = .returned (.agg E) ∧ Below w.heap.size w w') := hNC
  have HF1 : Hid (F.all (·.oneCell') = true) := hF1
  have HSZ : Hid ((Tryz.prog.info? 147).map (·.size) = some 401) := hsize
  clear hZ hsize hE hF hNC hF1 hCI
  go_enter Tryz.func75, Tryz.ntmps75
  go_wp2_with (first
    | (go_at_call 84; refine (HNC.out _).mono ?_; rintro e w1 ⟨rfl, hb⟩)
    | (refine wpList_store_row rfl 147 _ _ rfl w.heap.size F rfl (by rw [← HCI.out]; unfold laidAt; rw [hcs]; rfl) 147 Z ((hb.block _ (by simp)).trans (heap_alloc_last w _)) (by rw [HSZ.out, hFs]) (by rw [hZs, hFs]) HF1.out ?_))
  have hgr : (w1.setRow w.heap.size F).heap[w.heap.size]? = some (.cells F 147 (0, 0)) := setRow_heap w1 _ Z F _ _ ((hb.block _ (by simp)).trans (heap_alloc_last w _))
  have hld := run_loadVar_row (P := Tryz.prog) (w1.setRow w.heap.size F) w.heap.size 147 147 F (0, 0) _ hgr Tryz.underlying147 rfl (by rw [HSZ.out, hFs])
  refine bodyPost_ret (v := .agg F) ?_ rfl ⟨rfl, below_setRow (((Below.refl _ w).alloc (Nat.le_refl _) _).trans (hb.mono (by simp))) (Nat.le_refl _) _⟩
  simp [results, Tryz.results75, Act.put, asAddr, hld]

set_option maxHeartbeats 1000000 in
set_option maxRecDepth 20000 in
theorem pNewWriter (w : World) :
    Calls Tryz.prog 81 #[] w fun x w' => ∃ b, x = .returned (.pointer (some ⟨b, 0, none⟩)) ∧ w.heap.size ≤ b ∧ PW w' w.heap.size b (.slice none 0 0) Pack.init ∧ Below w.heap.size w w' := by
  obtain ⟨hzero, hsize⟩ := zero_of_info lwInfo
  obtain ⟨Z, hZ⟩ : ∃ Z, Z = (#[Value.int .u32 0] ++ Array.replicate 400 (.int .u32 0)) ++ #[Value.slice none 0 0, .int .u32 0] := ⟨_, rfl⟩
  rw [← hZ] at hzero
  have hY : (#[Value.int .u32 0] ++ Array.replicate 400 (Value.int .u32 0)).size = 401 := by rw [Array.size_append, Array.size_replicate]; rfl
  have hZs : Z.size = 403 := by rw [hZ, Array.size_append, hY]; rfl
  have hZ0 : Z[401]? = some (.slice none 0 0) := by rw [hZ, Array.getElem?_append_right (by rw [hY]; exact Nat.le_refl _), hY]; rfl
  have hZ1 : Z[402]? = some (.int .u32 0) := by rw [hZ, Array.getElem?_append_right (by rw [hY]; decide), hY]; rfl
  have hZn : Z ≠ #[] := fun e => by rw [e] at hZs; exact absurd hZs (by decide)
  obtain ⟨E, hE⟩ : ∃ E, E = crsEven := ⟨_, rfl⟩
  have hNC := fun w => pNewCourse w
  rw [← hE] at hNC
  have hcs : E.size = 401 := by rw [hE]; exact crsEven_size
  have HE : Hid (E = crsEven) := hE
  clear hZ hsize hY hE
  go_enter Tryz.func81, Tryz.ntmps81
  go_wp2_with (go_at_call 75; refine (hNC _).mono ?_; rintro e w1 ⟨rfl, hb⟩)
  obtain ⟨C, hC⟩ : ∃ C, C = Array.foldl (fun cs x => cs.setIfInBounds x.snd x.fst) Z E.zipIdx 0 401 := ⟨_, rfl⟩
  rw [← hC]
  have hC' : C = laidAt Z 0 crsEven := by
    rw [hC, ← HE.out]; unfold laidAt; rw [hcs]; simp only [Nat.zero_add]
  have HR : PW (w1.alloc (.cells C 211)) w.heap.size w1.heap.size (.slice none 0 0) Pack.init := by
    rw [hC']
    refine ⟨?_, World.ownsRow_nil _ _ _ _, by simp [Value.ownBlock], ?_, crs_laid0 w1 _ _ hZs, fun o _ => by simp, crs_laid w1 _ _ hZs, by simp⟩
    · rw [crs_laid2 w1 _ _ 401 (by decide), hZ0]
    · rw [crs_laid2 w1 _ _ 402 (by decide), hZ1]; rfl
  go_ret
  exact ⟨_, rfl, hb.size, HR, hb.alloc hb.size _⟩

end Go.Proofs.YtekfbphnoibnjaaGreatDoor
