/-
  The program's packer: the low end is raised; a packer is made. The program's course of a line: the range is narrowed to the part of a bit.
-/
import Derived.Test.YtekfbphnoibnjaaDoorF11
import Derived.Laws.CopyOwn
namespace Go.Proofs.YtekfbphnoibnjaaDoor
open Go.RowKit
structure PW (w : World) (B b : Nat) (v : Value) (t : WS) : Prop where
 c0 : w.cell? ⟨b, 401, none⟩ = some v
 own : Octs w B v (Pack.digs t.m (t.n / 4294967296))
 ne : v.ownBlock ≠ some b
 c1 : w.cell? ⟨b, 402, none⟩ = some (.int .u32 (t.n % 4294967296))
 c2 : w.cell? ⟨b, 0, none⟩ = some (.int .u32 t.rng)
 fz : ∀ o, o < 403 -> w.frozen? ⟨b, o, none⟩ = false
 ch : ChAt w b 1 t.ch
 up : b < w.heap.size
theorem Octs.set {w : World} {B : Nat} {v : Value} {zs : List Int} (h : Octs w B v zs) (b o : Nat) (u : Value) (hb : v.ownBlock ≠ some b) : Octs (w.setCell ⟨b, o, none⟩ u) B v zs := by
 unfold Octs at *
 exact h.kept (grown_setCell w b o u) (.inr hb)
theorem PW.drewN {w : World} {B b : Nat} {v : Value} {t : WS} (h : PW w B b v t) (n : Nat) : PW (w.drewN n) B b v t := ⟨h.c0, h.own, h.ne, h.c1, h.c2, h.fz, h.ch.on rfl, h.up⟩
theorem PW.drew {w : World} {B b : Nat} {v : Value} {t : WS} (h : PW w B b v t) : PW w.drew B b v t := ⟨h.c0, h.own, h.ne, h.c1, h.c2, h.fz, h.ch.on rfl, h.up⟩
def wS (b : Nat) (v : Value) : Nat -> Prop := fun k => k = b \/ v.ownBlock = some k
set_option maxHeartbeats 400000 in
theorem pAdd32 (w : World) (x y : Int) (x0 : 0 <= x) (x1 : x <= 4294967295) (y0 : 0 <= y) (y1 : y <= 4294967295) :
  Calls Tryd.prog 35 #[.int .u32 x, .int .u32 y, .int .u32 0] w fun e w' => e = .returned (.tuple #[.int .u32 ((x + y) % 4294967296), .int .u32 ((x + y) / 4294967296)]) /\ w' = w := by
 go_enter Tryd.func35, Tryd.ntmps35
 go_wp2
 go_ret2
 exact ⟨rfl, rfl⟩
set_option maxHeartbeats 1000000 in
set_option maxRecDepth 20000 in
theorem pRaise (w : World) (B b : Nat) (v : Value) (t : WS) (c : Int) (hm : t.m <= 1000000) (h : PW w B b v t) (c0 : 0 <= c) (c1 : c <= 4294967295) :
  Calls Tryd.prog 21 #[.pointer (some ⟨b, 0, none⟩), .int .u32 c] w fun e w' => e = .returned (.tuple #[]) /\ PW w' B b v { t with n := t.n + c } /\ Frm (wS b v) w w' := by
 have i1 := h.c1
 have f1 := h.fz 402 (by decide)
 obtain ⟨L, hL⟩ : ∃ L, L = t.n % 4294967296 := ⟨_, rfl⟩
 rw [<- hL] at i1
 have L0 : 0 <= L := by omega
 have L1 : L <= 4294967295 := by omega
 have HL : Hid (L = t.n % 4294967296) := hL
 have HH : Hid (PW w B b v t) := h
 clear hL h
 by_cases hov : L + c < 4294967296
 ·have e1 : (L + c) % 4294967296 = L + c := by omega
  have e2 : (L + c) / 4294967296 = 0 := by omega
  go_enter Tryd.func21, Tryd.ntmps21
  go_wp2_with (go_at_call 35; refine (pAdd32 _ L c L0 L1 c0 c1).mono ?_; rintro e w1 ⟨rfl, rfl⟩; rw [e1, e2])
  go_end0
  have hl := HL.out
  have h := HH.out
  refine ⟨rfl, ⟨cell_off h.c0 (.inr (by decide)), ?_, h.ne, ?_, cell_off h.c2 (.inr (by decide)), fun o ho => by rw [World.frozen?_setCell]; exact h.fz o ho, h.ch.off (.inr (.inr (by decide))), by rw [World.size_setCell]; exact h.up⟩, (Frm.refl (wS b v) w1).setCell (.inl (show wS b v b from .inl rfl)) _⟩
  ·show Octs _ B v (Pack.digs t.m ((t.n + c) / 4294967296))
   rw [show (t.n + c) / 4294967296 = t.n / 4294967296 by omega]
   exact h.own.set b 402 _ h.ne
  ·show _ = some (Value.int .u32 ((t.n + c) % 4294967296))
   rw [show (t.n + c) % 4294967296 = L + c by omega]
   exact World.cell?_setCell_same _ _ _ h.c1
 ·have e1 : (L + c) % 4294967296 = L + c - 4294967296 := by omega
  have e2 : (L + c) / 4294967296 = 1 := by omega
  have hc0 : (w.setCell ⟨b, 402, none⟩ (.int .u32 (L + c - 4294967296))).cell? ⟨b, 401, none⟩ = some v := cell_off HH.out.c0 (.inr (by decide))
  have ho : Octs (w.setCell ⟨b, 402, none⟩ (.int .u32 (L + c - 4294967296))) B v (Pack.digs t.m (t.n / 4294967296)) := HH.out.own.set b 402 _ HH.out.ne
  have HC : Hid ((w.setCell ⟨b, 402, none⟩ (.int .u32 (L + c - 4294967296))).cell? ⟨b, 401, none⟩ = some v /\ Octs (w.setCell ⟨b, 402, none⟩ (.int .u32 (L + c - 4294967296))) B v (Pack.digs t.m (t.n / 4294967296))) := ⟨hc0, ho⟩
  clear hc0 ho
  go_enter Tryd.func21, Tryd.ntmps21
  go_wp2_with (first
   | (go_at_call 35; refine (pAdd32 _ L c L0 L1 c0 c1).mono ?_; rintro e w1 ⟨rfl, rfl⟩; rw [e1, e2])
   | (go_at_call 36; refine (pCarry _ B b t.m v _ hm HC.out.1 HC.out.2 HH.out.ne).mono ?_; rintro e w2 ⟨rfl, ho2, hf2⟩))
  go_end0
  have hl := HL.out
  have h := HH.out
  have hnb : ¬ ownS v b := fun e => h.ne e
  have hbk : w2.heap[b]? = (w1.setCell ⟨b, 402, none⟩ (.int .u32 (L + c - 4294967296))).heap[b]? := hf2.block b (by rw [World.size_setCell]; exact h.up) hnb
  have hcc : ∀ o, w2.cell? ⟨b, o, none⟩ = (w1.setCell ⟨b, 402, none⟩ (.int .u32 (L + c - 4294967296))).cell? ⟨b, o, none⟩ := fun o => World.cell?_of_block (a := ⟨b, o, none⟩) hbk
  refine ⟨rfl, ⟨(hcc 401).trans (cell_off h.c0 (.inr (by decide))), ?_, h.ne, ?_, (hcc 0).trans (cell_off h.c2 (.inr (by decide))), fun o ho => by rw [World.frozen?_of_block (a := ⟨b, o, none⟩) hbk, World.frozen?_setCell]; exact h.fz o ho, (h.ch.off (.inr (.inr (by decide)))).on hbk, Nat.lt_of_lt_of_le h.up (by have := hf2.size; rw [World.size_setCell] at this; exact this)⟩, ((Frm.refl (wS b v) w1).setCell (.inl (show wS b v b from .inl rfl)) _).trans (hf2.mono (fun k _ e => .inr e))⟩
  ·show Octs _ B v (Pack.digs t.m ((t.n + c) / 4294967296))
   rw [show (t.n + c) / 4294967296 = t.n / 4294967296 + 1 by omega]
   exact ho2
  ·show _ = some (Value.int .u32 ((t.n + c) % 4294967296))
   rw [show (t.n + c) % 4294967296 = L + c - 4294967296 by omega, hcc 402]
   exact World.cell?_setCell_same _ _ _ h.c1
theorem crs_one : crsEven.all (·.oneCell') = true := by
 unfold crsEven
 rw [Array.all_append, show chEven.all (·.oneCell') = true from evens_one 400]
 simp [Value.oneCell']
theorem crs_is : laidAt ((#[Value.int .u32 0] ++ Array.replicate 400 (Value.int .u32 0)).setIfInBounds 0 (Value.int .u32 4294967295)) 1 chEven = crsEven := by
 have hcs : chEven.size = 400 := evens_size 400
 have hzs : ((#[Value.int .u32 0] ++ Array.replicate 400 (Value.int .u32 0)).setIfInBounds 0 (Value.int .u32 4294967295)).size = 401 := by
  rw [Array.size_setIfInBounds, Array.size_append, Array.size_replicate]; rfl
 apply Array.ext_getElem?
 intro j
 rw [laidAt_get, hcs, hzs]
 unfold crsEven
 by_cases h0 : j = 0
 ·subst h0
  rw [if_neg (by omega), Array.getElem?_setIfInBounds_self_of_lt (by rw [Array.size_append, Array.size_replicate]; decide), Array.getElem?_append_left (by simp)]
  rfl
 ·rw [Array.getElem?_append_right (by simp; omega)]
  by_cases h1 : j < 401
  ·rw [if_pos ⟨by omega, by omega, h1⟩]
   rfl
  ·rw [if_neg (by omega), Array.getElem?_eq_none (by rw [hzs]; omega), Array.getElem?_eq_none (by rw [hcs]; simp; omega)]
set_option maxHeartbeats 1000000 in
set_option maxRecDepth 20000 in
theorem pNewCourse (w : World) :
  Calls Tryd.prog 19 #[] w fun x w' => x = .returned (.agg crsEven) /\ Below w.heap.size w w' := by
 obtain ⟨hzero, hsize⟩ := zero_of_info crsInfo
 have hCI := crs_is
 obtain ⟨Z, hZ⟩ : ∃ Z, Z = #[Value.int .u32 0] ++ Array.replicate 400 (.int .u32 0) := ⟨_, rfl⟩
 rw [<- hZ] at hzero hCI
 have hZs : Z.size = 401 := by rw [hZ, Array.size_append, Array.size_replicate]; rfl
 have hZn : Z ≠ #[] := fun e => by rw [e] at hZs; exact absurd hZs (by decide)
 obtain ⟨E, hE⟩ : ∃ E, E = chEven := ⟨_, rfl⟩
 obtain ⟨F, hF⟩ : ∃ F, F = crsEven := ⟨_, rfl⟩
 have hNC := fun w => newChances w
 have hF1 := crs_one
 have hFs := crsEven_size
 have hcs : E.size = 400 := by rw [hE]; exact evens_size 400
 rw [<- hE] at hNC hCI
 rw [<- hF] at hCI hF1 hFs ⊢
 have HCI : Hid (laidAt (Z.setIfInBounds 0 (.int .u32 4294967295)) 1 E = F) := hCI
 have HNC : Hid (∀ w, Calls Tryd.prog 32 #[] w fun e w' => e = .returned (.agg E) /\ Below w.heap.size w w') := hNC
 have HF1 : Hid (F.all (·.oneCell') = true) := hF1
 have HSZ : Hid ((Tryd.prog.info? 59).map (·.size) = some 401) := hsize
 clear hZ hsize hE hF hNC hF1 hCI
 go_enter Tryd.func19, Tryd.ntmps19
 go_wp2_with (first
  | (go_at_call 32; refine (HNC.out _).mono ?_; rintro e w1 ⟨rfl, hb⟩)
  | (refine wpList_store_row rfl 59 _ _ rfl w.heap.size F rfl (by rw [<- HCI.out]; unfold laidAt; rw [hcs]; rfl) 59 Z ((hb.block _ (by simp)).trans (heap_alloc_last w _)) (by rw [HSZ.out, hFs]) (by rw [hZs, hFs]) HF1.out ?_))
 have hgr : (w1.setRow w.heap.size F).heap[w.heap.size]? = some (.cells F 59 (0, 0)) := setRow_heap w1 _ Z F _ _ ((hb.block _ (by simp)).trans (heap_alloc_last w _))
 have hld := run_loadVar_row (P := Tryd.prog) (w1.setRow w.heap.size F) w.heap.size 59 59 F (0, 0) _ hgr Tryd.underlying59 rfl (by rw [HSZ.out, hFs])
 refine bodyPost_ret (v := .agg F) ?_ rfl ⟨rfl, below_setRow (((Below.refl _ w).alloc (Nat.le_refl _) _).trans (hb.mono (by simp))) (Nat.le_refl _) _⟩
 simp [results, Tryd.results19, Act.put, asAddr, hld]
set_option maxHeartbeats 1000000 in
set_option maxRecDepth 20000 in
theorem pNewWriter (w : World) :
  Calls Tryd.prog 12 #[] w fun x w' => ∃ b, x = .returned (.pointer (some ⟨b, 0, none⟩)) /\ w.heap.size <= b /\ PW w' w.heap.size b (.slice none 0 0) Pack.init /\ Below w.heap.size w w' := by
 obtain ⟨hzero, hsize⟩ := zero_of_info lwInfo
 obtain ⟨Z, hZ⟩ : ∃ Z, Z = (#[Value.int .u32 0] ++ Array.replicate 400 (.int .u32 0)) ++ #[Value.slice none 0 0, .int .u32 0] := ⟨_, rfl⟩
 rw [<- hZ] at hzero
 have hY : (#[Value.int .u32 0] ++ Array.replicate 400 (Value.int .u32 0)).size = 401 := by rw [Array.size_append, Array.size_replicate]; rfl
 have hZs : Z.size = 403 := by rw [hZ, Array.size_append, hY]; rfl
 have hZ0 : Z[401]? = some (.slice none 0 0) := by rw [hZ, Array.getElem?_append_right (by rw [hY]; exact Nat.le_refl _), hY]; rfl
 have hZ1 : Z[402]? = some (.int .u32 0) := by rw [hZ, Array.getElem?_append_right (by rw [hY]; decide), hY]; rfl
 have hZn : Z ≠ #[] := fun e => by rw [e] at hZs; exact absurd hZs (by decide)
 obtain ⟨E, hE⟩ : ∃ E, E = crsEven := ⟨_, rfl⟩
 have hNC := fun w => pNewCourse w
 rw [<- hE] at hNC
 have hcs : E.size = 401 := by rw [hE]; exact crsEven_size
 have HE : Hid (E = crsEven) := hE
 clear hZ hsize hY hE
 go_enter Tryd.func12, Tryd.ntmps12
 go_wp2_with (go_at_call 19; refine (hNC _).mono ?_; rintro e w1 ⟨rfl, hb⟩)
 obtain ⟨C, hC⟩ : ∃ C, C = Array.foldl (fun cs x => cs.setIfInBounds x.snd x.fst) Z E.zipIdx 0 401 := ⟨_, rfl⟩
 rw [<- hC]
 have hC' : C = laidAt Z 0 crsEven := by
  rw [hC, <- HE.out]; unfold laidAt; rw [hcs]; simp only [Nat.zero_add]
 have HR : PW (w1.alloc (.cells C 63)) w.heap.size w1.heap.size (.slice none 0 0) Pack.init := by
  rw [hC']
  refine ⟨?_, World.ownsRow_nil _ _ _ _, by simp [Value.ownBlock], ?_, crs_laid0 w1 _ _ hZs, fun o _ => by simp, crs_laid w1 _ _ hZs, by simp⟩
  ·rw [crs_laid2 w1 _ _ 401 (by decide), hZ0]
  ·rw [crs_laid2 w1 _ _ 402 (by decide), hZ1]; rfl
 go_ret
 exact ⟨_, rfl, hb.size, HR, hb.alloc hb.size _⟩
end Go.Proofs.YtekfbphnoibnjaaDoor
namespace Go.Proofs.YtekfbphnoibnjaaDoor
open Go.RowKit
theorem below_drew {B : Nat} {a w : World} (h : Below B a w) : Below B a w.drew := h.trans ⟨rfl, rfl, rfl, Nat.le_refl _, fun _ _ => rfl⟩
def Pack.rise (t : WS) (k : Nat) (x : Int) : Int := if x = 0 then 0 else Pack.cut t k
def Pack.shifts (t : WS) (k : Nat) (x : Int) : Int := if (Pack.half t k x).rng < 16777216 then 1 else 0
structure Part (b : Nat) (w w' : World) : Prop where
 frm : Frm (fun k => k = b) w w'
 cell : ∀ j, 401 <= j -> w'.cell? ⟨b, j, none⟩ = w.cell? ⟨b, j, none⟩
 fz : ∀ j, w'.frozen? ⟨b, j, none⟩ = w.frozen? ⟨b, j, none⟩
theorem Part.refl (b : Nat) (w : World) : Part b w w := ⟨Frm.refl _ _, fun _ _ => rfl, fun _ => rfl⟩
theorem Part.trans {b : Nat} {a w v : World} (h : Part b a w) (k : Part b w v) : Part b a v := ⟨h.frm.trans k.frm, fun j hj => (k.cell j hj).trans (h.cell j hj), fun j => (k.fz j).trans (h.fz j)⟩
theorem Part.set {b : Nat} {a w : World} (h : Part b a w) {o : Nat} (ho : o < 401) (u : Value) : Part b a (w.setCell ⟨b, o, none⟩ u) :=
 ⟨h.frm.setCell (.inl rfl) u, fun j hj => by
  rw [World.cell?_setCell_other]
  ·exact h.cell j hj
  ·intro e
   simp only [Addr.mk.injEq, and_true, true_and] at e
   omega, fun j => by rw [World.frozen?_setCell]; exact h.fz j⟩
theorem Part.drew {b : Nat} {a w : World} (h : Part b a w) : Part b a w.drew := ⟨h.frm.drew, h.cell, h.fz⟩
theorem Part.drewN {b : Nat} {a w : World} (h : Part b a w) (n : Nat) : Part b a (w.drewN n) := ⟨h.frm.drewN n, h.cell, h.fz⟩
structure Crs (w : World) (b : Nat) (rng : Int) (ch : List Int) : Prop where
 c2 : w.cell? ⟨b, 0, none⟩ = some (.int .u32 rng)
 f2 : w.frozen? ⟨b, 0, none⟩ = false
 ch : ChAt w b 1 ch
theorem Crs.drewN {w : World} {b : Nat} {r : Int} {ch : List Int} (h : Crs w b r ch) (n : Nat) : Crs (w.drewN n) b r ch := ⟨h.c2, h.f2, h.ch.on rfl⟩
theorem Crs.drew {w : World} {b : Nat} {r : Int} {ch : List Int} (h : Crs w b r ch) : Crs w.drew b r ch := ⟨h.c2, h.f2, h.ch.on rfl⟩
theorem Crs.put2 {w : World} {b : Nat} {r : Int} {ch : List Int} (h : Crs w b r ch) (q : Int) : Crs (w.setCell ⟨b, 0, none⟩ (.int .u32 q)) b q ch :=
 ⟨World.cell?_setCell_same _ _ _ h.c2, by rw [World.frozen?_setCell]; exact h.f2, h.ch.off (.inr (.inl (by decide)))⟩
theorem Crs.putC {w : World} {b : Nat} {r : Int} {ch : List Int} (h : Crs w b r ch) (k : Nat) (c : Int) : Crs (w.setCell ⟨b, 1 + k, none⟩ (.int .u32 c)) b r (ch.set k c) :=
 ⟨cell_off h.c2 (.inr (by omega)), by rw [World.frozen?_setCell]; exact h.f2, h.ch.set k c⟩
def wspanOf (w : World) (b : Nat) : Nat := (intOf ((w.cell? ⟨b, 0, none⟩).getD undef)).toNat
theorem wspanOf_eq {w : World} {b : Nat} {r : Int} {ch : List Int} (h : Crs w b r ch) : wspanOf w b = r.toNat := by
 unfold wspanOf; rw [h.c2]; rfl
set_option maxHeartbeats 2000000 in
set_option maxRecDepth 20000 in
theorem pTake_zero (w : World) (b : Nat) (t : WS) (k : Nat) (C c : Int) (h : Crs w b t.rng t.ch) (ok : Pack.Ok t) (hk : k < 400) (hC : Pack.cut t k = C) (hc : t.ch.getD k 0 = c) :
  Calls Tryd.prog 20 #[.pointer (some ⟨b, 0, none⟩), .int .i64 k, .int .i64 0] w fun x w' => x = .returned (.tuple #[.int .u32 0, .int .i64 (Pack.shifts t k 0)]) /\ Crs w' b (Pack.put t k 0).rng (Pack.put t k 0).ch /\ Part b w w' := by
 have hcb := Pack.cut_bd ok hk
 rw [hC] at hcb
 have hcd := ok.ch.2 k hk
 rw [hc] at hcd
 obtain ⟨c0, c1⟩ := hcd
 have r0 := ok.r0
 have r1 := ok.r1
 obtain ⟨q, hq⟩ : ∃ q : WS, q = Pack.zero t k := ⟨_, rfl⟩
 have HH : Hid (q.rng = C /\ q.ch = t.ch.set k (c + (4096 - c) / 32)) := by rw [hq]; unfold Pack.zero; rw [hC, hc]; exact ⟨rfl, rfl⟩
 have HPT : Hid (Pack.put t k 0 = Pack.norm q /\ Pack.shifts t k 0 = if q.rng < 16777216 then 1 else 0) := by rw [hq]; exact ⟨rfl, rfl⟩
 have q0 : 126976 <= q.rng := by rw [HH.out.1]; omega
 have q1 : q.rng <= 4294967295 := by rw [HH.out.1]; omega
 have hck := h.ch.cell k hk
 have hrc : t.rng / 4096 * c = C := by rw [<- hC, <- hc]; rfl
 rw [hc] at hck
 have hfk := h.ch.fz k hk
 have hckn : ∀ n : Nat, (w.drewN n).cell? ⟨b, 1 + k, none⟩ = some (.int .u32 c) := fun n => hck
 have hfkn : ∀ n : Nat, (w.drewN n).frozen? ⟨b, 1 + k, none⟩ = false := fun n => hfk
 have i2 := h.c2
 have f2 := h.f2
 have HP : Hid (Crs w b t.rng t.ch) := h
 have hk' : (k : Int) < 400 := by omega
 clear hq h hC hc ok
 go_enter Tryd.func20, Tryd.ntmps20
 go_wp2
 go_quiet ((go_at_call 33; exact Calls.quiet_of_same (chCut _ b 1 k t.rng c hk (by simpa using hck) (by omega) (by omega) (by omega) (by omega))))
 rw [hrc]
 go_wp2_with (go_at_call 34; refine (chLearn0 _ b 1 k c hk (by exact cell_off (hckn _) (.inr (by omega))) (by simp only [World.frozen?_setCell]; exact hfkn _) c0 c1).mono ?_; rintro e w1 ⟨rfl, rfl⟩)
 have HQn : Crs (((w.drewN nq).setCell ⟨b, 0, none⟩ (.int .u32 C)).setCell ⟨b, 1 + k, none⟩ (.int .u32 (c + (4096 - c) / 32))).drew b q.rng q.ch := by rw [HH.out.1, HH.out.2]; exact (((HP.out.drewN nq).put2 C).putC k _).drew
 have HFn : Part b w (((w.drewN nq).setCell ⟨b, 0, none⟩ (.int .u32 C)).setCell ⟨b, 1 + k, none⟩ (.int .u32 (c + (4096 - c) / 32))).drew := (((((Part.refl b w).drewN nq).set (by decide) _).set (by omega) _)).drew
 clear hckn hfkn hck hfk i2 f2
 go_loopw [7] (fun sv wr => ((Crs wr b q.rng q.ch /\ sv = .int .i64 0) \/ (q.rng < 16777216 /\ sv = .int .i64 1 /\ Crs wr b (256 * q.rng) q.ch)) /\ Part b w wr) (fun _ wr => 16777216 - wspanOf wr b)
 case atStart => exact ⟨.inl ⟨HQn, rfl⟩, HFn⟩
 case round =>
  clear HQn HFn
  obtain ⟨hor, hbr⟩ := hrel
  rcases hor with ⟨hp, rfl⟩ | ⟨hlow, rfl, hp⟩
  ·have i2 := hp.c2
   have f2 := hp.f2
   by_cases hlow : q.rng < 16777216
   ·have hw : IntKind.u32.wrap (q.rng * 256) = 256 * q.rng := by rw [wrap_u32 (by omega) (by omega), Int.mul_comm]
    go_wp2
    go_roundw
    case rel => exact ⟨.inr ⟨hlow, rfl, by rw [Int.mul_comm 256 q.rng]; exact hp.put2 _⟩, hbr.set (by decide) _⟩
    case measure => rw [wspanOf_eq hp, wspanOf_eq (hp.put2 _)]; omega
   ·go_wp2
    go_ret2
    refine ⟨?_, ?_, hbr⟩
    ·rw [HPT.out.2, if_neg (by omega)]; rfl
    ·rw [HPT.out.1]; unfold Pack.norm; rw [if_neg (by omega)]; exact hp
  ·have i2 := hp.c2
   have hr : ¬ 256 * q.rng < 16777216 := by omega
   go_wp2
   go_ret2
   refine ⟨?_, ?_, hbr⟩
   ·rw [HPT.out.2, if_pos hlow]; rfl
   ·rw [HPT.out.1]; unfold Pack.norm; rw [if_pos hlow]; exact hp
set_option maxHeartbeats 2000000 in
set_option maxRecDepth 20000 in
theorem pTake_one (w : World) (b : Nat) (t : WS) (k : Nat) (C c : Int) (h : Crs w b t.rng t.ch) (ok : Pack.Ok t) (hk : k < 400) (hC : Pack.cut t k = C) (hc : t.ch.getD k 0 = c) :
  Calls Tryd.prog 20 #[.pointer (some ⟨b, 0, none⟩), .int .i64 k, .int .i64 1] w fun x w' => x = .returned (.tuple #[.int .u32 C, .int .i64 (Pack.shifts t k 1)]) /\ Crs w' b (Pack.put t k 1).rng (Pack.put t k 1).ch /\ Part b w w' := by
 have hcb := Pack.cut_bd ok hk
 rw [hC] at hcb
 have hcd := ok.ch.2 k hk
 rw [hc] at hcd
 obtain ⟨c0, c1⟩ := hcd
 have r0 := ok.r0
 have r1 := ok.r1
 obtain ⟨q, hq⟩ : ∃ q : WS, q = Pack.one t k := ⟨_, rfl⟩
 have HH : Hid (q.rng = t.rng - C /\ q.ch = t.ch.set k (c - c / 32)) := by rw [hq]; unfold Pack.one; rw [hC, hc]; exact ⟨rfl, rfl⟩
 have HPT : Hid (Pack.put t k 1 = Pack.norm q /\ Pack.shifts t k 1 = if q.rng < 16777216 then 1 else 0) := by rw [hq]; exact ⟨rfl, rfl⟩
 have q0 : 126976 <= q.rng := by rw [HH.out.1]; omega
 have q1 : q.rng <= 4294967295 := by rw [HH.out.1]; omega
 have hck := h.ch.cell k hk
 have hrc : t.rng / 4096 * c = C := by rw [<- hC, <- hc]; rfl
 rw [hc] at hck
 have hfk := h.ch.fz k hk
 have hckn : ∀ n : Nat, (w.drewN n).cell? ⟨b, 1 + k, none⟩ = some (.int .u32 c) := fun n => hck
 have hfkn : ∀ n : Nat, (w.drewN n).frozen? ⟨b, 1 + k, none⟩ = false := fun n => hfk
 have i2 := h.c2
 have f2 := h.f2
 have HP : Hid (Crs w b t.rng t.ch) := h
 have hk' : (k : Int) < 400 := by omega
 clear hq h hC hc ok
 go_enter Tryd.func20, Tryd.ntmps20
 go_wp2
 go_quiet ((go_at_call 33; exact Calls.quiet_of_same (chCut _ b 1 k t.rng c hk (by simpa using hck) (by omega) (by omega) (by omega) (by omega))))
 rw [hrc]
 go_wp2_with (go_at_call 34; refine (chLearn1 _ b 1 k c hk (by exact cell_off (hckn _) (.inr (by omega))) (by simp only [World.frozen?_setCell]; exact hfkn _) c0 c1).mono ?_; rintro e w1 ⟨rfl, rfl⟩)
 have HQn : Crs (((w.drewN nq).setCell ⟨b, 0, none⟩ (.int .u32 (t.rng - C))).setCell ⟨b, 1 + k, none⟩ (.int .u32 (c - c / 32))).drew b q.rng q.ch := by rw [HH.out.1, HH.out.2]; exact (((HP.out.drewN nq).put2 (t.rng - C)).putC k _).drew
 have HFn : Part b w (((w.drewN nq).setCell ⟨b, 0, none⟩ (.int .u32 (t.rng - C))).setCell ⟨b, 1 + k, none⟩ (.int .u32 (c - c / 32))).drew := (((((Part.refl b w).drewN nq).set (by decide) _).set (by omega) _)).drew
 clear hckn hfkn hck hfk i2 f2
 go_loopw [7] (fun sv wr => ((Crs wr b q.rng q.ch /\ sv = .int .i64 0) \/ (q.rng < 16777216 /\ sv = .int .i64 1 /\ Crs wr b (256 * q.rng) q.ch)) /\ Part b w wr) (fun _ wr => 16777216 - wspanOf wr b)
 case atStart => exact ⟨.inl ⟨HQn, rfl⟩, HFn⟩
 case round =>
  clear HQn HFn
  obtain ⟨hor, hbr⟩ := hrel
  rcases hor with ⟨hp, rfl⟩ | ⟨hlow, rfl, hp⟩
  ·have i2 := hp.c2
   have f2 := hp.f2
   by_cases hlow : q.rng < 16777216
   ·have hw : IntKind.u32.wrap (q.rng * 256) = 256 * q.rng := by rw [wrap_u32 (by omega) (by omega), Int.mul_comm]
    go_wp2
    go_roundw
    case rel => exact ⟨.inr ⟨hlow, rfl, by rw [Int.mul_comm 256 q.rng]; exact hp.put2 _⟩, hbr.set (by decide) _⟩
    case measure => rw [wspanOf_eq hp, wspanOf_eq (hp.put2 _)]; omega
   ·go_wp2
    go_ret2
    refine ⟨?_, ?_, hbr⟩
    ·rw [HPT.out.2, if_neg (by omega)]; rfl
    ·rw [HPT.out.1]; unfold Pack.norm; rw [if_neg (by omega)]; exact hp
  ·have i2 := hp.c2
   have hr : ¬ 256 * q.rng < 16777216 := by omega
   go_wp2
   go_ret2
   refine ⟨?_, ?_, hbr⟩
   ·rw [HPT.out.2, if_pos hlow]; rfl
   ·rw [HPT.out.1]; unfold Pack.norm; rw [if_pos hlow]; exact hp
theorem pTake (w : World) (b : Nat) (t : WS) (k : Nat) (x : Int) (h : Crs w b t.rng t.ch) (ok : Pack.Ok t) (hk : k < 400) (hx : x = 0 \/ x = 1) :
  Calls Tryd.prog 20 #[.pointer (some ⟨b, 0, none⟩), .int .i64 k, .int .i64 x] w fun e w' => e = .returned (.tuple #[.int .u32 (Pack.rise t k x), .int .i64 (Pack.shifts t k x)]) /\ Crs w' b (Pack.put t k x).rng (Pack.put t k x).ch /\ Part b w w' := by
 rcases hx with rfl | rfl
 ·exact pTake_zero w b t k _ _ h ok hk rfl rfl
 ·exact pTake_one w b t k _ _ h ok hk rfl rfl
end Go.Proofs.YtekfbphnoibnjaaDoor
