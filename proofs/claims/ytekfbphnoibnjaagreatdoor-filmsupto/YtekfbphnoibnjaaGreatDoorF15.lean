/-
  The program's reader of films: a colour. What a copied block is, by where it is taken from.
-/
import Derived.Test.YtekfbphnoibnjaaGreatDoorF14
import Derived.Test.YtekfbphnoibnjaaGreatDoorF06
import Derived.Test.YtekfbphnoibnjaaGreatDoorF13
namespace Go.Proofs.YtekfbphnoibnjaaGreatDoor
open Go.RowKit
open Flm (Px FS)
theorem Rdr.number_off {s : ByteArray} {r : RS} {k : Nat} (h : r.err ≠ 0) : Rdr.number s r k = (0, r) := by
 unfold Rdr.number
 rw [Rdr.run_off h, Rdr.lows_off h]
 rfl
theorem Flm.shade_off {s : ByteArray} {r : RS} (h : r.err ≠ 0) : (Flm.shade s r).2 = r := by
 unfold Flm.shade
 rw [Rdr.number_off h]
 rfl
theorem Flm.hAt_off {s : ByteArray} {r : RS} {k : Nat} (h : (Flm.hAt s r k).err ≠ 0) : ∀ j, Flm.hAt s r (k + j) = Flm.hAt s r k
 | 0 => rfl
 | j + 1 => by
  show (Flm.shade s (Flm.hAt s r (k + j))).2 = _
  rw [Flm.hAt_off h j, Flm.shade_off h]
theorem Flm.hAt_bad {s : ByteArray} {r : RS} {k : Nat} (hk : k < 3) (h : (Flm.hAt s r (k + 1)).err ≠ 0) : (Flm.colour s r).2 = Flm.hAt s r (k + 1) := by
 have := Flm.hAt_off h (3 - (k + 1))
 rw [show k + 1 + (3 - (k + 1)) = 3 by omega] at this
 exact this
theorem frm_own {a b c : World} {k : Nat} (h : Frm (oneS k) a b) (f : Frm (fun t => t = k \/ a.heap.size <= t) b c) : Frm (oneS k) a c :=
 ⟨f.os.trans h.os, f.tape.trans h.tape, f.output.trans h.output, Nat.le_trans h.size f.size, fun t ht hs => (f.block t (Nat.lt_of_lt_of_le ht h.size) (fun e => e.elim (fun e => hs e) (fun e => by omega))).trans (h.block t ht hs)⟩
def pixRet (A : Nat -> Addr) (c : Px × RS) : Ending := .returned (.tuple #[if c.2.err = 0 then .agg #[.int .u8 c.1.1, .int .u8 c.1.2.1, .int .u8 c.1.2.2] else .agg #[.int .u8 0, .int .u8 0, .int .u8 0], errA A c.2.err])
set_option maxHeartbeats 1000000 in
set_option maxRecDepth 20000 in
theorem pPixel (w : World) (L p b nb rg : Nat) (Dv : Value) (dbs : List Nat) (s : ByteArray) (z : Nat) (fs : FS) (A : Nat -> Addr) (h : PAt w L p b nb rg Dv dbs s z fs) (hs : s.size <= maxLen) (E : ErrsL w A L) (hLw : L <= w.heap.size) :
  Calls Tryz.prog 168 #[.pointer (some ⟨p, 0, none⟩)] w fun x w' => x = pixRet A (Flm.colour s fs.r) /\ goesOn w' L p b nb rg Dv dbs s z fs (Flm.colour s fs.r).2 /\ Frm (oneS b) w w' := by
 have HP : Hid (PAt w L p b nb rg Dv dbs s z fs) := h
 have HE : Hid (ErrsL w A L) := E
 obtain ⟨W2, hW2⟩ : ∃ W2, W2 = (w.alloc (.cells #[.int .u8 0, .int .u8 0, .int .u8 0] 50)).alloc (.cells #[.int .u8 0, .int .u8 0, .int .u8 0] 50) := ⟨_, rfl⟩
 have hB2 : Below w.heap.size w W2 := by rw [hW2]; exact ((Below.refl _ w).alloc (Nat.le_refl _) _).alloc (by simp) _
 have HP2 : Hid (PAt W2 L p b nb rg Dv dbs s z fs) := h.below hB2
 have HE2 : Hid (ErrsL W2 A L) := E.below (hB2.mono hLw)
 have hsz : W2.heap.size = w.heap.size + 2 := by rw [hW2]; simp
 have HG : Hid (BoxP W2 (w.heap.size + 1) (0, 0, 0)) := by
  have := BoxP.new (w.alloc (.cells #[.int .u8 0, .int .u8 0, .int .u8 0] 50)) (0, 0, 0)
  rw [World.size_alloc] at this
  unfold Hid; rw [hW2]; exact this
 have HR : Hid (BoxP W2 w.heap.size (0, 0, 0)) := by
  have := BoxP.new w (0, 0, 0)
  unfold Hid BoxP; rw [hW2, Below.heap_alloc _ _ _ (by simp)]; exact this
 have HF2 : Hid (Frm (oneS b) w W2) := Frm.of_below hB2
 have HW2 : Hid (W2 = (w.alloc (.cells #[.int .u8 0, .int .u8 0, .int .u8 0] 50)).alloc (.cells #[.int .u8 0, .int .u8 0, .int .u8 0] 50)) := hW2
 have hbH : b < w.heap.size := h.up.2
 have HLT : Hid (∀ k, paB p b nb rg Dv dbs k -> k < w.heap.size) := h.lt
 have H5L : Hid (5 < L) := (E.v (2, 5) (by decide)).1
 clear h E hW2 hB2
 go_enter Tryz.func168, Tryz.ntmps168
 go_wp2_with (rw [<- HW2.out])
 go_loopw [8] (fun kv wr => ∃ (k : Nat), k <= 3 /\ kv = .int .i64 k /\ PAt wr L p b nb rg Dv dbs s z { fs with r := Flm.hAt s fs.r k } /\ BoxP wr w.heap.size (0, 0, 0) /\ BoxP wr (w.heap.size + 1) (part3 (Flm.vAt s fs.r) k) /\ Frm (fun t => t = b \/ w.heap.size <= t) W2 wr) (fun kv _ => 3 - (intOf kv).toNat)
 case atStart => exact ⟨0, by omega, rfl, HP2.out, HR.out, HG.out, Frm.refl _ _⟩
 case round =>
  obtain ⟨k, hk, rfl, hq, hr, hg, hfr⟩ := hrel
  have HEW : Hid (ErrsL wr A L) := HE2.out.below (hfr.below (by omega) (fun t e => e.elim (fun e => by rw [e]; exact HP.out.lo.2) (fun e => Nat.le_trans hLw e)))
  by_cases hk3 : k < 3
  ·have hk3' : (k : Int) < 3 := by omega
   have HB := hq.number hs HEW.out (by have := hfr.size; omega) 224 (by decide)
   have d0 : wr.cell? ⟨p, 0, none⟩ = some (.pointer (some ⟨b, 0, none⟩)) := hq.c0
   dsimp only at HB
   obtain ⟨q, hqq⟩ : ∃ q, q = Flm.hAt s fs.r k := ⟨_, rfl⟩
   rw [<- hqq] at HB hq
   have hbd := Rdr.number_bd (s := s) (k := 224) hq.ok (by decide)
   obtain ⟨N, hN⟩ : ∃ N, N = (Rdr.number s q 224).1 := ⟨_, rfl⟩
   obtain ⟨r1, hr1⟩ : ∃ r1, r1 = (Rdr.number s q 224).2 := ⟨_, rfl⟩
   rw [<- hN, <- hr1] at HB
   dsimp only at hbd
   rw [<- hN] at hbd
   have hnext : Flm.hAt s fs.r (k + 1) = if 255 < N then Rdr.fail r1 2 else r1 := by
    show (Flm.shade s (Flm.hAt s fs.r k)).2 = _
    rw [<- hqq, hN, hr1]; rfl
   have hval : Flm.vAt s fs.r k = N % 256 := by
    show (Flm.shade s (Flm.hAt s fs.r k)).1 = _
    rw [<- hqq, hN]; rfl
   have HFR : Hid (Frm (fun t => t = b \/ w.heap.size <= t) W2 wr) := hfr
   have HBX : Hid (BoxP wr w.heap.size (0, 0, 0) /\ BoxP wr (w.heap.size + 1) (part3 (Flm.vAt s fs.r) k)) := ⟨hr, hg⟩
   have HC : Hid (∀ w1, Frm (oneS b) wr w1 -> BoxP w1 w.heap.size (0, 0, 0) /\ BoxP w1 (w.heap.size + 1) (part3 (Flm.vAt s fs.r) k)) := fun w1 f1 => ⟨hr.frm f1 (fun e => by have e' : w.heap.size = b := e; omega), hg.frm f1 (fun e => by have e' : w.heap.size + 1 = b := e; omega)⟩
   have HEC : Hid (∀ w1, Frm (oneS b) wr w1 -> w1.cell? ⟨5, 0, none⟩ = some (.iface 278 (.pointer (some (A 2))))) := fun w1 f1 => ((hq.errs (by have := hfr.size; omega) HEW.out f1).v (2, 5) (by decide)).2
   have HFF : Hid (∀ w1, Frm (oneS b) wr w1 -> Frm (oneS b) w w1) := fun w1 f1 => (frm_own HF2.out hfr).trans f1
   have HQ : Hid (PAt wr L p b nb rg Dv dbs s z { fs with r := q }) := hq
   by_cases he : r1.err = 0
   ·rw [numRet_good A _ he] at HB
    have HBE : Hid (r1.err = 0) := he
    have HBH : Hid (Calls Tryz.prog 167 #[.pointer (some ⟨b, 0, none⟩), .int .i64 224] wr fun x w' => x = .returned (.tuple #[.int .i64 N, .nilIface]) /\ goesOn w' L p b nb rg Dv dbs s z { fs with r := q } r1 /\ Frm (oneS b) wr w') := HB
    by_cases hN5 : 255 < N
    ·rw [if_pos hN5] at hnext
     have HNX : Hid ((Flm.colour s fs.r).2.err = 2) := by
      have h2 : (Flm.hAt s fs.r (k + 1)).err = 2 := by rw [hnext]; unfold Rdr.fail; simp [he]
      unfold Hid; rw [Flm.hAt_bad hk3 (by rw [h2]; decide)]; exact h2
     clear HB hq hr hg hfr hqq hN hr1 hnext hval he
     go_wp2_with (go_at_call 167; refine HBH.out.mono ?_; rintro x w1 ⟨rfl, h1, f1⟩)
     have k5 := HEC.out w1 f1
     have hgo := (HC.out w1 f1).1
     have s0 := hgo.cell 0 (by decide)
     have s1 := hgo.cell 1 (by decide)
     have s2 := hgo.cell 2 (by decide)
     have z0 := hgo.frozen 0
     have z1 := hgo.frozen 1
     have z2 := hgo.frozen 2
     obtain ⟨X, hX⟩ : ∃ X, X = ((w1.setCell ⟨w.heap.size, 0, none⟩ (.int .u8 0)).setCell ⟨w.heap.size, 1, none⟩ (.int .u8 0)).setCell ⟨w.heap.size, 2, none⟩ (.int .u8 0) := ⟨_, rfl⟩
     obtain ⟨q0, q1, q2, fX⟩ := three_set w1 w.heap.size _ _ _ s0 s1 s2 X hX
     have k5x : X.drew.cell? ⟨5, 0, none⟩ = some (.iface 278 (.pointer (some (A 2)))) := fX.cell k5 (fun e => by have := H5L.out; have e' : 5 = w.heap.size := e; omega)
     rw [hX] at k5x
     go_wp2
     go_region
     all_goals go_wp2
     all_goals rw [<- hX]
     all_goals
      refine bodyPost_ret (v := .tuple #[.agg #[.int .u8 0, .int .u8 0, .int .u8 0], .iface 278 (.pointer (some (A 2)))]) (by simp [results, Tryz.results168, go_sem, q0, q1, q2]) rfl ?_
      refine ⟨by unfold pixRet; rw [HNX.out]; rfl, fun h => absurd h (by rw [HNX.out]; decide), ?_⟩
      first | (exact frm_new (HFF.out w1 f1) (G := w.heap.size) fX (by omega)) | (exact frm_new (HFF.out w1 f1) (G := w.heap.size) fX.drew (by omega))
    ·rw [if_neg hN5] at hnext
     have hNm : N % 256 = N := by omega
     have hNu : IntKind.u8.wrap N = N := by rw [IntKind.wrap_u8]; omega
     rw [hNm] at hval
     have HNX : Hid (Flm.hAt s fs.r (k + 1) = r1) := hnext
     have HVX : Hid (Flm.vAt s fs.r k = N) := hval
     clear HB hq hr hg hfr hqq hN hr1 hnext hval he
     go_wp2_with (go_at_call 167; refine HBH.out.mono ?_; rintro x w1 ⟨rfl, h1, f1⟩; have hgo := (HC.out w1 f1).2; have s0 := hgo.cell k (by omega); have z0 := hgo.frozen k)
     go_roundw
     case rel =>
      have hb1 := (HC.out w1 f1).1
      have hgp := hgo.put hk3
      rw [HVX.out] at hgp
      have fo : Frm (fun t => t = w.heap.size + 1) w1 (w1.setCell ⟨w.heap.size + 1, k, none⟩ (.int .u8 N)) := Frm.setCell (p := ⟨w.heap.size + 1, k, none⟩) (Frm.refl (fun t => t = w.heap.size + 1) w1) (.inl rfl) _
      refine ⟨k + 1, by omega, by go_num, ?_, hb1.frm fo (by omega), hgp, ?_⟩
      ·rw [HNX.out]; exact (h1 HBE.out).frm fo (fun t ht e => by have := HLT.out t ht; omega)
      ·exact (HFR.out.trans (f1.mono (fun t _ e => .inl e))).trans (fo.mono (fun t _ e => .inr (by omega)))
     case measure => simp [intOf]; omega
   ·rw [numRet_bad A _ he] at HB
    have HNX : Hid ((Flm.colour s fs.r).2 = r1) := by
     have h2 : Flm.hAt s fs.r (k + 1) = r1 := by rw [hnext]; split <;> first | exact Rdr.fail_of he | rfl
     unfold Hid; rw [Flm.hAt_bad hk3 (by rw [h2]; exact he)]; exact h2
    have HBE : Hid (r1.err ≠ 0) := he
    obtain ⟨ea, hea⟩ : ∃ ea, ea = A r1.err.toNat := ⟨_, rfl⟩
    rw [<- hea] at HB
    have HEA : Hid (ea = A r1.err.toNat) := hea
    have HBH : Hid (Calls Tryz.prog 167 #[.pointer (some ⟨b, 0, none⟩), .int .i64 224] wr fun x w' => x = .returned (.tuple #[.int .i64 0, .iface 278 (.pointer (some ea))]) /\ goesOn w' L p b nb rg Dv dbs s z { fs with r := q } r1 /\ Frm (oneS b) wr w') := HB
    clear HB hq hr hg hfr hqq hN hr1 hnext hval he hea
    go_wp2_with (go_at_call 167; refine HBH.out.mono ?_; rintro x w1 ⟨rfl, h1, f1⟩; have hgo := (HC.out w1 f1).1; have s0 := hgo.cell 0 (by decide); have s1 := hgo.cell 1 (by decide); have s2 := hgo.cell 2 (by decide); have z0 := hgo.frozen 0; have z1 := hgo.frozen 1; have z2 := hgo.frozen 2)
    obtain ⟨X, hX⟩ : ∃ X, X = ((w1.setCell ⟨w.heap.size, 0, none⟩ (.int .u8 0)).setCell ⟨w.heap.size, 1, none⟩ (.int .u8 0)).setCell ⟨w.heap.size, 2, none⟩ (.int .u8 0) := ⟨_, rfl⟩
    obtain ⟨q0, q1, q2, fX⟩ := three_set w1 w.heap.size _ _ _ s0 s1 s2 X hX
    rw [<- hX]
    refine bodyPost_ret (v := .tuple #[.agg #[.int .u8 0, .int .u8 0, .int .u8 0], .iface 278 (.pointer (some ea))]) (by simp [results, Tryz.results168, go_sem, q0, q1, q2]) rfl ?_
    refine ⟨by unfold pixRet; rw [HNX.out, if_neg HBE.out, errA_pos A HBE.out, HEA.out], fun h => absurd h (by rw [HNX.out]; exact HBE.out), ?_⟩
    exact frm_new (HFF.out w1 f1) (G := w.heap.size) fX (by omega)
  ·have hk3' : ¬ (k : Int) < 3 := by omega
   have e3 : k = 3 := by omega
   rw [e3] at hq hg
   clear e3
   have HQ : Hid (PAt wr L p b nb rg Dv dbs s z { fs with r := (Flm.colour s fs.r).2 }) := hq
   have HFF : Hid (Frm (oneS b) w wr) := frm_own HF2.out hfr
   have s0 := hr.cell 0 (by decide)
   have s1 := hr.cell 1 (by decide)
   have s2 := hr.cell 2 (by decide)
   have z0 := hr.frozen 0
   have z1 := hr.frozen 1
   have z2 := hr.frozen 2
   have v0 : wr.cell? ⟨w.heap.size + 1, 0, none⟩ = some (.int .u8 (Flm.colour s fs.r).1.1) := hg.cell 0 (by decide)
   have v1 : wr.cell? ⟨w.heap.size + 1, 1, none⟩ = some (.int .u8 (Flm.colour s fs.r).1.2.1) := hg.cell 1 (by decide)
   have v2 : wr.cell? ⟨w.heap.size + 1, 2, none⟩ = some (.int .u8 (Flm.colour s fs.r).1.2.2) := hg.cell 2 (by decide)
   obtain ⟨C, hC⟩ : ∃ C, C = Flm.colour s fs.r := ⟨_, rfl⟩
   rw [<- hC] at v0 v1 v2 HQ
   have HCC : Hid (C = Flm.colour s fs.r) := hC
   obtain ⟨X, hX⟩ : ∃ X, X = ((wr.setCell ⟨w.heap.size, 0, none⟩ (.int .u8 C.1.1)).setCell ⟨w.heap.size, 1, none⟩ (.int .u8 C.1.2.1)).setCell ⟨w.heap.size, 2, none⟩ (.int .u8 C.1.2.2) := ⟨_, rfl⟩
   obtain ⟨q0, q1, q2, fX⟩ := three_set wr w.heap.size _ _ _ s0 s1 s2 X hX
   clear hq hr hg hfr hC
   go_wp2_with fail
   rw [<- hX]
   refine bodyPost_ret (v := .tuple #[.agg #[.int .u8 C.1.1, .int .u8 C.1.2.1, .int .u8 C.1.2.2], .nilIface]) (by simp [results, Tryz.results168, go_sem, q0, q1, q2]) rfl ?_
   have he : C.2.err = 0 := HQ.out.err
   rw [<- HCC.out]
   refine ⟨by unfold pixRet; rw [if_pos he, he]; rfl, fun _ => HQ.out.frm fX (fun t ht e => by have := HLT.out t ht; omega), frm_new HFF.out (G := w.heap.size) fX (by omega)⟩
end Go.Proofs.YtekfbphnoibnjaaGreatDoor
namespace Go.Proofs.YtekfbphnoibnjaaGreatDoor
open Go.RowKit
open Flm (Px FS)
namespace Flm
theorem in_spots {x y n : Nat} {q : Nat × Nat} : q ∈ spots x y n ↔ (x <= q.1 /\ q.1 < x + n) /\ y <= q.2 /\ q.2 < y + n := by
 unfold spots
 simp only [List.mem_flatMap, List.mem_range, List.mem_map]
 constructor
 ·rintro ⟨j, hj, i, hi, rfl⟩
  dsimp only; omega
 ·rintro ⟨⟨h1, h2⟩, h3, h4⟩
  exact ⟨q.2 - y, by omega, q.1 - x, by omega, by ext <;> dsimp only <;> omega⟩
theorem srcR_eq (s : ByteArray) (r : RS) (k k' : Nat) : srcR s r k k' = (Rdr.number s (Rdr.number s r k).2 k').2 := by
 unfold srcR
 split
 ·rfl
 ·rename_i h
  rw [Rdr.number_off h]
theorem hasB_iff {z x y n : Int} : hasB z x y n = true ↔ 0 <= x /\ 0 <= y /\ x + n <= z /\ y + n <= z := by
 unfold hasB
 simp only [Bool.and_eq_true, decide_eq_true_eq]
 omega
theorem copies_err {s : ByteArray} {z x y n k f : Nat} {fs : FS} (h : (srcR s fs.r k (k + 24)).err ≠ 0) : copies s z x y n k f fs = { fs with r := srcR s fs.r k (k + 24) } := by
 rw [srcR_eq] at h ⊢
 unfold copies
 dsimp only
 rw [if_neg h]
theorem copies_out {s : ByteArray} {z x y n k f : Nat} {fs : FS} (h : (srcR s fs.r k (k + 24)).err = 0) (hn : 0 < n) (hh : hasB z (x + srcX s fs.r k) (y + srcY s fs.r k (k + 24)) n = false) : copies s z x y n k f fs = { fs with r := Rdr.fail (srcR s fs.r k (k + 24)) 9 } := by
 rw [srcR_eq] at h ⊢
 unfold copies
 dsimp only
 rw [if_pos h, if_neg]
 intro ha
 rw [List.all_eq_true] at ha
 have h1 := ha (x, y) (in_spots.2 (by dsimp only; omega))
 have h2 := ha (x + n - 1, y + n - 1) (in_spots.2 (by dsimp only; omega))
 unfold may at h1 h2
 simp only [Bool.and_eq_true, decide_eq_true_eq] at h1 h2
 have : hasB z (x + srcX s fs.r k) (y + srcY s fs.r k (k + 24)) n = true := by
  rw [hasB_iff]
  unfold srcX srcY
  omega
 rw [this] at hh
 cases hh
theorem copies_in {s : ByteArray} {z x y n k f u v : Nat} {fs : FS} (h : (srcR s fs.r k (k + 24)).err = 0) (hu : (u : Int) = x + srcX s fs.r k) (hv : (v : Int) = y + srcY s fs.r k (k + 24)) (h1 : u + n <= z) (h2 : v + n <= z) (hr : f = now fs -> ∀ q ∈ spots u v n, fs.rd.getD (q.2 * z + q.1) false = true) :
  copies s z x y n k f fs = moves z f ((u : Int) - x) ((v : Int) - y) (spots x y n) { fs with r := srcR s fs.r k (k + 24) } := by
 have e1 : (u : Int) - x = Rdr.signed s fs.r k := by unfold srcX at hu; omega
 have e2 : (v : Int) - y = Rdr.signed s (Rdr.number s fs.r k).2 (k + 24) := by unfold srcY at hv; omega
 rw [srcR_eq] at h ⊢
 rw [e1, e2]
 unfold copies
 dsimp only
 rw [if_pos h, if_pos]
 rw [List.all_eq_true]
 intro q hq
 rw [in_spots] at hq
 rw [<- e1, <- e2]
 unfold may
 simp only [Bool.and_eq_true, decide_eq_true_eq, Bool.or_eq_true, Bool.not_eq_true']
 refine ⟨⟨⟨⟨by omega, by omega⟩, by omega⟩, by omega⟩, ?_⟩
 by_cases hf : f = now fs
 ·right
  have := hr hf (q.1 - x + u, q.2 - y + v) (in_spots.2 (by dsimp only; omega))
  dsimp only at this
  rw [show ((q.2 : Int) + ((v : Int) - y)).toNat = q.2 - y + v by omega, show ((q.1 : Int) + ((u : Int) - x)).toNat = q.1 - x + u by omega]
  exact this
 ·left
  simpa using hf
theorem copies_unread {s : ByteArray} {z x y n k u v : Nat} {fs : FS} (h : (srcR s fs.r k (k + 24)).err = 0) (hu : (u : Int) = x + srcX s fs.r k) (hv : (v : Int) = y + srcY s fs.r k (k + 24)) {q : Nat × Nat} (hq : q ∈ spots u v n) (hr : fs.rd.getD (q.2 * z + q.1) false = false) :
  copies s z x y n k (now fs) fs = { fs with r := Rdr.fail (srcR s fs.r k (k + 24)) 9 } := by
 have e1 : (u : Int) - x = Rdr.signed s fs.r k := by unfold srcX at hu; omega
 have e2 : (v : Int) - y = Rdr.signed s (Rdr.number s fs.r k).2 (k + 24) := by unfold srcY at hv; omega
 rw [srcR_eq] at h ⊢
 rw [in_spots] at hq
 unfold copies
 dsimp only
 rw [if_pos h, if_neg]
 intro ha
 rw [List.all_eq_true] at ha
 have h1 := ha (q.1 - u + x, q.2 - v + y) (in_spots.2 (by dsimp only; omega))
 unfold may at h1
 rw [<- e1, <- e2] at h1
 dsimp only at h1
 rw [show (((q.2 - v + y : Nat) : Int) + ((v : Int) - y)).toNat = q.2 by omega, show (((q.1 - u + x : Nat) : Int) + ((u : Int) - x)).toNat = q.1 by omega, hr] at h1
 simp at h1
end Flm
structure FBox (W : World) (H p x y n : Nat) (e : Value) : Prop where
 b0 : W.heap[H]? = some (.cells #[.pointer (some ⟨p, 0, none⟩)] 107 (0, 0))
 b1 : W.heap[H + 1]? = some (.cells #[.int .i64 x, .int .i64 y, .int .i64 n] 100 (0, 0))
 b2 : W.heap[H + 1 + 1]? = some (.cells #[e] 62 (0, 0))
theorem FBox.frm {S : Nat -> Prop} {W W' : World} {H p x y n : Nat} {e : Value} (h : FBox W H p x y n e) (f : Frm S W W') (hS : ∀ k, S k -> k < H \/ H + 3 <= k) : FBox W' H p x y n e :=
 ⟨(f.block _ (heap_lt h.b0) (fun e => by have := hS _ e; omega)).trans h.b0, (f.block _ (heap_lt h.b1) (fun e => by have := hS _ e; omega)).trans h.b1, (f.block _ (heap_lt h.b2) (fun e => by have := hS _ e; omega)).trans h.b2⟩
theorem FBox.below {W W' : World} {H p x y n : Nat} {e : Value} (h : FBox W H p x y n e) (f : Below W.heap.size W W') : FBox W' H p x y n e :=
 h.frm (Frm.of_below (S := fun _ => False) f) (fun _ e => e.elim)
theorem fbox_new (w : World) (p x y n : Nat) : FBox (((w.alloc (.cells #[.pointer (some ⟨p, 0, none⟩)] 107)).alloc (.cells #[.int .i64 x, .int .i64 y, .int .i64 n] 100)).alloc (.cells #[.nilIface] 62)) w.heap.size p x y n .nilIface := by
 have h2 := heap_alloc_last ((w.alloc (.cells #[.pointer (some ⟨p, 0, none⟩)] 107)).alloc (.cells #[.int .i64 x, .int .i64 y, .int .i64 n] 100)) (.cells #[.nilIface] 62)
 have h1 := heap_alloc_last (w.alloc (.cells #[.pointer (some ⟨p, 0, none⟩)] 107)) (.cells #[.int .i64 x, .int .i64 y, .int .i64 n] 100)
 simp only [World.size_alloc] at h1 h2
 refine ⟨?_, (Below.heap_alloc _ _ _ (by simp only [World.size_alloc]; omega)).trans h1, h2⟩
 exact (Below.heap_alloc _ _ _ (by simp only [World.size_alloc]; omega)).trans ((Below.heap_alloc _ _ _ (by simp only [World.size_alloc]; omega)).trans (heap_alloc_last w _))
theorem below3 (w : World) (a b c : Obj) : Below w.heap.size w (((w.alloc a).alloc b).alloc c) := (((Below.refl _ w).alloc (Nat.le_refl _) _).alloc (by simp) _).alloc (by simp; omega) _
def calmPost (K : Act -> World -> Prop) : Exit -> Act -> World -> Prop
 | .normal, a, w => K a w
 | _, _, _ => False
theorem region_calm {P : Program} {ops : Array Oper} {Q : Exit -> Act -> World -> Prop} {S : World -> Prop} {id : Nat} {a : Act} {w : World} (N : Nat) (L : Array Bool) (hN : ops.size = N) (hL : Array.replicate N false = L) (hm : P.follows .mixedOrders = true)
  (h : wpAnyH P .any ops (calmPost (Q .normal)) S N L a w.drew) : (Code.region id ops true).wp P Q a w := by
 refine Code.wp_mono (Q := calmPost (Q .normal)) (fun e a w hq => ?_) (wp_region_held (S := S) hm ?_)
 ·cases e <;> first | exact hq | exact hq.elim
 ·rw [hN, hL]; exact h
section
variable {P : Program} {F : Fence} {n : Nat} {fn : Func} {R : Ending -> World -> Prop}
theorem retM_none {a : Act} {w : World} {v : Value} (hd : a.defers = []) (hr : (results fn a.tmps).run P w = .ok v w) (h : R (.returned v) w) : bodyPostM F n P fn R .ret a w := by
 show LeavesInM F n P fn a.tmps R a.defers .returning w
 rw [hd]
 exact ⟨v, hr, h⟩
theorem retM_mark {a : Act} {W : World} {v : Value} {D : Nat} (hd : a.defers = [{ target := .collected D, args := #[] }]) (hD : W.heap[D]? = some (.deferred (some []))) (hr : (results fn a.tmps).run P (W.putObj D (.deferred none)) = .ok v (W.putObj D (.deferred none))) (h : R (.returned v) (W.putObj D (.deferred none))) : bodyPostM F n P fn R .ret a W := by
 show LeavesInM F n P fn a.tmps R a.defers .returning W
 rw [hd]
 exact ⟨by simp, .inl ⟨_, _, rfl, run_takeDeferred hD, v, hr, h⟩⟩
end
end Go.Proofs.YtekfbphnoibnjaaGreatDoor
