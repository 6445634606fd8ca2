/-
  The program's writer: a whole film. Is this a film? The program's answer. The caller's book: a list of numbers is written over with a mark of its own, and appended to. A block of few colours is read by the document. A block is read by the document. The document's reading of a film's bytes: frame by frame. The document's reading of a film's bytes, whole. Bits that tell all frames of a film, packed behind a film's head, are decoded as that film; plain arithmetic.
-/
import Derived.Test.YtekfbphnoibnjaaDoorF29
import Derived.Test.YtekfbphnoibnjaaDoorF15
import Derived.Deep.RegionWith
import Derived.Test.YtekfbphnoibnjaaDoorF10
import Derived.Deep.RegionHeld3
import Derived.Deep.RegionLaw
import Derived.BigRegion
import Derived.Deep.AppendLies
import Derived.Test.YtekfbphnoibnjaaDoorF12
import Derived.Maps.AppendAt
import Derived.Deep.QuietTactic
import Derived.BigQuiet
import Derived.Deep.CutBlock
import Derived.Deep.DeepCutAuto
import Derived.Test.YtekfbphnoibnjaaDoorF01
import Derived.Deep.WholeRow
import Derived.Deep.MidRow
import Derived.Laws.ResultCell
import Derived.Test.YtekfbphnoibnjaaDoorF05
namespace Go.Proofs.YtekfbphnoibnjaaDoor
open Go.RowKit Go.Shelf
open Flm (Px FS okPx)
open Pk (filmL areaL)
def FrsIn (w : World) (fa : Option Addr) (N z : Nat) (F : List (List Px)) (nbs cs : Nat -> Nat) : Prop := N = 0 \/ ∃ fb off, fa = some ⟨fb, off, none⟩ /\ ∀ j, j < N -> w.cell? ⟨fb, off + j, none⟩ = some (.slice (some ⟨nbs j, 0, none⟩) (z * z) (cs j)) /\ PixIn w (nbs j) (z * z) (F.getD j [])
theorem film_ok {z : Nat} {F : List (List Px)} (hF : ∀ f, ∀ p ∈ F.getD f [], okPx p) (hz : z = 4 \/ z = 8 \/ z = 16) : ∀ f, Pack.BitsOk (filmL z F f) /\ (filmL z F f).length <= f * 20805
 | 0 => ⟨Pk.ok_nil, by rw [Nat.zero_mul]; exact Nat.le_refl 0⟩
 | f + 1 => by
  obtain ⟨h1, h2⟩ := film_ok hF hz f
  have h3 := area_ok (z := z) (T0 := prevT F f) (hF f) (by omega) (Flm.cuts z) (Pack.puts Pack.init (filmL z F f)) 0 0 z (by rcases hz with rfl | rfl | rfl <;> rfl) (by omega) (by omega)
  rw [areaB_L] at h3
  have h4 : lenB (Flm.cuts z) <= 20805 := by rcases hz with rfl | rfl | rfl <;> decide
  refine ⟨Pk.ok_app h1 h3.1, ?_⟩
  show (filmL z F f ++ _).length <= _
  rw [List.length_append, Nat.succ_mul]
  have := h3.2.1
  omega
theorem conv2 (w : World) (a b : Int) :
  Sem.run Tryd.prog (convert 61 9 (.slice (some ⟨w.heap.size, 0, none⟩) 2 2)) (w.alloc (.cells #[.int .u8 a, .int .u8 b] 5)) = .ok (.string (strOfNums [a, b])) (w.alloc (.cells #[.int .u8 a, .int .u8 b] 5)) := by
 refine run_convert_bytes_arg _ 61 5 Tryd.underlying61 Tryd.underlying5 w.heap.size 0 2 2 [a, b] rfl ?_ 9 Tryd.underlying9
 intro i hi
 have h := heap_alloc_last w (.cells #[.int .u8 a, .int .u8 b] 5)
 have c := cell_of_row _ _ i _ _ _ h
 rw [Nat.zero_add, c]
 match i, hi with
 | 0, _ => rfl
 | 1, _ => rfl
theorem conv2b {w w' : World} (g : Nat) (a b : Int) (h : w.heap[g]? = some (.cells #[.int .u8 a, .int .u8 b] 5 (0, 0))) (f : Below w.heap.size w w') :
  Sem.run Tryd.prog (convert 61 9 (.slice (some ⟨g, 0, none⟩) 2 2)) w' = .ok (.string (strOfNums [a, b])) w' := by
 refine run_convert_bytes_arg _ 61 5 Tryd.underlying61 Tryd.underlying5 g 0 2 2 [a, b] rfl ?_ 9 Tryd.underlying9
 intro i hi
 have c := cell_of_row _ _ i _ _ _ ((f.block g (heap_lt0 h)).trans h)
 rw [Nat.zero_add, c]
 match i, hi with
 | 0, _ => rfl
 | 1, _ => rfl
structure WSt (w wr : World) (H A z : Nat) (F : List (List Px)) (j : Nat) : Prop where
 bel : Below w.heap.size w wr
 wa : ∃ u0 u1 mh mb, WrAt wr (H + 1) u0 u1 mh mb /\ (∃ o, mh = .map o) /\ ∃ base top, Plc wr base top mh z (prevT F j) /\ H + 1 < base
 dr : ∃ va, DrAt wr A va (Pack.puts Pack.init (filmL z F j)) (filmL z F j) /\ ∀ k, va.ownBlock = some k -> H + 1 < k
 aq : H + 1 < A
set_option maxHeartbeats 8000000 in
set_option maxRecDepth 100000 in
theorem pWrite (w : World) (fa : Option Addr) (N fc z : Nat) (F : List (List Px)) (nbs cs : Nat -> Nat) (h : FrsIn w fa N z F nbs cs) (hF : ∀ f, ∀ p ∈ F.getD f [], okPx p) (hz : z = 4 \/ z = 8 \/ z = 16) (hN : N <= 8) (hm : (Pack.fin (filmL z F N)).m <= 150000) (SG : SoftG w w.heap.size) :
  Calls Tryd.prog 18 #[.agg #[.int .i64 z, .slice fa N fc]] w fun e w' => e = .returned (.string ((⟨#[70, 66]⟩ : ByteArray) ++ strOfNums [(z : Int), (N : Int)] ++ endStr (Pack.fin (filmL z F N)))) /\ Below w.heap.size w w' := by
 have hmx : Tryd.prog.follows .mixedOrders = true := by kernel_rfl
 obtain ⟨H, hH⟩ : ∃ H, H = w.heap.size := ⟨_, rfl⟩
 obtain ⟨W2, hW2⟩ : ∃ W2, W2 = (w.alloc (.cells #[.int .i64 z, .slice fa N fc] 36)).alloc (.cells #[.int .i64 0, .slice none 0 0, .map none, .map none] 81) := ⟨_, rfl⟩
 have hB2 : Below w.heap.size w W2 := by rw [hW2]; exact ((Below.refl _ w).alloc (Nat.le_refl _) _).alloc (by simp) _
 have hs2 : W2.heap.size = H + 2 := by rw [hW2, hH]; simp
 have x0 : W2.heap[H]? = some (.cells #[.int .i64 z, .slice fa N fc] 36) := by rw [hW2, hH]; exact (Below.heap_alloc _ _ _ (by simp only [World.size_alloc]; omega)).trans (heap_alloc_last w _)
 have x1 : W2.heap[H + 1]? = some (.cells #[.int .i64 0, .slice none 0 0, .map none, .map none] 81) := by
  have := heap_alloc_last (w.alloc (.cells #[.int .i64 z, .slice fa N fc] 36)) (.cells #[.int .i64 0, .slice none 0 0, .map none, .map none] 81)
  rw [World.size_alloc] at this
  rw [hW2, hH]; exact this
 have fb : ∀ W, Below W2.heap.size W2 W -> W.cell? ⟨H, 0, none⟩ = some (.int .i64 z) /\ W.cell? ⟨H, 1, none⟩ = some (.slice fa N fc) := fun W bW => by
  have e0 : W.heap[H]? = some (.cells #[.int .i64 z, .slice fa N fc] 36) := (bW.block H (heap_lt0 x0)).trans x0
  exact ⟨cell_of_row _ _ 0 _ _ _ e0, cell_of_row _ _ 1 _ _ _ e0⟩
 have HND : Hid (Calls Tryd.prog 27 #[] W2 fun e w3 => ∃ A, e = .returned (.pointer (some ⟨A, 0, none⟩)) /\ w3.cell? ⟨H, 1, none⟩ = some (.slice fa N fc) /\ Hid (WSt w w3 H A z F 0 /\ w3.heap[H]? = some (.cells #[.int .i64 z, .slice fa N fc] 36))) := by
  refine (pNewDraft W2).mono fun e w3 ⟨A, e1, e2, e3, e4⟩ => ⟨A, e1, (fb w3 e4).2, ⟨hB2.trans (e4.mono hB2.size), ⟨.int .i64 0, .slice none 0 0, .map none, .map none, ?_, ⟨none, rfl⟩, H + 1 + 1, 0, rfl, Nat.lt_succ_self _⟩, ⟨_, e3, fun k e => by simp [Value.ownBlock] at e⟩, by omega⟩, (e4.block H (heap_lt0 x0)).trans x0⟩
  have e0 : w3.heap[H + 1]? = some (.cells #[.int .i64 0, .slice none 0 0, .map none, .map none] 81) := (e4.block _ (heap_lt0 x1)).trans x1
  exact ⟨cell_of_row _ _ 0 _ _ _ e0, cell_of_row _ _ 1 _ _ _ e0, cell_of_row _ _ 2 _ _ _ e0, cell_of_row _ _ 3 _ _ _ e0, fun o _ => frozen_of_row _ _ o _ _ e0⟩
 have HW2 : Hid (W2 = (w.alloc (.cells #[.int .i64 z, .slice fa N fc] 36)).alloc (.cells #[.int .i64 0, .slice none 0 0, .map none, .map none] 81) /\ H = w.heap.size /\ W2.heap.size = H + 2) := ⟨hW2, hH, hs2⟩
 have HFI : Hid (FrsIn w fa N z F nbs cs /\ (∀ f, ∀ p ∈ F.getD f [], okPx p) /\ (z = 4 \/ z = 8 \/ z = 16) /\ SoftG w w.heap.size /\ (Pack.fin (filmL z F N)).m <= 150000) := ⟨h, hF, hz, SG, hm⟩
 clear hW2 hB2 hs2 x0 x1 fb h hF hz SG hm hH
 go_enter Tryd.func18, Tryd.ntmps18
 go_wp2_with (first
  | (rw [<- HW2.out.1, <- HW2.out.2.1])
  | (go_at_call 27; refine HND.out.mono ?_; rintro e w3 ⟨A, rfl, d1, HST⟩))
 go_loopw [13] (fun v13 wr => ∃ j : Nat, j <= N /\ v13 = .int .i64 j /\ WSt w wr H A z F j /\ wr.heap[H]? = some (.cells #[.int .i64 z, .slice fa N fc] 36)) (fun v13 _ => N - (intOf v13).toNat)
 case atStart => exact ⟨0, Nat.zero_le _, rfl, HST.out⟩
 case round =>
  clear HST HND d1
  obtain ⟨j, hj, rfl, hst, hfb⟩ := hrel
  by_cases hlt : j < N
  ·have hlt' : (j : Int) < (N : Int) := by omega
   obtain ⟨f1, f2, f3, f4, f5⟩ := HFI.out
   obtain ⟨fbk, off, rfl, hfr⟩ := f1.resolve_left (by omega)
   obtain ⟨g1, g2⟩ := hfr j hlt
   obtain ⟨nb, hnb⟩ : ∃ nb, nb = nbs j := ⟨_, rfl⟩
   obtain ⟨C, hC⟩ : ∃ C, C = cs j := ⟨_, rfl⟩
   obtain ⟨Z, hZ⟩ : ∃ Z, Z = z * z := ⟨_, rfl⟩
   rw [<- hnb, <- hC, <- hZ] at g1
   rw [<- hnb] at g2
   have k1 : wr.cell? ⟨fbk, off + j, none⟩ = some (.slice (some ⟨nb, 0, none⟩) Z C) := (hst.bel.cell (World.block_lt_of_cell? w _ g1)).trans g1
   have k2 : wr.cell? ⟨H, 0, none⟩ = some (.int .i64 z) := cell_of_row _ _ 0 _ _ _ hfb
   have HBG : Hid (Calls Tryd.prog 28 #[.pointer (some ⟨H + 1, 0, none⟩), .agg #[.int .i64 z, .slice (some ⟨nb, 0, none⟩) Z C]] wr fun e w1 => e = .returned (.tuple #[]) /\ w1.cell? ⟨H, 0, none⟩ = some (.int .i64 z) /\
     Hid (Calls Tryd.prog 30 #[.pointer (some ⟨H + 1, 0, none⟩), .pointer (some ⟨A, 0, none⟩), .agg #[.int .i64 0, .int .i64 0, .int .i64 z]] w1 fun e w2 => ∃ bb, e = .returned (.pointer (some ⟨bb, 0, none⟩)) /\
      Hid (Calls Tryd.prog 29 #[.pointer (some ⟨A, 0, none⟩), .pointer (some ⟨bb, 0, none⟩)] w2 fun e w4 => e = .returned (.tuple #[]) /\ Hid (WSt w w4 H A z F (j + 1) /\ w4.heap[H]? = some (.cells #[.int .i64 z, .slice (some ⟨fbk, off, none⟩) N fc] 36))))) := by
    obtain ⟨bl, ⟨u0, u1, mh, mb, wa, wm, base, top, pl, qb⟩, ⟨va, dr, dl⟩, aq⟩ := hst
    have hHw := HW2.out.2.1
    have hnw : nb < w.heap.size := g2.1
    rw [hZ]
    refine (pBegin wr (H + 1) z nb C u0 u1 mh mb (F.getD j []) wa wm f3 (g2.below bl) (f2 j) (by omega)).mono fun e w1 ⟨e1, fr, m, b1, t1, wa1, pl1, hb1, qb1, om⟩ => ?_
    have hH1 : w1.heap[H]? = some (.cells #[.int .i64 z, .slice (some ⟨fbk, off, none⟩) N fc] 36) := (fr.block H (heap_lt0 hfb) (by omega)).trans hfb
    refine ⟨e1, cell_of_row _ _ 0 _ _ _ hH1, ?_⟩
    have bl1 : Below w.heap.size w w1 := bl.trans (fr.below bl.size (fun k e => by omega))
    have hgl := f4.lt
    have fg : FwG w1 (H + 1 + 1) (H + 1) z nb C m mh (F.getD j []) (prevT F j) := by
     refine ⟨⟨wa1.c0, wa1.c1, wa1.c2, wa1.c3, (g2.below bl).frm fr (by omega), f3, f2 j⟩, ⟨b1, t1, pl1⟩, ⟨base, top, pl.frm fr (fun k h1 _ e => by omega)⟩, f4.of (bl1.block _ hgl) (by omega), Nat.lt_succ_self _, by omega, Nat.succ_le_of_lt wa1.up⟩
    have dr1 : DrAt w1 A va (Pack.puts Pack.init (filmL z F j)) (filmL z F j) := dr.frm fr (by omega) (fun k e e0 => by have := dl k e; omega)
    obtain ⟨o1, o2⟩ := film_ok f2 f3 j
    obtain ⟨o3, o4⟩ := film_ok f2 f3 (j + 1)
    have hjl : j * 20805 <= 8 * 20805 := Nat.mul_le_mul_right _ (by omega)
    have hpm := Pack.puts_m (filmL z F j) Pack.init
    have hlb : lenB (Flm.cuts z) <= 20805 := by rcases f3 with rfl | rfl | rfl <;> decide
    have hi0 : Pack.init.m = 0 := rfl
    have hro : RoomA (Flm.cuts z) (Pack.puts Pack.init (filmL z F j)) := ⟨Pack.puts_ok _ _ Pack.init_ok fun q hq => (o1 q hq).1, by omega⟩
    have har := pAreaW (f2 j) (by omega) z f3 w1 A va _ _ 0 0 fg dr1 (by omega) (by omega) hro
    have hao := area_ok (z := z) (T0 := prevT F j) (f2 j) (by omega) (Flm.cuts z) (Pack.puts Pack.init (filmL z F j)) 0 0 z (by rcases f3 with rfl | rfl | rfl <;> rfl) (by omega) (by omega)
    rw [areaB_L] at har hao
    refine har.mono fun e w2 ⟨bb, vb, e2, d2, b2, l2, l3⟩ => ⟨bb, e2, ?_⟩
    refine (pAppend w2 A bb va vb _ _ _ _ (dr1.below b2) d2 (by have := dr1.up; omega) (fun e => by have := l3 A e; have := dr1.up; omega) hao.2.2 (by omega) (by have := hao.2.1; omega)).mono fun e w4 ⟨e4, v4, d4, r4⟩ => ?_
    have bl2 : Below w.heap.size w w2 := bl1.trans (b2.mono bl1.size)
    have hnq : ∀ k, (k = A \/ va.ownBlock = some k) -> H + 1 < k := fun k e => e.elim (fun e => by omega) (fun e => dl k e)
    refine ⟨e4, ⟨bl2.trans (r4.frm.below bl2.size (fun k e => by have := hnq k e; omega)), ⟨_, _, m, mh, (wa1.below b2).frm r4.frm (fun e => by have := hnq _ e; omega), om, b1, t1, ?_, qb1⟩, ⟨v4, ?_, fun k e => (r4.loc k e).elim (fun e => dl k e) (fun e => by have := wa1.up; have := b2.size; omega)⟩, aq⟩, ?_⟩
    ·have hp : Plc w4 b1 t1 m z (some (F.getD j [])) := (pl1.below b2).frm r4.frm (fun k h1 _ e => e.elim (fun e => by have := dr.up; omega) (fun e => by have := (World.ownsRow.lt dr.own k e).2; omega))
     unfold prevT
     rw [if_neg (Nat.succ_ne_zero j), Nat.add_sub_cancel]
     exact hp
    ·show DrAt w4 A v4 (Pack.puts Pack.init (filmL z F j ++ _)) (filmL z F j ++ _)
     rw [puts_app']
     exact d4
    ·exact (r4.frm.block H (Nat.lt_of_lt_of_le (heap_lt0 hH1) b2.size) (fun e => by have := hnq _ e; omega)).trans ((b2.block H (heap_lt0 hH1)).trans hH1)
   have hfrz : (0 : Int) <= (j : Int) := by omega
   clear hst hfb hfr g1 g2 f1 f2 f3 f4 f5 hnb hC hZ
   go_wp2_with (first
    | (go_at_call 28; refine HBG.out.mono ?_; rintro e w1 ⟨rfl, d2, HAR⟩)
    | (go_at_call 30; refine HAR.out.mono ?_; rintro e w2 ⟨bb, rfl, HAP⟩)
    | (go_at_call 29; refine HAP.out.mono ?_; rintro e w4 ⟨rfl, HN4⟩))
   go_roundw
   case rel => exact ⟨j + 1, hlt, by go_num, HN4.out⟩
   case measure => simp [intOf]; omega
  ·have hlt' : ¬ (j : Int) < (N : Int) := by omega
   have hjN : j = N := by omega
   obtain ⟨f1, f2, f3, f4, f5⟩ := HFI.out
   obtain ⟨S, hS⟩ : ∃ S, S = endStr (Pack.fin (filmL z F N)) := ⟨_, rfl⟩
   have hpk : ∀ wx, Below wr.heap.size wr wx -> Calls Tryd.prog 31 #[.pointer (some ⟨A, 0, none⟩)] wx fun e w' => e = .returned (.string S) /\ Below wx.heap.size wx w' := fun wx bx => by
    obtain ⟨va, dr, _⟩ := hst.dr
    rw [hjN] at dr
    obtain ⟨o1, o2⟩ := film_ok f2 f3 N
    have : N * 20805 <= 8 * 20805 := Nat.mul_le_mul_right _ hN
    rw [hS]
    exact pPack wx A va _ _ (dr.below bx) (by omega) o1 f5
   have hdw : Below wr.heap.size wr wr.drew := ⟨rfl, rfl, rfl, Nat.le_refl _, fun _ _ => rfl⟩
   have cel : ∀ w', Below wr.heap.size wr w' -> w'.cell? ⟨H, 0, none⟩ = some (.int .i64 z) /\ w'.cell? ⟨H, 1, none⟩ = some (.slice fa N fc) := fun w' b => by
    have e0 := (b.block H (heap_lt0 hfb)).trans hfb
    exact ⟨cell_of_row _ _ 0 _ _ _ e0, cell_of_row _ _ 1 _ _ _ e0⟩
   have HP1 : Hid (Calls Tryd.prog 31 #[.pointer (some ⟨A, 0, none⟩)] wr.drew fun e w' => e = .returned (.string S) /\ w'.cell? ⟨H, 0, none⟩ = some (.int .i64 z) /\ w'.cell? ⟨H, 1, none⟩ = some (.slice fa N fc) /\ Below wr.drew.heap.size wr.drew w') := (hpk _ hdw).mono fun e w' he => ⟨he.1, (cel w' (hdw.trans he.2)).1, (cel w' (hdw.trans he.2)).2, he.2⟩
   have HP2 : Hid (∀ o, Calls Tryd.prog 31 #[.pointer (some ⟨A, 0, none⟩)] (wr.drew.alloc o) fun e w' => e = .returned (.string S) /\ w'.cell? ⟨H, 0, none⟩ = some (.int .i64 z) /\ w'.cell? ⟨H, 1, none⟩ = some (.slice fa N fc) /\ Below (wr.drew.alloc o).heap.size (wr.drew.alloc o) w') := fun o => (hpk _ (hdw.alloc (Nat.le_refl wr.heap.size) o)).mono fun e w' he => ⟨he.1, (cel w' ((hdw.alloc (Nat.le_refl wr.heap.size) o).trans (he.2.mono (hdw.alloc (Nat.le_refl wr.heap.size) o).size))).1, (cel w' ((hdw.alloc (Nat.le_refl wr.heap.size) o).trans (he.2.mono (hdw.alloc (Nat.le_refl wr.heap.size) o).size))).2, he.2⟩
   have k0 : wr.cell? ⟨H, 0, none⟩ = some (.int .i64 z) := cell_of_row _ _ 0 _ _ _ hfb
   have k1 : wr.cell? ⟨H, 1, none⟩ = some (.slice fa N fc) := cell_of_row _ _ 1 _ _ _ hfb
   have hz16 : z <= 16 := by omega
   have hw1 : IntKind.u8.wrap (z : Int) = z := by rw [IntKind.wrap_u8]; omega
   have hw2 : IntKind.u8.wrap (N : Int) = N := by rw [IntKind.wrap_u8]; omega
   have hcv := fun V : World => conv2 V z N
   have hcd : Sem.run Tryd.prog (convert 61 9 (.slice (some ⟨wr.heap.size, 0, none⟩) 2 2)) (wr.alloc (.cells #[.int .u8 z, .int .u8 N] 5)).drew = .ok (.string (strOfNums [z, N])) (wr.alloc (.cells #[.int .u8 z, .int .u8 N] 5)).drew := conv2b wr.heap.size z N (heap_alloc_last wr _) ⟨rfl, rfl, rfl, Nat.le_refl _, fun _ _ => rfl⟩
   have HCB : Hid (∀ wp, Below (wr.drew.alloc (.cells #[.int .u8 z, .int .u8 N] 5)).heap.size (wr.drew.alloc (.cells #[.int .u8 z, .int .u8 N] 5)) wp -> Sem.run Tryd.prog (convert 61 9 (.slice (some ⟨wr.heap.size, 0, none⟩) 2 2)) wp = .ok (.string (strOfNums [z, N])) wp) := fun wp bp => conv2b wr.heap.size z N (heap_alloc_last wr.drew _) bp
   obtain ⟨T2, hT2⟩ : ∃ T2, T2 = strOfNums [(z : Int), (N : Int)] := ⟨_, rfl⟩
   rw [<- hT2] at hcd HCB
   simp only [<- hT2] at hcv
   have hT2s : T2.size = 2 := by rw [hT2, strOfNums_size]; rfl
   have hSs : S.size <= 150004 := by rw [hS]; unfold endStr; rw [strOfNums_size, Pack.digs_length]; omega
   have HT2 : Hid (T2 = strOfNums [(z : Int), (N : Int)]) := hT2
   clear hT2
   have HE : Hid (Below w.heap.size w wr /\ S = endStr (Pack.fin (filmL z F N))) := ⟨hst.bel, hS⟩
   have HF1 : Hid (∀ wp, Below (wr.drew.alloc (.cells #[.int .u8 z, .int .u8 N] 5)).heap.size (wr.drew.alloc (.cells #[.int .u8 z, .int .u8 N] 5)) wp -> Below w.heap.size w wp) := fun wp bp =>
    have b1 : Below wr.heap.size wr (wr.drew.alloc (.cells #[.int .u8 z, .int .u8 N] 5)) := hdw.alloc (Nat.le_refl wr.heap.size) _
    hst.bel.trans ((b1.trans (bp.mono b1.size)).mono hst.bel.size)
   have HF2 : Hid (∀ wp, Below wr.drew.heap.size wr.drew wp -> ∀ o, Below w.heap.size w (wp.alloc o)) := fun wp bp o =>
    have b1 : Below wr.heap.size wr wp := hdw.trans bp
    (hst.bel.trans (b1.mono hst.bel.size)).alloc (Nat.le_trans hst.bel.size b1.size) o
   clear hst hfb f1 f2 f3 f4 f5 hpk hdw hS hjN cel
   go_wp2_with fail
   go_region_with (go_at_call 31; first | (refine HP1.out.mono ?_; rintro e wp ⟨rfl, q0, q1, bp⟩) | (refine (HP2.out _).mono ?_; rintro e wp ⟨rfl, q0, q1, bp⟩; have hcb := HCB.out wp bp))
   all_goals
    go_wp2
    go_ret
    refine ⟨by rw [<- HE.out.2, <- HT2.out]; rfl, ?_⟩
    first
     | exact HF1.out _ bp
     | exact HF2.out _ bp _
end Go.Proofs.YtekfbphnoibnjaaDoor
namespace Go.Proofs.YtekfbphnoibnjaaDoor
open Go.RowKit Go.Shelf
def RowsIn (w : World) (fa : Option Addr) (N : Nat) (ls : Nat -> Nat) : Prop := N = 0 \/ ∃ fb off, fa = some ⟨fb, off, none⟩ /\ ∀ j, j < N -> ∃ a c, w.cell? ⟨fb, off + j, none⟩ = some (.slice a (ls j) c)
def sizeB (z : Int) : Bool := decide (z = 4 \/ z = 8 \/ z = 16)
def rightB (z : Int) (N : Nat) (ls : Nat -> Nat) : Bool := sizeB z && (decide (N <= 8) && (List.range N).all fun j => decide ((ls j : Int) = z * z))
set_option maxHeartbeats 1000000 in
theorem pIsSizeW (w : World) (z : Int) : Calls Tryd.prog 26 #[.int .i64 z] w fun e w' => e = .returned (.bool (sizeB z)) /\ w' = w := by
 unfold sizeB
 by_cases h4 : z = 4
 ·subst h4
  go_enter Tryd.func26, Tryd.ntmps26
  go_wp2
  go_ret
  exact ⟨by simp, rfl⟩
 ·by_cases h8 : z = 8
  ·subst h8
   go_enter Tryd.func26, Tryd.ntmps26
   go_wp2
   go_ret
   exact ⟨by simp, rfl⟩
  ·have e4 : (z == 4) = false := by simpa using h4
   have e8 : (z == 8) = false := by simpa using h8
   by_cases h16 : z = 16
   ·subst h16
    go_enter Tryd.func26, Tryd.ntmps26
    go_wp2
    go_ret
    exact ⟨by simp, rfl⟩
   ·have e16 : (z == 16) = false := by simpa using h16
    have hd : decide (z = 4 \/ z = 8 \/ z = 16) = false := by simp [h4, h8, h16]
    rw [hd]
    go_enter Tryd.func26, Tryd.ntmps26
    go_wp2
    go_ret
    exact ⟨by simp, rfl⟩
set_option maxHeartbeats 4000000 in
theorem pIsFilm (w : World) (z : Int) (fa : Option Addr) (N fc : Nat) (ls : Nat -> Nat) (h : RowsIn w fa N ls) :
  Calls Tryd.prog 17 #[.agg #[.int .i64 z, .slice fa N fc]] w fun e w' => e = .returned (.bool (rightB z N ls)) /\ Below w.heap.size w w' := by
 obtain ⟨H, hH⟩ : ∃ H, H = w.heap.size := ⟨_, rfl⟩
 obtain ⟨W1, hW1⟩ : ∃ W1, W1 = w.alloc (.cells #[.int .i64 z, .slice fa N fc] 36) := ⟨_, rfl⟩
 have hB1 : Below w.heap.size w W1 := by rw [hW1]; exact (Below.refl _ w).alloc (Nat.le_refl _) _
 have x0 : W1.heap[H]? = some (.cells #[.int .i64 z, .slice fa N fc] 36) := by rw [hW1, hH]; exact heap_alloc_last w _
 have k0 : W1.cell? ⟨H, 0, none⟩ = some (.int .i64 z) := cell_of_row _ _ 0 _ _ _ x0
 have k1 : W1.cell? ⟨H, 1, none⟩ = some (.slice fa N fc) := cell_of_row _ _ 1 _ _ _ x0
 have HIS := fun w => pIsSizeW w z
 obtain ⟨B, hB⟩ : ∃ B, B = sizeB z := ⟨_, rfl⟩
 rw [<- hB] at HIS
 have HW : Hid (W1 = w.alloc (.cells #[.int .i64 z, .slice fa N fc] 36) /\ H = w.heap.size /\ Below w.heap.size w W1) := ⟨hW1, hH, hB1⟩
 have HR : Hid (RowsIn w fa N ls) := h
 clear hW1 hB1 hH x0 h
 cases B with
 | false =>
  have hr : rightB z N ls = false := by unfold rightB; rw [<- hB]; rfl
  rw [hr]
  clear hr hB
  go_enter Tryd.func17, Tryd.ntmps17
  go_wp2_with (first
   | (rw [<- HW.out.1, <- HW.out.2.1])
   | (go_at_call 26; refine (HIS _).mono ?_; rintro e w1 ⟨rfl, rfl⟩))
  go_ret
  exact ⟨rfl, HW.out.2.2⟩
 | true =>
  by_cases hN : N <= 8
  ·have hN' : ¬ ((N : Int) > 8) := by omega
   have hzz : z = 4 \/ z = 8 \/ z = 16 := by unfold sizeB at hB; exact of_decide_eq_true hB.symm
   have hw : wrap64 (z * z) = z * z := by rcases hzz with rfl | rfl | rfl <;> (unfold wrap64; decide)
   have hr : rightB z N ls = (List.range N).all fun j => decide ((ls j : Int) = z * z) := by unfold rightB; rw [<- hB]; simp [hN]
   rw [hr]
   obtain ⟨ZZ, hZZ⟩ : ∃ ZZ, ZZ = z * z := ⟨_, rfl⟩
   rw [<- hZZ] at hw
   rw [show wrap64 ZZ = wrap64 (z * z) by rw [hZZ]] at hw
   rw [show (fun j => decide ((ls j : Int) = z * z)) = fun j => decide ((ls j : Int) = ZZ) by rw [hZZ]]
   clear hr hB hzz hZZ
   go_enter Tryd.func17, Tryd.ntmps17
   go_wp2_with (first
    | (rw [<- HW.out.1, <- HW.out.2.1])
    | (go_at_call 26; refine (HIS _).mono ?_; rintro e w1 ⟨rfl, rfl⟩))
   go_loopw [18] (fun v18 wr => ∃ j : Nat, j <= N /\ v18 = .int .i64 j /\ wr = w1 /\ ∀ i, i < j -> (ls i : Int) = ZZ) (fun v18 _ => N - (intOf v18).toNat)
   case atStart => exact ⟨0, Nat.zero_le _, rfl, rfl, fun i hi => absurd hi (Nat.not_lt_zero _)⟩
   case round =>
    obtain ⟨j, hj, rfl, rfl, hall⟩ := hrel
    by_cases hlt : j < N
    ·have hlt' : (j : Int) < (N : Int) := by omega
     obtain ⟨fb, off, rfl, hf⟩ := HR.out.resolve_left (by omega)
     obtain ⟨a, c, hc⟩ := hf j hlt
     have kc := (HW.out.2.2.cell (World.block_lt_of_cell? w _ hc)).trans hc
     obtain ⟨m, hm⟩ : ∃ m, m = ls j := ⟨_, rfl⟩
     rw [<- hm] at kc
     have HA : Hid ((∀ i, i < j -> (ls i : Int) = ZZ) /\ m = ls j) := ⟨hall, hm⟩
     clear hall hf hc hm
     by_cases he : (m : Int) = ZZ
     ·have he2 : ((m : Int) == ZZ) = true := by simpa using he
      have HM : Hid ((m : Int) = ZZ) := he
      clear he
      go_wp2
      refine ⟨⟨j + 1, hlt, by go_num, trivial, fun i hi => ?_⟩, by simp [intOf]; omega⟩
      by_cases hij : i < j
      ·exact HA.out.1 i hij
      ·have : i = j := by omega
       rw [this, <- HA.out.2]
       exact HM.out
     ·have he2 : ((m : Int) == ZZ) = false := by simpa using he
      have HF : Hid ((List.range N).all (fun j => decide ((ls j : Int) = ZZ)) = false) := by
       rw [Hid, List.all_eq_false]
       exact ⟨j, List.mem_range.2 hlt, by rw [<- HA.out.2]; simpa using he⟩
      clear he
      go_wp2
      go_ret
      exact ⟨congrArg (fun b => Ending.returned (Value.bool b)) HF.out.symm, HW.out.2.2⟩
    ·have hlt' : ¬ (j : Int) < (N : Int) := by omega
     have HA : Hid ((List.range N).all (fun j => decide ((ls j : Int) = ZZ)) = true) := by
      rw [Hid, List.all_eq_true]
      intro i hi
      exact decide_eq_true (hall i (by have := List.mem_range.1 hi; omega))
     clear hall
     go_wp2
     go_ret
     exact ⟨congrArg (fun b => Ending.returned (Value.bool b)) HA.out.symm, HW.out.2.2⟩
  ·have hN' : (N : Int) > 8 := by omega
   have hr : rightB z N ls = false := by unfold rightB; simp [hN]
   rw [hr]
   clear hr hB
   go_enter Tryd.func17, Tryd.ntmps17
   go_wp2_with (first
    | (rw [<- HW.out.1, <- HW.out.2.1])
    | (go_at_call 26; refine (HIS _).mono ?_; rintro e w1 ⟨rfl, rfl⟩))
   go_ret
   exact ⟨rfl, HW.out.2.2⟩
end Go.Proofs.YtekfbphnoibnjaaDoor
namespace Go.Proofs.YtekfbphnoibnjaaDoor
open Go.RowKit
def Blk (w : World) (b : Nat) (cs : List Value) (e : TypeId) : Prop := w.heap[b]? = some (.cells cs.toArray e (0, 0))
theorem Blk.cell {w : World} {b : Nat} {cs : List Value} {e : TypeId} (h : Blk w b cs e) (j : Nat) (v : Value) (hv : cs[j]? = some v) : w.cell? ⟨b, j, none⟩ = some v := by
 rw [cell_of_row w b j _ _ _ h]; simpa using hv
theorem Blk.frozen {w : World} {b : Nat} {cs : List Value} {e : TypeId} (h : Blk w b cs e) (j : Nat) : w.frozen? ⟨b, j, none⟩ = false := frozen_of_row w b j _ _ h
theorem Blk.lt {w : World} {b : Nat} {cs : List Value} {e : TypeId} (h : Blk w b cs e) : b < w.heap.size := by
 rcases Nat.lt_or_ge b w.heap.size with h' | h'
 ·exact h'
 ·unfold Blk at h; rw [Array.getElem?_eq_none h'] at h; cases h
theorem Blk.of {w w' : World} {b : Nat} {cs : List Value} {e : TypeId} (h : Blk w b cs e) (hb : w'.heap[b]? = w.heap[b]?) : Blk w' b cs e := hb.trans h
theorem Blk.alloc {w : World} {b : Nat} {cs : List Value} {e : TypeId} (h : Blk w b cs e) (o : Obj) : Blk (w.alloc o) b cs e := h.of (Below.heap_alloc w o b h.lt)
theorem Blk.grown {w w' : World} {b : Nat} {cs : List Value} {e : TypeId} {row : Option Nat} (h : Blk w b cs e) (hg : w.grownBy w' row) (hn : row ≠ some b) : Blk w' b cs e := h.of (hg.block b h.lt (fun k => hn k.symm))
theorem Blk.set {w : World} {b : Nat} {cs : List Value} {e : TypeId} (h : Blk w b cs e) (j : Nat) (v : Value) : Blk (w.setCell ⟨b, j, none⟩ v) b (cs.set j v) e := by
 unfold Blk
 rw [heap_setCell_same w b j _ e v h]
 simp
theorem Blk.new (w : World) (cs : List Value) (e : TypeId) : Blk (w.alloc (.cells cs.toArray e)) w.heap.size cs e := by
 show (w.heap.push _)[w.heap.size]? = _
 simp
theorem news_new (X : World) (cs : List Value) (e : TypeId) (H : Nat) (hH : X.heap.size = H) : ∀ j u, cs[j]? = some u -> (X.alloc (.cells cs.toArray e)).cell? ((⟨H, 0, none⟩ : Addr).add j) = some u := by
 intro j u hu
 subst hH
 exact World.news_of_block (cs := cs.toArray) (t := e) (fr := (0, 0)) (Blk.new X cs e) j u (by simpa using hu)
end Go.Proofs.YtekfbphnoibnjaaDoor
namespace Go.Proofs.YtekfbphnoibnjaaDoor
open Go.RowKit
open Flm (Px FS)
namespace Flm
end Flm
theorem owns_form {w : World} {base : Nat} {e : TypeId} {size : Nat} {v : Value} {n : Nat} {xs : List Value} (h : w.ownsRow base e size v n xs) : ∃ a c, v = .slice a n c /\ (n = 0 \/ ∃ g, a = some ⟨g, 0, none⟩ /\ base <= g /\ g < w.heap.size) := by
 have h' := h
 rcases h.2 with ⟨rfl, rfl⟩ | ⟨g, cap, cur, rfl, hb, hg, hr⟩
 ·exact ⟨none, 0, rfl, .inl rfl⟩
 ·exact ⟨_, cap, rfl, .inr ⟨g, rfl, World.ownsRow.lt h' g rfl⟩⟩
end Go.Proofs.YtekfbphnoibnjaaDoor
namespace Go.Proofs.YtekfbphnoibnjaaDoor
open Go.RowKit
open Flm (Px FS)
namespace Flm
theorem seen_frs {z : Nat} : ∀ (ps : List (Nat × Nat)) (fs : FS), (seen z ps fs).frs = fs.frs
 | [], _ => rfl
 | (_, _) :: ps, _ => seen_frs ps _
end Flm
end Go.Proofs.YtekfbphnoibnjaaDoor
namespace Go.Proofs.YtekfbphnoibnjaaDoor
open Go.RowKit
open Flm (Px FS)
theorem infoRow : (Tryd.prog.info? 38).map (fun i => (i.zero, i.size, i.bytes)) = some (some (.slice none 0 0), 1, 24) := by kernel_rfl
def Flm.more (z : Nat) (q : FS) : FS := { q with frs := q.frs ++ [List.replicate (z * z) (0, 0, 0)] }
end Go.Proofs.YtekfbphnoibnjaaDoor
namespace Go.Proofs.YtekfbphnoibnjaaDoor
open Go.RowKit
open Flm (Px FS)
noncomputable def Flm.fin (t : ByteArray) (z : Nat) (F : FS) : Option (Nat × List (List Px)) × Px × Int :=
 if F.r.err = 0 then (if (Rdr.finish t F.r).err = 0 then (some (z, F.frs), (0, 0, 0), 0) else (none, (0, 0, 0), (Rdr.finish t F.r).err)) else (none, (F.fr, F.x, F.y), F.r.err)
end Go.Proofs.YtekfbphnoibnjaaDoor
namespace Go.Proofs.YtekfbphnoibnjaaDoor
namespace Pk
open Flm (Px FS px now near turn back okPx spots put)
def IsZ (z : Nat) : Prop := z = 4 \/ z = 8 \/ z = 16
theorem rank4 : ∀ x < 4, ∀ y < 4, rank x y < 16 := by decide +kernel
theorem rank8 : ∀ x < 8, ∀ y < 8, rank x y < 64 := by decide +kernel
theorem rank_z {z : Nat} (hz : IsZ z) {x y : Nat} (hx : x < z) (hy : y < z) : rank x y < z * z := by
 rcases hz with rfl | rfl | rfl
 ·exact rank4 x hx y hy
 ·exact rank8 x hx y hy
 ·exact rank_lt hx hy
theorem al0 {z : Nat} (hz : IsZ z) : Al z 0 0 z := ⟨hz, Nat.zero_mod _, Nat.zero_mod _, by omega, by omega, by rcases hz with rfl | rfl | rfl <;> decide⟩
def Whole (z : Nat) (F : List (List Px)) (f : Nat) (l : Bts) : Prop := Pack.BitsOk l /\ ∀ (S : ByteArray) (rest : Bts) (fs : FS) (m : Nat), Rd S (l ++ rest) fs.r -> fs.frs = [] ->
  ∃ gs, Flm.frames S z (f + m) fs = Flm.frames S z m gs /\ Rd S rest gs.r /\ gs.frs = F.take f
theorem whole_nil (z : Nat) (F : List (List Px)) : Whole z F 0 [] := ⟨ok_nil, fun S rest fs m h he => ⟨fs, by rw [Nat.zero_add], h, by rw [he, List.take_zero]⟩⟩
theorem whole_snoc {z : Nat} {F : List (List Px)} {f : Nat} {l a : Bts} (hz : IsZ z) (hf : f < F.length) (hl : (F.getD f []).length = z * z) (h : Whole z F f l) (ha : Tells z F f 0 0 z a) : Whole z F (f + 1) (l ++ a) := by
 refine ⟨ok_app h.1 ha.1, fun S rest fs m hr he => ?_⟩
 rw [List.append_assoc] at hr
 obtain ⟨gs, e1, r1, f1⟩ := h.2 S (a ++ rest) fs (1 + m) hr he
 have hlen : gs.frs.length = f := by rw [f1, List.length_take]; omega
 obtain ⟨r2, g2⟩ := ha.2 S rest { gs with frs := gs.frs ++ [List.replicate (z * z) (0, 0, 0)], rd := List.replicate (z * z) false } r1 (by
  refine ⟨by rw [List.length_append, hlen]; rfl, fun g hg => ?_, ?_, List.length_replicate, fun x y _ _ h0 => ?_, fun x y _ _ h0 => ?_⟩
  ·show (gs.frs ++ _).getD g [] = F.getD g []
   rw [List.getD_eq_getElem?_getD, List.getElem?_append_left (by omega), f1, List.getElem?_take_of_lt hg, <- List.getD_eq_getElem?_getD]
  ·show ((gs.frs ++ _).getD f []).length = z * z
   rw [List.getD_eq_getElem?_getD, List.getElem?_append_right (by omega), hlen, Nat.sub_self]
   exact List.length_replicate
  ·exact absurd h0 (by rw [show rank 0 0 = 0 from rfl]; omega)
  ·rcases h0 with h0 | h0
   ·exact absurd h0 (by rw [show rank 0 0 = 0 from rfl]; omega)
   ·exact absurd h0 id)
 rw [show rank 0 0 + z * z = z * z by rw [show rank 0 0 = 0 from rfl]; omega] at g2
 refine ⟨_, ?_, r2, ?_⟩
 ·rw [show f + 1 + m = f + (1 + m) by omega, e1, show 1 + m = m + 1 by omega]
  show (if gs.r.err = 0 then _ else _) = _
  rw [if_pos r1.err]
 ·apply List.ext_getElem
  ·rw [g2.len, List.length_take]; omega
  ·intro i h1 h2
   rw [g2.len] at h1
   have hi : i < F.length := by omega
   rw [List.getElem_take]
   have key : (Flm.area S z (Flm.cuts z) 0 0 z { gs with frs := gs.frs ++ [List.replicate (z * z) (0, 0, 0)], rd := List.replicate (z * z) false }).frs.getD i [] = F.getD i [] := by
    rcases Nat.lt_or_ge i f with hif | hif
    ·exact g2.old i hif
    ·obtain rfl : i = f := by omega
     apply List.ext_getElem
     ·rw [g2.cl, hl]
     ·intro k k1 k2
      rw [g2.cl] at k1
      have hz0 : 0 < z := by rcases hz with rfl | rfl | rfl <;> decide
      have hx : k % z < z := Nat.mod_lt _ hz0
      have hy : k / z < z := Nat.div_lt_of_lt_mul k1
      have hk := g2.agr (k % z) (k / z) hx hy (.inl (rank_z hz hx hy))
      rw [show k / z * z + k % z = k by rw [Nat.mul_comm]; exact Nat.div_add_mod k z] at hk
      unfold px at hk
      rw [List.getD_eq_getElem?_getD, List.getD_eq_getElem?_getD (l := F.getD i []), List.getElem?_eq_getElem (by rw [g2.cl]; exact k1), List.getElem?_eq_getElem k2] at hk
      exact hk
   rw [List.getD_eq_getElem?_getD, List.getD_eq_getElem?_getD, List.getElem?_eq_getElem (by rw [g2.len]; exact h1), List.getElem?_eq_getElem hi] at key
   exact key
theorem puts_app : ∀ (l r : Bts) (t : WS), Pack.puts t (l ++ r) = Pack.puts (Pack.puts t l) r
 | [], _, _ => rfl
 | (_, _) :: l, r, _ => puts_app l r _
structure FilmOk (z : Nat) (F : List (List Px)) : Prop where
 iz : IsZ z
 le8 : F.length <= 8
 len : ∀ f, f < F.length -> (F.getD f []).length = z * z
 ok : ∀ f, ∀ p ∈ F.getD f [], okPx p
theorem film_whole {z : Nat} {F : List (List Px)} (h : FilmOk z F) : ∀ f, f <= F.length -> Whole z F f (filmL z F f) /\ (Pack.puts Pack.init (filmL z F f)).m <= f * (57 * (z * z) + 3)
 | 0, _ => ⟨whole_nil z F, by rw [Nat.zero_mul]; exact Nat.le_refl 0⟩
 | f + 1, hf => by
  obtain ⟨h1, h2⟩ := film_whole h f (by omega)
  obtain ⟨a1, a2⟩ := area_facts (h.ok f) (Flm.cuts z) (Pack.puts Pack.init (filmL z F f)) 0 0 z (al0 h.iz) rfl
  refine ⟨whole_snoc h.iz (by omega) (h.len f (by omega)) h1 a1, ?_⟩
  unfold filmL
  rw [puts_app, Nat.succ_mul]
  omega
theorem film_m {z : Nat} {F : List (List Px)} (h : FilmOk z F) : (Pack.fin (filmL z F F.length)).m <= 119992 := by
 have h1 := (film_whole h F.length (Nat.le_refl _)).2
 have h2 := h.le8
 have h3 : z * z <= 256 := by rcases h.iz with rfl | rfl | rfl <;> decide
 have h4 : F.length * (57 * (z * z) + 3) <= 8 * (57 * 256 + 3) := Nat.mul_le_mul h2 (by omega)
 unfold Pack.fin
 omega
end Pk
end Go.Proofs.YtekfbphnoibnjaaDoor
