/-
  What the law Kept calls of its own: raw bytes as a film. Its parts. What the law Kept calls of its own: raw bytes as a film.
-/
import Derived.Test.YtekfbphnoibnjaaDoorF30
import Derived.Test.YtekfbphnoibnjaaDoorF07
import Derived.Test.YtekfbphnoibnjaaDoorF01
import Derived.Deep.Cut
namespace Go.Proofs.YtekfbphnoibnjaaDoor
open Go.RowKit
open Flm (Px okPx)
def kpk (c n : Int) : Int := (if c < 0 then -(c + 1) else c) % n
theorem kpk_bd (c n : Int) (h : 0 < n) : 0 <= kpk c n /\ kpk c n < n := ⟨Int.emod_nonneg _ (by omega), Int.emod_lt_of_pos _ h⟩
set_option maxHeartbeats 400000 in
theorem kPick (w : World) (c n : Int) (c0 : -9223372036854775808 <= c) (c1 : c <= 9223372036854775807) (n0 : 0 < n) (n1 : n <= 1000) : Calls Tryd.prog 6 #[.int .i64 c, .int .i64 n] w fun e w' => e = .returned (.int .i64 (kpk c n)) /\ w' = w := by
 by_cases h : c < 0
 ·have hn : (n == 0) = false := by simp; omega
  have e : kpk c n = (-(c + 1)) % n := by unfold kpk; rw [if_pos h]
  have hb := kpk_bd c n n0
  rw [e] at hb ⊢
  go_enter Tryd.func6, Tryd.ntmps6
  go_wp2
  go_ret
  refine ⟨ret_int ?_, rfl⟩
  rw [<- Int.neg_tmod, Int.tmod_eq_emod_of_nonneg (by omega)]
 ·have hn : (n == 0) = false := by simp; omega
  have e : kpk c n = c % n := by unfold kpk; rw [if_neg h]
  have hb := kpk_bd c n n0
  rw [e] at hb ⊢
  go_enter Tryd.func6, Tryd.ntmps6
  go_wp2
  go_ret
  exact ⟨rfl, rfl⟩
theorem owns_apart {w : World} {B B' : Nat} {e e' : TypeId} {sz sz' : Nat} {v v' : Value} {n n' : Nat} {xs xs' : List Value} (h : w.ownsRow B e sz v n xs) (h' : w.ownsRow B' e' sz' v' n' xs') (ne : e ≠ e') : ∀ k, v.ownBlock = some k -> v'.ownBlock ≠ some k := by
 intro k hk hk'
 rcases h.2 with ⟨rfl, _⟩ | ⟨g, cap, cur, rfl, _, hg, _⟩
 ·simp [Value.ownBlock] at hk
 ·rcases h'.2 with ⟨rfl, _⟩ | ⟨g', cap', cur', rfl, _, hg', _⟩
  ·simp [Value.ownBlock] at hk'
  ·simp [Value.ownBlock] at hk hk'
   subst hk
   subst hk'
   rw [hg] at hg'
   simp at hg'
   exact ne hg'.2
structure KF (w : World) (B H z : Nat) (F : List (List Px)) (Lv : Value) (fs : List (Nat × Nat)) : Prop where
 bx : w.heap[H]? = some (.cells #[.int .i64 z, Lv] 36 (0, 0))
 row : w.ownsRow B 38 1 Lv F.length (fs.map fun q => Value.slice (some ⟨q.1, 0, none⟩) (z * z) q.2)
 ln : fs.length = F.length
 fr : ∀ i, i < F.length -> w.ownsRow B 40 3 (.slice (some ⟨(fs.getD i (0, 0)).1, 0, none⟩) (z * z) (fs.getD i (0, 0)).2) (z * z) (pxCells (F.getD i []))
 ok : ∀ i, ∀ p ∈ F.getD i [], okPx p
 hB : H < B
theorem KF.below {w w' : World} {B H z : Nat} {F : List (List Px)} {Lv : Value} {fs : List (Nat × Nat)} (h : KF w B H z F Lv fs) (f : Below w.heap.size w w') : KF w' B H z F Lv fs := by
 have fr := Frm.of_below (S := fun _ => False) f
 exact ⟨(f.block H (heap_lt0 h.bx)).trans h.bx, fr.owns h.row (fun _ _ e => e), h.ln, fun i hi => fr.owns (h.fr i hi) (fun _ _ e => e), h.ok, h.hB⟩
theorem getD_snoc {α : Type} (l : List α) (x d : α) (i : Nat) : (l ++ [x]).getD i d = if i = l.length then x else l.getD i d := by
 simp only [List.getD_eq_getElem?_getD, List.getElem?_append]
 by_cases h : i < l.length
 ·rw [if_pos h, if_neg (by omega)]
 ·rw [if_neg h]
  by_cases h' : i = l.length
  ·subst h'; simp
  ·rw [if_neg h', List.getElem?_eq_none (show [x].length <= i - l.length by simp; omega), List.getElem?_eq_none (show l.length <= i by omega)]
theorem KF.add {w1 w3 : World} {B H z : Nat} {F : List (List Px)} {Lv v' : Value} {fs : List (Nat × Nat)} {g c : Nat} {ps : List Px} (h : KF w1 B H z F Lv fs) (hl : w1.ownsRow B 40 3 (.slice (some ⟨g, 0, none⟩) (z * z) c) (z * z) (pxCells ps)) (hp : ∀ p ∈ ps, okPx p)
  (hown : w3.ownsRow B 38 1 v' (F.length + 1) ((fs.map fun q => Value.slice (some ⟨q.1, 0, none⟩) (z * z) q.2) ++ [.slice (some ⟨g, 0, none⟩) (z * z) c])) (hg : w1.grownBy w3 Lv.ownBlock) :
  KF (w3.setCell ⟨H, 1, none⟩ v') B H z (F ++ [ps]) v' (fs ++ [(g, c)]) := by
 have hne : (40 : TypeId) ≠ 38 := by decide
 have hHB := h.hB
 have hrow : ∀ {v : Value} {n : Nat} {xs : List Value}, w1.ownsRow B 40 3 v n xs -> (w3.setCell ⟨H, 1, none⟩ v').ownsRow B 40 3 v n xs := fun {v n xs} ho => by
  have f : Frm (fun k => Lv.ownBlock = some k \/ k = H) w1 (w3.setCell ⟨H, 1, none⟩ v') := ((Frm.refl _ w1).grown hg (fun k e => .inl (.inl e))).setCell (p := ⟨H, 1, none⟩) (.inl (.inr rfl)) _
  refine f.owns ho (fun k hk e => ?_)
  rcases e with e | e
  ·exact owns_apart ho h.row hne k hk e
  ·have := (World.ownsRow.lt ho k hk).1
   omega
 have hHr : ∀ k, Lv.ownBlock = some k -> k ≠ H := fun k hk e => by have := (World.ownsRow.lt h.row k hk).1; omega
 have hvr : v'.ownBlock ≠ some H := fun e => by have := (World.ownsRow.lt hown H e).1; omega
 have hb3 : w3.heap[H]? = some (.cells #[.int .i64 z, Lv] 36 (0, 0)) := (hg.block H (heap_lt0 h.bx) (fun e => hHr H e.symm rfl)).trans h.bx
 refine ⟨?_, ?_, by simp [h.ln], fun i hi => ?_, fun i p hpi => ?_, h.hB⟩
 ·have := Go.heap_setCell_same w3 H 1 _ _ v' hb3
  simpa using this
 ·rw [List.length_append, List.map_append]
  exact hown.kept (grown_setCell w3 H 1 _) (.inr hvr)
 ·rw [List.length_append, List.length_singleton] at hi
  rw [getD_snoc, getD_snoc, h.ln]
  by_cases e : i = F.length
  ·rw [if_pos e, if_pos e]; exact hrow hl
  ·rw [if_neg e, if_neg e]; exact hrow (h.fr i (by omega))
 ·rw [getD_snoc] at hpi
  by_cases e : i = F.length
  ·rw [if_pos e] at hpi; exact hp p hpi
  ·rw [if_neg e] at hpi; exact h.ok i p hpi
theorem KF.film {w : World} {B H z : Nat} {F : List (List Px)} {Lv : Value} {fs : List (Nat × Nat)} (h : KF w B H z F Lv fs) : ∃ a c, Lv = .slice a F.length c /\ FrsIn w a F.length z F (fun i => (fs.getD i (0, 0)).1) (fun i => (fs.getD i (0, 0)).2) := by
 obtain ⟨a, c, e, hor⟩ := owns_form h.row
 refine ⟨a, c, e, ?_⟩
 rcases hor with h0 | ⟨g, rfl, _⟩
 ·exact .inl h0
 ·refine .inr ⟨g, 0, rfl, fun j hj => ?_⟩
  have hln := h.ln
  have hr := h.row
  rw [e] at hr
  constructor
  ·rw [Nat.zero_add, World.ownsRow.cellAt hr j (by omega), List.getElem?_map, List.getElem?_eq_getElem (by omega)]
   simp [List.getD_eq_getElem?_getD, show j < fs.length by omega]
  ·have ho := h.fr j hj
   have hl := ho.1
   rw [pxCells_len] at hl
   refine ⟨(World.ownsRow.lt ho _ rfl).2, fun k hk => ?_⟩
   obtain ⟨q0, q1, q2⟩ := pxCells_get (F.getD j []) k (by omega)
   exact ⟨(World.ownsRow.cellAt ho _ (by omega)).trans q0, (World.ownsRow.cellAt ho _ (by omega)).trans q1, (World.ownsRow.cellAt ho _ (by omega)).trans q2⟩
end Go.Proofs.YtekfbphnoibnjaaDoor
namespace Go.Proofs.YtekfbphnoibnjaaDoor
open Go.RowKit
open Flm (Px okPx)
theorem at_bd (i k : Nat) (h : k <= 256) : i * 768 + 3 * k <= (i + 1) * 768 := by omega
theorem mod_bd (y : Int) : 0 <= y % 256 /\ y % 256 <= 255 := by omega
theorem px_store {w : World} {A : Nat} {p0 p1 p2 : Int} (h : w.heap[A]? = some (.cells #[.int .u8 p0, .int .u8 p1, .int .u8 p2] 40 (0, 0))) (hok : okPx (p0, p1, p2)) {j : Nat} (hj : j < 3) {x : Int} (hx : 0 <= x /\ x <= 255) :
  ∃ q0 q1 q2, okPx (q0, q1, q2) /\ (w.setCell ⟨A, j, none⟩ (.int .u8 x)).heap[A]? = some (.cells #[.int .u8 q0, .int .u8 q1, .int .u8 q2] 40 (0, 0)) := by
 have h1 := Go.heap_setCell_same w A j _ _ (.int .u8 x) h
 rw [h1]
 match j, hj with
 | 0, _ => exact ⟨x, p1, p2, ⟨hx, hok.2.1, hok.2.2⟩, by simp⟩
 | 1, _ => exact ⟨p0, x, p2, ⟨hok.1, hx, hok.2.2⟩, by simp⟩
 | 2, _ => exact ⟨p0, p1, x, ⟨hok.1, hok.2.1, hx⟩, by simp⟩
theorem px_done {w wk : World} {A m c : Nat} {p0 p1 p2 : Int} (h : okPx (p0, p1, p2) /\ w.heap[A]? = some (.cells #[.int .u8 p0, .int .u8 p1, .int .u8 p2] 40 (0, 0)) /\ Below A wk w) {j : Nat} (hj : j < 3) (hm : m <= c + j) {y : Int} :
  ∃ (m2 j2 : Nat) (p0 p1 p2 : Int), Value.int .i64 ((m : Int) + 1) = .int .i64 m2 /\ m2 <= c + j2 /\ j2 <= 3 /\ Value.int .i64 ((j : Int) + 1) = .int .i64 j2 /\ okPx (p0, p1, p2) /\ (w.setCell ⟨A, j, none⟩ (.int .u8 (y % 256))).heap[A]? = some (.cells #[.int .u8 p0, .int .u8 p1, .int .u8 p2] 40 (0, 0)) /\ Below A wk (w.setCell ⟨A, j, none⟩ (.int .u8 (y % 256))) := by
 obtain ⟨q0, q1, q2, h1, h2⟩ := px_store h.2.1 h.1 hj (mod_bd y)
 exact ⟨m + 1, j + 1, q0, q1, q2, by simp, by omega, hj, by simp, h1, h2, h.2.2.setCell (p := ⟨A, j, none⟩) (Nat.le_refl _) _⟩
theorem KF.frm {S : Nat -> Prop} {w w' : World} {B H z : Nat} {F : List (List Px)} {Lv : Value} {fs : List (Nat × Nat)} (h : KF w B H z F Lv fs) (f : Frm S w w') (hS : ∀ k, S k -> k < B /\ k ≠ H) : KF w' B H z F Lv fs :=
 ⟨(f.block H (heap_lt0 h.bx) (fun e => (hS H e).2 rfl)).trans h.bx, f.owns h.row (fun k hk e => by have := (World.ownsRow.lt h.row k hk).1; have := (hS k e).1; omega), h.ln, fun i hi => f.owns (h.fr i hi) (fun k hk e => by have := (World.ownsRow.lt (h.fr i hi) k hk).1; have := (hS k e).1; omega), h.ok, h.hB⟩
set_option maxHeartbeats 800000 in
set_option maxRecDepth 20000 in
theorem kFilm2 (w : World) (c0 c1 : Int) (s : ByteArray) (c3 : Int) (a0 : -9223372036854775808 <= c0) (a1 : c0 <= 9223372036854775807) (b0 : -9223372036854775808 <= c1) (b1 : c1 <= 9223372036854775807) (d0 : -9223372036854775808 <= c3) (d1 : c3 <= 9223372036854775807) (hs : s.size <= maxLen) :
  Calls Tryd.prog 9 #[.int .i64 c0, .int .i64 c1, .string s, .int .i64 c3] w fun x w' => (∃ (z : Nat) (F : List (List Px)) (a : Option Addr) (fc B H : Nat) (fs : List (Nat × Nat)), x = .returned (.agg #[.int .i64 z, .slice a F.length fc]) /\ Pk.FilmOk z F /\ w.heap.size <= B /\ KF w' B H z F (.slice a F.length fc) fs) /\ Below w.heap.size w w' := by
 unfold maxLen at hs
 obtain ⟨i0, hi, hz0, hz1, hz2⟩ := info_parts infoPx
 obtain ⟨j0, hj0, hy0, hy1, hy2⟩ := info_parts infoRow
 obtain ⟨p, hp⟩ : ∃ p, p = kpk c0 3 := ⟨_, rfl⟩
 have hpb := kpk_bd c0 3 (by decide)
 obtain ⟨q, hq⟩ : ∃ q, q = kpk c1 9 := ⟨_, rfl⟩
 have hqb := kpk_bd c1 9 (by decide)
 rw [<- hp] at hpb
 rw [<- hq] at hqb
 have HP : Hid (p = kpk c0 3) := hp
 have HQ : Hid (q = kpk c1 9) := hq
 have HA : Hid ((-9223372036854775808 <= c0 /\ c0 <= 9223372036854775807) /\ (-9223372036854775808 <= c1 /\ c1 <= 9223372036854775807)) := ⟨⟨a0, a1⟩, b0, b1⟩
 clear hp hq a0 a1 b0 b1
 go_enter Tryd.func9, Tryd.ntmps9
 go_upto_block 0 with (go_at_call 6; refine (kPick _ c0 3 HA.out.1.1 HA.out.1.2 (by decide) (by decide)).mono ?_; rintro e w' ⟨rfl, hw⟩; rw [hw, <- HP.out]; clear hw)
 go_cut [] (fun wx => ∃ z : Nat, (z = 4 \/ z = 8 \/ z = 16) /\ wx = (w.alloc (.cells #[.int .i64 0, .slice none 0 0] 36)).alloc (.cells #[.int .i64 z, .slice none 0 0] 36))
 case first =>
  rcases (show p = 0 \/ p = 1 \/ p = 2 by omega) with rfl | rfl | rfl
  ·go_wp2
   go_meet
   exact ⟨4, .inl rfl, rfl⟩
  ·go_wp2
   go_meet
   exact ⟨8, .inr (.inl rfl), rfl⟩
  ·go_wp2
   go_meet
   exact ⟨16, .inr (.inr rfl), rfl⟩
 case rest =>
  obtain ⟨z, hz, hwc⟩ := hcut
  obtain ⟨Q, hQ⟩ : ∃ Q : Nat, q = (Q : Int) := ⟨q.toNat, by omega⟩
  subst hQ
  obtain ⟨Z, hZ⟩ : ∃ Z, Z = z * z := ⟨_, rfl⟩
  have hZ8 : Z <= 256 := by rw [hZ]; rcases hz with rfl | rfl | rfl <;> decide
  have hw64 : wrap64 ((z : Int) * (z : Int)) = (Z : Int) := by rw [hZ]; rcases hz with rfl | rfl | rfl <;> (unfold wrap64; decide)
  have hwi : IntKind.i64.wrap ((z : Int) * (z : Int)) = (Z : Int) := by rw [hZ]; rcases hz with rfl | rfl | rfl <;> rfl
  obtain ⟨H, hH⟩ : ∃ H, H = w.heap.size := ⟨_, rfl⟩
  have hsz : wc.heap.size = H + 2 := by rw [hwc, hH]; simp
  have x0 : wc.heap[H]? = some (.cells #[.int .i64 0, .slice none 0 0] 36 (0, 0)) := by rw [hwc, hH, Below.heap_alloc _ _ _ (by simp)]; exact heap_alloc_last w _
  have x1 : wc.heap[H + 1]? = some (.cells #[.int .i64 z, .slice none 0 0] 36 (0, 0)) := by
   have k := heap_alloc_last (w.alloc (.cells #[.int .i64 0, .slice none 0 0] 36)) (.cells #[.int .i64 z, .slice none 0 0] 36)
   rw [World.size_alloc, <- hH] at k
   rw [hwc]; exact k
  have I0 : Hid (KF wc (H + 2) (H + 1) z [] (.slice none 0 0) [] /\ wc.heap[H]? = some (.cells #[.int .i64 0, .slice none 0 0] 36 (0, 0)) /\ Below H w wc) :=
   ⟨⟨x1, World.ownsRow_nil _ _ _ _, rfl, fun i hi => absurd hi (Nat.not_lt_zero _), fun i p hp => by simp at hp, by omega⟩, x0, by rw [hwc, hH]; exact ((Below.refl _ w).alloc (Nat.le_refl _) _).alloc (by simp) _⟩
  have HZ : Hid (Z = z * z /\ (z = 4 \/ z = 8 \/ z = 16)) := ⟨hZ, hz⟩
  have HH : Hid (H = w.heap.size) := hH
  have HWR : Hid (wrap64 ((z : Int) * (z : Int)) = (Z : Int) /\ IntKind.i64.wrap ((z : Int) * (z : Int)) = (Z : Int)) := ⟨hw64, hwi⟩
  rw [<- hH]
  clear hwc x0 x1 hsz hz hZ hH hw64 hwi
  go_wp2
  go_loopw [10, 11] (fun av iv wr => ∃ (m i : Nat) (F : List (List Px)) (Lv : Value) (fs : List (Nat × Nat)), i <= Q /\ av = .int .i64 m /\ m <= i * 768 /\ iv = .int .i64 i /\ F.length = i /\ KF wr (H + 2) (H + 1) z F Lv fs /\ wr.heap[H]? = some (.cells #[.int .i64 0, .slice none 0 0] 36 (0, 0)) /\ Below H w wr) (fun _ iv _ => Q - (intOf iv).toNat)
  case atStart => exact ⟨0, 0, [], _, [], Nat.zero_le _, rfl, Nat.zero_le _, rfl, rfl, I0.out.1, I0.out.2.1, I0.out.2.2⟩
  case round =>
   clear I0
   obtain ⟨m, i, F, Lv, fs, hi9, rfl, hm, rfl, hF, hK, hx0, hB⟩ := hrel
   by_cases hlt : i < Q
   ·have hlt' : (i : Int) < (Q : Int) := by omega
    obtain ⟨wo, hwo⟩ : ∃ wo, wo = wr := ⟨wr, rfl⟩
    subst hwo
    have HK : Hid (KF wo (H + 2) (H + 1) z F Lv fs) := hK
    have HX : Hid (wo.heap[H]? = some (.cells #[.int .i64 0, .slice none 0 0] 36 (0, 0)) /\ Below H w wo /\ F.length = i) := ⟨hx0, hB, hF⟩
    have HBX : Hid (∀ wx, Below wo.heap.size wo wx -> wx.cell? ⟨H + 1, 0, none⟩ = some (.int .i64 z)) := fun wx bx => cell_of_row _ _ 0 _ _ _ (hK.below bx).bx
    clear hK hx0 hB hF
    go_wp2_with (go_at_call 6; refine (kPick _ c1 9 HA.out.2.1 HA.out.2.2 (by decide) (by decide)).mono ?_; rintro e w' ⟨rfl, hw⟩; rw [hw, <- HQ.out]; clear hw)
    go_loopw [10, 12, 13] (fun av lv kv wx => ∃ (m' k : Nat) (ps : List Px), av = .int .i64 m' /\ m' <= i * 768 + 3 * k /\ k <= Z /\ kv = .int .i64 k /\ wx.ownsRow wo.heap.size 40 3 lv k (pxCells ps) /\ (∀ p ∈ ps, okPx p) /\ Below wo.heap.size wo wx) (fun _ _ kv _ => Z - (intOf kv).toNat)
    case atStart => exact ⟨m, 0, [], rfl, by omega, Nat.zero_le _, rfl, World.ownsRow_nil _ _ _ _, fun p hp => by simp at hp, Below.refl _ _⟩
    case round =>
     obtain ⟨m', k, ps, rfl, hm', hk, rfl, hown, hps, hbx⟩ := hrel
     have kz := HBX.out wr hbx
     by_cases hkz : k < Z
     ·have hkz' : (k : Int) < (Z : Int) := by omega
      obtain ⟨A, hA⟩ : ∃ A, A = wr.heap.size := ⟨_, rfl⟩
      obtain ⟨W4, hW4⟩ : ∃ W4, W4 = wr.alloc (.cells #[.int .u8 0, .int .u8 0, .int .u8 0] 40) := ⟨_, rfl⟩
      have I4 : Hid (W4.heap[A]? = some (.cells #[.int .u8 0, .int .u8 0, .int .u8 0] 40 (0, 0)) /\ Below A wr W4) := ⟨by rw [hW4, hA]; exact heap_alloc_last wr _, by rw [hW4, hA]; exact (Below.refl _ wr).alloc (Nat.le_refl _) _⟩
      have HW4 : Hid (W4 = wr.alloc (.cells #[.int .u8 0, .int .u8 0, .int .u8 0] 40) /\ A = wr.heap.size) := ⟨hW4, hA⟩
      have HO : Hid (wr.ownsRow wo.heap.size 40 3 u12 k (pxCells ps) /\ (∀ p ∈ ps, okPx p) /\ Below wo.heap.size wo wr) := ⟨hown, hps, hbx⟩
      obtain ⟨wk, hwk⟩ : ∃ wk, wk = wr := ⟨wr, rfl⟩
      subst hwk
      clear hW4 hA hown hps hbx
      obtain ⟨hw64, hwi⟩ := HWR.out
      go_upto_block 5 with (rw [<- HW4.out.1, <- HW4.out.2])
      clear hw64 hwi kz
      go_cut [10] (fun av wy => ∃ (m2 : Nat) (p0 p1 p2 : Int), av = .int .i64 m2 /\ m2 <= i * 768 + 3 * k + 3 /\ okPx (p0, p1, p2) /\ wy.heap[A]? = some (.cells #[.int .u8 p0, .int .u8 p1, .int .u8 p2] 40 (0, 0)) /\ Below A wk wy)
      case first =>
       go_wp2
       go_loopw [10, 15] (fun av jv wy => ∃ (m2 j : Nat) (p0 p1 p2 : Int), av = .int .i64 m2 /\ m2 <= i * 768 + 3 * k + j /\ j <= 3 /\ jv = .int .i64 j /\ okPx (p0, p1, p2) /\ wy.heap[A]? = some (.cells #[.int .u8 p0, .int .u8 p1, .int .u8 p2] 40 (0, 0)) /\ Below A wk wy) (fun _ jv _ => 3 - (intOf jv).toNat)
       case atStart => exact ⟨m', 0, 0, 0, 0, rfl, hm', Nat.zero_le _, rfl, ⟨⟨by decide, by decide⟩, ⟨by decide, by decide⟩, ⟨by decide, by decide⟩⟩, I4.out.1, I4.out.2⟩
       case round =>
        obtain ⟨m2, j, p0, p1, p2, rfl, hm2, hj3, rfl, hpx, hc, hb⟩ := hrel
        by_cases hj : j < 3
        ·have hj' : (j : Int) < 3 := by omega
         by_cases hs0 : s = ⟨#[]⟩
         ·subst hs0
          have HC : Hid (okPx (p0, p1, p2) /\ wr.heap[A]? = some (.cells #[.int .u8 p0, .int .u8 p1, .int .u8 p2] 40 (0, 0)) /\ Below A wk wr) := ⟨hpx, hc, hb⟩
          clear hpx hc hb
          go_wp2
          go_meet
          exact ⟨m2, p0, p1, p2, rfl, by omega, HC.out.1, HC.out.2.1, HC.out.2.2⟩
         ·have HC : Hid (okPx (p0, p1, p2) /\ wr.heap[A]? = some (.cells #[.int .u8 p0, .int .u8 p1, .int .u8 p2] 40 (0, 0)) /\ Below A wk wr) := ⟨hpx, hc, hb⟩
          obtain ⟨pj, cz⟩ : ∃ pj, wr.cell? ⟨A, j, none⟩ = some (.int .u8 pj) := by
           rw [cell_of_row _ _ j _ _ _ hc]
           match j, hj with
           | 0, _ => exact ⟨p0, rfl⟩
           | 1, _ => exact ⟨p1, rfl⟩
           | 2, _ => exact ⟨p2, rfl⟩
          have fz : wr.frozen? ⟨A, j, none⟩ = false := frozen_of_row _ _ j _ _ hc
          have hs1 : 0 < s.size := by
           rcases Nat.eq_zero_or_pos s.size with h | h
           ·exact absurd (ByteArray.ext (Array.eq_empty_of_size_eq_zero h)) hs0
           ·exact h
          have hr0 : 0 <= (m2 : Int) % (s.size : Int) := Int.emod_nonneg _ (by omega)
          have hr1 : (m2 : Int) % (s.size : Int) < (s.size : Int) := Int.emod_lt_of_pos _ (by omega)
          clear hpx hc hb
          go_wp2
          all_goals first
           | (go_meet; exact ⟨m2, p0, p1, p2, rfl, by omega, HC.out.1, HC.out.2.1, HC.out.2.2⟩)
           | (go_roundw; (case rel => exact px_done HC.out hj hm2); (case measure => simp [intOf]; omega))
        ·have hj' : ¬ (j : Int) < 3 := by omega
         have HC : Hid (okPx (p0, p1, p2) /\ wr.heap[A]? = some (.cells #[.int .u8 p0, .int .u8 p1, .int .u8 p2] 40 (0, 0)) /\ Below A wk wr) := ⟨hpx, hc, hb⟩
         clear hpx hc hb
         go_wp2
         go_meet
         exact ⟨m2, p0, p1, p2, rfl, by omega, HC.out.1, HC.out.2.1, HC.out.2.2⟩
      case rest =>
       obtain ⟨m2, p0, p1, p2, rfl, hm2, hpx, hc, hb⟩ := hcut
       have e0 : wc.cell? ⟨A, 0, none⟩ = some (.int .u8 p0) := cell_of_row _ _ 0 _ _ _ hc
       have e1 : wc.cell? ⟨A, 1, none⟩ = some (.int .u8 p1) := cell_of_row _ _ 1 _ _ _ hc
       have e2 : wc.cell? ⟨A, 2, none⟩ = some (.int .u8 p2) := cell_of_row _ _ 2 _ _ _ hc
       have hbk : Below wk.heap.size wk wc := by rw [<- HW4.out.2]; exact hb
       have HB5 : Hid (Below wo.heap.size wo wc) := HO.out.2.2.trans (hbk.mono HO.out.2.2.size)
       have HO5 : Hid (wc.ownsRow wo.heap.size 40 3 u12 k (pxCells ps)) := (Frm.of_below (S := fun _ => False) hbk).owns HO.out.1 (fun _ _ e => e)
       have HPX : Hid (okPx (p0, p1, p2)) := hpx
       have hsz5 : wo.heap.size <= wc.heap.size := HB5.out.size
       clear hc hb hbk hpx
       go_wp2_with (at_builtin; refine wpList_append_own _ rfl (.tmp 69) (.tmp 71) 38 rfl wo.heap.size 40 i0 (.agg #[.int .u8 0, .int .u8 0, .int .u8 0]) 3 3 Tryd.underlying38 hi hz0 hz1 hz2 rfl (by decide) _ k (pxCells ps) rfl ?c0 ⟨wc.heap.size, 0, none⟩ 1 1 [.int .u8 p0, .int .u8 p1, .int .u8 p2] rfl rfl ?c1 ?c2 ?c3 ?c4 ?c5 ?_)
       case c0 => exact HO5.out.alloc _
       case c1 => exact news_new _ [.int .u8 p0, .int .u8 p1, .int .u8 p2] 40 _ (by simp)
       case c2 => intro u hu; simp at hu; rcases hu with rfl | rfl | rfl <;> rfl
       case c3 => unfold maxLen; omega
       case c4 => omega
       case c5 => simp; omega
       intro v' w3 hown' hgrow _
       have HN : Hid (w3.ownsRow wo.heap.size 40 3 v' (k + 1) (pxCells (ps ++ [(p0, p1, p2)]))) := by unfold Hid; rw [pxCells_app]; exact hown'
       have HB6 : Hid (Below wo.heap.size wo w3) := (HB5.out.alloc hsz5 _).grown hgrow (by simp; omega) (fun j e => (World.ownsRow.lt HO5.out j e).1)
       clear hown' hgrow
       go_wp2
       go_roundw
       case rel => exact ⟨m2, k + 1, ps ++ [(p0, p1, p2)], rfl, by omega, hkz, by go_num, HN.out, fun p hp => by rcases List.mem_append.1 hp with h | h; exact HO.out.2.1 p h; rw [List.mem_singleton.1 h]; exact HPX.out, HB6.out⟩
       case measure => simp [intOf]; omega
     ·have hkz' : ¬ (k : Int) < (Z : Int) := by omega
      obtain rfl : k = Z := by omega
      have hk0 : 0 < k := by have := HZ.out; rcases this.2 with e | e | e <;> (rw [this.1, e]; decide)
      obtain ⟨g, c, hform, hbg, hgw⟩ := World.ownsRow.form hown hk0
      subst hform
      have hk1 := HK.out.below hbx
      have hbz := hbx.size
      have kL : wr.cell? ⟨H + 1, 1, none⟩ = some Lv := cell_of_row _ _ 1 _ _ _ hk1.bx
      have hHz : H + 1 < wo.heap.size := heap_lt0 HK.out.bx
      have hHL : ∀ j, Lv.ownBlock = some j -> H + 2 <= j := fun j e => (World.ownsRow.lt hk1.row j e).1
      have HO7 : Hid (wr.ownsRow wo.heap.size 40 3 (.slice (some ⟨g, 0, none⟩) k c) k (pxCells ps) /\ (∀ p ∈ ps, okPx p) /\ Below wo.heap.size wo wr /\ KF wr (H + 2) (H + 1) z F Lv fs) := ⟨hown, hps, hbx, hk1⟩
      have HLL : Hid (∀ j, Lv.ownBlock = some j -> H + 2 <= j) := hHL
      clear hown hps hbx hk1 hHL
      obtain ⟨hw64, hwi⟩ := HWR.out
      go_wp2_with (at_builtin; refine wpList_append_own _ rfl (.tmp 74) (.tmp 76) 34 rfl (H + 2) 38 j0 (.slice none 0 0) 1 24 Tryd.underlying34 hj0 hy0 hy1 hy2 rfl (by decide) _ F.length (fs.map fun q => Value.slice (some ⟨q.1, 0, none⟩) (z * z) q.2) rfl ?c0 ⟨wr.heap.size, 0, none⟩ 1 1 [.slice (some ⟨g, 0, none⟩) k c] rfl rfl ?c1 ?c2 ?c3 ?c4 ?c5 ?_)
      clear hw64 hwi
      case c0 => exact HO7.out.2.2.2.row.alloc _
      case c2 => rfl
      case c3 => have := HX.out.2.2; unfold maxLen; omega
      case c4 => have := HX.out.2.2; omega
      case c5 => omega
      intro v' w3 hown' hgrow _
      obtain ⟨ra, rc, hv', _⟩ := owns_form hown'
      subst hv'
      have ek : k = z * z := HZ.out.1
      obtain ⟨w5, hw5⟩ : ∃ w5, w5 = wr.alloc (.cells #[.slice (some ⟨g, 0, none⟩) k c] 38) := ⟨_, rfl⟩
      have b5 : Below wr.heap.size wr w5 := by rw [hw5]; exact (Below.refl _ wr).alloc (Nat.le_refl _) _
      rw [<- hw5] at hgrow
      have hk5 := HO7.out.2.2.2.below b5
      have hl5 : w5.ownsRow (H + 2) 40 3 (.slice (some ⟨g, 0, none⟩) (z * z) c) (z * z) (pxCells ps) := by
       rw [<- ek]
       exact owns_base ((Frm.of_below (S := fun _ => False) b5).owns HO7.out.1 (fun _ _ e => e)) (by omega)
      have hb5 : Below wo.heap.size wo w5 := HO7.out.2.2.1.trans (b5.mono HO7.out.2.2.1.size)
      have hH5 : w5.heap[H + 1]? = some (.cells #[.int .i64 z, Lv] 36 (0, 0)) := hk5.bx
      have hH3 : w3.heap[H + 1]? = some (.cells #[.int .i64 z, Lv] 36 (0, 0)) := (hgrow.block (H + 1) (heap_lt0 hH5) (fun e => by have := HLL.out (H + 1) e.symm; omega)).trans hH5
      have h05 : w5.heap[H]? = some (.cells #[.int .i64 0, .slice none 0 0] 36 (0, 0)) := (hb5.block H (by omega)).trans HX.out.1
      have h03 : w3.heap[H]? = some (.cells #[.int .i64 0, .slice none 0 0] 36 (0, 0)) := (hgrow.block H (heap_lt0 h05) (fun e => by have := HLL.out H e.symm; omega)).trans h05
      have hs5 := hb5.size
      have HN : Hid (KF (w3.setCell ⟨H + 1, 1, none⟩ (.slice ra (F.length + 1) rc)) (H + 2) (H + 1) z (F ++ [ps]) (.slice ra (F.length + 1) rc) (fs ++ [(g, c)]) /\ (w3.setCell ⟨H + 1, 1, none⟩ (.slice ra (F.length + 1) rc)).heap[H]? = some (.cells #[.int .i64 0, .slice none 0 0] 36 (0, 0)) /\ Below H w (w3.setCell ⟨H + 1, 1, none⟩ (.slice ra (F.length + 1) rc))) := by
       refine ⟨hk5.add hl5 HO7.out.2.1 (by rw [ek] at hown'; exact hown') hgrow, (Below.heap_setCell w3 ⟨H + 1, 1, none⟩ _ H (show H ≠ H + 1 by omega)).trans h03, ?_⟩
       exact ((HX.out.2.1.trans (hb5.mono (show H <= wo.heap.size by omega))).grown hgrow (show H <= w5.heap.size by omega) (fun j e => by have := HLL.out j e; omega)).setCell (p := ⟨H + 1, 1, none⟩) (show H <= H + 1 by omega) _
      have d1 : w3.cell? ⟨H + 1, 1, none⟩ = some Lv := cell_of_row _ _ 1 _ _ _ hH3
      have f1 : w3.frozen? ⟨H + 1, 1, none⟩ = false := frozen_of_row _ _ 1 _ _ hH3
      clear hown' hgrow hw5 b5 hk5 hl5 hb5 hH5 hH3 h05 h03 ek kL kz hs5
      go_wp2
      exact ⟨⟨m', i + 1, F ++ [ps], _, _, hlt, rfl, Nat.le_trans hm' (at_bd i k hZ8), by go_num, by rw [List.length_append, HX.out.2.2]; rfl, HN.out.1, HN.out.2.1, HN.out.2.2⟩, by simp [intOf]; omega⟩
   ·have hlt' : ¬ (i : Int) < (Q : Int) := by omega
    obtain ⟨a, fc, hLv, hfr⟩ := hK.film
    subst hLv
    have k0 : wr.cell? ⟨H + 1, 0, none⟩ = some (.int .i64 z) := cell_of_row _ _ 0 _ _ _ hK.bx
    have k1 : wr.cell? ⟨H + 1, 1, none⟩ = some (.slice a F.length fc) := cell_of_row _ _ 1 _ _ _ hK.bx
    have d0 : wr.cell? ⟨H, 0, none⟩ = some (.int .i64 0) := cell_of_row _ _ 0 _ _ _ hx0
    have d1 : wr.cell? ⟨H, 1, none⟩ = some (.slice none 0 0) := cell_of_row _ _ 1 _ _ _ hx0
    have f0 : wr.frozen? ⟨H, 0, none⟩ = false := frozen_of_row _ _ 0 _ _ hx0
    have f1 : wr.frozen? ⟨H, 1, none⟩ = false := frozen_of_row _ _ 1 _ _ hx0
    have HKF : Hid (KF wr (H + 2) (H + 1) z F (.slice a F.length fc) fs /\ Below H w wr /\ FrsIn wr a F.length z F (fun i => (fs.getD i (0, 0)).1) (fun i => (fs.getD i (0, 0)).2)) := ⟨hK, hB, hfr⟩
    obtain ⟨n, hn⟩ : ∃ n, n = F.length := ⟨_, rfl⟩
    rw [<- hn] at k1 HKF
    have HNL : Hid (n = F.length /\ F.length = i) := ⟨hn, hF⟩
    clear hK hx0 hB hfr hF hn
    go_wp2_with (go_at_call 6; refine (kPick _ c1 9 HA.out.2.1 HA.out.2.2 (by decide) (by decide)).mono ?_; rintro e w' ⟨rfl, hw⟩; rw [hw, <- HQ.out]; clear hw)
    obtain ⟨W9, hW9⟩ : ∃ W9, W9 = (wr.setCell ⟨H, 0, none⟩ (.int .i64 z)).setCell ⟨H, 1, none⟩ (.slice a n fc) := ⟨_, rfl⟩
    rw [<- hW9]
    have q0 : W9.cell? ⟨H, 0, none⟩ = some (.int .i64 z) := by
     rw [hW9]
     exact cell_off (World.cell?_setCell_same _ _ _ d0) (.inr (by decide))
    have q1 : W9.cell? ⟨H, 1, none⟩ = some (.slice a n fc) := by
     rw [hW9]
     exact World.cell?_setCell_same _ _ _ (cell_off d1 (.inr (by decide)))
    have fr : Frm (fun k => k = H) wr W9 := by
     rw [hW9]
     exact ((Frm.refl (fun k => k = H) wr).setCell (p := ⟨H, 0, none⟩) (.inl rfl) _).setCell (p := ⟨H, 1, none⟩) (.inl rfl) _
    refine bodyPost_ret (v := .agg #[.int .i64 z, .slice a n fc]) (by simp [results, Tryd.results9, go_sem, q0, q1]) rfl ?_
    have hk9 := HKF.out.1.frm fr (fun k e => by have e' : k = H := e; omega)
    have hn := HNL.out.1
    have hi := HNL.out.2
    refine ⟨⟨z, F, a, fc, H + 2, H + 1, fs, by rw [hn], ⟨HZ.out.2, by omega, fun f hf => ?_, hk9.ok⟩, by rw [<- HH.out]; omega, by rw [<- hn]; exact hk9⟩, ?_⟩
    ·have := (hk9.fr f hf).1
     rw [pxCells_len] at this
     omega
    ·rw [<- HH.out, hW9]
     exact (HKF.out.2.1.setCell (p := ⟨H, 0, none⟩) (Nat.le_refl _) _).setCell (p := ⟨H, 1, none⟩) (Nat.le_refl _) _
end Go.Proofs.YtekfbphnoibnjaaDoor
