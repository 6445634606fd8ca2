/-
  The law Still holds. Two closed facts on the program.
-/
import Derived.Test.YtekfbphnoibnjaaDoorF34
import Derived.Deep.Cut
import Derived.Deep.RegionLaw
import Derived.Deep.RegionHeld3
import Derived.BigRegion
import Derived.Deep.AppendLies
import Derived.Test.YtekfbphnoibnjaaDoorRows
import Derived.ProofKit
import Derived.OpenShut
import Derived.ChangeOld
namespace Go.Proofs.YtekfbphnoibnjaaDoor
open Go.RowKit
open Flm (Px okPx)
structure StP (W1 wx : World) (A2 n z : Nat) (G : List (List Px)) (Lv : Value) (gs : List (Nat × Nat)) : Prop where
 len : G.length = n
 pl : PlainF z G
 kf : KF wx (A2 + 1) A2 z G Lv gs
 bel : Below A2 W1 wx
set_option maxHeartbeats 1000000 in
set_option maxRecDepth 20000 in
theorem still_any (w : World) (c0 c1 : Int) (s : ByteArray) (c3 : Int) (a0 : -9223372036854775808 <= c0) (a1 : c0 <= 9223372036854775807) (b0 : -9223372036854775808 <= c1) (b1 : c1 <= 9223372036854775807) (d0 : -9223372036854775808 <= c3) (d1 : c3 <= 9223372036854775807) (hs : s.size <= maxLen) (SG : SoftG w w.heap.size) :
  Calls Tryd.prog 4 #[.int .i64 c0, .int .i64 c1, .string s, .int .i64 c3] w fun x w' => x = .returned (.bool true) /\ Below w.heap.size w w' := by
 have HFM := kFilm2 w c0 c1 s c3 a0 a1 b0 b1 d0 d1 hs
 have HSG : Hid (SoftG w w.heap.size) := SG
 obtain ⟨j0, hj0, hy0, hy1, hy2⟩ := info_parts infoRow
 clear a0 a1 b0 b1 d0 d1 hs SG
 go_enter Tryd.func4, Tryd.ntmps4
 go_upto_block 0 with (first
  | (go_at_call 9; refine HFM.mono ?_; rintro e w1 ⟨⟨z, F, a, fc, B, H, fs, rfl, hF, hBw, hK⟩, b1⟩; obtain ⟨n, hn⟩ : ∃ n, n = F.length := ⟨_, rfl⟩; rw [<- hn] at hK ⊢; obtain ⟨W1, A1, hW1, hA1, hb1, f1⟩ := fb_mk w1 (.int .i64 z) (.slice a n fc); have HW1 : Hid (W1 = _ /\ A1 = _) := ⟨hW1, hA1⟩; have HK : Hid (KF w1 B H z F (.slice a n fc) fs /\ Pk.FilmOk z F /\ n = F.length /\ w.heap.size <= B /\ Below w.heap.size w w1) := ⟨hK, hF, hn, hBw, b1⟩; clear hW1 hA1 hF hK hn hBw b1; obtain ⟨f0, f2⟩ := f1.cells; have f3 : (W1.alloc (.cells #[.int .i64 0, .slice none 0 0] 36)).cell? ⟨A1, 0, none⟩ = some (.int .i64 z) := (((Below.refl _ W1).alloc (Nat.le_refl _) _).cell (World.block_lt_of_cell? W1 _ f0)).trans f0)
  | (rw [<- HW1.out.1, <- HW1.out.2]))
 have hx1 : W1.heap[A1]? = some (.cells #[.int .i64 z, .slice a n fc] 36 (0, 0)) := by rw [HW1.out.1, HW1.out.2]; exact heap_alloc_last _ _
 obtain ⟨A2, hA2⟩ : ∃ A2, A2 = W1.heap.size := ⟨_, rfl⟩
 obtain ⟨W2, hW2⟩ : ∃ W2, W2 = W1.alloc (.cells #[.int .i64 z, .slice none 0 0] 36) := ⟨_, rfl⟩
 have hA12 : A1 < A2 := by rw [hA2]; exact heap_lt0 hx1
 have hwA : w.heap.size <= A1 := by rw [HW1.out.2]; exact HK.out.2.2.2.2.size
 rw [<- hW2, <- hA2]
 have I0 : Hid (StP W1 W2 A2 0 z [] (.slice none 0 0) []) := ⟨rfl, fun f hf => absurd hf (Nat.not_lt_zero _), ⟨by rw [hW2, hA2]; exact heap_alloc_last _ _, World.ownsRow_nil _ _ _ _, rfl, fun i hi => absurd hi (Nat.not_lt_zero _), fun i p hp => by simp at hp, by omega⟩, by rw [hW2, hA2]; exact (Below.refl _ W1).alloc (Nat.le_refl _) _⟩
 have HX1 : Hid (W1.heap[A1]? = some (.cells #[.int .i64 z, .slice a n fc] 36 (0, 0))) := hx1
 have HA2 : Hid (A2 = W1.heap.size /\ W2 = W1.alloc (.cells #[.int .i64 z, .slice none 0 0] 36)) := ⟨hA2, hW2⟩
 have HB1 : Hid (Below w1.heap.size w1 W1) := hb1
 have hn8 : n <= 8 := by rw [HK.out.2.2.1]; exact HK.out.2.1.le8
 clear hx1 hA2 hW2 hb1 f1 f0 f2 f3 HFM HW1
 go_cut [] (fun wx => ∃ (G : List (List Px)) (Lv : Value) (gs : List (Nat × Nat)), StP W1 wx A2 n z G Lv gs)
 case first =>
  go_wp2
  go_loopw [11] (fun iv wr => ∃ (i : Nat) (G : List (List Px)) (Lv : Value) (gs : List (Nat × Nat)), i <= n /\ iv = .int .i64 i /\ StP W1 wr A2 i z G Lv gs) (fun iv _ => n - (intOf iv).toNat)
  case atStart => exact ⟨0, [], _, [], Nat.zero_le _, rfl, I0.out⟩
  case round =>
   clear I0
   obtain ⟨i, G, Lv, gs, hin, rfl, hP⟩ := hrel
   have f0 : wr.cell? ⟨A1, 0, none⟩ = some (.int .i64 z) := (hP.bel.cell (p := ⟨A1, 0, none⟩) hA12).trans (cell_of_row _ _ 0 _ _ _ HX1.out)
   have f2 : wr.cell? ⟨A1, 1, none⟩ = some (.slice a n fc) := (hP.bel.cell (p := ⟨A1, 1, none⟩) hA12).trans (cell_of_row _ _ 1 _ _ _ HX1.out)
   have HP : Hid (StP W1 wr A2 i z G Lv gs) := hP
   clear hP
   by_cases hlt : i < n
   ·have hlt' : (i : Int) < (n : Int) := by omega
    obtain ⟨g, nb, cc, p0, p1, p2, ha, hok, hq⟩ := HK.out.1.at HK.out.2.1 HK.out.2.2.1 hlt
    subst ha
    obtain ⟨wo, hwo⟩ : ∃ wo, wo = wr := ⟨wr, rfl⟩
    subst hwo
    obtain ⟨Z, hZ⟩ : ∃ Z, Z = z * z := ⟨_, rfl⟩
    have hz := HK.out.2.1.iz
    have hZ8 : Z <= 256 := by rw [hZ]; rcases hz with rfl | rfl | rfl <;> decide
    have hw64 : wrap64 ((z : Int) * (z : Int)) = (Z : Int) := by rw [hZ]; rcases hz with rfl | rfl | rfl <;> (unfold wrap64; decide)
    have hwi : IntKind.i64.wrap ((z : Int) * (z : Int)) = (Z : Int) := by rw [hZ]; rcases hz with rfl | rfl | rfl <;> rfl
    rw [<- hZ] at hq
    have HQ : Hid (∀ wx, Below wo.heap.size wo wx -> wx.cell? ⟨A1, 1, none⟩ = some (.slice (some ⟨g, 0, none⟩) n fc) /\ wx.cell? ⟨g, i, none⟩ = some (.slice (some ⟨nb, 0, none⟩) Z cc) /\ wx.cell? ⟨nb, 0, none⟩ = some (.int .u8 p0) /\ wx.cell? ⟨nb, 1, none⟩ = some (.int .u8 p1) /\ wx.cell? ⟨nb, 2, none⟩ = some (.int .u8 p2)) := fun wx bx =>
     ⟨(bx.cell (World.block_lt_of_cell? wo _ f2)).trans f2, hq wx (HB1.out.trans (((HP.out.bel).mono (by rw [HA2.out.1]; exact HB1.out.size)).trans (bx.mono (Nat.le_trans HB1.out.size (by have := HP.out.bel.size; exact this)))))⟩
    have HOK : Hid (okPx (p0, p1, p2) /\ Z = z * z) := ⟨hok, hZ⟩
    have hmk := stMake Z (by omega)
    clear hq hok hZ hz
    go_upto_block 2 with fail
    clear hw64 hwi hmk f0 f2
    obtain ⟨ng, hng⟩ : ∃ ng, ng = wo.heap.size := ⟨_, rfl⟩
    obtain ⟨W5, hW5⟩ : ∃ W5, W5 = wo.alloc (.cells (madeCells #[.int .u8 0, .int .u8 0, .int .u8 0] (Z * 3)) 40) := ⟨_, rfl⟩
    rw [<- hW5, <- hng]
    have I5 : Hid (Pixs W5 ng ng Z (List.replicate Z (0, 0, 0)) /\ Below ng wo W5) := by
     rw [hng, hW5]
     exact ⟨stMade wo wo.heap.size Z (Nat.le_refl _) (by omega), (Below.refl _ wo).alloc (Nat.le_refl _) _⟩
    have HNG : Hid (ng = wo.heap.size) := hng
    clear hng hW5
    go_cut [] (fun wy => Pixs wy ng ng Z (List.replicate Z (p0, p1, p2)) /\ Below ng wo wy)
    case first =>
     go_wp2
     go_loopw [13] (fun kv wy => ∃ k : Nat, k <= Z /\ kv = .int .i64 k /\ Pixs wy ng ng Z (halfP Z k (p0, p1, p2)) /\ Below ng wo wy) (fun kv _ => Z - (intOf kv).toNat)
     case atStart => exact ⟨0, Nat.zero_le _, rfl, by rw [halfP_zero]; exact I5.out.1, I5.out.2⟩
     case round =>
      clear I5
      obtain ⟨k, hk, rfl, hpx, hb⟩ := hrel
      have HPX : Hid (Pixs wr ng ng Z (halfP Z k (p0, p1, p2)) /\ Below ng wo wr) := ⟨hpx, hb⟩
      by_cases hkz : k < Z
      ·have hkz' : (k : Int) < (Z : Int) := by omega
       obtain ⟨q1, q2, q3, q4, q5⟩ := HQ.out wr (by rw [<- HNG.out]; exact hb)
       obtain ⟨e0, k0⟩ : ∃ e0, wr.cell? ⟨ng, k * 3, none⟩ = some (.int .u8 e0) := ⟨_, (hpx.cell k hkz).1⟩
       obtain ⟨e1, k1⟩ : ∃ e1, wr.cell? ⟨ng, k * 3 + 1, none⟩ = some (.int .u8 e1) := ⟨_, (hpx.cell k hkz).2.1⟩
       obtain ⟨e2, k2⟩ : ∃ e2, wr.cell? ⟨ng, k * 3 + 2, none⟩ = some (.int .u8 e2) := ⟨_, (hpx.cell k hkz).2.2⟩
       have z0 := hpx.frozen (k * 3)
       have z1 := hpx.frozen (k * 3 + 1)
       have z2 := hpx.frozen (k * 3 + 2)
       have hZ0 : (0 : Int) < (Z : Int) := by omega
       clear hpx hb
       go_wp2
       go_roundw
       case rel => exact ⟨k + 1, hkz, by go_num, by rw [<- halfP_set (p0, p1, p2) hkz]; exact HPX.out.1.store k hkz (p0, p1, p2), ((HPX.out.2.setCell (p := ⟨ng, k * 3, none⟩) (Nat.le_refl _) _).setCell (p := ⟨ng, k * 3 + 1, none⟩) (Nat.le_refl _) _).setCell (p := ⟨ng, k * 3 + 2, none⟩) (Nat.le_refl _) _⟩
       case measure => simp [intOf]; omega
      ·have hkz' : ¬ (k : Int) < (Z : Int) := by omega
       have hke : k = Z := by omega
       have HE : Hid (k = Z) := hke
       clear hpx hb hke
       go_wp2
       go_meet
       exact ⟨by have := HPX.out.1; rw [HE.out, halfP_full] at this; exact this, HPX.out.2⟩
    case rest =>
     obtain ⟨hpx, hb⟩ := hcut
     have hbw : Below wo.heap.size wo wc := by rw [<- HNG.out]; exact hb
     have hk1 := HP.out.kf.below hbw
     have kL : wc.cell? ⟨A2, 1, none⟩ = some Lv := cell_of_row _ _ 1 _ _ _ hk1.bx
     have hHz : A2 < wo.heap.size := heap_lt0 HP.out.kf.bx
     have hbz := hbw.size
     have HO7 : Hid (Pixs wc ng ng Z (List.replicate Z (p0, p1, p2)) /\ Below wo.heap.size wo wc /\ KF wc (A2 + 1) A2 z G Lv gs) := ⟨hpx, hbw, hk1⟩
     have HLL : Hid (∀ j, Lv.ownBlock = some j -> A2 + 1 <= j) := fun j e => (World.ownsRow.lt hk1.row j e).1
     clear hpx hb hbw hk1 I5
     go_wp2_with (at_builtin; refine wpList_append_own _ rfl (.tmp 58) (.tmp 60) 34 rfl (A2 + 1) 38 j0 (.slice none 0 0) 1 24 Tryd.underlying34 hj0 hy0 hy1 hy2 rfl (by decide) _ G.length (gs.map fun q => Value.slice (some ⟨q.1, 0, none⟩) (z * z) q.2) rfl ?c0 ⟨wc.heap.size, 0, none⟩ 1 1 [.slice (some ⟨ng, 0, none⟩) Z Z] rfl rfl ?c1 ?c2 ?c3 ?c4 ?c5 ?_)
     case c0 => exact HO7.out.2.2.row.alloc _
     case c1 => exact news_new _ [.slice (some ⟨ng, 0, none⟩) Z Z] 38 _ (by simp)
     case c2 => intro u hu; simp at hu; subst hu; rfl
     case c3 => have := HP.out.len; unfold maxLen; omega
     case c4 => have := HP.out.len; omega
     case c5 => simp; omega
     intro v' w3 hown' hgrow _
     obtain ⟨ra, rc, hv', _⟩ := owns_form hown'
     subst hv'
     obtain ⟨w5, hw5⟩ : ∃ w5, w5 = wc.alloc (.cells #[.slice (some ⟨ng, 0, none⟩) Z Z] 38) := ⟨_, rfl⟩
     have b5 : Below wc.heap.size wc w5 := by rw [hw5]; exact (Below.refl _ wc).alloc (Nat.le_refl _) _
     rw [<- hw5] at hgrow
     have hk5 := HO7.out.2.2.below b5
     have eZ := HOK.out.2
     have hl5 : w5.ownsRow (A2 + 1) 40 3 (.slice (some ⟨ng, 0, none⟩) (z * z) (z * z)) (z * z) (pxCells (List.replicate (z * z) (p0, p1, p2))) := by
      rw [<- eZ]
      exact owns_base ((Frm.of_below (S := fun _ => False) b5).owns HO7.out.1 (fun _ _ e => e)) (by rw [HNG.out]; omega)
     have hb5 : Below wo.heap.size wo w5 := HO7.out.2.1.trans (b5.mono HO7.out.2.1.size)
     have hH5 : w5.heap[A2]? = some (.cells #[.int .i64 z, Lv] 36 (0, 0)) := hk5.bx
     have hH3 : w3.heap[A2]? = some (.cells #[.int .i64 z, Lv] 36 (0, 0)) := (hgrow.block A2 (heap_lt0 hH5) (fun e => by have := HLL.out A2 e.symm; omega)).trans hH5
     have hs5 := hb5.size
     have HN : Hid (StP W1 (w3.setCell ⟨A2, 1, none⟩ (.slice ra (G.length + 1) rc)) A2 (i + 1) z (G ++ [List.replicate (z * z) (p0, p1, p2)]) (.slice ra (G.length + 1) rc) (gs ++ [(ng, z * z)])) := by
      refine ⟨by rw [List.length_append, HP.out.len]; rfl, HP.out.pl.add HOK.out.1, hk5.add hl5 (fun p hp => by rw [List.eq_of_mem_replicate hp]; exact HOK.out.1) (by rw [eZ] at hown'; exact hown') hgrow, ?_⟩
      exact ((HP.out.bel.trans (hb5.mono (show A2 <= wo.heap.size by omega))).grown hgrow (show A2 <= w5.heap.size by omega) (fun j e => by have := HLL.out j e; omega)).setCell (p := ⟨A2, 1, none⟩) (Nat.le_refl A2) _
     have d1 : w3.cell? ⟨A2, 1, none⟩ = some Lv := cell_of_row _ _ 1 _ _ _ hH3
     have f1 : w3.frozen? ⟨A2, 1, none⟩ = false := frozen_of_row _ _ 1 _ _ hH3
     clear hown' hgrow hw5 b5 hk5 hl5 hb5 hH5 hH3 eZ kL hs5
     go_wp2
     exact ⟨⟨i + 1, _, _, _, hlt, by go_num, HN.out⟩, by simp [intOf]; omega⟩
   ·have hlt' : ¬ (i : Int) < (n : Int) := by omega
    have HE : Hid (i = n) := by show i = n; omega
    go_wp2
    go_meet
    exact ⟨G, Lv, gs, by rw [<- HE.out]; exact HP.out⟩
 case rest =>
  obtain ⟨G, Lv, gs, hP⟩ := hcut
  obtain ⟨a2, k2, hLv, hfr2⟩ := hP.kf.film
  subst hLv
  have hlen := hP.len
  rw [hlen] at hfr2
  have hb0 : Below w.heap.size w W1 := HK.out.2.2.2.2.trans (HB1.out.mono HK.out.2.2.2.2.size)
  have hA2w : w.heap.size <= A2 := by rw [HA2.out.1]; exact hb0.size
  have hbc : Below w.heap.size w wc := hb0.trans (hP.bel.mono hA2w)
  have hb1c : Below w1.heap.size w1 wc := HB1.out.trans (hP.bel.mono (by rw [HA2.out.1]; exact HB1.out.size))
  have hGf := hP.pl.film HK.out.2.1.iz (by omega)
  have T1 : Told wc z a2 n k2 (encS z n G) := by
   have := told_of (fc := k2) (HSG.out.st hbc) hGf (by rw [hlen]; exact hfr2)
   rw [hlen] at this
   exact this
  have T2 : Told wc z a n fc (encS z n F) := by
   obtain ⟨a', c', e1, e2⟩ := HK.out.1.film
   simp only [Value.slice.injEq] at e1
   obtain ⟨rfl, _, rfl⟩ := e1
   have := (told_of (fc := fc) (HSG.out.st HK.out.2.2.2.2) HK.out.2.1 e2).mono hb1c
   rw [<- HK.out.2.2.1] at this
   exact this
  have s1 : 8 <= (encS z n G).size /\ (encS z n G).size <= 8 + 12 * n := by
   rw [enc_len]
   have := Sc.plain_m HK.out.2.1.iz (by omega) hP.pl
   rw [hlen] at this
   omega
  have s2 : 8 <= (encS z n F).size /\ (encS z n F).size <= 120000 := by
   have := Pk.film_m HK.out.2.1
   rw [<- HK.out.2.2.1] at this
   unfold Pack.fin at this
   rw [enc_len]; omega
  have bx1 : wc.heap[A1]? = some (.cells #[.int .i64 z, .slice a n fc] 36 (0, 0)) := (hP.bel.block A1 hA12).trans HX1.out
  have bx2 : wc.heap[A2]? = some (.cells #[.int .i64 z, .slice a2 G.length k2] 36 (0, 0)) := hP.kf.bx
  rw [hlen] at bx2
  have hkc := HK.out.1.below hb1c
  obtain ⟨S1, hS1⟩ : ∃ S1, S1 = encS z n G := ⟨_, rfl⟩
  obtain ⟨S2, hS2⟩ : ∃ S2, S2 = encS z n F := ⟨_, rfl⟩
  rw [<- hS1] at T1 s1
  rw [<- hS2] at T2 s2
  have HS2 : Hid (S2 = encS z n F) := hS2
  have HT : Hid (Told wc z a2 n k2 S1 /\ Told wc z a n fc S2) := ⟨T1, T2⟩
  have HBX : Hid (∀ wx, Below wc.heap.size wc wx -> (wx.heap[A1]? = some (.cells #[.int .i64 z, .slice a n fc] 36 (0, 0)) /\ wx.heap[A2]? = some (.cells #[.int .i64 z, .slice a2 n k2] 36 (0, 0))) /\ Below w.heap.size w wx /\ KF wx B H z F (.slice a n fc) fs) := fun wx bx => ⟨⟨(bx.block A1 (heap_lt0 bx1)).trans bx1, (bx.block A2 (heap_lt0 bx2)).trans bx2⟩, hbc.trans (bx.mono hbc.size), hkc.below bx⟩
  have HBC : Hid (Below w.heap.size w wc) := hbc
  obtain ⟨s1a, s1b⟩ := s1
  have s1a' : ¬ ((S1.size : Int) < 8) := by omega
  have s1b' : ¬ ((S1.size : Int) > 8 + 12 * (n : Int)) := by omega
  have c0' : wc.cell? ⟨A2, 0, none⟩ = some (.int .i64 z) := cell_of_row _ _ 0 _ _ _ bx2
  have c1' : wc.cell? ⟨A2, 1, none⟩ = some (.slice a2 n k2) := cell_of_row _ _ 1 _ _ _ bx2
  clear hP hfr2 hlen hb0 hA2w hbc hb1c hGf T1 T2 bx1 bx2 hkc hS1 hS2 I0
  go_upto_region 17 with (go_at_call 10; refine (HT.out.1 wc (Below.refl _ _)).mono ?_; rintro e w2 ⟨rfl, b2⟩; have c2' : w2.cell? ⟨A2, 1, none⟩ = some (.slice a2 n k2) := cell_of_row _ _ 1 _ _ _ (HBX.out w2 b2).1.2; have c3' : w2.cell? ⟨A1, 1, none⟩ = some (.slice a n fc) := cell_of_row _ _ 1 _ _ _ (HBX.out w2 b2).1.1; have c4' : w2.cell? ⟨A1, 0, none⟩ = some (.int .i64 z) := cell_of_row _ _ 0 _ _ _ (HBX.out w2 b2).1.1)
  have HB2 : Hid (Below wc.heap.size wc w2) := b2
  clear b2 c0' c1' c2'
  by_cases hn0 : n = 0
  ·have hn0' : (n : Int) = 0 := by omega
   go_wp2
   go_ret
   exact ⟨rfl, (HBX.out w2 HB2.out).2.1⟩
  have hn0' : ((n : Int) == 0) = false := by simp; omega
  by_cases hn7 : n = 8
  ·have hn7' : (n : Int) = 8 := by omega
   go_wp2
   go_ret
   exact ⟨rfl, (HBX.out w2 HB2.out).2.1⟩
  have hn7' : ((n : Int) == 8) = false := by simp; omega
  go_upto_region 20 with (go_at_call 10; refine (HT.out.2 w2 HB2.out).mono ?_; rintro e w3 ⟨rfl, b3⟩)
  obtain ⟨m, hm⟩ : ∃ m, n = m + 1 := ⟨n - 1, by omega⟩
  have hb3 : Below wc.heap.size wc w3 := HB2.out.trans (b3.mono HB2.out.size)
  obtain ⟨⟨bx1, _⟩, hw3, hk3⟩ := HBX.out w3 hb3
  obtain ⟨g0, ha, hBg, hgz, cL⟩ := hk3.last HK.out.2.2.1 (show m < n by omega)
  subst ha
  have hrow := hk3.row
  rw [<- HK.out.2.2.1] at hrow
  have hBz : B <= w3.heap.size := by omega
  have hA1z : A1 < w3.heap.size := heap_lt0 bx1
  have N1 : (Value.slice (some ⟨g0, 0, none⟩) n fc).ownBlock ≠ some A1 := owns_box hrow bx1 (by decide)
  have sc : w3.cell? ⟨A1, 1, none⟩ = some (.slice (some ⟨g0, 0, none⟩) n fc) := cell_of_row _ _ 1 _ _ _ bx1
  have sc0 : w3.cell? ⟨A1, 0, none⟩ = some (.int .i64 z) := cell_of_row _ _ 0 _ _ _ bx1
  have sf : w3.frozen? ⟨A1, 1, none⟩ = false := frozen_of_row _ _ 1 _ _ bx1
  obtain ⟨S3, hS3⟩ : ∃ S3, S3 = encS z (n + 1) (F ++ [F.getD m []]) := ⟨_, rfl⟩
  have s3 : S3.size <= S2.size + 8 := by rw [hS3, HS2.out]; exact again_len hm HK.out.2.2.1
  obtain ⟨nb, hnb⟩ : ∃ nb, nb = (fs.getD m (0, 0)).1 := ⟨_, rfl⟩
  obtain ⟨cc, hcc⟩ : ∃ cc, cc = (fs.getD m (0, 0)).2 := ⟨_, rfl⟩
  obtain ⟨Z, hZ⟩ : ∃ Z, Z = z * z := ⟨_, rfl⟩
  rw [<- hnb, <- hcc, <- hZ] at cL
  have HV : Hid (nb = (fs.getD m (0, 0)).1 /\ cc = (fs.getD m (0, 0)).2 /\ Z = z * z /\ S3 = encS z (n + 1) (F ++ [F.getD m []]) /\ n = m + 1) := ⟨hnb, hcc, hZ, hS3, hm⟩
  have H3 : Hid (w3.heap[A1]? = some (.cells #[.int .i64 z, .slice (some ⟨g0, 0, none⟩) n fc] 36 (0, 0)) /\ Below w.heap.size w w3 /\ KF w3 B H z F (.slice (some ⟨g0, 0, none⟩) n fc) fs /\ B <= g0 /\ w.heap.size <= B) := ⟨bx1, hw3, hk3, hBg, HK.out.2.2.2.1⟩
  have hw1 : wrap64 ((n : Int) - 1) = (m : Int) := by unfold wrap64; omega
  have hwi : IntKind.i64.wrap ((n : Int) - 1) = (m : Int) := by rw [IntKind.wrap_i64]; omega
  have hmn : (m : Int) < (n : Int) := by omega
  clear hnb hcc hZ hS3 hm hb3 bx1 hw3 hk3 hBg hgz b3 c3' c4'
  go_cut [] (fun wx => ∃ g cap, FB wx A1 (.int .i64 z) (.slice (some ⟨g, 0, none⟩) (n + 1) cap) /\ Told wx z (some ⟨g, 0, none⟩) (n + 1) cap S3 /\ Below w.heap.size w wx)
  case first =>
   go_region_law ((refine step_append_lies _ (by rfl) _ _ _ (by rfl) B 38 j0 _ 1 24 Tryd.underlying34 hj0 hy0 hy1 hy2 rfl (by omega) (.slice (some ⟨g0, 0, none⟩) n fc) n (fs.map fun q => Value.slice (some ⟨q.1, 0, none⟩) (z * z) q.2) (by rfl) ((hrow.alloc _).drew) ⟨w3.heap.size, 0, none⟩ 1 1 [.slice (some ⟨nb, 0, none⟩) Z cc] (by rfl) (by rfl) (World.news_of_block (cs := #[.slice (some ⟨nb, 0, none⟩) Z cc]) (t := 38) (fr := (0, 0)) (heap_alloc_new w3 _)) (by simp [Value.oneCell']) (by omega) (by unfold maxLen; omega) (by omega) (by simp; omega) (w3.heap.size + 1) (by simp) ?_; intro gg cap w5 hown5 hgrow hat hlt5; have sf5 : w5.frozen? ⟨A1, 1, none⟩ = false := ((hgrow.frozen_far ⟨A1, 1, none⟩ (by simp; omega) (Ne.symm N1)).trans (frozen_alloc_drew hA1z)).trans sf; have sc5 : w5.cell? ⟨A1, 1, none⟩ = some (.slice (some ⟨g0, 0, none⟩) n fc) := ((hgrow.cell_far ⟨A1, 1, none⟩ (by simp; omega) (Ne.symm N1)).trans (cell_alloc_drew hA1z)).trans sc))
   all_goals
    have hb5 : Below w.heap.size w (w5.setCell ⟨A1, 1, none⟩ (.slice (some ⟨gg, 0, none⟩) (n + 1) cap)) := (((H3.out.2.1.alloc H3.out.2.1.size _).drew).grown hgrow (Nat.le_trans H3.out.2.1.size (by simp)) (fun k e => by have e' : g0 = k := (by simpa [Value.ownBlock] using e); have := H3.out.2.2.2; omega)).setCell (p := ⟨A1, 1, none⟩) hwA _
    have fr : Frm (fun k => (Value.slice (some ⟨g0, 0, none⟩) n fc).ownBlock = some k \/ k = A1) w3 (w5.setCell ⟨A1, 1, none⟩ (.slice (some ⟨gg, 0, none⟩) (n + 1) cap)) := ((((Frm.refl _ w3).alloc _).drew).grown hgrow (fun k e => .inl (.inl e))).setCell (p := ⟨A1, 1, none⟩) (.inl (.inr rfl)) _
    have hgA : gg ≠ A1 := by
     rcases hat with e | e
     ·exact fun e2 => N1 (by rw [e, e2])
     ·omega
    have sc6 : w5.cell? ⟨A1, 0, none⟩ = some (.int .i64 z) := ((hgrow.cell_far ⟨A1, 0, none⟩ (by simp; omega) (Ne.symm N1)).trans (cell_alloc_drew hA1z)).trans sc0
    have hfb : FB (w5.setCell ⟨A1, 1, none⟩ (.slice (some ⟨gg, 0, none⟩) (n + 1) cap)) A1 (.int .i64 z) (.slice (some ⟨gg, 0, none⟩) (n + 1) cap) := ⟨cell_off sc6 (.inr (by decide)), World.cell?_setCell_same _ _ _ sc5⟩
    have hT : Told (w5.setCell ⟨A1, 1, none⟩ (.slice (some ⟨gg, 0, none⟩) (n + 1) cap)) z (some ⟨gg, 0, none⟩) (n + 1) cap S3 := by
     rw [HV.out.1, HV.out.2.1, HV.out.2.2.1] at hown5
     rw [HV.out.2.2.2.1]
     exact H3.out.2.2.1.told HK.out.2.1 HK.out.2.2.1 H3.out.1 HV.out.2.2.2.2 (by omega) hown5 fr hgA (HSG.out.st hb5)
    have HR : Hid (FB (w5.setCell ⟨A1, 1, none⟩ (.slice (some ⟨gg, 0, none⟩) (n + 1) cap)) A1 (.int .i64 z) (.slice (some ⟨gg, 0, none⟩) (n + 1) cap) /\ Told (w5.setCell ⟨A1, 1, none⟩ (.slice (some ⟨gg, 0, none⟩) (n + 1) cap)) z (some ⟨gg, 0, none⟩) (n + 1) cap S3 /\ Below w.heap.size w (w5.setCell ⟨A1, 1, none⟩ (.slice (some ⟨gg, 0, none⟩) (n + 1) cap))) := ⟨hfb, hT, hb5⟩
    clear hb5 fr hgA sc6 hfb hT hown5 hgrow hat
    go_wp2_with fail
    go_meet
    exact ⟨gg, cap, HR.out⟩
  case rest =>
   obtain ⟨g, cap, hfb, T3, hbw⟩ := hcut
   obtain ⟨q0, q1⟩ := hfb.cells
   obtain ⟨s2a, s2b⟩ := s2
   have HT3 : Hid (Told wc z (some ⟨g, 0, none⟩) (n + 1) cap S3 /\ Below w.heap.size w wc) := ⟨T3, hbw⟩
   have g1 : (S2.size : Int) ≥ 8 := by omega
   have g2 : (S3.size : Int) <= (S2.size : Int) + 8 := by omega
   clear hfb T3 hbw hw1 hwi hmn sc sc0 sf N1 hA1z hBz hrow cL
   go_wp2_with (go_at_call 10; refine (HT3.out.1 wc (Below.refl _ _)).mono ?_; rintro e w6 ⟨rfl, b6⟩)
   go_ret
   exact ⟨rfl, HT3.out.2.trans (b6.mono HT3.out.2.size)⟩
end Go.Proofs.YtekfbphnoibnjaaDoor
namespace Go.Proofs.YtekfbphnoibnjaaDoor
open Go.ChangeShapes Go.WideShapes Go.ChangeAt Go.RowKit
theorem own : ownKnob Tryd.prog.godebug = none := by kernel_rfl
theorem laidOut : laidOutB Tryd.prog = true := by kernel_rfl
end Go.Proofs.YtekfbphnoibnjaaDoor
