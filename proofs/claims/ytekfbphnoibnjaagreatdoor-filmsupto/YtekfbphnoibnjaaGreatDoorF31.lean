/-
  A list is marked: what stands then. All that waits is taken. Two films wait: what stands then. A film that waited is marked, frame by frame, then the list of them.
-/
import Derived.Test.YtekfbphnoibnjaaGreatDoorF30
import Derived.Test.YtekfbphnoibnjaaGreatDoorF25
namespace Go.Proofs.YtekfbphnoibnjaaGreatDoor
open Go.RowKit
theorem upd_same {α : Type} (f : Nat -> α) (j : Nat) (v : α) : upd f j v j = v := if_pos rfl
theorem upd_ne {α : Type} (f : Nat -> α) {i j : Nat} (v : α) (h : i ≠ j) : upd f j v i = f i := if_neg h
theorem els_mk (mk : Nat -> List En) (wt : Nat -> List Wg) {i : Nat} (h : i < 4) : els mk wt i = (mk i).map En.cells := if_pos h
theorem els_upd_ne (mk : Nat -> List En) (wt : Nat -> List Wg) {i j : Nat} (l : List En) (h : i ≠ j) : els (upd mk j l) wt i = els mk wt i := by
 unfold els
 rw [upd_ne mk l h]
theorem gD_set_ne (vs : List Value) {i j : Nat} (v : Value) (h : i ≠ j) : (vs.set j v).getD i nilV = vs.getD i nilV := by
 rw [List.getD_eq_getElem?_getD, List.getD_eq_getElem?_getD, List.getElem?_set, if_neg (fun e => h e.symm)]
theorem gD_set_same (vs : List Value) {j : Nat} (v : Value) (h : j < vs.length) : (vs.set j v).getD j nilV = v := by
 rw [List.getD_eq_getElem?_getD, List.getElem?_set, if_pos rfl, if_pos h]; rfl
theorem rho_ge (t i f : Nat) : 100 <= rho t i f := by unfold rho; omega
theorem GSt.row {w wH wr : World} {p M : Nat} {own : Nat -> Nat} {vs : List Value} {mk : Nat -> List En} {wt : Nat -> List Wg} {d : Nat -> Nat} (h : GSt w wH wr p M own vs mk wt d) (i : Nat) (hi : i < 8) : wr.ownsRow w.heap.size (bty i) (bsz i) (vs.getD i nilV) (els mk wt i).length (els mk wt i).flatten := (h.ro i hi).1
theorem GSt.rol {w wH wr : World} {p M : Nat} {own : Nat -> Nat} {vs : List Value} {mk : Nat -> List En} {wt : Nat -> List Wg} {d : Nat -> Nat} (h : GSt w wH wr p M own vs mk wt d) (i : Nat) (hi : i < 8) : role own (vs.getD i nilV) (2 + i) := (h.ro i hi).2
theorem GSt.at {w wH wr : World} {p M : Nat} {own : Nat -> Nat} {vs : List Value} {mk : Nat -> List En} {wt : Nat -> List Wg} {d : Nat -> Nat} (h : GSt w wH wr p M own vs mk wt d) (i : Nat) (hi : i < 8) : vs[i]? = some (vs.getD i nilV) := by
 rw [List.getD_eq_getElem?_getD, List.getElem?_eq_getElem (by rw [h.bk.len]; exact hi)]; rfl
theorem GSt.cell {w wH wr : World} {p M : Nat} {own : Nat -> Nat} {vs : List Value} {mk : Nat -> List En} {wt : Nat -> List Wg} {d : Nat -> Nat} (h : GSt w wH wr p M own vs mk wt d) (i : Nat) (hi : i < 8) : wr.cell? ⟨p, i + 1, none⟩ = some (vs.getD i nilV) := h.bk.cs i _ (h.at i hi)
theorem GSt.mark {w wH wr wr' : World} {p M : Nat} {own : Nat -> Nat} {vs : List Value} {mk : Nat -> List En} {wt : Nat -> List Wg} {d d' : Nat -> Nat} {j n r : Nat} {ms us : List Value} {vl : Value} (h : GSt w wH wr p M own vs mk wt d) (hj : j < 4)
  (hm : MarkedG (bty j) (bsz j) j ms us wr wr' w.heap.size p M vs (vs.getD j nilV) vl (mk j).length n ((mk j).map En.cells).flatten) (hr : role own vl r) (hvl : ∀ k, vl.ownBlock = some k -> k < wr.heap.size) (r11 : 11 <= r)
  (hsh : ∀ g1 g2 g3, shp j (mkEn ms us n vl g1 g2 g3)) (hd : ∀ t, t < 2 -> d t <= d' t) (hdr : ∀ t i f, t < 2 -> d' t <= i -> i < (wt t).length -> f < 16 -> r ≠ rho t i f) :
  ∃ own' vi' x, GSt w wH wr' p (M + 1) own' (vs.set j vi') (upd mk j (mk j ++ [x])) wt d' /\ Ev (fun q => q = 0 \/ q = r \/ q = 2 + j) own own' wr wr' := by
 obtain ⟨gi, ci, g1, e1, g2, e2, g3, e3, hbk, hoi, fl, f1, f2, f3, ai, a1, a2, a3, ⟨i1, i2, i3⟩, hgp, hlg, hfr⟩ := hm
 have hrj := h.rol j (by omega)
 obtain ⟨own', hown⟩ : ∃ own' : Nat -> Nat, own' = fun k => if vl.ownBlock = some k then 10 else if k = gi then 2 + j else if k = g1 \/ k = g2 \/ k = g3 then 10 else own k := ⟨_, rfl⟩
 have ng : ∀ g, (vl.ownBlock = some g \/ wr.heap.size <= g) -> ∀ k, k < wr.heap.size -> own k ≠ r -> k ≠ g := fun g hg k hk hkr e => by
  rcases hg with hg | hg
  ·exact hkr (by rw [e]; exact hr g hg)
  ·omega
 have hp0 : vl.ownBlock ≠ some p := fun e => by have := hr p e; have := h.op; omega
 have hbg : ∀ g, (vl.ownBlock = some g \/ wr.heap.size <= g) -> p ≠ g := fun g hg => ng g hg p h.bk.up (by have := h.op; omega)
 have hsz : wr.heap.size <= wr'.heap.size := hfr.size
 have E : Ev (fun q => q = 0 \/ q = r \/ q = 2 + j) own own' wr wr' := by
  refine ⟨hfr.mono (fun k _ hk => ?_), fun k hk hw => ?_⟩
  ·rcases hk with hk | hk | hk
   ·exact .inl (by rw [hk]; exact h.op)
   ·exact .inr (.inl (hr k hk))
   ·exact .inr (.inr (hrj k hk))
  ·simp only [not_or] at hw
   rw [hown]
   show (if vl.ownBlock = some k then 10 else if k = gi then 2 + j else if k = g1 \/ k = g2 \/ k = g3 then 10 else own k) = own k
   rw [if_neg (fun e => hw.2.1 (hr k e)), if_neg (fun e => ?_), if_neg (fun e => by rcases e with e | e | e; exact ng g1 a1 k hk hw.2.1 e; exact ng g2 a2 k hk hw.2.1 e; exact ng g3 a3 k hk hw.2.1 e)]
   rcases ai with ai | ai
   ·exact hw.2.2 (by rw [e]; exact hrj gi ai)
   ·omega
 have hnew : ∀ g, (g = g1 \/ g = g2 \/ g = g3) -> gi ≠ g -> own' g = 10 := fun g hg hn => by
  rw [hown]
  show (if vl.ownBlock = some g then 10 else if g = gi then 2 + j else if g = g1 \/ g = g2 \/ g = g3 then 10 else own g) = 10
  by_cases hv : vl.ownBlock = some g
  ·rw [if_pos hv]
  ·rw [if_neg hv, if_neg (fun e => hn e.symm), if_pos hg]
 have hlt : ∀ {g c m : Nat}, Fill wr' (.slice (some ⟨g, 0, none⟩) (m + 1) c) (m + 1) us -> us ≠ [] -> ∀ k, (Value.slice (some ⟨g, 0, none⟩) (m + 1) c).ownBlock = some k -> k < wr'.heap.size := fun f hu => fill_lt f (Nat.succ_pos _) hu
 have hus : us ≠ [] := fun e => by
  have := hsh nilV nilV nilV
  subst e
  match j, hj, this with
  | 0, _, ⟨_, _, _, _, _, _, e, _⟩ => simp [mkEn] at e
  | 1, _, ⟨_, _, _, e, _⟩ => simp [mkEn] at e
  | 2, _, ⟨_, _, _, _, _, _, _, _, e, _⟩ => simp [mkEn] at e
  | 3, _, ⟨_, _, _, _, _, _, _, _, e, _⟩ => simp [mkEn] at e
 refine ⟨own', .slice (some ⟨gi, 0, none⟩) ((mk j).length + 1) ci, mkEn ms us n vl (.slice (some ⟨g1, 0, none⟩) (n + 1) e1) (.slice (some ⟨g2, 0, none⟩) (n + 2) e2) (.slice (some ⟨g3, 0, none⟩) (n + 3) e3), ?_, E⟩
 refine h.ev E (by omega) (by omega) hbk ?_ (fun i hi => ?_) (fun i hi x hx => ?_) (fun t i x ht hx => .inl ⟨hx, fun hdi => ⟨Nat.le_trans (hd t ht) hdi, fun f hf => ?_⟩⟩)
 ·rw [hown]
  show (if vl.ownBlock = some p then 10 else if p = gi then 2 + j else if p = g1 \/ p = g2 \/ p = g3 then 10 else own p) = 0
  rw [if_neg hp0, if_neg (fun e => hgp e.symm), if_neg (fun e => by rcases e with e | e | e; exact hbg g1 a1 e; exact hbg g2 a2 e; exact hbg g3 a3 e)]
  exact h.op
 ·by_cases hij : i = j
  ·subst hij
   refine .inr ?_
   rw [gD_set_same vs _ (by rw [h.bk.len]; exact hi), els_mk _ _ hj, upd_same, List.map_append, List.flatten_append, List.length_append, List.length_map]
   refine ⟨?_, fun k hk => ?_⟩
   ·simp only [List.map_cons, List.map_nil, List.flatten_cons, List.flatten_nil, List.append_nil, List.length_cons, List.length_nil, Nat.zero_add]
    exact hoi
   ·simp [rowLoc, Value.ownBlock] at hk
    subst hk
    rw [hown]
    show (if vl.ownBlock = some gi then 10 else if gi = gi then 2 + i else _) = 2 + i
    rw [if_neg hlg, if_pos rfl]
  ·refine .inl ⟨gD_set_ne vs _ hij, els_upd_ne mk wt _ hij, by omega⟩
 ·by_cases hij : i = j
  ·subst hij
   rw [upd_same, List.mem_append] at hx
   rcases hx with hx | hx
   ·exact .inl hx
   ·simp only [List.mem_singleton] at hx
    subst hx
    refine .inr ⟨hsh _ _ _, fun f hf => ?_⟩
    simp only [mkEn, List.mem_cons, List.not_mem_nil, or_false] at hf
    rcases hf with rfl | rfl | rfl | rfl
    ·refine ⟨⟨fl, fun k hk => Nat.lt_of_lt_of_le (hvl k hk) hsz⟩, fun k hk => ?_⟩
     rw [hown]
     show (if vl.ownBlock = some k then 10 else _) = 10
     rw [if_pos (show vl.ownBlock = some k from hk)]
    ·exact ⟨⟨f1, hlt f1 hus⟩, fun k hk => by simp [fillLoc, Value.ownBlock] at hk; subst hk; exact hnew g1 (.inl rfl) i1⟩
    ·exact ⟨⟨f2, hlt f2 hus⟩, fun k hk => by simp [fillLoc, Value.ownBlock] at hk; subst hk; exact hnew g2 (.inr (.inl rfl)) i2⟩
    ·exact ⟨⟨f3, hlt f3 hus⟩, fun k hk => by simp [fillLoc, Value.ownBlock] at hk; subst hk; exact hnew g3 (.inr (.inr rfl)) i3⟩
  ·rw [upd_ne mk _ hij] at hx; exact .inl hx
 ·have := rho_ge t i f
  have := hdr t i f ht hdi (List.getElem?_eq_some_iff.1 hx).1 hf
  omega
theorem GSt.clear {w wH wr : World} {p M : Nat} {own : Nat -> Nat} {vs : List Value} {mk : Nat -> List En} {wt : Nat -> List Wg} {d : Nat -> Nat} (h : GSt w wH wr p M own vs mk wt d) :
  ∃ vs', GSt w wH ((((wr.setCell ⟨p, 5, none⟩ (.slice none 0 0)).setCell ⟨p, 6, none⟩ (.slice none 0 0)).setCell ⟨p, 7, none⟩ (.slice none 0 0)).setCell ⟨p, 8, none⟩ (.slice none 0 0)) p M own vs' mk (fun _ => []) (fun _ => 0) := by
 obtain ⟨wz, hwz⟩ : ∃ wz, wz = (((wr.setCell ⟨p, 5, none⟩ (.slice none 0 0)).setCell ⟨p, 6, none⟩ (.slice none 0 0)).setCell ⟨p, 7, none⟩ (.slice none 0 0)).setCell ⟨p, 8, none⟩ (.slice none 0 0) := ⟨_, rfl⟩
 have hbk : BookAt wz p M ((((vs.set 4 nilV).set 5 nilV).set 6 nilV).set 7 nilV) := by
  rw [hwz]
  exact (((h.bk.put 4 (by decide) nilV).put 5 (by decide) nilV).put 6 (by decide) nilV).put 7 (by decide) nilV
 have fr : Frm (fun k => k = p) wr wz := by
  rw [hwz]
  exact ((((Frm.refl (fun k => k = p) wr).setCell (p := ⟨p, 5, none⟩) (.inl (show p = p from rfl)) _).setCell (p := ⟨p, 6, none⟩) (.inl (show p = p from rfl)) _).setCell (p := ⟨p, 7, none⟩) (.inl (show p = p from rfl)) _).setCell (p := ⟨p, 8, none⟩) (.inl (show p = p from rfl)) _
 rw [<- hwz]
 have E : Ev (fun q => q = 0) own own wr wz := ⟨fr.mono (fun k _ e => by rw [show k = p from e]; exact h.op), fun _ _ _ => rfl⟩
 have hl := h.bk.len
 have hn : ∀ i, 4 <= i -> i < 8 -> ((((vs.set 4 nilV).set 5 nilV).set 6 nilV).set 7 nilV).getD i nilV = nilV := fun i h4 h8 => by
  rcases (show i = 4 \/ i = 5 \/ i = 6 \/ i = 7 by omega) with rfl | rfl | rfl | rfl
  ·rw [gD_set_ne _ _ (by decide), gD_set_ne _ _ (by decide), gD_set_ne _ _ (by decide), gD_set_same _ _ (by omega)]
  ·rw [gD_set_ne _ _ (by decide), gD_set_ne _ _ (by decide), gD_set_same _ _ (by simp; omega)]
  ·rw [gD_set_ne _ _ (by decide), gD_set_same _ _ (by simp; omega)]
  ·rw [gD_set_same _ _ (by simp; omega)]
 refine ⟨_, h.ev E (by decide) (by decide) hbk h.op (fun i hi => ?_) (fun i hi x hx => .inl hx) (fun t i x ht hx => by simp at hx)⟩
 rcases Nat.lt_or_ge i 4 with h4 | h4
 ·refine .inl ⟨?_, by rw [els_mk _ _ h4, els_mk _ _ h4], by omega⟩
  rw [gD_set_ne _ _ (by omega), gD_set_ne _ _ (by omega), gD_set_ne _ _ (by omega), gD_set_ne _ _ (by omega)]
 ·refine .inr ?_
  have he : els mk (fun _ => []) i = [] := by
   unfold els
   rw [if_neg (by omega)]
   by_cases hm : i % 2 = 0
   ·rw [if_pos hm]; rfl
   ·rw [if_neg hm]; rfl
  rw [hn i h4 hi, he]
  exact ⟨World.ownsRow_nil _ _ _ _, fun k hk => by simp [rowLoc, nilV, Value.ownBlock] at hk⟩
end Go.Proofs.YtekfbphnoibnjaaGreatDoor
namespace Go.Proofs.YtekfbphnoibnjaaGreatDoor
open Go.RowKit
open Flm (Px)
theorem ex_pos : ∀ (l : List Nat), l.Nodup -> ∃ s : Nat -> Nat, ∀ i, i < l.length -> s (l.getD i 0) = i
 | [], _ => ⟨fun _ => 0, fun i hi => by simp at hi⟩
 | a :: l, h => by
  obtain ⟨s, hs⟩ := ex_pos l (List.nodup_cons.1 h).2
  refine ⟨fun k => if k = a then 0 else s k + 1, fun i hi => ?_⟩
  match i, hi with
  | 0, _ => simp
  | i + 1, hi =>
   have hi' : i < l.length := by simpa using hi
   have hm : l.getD i 0 ∈ l := by rw [List.getD_eq_getElem?_getD, List.getElem?_eq_getElem hi']; exact List.getElem_mem _
   rw [List.getD_cons_succ]
   show (if l.getD i 0 = a then 0 else s (l.getD i 0) + 1) = i + 1
   rw [if_neg (fun e => (List.nodup_cons.1 h).1 (by rw [<- e]; exact hm)), hs i hi']
theorem ex_sub {Lv : Value} {z : Nat} {frs : List (List Px)} {fbs : List Nat} (c : FilmC Lv z frs fbs) : ∃ s : Nat -> Nat, (∀ k, Lv.ownBlock = some k -> s k = 0) /\ ∀ i, i < frs.length -> s (fbs.getD i 0) = i + 1 := by
 obtain ⟨s, hs⟩ := ex_pos fbs c.nd
 refine ⟨fun k => if Lv.ownBlock = some k then 0 else s k + 1, fun k e => if_pos e, fun i hi => ?_⟩
 have hi' : i < fbs.length := by rw [c.ln]; exact hi
 have hm : fbs.getD i 0 ∈ fbs := by rw [List.getD_eq_getElem?_getD, List.getElem?_eq_getElem hi']; exact List.getElem_mem _
 show (if Lv.ownBlock = some (fbs.getD i 0) then 0 else s (fbs.getD i 0) + 1) = i + 1
 rw [if_neg (fun e => c.nl _ e hm), hs i hi']
theorem filmLocs_get {B : Nat} {Lv : Value} {z : Nat} {frs : List (List Px)} {fbs : List Nat} {f : Nat} {l : Loc} (h : (filmLocs B Lv z frs fbs)[f]? = some l) :
  (f = 0 /\ l = rowLoc B 58 1 Lv frs.length (rowVals (z * z) fbs)) \/ ∃ i, i < frs.length /\ f = i + 1 /\ l = rowLoc B 50 3 (.slice (some ⟨fbs.getD i 0, 0, none⟩) (z * z) (z * z)) (z * z) (pxCells (frs.getD i [])) := by
 match f, h with
 | 0, h => simp [filmLocs] at h; exact .inl ⟨rfl, h.symm⟩
 | f + 1, h =>
  unfold filmLocs at h
  rw [List.getElem?_cons_succ, List.getElem?_map] at h
  rcases Nat.lt_or_ge f frs.length with hf | hf
  ·rw [List.getElem?_range hf] at h
   simp at h
   exact .inr ⟨f, hf, rfl, by rw [<- h]; simp⟩
  ·rw [List.getElem?_eq_none (by simpa using hf)] at h; simp at h
theorem FilmIn.locs {w : World} {B lo hi : Nat} {Lv : Value} {z : Nat} {frs : List (List Px)} (h : FilmIn w lo hi Lv z frs) (hB : B <= lo) : ∃ fbs, FilmC Lv z frs fbs /\ (∀ (f : Nat) (l : Loc), (filmLocs B Lv z frs fbs)[f]? = some l -> l.P w) /\ (∀ k, Lv.ownBlock = some k -> lo <= k /\ k < hi) /\ ∀ i, i < frs.length -> lo <= fbs.getD i 0 /\ fbs.getD i 0 < hi := by
 obtain ⟨fbs, ⟨h1, h2, h3, h4, h5, h6, h7, h8⟩, h9, h10⟩ := h
 refine ⟨fbs, ⟨h2, h4, h5, h6, h7, h8⟩, fun f l hl => ?_, fun k e => ⟨(World.ownsRow.lt h1 k e).1, h10 k e⟩, fun i hi => ⟨(h3 i hi).lt.1, h9 _ ?_⟩⟩
 ·rcases filmLocs_get hl with ⟨_, rfl⟩ | ⟨i, hi, _, rfl⟩
  ·exact owns_base h1 hB
  ·exact owns_base (h3 i hi) hB
 ·rw [List.getD_eq_getElem?_getD, List.getElem?_eq_getElem (by omega)]; exact List.getElem_mem _
theorem filmLocs_row (B : Nat) (Lv : Value) (z : Nat) (frs : List (List Px)) (fbs : List Nat) : (filmLocs B Lv z frs fbs)[0]? = some (rowLoc B 58 1 Lv frs.length (rowVals (z * z) fbs)) := rfl
theorem filmLocs_frame (B : Nat) (Lv : Value) (z : Nat) (frs : List (List Px)) (fbs : List Nat) (i : Nat) (hi : i < frs.length) : (filmLocs B Lv z frs fbs)[i + 1]? = some (rowLoc B 50 3 (.slice (some ⟨fbs.getD i 0, 0, none⟩) (z * z) (z * z)) (z * z) (pxCells (frs.getD i []))) := by
 unfold filmLocs
 rw [List.getElem?_cons_succ, List.getElem?_map, List.getElem?_range hi]; simp
theorem film_of_locs {w : World} {B : Nat} {Lv : Value} {z : Nat} {frs : List (List Px)} {fbs : List Nat} (c : FilmC Lv z frs fbs) (h : ∀ (f : Nat) (l : Loc), (filmLocs B Lv z frs fbs)[f]? = some l -> l.P w) : FilmAt w B Lv z frs :=
 ⟨fbs, h 0 _ (filmLocs_row ..), c.ln, fun i hi => h (i + 1) _ (filmLocs_frame _ _ _ _ _ i hi), c.nd, c.nl, c.zz, c.l8, c.ok⟩
theorem GSt.keepTwo {w wH wr wr' : World} {p M : Nat} {own : Nat -> Nat} {vs : List Value} {mk : Nat -> List En} {wt : Nat -> List Wg} {z : Nat} {frs : List (List Px)} (h : GSt w wH wr p M own vs mk wt (fun _ => 0))
  (hk : KeptTwo wr wr' w.heap.size p M vs (vs.getD 6 nilV) (vs.getD 7 nilV) (wt 1).length (wt 1).length ((wt 1).map Wg.cw).flatten ((wt 1).map Wg.ce).flatten z frs) :
  ∃ own' vs' x1 x2, GSt w wH wr' p M own' vs' mk (upd wt 1 (wt 1 ++ [x1, x2])) (fun _ => 0) := by
 obtain ⟨La, Lc, Lb, l1, h1, l2, h2, l3, h3, T, gw, cw, ge, ce, ⟨z1, z2, z3, z4, z5, z6, z7, z8, z9, z10, z11⟩, fa, fc, fb, bk, ow, oe, hgw, hge, nwe, nwp, nep, fr⟩ := hk
 have hB := h.bel.size
 obtain ⟨ba, ca, pa, ra, sa⟩ := fa.locs (B := w.heap.size) (by omega)
 obtain ⟨bc, cc, pc, rc, sc⟩ := fc.locs (B := w.heap.size) (by omega)
 obtain ⟨bb, cb, pb, rb, sb⟩ := fb.locs (B := w.heap.size) (by omega)
 obtain ⟨ua, ua0, ua1⟩ := ex_sub ca
 obtain ⟨uc, uc0, uc1⟩ := ex_sub cc
 have hr6 := h.rol 6 (by decide)
 have hr7 := h.rol 7 (by decide)
 have lt6 : ∀ k, (vs.getD 6 nilV).ownBlock = some k -> k < wr.heap.size := fun k e => (World.ownsRow.lt (h.row 6 (by decide)) k e).2
 have lt7 : ∀ k, (vs.getD 7 nilV).ownBlock = some k -> k < wr.heap.size := fun k e => (World.ownsRow.lt (h.row 7 (by decide)) k e).2
 have gw' : gw < wr.heap.size \/ T <= gw := hgw.imp (lt6 gw) id
 have ge' : ge < wr.heap.size \/ T <= ge := hge.imp (lt7 ge) id
 obtain ⟨own', hown⟩ : ∃ own' : Nat -> Nat, own' = fun k => if k = gw then 8 else if k = ge then 9 else if l1 <= k /\ k < h1 then rho 1 (wt 1).length (ua k) else if l2 <= k /\ k < h2 then rho 1 ((wt 1).length + 1) (uc k) else if l3 <= k /\ k < h3 then 10 else own k := ⟨_, rfl⟩
 have oa : ∀ k, l1 <= k -> k < h1 -> own' k = rho 1 (wt 1).length (ua k) := fun k e1 e2 => by
  rw [hown]
  show (if k = gw then 8 else if k = ge then 9 else if l1 <= k /\ k < h1 then rho 1 (wt 1).length (ua k) else _) = _
  rw [if_neg (by omega), if_neg (by omega), if_pos ⟨e1, e2⟩]
 have oc : ∀ k, l2 <= k -> k < h2 -> own' k = rho 1 ((wt 1).length + 1) (uc k) := fun k e1 e2 => by
  rw [hown]
  show (if k = gw then 8 else if k = ge then 9 else if l1 <= k /\ k < h1 then rho 1 (wt 1).length (ua k) else if l2 <= k /\ k < h2 then rho 1 ((wt 1).length + 1) (uc k) else _) = _
  rw [if_neg (by omega), if_neg (by omega), if_neg (by omega), if_pos ⟨e1, e2⟩]
 have ob : ∀ k, l3 <= k -> k < h3 -> own' k = 10 := fun k e1 e2 => by
  rw [hown]
  show (if k = gw then 8 else if k = ge then 9 else if l1 <= k /\ k < h1 then rho 1 (wt 1).length (ua k) else if l2 <= k /\ k < h2 then rho 1 ((wt 1).length + 1) (uc k) else if l3 <= k /\ k < h3 then 10 else own k) = _
  rw [if_neg (by omega), if_neg (by omega), if_neg (by omega), if_neg (by omega), if_pos ⟨e1, e2⟩]
 have E : Ev (fun q => q = 0 \/ q = 8 \/ q = 9) own own' wr wr' := by
  refine ⟨fr.mono (fun k _ hk => ?_), fun k hk hw => ?_⟩
  ·rcases hk with hk | hk | hk
   ·exact .inl (by rw [hk]; exact h.op)
   ·exact .inr (.inl (hr6 k hk))
   ·exact .inr (.inr (hr7 k hk))
  ·simp only [not_or] at hw
   rw [hown]
   show (if k = gw then 8 else if k = ge then 9 else if l1 <= k /\ k < h1 then rho 1 (wt 1).length (ua k) else if l2 <= k /\ k < h2 then rho 1 ((wt 1).length + 1) (uc k) else if l3 <= k /\ k < h3 then 10 else own k) = _
   rw [if_neg (fun e => ?_), if_neg (fun e => ?_), if_neg (by omega), if_neg (by omega), if_neg (by omega)]
   ·rcases hge with g | g
    ·exact hw.2.2 (by rw [e]; exact hr7 ge g)
    ·omega
   ·rcases hgw with g | g
    ·exact hw.2.1 (by rw [e]; exact hr6 gw g)
    ·omega
 have hlen := h.bk.len
 have Hb : ∀ l ∈ filmLocs w.heap.size Lb z frs bb, Has wr' own' 10 l := fun l hl => by
  obtain ⟨f, hf⟩ := List.mem_iff_getElem?.1 hl
  refine ⟨pb f l hf, fun k hk => ?_⟩
  rcases filmLocs_get hf with ⟨rfl, rfl⟩ | ⟨i, hi, rfl, rfl⟩
  ·exact ob k (rb k hk).1 (rb k hk).2
  ·simp [rowLoc, Value.ownBlock] at hk
   subst hk
   simpa using ob _ (sb i hi).1 (sb i hi).2
 refine ⟨own', (vs.set 6 (.slice (some ⟨gw, 0, none⟩) ((wt 1).length + 2) cw)).set 7 (.slice (some ⟨ge, 0, none⟩) ((wt 1).length + 2) ce), ⟨[.int .i64 z, La], [.int .i64 z, Lb], filmLocs w.heap.size La z frs ba, filmLocs w.heap.size Lb z frs bb⟩, ⟨[.int .i64 z, Lc], [.int .i64 z, Lb], filmLocs w.heap.size Lc z frs bc, filmLocs w.heap.size Lb z frs bb⟩, ?_⟩
 refine h.ev E (by decide) (by decide) bk ?_ (fun i hi => ?_) (fun i hi x hx => .inl hx) (fun t i x ht hx => ?_)
 ·have hpu := h.bk.up
  rw [hown]
  show (if p = gw then 8 else if p = ge then 9 else if l1 <= p /\ p < h1 then rho 1 (wt 1).length (ua p) else if l2 <= p /\ p < h2 then rho 1 ((wt 1).length + 1) (uc p) else if l3 <= p /\ p < h3 then 10 else own p) = _
  rw [if_neg (fun e => nwp e.symm), if_neg (fun e => nep e.symm), if_neg (by omega), if_neg (by omega), if_neg (by omega)]
  exact h.op
 ·rcases (show i < 4 \/ i = 4 \/ i = 5 \/ i = 6 \/ i = 7 by omega) with hi | rfl | rfl | rfl | rfl
  ·exact .inl ⟨by rw [gD_set_ne _ _ (by omega), gD_set_ne _ _ (by omega)], by rw [els_mk _ _ hi, els_mk _ _ hi], by omega⟩
  ·exact .inl ⟨by rw [gD_set_ne _ _ (by omega), gD_set_ne _ _ (by omega)], rfl, by omega⟩
  ·exact .inl ⟨by rw [gD_set_ne _ _ (by omega), gD_set_ne _ _ (by omega)], rfl, by omega⟩
  ·refine .inr ?_
   rw [gD_set_ne _ _ (by omega), gD_set_same _ _ (by omega)]
   refine ⟨?_, fun k hk => ?_⟩
   ·show wr'.ownsRow w.heap.size 27 2 _ ((upd wt 1 _ 1).map Wg.cw).length ((upd wt 1 _ 1).map Wg.cw).flatten
    rw [upd_same, List.map_append, List.flatten_append, List.length_append, List.length_map]
    simpa using ow
   ·simp [rowLoc, Value.ownBlock] at hk
    subst hk
    rw [hown]
    show (if gw = gw then 8 else _) = 2 + 6
    rw [if_pos rfl]
  ·refine .inr ?_
   rw [gD_set_same _ _ (by simp; omega)]
   refine ⟨?_, fun k hk => ?_⟩
   ·show wr'.ownsRow w.heap.size 27 2 _ ((upd wt 1 _ 1).map Wg.ce).length ((upd wt 1 _ 1).map Wg.ce).flatten
    rw [upd_same, List.map_append, List.flatten_append, List.length_append, List.length_map]
    simpa using oe
   ·simp [rowLoc, Value.ownBlock] at hk
    subst hk
    rw [hown]
    show (if ge = gw then 8 else if ge = ge then 9 else _) = 2 + 7
    rw [if_neg (fun e => nwe e.symm), if_pos rfl]
 ·rcases (show t = 0 \/ t = 1 by omega) with rfl | rfl
  ·exact .inl ⟨hx, fun _ => ⟨Nat.zero_le _, fun f _ => by have := rho_ge 0 i f; omega⟩⟩
  ·rw [upd_same] at hx
   rcases Nat.lt_or_ge i (wt 1).length with hi | hi
   ·rw [List.getElem?_append_left hi] at hx
    exact .inl ⟨hx, fun _ => ⟨Nat.zero_le _, fun f _ => by have := rho_ge 1 i f; omega⟩⟩
   ·rw [List.getElem?_append_right hi] at hx
    refine .inr ?_
    rcases (show i - (wt 1).length = 0 \/ i - (wt 1).length = 1 \/ 2 <= i - (wt 1).length by omega) with e | e | e
    ·rw [e] at hx
     simp at hx
     obtain rfl : i = (wt 1).length := by omega
     subst hx
     refine ⟨fun f l hl => ⟨pa f l hl, fun k hk => ?_⟩, Hb, z, frs, La, Lb, ba, bb, rfl, ca, cb⟩
     rcases filmLocs_get hl with ⟨rfl, rfl⟩ | ⟨i, hi, rfl, rfl⟩
     ·rw [oa k (ra k hk).1 (ra k hk).2, ua0 k hk]
     ·simp [rowLoc, Value.ownBlock] at hk
      have hk' : ba.getD i 0 = k := by simpa using hk
      rw [<- hk', oa _ (sa i hi).1 (sa i hi).2, ua1 i hi]
    ·rw [e] at hx
     simp at hx
     obtain rfl : i = (wt 1).length + 1 := by omega
     subst hx
     refine ⟨fun f l hl => ⟨pc f l hl, fun k hk => ?_⟩, Hb, z, frs, Lc, Lb, bc, bb, rfl, cc, cb⟩
     rcases filmLocs_get hl with ⟨rfl, rfl⟩ | ⟨i, hi, rfl, rfl⟩
     ·rw [oc k (rc k hk).1 (rc k hk).2, uc0 k hk]
     ·simp [rowLoc, Value.ownBlock] at hk
      have hk' : bc.getD i 0 = k := by simpa using hk
      rw [<- hk', oc _ (sc i hi).1 (sc i hi).2, uc1 i hi]
    ·rw [List.getElem?_eq_none (by simp; omega)] at hx; cases hx
end Go.Proofs.YtekfbphnoibnjaaGreatDoor
namespace Go.Proofs.YtekfbphnoibnjaaGreatDoor
open Go.RowKit
open Flm (Px)
theorem owns_sh {w : World} {B : Nat} {e : TypeId} {size : Nat} {v : Value} {n : Nat} {xs : List Value} (h : w.ownsRow B e size v n xs) : ∃ a c, v = .slice a n c /\ (n = 0 \/ ∃ g, a = some ⟨g, 0, none⟩) := by
 rcases h.2 with ⟨rfl, h0⟩ | ⟨g, cap, cur, rfl, _⟩
 ·exact ⟨none, 0, by rw [h0], .inl h0⟩
 ·exact ⟨_, cap, rfl, .inr ⟨g, rfl⟩⟩
theorem rho_inj {t i f t' i' f' : Nat} (h : rho t i f = rho t' i' f') (ht : t < 2) (ht' : t' < 2) (hf : f < 16) (hf' : f' < 16) : t = t' /\ i = i' /\ f = f' := by unfold rho at h; omega
theorem GSt.markPixels {w wH wr : World} {p M : Nat} {own : Nat -> Nat} {vs : List Value} {mk : Nat -> List En} {wt : Nat -> List Wg} {d d' : Nat -> Nat} {r n lc : Nat} {la : Option Addr} {xs : List Value} (h : GSt w wH wr p M own vs mk wt d) (hl : Has wr own r (rowLoc w.heap.size 50 3 (.slice la n lc) n xs)) (r11 : 11 <= r)
  (hd : ∀ t, t < 2 -> d t <= d' t) (hdr : ∀ t i f, t < 2 -> d' t <= i -> i < (wt t).length -> f < 16 -> r ≠ rho t i f) (hM : M <= 900000000) (hn : n <= 900000000) (hk : (mk 2).length <= M) :
  Calls Tryz.prog 33 #[.pointer (some ⟨p, 0, none⟩), .slice la n lc] wr fun e w' => e = .returned (.tuple #[]) /\ ∃ own' vi' x, GSt w wH w' p (M + 1) own' (vs.set 2 vi') (upd mk 2 (mk 2 ++ [x])) wt d' /\ Ev (fun q => q = 0 \/ q = r \/ q = 2 + 2) own own' wr w' := by
 have hrow := h.row 2 (by decide)
 have hrol := h.rol 2 (by decide)
 rw [els_mk _ _ (by decide), List.length_map] at hrow
 obtain ⟨ia, ic, hv, _⟩ := owns_sh hrow
 have hv0 := h.at 2 (by decide)
 have hop := h.op
 rw [hv] at hrow hv0 hrol
 refine (markPixels_any wr w.heap.size p M vs ia (mk 2).length ic _ la n lc xs h.bk hv0 hrow hl.1 h.bel.size (hrol.ne1 (by omega)) (hl.2.ne1 (by omega)) (hl.2.ne hrol (by omega)) (by omega) (by omega) (by omega)).mono ?_
 rintro e w' ⟨rfl, pa, pb, pc, hm⟩
 rw [<- hv] at hm
 exact ⟨rfl, h.mark (j := 2) (by decide) hm hl.2 (fun k hk => (World.ownsRow.lt hl.1 k hk).2) r11 (fun g1 g2 g3 => ⟨pa, pb, pc, n, _, g1, g2, g3, rfl, hn⟩) hd hdr⟩
theorem GSt.markRows {w wH wr : World} {p M : Nat} {own : Nat -> Nat} {vs : List Value} {mk : Nat -> List En} {wt : Nat -> List Wg} {d d' : Nat -> Nat} {r n lc : Nat} {la : Option Addr} {xs : List Value} (h : GSt w wH wr p M own vs mk wt d) (hl : Has wr own r (rowLoc w.heap.size 58 1 (.slice la n lc) n xs)) (r11 : 11 <= r)
  (hd : ∀ t, t < 2 -> d t <= d' t) (hdr : ∀ t i f, t < 2 -> d' t <= i -> i < (wt t).length -> f < 16 -> r ≠ rho t i f) (hM : M <= 900000000) (hn : n <= 900000000) (hk : (mk 3).length <= M) :
  Calls Tryz.prog 34 #[.pointer (some ⟨p, 0, none⟩), .slice la n lc] wr fun e w' => e = .returned (.tuple #[]) /\ ∃ own' vi' x, GSt w wH w' p (M + 1) own' (vs.set 3 vi') (upd mk 3 (mk 3 ++ [x])) wt d' /\ Ev (fun q => q = 0 \/ q = r \/ q = 2 + 3) own own' wr w' := by
 have hrow := h.row 3 (by decide)
 have hrol := h.rol 3 (by decide)
 rw [els_mk _ _ (by decide), List.length_map] at hrow
 obtain ⟨ia, ic, hv, _⟩ := owns_sh hrow
 have hv0 := h.at 3 (by decide)
 have hop := h.op
 rw [hv] at hrow hv0 hrol
 refine (markRows_any wr w.heap.size p M vs ia (mk 3).length ic _ la n lc xs h.bk hv0 hrow hl.1 h.bel.size (hrol.ne1 (by omega)) (hl.2.ne1 (by omega)) (hl.2.ne hrol (by omega)) (by omega) (by omega) (by omega)).mono ?_
 rintro e w' ⟨rfl, mb, hm⟩
 rw [<- hv] at hm
 exact ⟨rfl, h.mark (j := 3) (by decide) hm hl.2 (fun k hk => (World.ownsRow.lt hl.1 k hk).2) r11 (fun g1 g2 g3 => ⟨M + 1, mb, M + 1, n, _, g1, g2, g3, rfl, hn⟩) hd hdr⟩
def boxLoc (H : Nat) (a b : Value) : Loc := ⟨.slice (some ⟨H, 0, none⟩) 0 0, fun w => w.cell? ⟨H, 0, none⟩ = some a /\ w.cell? ⟨H, 1, none⟩ = some b, fun f h p => ⟨f.cell p.1 (h H rfl), f.cell p.2 (h H rfl)⟩, fun p k e => by simp [Value.ownBlock] at e; subst e; exact World.block_lt_of_cell? _ _ p.1⟩
theorem GSt.box {w wH wr : World} {p M : Nat} {own : Nat -> Nat} {vs : List Value} {mk : Nat -> List En} {wt : Nat -> List Wg} {d : Nat -> Nat} (h : GSt w wH wr p M own vs mk wt d) (a b : Value) (t : TypeId) :
  GSt w wH (wr.alloc (.cells #[a, b] t)) p M (upd own wr.heap.size 50) vs mk wt d /\ Ev (fun _ => False) own (upd own wr.heap.size 50) wr (wr.alloc (.cells #[a, b] t)) /\ Has (wr.alloc (.cells #[a, b] t)) (upd own wr.heap.size 50) 50 (boxLoc wr.heap.size a b) := by
 have hb : Below wr.heap.size wr (wr.alloc (.cells #[a, b] t)) := (Below.refl _ wr).alloc (Nat.le_refl _) _
 have E : Ev (fun _ => False) own (upd own wr.heap.size 50) wr (wr.alloc (.cells #[a, b] t)) := ⟨Frm.of_below hb, fun k hk _ => upd_ne own 50 (by omega)⟩
 have hg := heap_alloc_last wr (.cells #[a, b] t)
 refine ⟨h.ev E (fun e => e) (fun e => e) (h.bk.frm (Frm.of_below (S := fun _ => False) hb) (fun e => e)) ((upd_ne own 50 (by have := h.bk.up; omega)).trans h.op) (fun _ _ => .inl ⟨rfl, rfl, fun e => e⟩) (fun _ _ _ hx => .inl hx) (fun _ _ _ _ hx => .inl ⟨hx, fun hd => ⟨hd, fun _ _ e => e⟩⟩), E, ⟨cell_of_row _ _ 0 _ _ _ hg, cell_of_row _ _ 1 _ _ _ hg⟩, fun k hk => ?_⟩
 simp [boxLoc, Value.ownBlock] at hk
 subst hk
 exact upd_same own _ 50
def dAt (j : Nat) : Nat -> Nat := fun t => if t = 1 then j else 0
structure InF (w wH wr : World) (p M : Nat) (own : Nat -> Nat) (vs : List Value) (mk : Nat -> List En) (wt : Nat -> List Wg) (j H : Nat) (Lv : Value) (z : Nat) (frs : List (List Px)) (fbs : List Nat) (k : Nat) : Prop where
 st : GSt w wH wr p M own vs mk wt (dAt (j + 1))
 fl : ∀ (f : Nat) (l : Loc), (filmLocs w.heap.size Lv z frs fbs)[f]? = some l -> f = 0 \/ k < f -> Has wr own (rho 1 j f) l
 bx : Has wr own 50 (boxLoc H (.int .i64 z) Lv)
 cm : FilmC Lv z frs fbs
 m3 : ∀ i, i < 4 -> (mk i).length <= M
theorem GSt.film {w wH wr : World} {p M : Nat} {own : Nat -> Nat} {vs : List Value} {mk : Nat -> List En} {wt : Nat -> List Wg} {j : Nat} {x : Wg} (h : GSt w wH wr p M own vs mk wt (dAt j)) (hx : (wt 1)[j]? = some x) : ∃ (z : Nat) (frs : List (List Px)) (Lv Lv' : Value) (fbs : List Nat), x.cw = [.int .i64 z, Lv] /\ x.ce = [.int .i64 z, Lv'] /\ FilmC Lv z frs fbs /\ FilmAt wr w.heap.size Lv z frs /\ FilmAt wr w.heap.size Lv' z frs /\ (∀ (f : Nat) (l : Loc), (filmLocs w.heap.size Lv z frs fbs)[f]? = some l -> Has wr own (rho 1 j f) l) := by
 have hw := h.ww 1 j x (by decide) hx (by simp [dAt])
 have he := h.we 1 j x (by decide) hx (by simp [dAt])
 obtain ⟨z, frs, Lv, Lv', fbs, fbs', rfl, c, c'⟩ := h.sw 1 j x (by decide) hx
 exact ⟨z, frs, Lv, Lv', fbs, rfl, rfl, c, film_of_locs c (fun f l hl => (hw f l hl).1), film_of_locs c' (fun f l hl => (he l (List.mem_of_getElem? hl)).1), hw⟩
theorem GSt.less {w wH wr : World} {p M : Nat} {own : Nat -> Nat} {vs : List Value} {mk : Nat -> List En} {wt : Nat -> List Wg} {d d' : Nat -> Nat} (h : GSt w wH wr p M own vs mk wt d) (hd : ∀ t, t < 2 -> d t <= d' t) : GSt w wH wr p M own vs mk wt d' :=
 ⟨h.bk, h.ro, h.en, h.sh, fun t i x ht hx hi => h.ww t i x ht hx (Nat.le_trans (hd t ht) hi), fun t i x ht hx hi => h.we t i x ht hx (Nat.le_trans (hd t ht) hi), h.sw, h.op, h.o1, h.sz, h.kept, h.bel, h.hp, h.hw⟩
theorem dAt_le (j t : Nat) (_ : t < 2) : dAt j t <= dAt (j + 1) t := by unfold dAt; split <;> omega
theorem InF.start {w wH wr : World} {p M : Nat} {own : Nat -> Nat} {vs : List Value} {mk : Nat -> List En} {wt : Nat -> List Wg} {j : Nat} {Lv : Value} {z : Nat} {frs : List (List Px)} {fbs : List Nat} (h : GSt w wH wr p M own vs mk wt (dAt j)) (c : FilmC Lv z frs fbs) (hl : ∀ (f : Nat) (l : Loc), (filmLocs w.heap.size Lv z frs fbs)[f]? = some l -> Has wr own (rho 1 j f) l) (m3 : ∀ i, i < 4 -> (mk i).length <= M) :
  InF w wH (wr.alloc (.cells #[.int .i64 z, Lv] 27)) p M (upd own wr.heap.size 50) vs mk wt j wr.heap.size Lv z frs fbs 0 := by
 obtain ⟨g1, g2, g3⟩ := h.box (.int .i64 z) Lv 27
 exact ⟨g1.less (dAt_le j), fun f l h1 _ => g2.has (hl f l h1) (fun e => e), g3, c, m3⟩
theorem len_upd {mk : Nat -> List En} {M : Nat} (m3 : ∀ i, i < 4 -> (mk i).length <= M) (j : Nat) (hj : j < 4) (x : En) : ∀ i, i < 4 -> (upd mk j (mk j ++ [x]) i).length <= M + 1 := fun i hi => by
 by_cases e : i = j
 ·subst e; rw [upd_same, List.length_append]; have := m3 i hi; simpa using this
 ·rw [upd_ne mk _ e]; exact Nat.le_succ_of_le (m3 i hi)
theorem InF.pix {w wH wr : World} {p M : Nat} {own : Nat -> Nat} {vs : List Value} {mk : Nat -> List En} {wt : Nat -> List Wg} {j H : Nat} {Lv : Value} {z : Nat} {frs : List (List Px)} {fbs : List Nat} {k : Nat} (h : InF w wH wr p M own vs mk wt j H Lv z frs fbs k) (hk : k < frs.length) (hM : M <= 900000000) :
  Calls Tryz.prog 33 #[.pointer (some ⟨p, 0, none⟩), .slice (some ⟨fbs.getD k 0, 0, none⟩) (z * z) (z * z)] wr fun e w' => e = .returned (.tuple #[]) /\ ∃ own' vi' x, InF w wH w' p (M + 1) own' (vs.set 2 vi') (upd mk 2 (mk 2 ++ [x])) wt j H Lv z frs fbs (k + 1) := by
 have l8 := h.cm.l8
 have hz : z * z <= 256 := by rcases h.cm.zz with e | e | e <;> subst e <;> decide
 refine (h.st.markPixels (d' := dAt (j + 1)) (h.fl (k + 1) _ (filmLocs_frame _ _ _ _ _ k hk) (.inr (by omega))) (by have := rho_ge 1 j (k + 1); omega) (fun _ _ => Nat.le_refl _) (fun t i f ht hi _ hf e => ?_) hM (by omega) (h.m3 2 (by decide))).mono ?_
 ·obtain ⟨e1, e2, _⟩ := rho_inj e (by decide) ht (by omega) hf
  subst e1
  subst e2
  simp [dAt] at hi
  omega
 ·rintro e w' ⟨rfl, own', vi', x, g1, g2⟩
  refine ⟨rfl, own', vi', x, g1, fun f l hl hf => g2.has (h.fl f l hl (hf.imp id (by omega))) (fun e => ?_), g2.has h.bx (fun e => ?_), h.cm, len_upd h.m3 2 (by decide) x⟩
  ·have := rho_ge 1 j f
   have hf16 : f < 16 := by
    rcases filmLocs_get hl with ⟨e, _⟩ | ⟨i, hi, e, _⟩ <;> omega
   rcases e with e | e | e
   ·omega
   ·have := (rho_inj e (by decide) (by decide) hf16 (by omega)).2.2
    omega
   ·omega
  ·have := rho_ge 1 j (k + 1)
   omega
theorem InF.rows {w wH wr : World} {p M : Nat} {own : Nat -> Nat} {vs : List Value} {mk : Nat -> List En} {wt : Nat -> List Wg} {j H : Nat} {Lv : Value} {z : Nat} {frs : List (List Px)} {fbs : List Nat} {k : Nat} (h : InF w wH wr p M own vs mk wt j H Lv z frs fbs k) (hM : M <= 900000000) :
  Calls Tryz.prog 34 #[.pointer (some ⟨p, 0, none⟩), Lv] wr fun e w' => e = .returned (.tuple #[]) /\ ∃ own' vi' x, GSt w wH w' p (M + 1) own' (vs.set 3 vi') (upd mk 3 (mk 3 ++ [x])) wt (dAt (j + 1)) /\ ∀ i, i < 4 -> (upd mk 3 (mk 3 ++ [x]) i).length <= M + 1 := by
 have l8 := h.cm.l8
 have hl := h.fl 0 _ (filmLocs_row ..) (.inl rfl)
 obtain ⟨a, c, rfl, _⟩ := owns_sh hl.1
 refine (h.st.markRows (d' := dAt (j + 1)) hl (by have := rho_ge 1 j 0; omega) (fun _ _ => Nat.le_refl _) (fun t i f ht hi _ hf e => ?_) hM (by omega) (h.m3 3 (by decide))).mono ?_
 ·obtain ⟨e1, e2, _⟩ := rho_inj e (by decide) ht (by omega) hf
  subst e1
  subst e2
  simp [dAt] at hi
  omega
 ·rintro e w' ⟨rfl, own', vi', x, g1, g2⟩
  exact ⟨rfl, own', vi', x, g1, len_upd h.m3 3 (by decide) x⟩
theorem InF.reads {w wH wr : World} {p M : Nat} {own : Nat -> Nat} {vs : List Value} {mk : Nat -> List En} {wt : Nat -> List Wg} {j H : Nat} {Lv : Value} {z : Nat} {frs : List (List Px)} {fbs : List Nat} {k : Nat} (h : InF w wH wr p M own vs mk wt j H Lv z frs fbs k) : wr.cell? ⟨H, 1, none⟩ = some Lv /\ ∃ a c, Lv = .slice a frs.length c /\ ∀ i, i < frs.length -> ∃ g, a = some ⟨g, 0, none⟩ /\ wr.cell? ⟨g, i, none⟩ = some (.slice (some ⟨fbs.getD i 0, 0, none⟩) (z * z) (z * z)) := by
 have hl := (h.fl 0 _ (filmLocs_row ..) (.inl rfl)).1
 obtain ⟨a, c, e, hor⟩ := owns_sh hl
 refine ⟨h.bx.1.2, a, c, e, fun i hi => ?_⟩
 rcases hor with h0 | ⟨g, rfl⟩
 ·omega
 ·refine ⟨g, rfl, ?_⟩
  have hl' : wr.ownsRow w.heap.size 58 1 Lv frs.length (rowVals (z * z) fbs) := hl
  rw [e] at hl'
  have hln := h.cm.ln
  have := World.ownsRow.cellAt hl' i (by omega)
  rw [this]
  unfold rowVals
  simp [List.getD_eq_getElem?_getD, show i < fbs.length by omega]
end Go.Proofs.YtekfbphnoibnjaaGreatDoor
