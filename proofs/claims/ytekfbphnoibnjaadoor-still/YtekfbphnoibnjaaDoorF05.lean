/-
  Areas and frames that were put down are read back: bits that tell a film are read as that film; plain arithmetic. Which of two courses takes less room; plain arithmetic.
-/
import Derived.Test.YtekfbphnoibnjaaDoorF04
import Derived.Test.YtekfbphnoibnjaaDoorF02
namespace Go.Proofs.YtekfbphnoibnjaaDoor
namespace Pk
open Flm (Px FS px now near turn back okPx spots put)
abbrev Good (z : Nat) (F : List (List Px)) (f n : Nat) (fs : FS) : Prop := Mid z F f n (fun _ => False) fs
theorem seen_frs {z : Nat} : ∀ (ps : List (Nat × Nat)) (fs : FS), (Flm.seen z ps fs).frs = fs.frs
 | [], _ => rfl
 | (i, j) :: ps, fs => seen_frs ps { fs with rd := fs.rd.set (j * z + i) true }
theorem seen_len {z : Nat} : ∀ (ps : List (Nat × Nat)) (fs : FS), (Flm.seen z ps fs).rd.length = fs.rd.length
 | [], _ => rfl
 | (i, j) :: ps, fs => by
  have h := seen_len (z := z) ps { fs with rd := fs.rd.set (j * z + i) true }
  rw [List.length_set] at h
  exact h
theorem setT {l : List Bool} {i k : Nat} (h : l.getD k false = true) : (l.set i true).getD k false = true := by
 rw [List.getD_eq_getElem?_getD] at h ⊢
 rw [List.getElem?_set]
 by_cases e : i = k
 ·subst e
  rcases Nat.lt_or_ge i l.length with hl | hl
  ·rw [if_pos rfl, if_pos hl]; rfl
  ·rw [List.getElem?_eq_none hl] at h; cases h
 ·rw [if_neg e]; exact h
theorem seen_old {z k : Nat} : ∀ (ps : List (Nat × Nat)) (fs : FS), fs.rd.getD k false = true -> (Flm.seen z ps fs).rd.getD k false = true
 | [], _, h => h
 | (i, j) :: ps, fs, h => seen_old (z := z) ps { fs with rd := fs.rd.set (j * z + i) true } (setT h)
theorem seen_new {z : Nat} {q : Nat × Nat} : ∀ (ps : List (Nat × Nat)) (fs : FS), q ∈ ps -> q.2 * z + q.1 < fs.rd.length -> (Flm.seen z ps fs).rd.getD (q.2 * z + q.1) false = true
 | [], _, h, _ => absurd h (List.not_mem_nil)
 | (i, j) :: ps, fs, h, hl => by
  rcases List.mem_cons.1 h with rfl | h
  ·refine seen_old (z := z) ps { fs with rd := fs.rd.set (j * z + i) true } ?_
   show (fs.rd.set (j * z + i) true).getD (j * z + i) false = true
   rw [List.getD_eq_getElem?_getD, List.getElem?_set_self hl]; rfl
  ·exact seen_new ps { fs with rd := fs.rd.set (j * z + i) true } h (by rw [List.length_set]; exact hl)
theorem Mid.seen {z : Nat} {F : List (List Px)} {f x y n : Nat} {fs : FS} (al : Al z x y n) (h : Mid z F f (rank x y) (· ∈ spots x y n) fs) : Good z F f (rank x y + n * n) (Flm.seen z (spots x y n) fs) := by
 obtain ⟨a, b, c, d, e, g⟩ := h
 have hf := seen_frs (z := z) (spots x y n) fs
 refine ⟨by rw [hf]; exact a, by rw [hf]; exact b, by rw [hf]; exact c, by rw [seen_len]; exact d, fun i j hi hj hr => ?_, fun i j hi hj hr => ?_⟩
 ·rcases al.inside hi hj hr with h1 | h1
  ·exact seen_old _ _ (e i j hi hj h1)
  ·exact seen_new (q := (i, j)) _ _ (spots_mem.2 h1) (by rw [d]; exact idx_lt hi hj)
 ·rcases hr with hr | hr
  ·unfold px
   rw [hf]
   rcases al.inside hi hj hr with h1 | h1
   ·exact g i j hi hj (.inl h1)
   ·exact g i j hi hj (.inr (spots_mem.2 h1))
  ·exact absurd hr id
def Tells (z : Nat) (F : List (List Px)) (f x y n : Nat) (l : Bts) : Prop := Pack.BitsOk l /\ ∀ (S : ByteArray) (rest : Bts) (fs : FS), Rd S (l ++ rest) fs.r -> Good z F f (rank x y) fs ->
  Rd S rest (Flm.area S z (Flm.cuts n) x y n fs).r /\ Good z F f (rank x y + n * n) (Flm.area S z (Flm.cuts n) x y n fs)
def TellsB (z : Nat) (F : List (List Px)) (f x y n : Nat) (l : Bts) : Prop := Pack.BitsOk l /\ ∀ (S : ByteArray) (rest : Bts) (fs : FS), Rd S (l ++ rest) fs.r -> Good z F f (rank x y) fs ->
  Rd S rest (Flm.block S z x y n fs).r /\ Good z F f (rank x y + n * n) (Flm.block S z x y n fs)
def hd (n : Nat) (v : Int) : Bts := if n = 4 then [] else [(if n = 16 then 0 else 1, v)]
def kind (a b : Nat) : Bts := [(2, (a : Int)), (3 + a, (b : Int))]
theorem hd_ok {n : Nat} {v : Int} (hv : v = 0 \/ v = 1) : Pack.BitsOk (hd n v) := by
 unfold hd
 split
 ·exact ok_nil
 ·refine ok_cons ?_ hv ok_nil
  split <;> omega
theorem kind_ok {a b : Nat} (ha : a <= 1) (hb : b <= 1) : Pack.BitsOk (kind a b) := ok_cons (by omega) (by omega) (ok_cons (by omega) (by omega) ok_nil)
theorem tells_block {z : Nat} {F : List (List Px)} {f x y n : Nat} {l : Bts} (al : Al z x y n) (h : TellsB z F f x y n l) : Tells z F f x y n (hd n 0 ++ l) := by
 refine ⟨ok_app (hd_ok (.inl rfl)) h.1, fun S rest fs hr hg => ?_⟩
 have he := hr.err
 rcases al.an with rfl | rfl | rfl
 ·have hr' : Rd S (l ++ rest) fs.r := hr
  show Rd S rest (if fs.r.err = 0 then Flm.block S z x y 4 { fs with fr := now fs, x := x, y := y } else fs).r /\ Good z F f (rank x y + 4 * 4) (if fs.r.err = 0 then Flm.block S z x y 4 { fs with fr := now fs, x := x, y := y } else fs)
  rw [if_pos he]
  exact h.2 S rest { fs with fr := now fs, x := x, y := y } hr' (hg.same rfl rfl fun _ h => h)
 ·have hr' : Rd S ((1, 0) :: (l ++ rest)) fs.r := hr
  obtain ⟨b1, b2⟩ := hr'.bit
  have ea : Flm.area S z (Flm.cuts 8) x y 8 fs = Flm.block S z x y 8 { fs with fr := now fs, x := x, y := y, r := Rdr.bitS S fs.r 1 } := by
   show (if fs.r.err = 0 then (if Rdr.bitV fs.r 1 = 1 then _ else if (Rdr.bitS S fs.r 1).err = 0 then Flm.block S z x y 8 { fs with fr := now fs, x := x, y := y, r := Rdr.bitS S fs.r 1 } else _) else fs) = _
   rw [if_pos he, if_neg (by rw [b1]; decide), if_pos b2.err]
  rw [ea]
  exact h.2 S rest { fs with fr := now fs, x := x, y := y, r := Rdr.bitS S fs.r 1 } b2 (hg.same rfl rfl fun _ h => h)
 ·have hr' : Rd S ((0, 0) :: (l ++ rest)) fs.r := hr
  obtain ⟨b1, b2⟩ := hr'.bit
  have ea : Flm.area S z (Flm.cuts 16) x y 16 fs = Flm.block S z x y 16 { fs with fr := now fs, x := x, y := y, r := Rdr.bitS S fs.r 0 } := by
   show (if fs.r.err = 0 then (if Rdr.bitV fs.r 0 = 1 then _ else if (Rdr.bitS S fs.r 0).err = 0 then Flm.block S z x y 16 { fs with fr := now fs, x := x, y := y, r := Rdr.bitS S fs.r 0 } else _) else fs) = _
   rw [if_pos he, if_neg (by rw [b1]; decide), if_pos b2.err]
  rw [ea]
  exact h.2 S rest { fs with fr := now fs, x := x, y := y, r := Rdr.bitS S fs.r 0 } b2 (hg.same rfl rfl fun _ h => h)
theorem tells_split {z : Nat} {F : List (List Px)} {f x y n : Nat} {l1 l2 l3 l4 : Bts} (hn : n = 4 \/ n = 8) (al : Al z x y (2 * n)) (h1 : Tells z F f x y n l1) (h2 : Tells z F f (x + n) y n l2) (h3 : Tells z F f x (y + n) n l3) (h4 : Tells z F f (x + n) (y + n) n l4) :
  Tells z F f x y (2 * n) ((if 2 * n = 16 then 0 else 1, 1) :: (l1 ++ (l2 ++ (l3 ++ l4)))) := by
 obtain ⟨-, e1, e2, e3⟩ := al.quarters hn
 refine ⟨ok_cons (by split <;> omega) (.inr rfl) (ok_app h1.1 (ok_app h2.1 (ok_app h3.1 h4.1))), fun S rest fs hr hg => ?_⟩
 have he := hr.err
 have hr' : Rd S ((if 2 * n = 16 then 0 else 1, 1) :: (l1 ++ (l2 ++ (l3 ++ (l4 ++ rest))))) fs.r := by simpa only [List.cons_append, List.append_assoc] using hr
 obtain ⟨b1, b2⟩ := hr'.bit
 have ea : Flm.area S z (Flm.cuts (2 * n)) x y (2 * n) fs = Flm.area S z (Flm.cuts n) (x + n) (y + n) n (Flm.area S z (Flm.cuts n) x (y + n) n (Flm.area S z (Flm.cuts n) (x + n) y n (Flm.area S z (Flm.cuts n) x y n { fs with fr := now fs, x := x, y := y, r := Rdr.bitS S fs.r (if 2 * n = 16 then 0 else 1) }))) := by
  rcases hn with rfl | rfl
  ·show (if fs.r.err = 0 then (if Rdr.bitV fs.r 1 = 1 then _ else _) else fs) = _
   rw [if_pos he, if_pos (by exact b1)]
   rfl
  ·show (if fs.r.err = 0 then (if Rdr.bitV fs.r 0 = 1 then _ else _) else fs) = _
   rw [if_pos he, if_pos (by exact b1)]
   rfl
 rw [ea]
 obtain ⟨r1, g1⟩ := h1.2 S _ { fs with fr := now fs, x := x, y := y, r := Rdr.bitS S fs.r (if 2 * n = 16 then 0 else 1) } b2 (hg.same rfl rfl fun _ h => h)
 rw [<- e1] at g1
 obtain ⟨r2, g2⟩ := h2.2 S _ _ r1 g1
 rw [e1, show rank x y + n * n + n * n = rank x y + 2 * (n * n) by omega, <- e2] at g2
 obtain ⟨r3, g3⟩ := h3.2 S _ _ r2 g2
 rw [e2, show rank x y + 2 * (n * n) + n * n = rank x y + 3 * (n * n) by omega, <- e3] at g3
 obtain ⟨r4, g4⟩ := h4.2 S _ _ r3 g3
 refine ⟨r4, ?_⟩
 rw [e3] at g4
 rw [show 2 * n * (2 * n) = 4 * (n * n) by rw [Nat.mul_mul_mul_comm]]
 rw [show rank x y + 3 * (n * n) + n * n = rank x y + 4 * (n * n) by omega] at g4
 exact g4
theorem kind_reads {S : ByteArray} {z : Nat} {x y n : Nat} {a b : Nat} {rest : Bts} {fs : FS} (h : Rd S (kind a b ++ rest) fs.r) : ∃ r', Rd S rest r' /\
  Flm.block S z x y n fs = (if a = 0 then (if b = 0 then Flm.seen z (spots x y n) (Flm.soft S z (spots x y n) { fs with r := r' }) else Flm.seen z (spots x y n) (Flm.few S z x y n { fs with r := r' }))
   else if b = 0 then Flm.seen z (spots x y n) (Flm.copies S z x y n 260 (now fs) { fs with r := r' })
   else if now fs = 0 then { fs with r := Rdr.fail r' 10 } else Flm.seen z (spots x y n) (Flm.copies S z x y n 310 (now fs - 1) { fs with r := r' })) := by
 have h' : Rd S ((2, (a : Int)) :: (3 + a, (b : Int)) :: rest) fs.r := h
 obtain ⟨b1, b2⟩ := h'.bit
 obtain ⟨b3, b4⟩ := b2.bit
 refine ⟨_, b4, ?_⟩
 unfold Flm.block
 dsimp only
 rw [b1, show ((a : Nat) : Int).toNat = a by omega, b3, if_pos b4.err]
 have e1 : (((a : Nat) : Int) = 0) = (a = 0) := by apply propext; omega
 have e2 : (((b : Nat) : Int) = 0) = (b = 0) := by apply propext; omega
 simp only [e1, e2]
 rfl
theorem tells_soft {z : Nat} {F : List (List Px)} {f x y n : Nat} (al : Al z x y n) (hT : ∀ p ∈ F.getD f [], okPx p) : TellsB z F f x y n (kind 0 0 ++ softl z (F.getD f []) x y n) := by
 refine ⟨ok_app (kind_ok (by decide) (by decide)) (softl_ok hT z x y n).1, fun S rest fs hr hg => ?_⟩
 rw [List.append_assoc] at hr
 obtain ⟨r', h1, e⟩ := kind_reads (z := z) (x := x) (y := y) (n := n) hr
 rw [e, if_pos rfl, if_pos rfl]
 obtain ⟨h2, h3⟩ := soft_reads al hT (spots x y n) [] { fs with r := r' } rfl h1 (hg.same rfl rfl fun q hq => absurd hq (List.not_mem_nil))
 exact ⟨by rw [Flm.seen_r]; exact h2, h3.seen al⟩
theorem tells_few {z : Nat} {F : List (List Px)} {f x y n : Nat} {cs : List Px} {ix : Nat × Nat -> Nat} (al : Al z x y n) (hc : 0 < cs.length) (hc4 : cs.length <= 4) (hok : ∀ c ∈ cs, okPx c)
  (hi : ∀ q ∈ spots x y n, ix q < cs.length /\ cs.getD (ix q) (0, 0, 0) = (F.getD f []).getD (q.2 * z + q.1) (0, 0, 0)) : TellsB z F f x y n (kind 0 1 ++ fewl cs ix x y n) := by
 refine ⟨ok_app (kind_ok (by decide) (by decide)) (fewl_ok hc hc4 hok fun q hq => (hi q hq).1), fun S rest fs hr hg => ?_⟩
 rw [List.append_assoc] at hr
 obtain ⟨r', h1, e⟩ := kind_reads (z := z) (x := x) (y := y) (n := n) hr
 rw [e, if_pos rfl, if_neg (by decide)]
 obtain ⟨h2, h3⟩ := few_reads (fs := { fs with r := r' }) al.xz al.yz hc hc4 hok hi h1 (hg.same rfl rfl fun _ h => h)
 exact ⟨by rw [Flm.seen_r]; exact h2, h3.seen al⟩
theorem tells_copy {z : Nat} {F : List (List Px)} {f x y n u v : Nat} (al : Al z x y n) (hs : Src z F f f x y n u v) (ha : rank (u + (n - 1)) (v + (n - 1)) < rank x y) : TellsB z F f x y n (kind 1 0 ++ copyl 260 ((u : Int) - x) ((v : Int) - y)) := by
 have z1 := al.xz
 have z2 := al.yz
 have z3 := al.zz
 have z4 := hs.1
 refine ⟨ok_app (kind_ok (by decide) (by decide)) (copyl_ok (by decide) (by omega) (by omega) (by omega) (by omega)), fun S rest fs hr hg => ?_⟩
 rw [List.append_assoc] at hr
 obtain ⟨r', h1, e⟩ := kind_reads (z := z) (x := x) (y := y) (n := n) hr
 rw [e, if_neg (by decide), if_pos rfl, hg.now]
 obtain ⟨h2, h3⟩ := copies_reads (fs := { fs with r := r' }) al hs (.inl rfl) (fun _ => ha) h1 (hg.same rfl rfl fun _ h => h)
 exact ⟨by rw [Flm.seen_r]; exact h2, h3.seen al⟩
theorem tells_still {z : Nat} {F : List (List Px)} {f x y n u v : Nat} (al : Al z x y n) (hs : Src z F (f + 1) f x y n u v) : TellsB z F (f + 1) x y n (kind 1 1 ++ copyl 310 ((u : Int) - x) ((v : Int) - y)) := by
 have z1 := al.xz
 have z2 := al.yz
 have z3 := al.zz
 have z4 := hs.1
 refine ⟨ok_app (kind_ok (by decide) (by decide)) (copyl_ok (by decide) (by omega) (by omega) (by omega) (by omega)), fun S rest fs hr hg => ?_⟩
 rw [List.append_assoc] at hr
 obtain ⟨r', h1, e⟩ := kind_reads (z := z) (x := x) (y := y) (n := n) hr
 rw [e, if_neg (by decide), if_neg (by decide), hg.now, if_neg (by omega), Nat.add_sub_cancel]
 obtain ⟨h2, h3⟩ := copies_reads (fs := { fs with r := r' }) al hs (.inr (Nat.lt_succ_self f)) (fun h => absurd h (by omega)) h1 (hg.same rfl rfl fun _ h => h)
 exact ⟨by rw [Flm.seen_r]; exact h2, h3.seen al⟩
end Pk
end Go.Proofs.YtekfbphnoibnjaaDoor
namespace Go.Proofs.YtekfbphnoibnjaaDoor
namespace Pk
def lighter (a b : WS) : Bool := if a.m = b.m then decide (b.rng < a.rng) else decide (a.m < b.m)
theorem lighter_le {a b : WS} (h : lighter a b = true) : a.m <= b.m := by
 unfold lighter at h
 split at h
 ·omega
 ·have := of_decide_eq_true h; omega
end Pk
end Go.Proofs.YtekfbphnoibnjaaDoor
