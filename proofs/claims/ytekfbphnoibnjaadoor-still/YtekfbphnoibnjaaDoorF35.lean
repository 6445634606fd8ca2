/-
  The caller's book: a list of numbers is written over with a mark of its own, and appended to. A block of few colours is read by the document. A block is read by the document. The document's reading of a film's bytes: frame by frame. The law's function: the same film? A film in memory, whatever it holds; a film that is lent, with room behind its frames and behind the list of them. The document's reading of a film's bytes, whole. Bits that tell all frames of a film, packed behind a film's head, are decoded as that film; plain arithmetic. What the law Kept calls of its own: raw bytes as a film. Its parts.
-/
import Derived.Test.YtekfbphnoibnjaaDoorF11
import Derived.Deep.RegionHeld3
import Derived.Deep.RegionLaw
import Derived.BigRegion
import Derived.Deep.AppendLies
import Derived.Test.YtekfbphnoibnjaaDoorF14
import Derived.Maps.AppendAt
import Derived.Deep.QuietTactic
import Derived.BigQuiet
import Derived.Deep.CutBlock
import Derived.Deep.DeepCutAuto
import Derived.Test.YtekfbphnoibnjaaDoorF01
import Derived.Deep.WholeRow
import Derived.Deep.MidRow
import Derived.Laws.ResultCell
import Derived.Test.YtekfbphnoibnjaaDoorF08
import Derived.Test.YtekfbphnoibnjaaDoorF34
import Derived.Test.YtekfbphnoibnjaaDoorF06
namespace Go.Proofs.YtekfbphnoibnjaaDoor
open Go.RowKit
def Blk (w : World) (b : Nat) (cs : List Value) (e : TypeId) : Prop := w.heap[b]? = some (.cells cs.toArray e (0, 0))
theorem Blk.cell {w : World} {b : Nat} {cs : List Value} {e : TypeId} (h : Blk w b cs e) (j : Nat) (v : Value) (hv : cs[j]? = some v) : w.cell? ⟨b, j, none⟩ = some v := by
 rw [cell_of_row w b j _ _ _ h]; simpa using hv
theorem Blk.frozen {w : World} {b : Nat} {cs : List Value} {e : TypeId} (h : Blk w b cs e) (j : Nat) : w.frozen? ⟨b, j, none⟩ = false := frozen_of_row w b j _ _ h
theorem Blk.lt {w : World} {b : Nat} {cs : List Value} {e : TypeId} (h : Blk w b cs e) : b < w.heap.size := by
 rcases Nat.lt_or_ge b w.heap.size with h' | h'
 ·exact h'
 ·unfold Blk at h; rw [Array.getElem?_eq_none h'] at h; cases h
theorem Blk.of {w w' : World} {b : Nat} {cs : List Value} {e : TypeId} (h : Blk w b cs e) (hb : w'.heap[b]? = w.heap[b]?) : Blk w' b cs e := hb.trans h
theorem Blk.alloc {w : World} {b : Nat} {cs : List Value} {e : TypeId} (h : Blk w b cs e) (o : Obj) : Blk (w.alloc o) b cs e := h.of (Below.heap_alloc w o b h.lt)
theorem Blk.grown {w w' : World} {b : Nat} {cs : List Value} {e : TypeId} {row : Option Nat} (h : Blk w b cs e) (hg : w.grownBy w' row) (hn : row ≠ some b) : Blk w' b cs e := h.of (hg.block b h.lt (fun k => hn k.symm))
theorem Blk.set {w : World} {b : Nat} {cs : List Value} {e : TypeId} (h : Blk w b cs e) (j : Nat) (v : Value) : Blk (w.setCell ⟨b, j, none⟩ v) b (cs.set j v) e := by
 unfold Blk
 rw [heap_setCell_same w b j _ e v h]
 simp
theorem Blk.new (w : World) (cs : List Value) (e : TypeId) : Blk (w.alloc (.cells cs.toArray e)) w.heap.size cs e := by
 show (w.heap.push _)[w.heap.size]? = _
 simp
theorem news_new (X : World) (cs : List Value) (e : TypeId) (H : Nat) (hH : X.heap.size = H) : ∀ j u, cs[j]? = some u -> (X.alloc (.cells cs.toArray e)).cell? ((⟨H, 0, none⟩ : Addr).add j) = some u := by
 intro j u hu
 subst hH
 exact World.news_of_block (cs := cs.toArray) (t := e) (fr := (0, 0)) (Blk.new X cs e) j u (by simpa using hu)
end Go.Proofs.YtekfbphnoibnjaaDoor
namespace Go.Proofs.YtekfbphnoibnjaaDoor
open Go.RowKit
open Flm (Px FS)
namespace Flm
end Flm
theorem owns_form {w : World} {base : Nat} {e : TypeId} {size : Nat} {v : Value} {n : Nat} {xs : List Value} (h : w.ownsRow base e size v n xs) : ∃ a c, v = .slice a n c /\ (n = 0 \/ ∃ g, a = some ⟨g, 0, none⟩ /\ base <= g /\ g < w.heap.size) := by
 have h' := h
 rcases h.2 with ⟨rfl, rfl⟩ | ⟨g, cap, cur, rfl, hb, hg, hr⟩
 ·exact ⟨none, 0, rfl, .inl rfl⟩
 ·exact ⟨_, cap, rfl, .inr ⟨g, rfl, World.ownsRow.lt h' g rfl⟩⟩
end Go.Proofs.YtekfbphnoibnjaaDoor
namespace Go.Proofs.YtekfbphnoibnjaaDoor
open Go.RowKit
open Flm (Px FS)
namespace Flm
theorem seen_frs {z : Nat} : ∀ (ps : List (Nat × Nat)) (fs : FS), (seen z ps fs).frs = fs.frs
 | [], _ => rfl
 | (_, _) :: ps, _ => seen_frs ps _
end Flm
end Go.Proofs.YtekfbphnoibnjaaDoor
namespace Go.Proofs.YtekfbphnoibnjaaDoor
open Go.RowKit
open Flm (Px FS)
theorem infoRow : (Tryd.prog.info? 38).map (fun i => (i.zero, i.size, i.bytes)) = some (some (.slice none 0 0), 1, 24) := by kernel_rfl
def Flm.more (z : Nat) (q : FS) : FS := { q with frs := q.frs ++ [List.replicate (z * z) (0, 0, 0)] }
def FilmAt (w : World) (B : Nat) (Lv : Value) (z : Nat) (frs : List (List Px)) : Prop :=
 ∃ fbs : List Nat, w.ownsRow B 38 1 Lv frs.length (rowVals (z * z) fbs) /\ fbs.length = frs.length /\ (∀ i, i < frs.length -> Pixs w B (fbs.getD i 0) (z * z) (frs.getD i [])) /\ fbs.Nodup /\ (∀ k, Lv.ownBlock = some k -> k ∉ fbs) /\ (z = 4 \/ z = 8 \/ z = 16) /\ frs.length <= 8 /\ (∀ i k, Flm.okPx ((frs.getD i []).getD k (0, 0, 0)))
end Go.Proofs.YtekfbphnoibnjaaDoor
namespace Go.Proofs.YtekfbphnoibnjaaDoor
open Go.RowKit
open Flm (Px FS)
theorem FilmAt.row {w : World} {B z : Nat} {Lv : Value} {frs : List (List Px)} (h : FilmAt w B Lv z frs) : ∃ a c, Lv = .slice a frs.length c /\ ∀ i, i < frs.length -> ∃ g f, a = some ⟨g, 0, none⟩ /\ w.cell? ⟨g, i, none⟩ = some (.slice (some ⟨f, 0, none⟩) (z * z) (z * z)) /\ Pixs w B f (z * z) (frs.getD i []) := by
 obtain ⟨fbs, h1, h2, h3, _⟩ := h
 obtain ⟨a, c, e, hor⟩ := owns_form h1
 refine ⟨a, c, e, fun i hi => ?_⟩
 rcases hor with h0 | ⟨g, rfl, _⟩
 ·omega
 ·refine ⟨g, fbs.getD i 0, rfl, ?_, h3 i hi⟩
  rw [e] at h1
  have := World.ownsRow.cellAt h1 i (by omega)
  rw [this]
  unfold rowVals
  simp [List.getD_eq_getElem?_getD, show i < fbs.length by omega]
end Go.Proofs.YtekfbphnoibnjaaDoor
namespace Go.Proofs.YtekfbphnoibnjaaDoor
open Go.RowKit
open Flm (Px okPx)
def PxsIn (w : World) (a : Option Addr) (ps : List Px) : Prop := ps.length = 0 \/ ∃ b off, a = some ⟨b, off, none⟩ /\ ∀ k, k < ps.length -> w.cell? ⟨b, off + k * 3, none⟩ = some (.int .u8 (ps.getD k (0, 0, 0)).1) /\ w.cell? ⟨b, off + k * 3 + 1, none⟩ = some (.int .u8 (ps.getD k (0, 0, 0)).2.1) /\ w.cell? ⟨b, off + k * 3 + 2, none⟩ = some (.int .u8 (ps.getD k (0, 0, 0)).2.2)
def FiIn (w : World) (fa : Option Addr) (F : List (List Px)) : Prop := F.length = 0 \/ ∃ fb off, fa = some ⟨fb, off, none⟩ /\ ∀ j, j < F.length -> ∃ a c, w.cell? ⟨fb, off + j, none⟩ = some (.slice a (F.getD j []).length c) /\ PxsIn w a (F.getD j [])
def lensF (F : List (List Px)) : Nat -> Nat := fun j => (F.getD j []).length
theorem PxsIn.mono {w w' : World} {a : Option Addr} {ps : List Px} (h : PxsIn w a ps) (hc : ∀ p v, w.cell? p = some v -> w'.cell? p = some v) : PxsIn w' a ps :=
 h.imp id fun ⟨b, off, e, hk⟩ => ⟨b, off, e, fun k h1 => ⟨hc _ _ (hk k h1).1, hc _ _ (hk k h1).2.1, hc _ _ (hk k h1).2.2⟩⟩
theorem FiIn.mono {w w' : World} {fa : Option Addr} {F : List (List Px)} (h : FiIn w fa F) (hc : ∀ p v, w.cell? p = some v -> w'.cell? p = some v) : FiIn w' fa F :=
 h.imp id fun ⟨fb, off, e, hk⟩ => ⟨fb, off, e, fun j h1 => (hk j h1).elim fun a ha => ha.elim fun c hac => ⟨a, c, hc _ _ hac.1, hac.2.mono hc⟩⟩
theorem FiIn.below {w w' : World} {fa : Option Addr} {F : List (List Px)} (h : FiIn w fa F) (b : Below w.heap.size w w') : FiIn w' fa F :=
 h.mono fun p _ e => (b.cell (World.block_lt_of_cell? w p e)).trans e
theorem FiIn.rows {w : World} {fa : Option Addr} {F : List (List Px)} (h : FiIn w fa F) : RowsIn w fa F.length (lensF F) :=
 h.imp id fun ⟨fb, off, e, hk⟩ => ⟨fb, off, e, fun j h1 => (hk j h1).elim fun a ha => ha.elim fun c hac => ⟨a, c, hac.1⟩⟩
end Go.Proofs.YtekfbphnoibnjaaDoor
namespace Go.Proofs.YtekfbphnoibnjaaDoor
open Go.RowKit
open Flm (Px FS)
noncomputable def Flm.fin (t : ByteArray) (z : Nat) (F : FS) : Option (Nat × List (List Px)) × Px × Int :=
 if F.r.err = 0 then (if (Rdr.finish t F.r).err = 0 then (some (z, F.frs), (0, 0, 0), 0) else (none, (0, 0, 0), (Rdr.finish t F.r).err)) else (none, (F.fr, F.x, F.y), F.r.err)
end Go.Proofs.YtekfbphnoibnjaaDoor
namespace Go.Proofs.YtekfbphnoibnjaaDoor
namespace Pk
open Flm (Px FS px now near turn back okPx spots put)
def IsZ (z : Nat) : Prop := z = 4 \/ z = 8 \/ z = 16
theorem rank4 : ∀ x < 4, ∀ y < 4, rank x y < 16 := by decide +kernel
theorem rank8 : ∀ x < 8, ∀ y < 8, rank x y < 64 := by decide +kernel
theorem rank_z {z : Nat} (hz : IsZ z) {x y : Nat} (hx : x < z) (hy : y < z) : rank x y < z * z := by
 rcases hz with rfl | rfl | rfl
 ·exact rank4 x hx y hy
 ·exact rank8 x hx y hy
 ·exact rank_lt hx hy
theorem al0 {z : Nat} (hz : IsZ z) : Al z 0 0 z := ⟨hz, Nat.zero_mod _, Nat.zero_mod _, by omega, by omega, by rcases hz with rfl | rfl | rfl <;> decide⟩
def Whole (z : Nat) (F : List (List Px)) (f : Nat) (l : Bts) : Prop := Pack.BitsOk l /\ ∀ (S : ByteArray) (rest : Bts) (fs : FS) (m : Nat), Rd S (l ++ rest) fs.r -> fs.frs = [] ->
  ∃ gs, Flm.frames S z (f + m) fs = Flm.frames S z m gs /\ Rd S rest gs.r /\ gs.frs = F.take f
theorem whole_nil (z : Nat) (F : List (List Px)) : Whole z F 0 [] := ⟨ok_nil, fun S rest fs m h he => ⟨fs, by rw [Nat.zero_add], h, by rw [he, List.take_zero]⟩⟩
theorem whole_snoc {z : Nat} {F : List (List Px)} {f : Nat} {l a : Bts} (hz : IsZ z) (hf : f < F.length) (hl : (F.getD f []).length = z * z) (h : Whole z F f l) (ha : Tells z F f 0 0 z a) : Whole z F (f + 1) (l ++ a) := by
 refine ⟨ok_app h.1 ha.1, fun S rest fs m hr he => ?_⟩
 rw [List.append_assoc] at hr
 obtain ⟨gs, e1, r1, f1⟩ := h.2 S (a ++ rest) fs (1 + m) hr he
 have hlen : gs.frs.length = f := by rw [f1, List.length_take]; omega
 obtain ⟨r2, g2⟩ := ha.2 S rest { gs with frs := gs.frs ++ [List.replicate (z * z) (0, 0, 0)], rd := List.replicate (z * z) false } r1 (by
  refine ⟨by rw [List.length_append, hlen]; rfl, fun g hg => ?_, ?_, List.length_replicate, fun x y _ _ h0 => ?_, fun x y _ _ h0 => ?_⟩
  ·show (gs.frs ++ _).getD g [] = F.getD g []
   rw [List.getD_eq_getElem?_getD, List.getElem?_append_left (by omega), f1, List.getElem?_take_of_lt hg, <- List.getD_eq_getElem?_getD]
  ·show ((gs.frs ++ _).getD f []).length = z * z
   rw [List.getD_eq_getElem?_getD, List.getElem?_append_right (by omega), hlen, Nat.sub_self]
   exact List.length_replicate
  ·exact absurd h0 (by rw [show rank 0 0 = 0 from rfl]; omega)
  ·rcases h0 with h0 | h0
   ·exact absurd h0 (by rw [show rank 0 0 = 0 from rfl]; omega)
   ·exact absurd h0 id)
 rw [show rank 0 0 + z * z = z * z by rw [show rank 0 0 = 0 from rfl]; omega] at g2
 refine ⟨_, ?_, r2, ?_⟩
 ·rw [show f + 1 + m = f + (1 + m) by omega, e1, show 1 + m = m + 1 by omega]
  show (if gs.r.err = 0 then _ else _) = _
  rw [if_pos r1.err]
 ·apply List.ext_getElem
  ·rw [g2.len, List.length_take]; omega
  ·intro i h1 h2
   rw [g2.len] at h1
   have hi : i < F.length := by omega
   rw [List.getElem_take]
   have key : (Flm.area S z (Flm.cuts z) 0 0 z { gs with frs := gs.frs ++ [List.replicate (z * z) (0, 0, 0)], rd := List.replicate (z * z) false }).frs.getD i [] = F.getD i [] := by
    rcases Nat.lt_or_ge i f with hif | hif
    ·exact g2.old i hif
    ·obtain rfl : i = f := by omega
     apply List.ext_getElem
     ·rw [g2.cl, hl]
     ·intro k k1 k2
      rw [g2.cl] at k1
      have hz0 : 0 < z := by rcases hz with rfl | rfl | rfl <;> decide
      have hx : k % z < z := Nat.mod_lt _ hz0
      have hy : k / z < z := Nat.div_lt_of_lt_mul k1
      have hk := g2.agr (k % z) (k / z) hx hy (.inl (rank_z hz hx hy))
      rw [show k / z * z + k % z = k by rw [Nat.mul_comm]; exact Nat.div_add_mod k z] at hk
      unfold px at hk
      rw [List.getD_eq_getElem?_getD, List.getD_eq_getElem?_getD (l := F.getD i []), List.getElem?_eq_getElem (by rw [g2.cl]; exact k1), List.getElem?_eq_getElem k2] at hk
      exact hk
   rw [List.getD_eq_getElem?_getD, List.getD_eq_getElem?_getD, List.getElem?_eq_getElem (by rw [g2.len]; exact h1), List.getElem?_eq_getElem hi] at key
   exact key
theorem puts_app : ∀ (l r : Bts) (t : WS), Pack.puts t (l ++ r) = Pack.puts (Pack.puts t l) r
 | [], _, _ => rfl
 | (_, _) :: l, r, _ => puts_app l r _
structure FilmOk (z : Nat) (F : List (List Px)) : Prop where
 iz : IsZ z
 le8 : F.length <= 8
 len : ∀ f, f < F.length -> (F.getD f []).length = z * z
 ok : ∀ f, ∀ p ∈ F.getD f [], okPx p
theorem film_whole {z : Nat} {F : List (List Px)} (h : FilmOk z F) : ∀ f, f <= F.length -> Whole z F f (filmL z F f) /\ (Pack.puts Pack.init (filmL z F f)).m <= f * (57 * (z * z) + 3)
 | 0, _ => ⟨whole_nil z F, by rw [Nat.zero_mul]; exact Nat.le_refl 0⟩
 | f + 1, hf => by
  obtain ⟨h1, h2⟩ := film_whole h f (by omega)
  obtain ⟨a1, a2⟩ := area_facts (h.ok f) (Flm.cuts z) (Pack.puts Pack.init (filmL z F f)) 0 0 z (al0 h.iz) rfl
  refine ⟨whole_snoc h.iz (by omega) (h.len f (by omega)) h1 a1, ?_⟩
  unfold filmL
  rw [puts_app, Nat.succ_mul]
  omega
theorem film_m {z : Nat} {F : List (List Px)} (h : FilmOk z F) : (Pack.fin (filmL z F F.length)).m <= 119992 := by
 have h1 := (film_whole h F.length (Nat.le_refl _)).2
 have h2 := h.le8
 have h3 : z * z <= 256 := by rcases h.iz with rfl | rfl | rfl <;> decide
 have h4 : F.length * (57 * (z * z) + 3) <= 8 * (57 * 256 + 3) := Nat.mul_le_mul h2 (by omega)
 unfold Pack.fin
 omega
end Pk
end Go.Proofs.YtekfbphnoibnjaaDoor
namespace Go.Proofs.YtekfbphnoibnjaaDoor
open Go.RowKit
open Flm (Px okPx)
def kpk (c n : Int) : Int := (if c < 0 then -(c + 1) else c) % n
theorem kpk_bd (c n : Int) (h : 0 < n) : 0 <= kpk c n /\ kpk c n < n := ⟨Int.emod_nonneg _ (by omega), Int.emod_lt_of_pos _ h⟩
set_option maxHeartbeats 400000 in
theorem kPick (w : World) (c n : Int) (c0 : -9223372036854775808 <= c) (c1 : c <= 9223372036854775807) (n0 : 0 < n) (n1 : n <= 1000) : Calls Tryd.prog 6 #[.int .i64 c, .int .i64 n] w fun e w' => e = .returned (.int .i64 (kpk c n)) /\ w' = w := by
 by_cases h : c < 0
 ·have hn : (n == 0) = false := by simp; omega
  have e : kpk c n = (-(c + 1)) % n := by unfold kpk; rw [if_pos h]
  have hb := kpk_bd c n n0
  rw [e] at hb ⊢
  go_enter Tryd.func6, Tryd.ntmps6
  go_wp2
  go_ret
  refine ⟨ret_int ?_, rfl⟩
  rw [<- Int.neg_tmod, Int.tmod_eq_emod_of_nonneg (by omega)]
 ·have hn : (n == 0) = false := by simp; omega
  have e : kpk c n = c % n := by unfold kpk; rw [if_neg h]
  have hb := kpk_bd c n n0
  rw [e] at hb ⊢
  go_enter Tryd.func6, Tryd.ntmps6
  go_wp2
  go_ret
  exact ⟨rfl, rfl⟩
theorem owns_apart {w : World} {B B' : Nat} {e e' : TypeId} {sz sz' : Nat} {v v' : Value} {n n' : Nat} {xs xs' : List Value} (h : w.ownsRow B e sz v n xs) (h' : w.ownsRow B' e' sz' v' n' xs') (ne : e ≠ e') : ∀ k, v.ownBlock = some k -> v'.ownBlock ≠ some k := by
 intro k hk hk'
 rcases h.2 with ⟨rfl, _⟩ | ⟨g, cap, cur, rfl, _, hg, _⟩
 ·simp [Value.ownBlock] at hk
 ·rcases h'.2 with ⟨rfl, _⟩ | ⟨g', cap', cur', rfl, _, hg', _⟩
  ·simp [Value.ownBlock] at hk'
  ·simp [Value.ownBlock] at hk hk'
   subst hk
   subst hk'
   rw [hg] at hg'
   simp at hg'
   exact ne hg'.2
structure KF (w : World) (B H z : Nat) (F : List (List Px)) (Lv : Value) (fs : List (Nat × Nat)) : Prop where
 bx : w.heap[H]? = some (.cells #[.int .i64 z, Lv] 36 (0, 0))
 row : w.ownsRow B 38 1 Lv F.length (fs.map fun q => Value.slice (some ⟨q.1, 0, none⟩) (z * z) q.2)
 ln : fs.length = F.length
 fr : ∀ i, i < F.length -> w.ownsRow B 40 3 (.slice (some ⟨(fs.getD i (0, 0)).1, 0, none⟩) (z * z) (fs.getD i (0, 0)).2) (z * z) (pxCells (F.getD i []))
 ok : ∀ i, ∀ p ∈ F.getD i [], okPx p
 hB : H < B
theorem KF.below {w w' : World} {B H z : Nat} {F : List (List Px)} {Lv : Value} {fs : List (Nat × Nat)} (h : KF w B H z F Lv fs) (f : Below w.heap.size w w') : KF w' B H z F Lv fs := by
 have fr := Frm.of_below (S := fun _ => False) f
 exact ⟨(f.block H (heap_lt0 h.bx)).trans h.bx, fr.owns h.row (fun _ _ e => e), h.ln, fun i hi => fr.owns (h.fr i hi) (fun _ _ e => e), h.ok, h.hB⟩
theorem getD_snoc {α : Type} (l : List α) (x d : α) (i : Nat) : (l ++ [x]).getD i d = if i = l.length then x else l.getD i d := by
 simp only [List.getD_eq_getElem?_getD, List.getElem?_append]
 by_cases h : i < l.length
 ·rw [if_pos h, if_neg (by omega)]
 ·rw [if_neg h]
  by_cases h' : i = l.length
  ·subst h'; simp
  ·rw [if_neg h', List.getElem?_eq_none (show [x].length <= i - l.length by simp; omega), List.getElem?_eq_none (show l.length <= i by omega)]
theorem KF.add {w1 w3 : World} {B H z : Nat} {F : List (List Px)} {Lv v' : Value} {fs : List (Nat × Nat)} {g c : Nat} {ps : List Px} (h : KF w1 B H z F Lv fs) (hl : w1.ownsRow B 40 3 (.slice (some ⟨g, 0, none⟩) (z * z) c) (z * z) (pxCells ps)) (hp : ∀ p ∈ ps, okPx p)
  (hown : w3.ownsRow B 38 1 v' (F.length + 1) ((fs.map fun q => Value.slice (some ⟨q.1, 0, none⟩) (z * z) q.2) ++ [.slice (some ⟨g, 0, none⟩) (z * z) c])) (hg : w1.grownBy w3 Lv.ownBlock) :
  KF (w3.setCell ⟨H, 1, none⟩ v') B H z (F ++ [ps]) v' (fs ++ [(g, c)]) := by
 have hne : (40 : TypeId) ≠ 38 := by decide
 have hHB := h.hB
 have hrow : ∀ {v : Value} {n : Nat} {xs : List Value}, w1.ownsRow B 40 3 v n xs -> (w3.setCell ⟨H, 1, none⟩ v').ownsRow B 40 3 v n xs := fun {v n xs} ho => by
  have f : Frm (fun k => Lv.ownBlock = some k \/ k = H) w1 (w3.setCell ⟨H, 1, none⟩ v') := ((Frm.refl _ w1).grown hg (fun k e => .inl (.inl e))).setCell (p := ⟨H, 1, none⟩) (.inl (.inr rfl)) _
  refine f.owns ho (fun k hk e => ?_)
  rcases e with e | e
  ·exact owns_apart ho h.row hne k hk e
  ·have := (World.ownsRow.lt ho k hk).1
   omega
 have hHr : ∀ k, Lv.ownBlock = some k -> k ≠ H := fun k hk e => by have := (World.ownsRow.lt h.row k hk).1; omega
 have hvr : v'.ownBlock ≠ some H := fun e => by have := (World.ownsRow.lt hown H e).1; omega
 have hb3 : w3.heap[H]? = some (.cells #[.int .i64 z, Lv] 36 (0, 0)) := (hg.block H (heap_lt0 h.bx) (fun e => hHr H e.symm rfl)).trans h.bx
 refine ⟨?_, ?_, by simp [h.ln], fun i hi => ?_, fun i p hpi => ?_, h.hB⟩
 ·have := Go.heap_setCell_same w3 H 1 _ _ v' hb3
  simpa using this
 ·rw [List.length_append, List.map_append]
  exact hown.kept (grown_setCell w3 H 1 _) (.inr hvr)
 ·rw [List.length_append, List.length_singleton] at hi
  rw [getD_snoc, getD_snoc, h.ln]
  by_cases e : i = F.length
  ·rw [if_pos e, if_pos e]; exact hrow hl
  ·rw [if_neg e, if_neg e]; exact hrow (h.fr i (by omega))
 ·rw [getD_snoc] at hpi
  by_cases e : i = F.length
  ·rw [if_pos e] at hpi; exact hp p hpi
  ·rw [if_neg e] at hpi; exact h.ok i p hpi
theorem KF.film {w : World} {B H z : Nat} {F : List (List Px)} {Lv : Value} {fs : List (Nat × Nat)} (h : KF w B H z F Lv fs) : ∃ a c, Lv = .slice a F.length c /\ FrsIn w a F.length z F (fun i => (fs.getD i (0, 0)).1) (fun i => (fs.getD i (0, 0)).2) := by
 obtain ⟨a, c, e, hor⟩ := owns_form h.row
 refine ⟨a, c, e, ?_⟩
 rcases hor with h0 | ⟨g, rfl, _⟩
 ·exact .inl h0
 ·refine .inr ⟨g, 0, rfl, fun j hj => ?_⟩
  have hln := h.ln
  have hr := h.row
  rw [e] at hr
  constructor
  ·rw [Nat.zero_add, World.ownsRow.cellAt hr j (by omega), List.getElem?_map, List.getElem?_eq_getElem (by omega)]
   simp [List.getD_eq_getElem?_getD, show j < fs.length by omega]
  ·have ho := h.fr j hj
   have hl := ho.1
   rw [pxCells_len] at hl
   refine ⟨(World.ownsRow.lt ho _ rfl).2, fun k hk => ?_⟩
   obtain ⟨q0, q1, q2⟩ := pxCells_get (F.getD j []) k (by omega)
   exact ⟨(World.ownsRow.cellAt ho _ (by omega)).trans q0, (World.ownsRow.cellAt ho _ (by omega)).trans q1, (World.ownsRow.cellAt ho _ (by omega)).trans q2⟩
end Go.Proofs.YtekfbphnoibnjaaDoor
