/-
  The law's step: a film is told by the program, twice. The walk, out of what the calls promise. The same bytes with one less: the reader goes the same way, till it comes to the end. The law's step, where the bytes are a film. The program's reader of a line, call by call, against the plain one. The program's reader reads one bit; a line's end: against the plain one. The program's reader of a line reads a number, a signed number. A block's reading leaves the place as it was; no program in sight. The program's reader of films between two frames. The program's reader of films: a film's bytes. Which errors the reading of frames may meet; no program in sight. What Decode tells, against the document's reading. The law Kept: any film that is packed and unpacked is that film; a byte less, a byte more are refused.
-/
import Derived.Test.YtekfbphnoibnjaaDoorF01
import Derived.Deep.RegionWith
import Derived.Deep.WholeRow
import Derived.Test.YtekfbphnoibnjaaDoorF02
import Derived.Test.YtekfbphnoibnjaaDoorF35
import Derived.Test.YtekfbphnoibnjaaDoorF08
import Derived.Test.YtekfbphnoibnjaaDoorF11
import Derived.Test.YtekfbphnoibnjaaDoorF14
import Derived.Test.YtekfbphnoibnjaaDoorF09
import Derived.Laws.BitsAllLaws
import Derived.Deep.RegionHeld3
import Derived.RangeFuncWrites
import Derived.RangeFuncFrom
import Derived.RangeFuncOwn
import Derived.TacticsIn
import Derived.RegionIn
import Derived.Deep.MidRow
import Derived.Laws.ResultCell
import Derived.Deep.RegionLaw
import Derived.BigRegion
import Derived.Test.YtekfbphnoibnjaaDoorF15
import Derived.LoopIn
import Derived.Laws.EntriesVeiled
import Derived.LaidEql
import Derived.Stop.Asserts
import Derived.RowKitTokens
import Derived.Test.YtekfbphnoibnjaaDoorF16
import Derived.Test.YtekfbphnoibnjaaDoorF36
import Derived.Test.YtekfbphnoibnjaaDoorF38
import Derived.Laws.CopyOwn
import Derived.Lib.SliceRun
import Derived.Laws.BytesArg
import Derived.Test.YtekfbphnoibnjaaDoorF34
import Derived.Deep.Cut
namespace Go.Proofs.YtekfbphnoibnjaaDoor
open Go.RowKit
structure FB (W : World) (H : Nat) (z v : Value) : Prop where
 c0 : W.cell? ⟨H, 0, none⟩ = some z
 c1 : W.cell? ⟨H, 1, none⟩ = some v
theorem FB.below {W W' : World} {H : Nat} {z v : Value} (h : FB W H z v) (b : Below W.heap.size W W') : FB W' H z v := ⟨(b.cell (World.block_lt_of_cell? W _ h.c0)).trans h.c0, (b.cell (World.block_lt_of_cell? W _ h.c1)).trans h.c1⟩
theorem FB.cells {W : World} {H : Nat} {z v : Value} (h : FB W H z v) : W.cell? ⟨H, 0, none⟩ = some z /\ W.cell? ⟨H, 1, none⟩ = some v := ⟨h.c0, h.c1⟩
theorem fb_mk (w : World) (z v : Value) : ∃ W1 H, W1 = w.alloc (.cells #[z, v] 36) /\ H = w.heap.size /\ Below w.heap.size w W1 /\ FB W1 H z v :=
 ⟨_, _, rfl, rfl, (Below.refl _ w).alloc (Nat.le_refl _) _, ⟨cell_of_row _ _ 0 _ _ _ (heap_alloc_last w _), cell_of_row _ _ 1 _ _ _ (heap_alloc_last w _)⟩⟩
end Go.Proofs.YtekfbphnoibnjaaDoor
namespace Go.Proofs.YtekfbphnoibnjaaDoor
def Al {β : Type} (t' : ByteArray) (e : β -> RS) (x x' : β) : Prop := (e x').err = 5 \/ (x' = x /\ (e x).pos <= t'.size)
theorem Al.map {β γ : Type} {t' : ByteArray} {e : β -> RS} {f : γ -> RS} {x x' : β} (h : Al t' e x x') (g g' : β -> γ) (hs : (e x').err = 5 -> (f (g' x')).err = 5) (hg : g' x = g x) (hp : (f (g x)).pos = (e x).pos) : Al t' f (g x) (g' x') := by
 rcases h with h | ⟨rfl, h⟩
 ·exact .inl (hs h)
 ·exact .inr ⟨hg, by rw [hp]; exact h⟩
namespace Rdr
end Rdr
namespace Flm
end Flm
end Go.Proofs.YtekfbphnoibnjaaDoor
namespace Go.Proofs.YtekfbphnoibnjaaDoor
open Go.RowKit
open Flm (Px FS)
theorem HB5 {w W3 w4 w5 : World} (hb3 : Below w.heap.size w W3) (b4 : Below W3.heap.size W3 w4) (b5 : Below w4.heap.size w4 w5) : Below w.heap.size w w5 := (hb3.trans (b4.mono hb3.size)).trans (b5.mono (Nat.le_trans hb3.size b4.size))
theorem HB6 {S : Nat -> Prop} {B : Nat} {w W3 w4 w5 w6 : World} (hB : B <= w.heap.size) (hb3 : Below w.heap.size w W3) (b4 : Below W3.heap.size W3 w4) (b5 : Below w4.heap.size w4 w5) (f : Frm S w5 w6) : B <= w6.heap.size := Nat.le_trans hB (Nat.le_trans (HB5 hb3 b4 b5).size f.size)
end Go.Proofs.YtekfbphnoibnjaaDoor
namespace Go.Proofs.YtekfbphnoibnjaaDoor
open Go.RowKit
structure PR (w : World) (b : Nat) (s : ByteArray) (r : RS) : Prop where
 c0 : w.cell? ⟨b, 0, none⟩ = some (.string (s.extract r.pos s.size))
 c1 : w.cell? ⟨b, 1, none⟩ = some (.int .u32 r.rng)
 c2 : w.cell? ⟨b, 2, none⟩ = some (.int .u32 r.code)
 fz : ∀ o, o < 3 -> w.frozen? ⟨b, o, none⟩ = false
 ch : ChAt w b 3 r.ch
theorem PR.put2 {w : World} {b : Nat} {s : ByteArray} {r : RS} (h : PR w b s r) (n : Int) : PR (w.setCell ⟨b, 2, none⟩ (.int .u32 n)) b s { r with code := n } :=
 ⟨cell_off h.c0 (.inr (by decide)), cell_off h.c1 (.inr (by decide)), World.cell?_setCell_same _ _ _ h.c2, fun o ho => by rw [World.frozen?_setCell]; exact h.fz o ho, h.ch.off (.inr (.inl (by decide)))⟩
theorem PR.putC {w : World} {b : Nat} {s : ByteArray} {r : RS} (h : PR w b s r) (k : Nat) (v : Int) : PR (w.setCell ⟨b, 3 + k, none⟩ (.int .u32 v)) b s { r with ch := r.ch.set k v } :=
 ⟨cell_off h.c0 (.inr (by omega)), cell_off h.c1 (.inr (by omega)), cell_off h.c2 (.inr (by omega)), fun o ho => by rw [World.frozen?_setCell]; exact h.fz o ho, h.ch.set k v⟩
theorem PR.on {w w' : World} {b : Nat} {s : ByteArray} {r : RS} (h : PR w b s r) (hb : w'.heap[b]? = w.heap[b]?) : PR w' b s r := by
 have hc : ∀ o, w'.cell? ⟨b, o, none⟩ = w.cell? ⟨b, o, none⟩ := fun o => World.cell?_of_block (a := ⟨b, o, none⟩) hb
 exact ⟨(hc 0).trans h.c0, (hc 1).trans h.c1, (hc 2).trans h.c2, fun o ho => (World.frozen?_of_block (a := ⟨b, o, none⟩) hb).trans (h.fz o ho), h.ch.on hb⟩
theorem PR.drewN {w : World} {b : Nat} {s : ByteArray} {r : RS} (h : PR w b s r) (n : Nat) : PR (w.drewN n) b s r := h.on rfl
theorem PR.drew {w : World} {b : Nat} {s : ByteArray} {r : RS} (h : PR w b s r) : PR w.drew b s r := h.on rfl
end Go.Proofs.YtekfbphnoibnjaaDoor
namespace Go.Proofs.YtekfbphnoibnjaaDoor
open Go.RowKit
theorem bitS_err {s : ByteArray} {r : RS} {k : Nat} (he : r.err = 0) : Rdr.bitS s r k = Rdr.norm s (if r.code < Rdr.cut r k then Rdr.zero r k else Rdr.one r k) := by
 unfold Rdr.bitS
 rw [if_pos he]
 split <;> rfl
end Go.Proofs.YtekfbphnoibnjaaDoor
namespace Go.Proofs.YtekfbphnoibnjaaDoor
open Go.RowKit
namespace Rdr
theorem norm_errs {s : ByteArray} {r : RS} (he : r.err = 0) : (norm s r).err = 0 \/ (norm s r).err = 5 := by
 unfold norm
 split
 ·unfold pull octS
  split
  ·exact .inl he
  ·right; simp
 ·exact .inl he
theorem bitS_errs {s : ByteArray} {r : RS} {k : Nat} (he : r.err = 0) : (bitS s r k).err = 0 \/ (bitS s r k).err = 5 := by
 rw [bitS_err he]
 apply norm_errs
 split <;> exact he
theorem fail_of {r : RS} {e : Int} (he : r.err ≠ 0) : fail r e = r := by unfold fail; rw [if_neg he]
theorem fail_zero {r : RS} {e : Int} (he : r.err = 0) : (fail r e).err = e := by unfold fail; rw [if_pos he]
end Rdr
end Go.Proofs.YtekfbphnoibnjaaDoor
namespace Go.Proofs.YtekfbphnoibnjaaDoor
namespace Flm
def plc (fs : FS) : Px := (fs.fr, fs.x, fs.y)
end Flm
end Go.Proofs.YtekfbphnoibnjaaDoor
namespace Go.Proofs.YtekfbphnoibnjaaDoor
open Go.RowKit
open Flm (Px FS)
structure PL (w : World) (L p b : Nat) (Dv : Value) (dbs : List Nat) (s : ByteArray) (z : Nat) (q : FS) : Prop where
 pr : PR w b s q.r
 ok : Rdr.Ok s q.r
 err : q.r.err = 0
 c0 : w.cell? ⟨p, 0, none⟩ = some (.pointer (some ⟨b, 0, none⟩))
 c1 : w.cell? ⟨p, 1, none⟩ = some (.int .i64 z)
 c2 : w.cell? ⟨p, 2, none⟩ = some Dv
 k3 : ∃ v, w.cell? ⟨p, 3, none⟩ = some v
 k4 : ∃ v, w.cell? ⟨p, 4, none⟩ = some v
 k5 : ∃ v, w.cell? ⟨p, 5, none⟩ = some v
 fz : ∀ o, w.frozen? ⟨p, o, none⟩ = false
 rows : w.ownsRow L 38 1 Dv q.frs.length (rowVals (z * z) dbs)
 dn : ∀ i, i < q.frs.length -> Pixs w L (dbs.getD i 0) (z * z) (q.frs.getD i [])
 n1 : dbs.length = q.frs.length
 zz : z = 4 \/ z = 8 \/ z = 16
 ne : (p :: b :: dbs).Nodup
 nd : ∀ k, Dv.ownBlock = some k -> k ≠ p /\ k ≠ b /\ k ∉ dbs
 px : ∀ i k, Flm.okPx (Flm.px q i k)
 lo : L <= p /\ L <= b
 up : p < w.heap.size /\ b < w.heap.size
theorem PL.z16 {w : World} {L p b : Nat} {Dv : Value} {dbs : List Nat} {s : ByteArray} {z : Nat} {q : FS} (h : PL w L p b Dv dbs s z q) : z <= 16 := by rcases h.zz with e | e | e <;> omega
theorem PL.nes {w : World} {L p b : Nat} {Dv : Value} {dbs : List Nat} {s : ByteArray} {z : Nat} {q : FS} (h : PL w L p b Dv dbs s z q) : (p ≠ b /\ p ∉ dbs) /\ b ∉ dbs /\ dbs.Nodup := by
 have := h.ne
 simp only [List.nodup_cons, List.mem_cons, not_or] at this
 exact this
end Go.Proofs.YtekfbphnoibnjaaDoor
namespace Go.Proofs.YtekfbphnoibnjaaDoor
open Go.RowKit
open Flm (Px FS)
theorem PL.film {w w' : World} {S : Nat -> Prop} {L p b : Nat} {Dv : Value} {dbs : List Nat} {s : ByteArray} {z : Nat} {q : FS} (h : PL w L p b Dv dbs s z q) (h8 : q.frs.length <= 8) (f : Frm S w w') (hS : ∀ k, S k -> k < L) : FilmAt w' L Dv z q.frs := by
 refine ⟨dbs, f.owns h.rows (fun k e hs => ?_), h.n1, fun i hi => f.pixs (h.dn i hi) (fun hs => ?_), h.nes.2.2, fun k e => (h.nd k e).2.2, h.zz, h8, fun i k => h.px i k⟩
 ·have := (World.ownsRow.lt h.rows k e).1
  have := hS k hs
  omega
 ·have := (h.dn i hi).lt.1
  have := hS _ hs
  omega
end Go.Proofs.YtekfbphnoibnjaaDoor
namespace Go.Proofs.YtekfbphnoibnjaaDoor
def ErrIn (r : RS) : Prop := r.err = 0 \/ r.err = 2 \/ r.err = 5 \/ r.err = 8 \/ r.err = 9 \/ r.err = 10
namespace Rdr
theorem bitS_in {s : ByteArray} {r : RS} (h : ErrIn r) (k : Nat) : ErrIn (bitS s r k) := by
 by_cases he : r.err = 0
 ·rcases bitS_errs (s := s) (k := k) he with e | e
  ·exact .inl e
  ·exact .inr (.inr (.inl e))
 ·have : bitS s r k = r := by unfold bitS; rw [if_neg he]
  rw [this]; exact h
theorem fail_in {r : RS} (h : ErrIn r) {e : Int} (he : e = 0 \/ e = 2 \/ e = 8 \/ e = 9 \/ e = 10) : ErrIn (fail r e) := by
 by_cases h0 : r.err = 0
 ·have e0 : (fail r e).err = e := fail_zero h0
  unfold ErrIn
  rw [e0]
  rcases he with e | e | e | e | e <;> rw [e] <;> decide
 ·rw [fail_of h0]; exact h
theorem run_in {s : ByteArray} {k : Nat} : ∀ (f n : Nat) (r : RS), ErrIn r -> ErrIn (run s k f n r).2
 | 0, _, _, h => h
 | f + 1, n, r, h => by
  unfold run
  split
  ·split
   ·exact bitS_in h _
   ·refine run_in f (n + 1) _ ?_
    split
    ·exact fail_in (bitS_in h _) (.inr (.inr (.inl rfl)))
    ·exact bitS_in h _
  ·exact h
theorem lows_in {s : ByteArray} {k : Nat} : ∀ (f : Nat) (d u : Int) (r : RS), ErrIn r -> ErrIn (lows s k f d u r).2.2
 | 0, _, _, _, h => h
 | f + 1, d, u, r, h => by
  unfold lows
  split
  ·exact lows_in f _ _ _ (bitS_in h _)
  ·exact h
theorem number_in {s : ByteArray} {r : RS} (h : ErrIn r) (k : Nat) : ErrIn (number s r k).2 := lows_in _ _ _ _ (run_in _ _ _ h)
end Rdr
namespace Flm
theorem back_err (c : Px) : (back c).2 = 0 \/ (back c).2 = 2 := by
 unfold back
 split
 ·exact .inl rfl
 ·exact .inr rfl
theorem soft1_in {s : ByteArray} {z : Nat} {fs : FS} {i j : Nat} (h : ErrIn fs.r) : ErrIn (soft1 s z fs i j).1.r := by
 have h3 : ErrIn (Rdr.number s (Rdr.number s (Rdr.number s fs.r 100).2 124).2 148).2 := Rdr.number_in (Rdr.number_in (Rdr.number_in h _) _) _
 unfold soft1
 dsimp only
 split
 ·exact h3
 ·refine Rdr.fail_in h3 ?_
  rcases back_err (expected (near z fs ((i : Int) - 1) j).1 (near z fs i ((j : Int) - 1)).1 (near z fs ((i : Int) - 1) ((j : Int) - 1)).1 + Rdr.signed s fs.r 100, expected (near z fs ((i : Int) - 1) j).2.1 (near z fs i ((j : Int) - 1)).2.1 (near z fs ((i : Int) - 1) ((j : Int) - 1)).2.1 + Rdr.signed s (Rdr.number s fs.r 100).2 124, expected (near z fs ((i : Int) - 1) j).2.2 (near z fs i ((j : Int) - 1)).2.2 (near z fs ((i : Int) - 1) ((j : Int) - 1)).2.2 + Rdr.signed s (Rdr.number s (Rdr.number s fs.r 100).2 124).2 148) with e | e
  ·exact .inl e
  ·exact .inr (.inl e)
theorem soft_in {s : ByteArray} {z : Nat} : ∀ (ps : List (Nat × Nat)) (fs : FS), ErrIn fs.r -> ErrIn (soft s z ps fs).r
 | [], _, h => h
 | (i, j) :: ps, fs, h => by
  show ErrIn (if (soft1 s z fs i j).1.r.err = 0 then soft s z ps (put (soft1 s z fs i j).1 (j * z + i) (soft1 s z fs i j).2) else (soft1 s z fs i j).1).r
  split
  ·exact soft_in ps _ (soft1_in h)
  ·exact soft1_in h
end Flm
end Go.Proofs.YtekfbphnoibnjaaDoor
namespace Go.Proofs.YtekfbphnoibnjaaDoor
open Go.RowKit
open Flm (Px FS)
theorem FilmAt.frm {S : Nat -> Prop} {w w' : World} {B z : Nat} {Lv : Value} {frs : List (List Px)} (h : FilmAt w B Lv z frs) (f : Frm S w w') (hS : ∀ k, S k -> k < B) : FilmAt w' B Lv z frs := by
 obtain ⟨fbs, h1, h2, h3, h4, h5, h6⟩ := h
 refine ⟨fbs, f.owns h1 (fun k e hs => ?_), h2, fun i hi => f.pixs (h3 i hi) (fun hs => ?_), h4, h5, h6⟩
 ·have := (World.ownsRow.lt h1 k e).1
  have := hS k hs
  omega
 ·have := (h3 i hi).lt.1
  have := hS _ hs
  omega
theorem SoftG.low {w wx : World} (h : SoftG w w.heap.size) (b : Below w.heap.size w wx) : SoftG wx wx.heap.size := h.of (b.block _ h.lt) (Nat.lt_of_lt_of_le h.lt b.size)
end Go.Proofs.YtekfbphnoibnjaaDoor
namespace Go.Proofs.YtekfbphnoibnjaaDoor
open Go.RowKit
open Flm (Px okPx)
theorem FrsIn.film {w : World} {fa : Option Addr} {z : Nat} {F : List (List Px)} {nbs cs : Nat -> Nat} (h : FrsIn w fa F.length z F nbs cs) (hl : ∀ j, j < F.length -> (F.getD j []).length = z * z) : FiIn w fa F :=
 h.imp id fun ⟨fb, off, e, hf⟩ => ⟨fb, off, e, fun j hj => ⟨_, _, by rw [hl j hj]; exact (hf j hj).1, .inr ⟨_, 0, rfl, fun k hk => by
  have := (hf j hj).2.2 k (by rw [<- hl j hj]; exact hk)
  simpa using this⟩⟩⟩
theorem FrsIn.below {w w' : World} {fa : Option Addr} {N z : Nat} {F : List (List Px)} {nbs cs : Nat -> Nat} (h : FrsIn w fa N z F nbs cs) (b : Below w.heap.size w w') : FrsIn w' fa N z F nbs cs :=
 h.imp id fun ⟨fb, off, e, hf⟩ => ⟨fb, off, e, fun j hj => ⟨(b.cell (World.block_lt_of_cell? w _ (hf j hj).1)).trans (hf j hj).1, (hf j hj).2.below b⟩⟩
end Go.Proofs.YtekfbphnoibnjaaDoor
namespace Go.Proofs.YtekfbphnoibnjaaDoor
end Go.Proofs.YtekfbphnoibnjaaDoor
