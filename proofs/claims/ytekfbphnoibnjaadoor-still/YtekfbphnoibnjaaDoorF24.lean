/-
  The map of places while a frame is looked over: what lies where.
-/
import Derived.Test.YtekfbphnoibnjaaDoorF21
namespace Go.Proofs.YtekfbphnoibnjaaDoor
open Go.RowKit Go.Shelf
open Flm (Px FS okPx)
def kap (z : Nat) (T : List Px) (a : Ar) : Kt := (a.2, Pk.content z T a.2 a.1)
theorem kap_good {z : Nat} {T : List Px} (hT : ∀ p ∈ T, okPx p) {n : Nat} (hn : n <= 16) (q : Nat × Nat) : GoodK (kap z T (q, n)) := by
 refine ⟨hn, ?_, fun p hp => ?_⟩
 ·show (Pk.content z T n q).length = n * n
  unfold Pk.content
  rw [List.length_map, Flm.spots_len]
 ·have hp : p ∈ Pk.content z T n q := hp
  unfold Pk.content at hp
  obtain ⟨r, _, rfl⟩ := List.mem_map.1 hp
  exact Pk.getD_ok hT _
def corners (z n : Nat) : List Ar := (Flm.spots 0 0 (z - n + 1)).map fun q => (q, n)
theorem corners_len (z n : Nat) : (corners z n).length = (z - n + 1) * (z - n + 1) := by unfold corners; rw [List.length_map, Flm.spots_len]
def areasL (z : Nat) : Nat -> List Ar
 | 0 => []
 | i + 1 => areasL z i ++ corners z (4 * 2 ^ i)
theorem MapAt.off {w : World} {base b : Nat} {κ : Ar -> Kt} {L : List Ar} {es : Array MapEntry} {clock : Nat} (h : MapAt w base b κ L es clock) {k : Nat} {o : Obj} (hk : w.heap[k]? = some o) (hb : k ≠ b) (ho : ∀ cs, o ≠ .cells cs 88 (0, 0)) : Off es b k := by
 refine ⟨hb, fun e he e0 => ?_⟩
 obtain ⟨q, _, _, rk, pk⟩ := h.ent e he
 obtain ⟨g, cur, e1, _, e2⟩ := row_block rk pk
 rw [e0] at e1
 obtain rfl := Option.some.inj e1
 rw [hk] at e2
 exact ho cur (Option.some.inj e2)
theorem MapAt.off_new {w : World} {base b : Nat} {κ : Ar -> Kt} {L : List Ar} {es : Array MapEntry} {clock : Nat} (h : MapAt w base b κ L es clock) {k : Nat} (hk : w.heap.size <= k) : Off es b k := by
 have hb : b < w.heap.size := (Array.getElem?_eq_some_iff.1 h.heap).1
 refine ⟨by omega, fun e he e0 => ?_⟩
 obtain ⟨q, _, _, rk, pk⟩ := h.ent e he
 have := (rk.lt k e0).2
 omega
theorem MapAt.off_low {w : World} {base b : Nat} {κ : Ar -> Kt} {L : List Ar} {es : Array MapEntry} {clock : Nat} (h : MapAt w base b κ L es clock) {k : Nat} (hb : base <= b) (hk : k < base) : Off es b k := by
 refine ⟨by omega, fun e he e0 => ?_⟩
 obtain ⟨q, _, _, rk, pk⟩ := h.ent e he
 have := (rk.lt k e0).1
 omega
structure LkW (w : World) (z nb C : Nat) (T : List Px) (H n A4 : Nat) (Ds : List Nat) (L : List Ar) (W : World) : Prop where
 hH : H = w.heap.size
 b0 : Below w.heap.size w W
 p0 : W.heap[H]? = some (.cells #[.int .i64 z, .slice (some ⟨nb, 0, none⟩) (z * z) C] 77 (0, 0))
 p2 : W.heap[H + 1 + 1]? = some (.cells #[.map (some (H + 1))] 79 (0, 0))
 p4 : W.heap[A4]? = some (.cells #[.int .i64 n] 3 (0, 0))
 ds : ∀ D ∈ Ds, W.heap[D]? = some (.deferred (some [])) /\ H <= D
 nd : Ds.Nodup
 mp : ∃ es clock, MapAt W H (H + 1) (kap z T) L es clock
theorem LkW.frm {w : World} {z nb C : Nat} {T : List Px} {H n A4 : Nat} {Ds : List Nat} {L : List Ar} {W W' : World} (h : LkW w z nb C T H n A4 Ds L W) {S : Nat -> Prop} (f : Frm S W W') (hS : ∀ k, k < W.heap.size -> S k -> w.heap.size <= k /\ k ≠ H + 1 /\ k ∉ Ds /\ ∀ o, W.heap[k]? = some o -> o.isCells = false) : LkW w z nb C T H n A4 Ds L W' := by
 have hc : ∀ {k : Nat} {cs : Array Value} {t : TypeId} {q : Nat × Nat}, W.heap[k]? = some (.cells cs t q) -> W'.heap[k]? = some (.cells cs t q) := fun {k cs t q} hk => by
  refine (f.block k (heap_lt0 hk) fun hs => ?_).trans hk
  have := (hS k (heap_lt0 hk) hs).2.2.2 _ hk
  cases this
 have hlt : w.heap.size <= W.heap.size := h.b0.size
 refine ⟨h.hH, h.b0.trans ⟨f.os, f.tape, f.output, f.size, fun k hk => f.block k (by omega) fun hs => by have := (hS k (by omega) hs).1; omega⟩, hc h.p0, hc h.p2, hc h.p4, fun D hD => ⟨(f.block D (heap_lt0 (h.ds D hD).1) fun hs => (hS D (heap_lt0 (h.ds D hD).1) hs).2.2.1 hD).trans (h.ds D hD).1, (h.ds D hD).2⟩, h.nd, ?_⟩
 obtain ⟨es, clock, m⟩ := h.mp
 refine ⟨es, clock, m.frm f (fun hs => (hS _ (heap_lt0 m.heap) hs).2.1 rfl) fun e he g hg hs => ?_⟩
 obtain ⟨q, _, _, rk, pk⟩ := m.ent e he
 obtain ⟨g', cur, e1, _, e2⟩ := row_block rk pk
 rw [hg] at e1
 obtain rfl := Option.some.inj e1
 have := (hS g (heap_lt0 e2) hs).2.2.2 _ e2
 cases this
theorem LkW.below {w : World} {z nb C : Nat} {T : List Px} {H n A4 : Nat} {Ds : List Nat} {L : List Ar} {W W' : World} (h : LkW w z nb C T H n A4 Ds L W) (f : Below W.heap.size W W') : LkW w z nb C T H n A4 Ds L W' := h.frm (Frm.of_below (S := fun _ => False) f) (fun _ _ e => e.elim)
theorem LkW.add {w : World} {z nb C : Nat} {T : List Px} {H n A4 : Nat} {Ds : List Nat} {L L' : List Ar} {W W3 : World} (h : LkW w z nb C T H n A4 Ds L W) {es es' : Array MapEntry} {clock clock' : Nat} (m : MapAt W H (H + 1) (kap z T) L es clock) (m3 : MapAt W3 H (H + 1) (kap z T) L' es' clock') (f : Frm (fun k => ¬ Off es (H + 1) k) W W3) : LkW w z nb C T H n A4 Ds L' W3 := by
 have hlt : w.heap.size <= W.heap.size := h.b0.size
 have hc : ∀ {k : Nat} {o : Obj}, W.heap[k]? = some o -> k ≠ H + 1 -> (∀ cs, o ≠ .cells cs 88 (0, 0)) -> W3.heap[k]? = some o := fun {k o} hk h1 h2 => (f.block k (heap_lt0 hk) (fun hs => hs (m.off hk h1 h2))).trans hk
 have hn : ∀ {cs : Array Value} {t : TypeId}, t ≠ 88 -> ∀ cs', Obj.cells cs t (0, 0) ≠ .cells cs' 88 (0, 0) := fun {cs t} ht cs' e => by
  injection e with _ e _
  exact ht e
 have h4 : A4 ≠ H + 1 := fun e => by
  have := h.p4
  rw [e, m.heap] at this
  cases this
 refine ⟨h.hH, h.b0.trans ⟨f.os, f.tape, f.output, f.size, fun k hk => f.block k (by omega) fun hs => hs (m.off_low (by omega) (by have := h.hH; omega))⟩, hc h.p0 (by omega) (hn (by decide)), hc h.p2 (by omega) (hn (by decide)), hc h.p4 h4 (hn (by decide)), fun D hD => ⟨hc (h.ds D hD).1 (fun e => ?_) (fun cs e => by cases e), (h.ds D hD).2⟩, h.nd, ⟨es', clock', m3⟩⟩
 have := (h.ds D hD).1
 rw [e, m.heap] at this
 cases this
def cnt (z : Nat) : Nat := if z = 4 then 1 else if z = 8 then 2 else 3
theorem cnt_lt {z i : Nat} (hz : z = 4 \/ z = 8 \/ z = 16) : (i < cnt z -> 4 * 2 ^ i <= z /\ 4 * 2 ^ i <= 16 /\ 4 <= 4 * 2 ^ i /\ i <= 2) /\ (i = cnt z -> z < 4 * 2 ^ i) := by
 rcases hz with rfl | rfl | rfl
 ·refine ⟨fun h => ?_, fun h => by rw [h]; decide⟩
  have : i < 1 := h
  obtain rfl : i = 0 := by omega
  decide
 ·refine ⟨fun h => ?_, fun h => by rw [h]; decide⟩
  have : i < 2 := h
  rcases (by omega : i = 0 \/ i = 1) with rfl | rfl <;> decide
 ·refine ⟨fun h => ?_, fun h => by rw [h]; decide⟩
  have : i < 3 := h
  rcases (by omega : i = 0 \/ i = 1 \/ i = 2) with rfl | rfl | rfl <;> decide
theorem corners_le {z n : Nat} (hz : z <= 16) (hn : 4 <= n) : (corners z n).length <= 169 := by
 rw [corners_len]
 have h : z - n + 1 <= 13 := by omega
 exact Nat.mul_le_mul h h
theorem areasL_len {z : Nat} (hz : z <= 16) : ∀ i, i <= 3 -> (areasL z i).length <= i * 169
 | 0, _ => Nat.le_refl _
 | i + 1, hi => by
  have h1 := areasL_len hz i (by omega)
  have h2 := corners_le hz (n := 4 * 2 ^ i) (by have : 0 < 2 ^ i := Nat.two_pow_pos i; omega)
  unfold areasL
  rw [List.length_append]
  omega
end Go.Proofs.YtekfbphnoibnjaaDoor
