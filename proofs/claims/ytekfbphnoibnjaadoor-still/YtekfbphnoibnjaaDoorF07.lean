/-
  Tallies and few colours: plain facts. What == and != of pixels and of three numbers come to: all three parts are the same. Which of the tallies, which of the colours: slices.IndexFunc, slices.Index. The points of an area, row by row: an iterator. A range over a function: what a round keeps, how such a function returns.
-/
import Derived.Test.YtekfbphnoibnjaaDoorF06
import Derived.Test.YtekfbphnoibnjaaDoorRows
import Derived.WalkKit
import Derived.ChangeKeysEq
import Derived.Deep.WholeRow
import Derived.RangeFuncNested
import Derived.RangeFuncBound
import Derived.RangeFuncCalls
import Derived.RangeFuncLeaves
import Derived.Shelf.Abstract
import Derived.Shelf.RegionOpen
import Derived.OwnWalkIn
import Derived.TacticsInMore
import Derived.LoopNIn
import Derived.LoopIn
import Derived.Test.YtekfbphnoibnjaaDoorF01
import Derived.Test.YtekfbphnoibnjaaDoorF03
import Derived.Deep.RegionHeld3
import Derived.RangeFuncWrites
import Derived.RangeFuncFrom
import Derived.RangeFuncOwn
import Derived.TacticsIn
import Derived.RegionIn
namespace Go.Proofs.YtekfbphnoibnjaaDoor
open Go.RowKit
open Flm (Px FS okPx)
open Pk (find tally tallies coloursL index col1 choice fewl num ones)
theorem tallies_nil (l : List Tl) : tallies [] l = some l := rfl
theorem tallies_cons (c : Px) (cs : List Px) (l : List Tl) : tallies (c :: cs) l = if find c l < l.length \/ l.length < 4 then tallies cs (tally l c) else none := rfl
theorem tallies_snoc : ∀ (cs : List Px) (l : List Tl) (c : Px), tallies (cs ++ [c]) l = (tallies cs l).bind fun L => if find c L < L.length \/ L.length < 4 then some (tally L c) else none
 | [], l, c => by
  rw [List.nil_append, tallies_cons, tallies_nil]
  rfl
 | d :: cs, l, c => by
  rw [List.cons_append, tallies_cons, tallies_cons]
  split
  ·exact tallies_snoc cs _ c
  ·rfl
theorem tallies_none : ∀ (cs : List Px) (l : List Tl) (ds : List Px), tallies cs l = none -> tallies (cs ++ ds) l = none
 | [], l, ds, h => by rw [tallies_nil] at h; cases h
 | d :: cs, l, ds, h => by
  rw [List.cons_append, tallies_cons]
  rw [tallies_cons] at h
  split
  ·rename_i h1
   rw [if_pos h1] at h
   exact tallies_none cs _ ds h
  ·rfl
theorem find_le (c : Px) : ∀ l : List Tl, find c l <= l.length
 | [] => Nat.le_refl _
 | t :: l => by
  unfold find
  split
  ·exact Nat.zero_le _
  ·have := find_le c l
   rw [List.length_cons]; omega
def CntOk (N : Nat) (l : List Tl) : Prop := ∀ t ∈ l, 0 <= t.2 /\ t.2 <= N
theorem CntOk.tally {N : Nat} {l : List Tl} (h : CntOk N l) (c : Px) : CntOk (N + 1) (tally l c) := by
 intro t ht
 unfold Pk.tally at ht
 split at ht
 ·rename_i hf
  rcases List.mem_or_eq_of_mem_set ht with h1 | h1
  ·have := h t h1; omega
  ·have h2 : l.getD (find c l) tl0 ∈ l := by rw [List.getD_eq_getElem?_getD, List.getElem?_eq_getElem hf]; exact List.getElem_mem hf
   have h3 := h _ h2
   rw [h1]
   exact ⟨Int.le_add_one h3.1, Int.add_le_add_right h3.2 1⟩
 ·rcases List.mem_append.1 ht with h1 | h1
  ·have := h t h1; omega
  ·rw [List.mem_singleton.1 h1]; dsimp only; omega
theorem tally_old {l : List Tl} {c : Px} (h : find c l < l.length) : tally l c = l.set (find c l) (c, (l.getD (find c l) tl0).2 + 1) := if_pos h
theorem tally_new {l : List Tl} {c : Px} (h : ¬ find c l < l.length) : tally l c = l ++ [(c, 1)] := if_neg h
theorem find_get {l : List Tl} {c : Px} (h : find c l < l.length) : ∃ n, l[find c l]? = some (c, n) := by
 have h1 := Pk.find_lt h
 rw [List.getD_eq_getElem?_getD, List.getElem?_eq_getElem h] at h1
 rw [List.getElem?_eq_getElem h]
 exact ⟨(l[find c l]).2, congrArg some (Prod.ext h1 rfl)⟩
theorem snoc_set {l : List Tl} (a b : Tl) : (l ++ [a]).set l.length b = l ++ [b] := by
 rw [List.set_append_right _ _ (Nat.le_refl _), Nat.sub_self]; rfl
theorem find_drop (c : Px) : ∀ (l : List Tl) (k : Nat), (∀ j t, j < k -> l[j]? = some t -> t.1 ≠ c) -> k <= l.length -> (∀ t, l[k]? = some t -> t.1 = c) -> find c l = k
 | [], k, _, h, _ => by simp at h; exact h.symm
 | t :: l, 0, _, _, h => by
  unfold find
  rw [if_pos (h t rfl)]
 | t :: l, k + 1, h1, h2, h3 => by
  unfold find
  rw [if_neg (h1 0 t (by omega) rfl), find_drop c l k (fun j s hj hs => h1 (j + 1) s (by omega) hs) (by simpa using h2) (fun s hs => h3 s hs)]
theorem index_drop (c : Px) : ∀ (l : List Px) (k : Nat), (∀ j t, j < k -> l[j]? = some t -> t ≠ c) -> l[k]? = some c -> index c l = k
 | [], k, _, h => by simp at h
 | t :: l, 0, _, h => by
  unfold index
  rw [if_pos (by simpa using h)]
 | t :: l, k + 1, h1, h3 => by
  unfold index
  rw [if_neg (h1 0 t (by omega) rfl), index_drop c l k (fun j s hj hs => h1 (j + 1) s (by omega) hs) (by simpa using h3)]
theorem num8_len {m : Nat} (h : m <= 255) (k : Nat) : (num k m).length <= 19 := by
 have := Pk.num_len k m
 have := Pk.dig_le (m := m) (by omega)
 omega
theorem col1_ok {c : Px} (hc : okPx c) : Pack.BitsOk (col1 c) /\ (col1 c).length <= 57 := by
 obtain ⟨⟨a1, a2⟩, ⟨a3, a4⟩, a5, a6⟩ := hc
 unfold col1
 refine ⟨Pk.ok_app (Pk.num_ok (by omega) (by decide)) (Pk.ok_app (Pk.num_ok (by omega) (by decide)) (Pk.num_ok (by omega) (by decide))), ?_⟩
 have h1 := num8_len (m := c.1.toNat) (by omega) 224
 have h2 := num8_len (m := c.2.1.toNat) (by omega) 224
 have h3 := num8_len (m := c.2.2.toNat) (by omega) 224
 rw [List.length_append, List.length_append]
 omega
theorem choice_ok {last n : Nat} (hn : n <= 3) : Pack.BitsOk (choice last n) /\ (choice last n).length <= 4 := by
 unfold choice
 have h1 := Pk.ones_len 250 n 0
 refine ⟨Pk.ok_app (Pk.ones_ok 250 n 0 (by omega)) ?_, ?_⟩
 ·split
  ·exact Pk.ok_cons (by omega) (.inl rfl) Pk.ok_nil
  ·exact Pk.ok_nil
 ·rw [List.length_append]
  split <;> simp only [List.length_cons, List.length_nil] <;> omega
theorem flatMap_snoc {α β : Type} (f : α -> List β) (l : List α) (a : α) : (l ++ [a]).flatMap f = l.flatMap f ++ f a := by
 rw [List.flatMap_append, List.flatMap_cons, List.flatMap_nil, List.append_nil]
theorem take_snoc {α : Type} {l : List α} {k : Nat} {c : α} (h : l[k]? = some c) : l.take (k + 1) = l.take k ++ [c] := by
 rw [List.take_add_one, h]; rfl
end Go.Proofs.YtekfbphnoibnjaaDoor
namespace Go.Proofs.YtekfbphnoibnjaaDoor
theorem cellsU8 : Tryd.prog.cellsOf 5 = 1 := by kernel_rfl
theorem part1 {P : Program} {e : TypeId} {k : IntKind} (he : P.underlying e = some (.int k)) (w : World) (xs : Array Value) (i : Nat) (v : Value) (hv : xs[i]? = some v) : (part e xs i).run P w = .ok v w := by
 simp [part, isAgg, run_underlying he, hv]
theorem eq3 {P : Program} {t e : TypeId} {k : IntKind} (ht : P.underlying t = some (.array 3 e)) (he : P.underlying e = some (.int k)) (hc : P.cellsOf e = 1) (w : World) (a b c a' b' c' : Int) :
  Sem.run P (Op.equalIn 10000 t (.agg #[.int k a, .int k b, .int k c]) (.agg #[.int k a', .int k b', .int k c'])) w = .ok (a == a' && (b == b' && c == c')) w := by
 obtain ⟨i, hi⟩ := info_of_underlying he
 rw [run_equalIn_array w 9999 _ _ ht hi, hc]
 have r3 : List.range 3 = [0, 1, 2] := rfl
 rw [r3]
 simp only [Op.eqItems, Sem.run_bind]
 rw [part1 he w _ _ (.int k a) rfl]
 simp only [Result.andThen_ok]
 rw [part1 he w _ _ (.int k a') rfl]
 simp only [Result.andThen_ok, run_equalIn_int w _ e k k _ _ he]
 cases h1 : (a == a')
 ·simp
 simp only [Bool.not_true, Bool.false_eq_true, if_false, Sem.run_bind]
 rw [part1 he w _ _ (.int k b) rfl]
 simp only [Result.andThen_ok]
 rw [part1 he w _ _ (.int k b') rfl]
 simp only [Result.andThen_ok, run_equalIn_int w _ e k k _ _ he]
 cases h2 : (b == b')
 ·simp
 simp only [Bool.not_true, Bool.false_eq_true, if_false, Sem.run_bind]
 rw [part1 he w _ _ (.int k c) rfl]
 simp only [Result.andThen_ok]
 rw [part1 he w _ _ (.int k c') rfl]
 simp only [Result.andThen_ok, run_equalIn_int w _ e k k _ _ he]
 cases h3 : (c == c')
 ·simp
 ·simp
theorem eqPix (w : World) (a b c a' b' c' : Int) :
  Sem.run Tryd.prog (Op.equalIn 10000 40 (.agg #[.int .u8 a, .int .u8 b, .int .u8 c]) (.agg #[.int .u8 a', .int .u8 b', .int .u8 c'])) w = .ok (a == a' && (b == b' && c == c')) w :=
 eq3 Tryd.underlying40 Tryd.underlying5 cellsU8 w a b c a' b' c'
end Go.Proofs.YtekfbphnoibnjaaDoor
namespace Go.Proofs.YtekfbphnoibnjaaDoor
open Go.RowKit
open Flm (Px FS okPx)
open Pk (find tally tallies index)
def sameP (a b : Px) : Bool := a.1 == b.1 && (a.2.1 == b.2.1 && a.2.2 == b.2.2)
theorem sameP_iff (a b : Px) : sameP a b = true ↔ a = b := by
 obtain ⟨a0, a1, a2⟩ := a
 obtain ⟨b0, b1, b2⟩ := b
 simp [sameP]
def findI (c : Px) (l : List Tl) : Int := if find c l < l.length then (find c l : Int) else -1
theorem findI_lt {c : Px} {l : List Tl} (h : find c l < l.length) : findI c l = (find c l : Int) := if_pos h
theorem findI_ge {c : Px} {l : List Tl} (h : ¬ find c l < l.length) : findI c l = -1 := if_neg h
set_option maxHeartbeats 2000000 in
theorem pSameCol (w : World) (K : Nat) (a0 a1 a2 n c0 c1 c2 : Int) (h0 : w.cell? ⟨K, 0, none⟩ = some (.int .u8 c0)) (h1 : w.cell? ⟨K, 1, none⟩ = some (.int .u8 c1)) (h2 : w.cell? ⟨K, 2, none⟩ = some (.int .u8 c2)) :
  Calls Tryd.prog 73 #[.agg #[.int .u8 a0, .int .u8 a1, .int .u8 a2, .int .i64 n], .pointer (some ⟨K, 0, none⟩)] w fun e w' => e = .returned (.bool (sameP (a0, a1, a2) (c0, c1, c2))) /\ Below w.heap.size w w' := by
 obtain ⟨W, hW⟩ : ∃ W, W = w.alloc (.cells #[.int .u8 a0, .int .u8 a1, .int .u8 a2, .int .i64 n] 152) := ⟨_, rfl⟩
 have hB : Below w.heap.size w W := by rw [hW]; exact (Below.refl _ w).alloc (Nat.le_refl _) _
 have hh : W.heap[w.heap.size]? = some (.cells #[.int .u8 a0, .int .u8 a1, .int .u8 a2, .int .i64 n] 152) := by rw [hW]; exact heap_alloc_last w _
 obtain ⟨H, hH⟩ : ∃ H, H = w.heap.size := ⟨_, rfl⟩
 rw [<- hH] at hh
 have c : ∀ (a : Addr) (v : Value), w.cell? a = some v -> W.cell? a = some v := fun a v e => (hB.cell (World.block_lt_of_cell? w _ e)).trans e
 have k0 := c _ _ h0
 have k1 := c _ _ h1
 have k2 := c _ _ h2
 have d0 := cell_of_row _ _ 0 _ _ _ hh
 have d1 := cell_of_row _ _ 1 _ _ _ hh
 have d2 := cell_of_row _ _ 2 _ _ _ hh
 simp at d0 d1 d2
 have heq := fun w => eqPix w a0 a1 a2 c0 c1 c2
 obtain ⟨E, hE⟩ : ∃ E, E = sameP (a0, a1, a2) (c0, c1, c2) := ⟨_, rfl⟩
 have hE' : (a0 == c0 && (a1 == c1 && a2 == c2)) = E := hE.symm
 rw [hE'] at heq
 rw [<- hE]
 have HW : Hid (W = w.alloc (.cells #[.int .u8 a0, .int .u8 a1, .int .u8 a2, .int .i64 n] 152) /\ H = w.heap.size /\ Below w.heap.size w W) := ⟨hW, hH, hB⟩
 clear hW hB hh hH c h0 h1 h2 hE hE'
 go_enter Tryd.func73, Tryd.ntmps73
 go_wp2_with (rw [<- HW.out.1, <- HW.out.2.1])
 go_ret
 exact ⟨rfl, HW.out.2.2⟩
set_option maxHeartbeats 4000000 in
theorem pIndexFunc (w : World) (a : Option Addr) (n cap K : Nat) (l : List Tl) (c : Px) (hn : l.length = n) (hn4 : n <= 4) (h : n = 0 \/ ∃ g, a = some ⟨g, 0, none⟩ /\ ∀ k t, l[k]? = some t -> TalK w g k t) (h0 : w.cell? ⟨K, 0, none⟩ = some (.int .u8 c.1)) (h1 : w.cell? ⟨K, 1, none⟩ = some (.int .u8 c.2.1)) (h2 : w.cell? ⟨K, 2, none⟩ = some (.int .u8 c.2.2)) :
  Calls Tryd.prog 72 #[.slice a n cap, .func (.func 73) #[] #[.pointer (some ⟨K, 0, none⟩)]] w fun e w' => e = .returned (.int .i64 (findI c l)) /\ Below w.heap.size w w' := by
 have HH : Hid (l.length = n /\ (n = 0 \/ ∃ g, a = some ⟨g, 0, none⟩ /\ ∀ k t, l[k]? = some t -> TalK w g k t) /\ w.cell? ⟨K, 0, none⟩ = some (.int .u8 c.1) /\ w.cell? ⟨K, 1, none⟩ = some (.int .u8 c.2.1) /\ w.cell? ⟨K, 2, none⟩ = some (.int .u8 c.2.2)) := ⟨hn, h, h0, h1, h2⟩
 clear hn h h0 h1 h2
 obtain ⟨c0, c1, c2⟩ := c
 go_enter Tryd.func72, Tryd.ntmps72
 go_wp2
 go_loopw [8] (fun v8 wr => ∃ j : Nat, j <= n /\ v8 = .int .i64 j /\ (∀ i t, i < j -> l[i]? = some t -> t.1 ≠ (c0, c1, c2)) /\ Below w.heap.size w wr) (fun v8 _ => n - (intOf v8).toNat)
 case atStart => exact ⟨0, Nat.zero_le _, rfl, fun i t hi => absurd hi (Nat.not_lt_zero _), Below.refl _ _⟩
 case round =>
  obtain ⟨j, hj, rfl, hne, hb⟩ := hrel
  by_cases hlt : j < n
  ·have hlt' : (j : Int) < (n : Int) := by omega
   obtain ⟨e1, e2, e3, e4, e5⟩ := HH.out
   obtain ⟨t, ht⟩ : ∃ t, l[j]? = some t := ⟨l[j]'(by omega), List.getElem?_eq_getElem _⟩
   obtain ⟨⟨t0, t1, t2⟩, tc⟩ := t
   obtain ⟨g, rfl, hg⟩ : ∃ g, a = some ⟨g, 0, none⟩ /\ ∀ k t, l[k]? = some t -> TalK w g k t := e2.resolve_left (by omega)
   obtain ⟨k0, k1, k2, k3⟩ := hg j _ ht
   have cc : ∀ (a : Addr) (v : Value), w.cell? a = some v -> wr.cell? a = some v := fun a v e => (hb.cell (World.block_lt_of_cell? w _ e)).trans e
   have d0 := cc _ _ k0
   have d1 := cc _ _ k1
   have d2 := cc _ _ k2
   have d3 := cc _ _ k3
   dsimp only at d0 d1 d2 d3
   have HC := pSameCol wr K t0 t1 t2 tc c0 c1 c2 (cc _ _ e3) (cc _ _ e4) (cc _ _ e5)
   obtain ⟨E, hE⟩ : ∃ E, E = sameP (t0, t1, t2) (c0, c1, c2) := ⟨_, rfl⟩
   rw [<- hE] at HC
   have HI : Hid ((∀ i t, i < j -> l[i]? = some t -> t.1 ≠ (c0, c1, c2)) /\ Below w.heap.size w wr /\ l[j]? = some ((t0, t1, t2), tc) /\ E = sameP (t0, t1, t2) (c0, c1, c2) /\ l.length = n) := ⟨hne, hb, ht, hE, e1⟩
   clear hne hb ht hE e1 e2 e3 e4 e5 hg k0 k1 k2 k3 cc HH
   cases E with
   | true =>
    go_wp2_with (go_at_call 73; refine HC.mono ?_; rintro e w2 ⟨rfl, b2⟩)
    go_ret
    obtain ⟨i1, i2, i3, i4, i5⟩ := HI.out
    have hc := (sameP_iff _ _).1 i4.symm
    have hf : find (c0, c1, c2) l = j := find_drop _ l j i1 (by omega) (fun t ht => by rw [i3] at ht; rw [<- Option.some.inj ht]; exact hc)
    exact ⟨by rw [findI_lt (by omega), hf]; rfl, i2.trans (b2.mono i2.size)⟩
   | false =>
    go_wp2_with (go_at_call 73; refine HC.mono ?_; rintro e w2 ⟨rfl, b2⟩)
    obtain ⟨i1, i2, i3, i4, i5⟩ := HI.out
    go_roundw
    case rel =>
     refine ⟨j + 1, hlt, by go_num, fun i t hi ht e => ?_, i2.trans (b2.mono i2.size)⟩
     by_cases hij : i < j
     ·exact i1 i t hij ht e
     ·have : i = j := by omega
      subst this
      rw [i3] at ht
      rw [<- Option.some.inj ht] at e
      rw [(sameP_iff _ _).2 e] at i4
      cases i4
    case measure => simp [intOf]; omega
  ·have hlt' : ¬ (j : Int) < (n : Int) := by omega
   have HI : Hid ((∀ i t, i < j -> l[i]? = some t -> t.1 ≠ (c0, c1, c2)) /\ Below w.heap.size w wr) := ⟨hne, hb⟩
   clear hne hb
   go_wp2
   go_ret
   obtain ⟨i1, i2⟩ := HI.out
   have hf : find (c0, c1, c2) l = j := find_drop _ l j i1 (by have := HH.out.1; omega) (fun t ht => by have := (List.getElem?_eq_some_iff.1 ht).1; have := HH.out.1; omega)
   exact ⟨by rw [findI_ge (by have := HH.out.1; omega)]; rfl, i2⟩
def ColsAt (w : World) (g : Nat) (cs : List Px) : Prop := ∀ k c, cs[k]? = some c -> w.cell? ⟨g, k * 3, none⟩ = some (.int .u8 c.1) /\ w.cell? ⟨g, k * 3 + 1, none⟩ = some (.int .u8 c.2.1) /\ w.cell? ⟨g, k * 3 + 2, none⟩ = some (.int .u8 c.2.2)
theorem ColsAt.below {w w' : World} {g : Nat} {cs : List Px} (h : ColsAt w g cs) (f : Below w.heap.size w w') : ColsAt w' g cs := fun k c hk =>
 have cc : ∀ (a : Addr) (v : Value), w.cell? a = some v -> w'.cell? a = some v := fun _ _ e => (f.cell (World.block_lt_of_cell? w _ e)).trans e
 ⟨cc _ _ (h k c hk).1, cc _ _ (h k c hk).2.1, cc _ _ (h k c hk).2.2⟩
theorem ColsAt.frm {S : Nat -> Prop} {w w' : World} {g : Nat} {cs : List Px} (h : ColsAt w g cs) (f : Frm S w w') (hg : ¬ S g) : ColsAt w' g cs := fun k c hk =>
 ⟨f.cell (h k c hk).1 hg, f.cell (h k c hk).2.1 hg, f.cell (h k c hk).2.2 hg⟩
set_option maxHeartbeats 4000000 in
theorem pIndex (w : World) (g n cap : Nat) (cs : List Px) (c : Px) (hn : cs.length = n) (hn4 : n <= 4) (h : ColsAt w g cs) (hc : c ∈ cs) :
  Calls Tryd.prog 64 #[.slice (some ⟨g, 0, none⟩) n cap, .agg #[.int .u8 c.1, .int .u8 c.2.1, .int .u8 c.2.2]] w fun e w' => e = .returned (.int .i64 (index c cs)) /\ Below w.heap.size w w' := by
 obtain ⟨c0, c1, c2⟩ := c
 dsimp only
 obtain ⟨W, hW⟩ : ∃ W, W = w.alloc (.cells #[.int .u8 c0, .int .u8 c1, .int .u8 c2] 40) := ⟨_, rfl⟩
 have hB : Below w.heap.size w W := by rw [hW]; exact (Below.refl _ w).alloc (Nat.le_refl _) _
 obtain ⟨H, hH⟩ : ∃ H, H = w.heap.size := ⟨_, rfl⟩
 have hh : W.heap[H]? = some (.cells #[.int .u8 c0, .int .u8 c1, .int .u8 c2] 40) := by rw [hW, hH]; exact heap_alloc_last w _
 have HH : Hid (cs.length = n /\ ColsAt W g cs /\ (c0, c1, c2) ∈ cs /\ W = w.alloc (.cells #[.int .u8 c0, .int .u8 c1, .int .u8 c2] 40) /\ H = w.heap.size /\ W.heap[H]? = some (.cells #[.int .u8 c0, .int .u8 c1, .int .u8 c2] 40) /\ Below w.heap.size w W) := ⟨hn, h.below hB, hc, hW, hH, hh, hB⟩
 clear hn h hc hW hB hH hh
 go_enter Tryd.func64, Tryd.ntmps64
 go_wp2_with (rw [<- HH.out.2.2.2.1, <- HH.out.2.2.2.2.1])
 go_loopw [8] (fun v8 wr => ∃ j : Nat, j <= n /\ v8 = .int .i64 j /\ (∀ i t, i < j -> cs[i]? = some t -> t ≠ (c0, c1, c2)) /\ Below W.heap.size W wr) (fun v8 _ => n - (intOf v8).toNat)
 case atStart => exact ⟨0, Nat.zero_le _, rfl, fun i t hi => absurd hi (Nat.not_lt_zero _), Below.refl _ _⟩
 case round =>
  obtain ⟨j, hj, rfl, hne, hb⟩ := hrel
  by_cases hlt : j < n
  ·have hlt' : (j : Int) < (n : Int) := by omega
   obtain ⟨e1, e2, e3, e4, e5, e6, e7⟩ := HH.out
   obtain ⟨t, ht⟩ : ∃ t, cs[j]? = some t := ⟨cs[j]'(by omega), List.getElem?_eq_getElem _⟩
   obtain ⟨t0, t1, t2⟩ := t
   obtain ⟨k0, k1, k2⟩ := e2 j _ ht
   have cc : ∀ (a : Addr) (v : Value), W.cell? a = some v -> wr.cell? a = some v := fun a v e => (hb.cell (World.block_lt_of_cell? W _ e)).trans e
   have d0 := cc _ _ k0
   have d1 := cc _ _ k1
   have d2 := cc _ _ k2
   have x0 := cc _ _ (cell_of_row _ _ 0 _ _ _ e6)
   have x1 := cc _ _ (cell_of_row _ _ 1 _ _ _ e6)
   have x2 := cc _ _ (cell_of_row _ _ 2 _ _ _ e6)
   dsimp only at d0 d1 d2
   have heq := fun w => eqPix w c0 c1 c2 t0 t1 t2
   obtain ⟨E, hE⟩ : ∃ E, E = sameP (c0, c1, c2) (t0, t1, t2) := ⟨_, rfl⟩
   have hE' : (c0 == t0 && (c1 == t1 && c2 == t2)) = E := hE.symm
   rw [hE'] at heq
   have HI : Hid ((∀ i t, i < j -> cs[i]? = some t -> t ≠ (c0, c1, c2)) /\ Below W.heap.size W wr /\ cs[j]? = some (t0, t1, t2) /\ E = sameP (c0, c1, c2) (t0, t1, t2) /\ cs.length = n /\ Below w.heap.size w W) := ⟨hne, hb, ht, hE, e1, e7⟩
   clear hne hb ht hE hE' e1 e2 e3 e4 e5 e6 e7 k0 k1 k2 cc HH
   have hdr : Below wr.heap.size wr wr.drew := ⟨rfl, rfl, rfl, Nat.le_refl _, fun _ _ => rfl⟩
   cases E with
   | true =>
    go_wp2_with fail
    go_region
    go_wp2
    go_ret
    obtain ⟨i1, i2, i3, i4, i5, i6⟩ := HI.out
    have hc := (sameP_iff _ _).1 i4.symm
    have hf : index (c0, c1, c2) cs = j := index_drop _ cs j i1 (by rw [i3, hc])
    exact ⟨by rw [hf]; rfl, i6.trans ((i2.trans (hdr.mono i2.size)).mono i6.size)⟩
   | false =>
    go_wp2_with fail
    go_region
    go_wp2
    obtain ⟨i1, i2, i3, i4, i5, i6⟩ := HI.out
    go_roundw
    case rel =>
     refine ⟨j + 1, hlt, by go_num, fun i t hi ht e => ?_, i2.trans (hdr.mono i2.size)⟩
     by_cases hij : i < j
     ·exact i1 i t hij ht e
     ·have : i = j := by omega
      subst this
      rw [i3] at ht
      rw [<- Option.some.inj ht] at e
      rw [(sameP_iff _ _).2 e.symm] at i4
      cases i4
    case measure => simp [intOf]; omega
  ·exfalso
   obtain ⟨i, hi⟩ := List.mem_iff_getElem?.1 HH.out.2.2.1
   have := (List.getElem?_eq_some_iff.1 hi).1
   have := HH.out.1
   exact hne i _ (by omega) hi rfl
end Go.Proofs.YtekfbphnoibnjaaDoor
namespace Go.Proofs.YtekfbphnoibnjaaDoor
open Go.RowKit Go.Shelf
attribute [local go_sem] Oper.semAt_some
set_option maxHeartbeats 400000 in
theorem pPoints (w : World) (x y n : Int) :
  Calls Tryd.prog 45 #[.agg #[.int .i64 x, .int .i64 y, .int .i64 n]] w fun e w' => e = .returned (.func (.func 57) #[] #[.pointer (some ⟨w.heap.size, 0, none⟩)]) /\ w' = w.alloc (.cells #[.int .i64 x, .int .i64 y, .int .i64 n] 88) := by
 go_enter Tryd.func45, Tryd.ntmps45
 go_wp2
 go_ret
 exact ⟨rfl, rfl⟩
abbrev Pt (x y n : Nat) := { p : Nat × Nat // (x <= p.1 /\ p.1 < x + n) /\ y <= p.2 /\ p.2 < y + n }
def encPt {x y n : Nat} (p : Pt x y n) : Array Value := #[.int .i64 p.1.1, .int .i64 p.1.2]
def KpB (b : Nat) (W W' : World) : Prop := W'.heap[b]? = W.heap[b]?
set_option maxHeartbeats 2000000 in
set_option maxRecDepth 100000 in
theorem points1_in (F : Fence) (m : Nat) (hF : F.fn 57) (hro : F.round = none) (hm : 1 <= m) (l b x y n : Nat) (hx : x + n <= 16) (hy : y + n <= 16) (J Jx : List (Pt x y n) -> World -> Prop)
  (hY : ∀ pre p W, J pre W -> pre.length < n * n -> YieldAt F (m - 1) Tryd.prog l (encPt p) W fun e W' => (e = .returned (.bool true) /\ J (pre ++ [p]) W' /\ KpB b W W') \/ (e = .returned (.bool false) /\ Jx (pre ++ [p]) W'))
  (W : World) (hb : W.heap[b]? = some (.cells #[.int .i64 x, .int .i64 y, .int .i64 n] 88 (0, 0))) (h0 : J [] W) :
  CallsIn F m Tryd.prog 57 #[.func (.yield l) #[] #[], .pointer (some ⟨b, 0, none⟩)] W fun e W' => (∃ v, e = .returned v) /\
   ((∃ xs : List (Pt x y n), xs.map (·.1) = Flm.spots x y n /\ J xs W') \/ (∃ pre : List (Pt x y n), pre.map (·.1) <+: Flm.spots x y n /\ Jx pre W')) := by
 refine callsIn_of_wp Tryd.func57 rfl hF ?_ hro
 simp only [Tryd.ntmps57, List.size_toArray, List.length_cons, List.length_nil, Nat.reduceAdd, Nat.reduceSub, Array.replicate_succ, Array.replicate_zero, List.push_toArray, List.append_toArray, List.nil_append, List.cons_append]
 have c0 := cell_of_row _ _ 0 _ _ _ hb
 have c1 := cell_of_row _ _ 1 _ _ _ hb
 have c2 := cell_of_row _ _ 2 _ _ _ hb
 have HBX : Hid (W.heap[b]? = some (.cells #[.int .i64 x, .int .i64 y, .int .i64 n] 88 (0, 0))) := hb
 have HJ0 : Hid (J [] W) := h0
 have HY : Hid (∀ pre p W, J pre W -> pre.length < n * n -> YieldAt F (m - 1) Tryd.prog l (encPt p) W fun e W' => (e = .returned (.bool true) /\ J (pre ++ [p]) W' /\ KpB b W W') \/ (e = .returned (.bool false) /\ Jx (pre ++ [p]) W')) := hY
 clear hb h0 hY
 gi_wp2
 clear c0 c1 c2
 gi_loopw [3, 4] (fun yv _ wr => ∃ (j : Nat) (pre : List (Pt x y n)), j <= n /\ yv = .int .i64 ((y + j : Nat) : Int) /\ pre.map (·.1) ++ Flm.left x y n j 0 = Flm.spots x y n /\ J pre wr /\ wr.heap[b]? = some (.cells #[.int .i64 x, .int .i64 y, .int .i64 n] 88 (0, 0))) (fun yv _ _ => y + n - (intOf yv).toNat)
 case atStart => exact ⟨0, [], by omega, rfl, by simp [Flm.left_zero], HJ0.out, HBX.out⟩
 case round =>
  clear HJ0 HBX
  obtain ⟨j, pre, hj, rfl, hpre, hJ, hb⟩ := hrel
  obtain ⟨Y, hYe⟩ : ∃ Y, Y = y + j := ⟨_, rfl⟩
  rw [<- hYe]
  have c0 := cell_of_row _ _ 0 _ _ _ hb
  have c1 := cell_of_row _ _ 1 _ _ _ hb
  have c2 := cell_of_row _ _ 2 _ _ _ hb
  have HI : Hid (pre.map (·.1) ++ Flm.left x y n j 0 = Flm.spots x y n /\ J pre wr /\ wr.heap[b]? = some (.cells #[.int .i64 x, .int .i64 y, .int .i64 n] 88 (0, 0))) := ⟨hpre, hJ, hb⟩
  have HYE : Hid (Y = y + j) := hYe
  by_cases hlt : j < n
  ·have hlt' : (Y : Int) < (y : Int) + (n : Int) := by omega
   clear hpre hJ hb hYe
   gi_wp2
   clear c0 c1 c2
   gi_loopw [4] (fun xv wi => ∃ (i : Nat) (pre : List (Pt x y n)), i <= n /\ xv = .int .i64 ((x + i : Nat) : Int) /\ pre.map (·.1) ++ Flm.left x y n j i = Flm.spots x y n /\ J pre wi /\ wi.heap[b]? = some (.cells #[.int .i64 x, .int .i64 y, .int .i64 n] 88 (0, 0))) (fun xv _ => x + n - (intOf xv).toNat)
   case atStart => exact ⟨0, pre, by omega, rfl, HI.out.1, HI.out.2.1, HI.out.2.2⟩
   case round =>
    clear HI
    obtain ⟨i, pre, hi, rfl, hpre, hJ, hb⟩ := hrel
    obtain ⟨wi, rfl⟩ : ∃ wi, wi = wr := ⟨_, rfl⟩
    obtain ⟨X, hXe⟩ : ∃ X, X = x + i := ⟨_, rfl⟩
    rw [<- hXe]
    have c0 := cell_of_row _ _ 0 _ _ _ hb
    have c1 := cell_of_row _ _ 1 _ _ _ hb
    have c2 := cell_of_row _ _ 2 _ _ _ hb
    have HXE : Hid (X = x + i) := hXe
    by_cases hlt2 : i < n
    ·have hlt2' : (X : Int) < (x : Int) + (n : Int) := by omega
     have hYe := HYE.out
     have hcons := Flm.left_cons x y n j i hlt hlt2
     rw [<- hXe, <- hYe] at hcons
     have hlen : pre.length < n * n := by
      have := congrArg List.length hpre
      rw [hcons] at this
      simp only [List.length_append, List.length_map, List.length_cons, Flm.spots_len] at this
      omega
     obtain ⟨P, hP⟩ : ∃ P : Pt x y n, P.1 = (X, Y) := ⟨⟨(X, Y), by dsimp only; omega⟩, rfl⟩
     have hen : encPt P = #[.int .i64 X, .int .i64 Y] := by unfold encPt; rw [hP]
     have hyield := HY.out pre P wi hJ hlen
     rw [hen] at hyield
     have HP : Hid (P.1 = (X, Y)) := hP
     clear hP hen
     obtain ⟨fn, tmps, assign, body, hy, hR⟩ := hyield
     have HN : Hid (∀ q : Pt x y n, q.1 = (X, Y) -> (pre ++ [q]).map (·.1) ++ Flm.left x y n j (i + 1) = Flm.spots x y n) := fun q hq => by
      rw [List.map_append, List.append_assoc, <- hpre, hcons]
      simp [hq]
     have HB : Hid (wi.heap[b]? = some (.cells #[.int .i64 x, .int .i64 y, .int .i64 n] 88 (0, 0))) := hb
     clear hpre hJ hb hXe hYe hcons
     gi_wp2
     refine hR.mono ?_
     rintro e W3 (⟨rfl, hJ3, hk3⟩ | ⟨rfl, hJx3⟩)
     ·gi_wp2
      go_roundw
      case rel =>
       have hXe := HXE.out
       exact ⟨i + 1, _, by omega, by rw [show ((x + (i + 1) : Nat) : Int) = (X : Int) + 1 by omega], HN.out _ HP.out, hJ3, hk3.trans HB.out⟩
      case measure => simp [intOf]; omega
     ·gi_wp2
      refine bodyPost_ret (results_none rfl _ _ _) rfl ?_
      exact ⟨⟨_, rfl⟩, .inr ⟨_, ⟨_, HN.out _ HP.out⟩, hJx3⟩⟩
    ·have hlt2' : ¬ ((X : Int) < (x : Int) + (n : Int)) := by omega
     obtain rfl : i = n := by omega
     have HI2 : Hid (pre.map (·.1) ++ Flm.left x y i j i = Flm.spots x y i /\ J pre wi /\ wi.heap[b]? = some (.cells #[.int .i64 x, .int .i64 y, .int .i64 i] 88 (0, 0))) := ⟨hpre, hJ, hb⟩
     clear hpre hJ hb hXe
     gi_wp2
     have hYe := HYE.out
     obtain ⟨p1, p2, p3⟩ := HI2.out
     refine ⟨⟨j + 1, pre, by omega, ?_, by rw [<- p1, Flm.left_row], p2, p3⟩, ?_⟩
     ·rw [show ((y + (j + 1) : Nat) : Int) = (Y : Int) + 1 by omega]
     ·simp [intOf]; omega
  ·have hlt' : ¬ ((Y : Int) < (y : Int) + (n : Int)) := by omega
   obtain rfl : j = n := by omega
   clear hpre hJ hb hYe
   gi_wp2
   go_end0
   obtain ⟨p1, p2, p3⟩ := HI.out
   rw [Flm.left_end, List.append_nil] at p1
   exact ⟨⟨_, rfl⟩, .inl ⟨pre, p1, p2⟩⟩
theorem points_stops (F : Fence) (m : Nat) (hF : F.fn 57) (hro : F.round = none) (hm : 1 <= m) (b x y n : Nat) (hx : x + n <= 16) (hy : y + n <= 16) (w : World) (hb : w.heap[b]? = some (.cells #[.int .i64 x, .int .i64 y, .int .i64 n] 88 (0, 0))) :
  SeqStopsK F m Tryd.prog 57 #[.pointer (some ⟨b, 0, none⟩)] (encPt (x := x) (y := y) (n := n)) (KpB b) (fun xs => xs.map (·.1) = Flm.spots x y n) (fun pre => pre.map (·.1) <+: Flm.spots x y n) (n * n) w :=
 fun l J Jx W hW _ _ hY h0 => points1_in F m hF hro hm l b x y n hx hy J Jx hY W ((hW.block b (heap_lt0 hb)).trans hb) h0
end Go.Proofs.YtekfbphnoibnjaaDoor
namespace Go.Proofs.YtekfbphnoibnjaaDoor
open Go.RowKit Go.Shelf
theorem keeps_frm {S : Nat -> Prop} {W W' : World} (f : Frm S W W') (hS : ∀ k, S k -> ∃ v, W.cell? ⟨k, 0, none⟩ = some v) : KeepsOthers W W' := by
 refine ⟨f.size, fun k o hk ho => ?_⟩
 by_cases hs : S k
 ·obtain ⟨v, hv⟩ := hS k hs
  obtain ⟨o', h1, h2⟩ := cells_of_cell hv
  rw [hk] at h1
  cases h1
  rw [h2] at ho
  cases ho
 ·exact (f.block k (heap_lt0 hk) hs).trans hk
section
variable {P : Program} {F : Fence} {n : Nat} {fn : Func} {R : Ending -> World -> Prop}
theorem retM_none {a : Act} {w : World} {v : Value} (hd : a.defers = []) (hr : (results fn a.tmps).run P w = .ok v w) (h : R (.returned v) w) : bodyPostM F n P fn R .ret a w := by
 show LeavesInM F n P fn a.tmps R a.defers .returning w
 rw [hd]
 exact ⟨v, hr, h⟩
theorem retM_mark {a : Act} {W : World} {v : Value} {D : Nat} (hd : a.defers = [{ target := .collected D, args := #[] }]) (hD : W.heap[D]? = some (.deferred (some []))) (hr : (results fn a.tmps).run P (W.putObj D (.deferred none)) = .ok v (W.putObj D (.deferred none))) (h : R (.returned v) (W.putObj D (.deferred none))) : bodyPostM F n P fn R .ret a W := by
 show LeavesInM F n P fn a.tmps R a.defers .returning W
 rw [hd]
 exact ⟨by simp, .inl ⟨_, _, rfl, run_takeDeferred hD, v, hr, h⟩⟩
end
theorem below3 (w : World) (a b c : Obj) : Below w.heap.size w (((w.alloc a).alloc b).alloc c) := (((Below.refl _ w).alloc (Nat.le_refl _) _).alloc (by simp) _).alloc (by simp; omega) _
end Go.Proofs.YtekfbphnoibnjaaDoor
