/-
  Rows of numbers in memory; what a write leaves alone. A region that draws its order, in a round of a range over a function: as anywhere. What a call leaves alone: every old block but those named. Regions that draw their order, where nothing panics: what may come up, one by one. The reader of a line of bits, as plain arithmetic: no program in sight. Lists of numbers and of bits as they lie in memory; what Squeeze and Stretch are to answer of them, as plain functions.
-/
import Derived.Test.YtekfbphnoibnjaaDoorRows
import Derived.WalkKit
import Derived.WalkSpells
import Derived.WalkLawsBesides
import Derived.WalkSmall
import Derived.Below
import Derived.Deep.QuietTactic
import Derived.BigQuiet
import Derived.RangeFuncCalls
import Derived.RangeFuncFrom
import Derived.OrdersIn
import Derived.OrdersHeld
import Derived.CallsIn
import Derived.TacticsIn
namespace Go.Proofs.YtekfbphnoibnjaaDoor
open Go.RowKit
def ints (zs : List Int) : List Value := zs.map (Value.int .i64)
theorem ints_length (zs : List Int) : (ints zs).length = zs.length := by simp [ints]
theorem ints_set (zs : List Int) (k : Nat) (v : Int) : (ints zs).set k (.int .i64 v) = ints (zs.set k v) := by simp [ints, List.map_set]
theorem ints_get (zs : List Int) (k : Nat) (h : k < zs.length) : (ints zs)[k]? = some (.int .i64 (zs.getD k 0)) := by simp [ints, h]
def Nums (w : World) (B g n : Nat) (zs : List Int) : Prop := w.ownsRow B 3 1 (.slice (some ⟨g, 0, none⟩) n n) n (ints zs)
theorem Nums.len {w : World} {B g n : Nat} {zs : List Int} (h : Nums w B g n zs) : zs.length = n := by
 have := h.1; rw [ints_length] at this; omega
theorem Nums.cell {w : World} {B g n : Nat} {zs : List Int} (h : Nums w B g n zs) (k : Nat) (hk : k < n) : w.cell? ⟨g, k, none⟩ = some (.int .i64 (zs.getD k 0)) := by
 rw [World.ownsRow.cellAt h k (by omega), ints_get _ _ (by rw [h.len]; exact hk)]
theorem Nums.frozen {w : World} {B g n : Nat} {zs : List Int} (h : Nums w B g n zs) (k : Nat) : w.frozen? ⟨g, k, none⟩ = false := World.ownsRow.frozenAt h k
theorem Nums.lt {w : World} {B g n : Nat} {zs : List Int} (h : Nums w B g n zs) : B <= g /\ g < w.heap.size := World.ownsRow.lt h g rfl
theorem Nums.store {w : World} {B g n : Nat} {zs : List Int} (h : Nums w B g n zs) (k : Nat) (v : Int) : Nums (w.setCell ⟨g, k, none⟩ (.int .i64 v)) B g n (zs.set k v) := by
 have := (World.ownsRow.stored h k (.int .i64 v)).1
 rw [ints_set] at this
 exact this
def ch0 : List Int := List.replicate 400 2048
theorem ch0_get (k : Nat) (h : k < 400) : ch0.getD k 0 = 2048 := by
 unfold ch0
 rw [List.getD_eq_getElem?_getD, List.getElem?_replicate, if_pos h]; rfl
theorem grown_setCell (w : World) (b o : Nat) (v : Value) : w.grownBy (w.setCell ⟨b, o, none⟩ v) (some b) :=
 ⟨rfl, rfl, rfl, by simp, fun k _ hk => Below.heap_setCell w ⟨b, o, none⟩ v k (fun e => hk (by simp [e]))⟩
theorem cell_off {w : World} {b o b' o' : Nat} {v u : Value} (h : w.cell? ⟨b, o, none⟩ = some v) (hne : b' ≠ b \/ o' ≠ o) : (w.setCell ⟨b', o', none⟩ u).cell? ⟨b, o, none⟩ = some v := by
 rw [World.cell?_setCell_other]
 ·exact h
 ·intro e
  simp only [Addr.mk.injEq, and_true] at e
  rcases hne with h | h
  ·exact h e.1
  ·exact h e.2
theorem sIb {α : Type} (l : List α) (i : Nat) (a : α) : l.toArray.setIfInBounds i a = (l.set i a).toArray := List.setIfInBounds_toArray ..
theorem sCs {α : Type} (b : α) (l : List α) (i : Nat) (a : α) : (b :: l).set (i + 1) a = b :: l.set i a := rfl
theorem sCz {α : Type} (b : α) (l : List α) (a : α) : (b :: l).set 0 a = a :: l := rfl
end Go.Proofs.YtekfbphnoibnjaaDoor
namespace Go.Proofs.YtekfbphnoibnjaaDoor
open Go.RowKit
variable {P : Program} {ops : Array Oper} {Q : Exit -> Act -> World -> Prop} {md : Region.Mode} {l n : Nat}
theorem wpOp_round (hd : ∀ (i : Nat) (o : Oper), ops[i]? = some o -> ∀ c : Call, o.op ≠ Op.defer c) (hQ : ¬ LetsOut Q) {i : Nat} {K K' : Act -> World -> Prop} {a : Act} {w : World} (hK : ∀ a w, K a w -> K' a w) (h : wpOp P ops Q i K a w) : wpOpIn (Fence.wide.inRound l) n P ops Q i K' a w := by
 unfold wpOp at h
 unfold wpOpIn
 cases ho : ops[i]? with
 | none => simp only [ho] at h ⊢; exact hK _ _ h
 | some o =>
  simp only [ho] at h ⊢
  by_cases hw : Region.wanted o (yielded ops a.tmps) = true
  ·rw [if_pos hw] at h ⊢
   have h := h.resolve_right (fun e => hQ e.2)
   refine ⟨fun _ _ => trivial, ?_⟩
   show o.uponIn (Fence.wide.inRound l) n P a K' Q ((o.semAt (some l) a.eval).run P w)
   rw [Oper.semAt_some l _ _ (hd i o ho)]
   unfold Oper.wp at h
   generalize (execOp a.eval o).run P w = r at h ⊢
   cases r with
   | ok x w' =>
    cases x with
    | value v => exact hK _ _ h
    | skip => exact hK _ _ h
    | defer d => exact hK _ _ h
    | enter f args =>
     refine ⟨fun e => (by cases e), ?_⟩
     refine (CallsIn.inRound l (callsIn_wide.2 h)).mono ?_
     intro e w'' he
     cases e <;> first | exact hK _ _ he | exact he
    | row row args =>
     refine ⟨fun e => (by cases e), fun c cs _ => ?_⟩
     obtain ⟨v, w'', r, st⟩ := h c cs
     exact ⟨v, w'', hK _ _ r, stepsIn_wide.2 st⟩
    | _ => exact h.elim
   | halt x w' =>
    cases x <;> first | exact h | exact h.elim
  ·rw [if_neg hw] at h ⊢
   exact ⟨fun _ _ => trivial, hK _ _ h⟩
theorem wpAny_round (hd : ∀ (i : Nat) (o : Oper), ops[i]? = some o -> ∀ c : Call, o.op ≠ Op.defer c) (hQ : ¬ LetsOut Q) : ∀ (fuel : Nat) (listed : Array Bool) (a : Act) (w : World), wpAny P md ops Q fuel listed a w -> wpAnyIn (Fence.wide.inRound l) n P md ops Q fuel listed a w
 | 0, _, _, _, h => h
 | fuel + 1, _, _, _, h => ⟨h.1, fun i hi => wpOp_round hd hQ (fun a' w' h' => wpAny_round hd hQ fuel _ a' w' h') (h.2 i hi)⟩
theorem region_round {S : World -> Prop} {id : Nat} {a : Act} {w : World} (hm : P.follows .mixedOrders = true) (hd : ∀ (i : Nat) (o : Oper), ops[i]? = some o -> ∀ c : Call, o.op ≠ Op.defer c) (hQ : ¬ LetsOut Q)
  (h : wpAnyH P .any ops Q S ops.size (Array.replicate ops.size false) a w.drew) : (Code.region id ops true).wpIn (Fence.wide.inRound l) n P Q a w :=
 wpIn_region_any hm (wpAny_round hd hQ _ _ _ _ (wpAny_of_held _ _ _ _ h))
theorem wpOp_enter {i : Nat} {o : Oper} {f : FuncId} {args : Array Value} {K : Act -> World -> Prop} {a : Act} {w : World} (ho : ops[i]? = some o) (hw : Region.wanted o (yielded ops a.tmps) = true) (hr : (execOp a.eval o).run P w = .ok (.enter f args) w)
  (h : Calls P f args w fun
   | .returned v, w'' => K (a.put o.dst v) w''
   | .panicked chain, w'' => Q (.panic chain) a w''
   | .outgrown, _ => LetsOut Q) : wpOp P ops Q i K a w := by
 unfold wpOp
 simp only [ho, hw, if_true]
 left
 unfold Oper.wp
 rw [hr]
 exact h
def plainOp (o : Oper) : Bool := match o.op with
 | .defer _ => false
 | _ => true
theorem noDefer {ops : Array Oper} (h : ops.all plainOp = true) : ∀ (i : Nat) (o : Oper), ops[i]? = some o -> ∀ c : Call, o.op ≠ Op.defer c := by
 intro i o hi c hc
 have hm : o ∈ ops := Array.mem_of_getElem? hi
 have := Array.all_eq_true_iff_forall_mem.1 h o hm
 unfold plainOp at this
 rw [hc] at this
 cases this
theorem region_round_at {S : World -> Prop} {id : Nat} {a : Act} {w : World} (N : Nat) (L : Array Bool) (hN : ops.size = N) (hL : Array.replicate N false = L) (hm : P.follows .mixedOrders = true) (hd : ops.all plainOp = true) (hQ : ¬ LetsOut Q)
  (h : wpAnyH P .any ops Q S N L a w.drew) : (Code.region id ops true).wpIn (Fence.wide.inRound l) n P Q a w := by
 refine region_round (S := S) hm (noDefer hd) hQ ?_
 rw [hN, hL]
 exact h
theorem take_at {S : World -> Prop} {i d : Nat} {oi : Oper} {v : Value} {fuel : Nat} {listed : Array Bool} (L : Array Bool) {a : Act} {w : World} (hi : ops[i]? = some oi) (hd : oi.dst = some d) (hL : listed.setIfInBounds i true = L)
  (hs : Region.noSelect ops = true) (hf : Region.free md ops listed i = true) (hr : (Region.ready md ops listed).contains i = true)
  (hQ : ∀ c a w, Q (.panic c) (a.put oi.dst v) w -> Q (.panic c) a w) (hw : Region.wanted oi (yielded ops a.tmps) = true) (hy : ∀ w, S w -> (execOp a.eval oi).run P w = .ok (.value v) w) (hS : S w)
  (h : wpAnyH P md ops Q S fuel L { tmps := a.tmps.setIfInBounds d v, defers := a.defers } w) : wpAnyH P md ops Q S (fuel + 1) listed a w := by
 refine wpAnyH_take hi hs hf hr hQ (Or.inl ⟨hw, hy⟩) hS ?_
 rw [hL]
 have : a.put oi.dst v = { tmps := a.tmps.setIfInBounds d v, defers := a.defers } := by unfold Act.put; rw [hd]
 rw [this]
 exact h
theorem tk_at {S : World -> Prop} (i d : Nat) (v : Value) {oi : Oper} {fuel : Nat} {listed : Array Bool} (L : Array Bool) {a : Act} {w : World} (hi : ops[i]? = some oi) (hd : oi.dst = some d) (hL : listed.setIfInBounds i true = L)
  (hb : (Region.noSelect ops && Region.free md ops listed i && (Region.ready md ops listed).contains i) = true) (hw : Region.wanted oi (yielded ops a.tmps) = true) (hy : ∀ w, S w -> (execOp a.eval oi).run P w = .ok (.value v) w) (hS : S w)
  (h : wpAnyH P md ops Q S fuel L { tmps := a.tmps.setIfInBounds d v, defers := a.defers } w) (hQ : ∀ c a w, Q (.panic c) (a.put oi.dst v) w -> Q (.panic c) a w := by exact fun _ _ _ h => h) : wpAnyH P md ops Q S (fuel + 1) listed a w := by
 simp only [Bool.and_eq_true] at hb
 exact take_at L hi hd hL hb.1.1 hb.1.2 hb.2 hQ hw hy hS h
theorem enter_at {S : World -> Prop} {i d : Nat} {o : Oper} {f : FuncId} {args : Array Value} {fuel : Nat} {listed : Array Bool} (L : Array Bool) {a : Act} {w : World} (hr : Region.ready md ops listed = [i]) (ho : ops[i]? = some o) (hd : o.dst = some d) (hL : listed.setIfInBounds i true = L)
  (hw : Region.wanted o (yielded ops a.tmps) = true) (hrun : (execOp a.eval o).run P w = .ok (.enter f args) w) (R : Value -> World -> Prop) (hc : Calls P f args w fun e w' => ∃ v, e = .returned v /\ R v w')
  (h : ∀ v w', R v w' -> S w' /\ wpAnyH P md ops Q S fuel L { tmps := a.tmps.setIfInBounds d v, defers := a.defers } w') : wpAnyH P md ops Q S (fuel + 1) listed a w := by
 refine wpAnyH_all hr (by simp) ?_
 intro j hj
 obtain rfl : j = i := by simpa using hj
 refine wpOp_enter ho hw hrun (hc.mono ?_)
 rintro e w' ⟨v, rfl, hR⟩
 obtain ⟨h1, h2⟩ := h v w' hR
 refine ⟨h1, ?_⟩
 rw [hL]
 have : a.put o.dst v = { tmps := a.tmps.setIfInBounds d v, defers := a.defers } := by unfold Act.put; rw [hd]
 rw [this]
 exact h2
end Go.Proofs.YtekfbphnoibnjaaDoor
namespace Go.Proofs.YtekfbphnoibnjaaDoor
open Go.RowKit
structure Frm (S : Nat -> Prop) (w w' : World) : Prop where
 os : w'.os = w.os
 tape : w'.tape = w.tape
 output : w'.output = w.output
 size : w.heap.size <= w'.heap.size
 block : ∀ k, k < w.heap.size -> ¬ S k -> w'.heap[k]? = w.heap[k]?
theorem Frm.refl (S : Nat -> Prop) (w : World) : Frm S w w := ⟨rfl, rfl, rfl, Nat.le_refl _, fun _ _ _ => rfl⟩
theorem Frm.trans {S : Nat -> Prop} {a b c : World} (h : Frm S a b) (k : Frm S b c) : Frm S a c :=
 ⟨k.os.trans h.os, k.tape.trans h.tape, k.output.trans h.output, Nat.le_trans h.size k.size, fun i hi hn => (k.block i (Nat.lt_of_lt_of_le hi h.size) hn).trans (h.block i hi hn)⟩
theorem Frm.mono {S T : Nat -> Prop} {a b : World} (h : Frm S a b) (hs : ∀ k, k < a.heap.size -> S k -> T k) : Frm T a b :=
 ⟨h.os, h.tape, h.output, h.size, fun i hi hn => h.block i hi (fun e => hn (hs i hi e))⟩
theorem Frm.alloc {S : Nat -> Prop} {a w : World} (h : Frm S a w) (o : Obj) : Frm S a (w.alloc o) :=
 ⟨h.os, h.tape, h.output, by rw [World.size_alloc]; exact Nat.le_succ_of_le h.size, fun i hi hn => (Below.heap_alloc w o i (Nat.lt_of_lt_of_le hi h.size)).trans (h.block i hi hn)⟩
theorem Frm.setCell {S : Nat -> Prop} {a w : World} (h : Frm S a w) {p : Addr} (hp : S p.block \/ a.heap.size <= p.block) (u : Value) : Frm S a (w.setCell p u) :=
 ⟨h.os, h.tape, h.output, by rw [World.size_setCell]; exact h.size, fun i hi hn => (Below.heap_setCell w p u i (fun e => by
  rcases hp with hp | hp
  ·exact hn (by rw [e]; exact hp)
  ·rw [e] at hi; omega)).trans (h.block i hi hn)⟩
theorem Frm.drew {S : Nat -> Prop} {a w : World} (h : Frm S a w) : Frm S a w.drew := ⟨h.os, h.tape, h.output, h.size, h.block⟩
theorem Frm.drewN {S : Nat -> Prop} {a w : World} (h : Frm S a w) (n : Nat) : Frm S a (w.drewN n) := h.trans ⟨rfl, rfl, rfl, Nat.le_refl _, fun _ _ _ => rfl⟩
theorem Frm.of_below {S : Nat -> Prop} {a b : World} (h : Below a.heap.size a b) : Frm S a b := ⟨h.os, h.tape, h.output, h.size, fun i hi _ => h.block i hi⟩
theorem Frm.below {S : Nat -> Prop} {B : Nat} {a b : World} (h : Frm S a b) (hB : B <= a.heap.size) (hs : ∀ k, S k -> B <= k) : Below B a b :=
 ⟨h.os, h.tape, h.output, h.size, fun i hi => h.block i (Nat.lt_of_lt_of_le hi hB) (fun e => by have := hs i e; omega)⟩
theorem Frm.cell {S : Nat -> Prop} {a b : World} (h : Frm S a b) {p : Addr} {v : Value} (hc : a.cell? p = some v) (hn : ¬ S p.block) : b.cell? p = some v :=
 (World.cell?_of_block (h.block p.block (World.block_lt_of_cell? a p hc) hn)).trans hc
theorem Frm.grown {S : Nat -> Prop} {a b c : World} {row : Option Nat} (h : Frm S a b) (hg : b.grownBy c row) (hr : ∀ k, row = some k -> S k \/ a.heap.size <= k) : Frm S a c :=
 ⟨hg.os.trans h.os, hg.tape.trans h.tape, hg.output.trans h.output, Nat.le_trans h.size hg.size, fun i hi hn => (hg.block i (Nat.lt_of_lt_of_le hi h.size) (fun e => by
  rcases hr i e.symm with k | k
  ·exact hn k
  ·omega)).trans (h.block i hi hn)⟩
theorem Frm.owns {S : Nat -> Prop} {a b : World} (h : Frm S a b) {base : Nat} {e : TypeId} {size : Nat} {v : Value} {n : Nat} {xs : List Value} (ho : a.ownsRow base e size v n xs) (hn : ∀ k, v.ownBlock = some k -> ¬ S k) : b.ownsRow base e size v n xs := by
 obtain ⟨h1, h2⟩ := ho
 refine ⟨h1, ?_⟩
 rcases h2 with h2 | ⟨g, cap, cur, rfl, hb, hg, hc⟩
 ·exact .inl h2
 ·have hlt : g < a.heap.size := by
   rcases Nat.lt_or_ge g a.heap.size with h' | h'
   ·exact h'
   ·rw [Array.getElem?_eq_none h'] at hg; cases hg
  exact .inr ⟨g, cap, cur, rfl, hb, (h.block g hlt (hn g rfl)).trans hg, hc⟩
theorem Frm.nums {S : Nat -> Prop} {a b : World} (h : Frm S a b) {B g n : Nat} {zs : List Int} (ho : Nums a B g n zs) (hn : ¬ S g) : Nums b B g n zs :=
 h.owns ho (fun k e => by simp [Value.ownBlock] at e; subst e; exact hn)
end Go.Proofs.YtekfbphnoibnjaaDoor
namespace Go.Proofs.YtekfbphnoibnjaaDoor
open Go.RowKit
def calmPost (K : Act -> World -> Prop) : Exit -> Act -> World -> Prop
 | .normal, a, w => K a w
 | _, _, _ => False
theorem region_calm {P : Program} {ops : Array Oper} {Q : Exit -> Act -> World -> Prop} {S : World -> Prop} {id : Nat} {a : Act} {w : World} (N : Nat) (L : Array Bool) (hN : ops.size = N) (hL : Array.replicate N false = L) (hm : P.follows .mixedOrders = true)
  (h : wpAnyH P .any ops (calmPost (Q .normal)) S N L a w.drew) : (Code.region id ops true).wp P Q a w := by
 refine Code.wp_mono (Q := calmPost (Q .normal)) (fun e a w hq => ?_) (wp_region_held (S := S) hm ?_)
 ·cases e <;> first | exact hq | exact hq.elim
 ·rw [hN, hL]; exact h
section
variable {P : Program} {ops : Array Oper} {Q : Exit -> Act -> World -> Prop} {S : World -> Prop}
theorem wpOp_value {i : Nat} {o : Oper} {v : Value} {K : Act -> World -> Prop} {a : Act} {w w' : World} (ho : ops[i]? = some o) (hw : Region.wanted o (yielded ops a.tmps) = true) (hr : (execOp a.eval o).run P w = .ok (.value v) w') (h : K (a.put o.dst v) w') : wpOp P ops Q i K a w := by
 unfold wpOp
 simp only [ho, hw, if_true]
 left
 unfold Oper.wp
 rw [hr]
 exact h
theorem put_at {a : Act} {d : Option Nat} {k : Nat} (h : d = some k) (v : Value) : a.put d v = { tmps := a.tmps.setIfInBounds k v, defers := a.defers } := by unfold Act.put; rw [h]
theorem wpOp_skip {i : Nat} {o : Oper} {K : Act -> World -> Prop} {a : Act} {w w' : World} (ho : ops[i]? = some o) (hw : Region.wanted o (yielded ops a.tmps) = true) (hr : (execOp a.eval o).run P w = .ok .skip w') (h : K (a.put o.dst undef) w') : wpOp P ops Q i K a w := by
 unfold wpOp
 simp only [ho, hw, if_true]
 left
 unfold Oper.wp
 rw [hr]
 exact h
theorem store_at {i : Nat} {o : Oper} {fuel : Nat} {listed : Array Bool} (L : Array Bool) {a : Act} {w w' : World} (hr : Region.ready .any ops listed = [i]) (ho : ops[i]? = some o) (hd : o.dst = none) (hL : listed.setIfInBounds i true = L)
  (hw : Region.wanted o (yielded ops a.tmps) = true) (hrun : (execOp a.eval o).run P w = .ok .skip w') (hS : S w') (h : wpAnyH P .any ops Q S fuel L a w') : wpAnyH P .any ops Q S (fuel + 1) listed a w := by
 refine wpAnyH_all hr (by simp) ?_
 intro j hj
 obtain rfl : j = i := by simpa using hj
 refine wpOp_skip ho hw hrun ⟨hS, ?_⟩
 rw [hL]
 have : a.put o.dst undef = a := by unfold Act.put; rw [hd]
 rw [this]
 exact h
end
section
variable {P : Program} {ops : Array Oper} {Q : Exit -> Act -> World -> Prop} {md : Region.Mode}
theorem val_at {S : World -> Prop} {i d : Nat} {o : Oper} {v : Value} {fuel : Nat} {listed : Array Bool} (L : Array Bool) {a : Act} {w w' : World} (hr : Region.ready md ops listed = [i]) (ho : ops[i]? = some o) (hd : o.dst = some d) (hL : listed.setIfInBounds i true = L)
  (hw : Region.wanted o (yielded ops a.tmps) = true) (hrun : (execOp a.eval o).run P w = .ok (.value v) w') (hS : S w')
  (h : wpAnyH P md ops Q S fuel L { tmps := a.tmps.setIfInBounds d v, defers := a.defers } w') : wpAnyH P md ops Q S (fuel + 1) listed a w := by
 refine wpAnyH_all hr (by simp) ?_
 intro j hj
 obtain rfl : j = i := by simpa using hj
 refine wpOp_value ho hw hrun ⟨hS, ?_⟩
 rw [hL, put_at hd]
 exact h
end
section
variable {P : Program} {ops : Array Oper} {Q : Exit -> Act -> World -> Prop} {md : Region.Mode}
theorem pair_at {S : World -> Prop} {i j di dj : Nat} {oi oj : Oper} {vi vj : Value} {fuel : Nat} {listed : Array Bool} (Li Lj Lf : Array Bool) {T Ti Tj Tf : Array Value} {ds : List Deferred} {w w' : World}
  (hTi : T.setIfInBounds di vi = Ti) (hTj : T.setIfInBounds dj vj = Tj) (hTf : Ti.setIfInBounds dj vj = Tf) (hTf' : Tj.setIfInBounds di vi = Tf)
  (hr : Region.ready md ops listed = [i, j]) (hri : Region.ready md ops Li = [j]) (hrj : Region.ready md ops Lj = [i]) (hoi : ops[i]? = some oi) (hoj : ops[j]? = some oj) (hdi : oi.dst = some di) (hdj : oj.dst = some dj)
  (hLi : listed.setIfInBounds i true = Li) (hLj : listed.setIfInBounds j true = Lj) (hLf : Li.setIfInBounds j true = Lf) (hLf' : Lj.setIfInBounds i true = Lf)
  (hwi : Region.wanted oi (yielded ops T) = true) (hwj : Region.wanted oj (yielded ops Ti) = true) (hwj' : Region.wanted oj (yielded ops T) = true) (hwi' : Region.wanted oi (yielded ops Tj) = true)
  (g1 : (execOp (Act.eval { tmps := T, defers := ds }) oi).run P w = .ok (.value vi) w) (g2 : (execOp (Act.eval { tmps := Ti, defers := ds }) oj).run P w = .ok (.value vj) w')
  (g3 : (execOp (Act.eval { tmps := T, defers := ds }) oj).run P w = .ok (.value vj) w') (g4 : (execOp (Act.eval { tmps := Tj, defers := ds }) oi).run P w' = .ok (.value vi) w')
  (hS : S w) (hS' : S w') (h : wpAnyH P md ops Q S fuel Lf { tmps := Tf, defers := ds } w') : wpAnyH P md ops Q S (fuel + 2) listed { tmps := T, defers := ds } w := by
 refine wpAnyH_all hr (by simp) ?_
 intro k hk
 rcases (by simpa using hk : k = i \/ k = j) with rfl | rfl
 ·refine wpOp_value hoi hwi g1 ⟨hS, ?_⟩
  rw [hLi, put_at hdi]
  dsimp only
  rw [hTi]
  refine wpAnyH_all hri (by simp) ?_
  intro k hk
  obtain rfl : k = j := by simpa using hk
  refine wpOp_value hoj hwj g2 ⟨hS', ?_⟩
  rw [hLf, put_at hdj]
  dsimp only
  rw [hTf]
  exact h
 ·refine wpOp_value hoj hwj' g3 ⟨hS', ?_⟩
  rw [hLj, put_at hdj]
  dsimp only
  rw [hTj]
  refine wpAnyH_all hrj (by simp) ?_
  intro k hk
  obtain rfl : k = i := by simpa using hk
  refine wpOp_value hoi hwi' g4 ⟨hS', ?_⟩
  rw [hLf', put_at hdi]
  dsimp only
  rw [hTf']
  exact h
end
theorem three_set (wr : World) (G : Nat) (u0 u1 u2 : Value) {x0 x1 x2 : Value} (a0 : wr.cell? ⟨G, 0, none⟩ = some x0) (a1 : wr.cell? ⟨G, 1, none⟩ = some x1) (a2 : wr.cell? ⟨G, 2, none⟩ = some x2) (X : World)
  (hX : X = ((wr.setCell ⟨G, 0, none⟩ u0).setCell ⟨G, 1, none⟩ u1).setCell ⟨G, 2, none⟩ u2) :
  X.cell? ⟨G, 0, none⟩ = some u0 /\ X.cell? ⟨G, 1, none⟩ = some u1 /\ X.cell? ⟨G, 2, none⟩ = some u2 /\ Frm (fun k => k = G) wr X := by
 obtain ⟨w1, h1⟩ : ∃ w1, w1 = wr.setCell ⟨G, 0, none⟩ u0 := ⟨_, rfl⟩
 obtain ⟨w2, h2⟩ : ∃ w2, w2 = w1.setCell ⟨G, 1, none⟩ u1 := ⟨_, rfl⟩
 rw [<- h1, <- h2] at hX
 have c10 : w1.cell? ⟨G, 0, none⟩ = some u0 := by rw [h1]; exact World.cell?_setCell_same _ _ _ a0
 have c11 : w1.cell? ⟨G, 1, none⟩ = some x1 := by rw [h1]; exact cell_off a1 (.inr (by decide))
 have c12 : w1.cell? ⟨G, 2, none⟩ = some x2 := by rw [h1]; exact cell_off a2 (.inr (by decide))
 have c20 : w2.cell? ⟨G, 0, none⟩ = some u0 := by rw [h2]; exact cell_off c10 (.inr (by decide))
 have c21 : w2.cell? ⟨G, 1, none⟩ = some u1 := by rw [h2]; exact World.cell?_setCell_same _ _ _ c11
 have c22 : w2.cell? ⟨G, 2, none⟩ = some x2 := by rw [h2]; exact cell_off c12 (.inr (by decide))
 have f1 : Frm (fun k => k = G) wr w1 := by rw [h1]; exact Frm.setCell (p := ⟨G, 0, none⟩) (Frm.refl (fun k => k = G) wr) (.inl rfl) _
 have f2 : Frm (fun k => k = G) wr w2 := by rw [h2]; exact Frm.setCell (p := ⟨G, 1, none⟩) f1 (.inl rfl) _
 rw [hX]
 exact ⟨cell_off c20 (.inr (by decide)), cell_off c21 (.inr (by decide)), World.cell?_setCell_same _ _ _ c22, Frm.setCell (p := ⟨G, 2, none⟩) f2 (.inl rfl) _⟩
theorem heap_lt0 {w : World} {k : Nat} {o : Obj} (h : w.heap[k]? = some o) : k < w.heap.size := by
 rcases Nat.lt_or_ge k w.heap.size with h' | h'
 ·exact h'
 ·rw [Array.getElem?_eq_none h'] at h; cases h
end Go.Proofs.YtekfbphnoibnjaaDoor
namespace Go.Proofs.YtekfbphnoibnjaaDoor
structure RS where
 pos : Nat
 rng : Int
 code : Int
 ch : List Int
 err : Int
namespace Rdr
def byteAt (s : ByteArray) (i : Nat) : Int := ((s.data.toList.getD i 0).toNat : Int)
theorem byteAt_bd (s : ByteArray) (i : Nat) : 0 <= byteAt s i /\ byteAt s i <= 255 := by
 unfold byteAt; have := (s.data.toList.getD i 0).toNat_lt; omega
def octB (s : ByteArray) (r : RS) : Int := if r.pos < s.size then byteAt s r.pos else 0
def octS (s : ByteArray) (r : RS) : RS := if r.pos < s.size then { r with pos := r.pos + 1 } else { r with err := if r.err = 0 then 5 else r.err }
def pull (s : ByteArray) (r : RS) : RS := { octS s r with rng := 256 * r.rng, code := 256 * r.code + octB s r }
def norm (s : ByteArray) (r : RS) : RS := if r.rng < 16777216 then pull s r else r
def cut (r : RS) (k : Nat) : Int := r.rng / 4096 * r.ch.getD k 0
def bitV (r : RS) (k : Nat) : Int := if r.err = 0 then (if r.code < cut r k then 0 else 1) else 0
def zero (r : RS) (k : Nat) : RS := { r with rng := cut r k, ch := r.ch.set k (r.ch.getD k 0 + (4096 - r.ch.getD k 0) / 32) }
def one (r : RS) (k : Nat) : RS := { r with rng := r.rng - cut r k, code := r.code - cut r k, ch := r.ch.set k (r.ch.getD k 0 - r.ch.getD k 0 / 32) }
def bitS (s : ByteArray) (r : RS) (k : Nat) : RS := if r.err = 0 then (if r.code < cut r k then norm s (zero r k) else norm s (one r k)) else r
def fail (r : RS) (e : Int) : RS := { r with err := if r.err = 0 then e else r.err }
def four (s : ByteArray) (r : RS) : Nat -> RS
 | 0 => r
 | n + 1 => let q := four s r n; { octS s q with code := 256 * q.code + octB s q }
def start (s : ByteArray) (ch : List Int) : RS :=
 let r := four s ⟨0, 4294967295, 0, ch, 0⟩ 4
 if r.err = 0 /\ 4294967295 <= r.code then fail r 7 else r
def finish (s : ByteArray) (r : RS) : RS := if r.err = 0 /\ r.pos < s.size then { r with err := 6 } else r
def bits (s : ByteArray) : RS -> List Nat -> List Int × RS
 | r, [] => ([], r)
 | r, k :: ks => let q := bits s (bitS s r k) ks; (bitV r k :: q.1, q.2)
def ChOk (ch : List Int) : Prop := ch.length = 400 /\ ∀ k, k < 400 -> 31 <= ch.getD k 0 /\ ch.getD k 0 <= 4065
structure Ok (s : ByteArray) (r : RS) : Prop where
 ch : ChOk r.ch
 pos : r.pos <= s.size
 rng : r.err = 0 -> 16777216 <= r.rng /\ r.rng <= 4294967295
 code : r.err = 0 -> 0 <= r.code /\ r.code < r.rng
 err : 0 <= r.err
theorem getD_set {l : List Int} {i j : Nat} {v : Int} : (l.set i v).getD j 0 = if i = j /\ j < l.length then v else l.getD j 0 := by
 simp only [List.getD_eq_getElem?_getD, List.getElem?_set]
 by_cases h : i = j
 ·subst h
  by_cases h2 : i < l.length
  ·simp [h2]
  ·simp [h2]
 ·simp [h]
theorem ChOk.set {ch : List Int} (h : ChOk ch) {k : Nat} {v : Int} (h1 : 31 <= v) (h2 : v <= 4065) : ChOk (ch.set k v) := by
 refine ⟨by simpa using h.1, fun j hj => ?_⟩
 rw [getD_set]
 split
 ·exact ⟨h1, h2⟩
 ·exact h.2 j hj
theorem mul_bd (a c : Int) (a0 : 4096 <= a) (a1 : a <= 1048575) (c0 : 31 <= c) (c1 : c <= 4065) : 126976 <= a * c /\ a * c + 126976 <= a * 4096 := by
 constructor
 ·have h1 : a * 31 <= a * c := Int.mul_le_mul_of_nonneg_left c0 (by omega)
  omega
 ·have h1 : a * c <= a * 4065 := Int.mul_le_mul_of_nonneg_left c1 (by omega)
  omega
theorem cut_bd {r : RS} {k : Nat} (hk : k < 400) (hc : ChOk r.ch) (h0 : 16777216 <= r.rng) (h1 : r.rng <= 4294967295) :
  126976 <= cut r k /\ cut r k + 126976 <= r.rng := by
 have hb := hc.2 k hk
 have hm := mul_bd (r.rng / 4096) (r.ch.getD k 0) (by omega) (by omega) hb.1 hb.2
 unfold cut
 omega
theorem Ok.pull {s : ByteArray} {r : RS} (ch : ChOk r.ch) (pos : r.pos <= s.size) (err : r.err = 0) (r0 : 126976 <= r.rng) (r1 : r.rng < 16777216) (c0 : 0 <= r.code) (c1 : r.code < r.rng) : Ok s (pull s r) := by
 have hb := byteAt_bd s r.pos
 refine ⟨?_, ?_, ?_, ?_, ?_⟩
 ·unfold Rdr.pull octS; split <;> exact ch
 ·unfold Rdr.pull octS; split <;> (dsimp only; omega)
 ·intro _; unfold Rdr.pull; dsimp only; omega
 ·intro _; unfold Rdr.pull octB; dsimp only; split <;> omega
 ·unfold Rdr.pull octS; split
  ·dsimp only; omega
  ·simp
theorem Ok.norm {s : ByteArray} {r : RS} (ch : ChOk r.ch) (pos : r.pos <= s.size) (err : r.err = 0) (r0 : 126976 <= r.rng) (r1 : r.rng <= 4294967295) (c0 : 0 <= r.code) (c1 : r.code < r.rng) : Ok s (norm s r) := by
 unfold Rdr.norm
 split
 ·exact Ok.pull ch pos err r0 (by assumption) c0 c1
 ·exact ⟨ch, pos, fun _ => by omega, fun _ => ⟨c0, c1⟩, by omega⟩
theorem up_bd (c : Int) (h0 : 31 <= c) (h1 : c <= 4065) : 31 <= c + (4096 - c) / 32 /\ c + (4096 - c) / 32 <= 4065 := by omega
theorem dn_bd (c : Int) (h0 : 31 <= c) (h1 : c <= 4065) : 31 <= c - c / 32 /\ c - c / 32 <= 4065 := by omega
theorem Ok.bitS {s : ByteArray} {r : RS} (h : Ok s r) {k : Nat} (hk : k < 400) : Ok s (bitS s r k) := by
 unfold Rdr.bitS
 by_cases he : r.err = 0
 ·rw [if_pos he]
  obtain ⟨g0, g1⟩ := h.rng he
  obtain ⟨c0, c1⟩ := h.code he
  have hc := cut_bd hk h.ch g0 g1
  have hb := h.ch.2 k hk
  split
  ·rename_i hlt
   exact Ok.norm (h.ch.set (up_bd _ hb.1 hb.2).1 (up_bd _ hb.1 hb.2).2) h.pos he (by unfold zero; dsimp only; omega) (by unfold zero; dsimp only; omega) c0 hlt
  ·rename_i hge
   exact Ok.norm (h.ch.set (dn_bd _ hb.1 hb.2).1 (dn_bd _ hb.1 hb.2).2) h.pos he (by unfold one; dsimp only; omega) (by unfold one; dsimp only; omega) (by unfold one; dsimp only; omega) (by unfold one; dsimp only; omega)
 ·rw [if_neg he]; exact h
def r0 (ch : List Int) : RS := ⟨0, 4294967295, 0, ch, 0⟩
def ctxs (zs : List Int) : List Nat := zs.map Int.toNat
def all (s : ByteArray) (ch : List Int) (zs : List Int) (k : Nat) : List Int × RS := bits s (start s ch) (ctxs (zs.take k))
end Rdr
end Go.Proofs.YtekfbphnoibnjaaDoor
namespace Go.Proofs.YtekfbphnoibnjaaDoor
open Go.RowKit
theorem ret_int {k : IntKind} {a b : Int} (h : a = b) : Ending.returned (.int k a) = .returned (.int k b) := by rw [h]
theorem owns_base {w : World} {base base' : Nat} {e : TypeId} {size : Nat} {v : Value} {n : Nat} {xs : List Value} (h : w.ownsRow base e size v n xs) (hb : base' <= base) : w.ownsRow base' e size v n xs := by
 refine ⟨h.1, ?_⟩
 rcases h.2 with h2 | ⟨g, cap, cur, rfl, hb', hc⟩
 ·exact .inl h2
 ·exact .inr ⟨g, cap, cur, rfl, Nat.le_trans hb hb', hc⟩
end Go.Proofs.YtekfbphnoibnjaaDoor
