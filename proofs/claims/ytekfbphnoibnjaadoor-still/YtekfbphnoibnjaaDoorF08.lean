/-
  A region that draws its order: calls and boxes that may come up in whatever order. What Turn and Back of the program do, call by call: the numbers they answer, and that nothing old is written. What the document's own Turn and Back do, call by call. A film in the making, as it lies in memory. A pixel of a film in the making is looked at, is put. The program's picture: a pixel, a pixel turned, what is expected.
-/
import Derived.Test.YtekfbphnoibnjaaDoorF01
import Derived.Deep.WholeRow
import Derived.Test.YtekfbphnoibnjaaDoorRows
import Derived.Test.YtekfbphnoibnjaaDoorF02
import Derived.WalkKit
import Derived.WalkSpells
import Derived.WalkLawsBesides
import Derived.Below
import Derived.WalkSmall
import Derived.Deep.QuietTactic
import Derived.BigQuiet
import Derived.RegionTactic
import Derived.ChangeAlike
import Derived.BigRegion
import Derived.Test.YtekfbphnoibnjaaDoorF03
import Derived.Deep.MidRow
import Derived.Laws.ResultCell
import Derived.Deep.RegionLaw
namespace Go.Proofs.YtekfbphnoibnjaaDoor
open Go.RowKit
structure Up where
 u : (FuncId × Array Value × Value) ⊕ Obj
abbrev Up.call (fn : FuncId) (args : Array Value) (v : Value) : Up := ⟨.inl (fn, args, v)⟩
abbrev Up.box (ob : Obj) : Up := ⟨.inr ob⟩
def updB {α : Type} (f : Nat -> α) (i : Nat) (v : α) : Nat -> α := fun j => if j = i then v else f j
theorem updB_same {α : Type} (f : Nat -> α) (i : Nat) (v : α) : updB f i v i = v := if_pos rfl
theorem updB_ne {α : Type} (f : Nat -> α) {i j : Nat} (v : α) (h : j ≠ i) : updB f i v j = f j := if_neg h
def leftOf (k : Nat) (δ : Nat -> Bool) : Nat := ((List.range k).filter fun i => !δ i).length
def doneUp (w : World) (H : Nat) (v : Value) : Up -> Prop
 | ⟨.inl (_, _, u)⟩ => v = u
 | ⟨.inr ob⟩ => ∃ b, v = .pointer (some ⟨b, 0, none⟩) /\ w.heap[b]? = some ob /\ H <= b
def isBox : Up -> Prop
 | ⟨.inl _⟩ => False
 | ⟨.inr _⟩ => True
structure UpAt (k : Nat) (K : Nat -> Up) (H : Nat) (δ : Nat -> Bool) (σ : Nat -> Value) (w : World) : Prop where
 all : ∀ i, i < k -> δ i = true -> doneUp w H (σ i) (K i)
 apart : ∀ i j, i < k -> j < k -> i ≠ j -> δ i = true -> δ j = true -> isBox (K i) -> isBox (K j) -> σ i ≠ σ j
theorem doneUp.below {w w' : World} {H : Nat} {v : Value} {u : Up} (h : doneUp w H v u) (f : Below w.heap.size w w') : doneUp w' H v u := by
 obtain ⟨⟨_, _, _⟩ | ob⟩ := u
 ·exact h
 ·obtain ⟨b, h1, h2, h3⟩ := h
  exact ⟨b, h1, (f.block b (heap_lt0 h2)).trans h2, h3⟩
def runUp (P : Program) (T : Array Value) (o : Oper) (w : World) : Up -> Prop
 | ⟨.inl (fn, args, _)⟩ => (execOp (Act.eval ⟨T, []⟩) o).run P w = .ok (.enter fn args) w
 | ⟨.inr ob⟩ => (execOp (Act.eval ⟨T, []⟩) o).run P w = .ok (.value (.pointer (some ⟨w.heap.size, 0, none⟩))) (w.alloc ob)
def callUp (P : Program) (S : World -> Prop) : Up -> Prop
 | ⟨.inl (fn, args, v)⟩ => ∀ wx, S wx -> Calls P fn args wx fun e w' => e = .returned v /\ Below wx.heap.size wx w'
 | ⟨.inr _⟩ => True
def rdy (k : Nat) (idx : Nat -> Nat) (V : (Nat -> Bool) -> Bool) (δ : Nat -> Bool) (rs : List Nat) : Bool := !rs.isEmpty && rs.all fun j => (List.range k).any fun i => j == idx i && !δ i && V (updB δ i true)
theorem rdy_spec {k : Nat} {idx : Nat -> Nat} {V : (Nat -> Bool) -> Bool} {δ : Nat -> Bool} {rs : List Nat} (h : rdy k idx V δ rs = true) : rs ≠ [] /\ ∀ j ∈ rs, ∃ i, i < k /\ j = idx i /\ δ i = false /\ V (updB δ i true) = true := by
 unfold rdy at h
 rw [Bool.and_eq_true] at h
 refine ⟨fun e => by rw [e] at h; exact absurd h.1 (by decide), fun j hj => ?_⟩
 obtain ⟨i, hi, h2⟩ := List.any_eq_true.1 (List.all_eq_true.1 h.2 j hj)
 simp only [Bool.and_eq_true, beq_iff_eq, Bool.not_eq_true'] at h2
 exact ⟨i, List.mem_range.1 hi, h2.1.1, h2.1.2, h2.2⟩
theorem left_upd {k : Nat} {δ : Nat -> Bool} {i : Nat} (hi : i < k) (h : δ i = false) : leftOf k (updB δ i true) + 1 = leftOf k δ := by
 unfold leftOf
 have key : ∀ l : List Nat, l.Nodup -> i ∈ l -> (l.filter fun j => !updB δ i true j).length + 1 = (l.filter fun j => !δ j).length := by
  intro l
  induction l with
  | nil => intro _ h; exact absurd h List.not_mem_nil
  | cons a l ih =>
   intro hn hm
   rw [List.nodup_cons] at hn
   by_cases e : a = i
   ·subst e
    have h2 : (l.filter fun j => !updB δ a true j) = l.filter fun j => !δ j := List.filter_congr fun j hj => by
     have hne : j ≠ a := fun e => hn.1 (by rw [<- e]; exact hj)
     rw [updB_ne δ true hne]
    rw [List.filter_cons_of_neg (by simp [updB_same]), List.filter_cons_of_pos (by simp [h]), h2]
    rfl
   ·have hm' : i ∈ l := by
     rcases List.mem_cons.1 hm with h | h
     ·exact absurd h.symm e
     ·exact h
    have := ih hn.2 hm'
    by_cases hd : δ a = true
    ·rw [List.filter_cons_of_neg (by simp [updB_ne δ true e, hd]), List.filter_cons_of_neg (by simp [hd])]
     exact this
    ·have hd' : δ a = false := by simpa using hd
     rw [List.filter_cons_of_pos (by simp [updB_ne δ true e, hd']), List.filter_cons_of_pos (by simp [hd']), List.length_cons, List.length_cons]
     omega
 exact key _ List.nodup_range (List.mem_range.2 hi)
theorem left_pos {k : Nat} {δ : Nat -> Bool} {n : Nat} (h : leftOf k δ = n + 1) : ∃ i, i < k /\ δ i = false := by
 unfold leftOf at h
 cases e : (List.range k).filter fun i => !δ i with
 | nil => rw [e] at h; cases h
 | cons a l =>
  have ha : a ∈ (List.range k).filter fun i => !δ i := by rw [e]; simp
  obtain ⟨h1, h2⟩ := List.mem_filter.1 ha
  exact ⟨a, List.mem_range.1 h1, by simpa using h2⟩
theorem left_zero' {k : Nat} {δ : Nat -> Bool} (h : leftOf k δ = 0) : ∀ i, i < k -> δ i = true := by
 intro i hi
 cases e : δ i with
 | true => rfl
 | false =>
  have hm : i ∈ (List.range k).filter fun i => !δ i := List.mem_filter.2 ⟨List.mem_range.2 hi, by simp [e]⟩
  unfold leftOf at h
  rw [List.length_eq_zero_iff.1 h] at hm
  exact absurd hm List.not_mem_nil
section
variable {P : Program} {ops : Array Oper} {Q : Exit -> Act -> World -> Prop} {S : World -> Prop}
theorem any_law {k m : Nat} (T : (Nat -> Value) -> Array Value) (F : (Nat -> Bool) -> Array Bool) (idx dst : Nat -> Nat) (K : Nat -> Up) (V : (Nat -> Bool) -> Bool) (H : Nat)
  (hop : ∀ i, i < k -> ∃ o, ops[idx i]? = some o /\ o.dst = some (dst i) /\ (∀ t, Region.wanted o t = true) /\ ∀ σ w, runUp P (T σ) o w (K i))
  (hT : ∀ σ i v, i < k -> (T σ).setIfInBounds (dst i) v = T (updB σ i v)) (hF : ∀ δ i, i < k -> (F δ).setIfInBounds (idx i) true = F (updB δ i true))
  (hr : ∀ δ, V δ = true -> (∃ i, i < k /\ δ i = false) -> ∃ rs, Region.ready .any ops (F δ) = rs /\ rdy k idx V δ rs = true)
  (hc : ∀ i, i < k -> callUp P S (K i)) (hS : ∀ wx wy, S wx -> Below wx.heap.size wx wy -> S wy) (hH : ∀ wx, S wx -> H <= wx.heap.size)
  (hend : ∀ δ σ wx, (∀ i, i < k -> δ i = true) -> S wx -> UpAt k K H δ σ wx -> wpAnyH P .any ops Q S m (F δ) ⟨T σ, []⟩ wx) :
  ∀ (n : Nat) (δ : Nat -> Bool) (σ : Nat -> Value) (wx : World), leftOf k δ = n -> V δ = true -> S wx -> UpAt k K H δ σ wx -> wpAnyH P .any ops Q S (n + m) (F δ) ⟨T σ, []⟩ wx
 | 0, δ, σ, wx, hn, _, hs, hu => by
  rw [Nat.zero_add]
  exact hend δ σ wx (left_zero' hn) hs hu
 | n + 1, δ, σ, wx, hn, hv, hs, hu => by
  have ih := any_law T F idx dst K V H hop hT hF hr hc hS hH hend n
  obtain ⟨rs, hrs, hrd0⟩ := hr δ hv (left_pos hn)
  have hrd := rdy_spec hrd0
  rw [show n + 1 + m = n + m + 1 by omega]
  refine wpAnyH_all hrs hrd.1 ?_
  intro j hj
  obtain ⟨i, hi, rfl, hf, hv'⟩ := hrd.2 j hj
  have hl := left_upd hi hf
  obtain ⟨o, ho, hd, hw, hrun⟩ := hop i hi
  have hrun' := hrun σ wx
  have hc' := hc i hi
  rcases hK : K i with ⟨⟨fn, args, v⟩ | ob⟩
  ·rw [hK] at hrun' hc'
   refine wpOp_enter ho (hw _) hrun' ((hc' wx hs).mono ?_)
   rintro e w' ⟨rfl, hb⟩
   refine ⟨hS _ _ hs hb, ?_⟩
   rw [put_at hd, hT σ i v hi, hF δ i hi]
   refine ih _ _ w' (by omega) hv' (hS _ _ hs hb) ⟨fun a ha hda => ?_, fun a c ha hcl hac hda hdc hKa hKc => ?_⟩
   ·by_cases e : a = i
    ·subst e
     rw [hK, updB_same]
     exact rfl
    ·rw [updB_ne _ _ e] at hda ⊢
     exact (hu.all a ha hda).below hb
   ·have e1 : a ≠ i := fun e => by subst e; rw [hK] at hKa; exact hKa
    have e2 : c ≠ i := fun e => by subst e; rw [hK] at hKc; exact hKc
    rw [updB_ne _ _ e1] at hda ⊢
    rw [updB_ne _ _ e2] at hdc ⊢
    exact hu.apart a c ha hcl hac hda hdc hKa hKc
  ·rw [hK] at hrun'
   have hb : Below wx.heap.size wx (wx.alloc ob) := (Below.refl _ _).alloc (Nat.le_refl _) _
   refine wpOp_value ho (hw _) hrun' ⟨hS _ _ hs hb, ?_⟩
   rw [put_at hd, hT σ i _ hi, hF δ i hi]
   have far : ∀ a, a < k -> δ a = true -> isBox (K a) -> σ a ≠ .pointer (some ⟨wx.heap.size, 0, none⟩) := fun a ha hda hKa e2 => by
    have h0 := hu.all a ha hda
    rcases hKb : K a with ⟨⟨_, _, _⟩ | ob'⟩
    ·rw [hKb] at hKa; exact hKa
    ·rw [hKb] at h0
     obtain ⟨b, h1, h2, h3⟩ := h0
     rw [h1] at e2
     have := heap_lt0 h2
     injection e2 with e2
     injection e2 with e2
     injection e2 with e2
     omega
   refine ih _ _ _ (by omega) hv' (hS _ _ hs hb) ⟨fun a ha hda => ?_, fun a c ha hcl hac hda hdc hKa hKc => ?_⟩
   ·by_cases e : a = i
    ·subst e
     rw [hK, updB_same]
     exact ⟨wx.heap.size, rfl, heap_alloc_last wx ob, hH wx hs⟩
    ·rw [updB_ne _ _ e] at hda ⊢
     exact (hu.all a ha hda).below hb
   ·by_cases e1 : a = i
    ·subst e1
     have e2 : c ≠ a := Ne.symm hac
     rw [updB_ne _ _ e2] at hdc
     rw [updB_same, updB_ne _ _ e2]
     exact Ne.symm (far c hcl hdc hKc)
    ·rw [updB_ne _ _ e1] at hda
     by_cases e2 : c = i
     ·subst e2
      rw [updB_same, updB_ne _ _ e1]
      exact far a ha hda hKa
     ·rw [updB_ne _ _ e2] at hdc
      rw [updB_ne _ _ e1, updB_ne _ _ e2]
      exact hu.apart a c ha hcl hac hda hdc hKa hKc
end
end Go.Proofs.YtekfbphnoibnjaaDoor
namespace Go.Proofs.YtekfbphnoibnjaaDoor
open Go.RowKit
set_option maxHeartbeats 400000 in
theorem colTurn (r g b : Int) (w : World) (r0 : 0 <= r) (r1 : r <= 255) (g0 : 0 <= g) (g1 : g <= 255) (b0 : 0 <= b) (b1 : b <= 255) :
  Calls Tryd.prog 69 #[.agg #[.int .u8 r, .int .u8 g, .int .u8 b]] w fun e w' => e = .returned (.agg #[.int .i64 (Pix.tY r g b), .int .i64 (r - b), .int .i64 (Pix.tV r g b)]) /\ Below w.heap.size w w' := by
 go_enter Tryd.func69, Tryd.ntmps69
 go_wp2
 go_quiet (fail)
 go_wp2
 refine bodyPost_ret (v := .agg #[.int .i64 (Pix.tY r g b), .int .i64 (r - b), .int .i64 (Pix.tV r g b)]) (by simp [results, Tryd.results69, go_sem, Pix.tY, Pix.tV, Pix.tT]) rfl ⟨rfl, ?_⟩
 repeat (first | exact Below.refl _ _ | refine Below.setCell ?_ (by simp) _ | refine Below.alloc ?_ (by simp) _ | refine below_drewN ?_ _)
end Go.Proofs.YtekfbphnoibnjaaDoor
namespace Go.Proofs.YtekfbphnoibnjaaDoor
open Go.RowKit
def far (n : Int) : Prop := n < -1000 \/ 1000 < n
end Go.Proofs.YtekfbphnoibnjaaDoor
namespace Go.Proofs.YtekfbphnoibnjaaDoor
open Go.RowKit
open Flm (Px FS)
def pxCells (ps : List Px) : List Value := ps.flatMap fun p => [.int .u8 p.1, .int .u8 p.2.1, .int .u8 p.2.2]
theorem pxCells_cons (p : Px) (ps : List Px) : pxCells (p :: ps) = .int .u8 p.1 :: .int .u8 p.2.1 :: .int .u8 p.2.2 :: pxCells ps := by simp [pxCells]
theorem pxCells_len (ps : List Px) : (pxCells ps).length = ps.length * 3 := by
 induction ps with
 | nil => rfl
 | cons b bs ih => rw [pxCells_cons]; simp; omega
theorem pxCells_app (xs ys : List Px) : pxCells (xs ++ ys) = pxCells xs ++ pxCells ys := by simp [pxCells]
theorem pxCells_get (ps : List Px) (i : Nat) (h : i < ps.length) : (pxCells ps)[i * 3]? = some (.int .u8 (ps.getD i (0, 0, 0)).1) /\ (pxCells ps)[i * 3 + 1]? = some (.int .u8 (ps.getD i (0, 0, 0)).2.1) /\ (pxCells ps)[i * 3 + 2]? = some (.int .u8 (ps.getD i (0, 0, 0)).2.2) := by
 induction ps generalizing i with
 | nil => simp at h
 | cons b bs ih =>
  rw [pxCells_cons]
  cases i with
  | zero => simp
  | succ i =>
   have := ih i (by simpa using h)
   rw [show (i + 1) * 3 = i * 3 + 1 + 1 + 1 by omega]
   simpa using this
theorem pxCells_set (ps : List Px) (i : Nat) (p : Px) (h : i < ps.length) : (((pxCells ps).set (i * 3) (.int .u8 p.1)).set (i * 3 + 1) (.int .u8 p.2.1)).set (i * 3 + 2) (.int .u8 p.2.2) = pxCells (ps.set i p) := by
 induction ps generalizing i with
 | nil => simp at h
 | cons c bs ih =>
  cases i with
  | zero => rw [pxCells_cons]; simp [pxCells_cons]
  | succ i =>
   rw [pxCells_cons, List.set_cons_succ, pxCells_cons, <- ih i (by simpa using h), show (i + 1) * 3 = i * 3 + 1 + 1 + 1 by omega]
   simp
theorem infoPx : (Tryd.prog.info? 40).map (fun i => (i.zero, i.size, i.bytes)) = some (some (.agg #[.int .u8 0, .int .u8 0, .int .u8 0]), 3, 3) := by kernel_rfl
def Pixs (w : World) (B fb N : Nat) (ps : List Px) : Prop := w.ownsRow B 40 3 (.slice (some ⟨fb, 0, none⟩) N N) N (pxCells ps)
theorem Pixs.len {w : World} {B fb N : Nat} {ps : List Px} (h : Pixs w B fb N ps) : ps.length = N := by
 have := h.1; rw [pxCells_len] at this; omega
theorem Pixs.cell {w : World} {B fb N : Nat} {ps : List Px} (h : Pixs w B fb N ps) (k : Nat) (hk : k < N) : w.cell? ⟨fb, k * 3, none⟩ = some (.int .u8 (ps.getD k (0, 0, 0)).1) /\ w.cell? ⟨fb, k * 3 + 1, none⟩ = some (.int .u8 (ps.getD k (0, 0, 0)).2.1) /\ w.cell? ⟨fb, k * 3 + 2, none⟩ = some (.int .u8 (ps.getD k (0, 0, 0)).2.2) := by
 obtain ⟨a, b, c⟩ := pxCells_get ps k (by rw [h.len]; exact hk)
 exact ⟨(World.ownsRow.cellAt h _ (by omega)).trans a, (World.ownsRow.cellAt h _ (by omega)).trans b, (World.ownsRow.cellAt h _ (by omega)).trans c⟩
theorem Pixs.frozen {w : World} {B fb N : Nat} {ps : List Px} (h : Pixs w B fb N ps) (k : Nat) : w.frozen? ⟨fb, k, none⟩ = false := World.ownsRow.frozenAt h k
theorem Pixs.lt {w : World} {B fb N : Nat} {ps : List Px} (h : Pixs w B fb N ps) : B <= fb /\ fb < w.heap.size := World.ownsRow.lt h fb rfl
theorem Pixs.store {w : World} {B fb N : Nat} {ps : List Px} (h : Pixs w B fb N ps) (k : Nat) (hk : k < N) (p : Px) : Pixs (((w.setCell ⟨fb, k * 3, none⟩ (.int .u8 p.1)).setCell ⟨fb, k * 3 + 1, none⟩ (.int .u8 p.2.1)).setCell ⟨fb, k * 3 + 2, none⟩ (.int .u8 p.2.2)) B fb N (ps.set k p) := by
 have h1 := (World.ownsRow.stored h (k * 3) (.int .u8 p.1)).1
 have h2 := (World.ownsRow.stored h1 (k * 3 + 1) (.int .u8 p.2.1)).1
 have h3 := (World.ownsRow.stored h2 (k * 3 + 2) (.int .u8 p.2.2)).1
 rw [pxCells_set ps k p (by rw [h.len]; exact hk)] at h3
 exact h3
variable {w w' : World} {B p b g lg lc rg z : Nat} {fbs : List Nat} {s : ByteArray} {fs : FS}
namespace Flm
theorem px_put (fs : FS) (i : Nat) (p : Px) (f k : Nat) : px (put fs i p) f k = px fs f k \/ px (put fs i p) f k = p := by
 unfold px put
 simp only [List.getD_eq_getElem?_getD, List.getElem?_set]
 split
 ·rename_i h
  subst h
  split
  ·simp only [Option.getD_some, List.getElem?_set]
   split
   ·split
    ·exact .inr rfl
    ·rename_i h1 h2; subst h1; left; rw [List.getElem?_eq_none (Nat.le_of_not_lt h2)]
   ·exact .inl rfl
  ·rename_i h2
   left
   rw [List.getElem?_eq_none (Nat.le_of_not_lt h2)]
 ·exact .inl rfl
end Flm
end Go.Proofs.YtekfbphnoibnjaaDoor
namespace Go.Proofs.YtekfbphnoibnjaaDoor
open Go.RowKit
open Flm (Px FS)
theorem spot_lt {x y z : Nat} (hx : x < z) (hy : y < z) : y * z + x < z * z := by
 have : (y + 1) * z <= z * z := Nat.mul_le_mul_right _ hy
 rw [Nat.succ_mul] at this
 omega
variable {w : World} {B p b g lg lc rg z : Nat} {fbs : List Nat} {s : ByteArray} {fs : FS}
end Go.Proofs.YtekfbphnoibnjaaDoor
namespace Go.Proofs.YtekfbphnoibnjaaDoor
open Go.RowKit
open Flm (Px FS)
def PixIn (w : World) (nb N : Nat) (ps : List Px) : Prop := nb < w.heap.size /\ ∀ k, k < N -> w.cell? ⟨nb, k * 3, none⟩ = some (.int .u8 (ps.getD k (0, 0, 0)).1) /\ w.cell? ⟨nb, k * 3 + 1, none⟩ = some (.int .u8 (ps.getD k (0, 0, 0)).2.1) /\ w.cell? ⟨nb, k * 3 + 2, none⟩ = some (.int .u8 (ps.getD k (0, 0, 0)).2.2)
theorem PixIn.frm {S : Nat -> Prop} {a b : World} {nb N : Nat} {ps : List Px} (h : PixIn a nb N ps) (f : Frm S a b) (hn : ¬ S nb) : PixIn b nb N ps :=
 ⟨Nat.lt_of_lt_of_le h.1 f.size, fun k hk => ⟨f.cell (h.2 k hk).1 hn, f.cell (h.2 k hk).2.1 hn, f.cell (h.2 k hk).2.2 hn⟩⟩
theorem PixIn.below {a b : World} {nb N : Nat} {ps : List Px} (h : PixIn a nb N ps) (f : Below a.heap.size a b) : PixIn b nb N ps := h.frm (Frm.of_below (S := fun _ => False) f) (fun e => e)
set_option maxHeartbeats 1000000 in
set_option maxRecDepth 20000 in
theorem pAt_raw {C : Nat} (w : World) (nb N z x y : Nat) (a b c : Int) (k : Nat) (hk : k = y * z + x) (hkN : k < N) (hN2 : N <= 256)
  (k0 : w.cell? ⟨nb, k * 3, none⟩ = some (.int .u8 a)) (k1 : w.cell? ⟨nb, k * 3 + 1, none⟩ = some (.int .u8 b)) (k2 : w.cell? ⟨nb, k * 3 + 2, none⟩ = some (.int .u8 c)) :
  Calls Tryd.prog 53 #[.agg #[.int .i64 z, .slice (some ⟨nb, 0, none⟩) N C], .int .i64 x, .int .i64 y] w fun e w' => e = .returned (.agg #[.int .u8 a, .int .u8 b, .int .u8 c]) /\ Below w.heap.size w w' := by
 have e2 : (y : Int) * (z : Int) + (x : Int) = (k : Int) := by rw [hk, Int.natCast_add, Int.natCast_mul]
 have hyz : y * z <= 256 := by omega
 have p0 : 0 <= (y : Int) * (z : Int) := by rw [<- Int.natCast_mul]; omega
 have p1 : (y : Int) * (z : Int) <= 256 := by rw [<- Int.natCast_mul]; omega
 have hk' : (k : Int) < (N : Int) := by omega
 have w1 : wrap64 ((y : Int) * (z : Int)) = (y : Int) * (z : Int) := by unfold wrap64; omega
 have w2 : wrap64 ((y : Int) * (z : Int) + (x : Int)) = (k : Int) := by rw [e2]; unfold wrap64; omega
 obtain ⟨W, hW⟩ : ∃ W, W = (w.alloc (.cells #[.int .i64 z, .slice (some ⟨nb, 0, none⟩) N C] 77)).alloc (.cells #[.int .u8 0, .int .u8 0, .int .u8 0] 40) := ⟨_, rfl⟩
 have hB : Below w.heap.size w W := by rw [hW]; exact ((Below.refl _ _).alloc (Nat.le_refl _) _).alloc (by simp) _
 have Q : ∀ (bk off : Nat) (v : Value), w.cell? ⟨bk, off, none⟩ = some v -> W.cell? ⟨bk, off, none⟩ = some v := fun bk off v h => (hB.cell (World.block_lt_of_cell? w _ h)).trans h
 have l0 := Q _ _ _ k0
 have l1 := Q _ _ _ k1
 have l2 := Q _ _ _ k2
 rw [hW] at l0 l1 l2
 have HB : Hid (Below w.heap.size w ((w.alloc (.cells #[.int .i64 z, .slice (some ⟨nb, 0, none⟩) N C] 77)).alloc (.cells #[.int .u8 0, .int .u8 0, .int .u8 0] 40))) := by rw [<- hW]; exact hB
 clear hk hyz Q k0 k1 k2 hW hB
 go_enter Tryd.func53, Tryd.ntmps53
 go_wp2
 refine bodyPost_ret (v := .agg #[.int .u8 a, .int .u8 b, .int .u8 c]) (by simp [results, Tryd.results53, go_sem]) rfl ⟨rfl, ?_⟩
 have hbel := HB.out
 repeat (first | exact hbel | exact Below.refl _ _ | refine Below.setCell ?_ (by simp) _ | refine Below.alloc ?_ (by simp) _ | refine below_drewN ?_ _)
theorem pAt {C : Nat} (w : World) (nb z : Nat) (ps : List Px) (hz : z * z <= 256) (h : PixIn w nb (z * z) ps) (x y : Nat) (hx : x < z) (hy : y < z) :
  Calls Tryd.prog 53 #[.agg #[.int .i64 z, .slice (some ⟨nb, 0, none⟩) (z * z) C], .int .i64 x, .int .i64 y] w fun e w' => e = .returned (.agg #[.int .u8 (ps.getD (y * z + x) (0, 0, 0)).1, .int .u8 (ps.getD (y * z + x) (0, 0, 0)).2.1, .int .u8 (ps.getD (y * z + x) (0, 0, 0)).2.2]) /\ Below w.heap.size w w' := by
 have hk := spot_lt hx hy
 obtain ⟨k0, k1, k2⟩ := h.2 (y * z + x) hk
 exact pAt_raw w nb (z * z) z x y _ _ _ _ rfl hk hz k0 k1 k2
set_option maxHeartbeats 1000000 in
theorem pTurned {C : Nat} (w : World) (nb z : Nat) (ps : List Px) (hz : z * z <= 256) (h : PixIn w nb (z * z) ps) (hp : ∀ k, Flm.okPx (ps.getD k (0, 0, 0))) (fs : FS) (hps : ps = fs.frs.getD (Flm.now fs) []) (x y : Int) (hx1 : x < z) (hy1 : y < z) :
  Calls Tryd.prog 58 #[.agg #[.int .i64 z, .slice (some ⟨nb, 0, none⟩) (z * z) C], .int .i64 x, .int .i64 y] w fun e w' => e = .returned (.agg #[.int .i64 (Flm.near z fs x y).1, .int .i64 (Flm.near z fs x y).2.1, .int .i64 (Flm.near z fs x y).2.2]) /\ Below w.heap.size w w' := by
 by_cases hx : x < 0
 ·have e : Flm.near z fs x y = (0, 0, 0) := by unfold Flm.near; rw [if_pos (.inl hx)]
  rw [e]
  clear h hp hps e
  go_enter Tryd.func58, Tryd.ntmps58
  go_wp2
  refine bodyPost_ret (v := .agg #[.int .i64 0, .int .i64 0, .int .i64 0]) (by simp [results, Tryd.results58, go_sem]) rfl ⟨rfl, ?_⟩
  repeat (first | exact Below.refl _ _ | refine Below.setCell ?_ (by simp) _ | refine Below.alloc ?_ (by simp) _ | refine below_drewN ?_ _)
 by_cases hy : y < 0
 ·have e : Flm.near z fs x y = (0, 0, 0) := by unfold Flm.near; rw [if_pos (.inr (.inl hy))]
  rw [e]
  clear h hp hps e
  go_enter Tryd.func58, Tryd.ntmps58
  go_wp2
  refine bodyPost_ret (v := .agg #[.int .i64 0, .int .i64 0, .int .i64 0]) (by simp [results, Tryd.results58, go_sem]) rfl ⟨rfl, ?_⟩
  repeat (first | exact Below.refl _ _ | refine Below.setCell ?_ (by simp) _ | refine Below.alloc ?_ (by simp) _ | refine below_drewN ?_ _)
 ·obtain ⟨X, rfl⟩ := Int.eq_ofNat_of_zero_le (Int.not_lt.1 hx)
  obtain ⟨Y, rfl⟩ := Int.eq_ofNat_of_zero_le (Int.not_lt.1 hy)
  obtain ⟨q, hq⟩ : ∃ q, q = ps.getD (Y * z + X) (0, 0, 0) := ⟨_, rfl⟩
  have e : Flm.near z fs (X : Int) (Y : Int) = (Pix.tY q.1 q.2.1 q.2.2, q.1 - q.2.2, Pix.tV q.1 q.2.1 q.2.2) := by
   unfold Flm.near Flm.px
   rw [if_neg (by omega), hq, hps]
   rfl
  have HA : Hid (∀ wx, Below w.heap.size w wx -> Calls Tryd.prog 53 #[.agg #[.int .i64 z, .slice (some ⟨nb, 0, none⟩) (z * z) C], .int .i64 X, .int .i64 Y] wx fun e w' => e = .returned (.agg #[.int .u8 q.1, .int .u8 q.2.1, .int .u8 q.2.2]) /\ Below wx.heap.size wx w') := by
   intro wx hb
   have := pAt (C := C) wx nb z ps hz (h.frm (Frm.of_below (S := fun _ => False) hb) (fun e => e)) X Y (by omega) (by omega)
   rw [<- hq] at this
   exact this
  obtain ⟨⟨q0, q1⟩, ⟨q2, q3⟩, ⟨q4, q5⟩⟩ : Flm.okPx q := by rw [hq]; exact hp _
  have HT := fun wx => colTurn q.1 q.2.1 q.2.2 wx q0 q1 q2 q3 q4 q5
  rw [e]
  clear h e hq hp hps q0 q1 q2 q3 q4 q5
  obtain ⟨Z, hZ⟩ : ∃ Z, Z = z * z := ⟨_, rfl⟩
  rw [<- hZ] at HA
  rw [<- hZ]
  obtain ⟨W, hW⟩ : ∃ W, W = (w.alloc (.cells #[.int .i64 z, .slice (some ⟨nb, 0, none⟩) Z C] 77)).alloc (.cells #[.int .i64 0, .int .i64 0, .int .i64 0] 139) := ⟨_, rfl⟩
  have hh : W.heap[w.heap.size + 1]? = some (.cells #[.int .i64 0, .int .i64 0, .int .i64 0] 139) := by
   have := heap_alloc_last (w.alloc (.cells #[.int .i64 z, .slice (some ⟨nb, 0, none⟩) Z C] 77)) (.cells #[.int .i64 0, .int .i64 0, .int .i64 0] 139)
   rw [World.size_alloc] at this
   rw [hW]; exact this
  have hB : Below w.heap.size w W := by rw [hW]; exact ((Below.refl _ _).alloc (Nat.le_refl _) _).alloc (by simp) _
  have hoW : w.heap.size + 1 < W.heap.size := by rw [hW]; simp
  have HH : Hid (∀ w2, Below W.heap.size W w2 -> w2.heap[w.heap.size + 1]? = some (.cells #[.int .i64 0, .int .i64 0, .int .i64 0] 139)) := fun w2 b2 => (b2.block _ hoW).trans hh
  have HB : Hid (Below w.heap.size w W) := hB
  have HW : Hid (W = (w.alloc (.cells #[.int .i64 z, .slice (some ⟨nb, 0, none⟩) Z C] 77)).alloc (.cells #[.int .i64 0, .int .i64 0, .int .i64 0] 139)) := hW
  clear hW hh hB hoW hZ hz
  go_enter Tryd.func58, Tryd.ntmps58
  go_wp2_with (first
   | (go_at_call 53; rw [<- HW.out]; refine (HA.out _ HB.out).mono ?_; rintro e w1 ⟨rfl, b1⟩)
   | (go_at_call 69; refine (HT _).mono ?_; rintro e w2 ⟨rfl, b2⟩; have hg := HH.out w2 (b1.trans (b2.mono b1.size)); have s0 := cell_of_row w2 (w.heap.size + 1) 0 _ _ _ hg; have s1 := cell_of_row w2 (w.heap.size + 1) 1 _ _ _ hg; have s2 := cell_of_row w2 (w.heap.size + 1) 2 _ _ _ hg; have z0 := frozen_of_row w2 (w.heap.size + 1) 0 _ _ hg; have z1 := frozen_of_row w2 (w.heap.size + 1) 1 _ _ hg; have z2 := frozen_of_row w2 (w.heap.size + 1) 2 _ _ hg; simp at s0 s1 s2))
  refine bodyPost_ret (v := .agg #[.int .i64 (Pix.tY q.1 q.2.1 q.2.2), .int .i64 (q.1 - q.2.2), .int .i64 (Pix.tV q.1 q.2.1 q.2.2)]) (by simp [results, Tryd.results58, go_sem, s0, s1, s2]) rfl ⟨rfl, ?_⟩
  have hb2 : Below w.heap.size w w2 := HB.out.trans ((b1.trans (b2.mono b1.size)).mono HB.out.size)
  repeat (first | exact hb2 | refine Below.setCell ?_ (by simp) _ | refine below_drewN ?_ _)
end Go.Proofs.YtekfbphnoibnjaaDoor
