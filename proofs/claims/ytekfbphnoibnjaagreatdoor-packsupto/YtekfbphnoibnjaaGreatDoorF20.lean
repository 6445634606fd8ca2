/-
  Which of the tallies, which of the colours: slices.IndexFunc, slices.Index. The points of an area, row by row: an iterator. A range over a function: what a round keeps, how such a function returns. A region that draws its order: calls and boxes that may come up in whatever order. The program's picture: a pixel, a pixel turned, what is expected.
-/
import Derived.Test.YtekfbphnoibnjaaGreatDoorF19
import Derived.Test.YtekfbphnoibnjaaGreatDoorF02
import Derived.Deep.WholeRow
import Derived.RangeFuncNested
import Derived.RangeFuncBound
import Derived.RangeFuncCalls
import Derived.RangeFuncLeaves
import Derived.Shelf.Abstract
import Derived.Shelf.RegionOpen
import Derived.WalkKit
import Derived.OwnWalkIn
import Derived.TacticsInMore
import Derived.LoopNIn
import Derived.LoopIn
import Derived.Test.YtekfbphnoibnjaaGreatDoorF10
import Derived.Test.YtekfbphnoibnjaaGreatDoorF04
import Derived.Deep.RegionHeld3
import Derived.RangeFuncWrites
import Derived.RangeFuncFrom
import Derived.RangeFuncOwn
import Derived.TacticsIn
import Derived.RegionIn
import Derived.Test.YtekfbphnoibnjaaGreatDoorF03
import Derived.Deep.MidRow
import Derived.Laws.ResultCell
import Derived.Deep.RegionLaw
import Derived.BigRegion
namespace Go.Proofs.YtekfbphnoibnjaaGreatDoor
open Go.RowKit
open Flm (Px FS okPx)
open Pk (find tally tallies index)
def sameP (a b : Px) : Bool:=a.1 == b.1 && (a.2.1 == b.2.1 && a.2.2 == b.2.2)
theorem sameP_iff (a b : Px) : sameP a b = true ↔ a = b:=by
 obtain ⟨a0,a1,a2⟩:=a
 obtain ⟨b0,b1,b2⟩:=b
 simp [sameP]
def findI (c : Px) (l : List Tl) : Int:=if find c l < l.length then (find c l : Int) else -1
theorem findI_lt {c : Px} {l : List Tl} (h : find c l < l.length) : findI c l = (find c l : Int):=if_pos h
theorem findI_ge {c : Px} {l : List Tl} (h : ¬ find c l < l.length) : findI c l = -1:=if_neg h
set_option maxHeartbeats 2000000 in
theorem pSameCol (w : World) (K : Nat) (a0 a1 a2 n c0 c1 c2 : Int) (h0 : w.cell? ⟨K,0,none⟩ = some (.int .u8 c0)) (h1 : w.cell? ⟨K,1,none⟩ = some (.int .u8 c1)) (h2 : w.cell? ⟨K,2,none⟩ = some (.int .u8 c2)) :
  Calls Tryz.prog 158 #[.agg #[.int .u8 a0,.int .u8 a1,.int .u8 a2,.int .i64 n],.pointer (some ⟨K,0,none⟩)] w fun e w' => e = .returned (.bool (sameP (a0,a1,a2) (c0,c1,c2))) /\ Below w.heap.size w w':=by
 obtain ⟨W,hW⟩ : ∃ W,W = w.alloc (.cells #[.int .u8 a0,.int .u8 a1,.int .u8 a2,.int .i64 n] 258):=⟨_,rfl⟩
 have hB : Below w.heap.size w W:=by rw [hW]; exact (Below.refl _ w).alloc (Nat.le_refl _) _
 have hh : W.heap[w.heap.size]? = some (.cells #[.int .u8 a0,.int .u8 a1,.int .u8 a2,.int .i64 n] 258):=by rw [hW]; exact heap_alloc_last w _
 obtain ⟨H,hH⟩ : ∃ H,H = w.heap.size:=⟨_,rfl⟩
 rw [<- hH] at hh
 have c : ∀ (a : Addr) (v : Value),w.cell? a = some v -> W.cell? a = some v:=fun a v e => (hB.cell (World.block_lt_of_cell? w _ e)).trans e
 have k0:=c _ _ h0
 have k1:=c _ _ h1
 have k2:=c _ _ h2
 have d0:=cell_of_row _ _ 0 _ _ _ hh
 have d1:=cell_of_row _ _ 1 _ _ _ hh
 have d2:=cell_of_row _ _ 2 _ _ _ hh
 simp at d0 d1 d2
 have heq:=fun w => eqPix w a0 a1 a2 c0 c1 c2
 obtain ⟨E,hE⟩ : ∃ E,E = sameP (a0,a1,a2) (c0,c1,c2):=⟨_,rfl⟩
 have hE' : (a0 == c0 && (a1 == c1 && a2 == c2)) = E:=hE.symm
 rw [hE'] at heq
 rw [<- hE]
 have HW : Hid (W = w.alloc (.cells #[.int .u8 a0,.int .u8 a1,.int .u8 a2,.int .i64 n] 258) /\ H = w.heap.size /\ Below w.heap.size w W):=⟨hW,hH,hB⟩
 clear hW hB hh hH c h0 h1 h2 hE hE'
 go_enter Tryz.func158,Tryz.ntmps158
 go_wp2_with (rw [<- HW.out.1,<- HW.out.2.1])
 go_ret
 exact ⟨rfl,HW.out.2.2⟩
set_option maxHeartbeats 4000000 in
theorem pIndexFunc (w : World) (a : Option Addr) (n cap K : Nat) (l : List Tl) (c : Px) (hn : l.length = n) (hn4 : n <= 4) (h : n = 0 \/ ∃ g,a = some ⟨g,0,none⟩ /\ ∀ k t,l[k]? = some t -> TalK w g k t) (h0 : w.cell? ⟨K,0,none⟩ = some (.int .u8 c.1)) (h1 : w.cell? ⟨K,1,none⟩ = some (.int .u8 c.2.1)) (h2 : w.cell? ⟨K,2,none⟩ = some (.int .u8 c.2.2)) :
  Calls Tryz.prog 157 #[.slice a n cap,.func (.func 158) #[] #[.pointer (some ⟨K,0,none⟩)]] w fun e w' => e = .returned (.int .i64 (findI c l)) /\ Below w.heap.size w w':=by
 have HH : Hid (l.length = n /\ (n = 0 \/ ∃ g,a = some ⟨g,0,none⟩ /\ ∀ k t,l[k]? = some t -> TalK w g k t) /\ w.cell? ⟨K,0,none⟩ = some (.int .u8 c.1) /\ w.cell? ⟨K,1,none⟩ = some (.int .u8 c.2.1) /\ w.cell? ⟨K,2,none⟩ = some (.int .u8 c.2.2)):=⟨hn,h,h0,h1,h2⟩
 clear hn h h0 h1 h2
 obtain ⟨c0,c1,c2⟩:=c
 go_enter Tryz.func157,Tryz.ntmps157
 go_wp2
 go_loopw [8] (fun v8 wr => ∃ j : Nat,j <= n /\ v8 = .int .i64 j /\ (∀ i t,i < j -> l[i]? = some t -> t.1 ≠ (c0,c1,c2)) /\ Below w.heap.size w wr) (fun v8 _ => n - (intOf v8).toNat)
 case atStart => exact ⟨0,Nat.zero_le _,rfl,fun i t hi => absurd hi (Nat.not_lt_zero _),Below.refl _ _⟩
 case round =>
  obtain ⟨j,hj,rfl,hne,hb⟩:=hrel
  by_cases hlt : j < n
  ·have hlt' : (j : Int) < (n : Int):=by omega
   obtain ⟨e1,e2,e3,e4,e5⟩:=HH.out
   obtain ⟨t,ht⟩ : ∃ t,l[j]? = some t:=⟨l[j]'(by omega),List.getElem?_eq_getElem _⟩
   obtain ⟨⟨t0,t1,t2⟩,tc⟩:=t
   obtain ⟨g,rfl,hg⟩ : ∃ g,a = some ⟨g,0,none⟩ /\ ∀ k t,l[k]? = some t -> TalK w g k t:=e2.resolve_left (by omega)
   obtain ⟨k0,k1,k2,k3⟩:=hg j _ ht
   have cc : ∀ (a : Addr) (v : Value),w.cell? a = some v -> wr.cell? a = some v:=fun a v e => (hb.cell (World.block_lt_of_cell? w _ e)).trans e
   have d0:=cc _ _ k0
   have d1:=cc _ _ k1
   have d2:=cc _ _ k2
   have d3:=cc _ _ k3
   dsimp only at d0 d1 d2 d3
   have HC:=pSameCol wr K t0 t1 t2 tc c0 c1 c2 (cc _ _ e3) (cc _ _ e4) (cc _ _ e5)
   obtain ⟨E,hE⟩ : ∃ E,E = sameP (t0,t1,t2) (c0,c1,c2):=⟨_,rfl⟩
   rw [<- hE] at HC
   have HI : Hid ((∀ i t,i < j -> l[i]? = some t -> t.1 ≠ (c0,c1,c2)) /\ Below w.heap.size w wr /\ l[j]? = some ((t0,t1,t2),tc) /\ E = sameP (t0,t1,t2) (c0,c1,c2) /\ l.length = n):=⟨hne,hb,ht,hE,e1⟩
   clear hne hb ht hE e1 e2 e3 e4 e5 hg k0 k1 k2 k3 cc HH
   cases E with
   | true =>
    go_wp2_with (go_at_call 158; refine HC.mono ?_; rintro e w2 ⟨rfl,b2⟩)
    go_ret
    obtain ⟨i1,i2,i3,i4,i5⟩:=HI.out
    have hc:=(sameP_iff _ _).1 i4.symm
    have hf : find (c0,c1,c2) l = j:=find_drop _ l j i1 (by omega) (fun t ht => by rw [i3] at ht; rw [<- Option.some.inj ht]; exact hc)
    exact ⟨by rw [findI_lt (by omega),hf]; rfl,i2.trans (b2.mono i2.size)⟩
   | false =>
    go_wp2_with (go_at_call 158; refine HC.mono ?_; rintro e w2 ⟨rfl,b2⟩)
    obtain ⟨i1,i2,i3,i4,i5⟩:=HI.out
    go_roundw
    case rel =>
     refine ⟨j + 1,hlt,by go_num,fun i t hi ht e => ?_,i2.trans (b2.mono i2.size)⟩
     by_cases hij : i < j
     ·exact i1 i t hij ht e
     ·have : i = j:=by omega
      subst this
      rw [i3] at ht
      rw [<- Option.some.inj ht] at e
      rw [(sameP_iff _ _).2 e] at i4
      cases i4
    case measure => simp [intOf]; omega
  ·have hlt' : ¬ (j : Int) < (n : Int):=by omega
   have HI : Hid ((∀ i t,i < j -> l[i]? = some t -> t.1 ≠ (c0,c1,c2)) /\ Below w.heap.size w wr):=⟨hne,hb⟩
   clear hne hb
   go_wp2
   go_ret
   obtain ⟨i1,i2⟩:=HI.out
   have hf : find (c0,c1,c2) l = j:=find_drop _ l j i1 (by have:=HH.out.1; omega) (fun t ht => by have:=(List.getElem?_eq_some_iff.1 ht).1; have:=HH.out.1; omega)
   exact ⟨by rw [findI_ge (by have:=HH.out.1; omega)]; rfl,i2⟩
def ColsAt (w : World) (g : Nat) (cs : List Px) : Prop:=∀ k c,cs[k]? = some c -> w.cell? ⟨g,k * 3,none⟩ = some (.int .u8 c.1) /\ w.cell? ⟨g,k * 3 + 1,none⟩ = some (.int .u8 c.2.1) /\ w.cell? ⟨g,k * 3 + 2,none⟩ = some (.int .u8 c.2.2)
theorem ColsAt.below {w w' : World} {g : Nat} {cs : List Px} (h : ColsAt w g cs) (f : Below w.heap.size w w') : ColsAt w' g cs:=fun k c hk =>
 have cc : ∀ (a : Addr) (v : Value),w.cell? a = some v -> w'.cell? a = some v:=fun _ _ e => (f.cell (World.block_lt_of_cell? w _ e)).trans e
 ⟨cc _ _ (h k c hk).1,cc _ _ (h k c hk).2.1,cc _ _ (h k c hk).2.2⟩
theorem ColsAt.frm {S : Nat -> Prop} {w w' : World} {g : Nat} {cs : List Px} (h : ColsAt w g cs) (f : Frm S w w') (hg : ¬ S g) : ColsAt w' g cs:=fun k c hk =>
 ⟨f.cell (h k c hk).1 hg,f.cell (h k c hk).2.1 hg,f.cell (h k c hk).2.2 hg⟩
set_option maxHeartbeats 4000000 in
theorem pIndex (w : World) (g n cap : Nat) (cs : List Px) (c : Px) (hn : cs.length = n) (hn4 : n <= 4) (h : ColsAt w g cs) (hc : c ∈ cs) :
  Calls Tryz.prog 138 #[.slice (some ⟨g,0,none⟩) n cap,.agg #[.int .u8 c.1,.int .u8 c.2.1,.int .u8 c.2.2]] w fun e w' => e = .returned (.int .i64 (index c cs)) /\ Below w.heap.size w w':=by
 obtain ⟨c0,c1,c2⟩:=c
 dsimp only
 obtain ⟨W,hW⟩ : ∃ W,W = w.alloc (.cells #[.int .u8 c0,.int .u8 c1,.int .u8 c2] 50):=⟨_,rfl⟩
 have hB : Below w.heap.size w W:=by rw [hW]; exact (Below.refl _ w).alloc (Nat.le_refl _) _
 obtain ⟨H,hH⟩ : ∃ H,H = w.heap.size:=⟨_,rfl⟩
 have hh : W.heap[H]? = some (.cells #[.int .u8 c0,.int .u8 c1,.int .u8 c2] 50):=by rw [hW,hH]; exact heap_alloc_last w _
 have HH : Hid (cs.length = n /\ ColsAt W g cs /\ (c0,c1,c2) ∈ cs /\ W = w.alloc (.cells #[.int .u8 c0,.int .u8 c1,.int .u8 c2] 50) /\ H = w.heap.size /\ W.heap[H]? = some (.cells #[.int .u8 c0,.int .u8 c1,.int .u8 c2] 50) /\ Below w.heap.size w W):=⟨hn,h.below hB,hc,hW,hH,hh,hB⟩
 clear hn h hc hW hB hH hh
 go_enter Tryz.func138,Tryz.ntmps138
 go_wp2_with (rw [<- HH.out.2.2.2.1,<- HH.out.2.2.2.2.1])
 go_loopw [8] (fun v8 wr => ∃ j : Nat,j <= n /\ v8 = .int .i64 j /\ (∀ i t,i < j -> cs[i]? = some t -> t ≠ (c0,c1,c2)) /\ Below W.heap.size W wr) (fun v8 _ => n - (intOf v8).toNat)
 case atStart => exact ⟨0,Nat.zero_le _,rfl,fun i t hi => absurd hi (Nat.not_lt_zero _),Below.refl _ _⟩
 case round =>
  obtain ⟨j,hj,rfl,hne,hb⟩:=hrel
  by_cases hlt : j < n
  ·have hlt' : (j : Int) < (n : Int):=by omega
   obtain ⟨e1,e2,e3,e4,e5,e6,e7⟩:=HH.out
   obtain ⟨t,ht⟩ : ∃ t,cs[j]? = some t:=⟨cs[j]'(by omega),List.getElem?_eq_getElem _⟩
   obtain ⟨t0,t1,t2⟩:=t
   obtain ⟨k0,k1,k2⟩:=e2 j _ ht
   have cc : ∀ (a : Addr) (v : Value),W.cell? a = some v -> wr.cell? a = some v:=fun a v e => (hb.cell (World.block_lt_of_cell? W _ e)).trans e
   have d0:=cc _ _ k0
   have d1:=cc _ _ k1
   have d2:=cc _ _ k2
   have x0:=cc _ _ (cell_of_row _ _ 0 _ _ _ e6)
   have x1:=cc _ _ (cell_of_row _ _ 1 _ _ _ e6)
   have x2:=cc _ _ (cell_of_row _ _ 2 _ _ _ e6)
   dsimp only at d0 d1 d2
   have heq:=fun w => eqPix w c0 c1 c2 t0 t1 t2
   obtain ⟨E,hE⟩ : ∃ E,E = sameP (c0,c1,c2) (t0,t1,t2):=⟨_,rfl⟩
   have hE' : (c0 == t0 && (c1 == t1 && c2 == t2)) = E:=hE.symm
   rw [hE'] at heq
   have HI : Hid ((∀ i t,i < j -> cs[i]? = some t -> t ≠ (c0,c1,c2)) /\ Below W.heap.size W wr /\ cs[j]? = some (t0,t1,t2) /\ E = sameP (c0,c1,c2) (t0,t1,t2) /\ cs.length = n /\ Below w.heap.size w W):=⟨hne,hb,ht,hE,e1,e7⟩
   clear hne hb ht hE hE' e1 e2 e3 e4 e5 e6 e7 k0 k1 k2 cc HH
   have hdr : Below wr.heap.size wr wr.drew:=⟨rfl,rfl,rfl,Nat.le_refl _,fun _ _ => rfl⟩
   cases E with
   | true =>
    go_wp2_with fail
    go_region
    go_wp2
    go_ret
    obtain ⟨i1,i2,i3,i4,i5,i6⟩:=HI.out
    have hc:=(sameP_iff _ _).1 i4.symm
    have hf : index (c0,c1,c2) cs = j:=index_drop _ cs j i1 (by rw [i3,hc])
    exact ⟨by rw [hf]; rfl,i6.trans ((i2.trans (hdr.mono i2.size)).mono i6.size)⟩
   | false =>
    go_wp2_with fail
    go_region
    go_wp2
    obtain ⟨i1,i2,i3,i4,i5,i6⟩:=HI.out
    go_roundw
    case rel =>
     refine ⟨j + 1,hlt,by go_num,fun i t hi ht e => ?_,i2.trans (hdr.mono i2.size)⟩
     by_cases hij : i < j
     ·exact i1 i t hij ht e
     ·have : i = j:=by omega
      subst this
      rw [i3] at ht
      rw [<- Option.some.inj ht] at e
      rw [(sameP_iff _ _).2 e.symm] at i4
      cases i4
    case measure => simp [intOf]; omega
  ·exfalso
   obtain ⟨i,hi⟩:=List.mem_iff_getElem?.1 HH.out.2.2.1
   have:=(List.getElem?_eq_some_iff.1 hi).1
   have:=HH.out.1
   exact hne i _ (by omega) hi rfl
end Go.Proofs.YtekfbphnoibnjaaGreatDoor
namespace Go.Proofs.YtekfbphnoibnjaaGreatDoor
open Go.RowKit Go.Shelf
attribute [local go_sem] Oper.semAt_some
set_option maxHeartbeats 400000 in
theorem pPoints (w : World) (x y n : Int) :
  Calls Tryz.prog 105 #[.agg #[.int .i64 x,.int .i64 y,.int .i64 n]] w fun e w' => e = .returned (.func (.func 131) #[] #[.pointer (some ⟨w.heap.size,0,none⟩)]) /\ w' = w.alloc (.cells #[.int .i64 x,.int .i64 y,.int .i64 n] 100):=by
 go_enter Tryz.func105,Tryz.ntmps105
 go_wp2
 go_ret
 exact ⟨rfl,rfl⟩
abbrev Pt (x y n : Nat):={ p : Nat × Nat // (x <= p.1 /\ p.1 < x + n) /\ y <= p.2 /\ p.2 < y + n }
def encPt {x y n : Nat} (p : Pt x y n) : Array Value:=#[.int .i64 p.1.1,.int .i64 p.1.2]
def KpB (b : Nat) (W W' : World) : Prop:=W'.heap[b]? = W.heap[b]?
set_option maxHeartbeats 2000000 in
set_option maxRecDepth 100000 in
theorem points1_in (F : Fence) (m : Nat) (hF : F.fn 131) (hro : F.round = none) (hm : 1 <= m) (l b x y n : Nat) (hx : x + n <= 16) (hy : y + n <= 16) (J Jx : List (Pt x y n) -> World -> Prop)
  (hY : ∀ pre p W,J pre W -> pre.length < n * n -> YieldAt F (m - 1) Tryz.prog l (encPt p) W fun e W' => (e = .returned (.bool true) /\ J (pre ++ [p]) W' /\ KpB b W W') \/ (e = .returned (.bool false) /\ Jx (pre ++ [p]) W'))
  (W : World) (hb : W.heap[b]? = some (.cells #[.int .i64 x,.int .i64 y,.int .i64 n] 100 (0,0))) (h0 : J [] W) :
  CallsIn F m Tryz.prog 131 #[.func (.yield l) #[] #[],.pointer (some ⟨b,0,none⟩)] W fun e W' => (∃ v,e = .returned v) /\
   ((∃ xs : List (Pt x y n),xs.map (·.1) = Flm.spots x y n /\ J xs W') \/ (∃ pre : List (Pt x y n),pre.map (·.1) <+: Flm.spots x y n /\ Jx pre W')):=by
 refine callsIn_of_wp Tryz.func131 rfl hF ?_ hro
 simp only [Tryz.ntmps131,List.size_toArray,List.length_cons,List.length_nil,Nat.reduceAdd,Nat.reduceSub,Array.replicate_succ,Array.replicate_zero,List.push_toArray,List.append_toArray,List.nil_append,List.cons_append]
 have c0:=cell_of_row _ _ 0 _ _ _ hb
 have c1:=cell_of_row _ _ 1 _ _ _ hb
 have c2:=cell_of_row _ _ 2 _ _ _ hb
 have HBX : Hid (W.heap[b]? = some (.cells #[.int .i64 x,.int .i64 y,.int .i64 n] 100 (0,0))):=hb
 have HJ0 : Hid (J [] W):=h0
 have HY : Hid (∀ pre p W,J pre W -> pre.length < n * n -> YieldAt F (m - 1) Tryz.prog l (encPt p) W fun e W' => (e = .returned (.bool true) /\ J (pre ++ [p]) W' /\ KpB b W W') \/ (e = .returned (.bool false) /\ Jx (pre ++ [p]) W')):=hY
 clear hb h0 hY
 gi_wp2
 clear c0 c1 c2
 gi_loopw [3,4] (fun yv _ wr => ∃ (j : Nat) (pre : List (Pt x y n)),j <= n /\ yv = .int .i64 ((y + j : Nat) : Int) /\ pre.map (·.1) ++ Flm.left x y n j 0 = Flm.spots x y n /\ J pre wr /\ wr.heap[b]? = some (.cells #[.int .i64 x,.int .i64 y,.int .i64 n] 100 (0,0))) (fun yv _ _ => y + n - (intOf yv).toNat)
 case atStart => exact ⟨0,[],by omega,rfl,by simp [Flm.left_zero],HJ0.out,HBX.out⟩
 case round =>
  clear HJ0 HBX
  obtain ⟨j,pre,hj,rfl,hpre,hJ,hb⟩:=hrel
  obtain ⟨Y,hYe⟩ : ∃ Y,Y = y + j:=⟨_,rfl⟩
  rw [<- hYe]
  have c0:=cell_of_row _ _ 0 _ _ _ hb
  have c1:=cell_of_row _ _ 1 _ _ _ hb
  have c2:=cell_of_row _ _ 2 _ _ _ hb
  have HI : Hid (pre.map (·.1) ++ Flm.left x y n j 0 = Flm.spots x y n /\ J pre wr /\ wr.heap[b]? = some (.cells #[.int .i64 x,.int .i64 y,.int .i64 n] 100 (0,0))):=⟨hpre,hJ,hb⟩
  have HYE : Hid (Y = y + j):=hYe
  by_cases hlt : j < n
  ·have hlt' : (Y : Int) < (y : Int) + (n : Int):=by omega
   clear hpre hJ hb hYe
   gi_wp2
   clear c0 c1 c2
   gi_loopw [4] (fun xv wi => ∃ (i : Nat) (pre : List (Pt x y n)),i <= n /\ xv = .int .i64 ((x + i : Nat) : Int) /\ pre.map (·.1) ++ Flm.left x y n j i = Flm.spots x y n /\ J pre wi /\ wi.heap[b]? = some (.cells #[.int .i64 x,.int .i64 y,.int .i64 n] 100 (0,0))) (fun xv _ => x + n - (intOf xv).toNat)
   case atStart => exact ⟨0,pre,by omega,rfl,HI.out.1,HI.out.2.1,HI.out.2.2⟩
   case round =>
    clear HI
    obtain ⟨i,pre,hi,rfl,hpre,hJ,hb⟩:=hrel
    obtain ⟨wi,rfl⟩ : ∃ wi,wi = wr:=⟨_,rfl⟩
    obtain ⟨X,hXe⟩ : ∃ X,X = x + i:=⟨_,rfl⟩
    rw [<- hXe]
    have c0:=cell_of_row _ _ 0 _ _ _ hb
    have c1:=cell_of_row _ _ 1 _ _ _ hb
    have c2:=cell_of_row _ _ 2 _ _ _ hb
    have HXE : Hid (X = x + i):=hXe
    by_cases hlt2 : i < n
    ·have hlt2' : (X : Int) < (x : Int) + (n : Int):=by omega
     have hYe:=HYE.out
     have hcons:=Flm.left_cons x y n j i hlt hlt2
     rw [<- hXe,<- hYe] at hcons
     have hlen : pre.length < n * n:=by
      have:=congrArg List.length hpre
      rw [hcons] at this
      simp only [List.length_append,List.length_map,List.length_cons,Flm.spots_len] at this
      omega
     obtain ⟨P,hP⟩ : ∃ P : Pt x y n,P.1 = (X,Y):=⟨⟨(X,Y),by dsimp only; omega⟩,rfl⟩
     have hen : encPt P = #[.int .i64 X,.int .i64 Y]:=by unfold encPt; rw [hP]
     have hyield:=HY.out pre P wi hJ hlen
     rw [hen] at hyield
     have HP : Hid (P.1 = (X,Y)):=hP
     clear hP hen
     obtain ⟨fn,tmps,assign,body,hy,hR⟩:=hyield
     have HN : Hid (∀ q : Pt x y n,q.1 = (X,Y) -> (pre ++ [q]).map (·.1) ++ Flm.left x y n j (i + 1) = Flm.spots x y n):=fun q hq => by
      rw [List.map_append,List.append_assoc,<- hpre,hcons]
      simp [hq]
     have HB : Hid (wi.heap[b]? = some (.cells #[.int .i64 x,.int .i64 y,.int .i64 n] 100 (0,0))):=hb
     clear hpre hJ hb hXe hYe hcons
     gi_wp2
     refine hR.mono ?_
     rintro e W3 (⟨rfl,hJ3,hk3⟩ | ⟨rfl,hJx3⟩)
     ·gi_wp2
      go_roundw
      case rel =>
       have hXe:=HXE.out
       exact ⟨i + 1,_,by omega,by rw [show ((x + (i + 1) : Nat) : Int) = (X : Int) + 1 by omega],HN.out _ HP.out,hJ3,hk3.trans HB.out⟩
      case measure => simp [intOf]; omega
     ·gi_wp2
      refine bodyPost_ret (results_none rfl _ _ _) rfl ?_
      exact ⟨⟨_,rfl⟩,.inr ⟨_,⟨_,HN.out _ HP.out⟩,hJx3⟩⟩
    ·have hlt2' : ¬ ((X : Int) < (x : Int) + (n : Int)):=by omega
     obtain rfl : i = n:=by omega
     have HI2 : Hid (pre.map (·.1) ++ Flm.left x y i j i = Flm.spots x y i /\ J pre wi /\ wi.heap[b]? = some (.cells #[.int .i64 x,.int .i64 y,.int .i64 i] 100 (0,0))):=⟨hpre,hJ,hb⟩
     clear hpre hJ hb hXe
     gi_wp2
     have hYe:=HYE.out
     obtain ⟨p1,p2,p3⟩:=HI2.out
     refine ⟨⟨j + 1,pre,by omega,?_,by rw [<- p1,Flm.left_row],p2,p3⟩,?_⟩
     ·rw [show ((y + (j + 1) : Nat) : Int) = (Y : Int) + 1 by omega]
     ·simp [intOf]; omega
  ·have hlt' : ¬ ((Y : Int) < (y : Int) + (n : Int)):=by omega
   obtain rfl : j = n:=by omega
   clear hpre hJ hb hYe
   gi_wp2
   go_end0
   obtain ⟨p1,p2,p3⟩:=HI.out
   rw [Flm.left_end,List.append_nil] at p1
   exact ⟨⟨_,rfl⟩,.inl ⟨pre,p1,p2⟩⟩
theorem points_stops (F : Fence) (m : Nat) (hF : F.fn 131) (hro : F.round = none) (hm : 1 <= m) (b x y n : Nat) (hx : x + n <= 16) (hy : y + n <= 16) (w : World) (hb : w.heap[b]? = some (.cells #[.int .i64 x,.int .i64 y,.int .i64 n] 100 (0,0))) :
  SeqStopsK F m Tryz.prog 131 #[.pointer (some ⟨b,0,none⟩)] (encPt (x:=x) (y:=y) (n:=n)) (KpB b) (fun xs => xs.map (·.1) = Flm.spots x y n) (fun pre => pre.map (·.1) <+: Flm.spots x y n) (n * n) w :=
 fun l J Jx W hW _ _ hY h0 => points1_in F m hF hro hm l b x y n hx hy J Jx hY W ((hW.block b (heap_lt0 hb)).trans hb) h0
end Go.Proofs.YtekfbphnoibnjaaGreatDoor
namespace Go.Proofs.YtekfbphnoibnjaaGreatDoor
open Go.RowKit Go.Shelf
theorem keeps_frm {S : Nat -> Prop} {W W' : World} (f : Frm S W W') (hS : ∀ k,S k -> ∃ v,W.cell? ⟨k,0,none⟩ = some v) : KeepsOthers W W':=by
 refine ⟨f.size,fun k o hk ho => ?_⟩
 by_cases hs : S k
 ·obtain ⟨v,hv⟩:=hS k hs
  obtain ⟨o',h1,h2⟩:=cells_of_cell hv
  rw [hk] at h1
  cases h1
  rw [h2] at ho
  cases ho
 ·exact (f.block k (heap_lt0 hk) hs).trans hk
section
variable {P : Program} {F : Fence} {n : Nat} {fn : Func} {R : Ending -> World -> Prop}
theorem retM_none {a : Act} {w : World} {v : Value} (hd : a.defers = []) (hr : (results fn a.tmps).run P w = .ok v w) (h : R (.returned v) w) : bodyPostM F n P fn R .ret a w:=by
 show LeavesInM F n P fn a.tmps R a.defers .returning w
 rw [hd]
 exact ⟨v,hr,h⟩
theorem retM_mark {a : Act} {W : World} {v : Value} {D : Nat} (hd : a.defers = [{ target:=.collected D,args:=#[] }]) (hD : W.heap[D]? = some (.deferred (some []))) (hr : (results fn a.tmps).run P (W.putObj D (.deferred none)) = .ok v (W.putObj D (.deferred none))) (h : R (.returned v) (W.putObj D (.deferred none))) : bodyPostM F n P fn R .ret a W:=by
 show LeavesInM F n P fn a.tmps R a.defers .returning W
 rw [hd]
 exact ⟨by simp,.inl ⟨_,_,rfl,run_takeDeferred hD,v,hr,h⟩⟩
end
theorem below3 (w : World) (a b c : Obj) : Below w.heap.size w (((w.alloc a).alloc b).alloc c):=(((Below.refl _ w).alloc (Nat.le_refl _) _).alloc (by simp) _).alloc (by simp; omega) _
end Go.Proofs.YtekfbphnoibnjaaGreatDoor
namespace Go.Proofs.YtekfbphnoibnjaaGreatDoor
open Go.RowKit
inductive Up where
 | call (fn : FuncId) (args : Array Value) (v : Value)
 | box (ob : Obj)
def updB {α : Type} (f : Nat -> α) (i : Nat) (v : α) : Nat -> α:=fun j => if j = i then v else f j
theorem updB_same {α : Type} (f : Nat -> α) (i : Nat) (v : α) : updB f i v i = v:=if_pos rfl
theorem updB_ne {α : Type} (f : Nat -> α) {i j : Nat} (v : α) (h : j ≠ i) : updB f i v j = f j:=if_neg h
def leftOf (k : Nat) (δ : Nat -> Bool) : Nat:=((List.range k).filter fun i => !δ i).length
def doneUp (w : World) (H : Nat) (v : Value) : Up -> Prop
 | .call _ _ u => v = u
 | .box ob => ∃ b,v = .pointer (some ⟨b,0,none⟩) /\ w.heap[b]? = some ob /\ H <= b
def isBox : Up -> Prop
 | .call _ _ _ => False
 | .box _ => True
structure UpAt (k : Nat) (K : Nat -> Up) (H : Nat) (δ : Nat -> Bool) (σ : Nat -> Value) (w : World) : Prop where
 all : ∀ i,i < k -> δ i = true -> doneUp w H (σ i) (K i)
 apart : ∀ i j,i < k -> j < k -> i ≠ j -> δ i = true -> δ j = true -> isBox (K i) -> isBox (K j) -> σ i ≠ σ j
theorem doneUp.below {w w' : World} {H : Nat} {v : Value} {u : Up} (h : doneUp w H v u) (f : Below w.heap.size w w') : doneUp w' H v u:=by
 cases u with
 | call _ _ _ => exact h
 | box ob =>
  obtain ⟨b,h1,h2,h3⟩:=h
  exact ⟨b,h1,(f.block b (heap_lt0 h2)).trans h2,h3⟩
def runUp (P : Program) (T : Array Value) (o : Oper) (w : World) : Up -> Prop
 | .call fn args _ => (execOp (Act.eval ⟨T,[]⟩) o).run P w = .ok (.enter fn args) w
 | .box ob => (execOp (Act.eval ⟨T,[]⟩) o).run P w = .ok (.value (.pointer (some ⟨w.heap.size,0,none⟩))) (w.alloc ob)
def callUp (P : Program) (S : World -> Prop) : Up -> Prop
 | .call fn args v => ∀ wx,S wx -> Calls P fn args wx fun e w' => e = .returned v /\ Below wx.heap.size wx w'
 | .box _ => True
def rdy (k : Nat) (idx : Nat -> Nat) (V : (Nat -> Bool) -> Bool) (δ : Nat -> Bool) (rs : List Nat) : Bool:=!rs.isEmpty && rs.all fun j => (List.range k).any fun i => j == idx i && !δ i && V (updB δ i true)
theorem rdy_spec {k : Nat} {idx : Nat -> Nat} {V : (Nat -> Bool) -> Bool} {δ : Nat -> Bool} {rs : List Nat} (h : rdy k idx V δ rs = true) : rs ≠ [] /\ ∀ j ∈ rs,∃ i,i < k /\ j = idx i /\ δ i = false /\ V (updB δ i true) = true:=by
 unfold rdy at h
 rw [Bool.and_eq_true] at h
 refine ⟨fun e => by rw [e] at h; exact absurd h.1 (by decide),fun j hj => ?_⟩
 obtain ⟨i,hi,h2⟩:=List.any_eq_true.1 (List.all_eq_true.1 h.2 j hj)
 simp only [Bool.and_eq_true,beq_iff_eq,Bool.not_eq_true'] at h2
 exact ⟨i,List.mem_range.1 hi,h2.1.1,h2.1.2,h2.2⟩
theorem left_upd {k : Nat} {δ : Nat -> Bool} {i : Nat} (hi : i < k) (h : δ i = false) : leftOf k (updB δ i true) + 1 = leftOf k δ:=by
 unfold leftOf
 have key : ∀ l : List Nat,l.Nodup -> i ∈ l -> (l.filter fun j => !updB δ i true j).length + 1 = (l.filter fun j => !δ j).length:=by
  intro l
  induction l with
  | nil => intro _ h; exact absurd h List.not_mem_nil
  | cons a l ih =>
   intro hn hm
   rw [List.nodup_cons] at hn
   by_cases e : a = i
   ·subst e
    have h2 : (l.filter fun j => !updB δ a true j) = l.filter fun j => !δ j:=List.filter_congr fun j hj => by
     have hne : j ≠ a:=fun e => hn.1 (by rw [<- e]; exact hj)
     rw [updB_ne δ true hne]
    rw [List.filter_cons_of_neg (by simp [updB_same]),List.filter_cons_of_pos (by simp [h]),h2]
    rfl
   ·have hm' : i ∈ l:=by
     rcases List.mem_cons.1 hm with h | h
     ·exact absurd h.symm e
     ·exact h
    have:=ih hn.2 hm'
    by_cases hd : δ a = true
    ·rw [List.filter_cons_of_neg (by simp [updB_ne δ true e,hd]),List.filter_cons_of_neg (by simp [hd])]
     exact this
    ·have hd' : δ a = false:=by simpa using hd
     rw [List.filter_cons_of_pos (by simp [updB_ne δ true e,hd']),List.filter_cons_of_pos (by simp [hd']),List.length_cons,List.length_cons]
     omega
 exact key _ List.nodup_range (List.mem_range.2 hi)
theorem left_pos {k : Nat} {δ : Nat -> Bool} {n : Nat} (h : leftOf k δ = n + 1) : ∃ i,i < k /\ δ i = false:=by
 unfold leftOf at h
 cases e : (List.range k).filter fun i => !δ i with
 | nil => rw [e] at h; cases h
 | cons a l =>
  have ha : a ∈ (List.range k).filter fun i => !δ i:=by rw [e]; simp
  obtain ⟨h1,h2⟩:=List.mem_filter.1 ha
  exact ⟨a,List.mem_range.1 h1,by simpa using h2⟩
theorem left_zero' {k : Nat} {δ : Nat -> Bool} (h : leftOf k δ = 0) : ∀ i,i < k -> δ i = true:=by
 intro i hi
 cases e : δ i with
 | true => rfl
 | false =>
  have hm : i ∈ (List.range k).filter fun i => !δ i:=List.mem_filter.2 ⟨List.mem_range.2 hi,by simp [e]⟩
  unfold leftOf at h
  rw [List.length_eq_zero_iff.1 h] at hm
  exact absurd hm List.not_mem_nil
section
variable {P : Program} {ops : Array Oper} {Q : Exit -> Act -> World -> Prop} {S : World -> Prop}
theorem any_law {k m : Nat} (T : (Nat -> Value) -> Array Value) (F : (Nat -> Bool) -> Array Bool) (idx dst : Nat -> Nat) (K : Nat -> Up) (V : (Nat -> Bool) -> Bool) (H : Nat)
  (hop : ∀ i,i < k -> ∃ o,ops[idx i]? = some o /\ o.dst = some (dst i) /\ (∀ t,Region.wanted o t = true) /\ ∀ σ w,runUp P (T σ) o w (K i))
  (hT : ∀ σ i v,i < k -> (T σ).setIfInBounds (dst i) v = T (updB σ i v)) (hF : ∀ δ i,i < k -> (F δ).setIfInBounds (idx i) true = F (updB δ i true))
  (hr : ∀ δ,V δ = true -> (∃ i,i < k /\ δ i = false) -> ∃ rs,Region.ready .any ops (F δ) = rs /\ rdy k idx V δ rs = true)
  (hc : ∀ i,i < k -> callUp P S (K i)) (hS : ∀ wx wy,S wx -> Below wx.heap.size wx wy -> S wy) (hH : ∀ wx,S wx -> H <= wx.heap.size)
  (hend : ∀ δ σ wx,(∀ i,i < k -> δ i = true) -> S wx -> UpAt k K H δ σ wx -> wpAnyH P .any ops Q S m (F δ) ⟨T σ,[]⟩ wx) :
  ∀ (n : Nat) (δ : Nat -> Bool) (σ : Nat -> Value) (wx : World),leftOf k δ = n -> V δ = true -> S wx -> UpAt k K H δ σ wx -> wpAnyH P .any ops Q S (n + m) (F δ) ⟨T σ,[]⟩ wx
 | 0,δ,σ,wx,hn,_,hs,hu => by
  rw [Nat.zero_add]
  exact hend δ σ wx (left_zero' hn) hs hu
 | n + 1,δ,σ,wx,hn,hv,hs,hu => by
  have ih:=any_law T F idx dst K V H hop hT hF hr hc hS hH hend n
  obtain ⟨rs,hrs,hrd0⟩:=hr δ hv (left_pos hn)
  have hrd:=rdy_spec hrd0
  rw [show n + 1 + m = n + m + 1 by omega]
  refine wpAnyH_all hrs hrd.1 ?_
  intro j hj
  obtain ⟨i,hi,rfl,hf,hv'⟩:=hrd.2 j hj
  have hl:=left_upd hi hf
  obtain ⟨o,ho,hd,hw,hrun⟩:=hop i hi
  have hrun':=hrun σ wx
  have hc':=hc i hi
  cases hK : K i with
  | call fn args v =>
   rw [hK] at hrun' hc'
   refine wpOp_enter ho (hw _) hrun' ((hc' wx hs).mono ?_)
   rintro e w' ⟨rfl,hb⟩
   refine ⟨hS _ _ hs hb,?_⟩
   rw [put_at hd,hT σ i v hi,hF δ i hi]
   refine ih _ _ w' (by omega) hv' (hS _ _ hs hb) ⟨fun a ha hda => ?_,fun a c ha hcl hac hda hdc hKa hKc => ?_⟩
   ·by_cases e : a = i
    ·subst e
     rw [hK,updB_same]
     exact rfl
    ·rw [updB_ne _ _ e] at hda ⊢
     exact (hu.all a ha hda).below hb
   ·have e1 : a ≠ i:=fun e => by subst e; rw [hK] at hKa; exact hKa
    have e2 : c ≠ i:=fun e => by subst e; rw [hK] at hKc; exact hKc
    rw [updB_ne _ _ e1] at hda ⊢
    rw [updB_ne _ _ e2] at hdc ⊢
    exact hu.apart a c ha hcl hac hda hdc hKa hKc
  | box ob =>
   rw [hK] at hrun'
   have hb : Below wx.heap.size wx (wx.alloc ob):=(Below.refl _ _).alloc (Nat.le_refl _) _
   refine wpOp_value ho (hw _) hrun' ⟨hS _ _ hs hb,?_⟩
   rw [put_at hd,hT σ i _ hi,hF δ i hi]
   have far : ∀ a,a < k -> δ a = true -> isBox (K a) -> σ a ≠ .pointer (some ⟨wx.heap.size,0,none⟩):=fun a ha hda hKa e2 => by
    have h0:=hu.all a ha hda
    cases hKb : K a with
    | call _ _ _ => rw [hKb] at hKa; exact hKa
    | box ob' =>
     rw [hKb] at h0
     obtain ⟨b,h1,h2,h3⟩:=h0
     rw [h1] at e2
     have:=heap_lt0 h2
     injection e2 with e2
     injection e2 with e2
     injection e2 with e2
     omega
   refine ih _ _ _ (by omega) hv' (hS _ _ hs hb) ⟨fun a ha hda => ?_,fun a c ha hcl hac hda hdc hKa hKc => ?_⟩
   ·by_cases e : a = i
    ·subst e
     rw [hK,updB_same]
     exact ⟨wx.heap.size,rfl,heap_alloc_last wx ob,hH wx hs⟩
    ·rw [updB_ne _ _ e] at hda ⊢
     exact (hu.all a ha hda).below hb
   ·by_cases e1 : a = i
    ·subst e1
     have e2 : c ≠ a:=Ne.symm hac
     rw [updB_ne _ _ e2] at hdc
     rw [updB_same,updB_ne _ _ e2]
     exact Ne.symm (far c hcl hdc hKc)
    ·rw [updB_ne _ _ e1] at hda
     by_cases e2 : c = i
     ·subst e2
      rw [updB_same,updB_ne _ _ e1]
      exact far a ha hda hKa
     ·rw [updB_ne _ _ e2] at hdc
      rw [updB_ne _ _ e1,updB_ne _ _ e2]
      exact hu.apart a c ha hcl hac hda hdc hKa hKc
end
end Go.Proofs.YtekfbphnoibnjaaGreatDoor
namespace Go.Proofs.YtekfbphnoibnjaaGreatDoor
open Go.RowKit
open Flm (Px FS)
def PixIn (w : World) (nb N : Nat) (ps : List Px) : Prop:=nb < w.heap.size /\ ∀ k,k < N -> w.cell? ⟨nb,k * 3,none⟩ = some (.int .u8 (ps.getD k (0,0,0)).1) /\ w.cell? ⟨nb,k * 3 + 1,none⟩ = some (.int .u8 (ps.getD k (0,0,0)).2.1) /\ w.cell? ⟨nb,k * 3 + 2,none⟩ = some (.int .u8 (ps.getD k (0,0,0)).2.2)
theorem PixIn.frm {S : Nat -> Prop} {a b : World} {nb N : Nat} {ps : List Px} (h : PixIn a nb N ps) (f : Frm S a b) (hn : ¬ S nb) : PixIn b nb N ps :=
 ⟨Nat.lt_of_lt_of_le h.1 f.size,fun k hk => ⟨f.cell (h.2 k hk).1 hn,f.cell (h.2 k hk).2.1 hn,f.cell (h.2 k hk).2.2 hn⟩⟩
theorem PixIn.below {a b : World} {nb N : Nat} {ps : List Px} (h : PixIn a nb N ps) (f : Below a.heap.size a b) : PixIn b nb N ps:=h.frm (Frm.of_below (S:=fun _ => False) f) (fun e => e)
set_option maxHeartbeats 1000000 in
set_option maxRecDepth 20000 in
theorem pAt_raw {C : Nat} (w : World) (nb N z x y : Nat) (a b c : Int) (k : Nat) (hk : k = y * z + x) (hkN : k < N) (hN2 : N <= 256)
  (k0 : w.cell? ⟨nb,k * 3,none⟩ = some (.int .u8 a)) (k1 : w.cell? ⟨nb,k * 3 + 1,none⟩ = some (.int .u8 b)) (k2 : w.cell? ⟨nb,k * 3 + 2,none⟩ = some (.int .u8 c)) :
  Calls Tryz.prog 113 #[.agg #[.int .i64 z,.slice (some ⟨nb,0,none⟩) N C],.int .i64 x,.int .i64 y] w fun e w' => e = .returned (.agg #[.int .u8 a,.int .u8 b,.int .u8 c]) /\ Below w.heap.size w w':=by
 have e2 : (y : Int) * (z : Int) + (x : Int) = (k : Int):=by rw [hk,Int.natCast_add,Int.natCast_mul]
 have hyz : y * z <= 256:=by omega
 have p0 : 0 <= (y : Int) * (z : Int):=by rw [<- Int.natCast_mul]; omega
 have p1 : (y : Int) * (z : Int) <= 256:=by rw [<- Int.natCast_mul]; omega
 have hk' : (k : Int) < (N : Int):=by omega
 have w1 : wrap64 ((y : Int) * (z : Int)) = (y : Int) * (z : Int):=by unfold wrap64; omega
 have w2 : wrap64 ((y : Int) * (z : Int) + (x : Int)) = (k : Int):=by rw [e2]; unfold wrap64; omega
 obtain ⟨W,hW⟩ : ∃ W,W = (w.alloc (.cells #[.int .i64 z,.slice (some ⟨nb,0,none⟩) N C] 89)).alloc (.cells #[.int .u8 0,.int .u8 0,.int .u8 0] 50):=⟨_,rfl⟩
 have hB : Below w.heap.size w W:=by rw [hW]; exact ((Below.refl _ _).alloc (Nat.le_refl _) _).alloc (by simp) _
 have Q : ∀ (bk off : Nat) (v : Value),w.cell? ⟨bk,off,none⟩ = some v -> W.cell? ⟨bk,off,none⟩ = some v:=fun bk off v h => (hB.cell (World.block_lt_of_cell? w _ h)).trans h
 have l0:=Q _ _ _ k0
 have l1:=Q _ _ _ k1
 have l2:=Q _ _ _ k2
 rw [hW] at l0 l1 l2
 have HB : Hid (Below w.heap.size w ((w.alloc (.cells #[.int .i64 z,.slice (some ⟨nb,0,none⟩) N C] 89)).alloc (.cells #[.int .u8 0,.int .u8 0,.int .u8 0] 50))):=by rw [<- hW]; exact hB
 clear hk hyz Q k0 k1 k2 hW hB
 go_enter Tryz.func113,Tryz.ntmps113
 go_wp2
 refine bodyPost_ret (v:=.agg #[.int .u8 a,.int .u8 b,.int .u8 c]) (by simp [results,Tryz.results113,go_sem]) rfl ⟨rfl,?_⟩
 have hbel:=HB.out
 repeat (first | exact hbel | exact Below.refl _ _ | refine Below.setCell ?_ (by simp) _ | refine Below.alloc ?_ (by simp) _ | refine below_drewN ?_ _)
theorem pAt {C : Nat} (w : World) (nb z : Nat) (ps : List Px) (hz : z * z <= 256) (h : PixIn w nb (z * z) ps) (x y : Nat) (hx : x < z) (hy : y < z) :
  Calls Tryz.prog 113 #[.agg #[.int .i64 z,.slice (some ⟨nb,0,none⟩) (z * z) C],.int .i64 x,.int .i64 y] w fun e w' => e = .returned (.agg #[.int .u8 (ps.getD (y * z + x) (0,0,0)).1,.int .u8 (ps.getD (y * z + x) (0,0,0)).2.1,.int .u8 (ps.getD (y * z + x) (0,0,0)).2.2]) /\ Below w.heap.size w w':=by
 have hk:=spot_lt hx hy
 obtain ⟨k0,k1,k2⟩:=h.2 (y * z + x) hk
 exact pAt_raw w nb (z * z) z x y _ _ _ _ rfl hk hz k0 k1 k2
set_option maxHeartbeats 1000000 in
theorem pTurned {C : Nat} (w : World) (nb z : Nat) (ps : List Px) (hz : z * z <= 256) (h : PixIn w nb (z * z) ps) (hp : ∀ k,Flm.okPx (ps.getD k (0,0,0))) (fs : FS) (hps : ps = fs.frs.getD (Flm.now fs) []) (x y : Int) (hx1 : x < z) (hy1 : y < z) :
  Calls Tryz.prog 132 #[.agg #[.int .i64 z,.slice (some ⟨nb,0,none⟩) (z * z) C],.int .i64 x,.int .i64 y] w fun e w' => e = .returned (.agg #[.int .i64 (Flm.near z fs x y).1,.int .i64 (Flm.near z fs x y).2.1,.int .i64 (Flm.near z fs x y).2.2]) /\ Below w.heap.size w w':=by
 by_cases hx : x < 0
 ·have e : Flm.near z fs x y = (0,0,0):=by unfold Flm.near; rw [if_pos (.inl hx)]
  rw [e]
  clear h hp hps e
  go_enter Tryz.func132,Tryz.ntmps132
  go_wp2
  refine bodyPost_ret (v:=.agg #[.int .i64 0,.int .i64 0,.int .i64 0]) (by simp [results,Tryz.results132,go_sem]) rfl ⟨rfl,?_⟩
  repeat (first | exact Below.refl _ _ | refine Below.setCell ?_ (by simp) _ | refine Below.alloc ?_ (by simp) _ | refine below_drewN ?_ _)
 by_cases hy : y < 0
 ·have e : Flm.near z fs x y = (0,0,0):=by unfold Flm.near; rw [if_pos (.inr (.inl hy))]
  rw [e]
  clear h hp hps e
  go_enter Tryz.func132,Tryz.ntmps132
  go_wp2
  refine bodyPost_ret (v:=.agg #[.int .i64 0,.int .i64 0,.int .i64 0]) (by simp [results,Tryz.results132,go_sem]) rfl ⟨rfl,?_⟩
  repeat (first | exact Below.refl _ _ | refine Below.setCell ?_ (by simp) _ | refine Below.alloc ?_ (by simp) _ | refine below_drewN ?_ _)
 ·obtain ⟨X,rfl⟩:=Int.eq_ofNat_of_zero_le (Int.not_lt.1 hx)
  obtain ⟨Y,rfl⟩:=Int.eq_ofNat_of_zero_le (Int.not_lt.1 hy)
  obtain ⟨q,hq⟩ : ∃ q,q = ps.getD (Y * z + X) (0,0,0):=⟨_,rfl⟩
  have e : Flm.near z fs (X : Int) (Y : Int) = (Pix.tY q.1 q.2.1 q.2.2,q.1 - q.2.2,Pix.tV q.1 q.2.1 q.2.2):=by
   unfold Flm.near Flm.px
   rw [if_neg (by omega),hq,hps]
   rfl
  have HA : Hid (∀ wx,Below w.heap.size w wx -> Calls Tryz.prog 113 #[.agg #[.int .i64 z,.slice (some ⟨nb,0,none⟩) (z * z) C],.int .i64 X,.int .i64 Y] wx fun e w' => e = .returned (.agg #[.int .u8 q.1,.int .u8 q.2.1,.int .u8 q.2.2]) /\ Below wx.heap.size wx w'):=by
   intro wx hb
   have:=pAt (C:=C) wx nb z ps hz (h.frm (Frm.of_below (S:=fun _ => False) hb) (fun e => e)) X Y (by omega) (by omega)
   rw [<- hq] at this
   exact this
  obtain ⟨⟨q0,q1⟩,⟨q2,q3⟩,⟨q4,q5⟩⟩ : Flm.okPx q:=by rw [hq]; exact hp _
  have HT:=fun wx => colTurn q.1 q.2.1 q.2.2 wx q0 q1 q2 q3 q4 q5
  rw [e]
  clear h e hq hp hps q0 q1 q2 q3 q4 q5
  obtain ⟨Z,hZ⟩ : ∃ Z,Z = z * z:=⟨_,rfl⟩
  rw [<- hZ] at HA
  rw [<- hZ]
  obtain ⟨W,hW⟩ : ∃ W,W = (w.alloc (.cells #[.int .i64 z,.slice (some ⟨nb,0,none⟩) Z C] 89)).alloc (.cells #[.int .i64 0,.int .i64 0,.int .i64 0] 48):=⟨_,rfl⟩
  have hh : W.heap[w.heap.size + 1]? = some (.cells #[.int .i64 0,.int .i64 0,.int .i64 0] 48):=by
   have:=heap_alloc_last (w.alloc (.cells #[.int .i64 z,.slice (some ⟨nb,0,none⟩) Z C] 89)) (.cells #[.int .i64 0,.int .i64 0,.int .i64 0] 48)
   rw [World.size_alloc] at this
   rw [hW]; exact this
  have hB : Below w.heap.size w W:=by rw [hW]; exact ((Below.refl _ _).alloc (Nat.le_refl _) _).alloc (by simp) _
  have hoW : w.heap.size + 1 < W.heap.size:=by rw [hW]; simp
  have HH : Hid (∀ w2,Below W.heap.size W w2 -> w2.heap[w.heap.size + 1]? = some (.cells #[.int .i64 0,.int .i64 0,.int .i64 0] 48)):=fun w2 b2 => (b2.block _ hoW).trans hh
  have HB : Hid (Below w.heap.size w W):=hB
  have HW : Hid (W = (w.alloc (.cells #[.int .i64 z,.slice (some ⟨nb,0,none⟩) Z C] 89)).alloc (.cells #[.int .i64 0,.int .i64 0,.int .i64 0] 48)):=hW
  clear hW hh hB hoW hZ hz
  go_enter Tryz.func132,Tryz.ntmps132
  go_wp2_with (first
   | (go_at_call 113; rw [<- HW.out]; refine (HA.out _ HB.out).mono ?_; rintro e w1 ⟨rfl,b1⟩)
   | (go_at_call 96; refine (HT _).mono ?_; rintro e w2 ⟨rfl,b2⟩; have hg:=HH.out w2 (b1.trans (b2.mono b1.size)); have s0:=cell_of_row w2 (w.heap.size + 1) 0 _ _ _ hg; have s1:=cell_of_row w2 (w.heap.size + 1) 1 _ _ _ hg; have s2:=cell_of_row w2 (w.heap.size + 1) 2 _ _ _ hg; have z0:=frozen_of_row w2 (w.heap.size + 1) 0 _ _ hg; have z1:=frozen_of_row w2 (w.heap.size + 1) 1 _ _ hg; have z2:=frozen_of_row w2 (w.heap.size + 1) 2 _ _ hg; simp at s0 s1 s2))
  refine bodyPost_ret (v:=.agg #[.int .i64 (Pix.tY q.1 q.2.1 q.2.2),.int .i64 (q.1 - q.2.2),.int .i64 (Pix.tV q.1 q.2.1 q.2.2)]) (by simp [results,Tryz.results132,go_sem,s0,s1,s2]) rfl ⟨rfl,?_⟩
  have hb2 : Below w.heap.size w w2:=HB.out.trans ((b1.trans (b2.mono b1.size)).mono HB.out.size)
  repeat (first | exact hb2 | refine Below.setCell ?_ (by simp) _ | refine below_drewN ?_ _)
end Go.Proofs.YtekfbphnoibnjaaGreatDoor
