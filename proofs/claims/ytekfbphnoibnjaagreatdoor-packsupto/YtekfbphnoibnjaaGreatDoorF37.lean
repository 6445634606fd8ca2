/-
  Is this a film? The document's answer, where the size is one. A film in memory, whatever it holds; a film that is lent, with room behind its frames and behind the list of them. The law's function: the same film? Where the first lies anywhere. What the program tells of a film, and the law's look at it. A film is lent: what is needed of one frame's room.
-/
import Derived.Test.YtekfbphnoibnjaaGreatDoorF36
import Derived.Test.YtekfbphnoibnjaaGreatDoorF10
import Derived.Test.YtekfbphnoibnjaaGreatDoorF15
import Derived.Test.YtekfbphnoibnjaaGreatDoorF02
namespace Go.Proofs.YtekfbphnoibnjaaGreatDoor
open Go.RowKit Go.Shelf
set_option maxHeartbeats 4000000 in
theorem refRight4b (w : World) (fa : Option Addr) (N fc : Nat) (ls : Nat -> Nat) (hN : ¬ N <= 8) :
  Calls Tryz.prog 72 #[.agg #[.int .i64 4,.slice fa N fc]] w fun e w' => e = .returned (.bool (rightB 4 N ls)) /\ Below w.heap.size w w':=by
 have hN' : (N : Int) > 8:=by omega
 have hr : rightB 4 N ls = false:=by unfold rightB; simp [hN]
 rw [hr]
 have HB : Hid (Below w.heap.size w (w.alloc (.cells #[.int .i64 4,.slice fa N fc] 27))):=(Below.refl _ w).alloc (Nat.le_refl _) _
 clear hr
 go_enter Tryz.func72,Tryz.ntmps72
 go_wp2
 go_ret
 exact ⟨rfl,HB.out⟩
set_option maxHeartbeats 4000000 in
theorem refRight4 (w : World) (fa : Option Addr) (N fc : Nat) (ls : Nat -> Nat) (h : RowsIn w fa N ls) (hN : N <= 8) :
  Calls Tryz.prog 72 #[.agg #[.int .i64 4,.slice fa N fc]] w fun e w' => e = .returned (.bool (rightB 4 N ls)) /\ Below w.heap.size w w':=by
 have hN' : ¬ ((N : Int) > 8):=by omega
 have hr : rightB 4 N ls = (List.range N).all fun j => decide ((ls j : Int) = 16):=by unfold rightB; simp [sizeB,hN]
 rw [hr]
 obtain ⟨H,hH⟩ : ∃ H,H = w.heap.size:=⟨_,rfl⟩
 obtain ⟨W1,hW1⟩ : ∃ W1,W1 = w.alloc (.cells #[.int .i64 4,.slice fa N fc] 27):=⟨_,rfl⟩
 have hB1 : Below w.heap.size w W1:=by rw [hW1]; exact (Below.refl _ w).alloc (Nat.le_refl _) _
 have x0 : W1.heap[H]? = some (.cells #[.int .i64 4,.slice fa N fc] 27):=by rw [hW1,hH]; exact heap_alloc_last w _
 have k0 : W1.cell? ⟨H,0,none⟩ = some (.int .i64 4):=cell_of_row _ _ 0 _ _ _ x0
 have k1 : W1.cell? ⟨H,1,none⟩ = some (.slice fa N fc):=cell_of_row _ _ 1 _ _ _ x0
 have HW : Hid (W1 = w.alloc (.cells #[.int .i64 4,.slice fa N fc] 27) /\ H = w.heap.size /\ Below w.heap.size w W1):=⟨hW1,hH,hB1⟩
 have HR : Hid (RowsIn w fa N ls):=h
 clear hW1 hB1 hH x0 h hr
 go_enter Tryz.func72,Tryz.ntmps72
 go_wp2_with (rw [<- HW.out.1,<- HW.out.2.1])
 go_loopw [3] (fun v wr => ∃ j : Nat,j <= N /\ v = .int .i64 j /\ (∃ d,wr = W1.drewN d) /\ ∀ i,i < j -> (ls i : Int) = 16) (fun v _ => N - (intOf v).toNat)
 case atStart => exact ⟨0,Nat.zero_le _,rfl,⟨0,rfl⟩,fun i hi => absurd hi (Nat.not_lt_zero _)⟩
 case round =>
  obtain ⟨j,hj,rfl,⟨d,rfl⟩,hall⟩:=hrel
  by_cases hlt : j < N
  ·have hlt' : (j : Int) < (N : Int):=by omega
   obtain ⟨fb,off,rfl,hf⟩:=HR.out.resolve_left (by omega)
   obtain ⟨a,c,hc⟩:=hf j hlt
   have kc:=(HW.out.2.2.cell (World.block_lt_of_cell? w _ hc)).trans hc
   obtain ⟨m,hm⟩ : ∃ m,m = ls j:=⟨_,rfl⟩
   rw [<- hm] at kc
   have HA : Hid ((∀ i,i < j -> (ls i : Int) = 16) /\ m = ls j):=⟨hall,hm⟩
   clear hall hf hc hm
   by_cases he : (m : Int) = 16
   ·have he2 : ((m : Int) == 16) = true:=by simpa using he
    have HM : Hid ((m : Int) = 16):=he
    clear he
    go_wp2
    go_region
    all_goals
     go_wp2
     go_roundw
     case rel =>
      refine ⟨j + 1,hlt,by go_num,⟨_,rfl⟩,fun i hi => ?_⟩
      by_cases hij : i < j
      ·exact HA.out.1 i hij
      ·have : i = j:=by omega
       rw [this,<- HA.out.2]
       exact HM.out
     case measure => simp [intOf]; omega
   ·have he2 : ((m : Int) == 16) = false:=by simpa using he
    have HF : Hid ((List.range N).all (fun j => decide ((ls j : Int) = 16)) = false):=by
     rw [Hid,List.all_eq_false]
     exact ⟨j,List.mem_range.2 hlt,by rw [<- HA.out.2]; simpa using he⟩
    clear he
    go_wp2
    go_region
    all_goals
     go_wp2
     go_ret
     exact ⟨congrArg (fun b => Ending.returned (Value.bool b)) HF.out.symm,below_drewN HW.out.2.2 _⟩
  ·have hlt' : ¬ (j : Int) < (N : Int):=by omega
   have HA : Hid ((List.range N).all (fun j => decide ((ls j : Int) = 16)) = true):=by
    rw [Hid,List.all_eq_true]
    intro i hi
    exact decide_eq_true (hall i (by have:=List.mem_range.1 hi; omega))
   clear hall
   go_wp2
   go_ret
   exact ⟨congrArg (fun b => Ending.returned (Value.bool b)) HA.out.symm,below_drewN HW.out.2.2 _⟩
set_option maxHeartbeats 4000000 in
theorem refRight8b (w : World) (fa : Option Addr) (N fc : Nat) (ls : Nat -> Nat) (hN : ¬ N <= 8) :
  Calls Tryz.prog 72 #[.agg #[.int .i64 8,.slice fa N fc]] w fun e w' => e = .returned (.bool (rightB 8 N ls)) /\ Below w.heap.size w w':=by
 have hN' : (N : Int) > 8:=by omega
 have hr : rightB 8 N ls = false:=by unfold rightB; simp [hN]
 rw [hr]
 have HB : Hid (Below w.heap.size w (w.alloc (.cells #[.int .i64 8,.slice fa N fc] 27))):=(Below.refl _ w).alloc (Nat.le_refl _) _
 clear hr
 go_enter Tryz.func72,Tryz.ntmps72
 go_wp2
 go_ret
 exact ⟨rfl,HB.out⟩
set_option maxHeartbeats 4000000 in
theorem refRight8 (w : World) (fa : Option Addr) (N fc : Nat) (ls : Nat -> Nat) (h : RowsIn w fa N ls) (hN : N <= 8) :
  Calls Tryz.prog 72 #[.agg #[.int .i64 8,.slice fa N fc]] w fun e w' => e = .returned (.bool (rightB 8 N ls)) /\ Below w.heap.size w w':=by
 have hN' : ¬ ((N : Int) > 8):=by omega
 have hr : rightB 8 N ls = (List.range N).all fun j => decide ((ls j : Int) = 64):=by unfold rightB; simp [sizeB,hN]
 rw [hr]
 obtain ⟨H,hH⟩ : ∃ H,H = w.heap.size:=⟨_,rfl⟩
 obtain ⟨W1,hW1⟩ : ∃ W1,W1 = w.alloc (.cells #[.int .i64 8,.slice fa N fc] 27):=⟨_,rfl⟩
 have hB1 : Below w.heap.size w W1:=by rw [hW1]; exact (Below.refl _ w).alloc (Nat.le_refl _) _
 have x0 : W1.heap[H]? = some (.cells #[.int .i64 8,.slice fa N fc] 27):=by rw [hW1,hH]; exact heap_alloc_last w _
 have k0 : W1.cell? ⟨H,0,none⟩ = some (.int .i64 8):=cell_of_row _ _ 0 _ _ _ x0
 have k1 : W1.cell? ⟨H,1,none⟩ = some (.slice fa N fc):=cell_of_row _ _ 1 _ _ _ x0
 have HW : Hid (W1 = w.alloc (.cells #[.int .i64 8,.slice fa N fc] 27) /\ H = w.heap.size /\ Below w.heap.size w W1):=⟨hW1,hH,hB1⟩
 have HR : Hid (RowsIn w fa N ls):=h
 clear hW1 hB1 hH x0 h hr
 go_enter Tryz.func72,Tryz.ntmps72
 go_wp2_with (rw [<- HW.out.1,<- HW.out.2.1])
 go_loopw [3] (fun v wr => ∃ j : Nat,j <= N /\ v = .int .i64 j /\ (∃ d,wr = W1.drewN d) /\ ∀ i,i < j -> (ls i : Int) = 64) (fun v _ => N - (intOf v).toNat)
 case atStart => exact ⟨0,Nat.zero_le _,rfl,⟨0,rfl⟩,fun i hi => absurd hi (Nat.not_lt_zero _)⟩
 case round =>
  obtain ⟨j,hj,rfl,⟨d,rfl⟩,hall⟩:=hrel
  by_cases hlt : j < N
  ·have hlt' : (j : Int) < (N : Int):=by omega
   obtain ⟨fb,off,rfl,hf⟩:=HR.out.resolve_left (by omega)
   obtain ⟨a,c,hc⟩:=hf j hlt
   have kc:=(HW.out.2.2.cell (World.block_lt_of_cell? w _ hc)).trans hc
   obtain ⟨m,hm⟩ : ∃ m,m = ls j:=⟨_,rfl⟩
   rw [<- hm] at kc
   have HA : Hid ((∀ i,i < j -> (ls i : Int) = 64) /\ m = ls j):=⟨hall,hm⟩
   clear hall hf hc hm
   by_cases he : (m : Int) = 64
   ·have he2 : ((m : Int) == 64) = true:=by simpa using he
    have HM : Hid ((m : Int) = 64):=he
    clear he
    go_wp2
    go_region
    all_goals
     go_wp2
     go_roundw
     case rel =>
      refine ⟨j + 1,hlt,by go_num,⟨_,rfl⟩,fun i hi => ?_⟩
      by_cases hij : i < j
      ·exact HA.out.1 i hij
      ·have : i = j:=by omega
       rw [this,<- HA.out.2]
       exact HM.out
     case measure => simp [intOf]; omega
   ·have he2 : ((m : Int) == 64) = false:=by simpa using he
    have HF : Hid ((List.range N).all (fun j => decide ((ls j : Int) = 64)) = false):=by
     rw [Hid,List.all_eq_false]
     exact ⟨j,List.mem_range.2 hlt,by rw [<- HA.out.2]; simpa using he⟩
    clear he
    go_wp2
    go_region
    all_goals
     go_wp2
     go_ret
     exact ⟨congrArg (fun b => Ending.returned (Value.bool b)) HF.out.symm,below_drewN HW.out.2.2 _⟩
  ·have hlt' : ¬ (j : Int) < (N : Int):=by omega
   have HA : Hid ((List.range N).all (fun j => decide ((ls j : Int) = 64)) = true):=by
    rw [Hid,List.all_eq_true]
    intro i hi
    exact decide_eq_true (hall i (by have:=List.mem_range.1 hi; omega))
   clear hall
   go_wp2
   go_ret
   exact ⟨congrArg (fun b => Ending.returned (Value.bool b)) HA.out.symm,below_drewN HW.out.2.2 _⟩
set_option maxHeartbeats 4000000 in
theorem refRight16b (w : World) (fa : Option Addr) (N fc : Nat) (ls : Nat -> Nat) (hN : ¬ N <= 8) :
  Calls Tryz.prog 72 #[.agg #[.int .i64 16,.slice fa N fc]] w fun e w' => e = .returned (.bool (rightB 16 N ls)) /\ Below w.heap.size w w':=by
 have hN' : (N : Int) > 8:=by omega
 have hr : rightB 16 N ls = false:=by unfold rightB; simp [hN]
 rw [hr]
 have HB : Hid (Below w.heap.size w (w.alloc (.cells #[.int .i64 16,.slice fa N fc] 27))):=(Below.refl _ w).alloc (Nat.le_refl _) _
 clear hr
 go_enter Tryz.func72,Tryz.ntmps72
 go_wp2
 go_ret
 exact ⟨rfl,HB.out⟩
set_option maxHeartbeats 4000000 in
theorem refRight16 (w : World) (fa : Option Addr) (N fc : Nat) (ls : Nat -> Nat) (h : RowsIn w fa N ls) (hN : N <= 8) :
  Calls Tryz.prog 72 #[.agg #[.int .i64 16,.slice fa N fc]] w fun e w' => e = .returned (.bool (rightB 16 N ls)) /\ Below w.heap.size w w':=by
 have hN' : ¬ ((N : Int) > 8):=by omega
 have hr : rightB 16 N ls = (List.range N).all fun j => decide ((ls j : Int) = 256):=by unfold rightB; simp [sizeB,hN]
 rw [hr]
 obtain ⟨H,hH⟩ : ∃ H,H = w.heap.size:=⟨_,rfl⟩
 obtain ⟨W1,hW1⟩ : ∃ W1,W1 = w.alloc (.cells #[.int .i64 16,.slice fa N fc] 27):=⟨_,rfl⟩
 have hB1 : Below w.heap.size w W1:=by rw [hW1]; exact (Below.refl _ w).alloc (Nat.le_refl _) _
 have x0 : W1.heap[H]? = some (.cells #[.int .i64 16,.slice fa N fc] 27):=by rw [hW1,hH]; exact heap_alloc_last w _
 have k0 : W1.cell? ⟨H,0,none⟩ = some (.int .i64 16):=cell_of_row _ _ 0 _ _ _ x0
 have k1 : W1.cell? ⟨H,1,none⟩ = some (.slice fa N fc):=cell_of_row _ _ 1 _ _ _ x0
 have HW : Hid (W1 = w.alloc (.cells #[.int .i64 16,.slice fa N fc] 27) /\ H = w.heap.size /\ Below w.heap.size w W1):=⟨hW1,hH,hB1⟩
 have HR : Hid (RowsIn w fa N ls):=h
 clear hW1 hB1 hH x0 h hr
 go_enter Tryz.func72,Tryz.ntmps72
 go_wp2_with (rw [<- HW.out.1,<- HW.out.2.1])
 go_loopw [3] (fun v wr => ∃ j : Nat,j <= N /\ v = .int .i64 j /\ (∃ d,wr = W1.drewN d) /\ ∀ i,i < j -> (ls i : Int) = 256) (fun v _ => N - (intOf v).toNat)
 case atStart => exact ⟨0,Nat.zero_le _,rfl,⟨0,rfl⟩,fun i hi => absurd hi (Nat.not_lt_zero _)⟩
 case round =>
  obtain ⟨j,hj,rfl,⟨d,rfl⟩,hall⟩:=hrel
  by_cases hlt : j < N
  ·have hlt' : (j : Int) < (N : Int):=by omega
   obtain ⟨fb,off,rfl,hf⟩:=HR.out.resolve_left (by omega)
   obtain ⟨a,c,hc⟩:=hf j hlt
   have kc:=(HW.out.2.2.cell (World.block_lt_of_cell? w _ hc)).trans hc
   obtain ⟨m,hm⟩ : ∃ m,m = ls j:=⟨_,rfl⟩
   rw [<- hm] at kc
   have HA : Hid ((∀ i,i < j -> (ls i : Int) = 256) /\ m = ls j):=⟨hall,hm⟩
   clear hall hf hc hm
   by_cases he : (m : Int) = 256
   ·have he2 : ((m : Int) == 256) = true:=by simpa using he
    have HM : Hid ((m : Int) = 256):=he
    clear he
    go_wp2
    go_region
    all_goals
     go_wp2
     go_roundw
     case rel =>
      refine ⟨j + 1,hlt,by go_num,⟨_,rfl⟩,fun i hi => ?_⟩
      by_cases hij : i < j
      ·exact HA.out.1 i hij
      ·have : i = j:=by omega
       rw [this,<- HA.out.2]
       exact HM.out
     case measure => simp [intOf]; omega
   ·have he2 : ((m : Int) == 256) = false:=by simpa using he
    have HF : Hid ((List.range N).all (fun j => decide ((ls j : Int) = 256)) = false):=by
     rw [Hid,List.all_eq_false]
     exact ⟨j,List.mem_range.2 hlt,by rw [<- HA.out.2]; simpa using he⟩
    clear he
    go_wp2
    go_region
    all_goals
     go_wp2
     go_ret
     exact ⟨congrArg (fun b => Ending.returned (Value.bool b)) HF.out.symm,below_drewN HW.out.2.2 _⟩
  ·have hlt' : ¬ (j : Int) < (N : Int):=by omega
   have HA : Hid ((List.range N).all (fun j => decide ((ls j : Int) = 256)) = true):=by
    rw [Hid,List.all_eq_true]
    intro i hi
    exact decide_eq_true (hall i (by have:=List.mem_range.1 hi; omega))
   clear hall
   go_wp2
   go_ret
   exact ⟨congrArg (fun b => Ending.returned (Value.bool b)) HA.out.symm,below_drewN HW.out.2.2 _⟩
theorem refRight (w : World) (z : Int) (fa : Option Addr) (N fc : Nat) (ls : Nat -> Nat) (h : RowsIn w fa N ls) :
  Calls Tryz.prog 72 #[.agg #[.int .i64 z,.slice fa N fc]] w fun e w' => e = .returned (.bool (rightB z N ls)) /\ Below w.heap.size w w':=by
 cases hz : sizeB z with
 | false => exact refRightNo w z fa N fc ls hz
 | true =>
  have hzz : z = 4 \/ z = 8 \/ z = 16:=of_decide_eq_true hz
  by_cases hN : N <= 8
  ·rcases hzz with rfl | rfl | rfl
   ·exact refRight4 w fa N fc ls h hN
   ·exact refRight8 w fa N fc ls h hN
   ·exact refRight16 w fa N fc ls h hN
  ·rcases hzz with rfl | rfl | rfl
   ·exact refRight4b w fa N fc ls hN
   ·exact refRight8b w fa N fc ls hN
   ·exact refRight16b w fa N fc ls hN
end Go.Proofs.YtekfbphnoibnjaaGreatDoor
namespace Go.Proofs.YtekfbphnoibnjaaGreatDoor
open Go.RowKit
open Flm (Px okPx)
def PxsIn (w : World) (a : Option Addr) (ps : List Px) : Prop:=ps.length = 0 \/ ∃ b off,a = some ⟨b,off,none⟩ /\ ∀ k,k < ps.length -> w.cell? ⟨b,off + k * 3,none⟩ = some (.int .u8 (ps.getD k (0,0,0)).1) /\ w.cell? ⟨b,off + k * 3 + 1,none⟩ = some (.int .u8 (ps.getD k (0,0,0)).2.1) /\ w.cell? ⟨b,off + k * 3 + 2,none⟩ = some (.int .u8 (ps.getD k (0,0,0)).2.2)
def FiIn (w : World) (fa : Option Addr) (F : List (List Px)) : Prop:=F.length = 0 \/ ∃ fb off,fa = some ⟨fb,off,none⟩ /\ ∀ j,j < F.length -> ∃ a c,w.cell? ⟨fb,off + j,none⟩ = some (.slice a (F.getD j []).length c) /\ PxsIn w a (F.getD j [])
def lensF (F : List (List Px)) : Nat -> Nat:=fun j => (F.getD j []).length
theorem PxsIn.mono {w w' : World} {a : Option Addr} {ps : List Px} (h : PxsIn w a ps) (hc : ∀ p v,w.cell? p = some v -> w'.cell? p = some v) : PxsIn w' a ps :=
 h.imp id fun ⟨b,off,e,hk⟩ => ⟨b,off,e,fun k h1 => ⟨hc _ _ (hk k h1).1,hc _ _ (hk k h1).2.1,hc _ _ (hk k h1).2.2⟩⟩
theorem FiIn.mono {w w' : World} {fa : Option Addr} {F : List (List Px)} (h : FiIn w fa F) (hc : ∀ p v,w.cell? p = some v -> w'.cell? p = some v) : FiIn w' fa F :=
 h.imp id fun ⟨fb,off,e,hk⟩ => ⟨fb,off,e,fun j h1 => (hk j h1).elim fun a ha => ha.elim fun c hac => ⟨a,c,hc _ _ hac.1,hac.2.mono hc⟩⟩
theorem FiIn.below {w w' : World} {fa : Option Addr} {F : List (List Px)} (h : FiIn w fa F) (b : Below w.heap.size w w') : FiIn w' fa F :=
 h.mono fun p _ e => (b.cell (World.block_lt_of_cell? w p e)).trans e
theorem FiIn.rows {w : World} {fa : Option Addr} {F : List (List Px)} (h : FiIn w fa F) : RowsIn w fa F.length (lensF F) :=
 h.imp id fun ⟨fb,off,e,hk⟩ => ⟨fb,off,e,fun j h1 => (hk j h1).elim fun a ha => ha.elim fun c hac => ⟨a,c,hac.1⟩⟩
def lentRow (b s : Nat -> Nat) (F : List (List Px)) (i j : Nat) : List Value :=
 ((List.range i).map fun t => Value.slice (some ⟨b t,0,none⟩) (F.getD t []).length ((F.getD t []).length + 8)) ++ (((List.range j).map fun t => Value.slice (some ⟨s t,0,none⟩) 1 1) ++ List.replicate (F.length - i + (8 - j)) (.slice none 0 0))
def putN (b : Nat -> Nat) (i v t : Nat) : Nat:=if t = i then v else b t
theorem putN_same (b : Nat -> Nat) (i v : Nat) : putN b i v i = v:=if_pos rfl
theorem putN_ne (b : Nat -> Nat) {i t : Nat} (v : Nat) (h : t ≠ i) : putN b i v t = b t:=if_neg h
theorem range_app {α : Type} (f : Nat -> Nat -> α) (b : Nat -> Nat) (v i : Nat) : (List.range (i + 1)).map (fun t => f t (putN b i v t)) = (List.range i).map (fun t => f t (b t)) ++ [f i v]:=by
 have e : (List.range i).map (fun t => f t (putN b i v t)) = (List.range i).map (fun t => f t (b t)):=List.map_congr_left fun t ht => by
  have:=List.mem_range.1 ht
  rw [putN_ne b v (by omega)]
 rw [List.range_succ,List.map_append,List.map_singleton,putN_same,e]
theorem lentRow_frame (b s : Nat -> Nat) (F : List (List Px)) (i v : Nat) (hi : i < F.length) : (lentRow b s F i 0).set i (.slice (some ⟨v,0,none⟩) (F.getD i []).length ((F.getD i []).length + 8)) = lentRow (putN b i v) s F (i + 1) 0:=by
 have e1 : (List.range (i + 1)).map (fun t => Value.slice (some ⟨putN b i v t,0,none⟩) (F.getD t []).length ((F.getD t []).length + 8)) = (List.range i).map (fun t => Value.slice (some ⟨b t,0,none⟩) (F.getD t []).length ((F.getD t []).length + 8)) ++ [Value.slice (some ⟨v,0,none⟩) (F.getD i []).length ((F.getD i []).length + 8)]:=range_app (fun t n => Value.slice (some ⟨n,0,none⟩) (F.getD t []).length ((F.getD t []).length + 8)) b v i
 have e2 : F.length - i + (8 - 0) = (F.length - (i + 1) + (8 - 0)) + 1:=by omega
 unfold lentRow
 rw [e1,e2,List.set_append_right _ _ (by simp),List.length_map,List.length_range,Nat.sub_self i,List.replicate_succ]
 simp
theorem lentRow_spare (b s : Nat -> Nat) (F : List (List Px)) (j v : Nat) (hj : j < 8) : (lentRow b s F F.length j).set (F.length + j) (.slice (some ⟨v,0,none⟩) 1 1) = lentRow b (putN s j v) F F.length (j + 1):=by
 have e1 : (List.range (j + 1)).map (fun t => Value.slice (some ⟨putN s j v t,0,none⟩) 1 1) = (List.range j).map (fun t => Value.slice (some ⟨s t,0,none⟩) 1 1) ++ [Value.slice (some ⟨v,0,none⟩) 1 1]:=range_app (fun _ n => Value.slice (some ⟨n,0,none⟩) 1 1) s v j
 have e2 : F.length - F.length + (8 - j) = (F.length - F.length + (8 - (j + 1))) + 1:=by omega
 unfold lentRow
 rw [e1,e2,List.set_append_right _ _ (by simp),List.length_map,List.length_range,show F.length + j - F.length = j by omega,List.set_append_right _ _ (by simp),List.length_map,List.length_range,Nat.sub_self j,List.replicate_succ]
 simp
theorem lentRow_get (b s : Nat -> Nat) (F : List (List Px)) (i j t : Nat) (h : t < i) : (lentRow b s F i j)[t]? = some (.slice (some ⟨b t,0,none⟩) (F.getD t []).length ((F.getD t []).length + 8)):=by
 unfold lentRow
 rw [List.getElem?_append_left (by simpa using h),List.getElem?_map,List.getElem?_range h]; rfl
theorem lentRow_room (b s : Nat -> Nat) (F : List (List Px)) (i j t : Nat) (h : t < j) : (lentRow b s F i j)[i + t]? = some (.slice (some ⟨s t,0,none⟩) 1 1):=by
 unfold lentRow
 rw [List.getElem?_append_right (by simp),List.length_map,List.length_range,Nat.add_sub_cancel_left,List.getElem?_append_left (by simpa using h),List.getElem?_map,List.getElem?_range h]; rfl
def Nine (w : World) (k : Nat) : Prop:=w.cell? ⟨k,0,none⟩ = some (.int .u8 9) /\ w.cell? ⟨k,1,none⟩ = some (.int .u8 9) /\ w.cell? ⟨k,2,none⟩ = some (.int .u8 9)
def padF (f : List Px) : List Px:=f ++ List.replicate 8 (7,7,7)
structure LentAt (w : World) (B R : Nat) (b s : Nat -> Nat) (F : List (List Px)) (i j : Nat) : Prop where
 row : w.ownsRow B 58 1 (.slice (some ⟨R,0,none⟩) (F.length + 8) (F.length + 8)) (F.length + 8) (lentRow b s F i j)
 fr : ∀ t,t < i -> Pixs w B (b t) ((F.getD t []).length + 8) (padF (F.getD t []))
 sp : ∀ t,t < j -> B <= s t /\ Nine w (s t)
 bR : ∀ t,t < i -> b t ≠ R
 bb : ∀ t u,t < i -> u < i -> b t = b u -> t = u
 sR : ∀ t,t < j -> s t ≠ R
 sb : ∀ t u,t < j -> u < i -> s t ≠ b u
theorem Nine.lt {w : World} {k : Nat} (h : Nine w k) : k < w.heap.size:=World.block_lt_of_cell? w _ h.1
theorem Nine.frm {S : Nat -> Prop} {w w' : World} {k : Nat} (h : Nine w k) (f : Frm S w w') (hn : ¬ S k) : Nine w' k:=⟨f.cell h.1 hn,f.cell h.2.1 hn,f.cell h.2.2 hn⟩
theorem LentAt.lt {w : World} {B R : Nat} {b s : Nat -> Nat} {F : List (List Px)} {i j : Nat} (h : LentAt w B R b s F i j) : B <= R /\ R < w.heap.size:=World.ownsRow.lt h.row R rfl
theorem LentAt.frm {S : Nat -> Prop} {w w' : World} {B R : Nat} {b s : Nat -> Nat} {F : List (List Px)} {i j : Nat} (h : LentAt w B R b s F i j) (f : Frm S w w') (nR : ¬ S R) (nb : ∀ t,t < i -> ¬ S (b t)) (ns : ∀ t,t < j -> ¬ S (s t)) : LentAt w' B R b s F i j :=
 ⟨f.owns h.row (fun k e => by simp [Value.ownBlock] at e; subst e; exact nR),fun t ht => f.pixs (h.fr t ht) (nb t ht),fun t ht => ⟨(h.sp t ht).1,(h.sp t ht).2.frm f (ns t ht)⟩,h.bR,h.bb,h.sR,h.sb⟩
theorem LentAt.below {w w' : World} {B R : Nat} {b s : Nat -> Nat} {F : List (List Px)} {i j : Nat} (h : LentAt w B R b s F i j) (f : Below w.heap.size w w') : LentAt w' B R b s F i j :=
 h.frm (Frm.of_below (S:=fun _ => False) f) (fun e => e) (fun _ _ e => e) (fun _ _ e => e)
theorem LentAt.frame {w : World} {B R : Nat} {b s : Nat -> Nat} {F : List (List Px)} {i : Nat} (h : LentAt w B R b s F i 0) (hi : i < F.length) {v : Nat} (hv : Pixs w B v ((F.getD i []).length + 8) (padF (F.getD i []))) (vR : v ≠ R) (vb : ∀ t,t < i -> b t ≠ v) :
  LentAt (w.setCell ⟨R,i,none⟩ (.slice (some ⟨v,0,none⟩) (F.getD i []).length ((F.getD i []).length + 8))) B R (putN b i v) s F (i + 1) 0:=by
 have f : Frm (fun k => k = R) w (w.setCell ⟨R,i,none⟩ (.slice (some ⟨v,0,none⟩) (F.getD i []).length ((F.getD i []).length + 8))):=(Frm.refl (fun k => k = R) w).setCell (p:=⟨R,i,none⟩) (.inl (show R = R from rfl)) _
 refine ⟨?_,fun t ht => ?_,fun t ht => absurd ht (Nat.not_lt_zero _),fun t ht => ?_,fun t u ht hu => ?_,fun t ht => absurd ht (Nat.not_lt_zero _),fun t _ ht => absurd ht (Nat.not_lt_zero _)⟩
 ·have:=(World.ownsRow.stored h.row i (.slice (some ⟨v,0,none⟩) (F.getD i []).length ((F.getD i []).length + 8))).1
  rw [lentRow_frame b s F i v hi] at this
  exact this
 ·by_cases e : t = i
  ·subst e
   rw [putN_same]
   exact f.pixs hv vR
  ·rw [putN_ne b v e]
   exact f.pixs (h.fr t (by omega)) (h.bR t (by omega))
 ·by_cases e : t = i
  ·rw [e,putN_same]; exact vR
  ·rw [putN_ne b v e]; exact h.bR t (by omega)
 ·by_cases e : t = i
  ·by_cases e' : u = i
   ·intro _; omega
   ·rw [e,putN_same,putN_ne b v e']; intro k; exact absurd k.symm (vb u (by omega))
  ·by_cases e' : u = i
   ·rw [putN_ne b v e,e',putN_same]; intro k; exact absurd k (vb t (by omega))
   ·rw [putN_ne b v e,putN_ne b v e']; exact h.bb t u (by omega) (by omega)
theorem LentAt.spare {w : World} {B R : Nat} {b s : Nat -> Nat} {F : List (List Px)} {j : Nat} (h : LentAt w B R b s F F.length j) (hj : j < 8) {v : Nat} (hv : Nine w v) (hB : B <= v) (vR : v ≠ R) (vb : ∀ t,t < F.length -> v ≠ b t) :
  LentAt (w.setCell ⟨R,F.length + j,none⟩ (.slice (some ⟨v,0,none⟩) 1 1)) B R b (putN s j v) F F.length (j + 1):=by
 have f : Frm (fun k => k = R) w (w.setCell ⟨R,F.length + j,none⟩ (.slice (some ⟨v,0,none⟩) 1 1)):=(Frm.refl (fun k => k = R) w).setCell (p:=⟨R,F.length + j,none⟩) (.inl (show R = R from rfl)) _
 refine ⟨?_,fun t ht => f.pixs (h.fr t ht) (h.bR t ht),fun t ht => ?_,h.bR,h.bb,fun t ht => ?_,fun t u ht hu => ?_⟩
 ·have:=(World.ownsRow.stored h.row (F.length + j) (.slice (some ⟨v,0,none⟩) 1 1)).1
  rw [lentRow_spare b s F j v hj] at this
  exact this
 ·by_cases e : t = j
  ·rw [e,putN_same]; exact ⟨hB,hv.frm f vR⟩
  ·rw [putN_ne s v e]; exact ⟨(h.sp t (by omega)).1,(h.sp t (by omega)).2.frm f (h.sR t (by omega))⟩
 ·by_cases e : t = j
  ·rw [e,putN_same]; exact vR
  ·rw [putN_ne s v e]; exact h.sR t (by omega)
 ·by_cases e : t = j
  ·rw [e,putN_same]; exact vb u hu
  ·rw [putN_ne s v e]; exact h.sb t u (by omega) hu
theorem LentAt.cellAt {w : World} {B R : Nat} {b s : Nat -> Nat} {F : List (List Px)} {i j : Nat} (h : LentAt w B R b s F i j) (hi : i <= F.length) (t : Nat) (ht : t < i) : w.cell? ⟨R,t,none⟩ = some (.slice (some ⟨b t,0,none⟩) (F.getD t []).length ((F.getD t []).length + 8)) :=
 (World.ownsRow.cellAt h.row t (by omega)).trans (lentRow_get b s F i j t ht)
theorem padF_get (f : List Px) (k : Nat) (h : k < f.length) : (padF f).getD k (0,0,0) = f.getD k (0,0,0):=by
 unfold padF
 rw [List.getD_eq_getElem?_getD,List.getElem?_append_left h,List.getD_eq_getElem?_getD]
theorem padF_room (f : List Px) (k : Nat) (h : k < 8) : (padF f).getD (f.length + k) (0,0,0) = (7,7,7):=by
 unfold padF
 rw [List.getD_eq_getElem?_getD,List.getElem?_append_right (by omega),Nat.add_sub_cancel_left,List.getElem?_replicate,if_pos h]; rfl
theorem LentAt.film {w : World} {B R : Nat} {b s : Nat -> Nat} {F : List (List Px)} (h : LentAt w B R b s F F.length 8) : FiIn w (some ⟨R,0,none⟩) F:=by
 refine .inr ⟨R,0,rfl,fun j hj => ⟨_,_,by rw [Nat.zero_add]; exact h.cellAt (Nat.le_refl _) j hj,.inr ⟨b j,0,rfl,fun k hk => ?_⟩⟩⟩
 have:=(h.fr j hj).cell k (by omega)
 rw [padF_get _ _ hk] at this
 simpa using this
theorem LentAt.frs {w : World} {B R : Nat} {b s : Nat -> Nat} {F : List (List Px)} (h : LentAt w B R b s F F.length 8) {z : Nat} (hl : ∀ j,j < F.length -> (F.getD j []).length = z * z) : FrsIn w (some ⟨R,0,none⟩) F.length z F b (fun _ => z * z + 8):=by
 refine .inr ⟨R,0,rfl,fun j hj => ⟨?_,?_⟩⟩
 ·rw [Nat.zero_add,h.cellAt (Nat.le_refl _) j hj,hl j hj]
 ·have k:=h.fr j hj
  refine ⟨k.lt.2,fun t ht => ?_⟩
  have:=k.cell t (by rw [hl j hj]; omega)
  rw [padF_get _ _ (by rw [hl j hj]; exact ht)] at this
  exact this
end Go.Proofs.YtekfbphnoibnjaaGreatDoor
namespace Go.Proofs.YtekfbphnoibnjaaGreatDoor
open Go.RowKit
open Flm (Px FS)
set_option maxHeartbeats 4000000 in
set_option maxRecDepth 100000 in
theorem sameFilm_in (w : World) (B z fc : Nat) (a : Option Addr) (Lb : Value) (frs : List (List Px)) (ha : FiIn w a frs) (hl : ∀ j,j < frs.length -> (frs.getD j []).length = z * z) (hb : FilmAt w B Lb z frs) :
  Calls Tryz.prog 31 #[.agg #[.int .i64 z,.slice a frs.length fc],.agg #[.int .i64 z,Lb]] w fun x w' => x = .returned (.bool true) /\ Below w.heap.size w w':=by
 obtain ⟨b,cb,rfl,rb⟩:=hb.row
 obtain ⟨n,hn⟩ : ∃ n,n = frs.length:=⟨_,rfl⟩
 have h8 : n <= 8:=by obtain ⟨_,_,_,_,_,_,_,h8,_⟩:=hb; omega
 obtain ⟨Z,hZ⟩ : ∃ Z,Z = z * z:=⟨_,rfl⟩
 have hZ8 : 0 < Z /\ Z <= 256:=by obtain ⟨_,_,_,_,_,_,hz,_⟩:=hb; rw [hZ]; rcases hz with e | e | e <;> subst e <;> decide
 rw [<- hn]
 obtain ⟨W,hW⟩ : ∃ W,W = (w.alloc (.cells #[.int .i64 z,.slice a n fc] 27)).alloc (.cells #[.int .i64 z,.slice b n cb] 27):=⟨_,rfl⟩
 have hB : Below w.heap.size w W:=by rw [hW]; exact ((Below.refl _ w).alloc (Nat.le_refl _) _).alloc (by simp) _
 have h0 : W.heap[w.heap.size]? = some (.cells #[.int .i64 z,.slice a n fc] 27 (0,0)):=by rw [hW,Below.heap_alloc _ _ _ (by simp)]; exact heap_alloc_last w _
 have h1 : W.heap[w.heap.size + 1]? = some (.cells #[.int .i64 z,.slice b n cb] 27 (0,0)):=by
  have:=heap_alloc_last (w.alloc (.cells #[.int .i64 z,.slice a n fc] 27)) (.cells #[.int .i64 z,.slice b n cb] 27)
  rw [World.size_alloc] at this
  rw [hW]; exact this
 have k00 : W.cell? ⟨w.heap.size,0,none⟩ = some (.int .i64 z):=cell_of_row _ _ 0 _ _ _ h0
 have k01 : W.cell? ⟨w.heap.size,1,none⟩ = some (.slice a n fc):=cell_of_row _ _ 1 _ _ _ h0
 have k10 : W.cell? ⟨w.heap.size + 1,0,none⟩ = some (.int .i64 z):=cell_of_row _ _ 0 _ _ _ h1
 have k11 : W.cell? ⟨w.heap.size + 1,1,none⟩ = some (.slice b n cb):=cell_of_row _ _ 1 _ _ _ h1
 have HW : Hid (W = (w.alloc (.cells #[.int .i64 z,.slice a n fc] 27)).alloc (.cells #[.int .i64 z,.slice b n cb] 27)):=hW
 have HB : Hid (Below w.heap.size w W):=hB
 have HR : Hid (∀ i,i < n -> ∃ ga go fa fo ca gb fb,a = some ⟨ga,go,none⟩ /\ b = some ⟨gb,0,none⟩ /\ W.cell? ⟨ga,go + i,none⟩ = some (.slice (some ⟨fa,fo,none⟩) Z ca) /\ W.cell? ⟨gb,i,none⟩ = some (.slice (some ⟨fb,0,none⟩) Z Z) /\ ∀ k,k < Z -> ∃ p0 p1 p2 : Int,(W.cell? ⟨fa,fo + k * 3,none⟩ = some (.int .u8 p0) /\ W.cell? ⟨fa,fo + k * 3 + 1,none⟩ = some (.int .u8 p1) /\ W.cell? ⟨fa,fo + k * 3 + 2,none⟩ = some (.int .u8 p2)) /\ (W.cell? ⟨fb,k * 3,none⟩ = some (.int .u8 p0) /\ W.cell? ⟨fb,k * 3 + 1,none⟩ = some (.int .u8 p1) /\ W.cell? ⟨fb,k * 3 + 2,none⟩ = some (.int .u8 p2))):=fun i hi => by
  have L : ∀ g t u,w.cell? ⟨g,t,none⟩ = some u -> W.cell? ⟨g,t,none⟩ = some u:=fun g t u e => (hB.cell (p:=⟨g,t,none⟩) (World.block_lt_of_cell? w _ e)).trans e
  obtain ⟨ga,go,ea,hf⟩:=ha.resolve_left (by omega)
  obtain ⟨a1,ca,c1,hp⟩:=hf i (by omega)
  have hli:=hl i (by omega)
  rw [hli,<- hZ] at c1
  obtain ⟨fa,fo,e1,p1⟩:=hp.resolve_left (by omega)
  obtain ⟨gb,fb,eb,c2,p2⟩:=rb i (by omega)
  rw [<- hZ] at c2 p2
  rw [e1] at c1
  refine ⟨ga,go,fa,fo,ca,gb,fb,ea,eb,L _ _ _ c1,L _ _ _ c2,fun k hk => ?_⟩
  obtain ⟨x0,x1,x2⟩:=p1 k (by omega)
  obtain ⟨y0,y1,y2⟩:=p2.cell k hk
  exact ⟨_,_,_,⟨L _ _ _ x0,L _ _ _ x1,L _ _ _ x2⟩,L _ _ _ y0,L _ _ _ y1,L _ _ _ y2⟩
 clear rb ha hb hl hW hB h0 h1 hn hZ
 go_enter Tryz.func31,Tryz.ntmps31
 go_wp2_with (rw [<- HW.out])
 go_loopw [5] (fun i wr => ∃ k : Nat,k <= n /\ i = .int .i64 k /\ ∃ d,wr = W.drewN d) (fun i _ => n - (intOf i).toNat)
 case atStart => exact ⟨0,by omega,rfl,0,rfl⟩
 case round =>
  obtain ⟨i,hi,rfl,d,rfl⟩:=hrel
  by_cases hlt : i < n
  ·have hlt' : (i : Int) < (n : Int):=by omega
   obtain ⟨ga,go,fa,fo,ca,gb,fb,rfl,rfl,c1,c2,HP⟩:=HR.out i hlt
   have HPX : Hid (∀ k,k < Z -> ∃ p0 p1 p2 : Int,(W.cell? ⟨fa,fo + k * 3,none⟩ = some (.int .u8 p0) /\ W.cell? ⟨fa,fo + k * 3 + 1,none⟩ = some (.int .u8 p1) /\ W.cell? ⟨fa,fo + k * 3 + 2,none⟩ = some (.int .u8 p2)) /\ (W.cell? ⟨fb,k * 3,none⟩ = some (.int .u8 p0) /\ W.cell? ⟨fb,k * 3 + 1,none⟩ = some (.int .u8 p1) /\ W.cell? ⟨fb,k * 3 + 2,none⟩ = some (.int .u8 p2))):=HP
   clear HP
   go_wp2
   go_region
   all_goals
    go_wp2
    go_loopw [6] (fun j wr => ∃ k : Nat,k <= Z /\ j = .int .i64 k /\ ∃ d,wr = W.drewN d) (fun j _ => Z - (intOf j).toNat)
    case atStart => exact ⟨0,by omega,rfl,_,rfl⟩
    case round =>
     obtain ⟨k,hk,rfl,d2,rfl⟩:=hrel
     by_cases hkz : k < Z
     ·have hkz' : (k : Int) < (Z : Int):=by omega
      obtain ⟨p0,p1,p2,⟨x0,x1,x2⟩,y0,y1,y2⟩:=HPX.out k hkz
      have heq:=fun w => eqPix w p0 p1 p2 p0 p1 p2
      go_wp2
      go_region
      all_goals
       go_wp2
       go_roundw
       case rel => exact ⟨k + 1,by omega,by go_num,_,rfl⟩
       case measure => simp [intOf]; omega
     ·have hkz' : ¬ ((k : Int) < (Z : Int)):=by omega
      go_wp2
      go_roundw
      case rel => exact ⟨i + 1,by omega,by go_num,_,rfl⟩
      case measure => simp [intOf]; omega
  ·have hlt' : ¬ (i : Int) < (n : Int):=by omega
   go_wp2
   go_ret
   exact ⟨rfl,below_drewN HB.out d⟩
end Go.Proofs.YtekfbphnoibnjaaGreatDoor
namespace Go.Proofs.YtekfbphnoibnjaaGreatDoor
open Go.RowKit
open Flm (Px okPx)
noncomputable def encR (z : Int) (F : List (List Px)) : ByteArray × Int:=if rightB z F.length (lensF F) = true then (encS z.toNat F.length F,0) else (⟨#[]⟩,3)
theorem right_film {z : Int} {F : List (List Px)} (h : rightB z F.length (lensF F) = true) (ok : ∀ j,∀ p ∈ F.getD j [],okPx p) : ∃ n : Nat,z = n /\ Pk.FilmOk n F:=by
 unfold rightB at h
 rw [Bool.and_eq_true,Bool.and_eq_true,List.all_eq_true] at h
 obtain ⟨h1,h2,h3⟩:=h
 have hz : z = 4 \/ z = 8 \/ z = 16:=of_decide_eq_true h1
 have h8 : F.length <= 8:=of_decide_eq_true h2
 refine ⟨z.toNat,by omega,⟨by unfold Pk.IsZ; omega,h8,fun f hf => ?_,ok⟩⟩
 have h4 : ((F.getD f []).length : Int) = z * z:=of_decide_eq_true (h3 f (List.mem_range.2 hf))
 rcases hz with rfl | rfl | rfl
 ·exact Int.ofNat_inj.1 h4
 ·exact Int.ofNat_inj.1 h4
 ·exact Int.ofNat_inj.1 h4
theorem enc_any (w : World) (z : Int) (fa : Option Addr) (fc : Nat) (F : List (List Px)) (h : FiIn w fa F) (hf : ∀ n : Nat,(∀ j,j < F.length -> (F.getD j []).length = n * n) -> ∃ nbs cs,FrsIn w fa F.length n F nbs cs) (ok : ∀ j,∀ p ∈ F.getD j [],okPx p) (SG : SoftG w w.heap.size) :
  Calls Tryz.prog 11 #[.agg #[.int .i64 z,.slice fa F.length fc]] w fun e w' => e = .returned (.tuple #[.string (encR z F).1,.int .i64 (encR z F).2]) /\ Below w.heap.size w w':=by
 unfold encR
 by_cases hr : rightB z F.length (lensF F) = true
 ·rw [if_pos hr]
  obtain ⟨n,rfl,hF⟩:=right_film hr ok
  obtain ⟨nbs,cs,hfr⟩:=hf n hF.len
  exact pEncode w fa F.length fc n F nbs cs hfr ok hF.iz hF.le8 (by have:=Pk.film_m hF; omega) SG
 ·rw [if_neg hr]
  exact pEncodeNo w z fa F.length fc (lensF F) h.rows (by simpa using hr)
theorem dec_encR (w : World) {n : Nat} {F : List (List Px)} (hF : Pk.FilmOk n F) : Calls Tryz.prog 68 #[.string (encS n F.length F)] w (GoodAns 0 0 0 n F w) :=
 (refDecode w (encS n F.length F)).mono fun x w' hx => hx.good (by rw [dec_encS hF])
set_option maxHeartbeats 4000000 in
theorem encoded_no (w : World) (z : Int) (fa : Option Addr) (fc : Nat) (F : List (List Px)) (h : FiIn w fa F) (hr : rightB z F.length (lensF F) = false) :
  Calls Tryz.prog 73 #[.agg #[.int .i64 z,.slice fa F.length fc],.string ⟨#[]⟩,.int .i64 3] w fun e w' => e = .returned (.bool true) /\ Below w.heap.size w w':=by
 obtain ⟨N,hN⟩ : ∃ N,N = F.length:=⟨_,rfl⟩
 rw [<- hN] at hr ⊢
 obtain ⟨W1,hW1⟩ : ∃ W1,W1 = w.alloc (.cells #[.int .i64 z,.slice fa N fc] 27):=⟨_,rfl⟩
 obtain ⟨H,hH⟩ : ∃ H,H = w.heap.size:=⟨_,rfl⟩
 have hB1 : Below w.heap.size w W1:=by rw [hW1]; exact (Below.refl _ w).alloc (Nat.le_refl _) _
 have x0 : W1.heap[H]? = some (.cells #[.int .i64 z,.slice fa N fc] 27):=by rw [hW1,hH]; exact heap_alloc_last w _
 have k0 : W1.cell? ⟨H,0,none⟩ = some (.int .i64 z):=cell_of_row _ _ 0 _ _ _ x0
 have k1 : W1.cell? ⟨H,1,none⟩ = some (.slice fa N fc):=cell_of_row _ _ 1 _ _ _ x0
 have HC : Calls Tryz.prog 72 #[.agg #[.int .i64 z,.slice fa N fc]] W1 fun e w' => e = .returned (.bool false) /\ Below W1.heap.size W1 w':=by
  have k:=refRight W1 z fa N fc (lensF F) (by rw [hN]; exact (h.below hB1).rows)
  rw [hr] at k
  exact k
 have HW : Hid (W1 = w.alloc (.cells #[.int .i64 z,.slice fa N fc] 27) /\ H = w.heap.size /\ Below w.heap.size w W1):=⟨hW1,hH,hB1⟩
 clear hW1 hB1 hH x0 h hr hN
 go_enter Tryz.func73,Tryz.ntmps73
 go_wp2_with (first
  | (rw [<- HW.out.1,<- HW.out.2.1])
  | (go_at_call 72; refine HC.mono ?_; rintro e w2 ⟨rfl,b2⟩))
 go_ret
 exact ⟨rfl,HW.out.2.2.trans (b2.mono HW.out.2.2.size)⟩
set_option maxHeartbeats 4000000 in
theorem encoded_yes (w : World) (n : Nat) (fa : Option Addr) (fc : Nat) (F : List (List Px)) (h : FiIn w fa F) (hF : Pk.FilmOk n F) (hr : rightB n F.length (lensF F) = true) :
  Calls Tryz.prog 73 #[.agg #[.int .i64 n,.slice fa F.length fc],.string (encS n F.length F),.int .i64 0] w fun e w' => e = .returned (.bool true) /\ Below w.heap.size w w':=by
 obtain ⟨H,hH⟩ : ∃ H,H = w.heap.size:=⟨_,rfl⟩
 obtain ⟨W1,hW1⟩ : ∃ W1,W1 = w.alloc (.cells #[.int .i64 n,.slice fa F.length fc] 27):=⟨_,rfl⟩
 have hB1 : Below w.heap.size w W1:=by rw [hW1]; exact (Below.refl _ w).alloc (Nat.le_refl _) _
 have xx0 : W1.heap[H]? = some (.cells #[.int .i64 n,.slice fa F.length fc] 27):=by rw [hW1,hH]; exact heap_alloc_last w _
 have h1:=h.below hB1
 have HC : Calls Tryz.prog 72 #[.agg #[.int .i64 n,.slice fa F.length fc]] W1 fun e w' => e = .returned (.bool true) /\ Below W1.heap.size W1 w':=by
  have k:=refRight W1 n fa F.length fc (lensF F) h1.rows
  rw [hr] at k
  exact k
 obtain ⟨S,hS⟩ : ∃ S,S = encS n F.length F:=⟨_,rfl⟩
 obtain ⟨x0,x1,x2,hD⟩ : ∃ x0 x1 x2,∀ wx,Calls Tryz.prog 68 #[.string S] wx (GoodAns x0 x1 x2 n F wx):=⟨0,0,0,fun wx => by rw [hS]; exact dec_encR wx hF⟩
 have HD : Hid (∀ wx,Calls Tryz.prog 68 #[.string S] wx (GoodAns x0 x1 x2 n F wx)):=hD
 have HSF : Hid (∀ wx (v : Value) (lo : Nat),Below W1.heap.size W1 wx -> FilmAt wx lo v n F -> Calls Tryz.prog 31 #[.agg #[.int .i64 n,.slice fa F.length fc],.agg #[.int .i64 n,v]] wx fun x w' => x = .returned (.bool true) /\ Below wx.heap.size wx w'):=fun wx v lo bx hv => sameFilm_in wx lo n fc fa v F (h1.below bx) hF.len hv
 have HCL : Hid (∀ w2,Below W1.heap.size W1 w2 -> w2.cell? ⟨H,0,none⟩ = some (.int .i64 n) /\ w2.cell? ⟨H,1,none⟩ = some (.slice fa F.length fc)):=fun w2 b2 => by
  have e0:=(b2.block H (heap_lt0 xx0)).trans xx0
  exact ⟨cell_of_row _ _ 0 _ _ _ e0,cell_of_row _ _ 1 _ _ _ e0⟩
 obtain ⟨k0,k1⟩:=HCL.out W1 (Below.refl _ _)
 rw [<- hS]
 obtain ⟨N,hN⟩ : ∃ N,N = F.length:=⟨_,rfl⟩
 rw [<- hN] at HC HSF HCL k1 hW1 ⊢
 have HW : Hid (W1 = w.alloc (.cells #[.int .i64 n,.slice fa N fc] 27) /\ H = w.heap.size /\ Below w.heap.size w W1):=⟨hW1,hH,hB1⟩
 clear hW1 hB1 hH xx0 h h1 hr hF hS hN hD
 go_enter Tryz.func73,Tryz.ntmps73
 go_wp2_with (first
  | (rw [<- HW.out.1,<- HW.out.2.1])
  | (go_at_call 72; refine HC.mono ?_; rintro e w2 ⟨rfl,b2⟩; clear k0 k1; obtain ⟨k0,k1⟩:=HCL.out w2 b2)
  | (go_at_call 68; refine (HD.out w2).mono ?_; rintro r w3 ⟨a3,m3,c3,l3,hl3,rfl,hf3,b3⟩; obtain ⟨W3,A3,hW3,hA3,hbn3,hbb3,_,hx3⟩:=fpb_mk (Below.refl _ w2) b3 (.int .i64 n) (.slice a3 m3 c3) (.int .i64 x0) (.int .i64 x1) (.int .i64 x2); have HW3 : Hid (W3 = _ /\ A3 = _):=⟨hW3,hA3⟩; clear hW3 hA3)
  | (rw [<- HW3.out.1,<- HW3.out.2]; obtain ⟨d10,d11,d12,d13,d14⟩:=hx3.cells; have b4:=b2.trans (hbb3.mono b2.size); clear k0 k1; obtain ⟨k0,k1⟩:=HCL.out W3 b4)
  | (go_at_call 31; refine (HSF.out W3 _ _ b4 (hf3.below hbn3).at).mono ?_; rintro r w4 ⟨rfl,b5⟩))
 go_ret
 exact ⟨rfl,HW.out.2.2.trans ((b4.trans (b5.mono b4.size)).mono HW.out.2.2.size)⟩
theorem encoded_any (w : World) (z : Int) (fa : Option Addr) (fc : Nat) (F : List (List Px)) (h : FiIn w fa F) (ok : ∀ j,∀ p ∈ F.getD j [],okPx p) :
  Calls Tryz.prog 73 #[.agg #[.int .i64 z,.slice fa F.length fc],.string (encR z F).1,.int .i64 (encR z F).2] w fun e w' => e = .returned (.bool true) /\ Below w.heap.size w w':=by
 unfold encR
 by_cases hr : rightB z F.length (lensF F) = true
 ·rw [if_pos hr]
  obtain ⟨n,rfl,hF⟩:=right_film hr ok
  exact encoded_yes w n fa fc F h hF hr
 ·rw [if_neg hr]
  exact encoded_no w z fa fc F h (by simpa using hr)
end Go.Proofs.YtekfbphnoibnjaaGreatDoor
namespace Go.Proofs.YtekfbphnoibnjaaGreatDoor
open Go.RowKit
open Flm (Px okPx)
theorem three_px : (Tryz.prog.info? 50).map (·.size) = some 3:=by kernel_rfl
theorem nilFrames (w : World) (a : Option Addr) (n c n' c' : Nat) : (binOp .eql 25 (.slice a n c) (.slice none n' c')).run Tryz.prog w = .ok (.bool a.isNone) w:=Lib.run_eql_slice_nil w _ _ a n c n' c' Tryz.underlying25
theorem owns_heap3 {w : World} {B g n : Nat} {xs : List Value} {e : TypeId} (h : w.ownsRow B e 3 (.slice (some ⟨g,0,none⟩) n n) n xs) : w.heap[g]? = some (.cells xs.toArray e (0,0)):=by
 rcases h.2 with ⟨h',_⟩ | ⟨g',cap',cur,h',hb,hg,hnc,hcm,hcs,htake⟩
 ·simp at h'
 ·simp only [Value.slice.injEq,Option.some.injEq,Addr.mk.injEq,and_true,true_and] at h'
  obtain ⟨rfl,rfl⟩:=h'
  rw [List.take_of_length_le (by rw [Array.length_toList,hcs]; exact Nat.le_refl _)] at htake
  rw [<- htake]
  exact hg
theorem heap_owns3 {w : World} {B g n : Nat} {xs : List Value} {e : TypeId} (h : w.heap[g]? = some (.cells xs.toArray e (0,0))) (hl : xs.length = n * 3) (hb : B <= g) (hm : n <= maxLen) : w.ownsRow B e 3 (.slice (some ⟨g,0,none⟩) n n) n xs :=
 ⟨hl,.inr ⟨g,n,xs.toArray,rfl,hb,h,Nat.le_refl _,hm,by simp [hl],by simp [List.take_of_length_le,hl]⟩⟩
def roomPx (ps : List Px) (k : Nat) : List Px:=ps ++ (List.replicate k (7,7,7) ++ List.replicate (8 - k) (0,0,0))
theorem roomPx_len (ps : List Px) (k : Nat) (h : k <= 8) : (roomPx ps k).length = ps.length + 8:=by simp [roomPx]; omega
theorem roomPx_full (ps : List Px) : roomPx ps 8 = padF ps:=by simp [roomPx,padF]
theorem roomPx_set (ps : List Px) (k : Nat) (h : k < 8) : (roomPx ps k).set (ps.length + k) (7,7,7) = roomPx ps (k + 1):=by
 unfold roomPx
 rw [List.set_append_right _ _ (by omega),show ps.length + k - ps.length = k by omega,List.set_append_right _ _ (by simp),List.length_replicate,Nat.sub_self,show 8 - k = (8 - (k + 1)) + 1 by omega,List.replicate_succ,List.set_cons_zero,List.replicate_succ' (n:=k)]
 simp
theorem pxCells_drop (n k : Nat) : (pxCells (List.replicate (n + k) (0,0,0))).drop (n * 3) = pxCells (List.replicate k (0,0,0)):=by
 rw [show List.replicate (n + k) ((0,0,0) : Px) = List.replicate n (0,0,0) ++ List.replicate k (0,0,0) by simp,pxCells_app,List.drop_append_of_le_length (by rw [pxCells_len]; simp),List.drop_of_length_le (by rw [pxCells_len]; simp)]
 rfl
theorem splice_px (ps : List Px) : splice (pxCells (List.replicate (ps.length + 8) (0,0,0))) 0 (pxCells ps) = pxCells (roomPx ps 0):=by
 unfold splice roomPx
 rw [pxCells_len,Nat.zero_add,pxCells_drop,pxCells_app]
 simp
theorem pxs_pos {w1 : World} {a : Addr} {ps : List Px} (hz : PxsIn w1 (some a) ps) : ∀ j v,(pxCells ps)[j]? = some v -> w1.cell? (a.add j) = some v:=by
 intro j v hv
 have hj : j < ps.length * 3:=by
  rcases Nat.lt_or_ge j (ps.length * 3) with h' | h'
  ·exact h'
  ·rw [List.getElem?_eq_none (by rw [pxCells_len]; exact h')] at hv; cases hv
 obtain ⟨g0,g1,g2⟩:=pxCells_get ps (j / 3) (by omega)
 rcases hz with h2 | ⟨b,off,ha,hc⟩
 ·omega
 ·injection ha with ha
  subst ha
  obtain ⟨c0,c1,c2⟩:=hc (j / 3) (by omega)
  rw [show (⟨b,off,none⟩ : Addr).add j = ⟨b,off + j,none⟩ by unfold Addr.add; split <;> simp_all]
  have h3 : j = j / 3 * 3 \/ j = j / 3 * 3 + 1 \/ j = j / 3 * 3 + 2:=by omega
  rcases h3 with e | e | e
  ·rw [e,g0] at hv
   rw [<- hv,e]
   simpa using c0
  ·rw [e,g1] at hv
   rw [<- hv,show off + j = off + j / 3 * 3 + 1 by omega]
   exact c1
  ·rw [e,g2] at hv
   rw [<- hv,show off + j = off + j / 3 * 3 + 2 by omega]
   exact c2
theorem run_copy_none {P : Program} (w : World) (dT sT ty elem : TypeId) (d : Addr) (a : Option Addr) (dLen dCap sCap : Nat)
  (hu : P.underlying dT = some (.slice elem)) (hs : (P.info? elem).isSome = true) :
  (Builtin.copy_ #[dT,sT] ty #[.slice (some d) dLen dCap,.slice a 0 sCap]).run P w = .ok (goInt 0) w:=by
 cases hq : P.info? elem with
 | none => simp [hq] at hs
 | some i =>
  cases a with
  | none => simp [Builtin.copy_,run_underlying hu,Builtin.lenOf,Builtin.firstCells,sizeOf,typeInfo,hq,storeCells]
  | some ad =>
   have hl:=run_loadCells_list (P:=P) w ad [] (by simp)
   simp only [List.length_nil] at hl
   simp [Builtin.copy_,run_underlying hu,Builtin.lenOf,Builtin.firstCells,sizeOf,typeInfo,hq,storeCells,hl]
theorem wpList_copy_px {w : World} {ops : Array Oper} {rest : List Oper} {o : Oper} {a : Act} {Q : Exit -> Act -> World -> Prop} (hgd : o.guard = none) (d s : Operand)
  (ho : o.op = .call { callee:=.builtin .copy,args:=#[d,s],argTypes:=#[58,58] }) (g n m c sCap : Nat) (sa : Option Addr) (hd : a.eval d = .slice (some ⟨g,0,none⟩) n m) (ps : List Px) (hs : a.eval s = .slice sa c sCap) (hc : c = ps.length) (hn : n = ps.length + 8)
  (hg : w.heap[g]? = some (.cells (pxCells (List.replicate (ps.length + 8) (0,0,0))).toArray 50 (0,0))) (hp : PxsIn w sa ps) (B : Nat) (w0 : World) (hb : Below B w0 w) (hBg : B <= g)
  (h : ∀ w',Hid (w'.heap[g]? = some (.cells (pxCells (roomPx ps 0)).toArray 50 (0,0))) -> Below B w0 w' -> wpList Tryz.prog ops Q rest (a.put o.dst (goInt ps.length)) w') : wpList Tryz.prog ops Q (o :: rest) a w:=by
 subst hc hn
 by_cases h0 : ps.length = 0
 ·refine wpList_plain hgd fun K hK => ?_
  have hrun:=run_copy_none (P:=Tryz.prog) w 58 58 o.type 50 ⟨g,0,none⟩ sa (ps.length + 8) m sCap Tryz.underlying58 (by kernel_rfl)
  rw [h0] at hs
  unfold Oper.wp
  simp [execOp,ho,resolve,invoke,builtin,hd,hs,hrun,Result.andThen]
  have he : ps = []:=List.length_eq_zero_iff.1 h0
  subst he
  exact hK _ _ (h w hg hb)
 ·obtain ⟨ad,rfl⟩ : ∃ ad,sa = some ad:=by
   rcases hp with h' | ⟨b,off,e,_⟩
   ·exact absurd h' h0
   ·exact ⟨_,e⟩
  have hmin : Nat.min ps.length (ps.length + 8) = ps.length:=Nat.min_eq_left (by omega)
  refine wpList_copy_sz hgd d s 58 58 ho 50 3 Tryz.underlying58 three_px g 0 (ps.length + 8) m ad ps.length sCap hd hs (pxCells (List.replicate (ps.length + 8) (0,0,0))) 50 hg (pxCells ps) (by rw [hmin,pxCells_len]) (pxs_pos hp) (by rw [pxCells_len,pxCells_len,List.length_replicate]; omega) (oneCell_px ps) B w0 hb hBg fun w' H hb' => ?_
  rw [hmin]
  refine h w' ?_ hb'
  have k:=H.out
  rw [splice_px] at k
  exact k
end Go.Proofs.YtekfbphnoibnjaaGreatDoor
