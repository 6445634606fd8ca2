/-
  A film is lent. What was lent, beside the caller's book: each block of it has a role of its own; its frames are marked one by one, then the list of them.
-/
import Derived.Test.YtekfbphnoibnjaaGreatDoorF37
import Derived.BigRegion
import Derived.Test.YtekfbphnoibnjaaGreatDoorF15
namespace Go.Proofs.YtekfbphnoibnjaaGreatDoor
open Go.RowKit
open Flm (Px okPx)
set_option maxHeartbeats 1000000 in
theorem lentFilm_nil (w : World) (z : Int) (n c : Nat) :
  Calls Tryz.prog 70 #[.agg #[.int .i64 z,.slice none n c]] w fun x w' => x = .returned (.agg #[.int .i64 z,.slice none n c]) /\ Below w.heap.size w w':=by
 have qn:=nilFrames
 go_enter Tryz.func70,Tryz.ntmps70
 go_wp2
 refine bodyPost_ret (v:=.agg #[.int .i64 z,.slice none n c]) (by simp [results,Tryz.results70,go_sem]) rfl ?_
 exact ⟨rfl,((Below.refl _ w).alloc (Nat.le_refl _) _).alloc (by simp) _⟩
theorem made_nils (n : Nat) : (madeCells #[Value.slice none 0 0] n).toList = List.replicate n (.slice none 0 0):=by
 apply List.ext_getElem?
 intro i
 by_cases h : i < n
 ·simp only [madeCells,Array.toList_map,List.getElem?_map,Array.toList_range,List.getElem?_range h,Option.map_some,List.getElem?_replicate]
  simp [h,Nat.mod_one]
 ·rw [List.getElem?_eq_none (by simp [size_madeCells]; omega),List.getElem?_eq_none (by simp; omega)]
set_option maxHeartbeats 4000000 in
set_option maxRecDepth 20000 in
theorem lentFilm_some (w : World) (z : Int) (a : Addr) (N fc : Nat) (F : List (List Px)) (hN : F.length = N) (hz : FiIn w (some a) F) (hn : N <= 1000000000) (hl : ∀ j,(F.getD j []).length <= 1000000000) :
  Calls Tryz.prog 70 #[.agg #[.int .i64 z,.slice (some a) N fc]] w fun x w' => x = .returned (.agg #[.int .i64 z,.slice (some ⟨w.heap.size + 2,0,none⟩) N (N + 8)]) /\ (∃ b s,LentAt w' (w.heap.size + 2) (w.heap.size + 2) b s F N 8) /\ Below w.heap.size w w':=by
 obtain ⟨i0,hi,hz0,hz1,hz2⟩:=info_parts infoPx
 obtain ⟨j0,hj0,hy0,hy1,hy2⟩:=info_parts infoRow
 have qn:=nilFrames
 obtain ⟨H,hH⟩ : ∃ H,H = w.heap.size:=⟨_,rfl⟩
 obtain ⟨W2,hW2⟩ : ∃ W2,W2 = (w.alloc (.cells #[.int .i64 z,.slice (some a) N fc] 27)).alloc (.cells #[.int .i64 0,.slice none 0 0] 27):=⟨_,rfl⟩
 have hs2 : W2.heap.size = H + 2:=by rw [hW2,hH]; simp
 have hB2 : Below w.heap.size w W2:=by rw [hW2]; exact ((Below.refl _ w).alloc (Nat.le_refl _) _).alloc (by simp) _
 have x0 : W2.heap[H]? = some (.cells #[.int .i64 z,.slice (some a) N fc] 27):=by rw [hW2,hH,Below.heap_alloc _ _ _ (by simp)]; exact heap_alloc_last w _
 have x1 : W2.heap[H + 1]? = some (.cells #[.int .i64 0,.slice none 0 0] 27):=by
  have k:=heap_alloc_last (w.alloc (.cells #[.int .i64 z,.slice (some a) N fc] 27)) (.cells #[.int .i64 0,.slice none 0 0] 27)
  rw [World.size_alloc,<- hH] at k
  rw [hW2]; exact k
 have HCL : Hid (∀ w2,Below W2.heap.size W2 w2 -> (w2.cell? ⟨H,0,none⟩ = some (.int .i64 z) /\ w2.cell? ⟨H,1,none⟩ = some (.slice (some a) N fc)) /\ w2.heap[H + 1]? = some (.cells #[.int .i64 0,.slice none 0 0] 27)):=fun w2 b2 => by
  have e0:=(b2.block H (by omega)).trans x0
  exact ⟨⟨cell_of_row _ _ 0 _ _ _ e0,cell_of_row _ _ 1 _ _ _ e0⟩,(b2.block (H + 1) (by omega)).trans x1⟩
 have HF : Hid (∀ w2,Below W2.heap.size W2 w2 -> FiIn w2 (some a) F):=fun w2 b2 => (hz.below hB2).below b2
 obtain ⟨⟨k0,k1⟩,_⟩:=HCL.out W2 (Below.refl _ _)
 have HW : Hid (W2 = (w.alloc (.cells #[.int .i64 z,.slice (some a) N fc] 27)).alloc (.cells #[.int .i64 0,.slice none 0 0] 27) /\ H = w.heap.size /\ Below w.heap.size w W2):=⟨hW2,hH,hB2⟩
 have HS2 : Hid (W2.heap.size = H + 2):=hs2
 have HL : Hid ((∀ j,(F.getD j []).length <= 1000000000) /\ F.length = N):=⟨hl,hN⟩
 clear hW2 hH hB2 x0 x1 hz hs2 hl hN
 go_enter Tryz.func70,Tryz.ntmps70
 go_wp2_with (first
  | (rw [<- HW.out.1,<- HW.out.2.1])
  | (at_make; refine wpList_make_full _ rfl _ _ 25 rfl W2.heap.size 58 j0 (.slice none 0 0) 1 Tryz.underlying25 hj0 hy0 hy1 _ _ _ _ (N + 8) rfl rfl (by omega) (by omega) (by rw [hy2]; omega) (by unfold maxLen; omega) (Nat.le_refl _) ?_))
 intro w1 hown hgrow
 have L1 : Hid (LentAt w1 W2.heap.size W2.heap.size (fun _ => 0) (fun _ => 0) F 0 0):=by
  refine ⟨?_,fun t ht => absurd ht (Nat.not_lt_zero _),fun t ht => absurd ht (Nat.not_lt_zero _),fun t ht => absurd ht (Nat.not_lt_zero _),fun t _ ht => absurd ht (Nat.not_lt_zero _),fun t ht => absurd ht (Nat.not_lt_zero _),fun t _ ht => absurd ht (Nat.not_lt_zero _)⟩
  have e : lentRow (fun _ => 0) (fun _ => 0) F 0 0 = (madeCells #[Value.slice none 0 0] (N + 8)).toList:=by
   rw [made_nils,<- HL.out.2]; simp [lentRow]
  rw [e,HL.out.2]
  simpa using hown
 have B1 : Hid (Below W2.heap.size W2 w1):=(Below.refl _ _).grown hgrow (Nat.le_refl _) (fun _ h => by cases h)
 obtain ⟨R,hR⟩ : ∃ R,R = W2.heap.size:=⟨_,rfl⟩
 have HR : Hid (R = W2.heap.size):=hR
 rw [<- hR] at L1 ⊢
 clear hown hgrow k0 k1 hR
 go_wp2
 go_loopw [5] (fun v wr => ∃ (j : Nat) (b : Nat -> Nat),j <= N /\ v = .int .i64 j /\ LentAt wr R R b (fun _ => 0) F j 0 /\ Below W2.heap.size W2 wr) (fun v _ => N - (intOf v).toNat)
 case atStart => exact ⟨0,_,Nat.zero_le _,rfl,L1.out,B1.out⟩
 case round =>
  obtain ⟨j,b,hj,rfl,hL,hB⟩:=hrel
  by_cases hlt : j < N
  ·have hlt' : (j : Int) < (N : Int):=by omega
   obtain ⟨⟨k0,k1⟩,_⟩:=HCL.out wr hB
   obtain ⟨fb,off,ha,hf⟩:=(HF.out wr hB).resolve_left (by have:=HL.out.2; omega)
   injection ha with ha
   subst ha
   obtain ⟨fa,ca,kf,hp⟩:=hf j (by have:=HL.out.2; omega)
   obtain ⟨f,hfe⟩ : ∃ f,f = F.getD j []:=⟨_,rfl⟩
   obtain ⟨k,hke⟩ : ∃ k,k = f.length:=⟨_,rfl⟩
   have hk : k <= 1000000000:=by rw [hke,hfe]; exact HL.out.1 j
   rw [<- hfe,<- hke] at kf
   rw [<- hfe] at hp
   have hzw : R <= wr.heap.size:=by have:=hB.size; have:=HR.out; omega
   have HLW : Hid (LentAt wr R R b (fun _ => 0) F j 0):=hL
   have HBW : Hid (Below W2.heap.size W2 wr):=hB
   have HP : Hid (PxsIn wr fa f):=hp
   have HK : Hid (f = F.getD j [] /\ k = f.length /\ j < F.length):=⟨hfe,hke,by have:=HL.out.2; omega⟩
   obtain ⟨wo,hwo⟩ : ∃ wo,wo = wr:=⟨wr,rfl⟩
   subst hwo
   clear hL hB hf hp hfe hke
   go_wp2_with (at_make; refine wpList_make_full _ rfl _ _ 58 rfl R 50 i0 (.agg #[.int .u8 0,.int .u8 0,.int .u8 0]) 3 Tryz.underlying58 hi hz0 hz1 _ _ _ _ (k + 8) rfl rfl (by omega) (by omega) (by rw [hz2]; omega) (by unfold maxLen; omega) hzw ?_)
   intro w3 hown hgrow
   have b3 : Below wo.heap.size wo w3:=(Below.refl _ _).grown hgrow (Nat.le_refl _) (fun _ h => by cases h)
   have H3 : Hid (w3.heap[wo.heap.size]? = some (.cells (pxCells (List.replicate (f.length + 8) (0,0,0))).toArray 50 (0,0))):=by
    rw [Hid,<- HK.out.2.1,<- made_px (k + 8)]; exact owns_heap3 hown
   have P3 : Hid (PxsIn w3 fa f):=HP.out.mono fun p u e => (b3.cell (World.block_lt_of_cell? wo _ e)).trans e
   have B3 : Hid (Below wo.heap.size wo w3):=b3
   have k1':=(b3.cell (World.block_lt_of_cell? wo _ k1)).trans k1
   have kf':=(b3.cell (World.block_lt_of_cell? wo _ kf)).trans kf
   clear hown hgrow b3
   go_wp2_with (refine wpList_copy_px rfl (.tmp 34) (.tmp 39) rfl wo.heap.size _ _ _ _ _ rfl f rfl HK.out.2.1 (by rw [HK.out.2.1]) H3.out P3.out wo.heap.size wo B3.out (Nat.le_refl _) ?_)
   intro w4 H4 B4
   have P4 : Hid (Pixs w4 R wo.heap.size (k + 8) (roomPx f 0)):=heap_owns3 H4.out (by rw [pxCells_len,roomPx_len _ _ (by decide),HK.out.2.1]) hzw (by unfold maxLen; omega)
   have B4' : Hid (Below wo.heap.size wo w4):=B4
   clear H4 B4 H3 P3 B3 k1' kf' k1 kf k0
   go_wp2
   go_loopw [8] (fun v wx => ∃ t : Nat,t <= 8 /\ v = .int .i64 ((k + t : Nat) : Int) /\ Pixs wx R wo.heap.size (k + 8) (roomPx f t) /\ Below wo.heap.size wo wx) (fun v _ => k + 8 - (intOf v).toNat)
   case atStart => exact ⟨0,Nat.zero_le _,rfl,P4.out,B4'.out⟩
   case round =>
    obtain ⟨t,ht,rfl,hpx,hbx⟩:=hrel
    by_cases htk : t < 8
    ·have hlt2 : ((k + t : Nat) : Int) < (k : Int) + 8:=by omega
     have hlt3 : ((k + t : Nat) : Int) < ((k + 8 : Nat) : Int):=by omega
     obtain ⟨c0,c1,c2⟩:=hpx.cell (k + t) (by omega)
     have f0:=hpx.frozen ((k + t) * 3)
     have f1:=hpx.frozen ((k + t) * 3 + 1)
     have f2:=hpx.frozen ((k + t) * 3 + 2)
     have HS : Hid (Pixs (((wr.setCell ⟨wo.heap.size,(k + t) * 3,none⟩ (.int .u8 7)).setCell ⟨wo.heap.size,(k + t) * 3 + 1,none⟩ (.int .u8 7)).setCell ⟨wo.heap.size,(k + t) * 3 + 2,none⟩ (.int .u8 7)) R wo.heap.size (k + 8) (roomPx f (t + 1))):=by
      have hs:=hpx.store (k + t) (by omega) (7,7,7)
      rw [HK.out.2.1,roomPx_set f t htk,<- HK.out.2.1] at hs
      exact hs
     have HB : Hid (Below wo.heap.size wo wr):=hbx
     clear hpx hbx
     go_wp2
     go_roundw
     case rel => exact ⟨t + 1,by omega,by go_num,HS.out,((HB.out.setCell (p:=⟨wo.heap.size,(k + t) * 3,none⟩) (Nat.le_refl _) _).setCell (p:=⟨wo.heap.size,(k + t) * 3 + 1,none⟩) (Nat.le_refl _) _).setCell (p:=⟨wo.heap.size,(k + t) * 3 + 2,none⟩) (Nat.le_refl _) _⟩
     case measure => simp [intOf]; omega
    ·obtain rfl : t = 8:=by omega
     have hlt2 : ¬ ((k + 8 : Nat) : Int) < (k : Int) + 8:=by omega
     have hl1:=HLW.out.below hbx
     have hRo : R < wo.heap.size:=HLW.out.lt.2
     have c0 : wr.cell? ⟨R,j,none⟩ = some (.slice none 0 0):=by
      have e:=World.ownsRow.cellAt hl1.row j (by have:=HK.out.2.2; omega)
      rw [e]
      unfold lentRow
      have:=HK.out.2.2
      rw [List.getElem?_append_right (by simp),List.getElem?_append_right (by simp),List.getElem?_replicate,if_pos (by simp)]
     have f0 : wr.frozen? ⟨R,j,none⟩ = false:=World.ownsRow.frozenAt hl1.row j
     have HLN : Hid (LentAt (wr.setCell ⟨R,j,none⟩ (.slice (some ⟨wo.heap.size,0,none⟩) k (k + 8))) R R (putN b j wo.heap.size) (fun _ => 0) F (j + 1) 0):=by
      rw [roomPx_full] at hpx
      have hk1:=HK.out.1
      have hk2:=HK.out.2.1
      unfold Hid
      rw [hk2,hk1] at hpx ⊢
      exact hl1.frame HK.out.2.2 hpx (by omega) (fun t ht => by have:=(HLW.out.fr t ht).lt.2; omega)
     have HB : Hid (Below W2.heap.size W2 wr):=HBW.out.trans (hbx.mono HBW.out.size)
     clear hpx hbx hl1
     go_wp2
     exact ⟨⟨j + 1,_,hlt,by go_num,HLN.out,HB.out.setCell (p:=⟨R,j,none⟩) (by have:=HR.out; show W2.heap.size <= R; omega) _⟩,by simp [intOf]; omega⟩
  ·have hlt' : ¬ (j : Int) < (N : Int):=by omega
   obtain rfl : j = N:=by omega
   have L2 : Hid (LentAt wr R R b (fun _ => 0) F F.length 0):=by rw [HL.out.2]; exact hL
   have B2 : Hid (Below W2.heap.size W2 wr):=hB
   clear hL hB L1 B1
   go_wp2
   go_loopw [9] (fun v wx => ∃ (t : Nat) (s : Nat -> Nat),t <= 8 /\ v = .int .i64 ((j + t : Nat) : Int) /\ LentAt wx R R b s F F.length t /\ Below W2.heap.size W2 wx) (fun v _ => j + 8 - (intOf v).toNat)
   case atStart => exact ⟨0,_,Nat.zero_le _,rfl,L2.out,B2.out⟩
   case round =>
    obtain ⟨t,s,ht,rfl,hL,hB⟩:=hrel
    by_cases htk : t < 8
    ·have hlt2 : ((j + t : Nat) : Int) < (j : Int) + 8:=by omega
     have hlt3 : ((j + t : Nat) : Int) < ((j + 8 : Nat) : Int):=by omega
     have hRo : R < wr.heap.size:=hL.lt.2
     obtain ⟨A5,hA5⟩ : ∃ A5,A5 = wr.heap.size:=⟨_,rfl⟩
     obtain ⟨W5,hW5⟩ : ∃ W5,W5 = wr.alloc (.cells #[.int .u8 9,.int .u8 9,.int .u8 9] 50):=⟨_,rfl⟩
     have b5 : Below wr.heap.size wr W5:=by rw [hW5]; exact (Below.refl _ wr).alloc (Nat.le_refl _) _
     have h5 : W5.heap[A5]? = some (.cells #[.int .u8 9,.int .u8 9,.int .u8 9] 50 (0,0)):=by rw [hW5,hA5]; exact heap_alloc_last wr _
     have hl5:=hL.below b5
     have c0 : W5.cell? ⟨R,j + t,none⟩ = some (.slice none 0 0):=by
      have e:=World.ownsRow.cellAt hl5.row (j + t) (by have:=HL.out.2; omega)
      rw [e]
      unfold lentRow
      have:=HL.out.2
      rw [List.getElem?_append_right (by simp; omega),List.getElem?_append_right (by simp; omega),List.getElem?_replicate,if_pos (by simp; omega)]
     have f0 : W5.frozen? ⟨R,j + t,none⟩ = false:=World.ownsRow.frozenAt hl5.row (j + t)
     have HLN : Hid (LentAt (W5.setCell ⟨R,j + t,none⟩ (.slice (some ⟨A5,0,none⟩) 1 1)) R R b (putN s t A5) F F.length (t + 1)):=by
      have k:=hl5.spare htk (v:=A5) ⟨cell_of_row _ _ 0 _ _ _ h5,cell_of_row _ _ 1 _ _ _ h5,cell_of_row _ _ 2 _ _ _ h5⟩ (by omega) (by omega) (fun u hu => by have:=(hL.fr u hu).lt.2; omega)
      rw [HL.out.2] at k ⊢
      exact k
     have HB5 : Hid (Below W2.heap.size W2 W5):=hB.trans (b5.mono hB.size)
     have HW5 : Hid (W5 = _ /\ A5 = _):=⟨hW5,hA5⟩
     clear hL hB hl5 b5 h5 hW5 hA5
     go_wp2_with (rw [<- HW5.out.1,<- HW5.out.2])
     exact ⟨⟨t + 1,_,htk,by go_num,HLN.out,HB5.out.setCell (p:=⟨R,j + t,none⟩) (by have:=HR.out; show W2.heap.size <= R; omega) _⟩,by simp [intOf]; omega⟩
    ·obtain rfl : t = 8:=by omega
     have hlt2 : ¬ ((j + 8 : Nat) : Int) < (j : Int) + 8:=by omega
     obtain ⟨⟨k0,k1⟩,x1⟩:=HCL.out wr hB
     have f0 : wr.frozen? ⟨H + 1,0,none⟩ = false:=frozen_of_row _ _ 0 _ _ x1
     have f1 : wr.frozen? ⟨H + 1,1,none⟩ = false:=frozen_of_row _ _ 1 _ _ x1
     have d0 : wr.cell? ⟨H + 1,0,none⟩ = some (.int .i64 0):=cell_of_row _ _ 0 _ _ _ x1
     have d1 : wr.cell? ⟨H + 1,1,none⟩ = some (.slice none 0 0):=cell_of_row _ _ 1 _ _ _ x1
     have L9 : Hid (LentAt wr R R b s F F.length 8):=hL
     have B9 : Hid (Below W2.heap.size W2 wr):=hB
     clear hL hB x1
     go_wp2
     go_region
     all_goals
      go_wp2
      obtain ⟨W9,hW9⟩ : ∃ W9,W9 = ((wr.setCell ⟨H + 1,0,none⟩ (.int .i64 z)).setCell ⟨H + 1,1,none⟩ (.slice (some ⟨R,0,none⟩) j (j + 8))).drew:=⟨_,rfl⟩
      rw [<- hW9]
      have q0 : W9.cell? ⟨H + 1,0,none⟩ = some (.int .i64 z):=by
       rw [hW9]
       exact cell_off (World.cell?_setCell_same _ _ _ d0) (.inr (by decide))
      have q1 : W9.cell? ⟨H + 1,1,none⟩ = some (.slice (some ⟨R,0,none⟩) j (j + 8)):=by
       rw [hW9]
       exact World.cell?_setCell_same _ _ _ (cell_off d1 (.inr (by decide)))
      have hR:=HR.out
      have hS:=HS2.out
      have hH:=HW.out.2.1
      refine bodyPost_ret (v:=.agg #[.int .i64 z,.slice (some ⟨R,0,none⟩) j (j + 8)]) (by simp [results,Tryz.results70,go_sem,q0,q1]) rfl ?_
      have fr : Frm (fun k => k = H + 1) wr W9:=by
       rw [hW9]
       exact (((Frm.refl (fun k => k = H + 1) wr).setCell (p:=⟨H + 1,0,none⟩) (.inl rfl) _).setCell (p:=⟨H + 1,1,none⟩) (.inl rfl) _).drew
      have hl:=L9.out.frm fr (by omega) (fun t ht e => by have:=(L9.out.fr t ht).lt.1; have e' : b t = H + 1:=e; omega) (fun t ht e => by have:=(L9.out.sp t ht).1; have e' : s t = H + 1:=e; omega)
      have e2 : R = w.heap.size + 2:=by omega
      rw [e2] at hl
      rw [HL.out.2] at hl
      refine ⟨by rw [e2],⟨b,s,hl⟩,?_⟩
      rw [hW9]
      exact (((HW.out.2.2.trans (B9.out.mono HW.out.2.2.size)).setCell (p:=⟨H + 1,0,none⟩) (by show w.heap.size <= H + 1; omega) _).setCell (p:=⟨H + 1,1,none⟩) (by show w.heap.size <= H + 1; omega) _).drew
end Go.Proofs.YtekfbphnoibnjaaGreatDoor
namespace Go.Proofs.YtekfbphnoibnjaaGreatDoor
open Go.RowKit
open Flm (Px okPx)
def rl (n k : Nat) : Nat:=rho 1 (n + k) 0
theorem rl_inj {n k k' : Nat} (h : rl n k = rl n k') : k = k':=by unfold rl rho at h; omega
theorem rl_ge (n k : Nat) : 100 <= rl n k:=rho_ge _ _ _
theorem rl_free {wt : Nat -> List Wg} {k t i f : Nat} (ht : t < 2) (hi : i < (wt t).length) (hf : f < 16) : rl (wt 1).length k ≠ rho t i f:=fun e => by
 unfold rl at e
 obtain ⟨e1,e2,_⟩:=rho_inj e (by decide) ht (by decide) hf
 subst e1
 omega
def ownNew (n H : Nat) (own : Nat -> Nat) : Nat -> Nat:=fun k => if H <= k then rl n k else own k
theorem GSt.grow {w wH wr wr' : World} {p M : Nat} {own : Nat -> Nat} {vs : List Value} {mk : Nat -> List En} {wt : Nat -> List Wg} {d : Nat -> Nat} (h : GSt w wH wr p M own vs mk wt d) (f : Below wr.heap.size wr wr') (n : Nat) :
  GSt w wH wr' p M (ownNew n wr.heap.size own) vs mk wt d /\ Ev (fun _ => False) own (ownNew n wr.heap.size own) wr wr':=by
 have E : Ev (fun _ => False) own (ownNew n wr.heap.size own) wr wr':=⟨Frm.of_below f,fun k hk _ => if_neg (by omega)⟩
 exact ⟨h.ev E (fun e => e) (fun e => e) (h.bk.frm (Frm.of_below (S:=fun _ => False) f) (fun e => e)) ((if_neg (by have:=h.bk.up; omega)).trans h.op) (fun _ _ => .inl ⟨rfl,rfl,fun e => e⟩) (fun _ _ _ hx => .inl hx) (fun _ _ _ _ hx => .inl ⟨hx,fun hd => ⟨hd,fun _ _ e => e⟩⟩),E⟩
def nineLoc (k : Nat) : Loc:=⟨.slice (some ⟨k,0,none⟩) 0 0,fun w => Nine w k,fun f h p => p.frm f (h k rfl),fun p k' e => by simp [Value.ownBlock] at e; subst e; exact p.lt⟩
def frLoc (B : Nat) (v : Nat) (f : List Px) : Loc:=rowLoc B 50 3 (.slice (some ⟨v,0,none⟩) (f.length + 8) (f.length + 8)) (f.length + 8) (pxCells (padF f))
def rwLoc (B R : Nat) (b s : Nat -> Nat) (F : List (List Px)) : Loc:=rowLoc B 58 1 (.slice (some ⟨R,0,none⟩) (F.length + 8) (F.length + 8)) (F.length + 8) (lentRow b s F F.length 8)
def Quiet (n R : Nat) (b : Nat -> Nat) (N r : Nat) : Prop:=r ≠ 0 /\ r ≠ 4 /\ r ≠ 5 /\ r ≠ rl n R /\ ∀ t,t < N -> r ≠ rl n (b t)
structure InL (w wH wr : World) (p M : Nat) (own : Nat -> Nat) (vs : List Value) (mk : Nat -> List En) (wt : Nat -> List Wg) (d : Nat -> Nat) (R : Nat) (b s : Nat -> Nat) (F : List (List Px)) (i : Nat) (L : List Loc) : Prop where
 st : GSt w wH wr p M own vs mk wt d
 row : Has wr own (rl (wt 1).length R) (rwLoc w.heap.size R b s F)
 fr : ∀ t,i <= t -> t < F.length -> Has wr own (rl (wt 1).length (b t)) (frLoc w.heap.size (b t) (F.getD t []))
 sp : ∀ t,t < 8 -> Has wr own (rl (wt 1).length (s t)) (nineLoc (s t))
 bR : ∀ t,t < F.length -> b t ≠ R
 bb : ∀ t u,t < F.length -> u < F.length -> b t = b u -> t = u
 sR : ∀ t,t < 8 -> s t ≠ R
 sb : ∀ t u,t < 8 -> u < F.length -> s t ≠ b u
 ex : ∀ l ∈ L,∃ r,Has wr own r l /\ Quiet (wt 1).length R b F.length r
 m3 : ∀ i,i < 4 -> (mk i).length <= M
theorem InL.start {w wH wr wr' : World} {p M : Nat} {own : Nat -> Nat} {vs : List Value} {mk : Nat -> List En} {wt : Nat -> List Wg} {d : Nat -> Nat} {R : Nat} {b s : Nat -> Nat} {F : List (List Px)} (h : GSt w wH wr p M own vs mk wt d) (f : Below wr.heap.size wr wr') {B : Nat} (hB : wr.heap.size <= B) (l : LentAt wr' B R b s F F.length 8) (m3 : ∀ i,i < 4 -> (mk i).length <= M) {L : List Loc} (hL : ∀ x ∈ L,x.P wr' /\ ∃ k,x.v.ownBlock = some k /\ wr.heap.size <= k /\ k ≠ R /\ ∀ t,t < F.length -> k ≠ b t) :
  InL w wH wr' p M (ownNew (wt 1).length wr.heap.size own) vs mk wt d R b s F 0 L:=by
 have hz : w.heap.size <= B:=Nat.le_trans h.bel.size hB
 have ho : ∀ k,wr.heap.size <= k -> ownNew (wt 1).length wr.heap.size own k = rl (wt 1).length k:=fun k hk => if_pos hk
 refine ⟨(h.grow f _).1,⟨owns_base l.row hz,fun k hk => ?_⟩,fun t _ ht => ⟨owns_base (l.fr t ht) hz,fun k hk => ?_⟩,fun t ht => ⟨(l.sp t ht).2,fun k hk => ?_⟩,l.bR,l.bb,l.sR,l.sb,fun x hx => ?_,m3⟩
 ·simp [rwLoc,rowLoc,Value.ownBlock] at hk; subst hk; exact ho _ (Nat.le_trans hB l.lt.1)
 ·simp [frLoc,rowLoc,Value.ownBlock] at hk; subst hk; exact ho _ (Nat.le_trans hB (l.fr t ht).lt.1)
 ·simp [nineLoc,Value.ownBlock] at hk; subst hk; exact ho _ (Nat.le_trans hB (l.sp t ht).1)
 ·obtain ⟨h1,k,h2,h3,h4,h5⟩:=hL x hx
  have hg:=rl_ge (wt 1).length k
  exact ⟨rl (wt 1).length k,⟨h1,fun k' hk => by rw [h2] at hk; injection hk with hk; subst hk; exact ho _ h3⟩,by omega,by omega,by omega,fun e => h4 (rl_inj e),fun t ht e => h5 t ht (rl_inj e)⟩
theorem InL.ev {w wH wr wr' : World} {p M M' : Nat} {own own' : Nat -> Nat} {vs vs' : List Value} {mk mk' : Nat -> List En} {wt : Nat -> List Wg} {d : Nat -> Nat} {R : Nat} {b s : Nat -> Nat} {F : List (List Px)} {i i' : Nat} {L : List Loc} {Wr : Nat -> Prop} (h : InL w wH wr p M own vs mk wt d R b s F i L) (g : GSt w wH wr' p M' own' vs' mk' wt d) (e : Ev Wr own own' wr wr') (hi : i <= i')
  (nR : ¬ Wr (rl (wt 1).length R)) (nb : ∀ t,i' <= t -> t < F.length -> ¬ Wr (rl (wt 1).length (b t))) (ns : ∀ t,t < 8 -> ¬ Wr (rl (wt 1).length (s t))) (nq : ∀ r,Quiet (wt 1).length R b F.length r -> ¬ Wr r) (m3 : ∀ i,i < 4 -> (mk' i).length <= M') : InL w wH wr' p M' own' vs' mk' wt d R b s F i' L :=
 ⟨g,e.has h.row nR,fun t h1 h2 => e.has (h.fr t (Nat.le_trans hi h1) h2) (nb t h1 h2),fun t ht => e.has (h.sp t ht) (ns t ht),h.bR,h.bb,h.sR,h.sb,fun l hl => (h.ex l hl).elim fun r hr => ⟨r,e.has hr.1 (nq r hr.2),hr.2⟩,m3⟩
theorem InL.below {w wH wr wr' : World} {p M : Nat} {own : Nat -> Nat} {vs : List Value} {mk : Nat -> List En} {wt : Nat -> List Wg} {d : Nat -> Nat} {R : Nat} {b s : Nat -> Nat} {F : List (List Px)} {i : Nat} {L : List Loc} (h : InL w wH wr p M own vs mk wt d R b s F i L) (f : Below wr.heap.size wr wr') : InL w wH wr' p M own vs mk wt d R b s F i L :=
 h.ev (h.st.below f) (Ev.of_below (Wr:=fun _ => False) f) (Nat.le_refl _) (fun e => e) (fun _ _ _ e => e) (fun _ _ e => e) (fun _ _ e => e) h.m3
theorem InL.box {w wH wr : World} {p M : Nat} {own : Nat -> Nat} {vs : List Value} {mk : Nat -> List En} {wt : Nat -> List Wg} {d : Nat -> Nat} {R : Nat} {b s : Nat -> Nat} {F : List (List Px)} {i : Nat} {L : List Loc} (h : InL w wH wr p M own vs mk wt d R b s F i L) (x y : Value) (t : TypeId) :
  InL w wH (wr.alloc (.cells #[x,y] t)) p M (upd own wr.heap.size 50) vs mk wt d R b s F i (boxLoc wr.heap.size x y :: L):=by
 obtain ⟨g1,g2,g3⟩:=h.st.box x y t
 have k:=h.ev g1 g2 (Nat.le_refl _) (fun e => e) (fun _ _ _ e => e) (fun _ _ e => e) (fun _ _ e => e) h.m3
 exact ⟨k.st,k.row,k.fr,k.sp,k.bR,k.bb,k.sR,k.sb,fun l hl => by
  rcases List.mem_cons.1 hl with e | e
  ·have hg:=fun k => rl_ge (wt 1).length k
   rw [e]; exact ⟨50,g3,by decide,by decide,by decide,by have:=hg R; omega,fun t _ => by have:=hg (b t); omega⟩
  ·exact k.ex l e,k.m3⟩
theorem InL.pix {w wH wr : World} {p M : Nat} {own : Nat -> Nat} {vs : List Value} {mk : Nat -> List En} {wt : Nat -> List Wg} {d : Nat -> Nat} {R : Nat} {b s : Nat -> Nat} {F : List (List Px)} {i : Nat} {L : List Loc} (h : InL w wH wr p M own vs mk wt d R b s F i L) (hi : i < F.length) (hM : M <= 900000000) (hl : (F.getD i []).length + 8 <= 900000000) :
  Calls Tryz.prog 33 #[.pointer (some ⟨p,0,none⟩),.slice (some ⟨b i,0,none⟩) ((F.getD i []).length + 8) ((F.getD i []).length + 8)] wr fun e w' => e = .returned (.tuple #[]) /\ ∃ own' vi' x,InL w wH w' p (M + 1) own' (vs.set 2 vi') (upd mk 2 (mk 2 ++ [x])) wt d R b s F (i + 1) L:=by
 have hg:=rl_ge (wt 1).length (b i)
 refine (h.st.markPixels (d':=d) (h.fr i (Nat.le_refl _) hi) (by omega) (fun _ _ => Nat.le_refl _) (fun t j f ht _ hj hf => rl_free ht hj hf) hM hl (h.m3 2 (by decide))).mono ?_
 rintro e w' ⟨rfl,own',vi',x,g1,g2⟩
 have nw : ∀ k,k ≠ b i -> ¬ (rl (wt 1).length k = 0 \/ rl (wt 1).length k = rl (wt 1).length (b i) \/ rl (wt 1).length k = 2 + 2):=fun k hk e => by
  have:=rl_ge (wt 1).length k
  rcases e with e | e | e
  ·omega
  ·exact hk (rl_inj e)
  ·omega
 exact ⟨rfl,own',vi',x,h.ev g1 g2 (by omega) (nw R (fun e => h.bR i hi e.symm)) (fun t h1 h2 => nw _ (fun e => by have:=h.bb t i h2 hi e; omega)) (fun t ht => nw _ (h.sb t i ht hi)) (fun r hq e => by obtain ⟨q1,q2,_,_,q5⟩:=hq; rcases e with e | e | e; exact q1 e; exact q5 i hi e; exact q2 e) (len_upd h.m3 2 (by decide) x)⟩
theorem GSt.markRows2 {w wH wr : World} {p M : Nat} {own : Nat -> Nat} {vs : List Value} {mk : Nat -> List En} {wt : Nat -> List Wg} {d d' : Nat -> Nat} {r n lc : Nat} {la : Option Addr} {xs : List Value} (h : GSt w wH wr p M own vs mk wt d) (hl : Has wr own r (rowLoc w.heap.size 58 1 (.slice la n lc) n xs)) (r11 : 11 <= r)
  (hd : ∀ t,t < 2 -> d t <= d' t) (hdr : ∀ t i f,t < 2 -> d' t <= i -> i < (wt t).length -> f < 16 -> r ≠ rho t i f) (hM : M <= 900000000) (hn : n <= 900000000) (hk : (mk 3).length <= M) :
  Calls Tryz.prog 34 #[.pointer (some ⟨p,0,none⟩),.slice la n lc] wr fun e w' => e = .returned (.tuple #[]) /\ ∃ own' vi' x mb,GSt w wH w' p (M + 1) own' (vs.set 3 vi') (upd mk 3 (mk 3 ++ [x])) wt d' /\ Ev (fun q => q = 0 \/ q = r \/ q = 2 + 3) own own' wr w' /\ Fill w' (.slice la n lc) n [.slice (some ⟨mb,0,none⟩) (M + 1) (M + 1)] /\ w'.heap[mb]? = some (.cells (madeCells #[.int .u8 0,.int .u8 0,.int .u8 0] ((M + 1) * 3)) 50 (0,0)):=by
 have hrow:=h.row 3 (by decide)
 have hrol:=h.rol 3 (by decide)
 rw [els_mk _ _ (by decide),List.length_map] at hrow
 obtain ⟨ia,ic,hv,_⟩:=owns_sh hrow
 have hv0:=h.at 3 (by decide)
 have hop:=h.op
 rw [hv] at hrow hv0 hrol
 refine (markRows_any wr w.heap.size p M vs ia (mk 3).length ic _ la n lc xs h.bk hv0 hrow hl.1 h.bel.size (hrol.ne1 (by omega)) (hl.2.ne1 (by omega)) (hl.2.ne hrol (by omega)) (by omega) (by omega) (by omega)).mono ?_
 rintro e w' ⟨rfl,mb,hm,_,hz⟩
 rw [<- hv] at hm
 have hfl : Fill w' (.slice la n lc) n [.slice (some ⟨mb,0,none⟩) (M + 1) (M + 1)]:=by
  obtain ⟨gi,ci,g1,e1,g2,e2,g3,e3,hbk,hoi,fl,_⟩:=hm
  exact fl
 obtain ⟨own',vi',x,q1,q2⟩:=h.mark (j:=3) (by decide) hm hl.2 (fun k hk => (World.ownsRow.lt hl.1 k hk).2) r11 (fun g1 g2 g3 => ⟨M + 1,mb,M + 1,n,_,g1,g2,g3,rfl,hn⟩) hd hdr
 exact ⟨rfl,own',vi',x,mb,q1,q2,hfl,hz⟩
def blackF (N M : Nat) : List (List Px):=List.replicate N (List.replicate M (0,0,0))
theorem blackF_get (N M j : Nat) (h : j < N) : (blackF N M).getD j [] = List.replicate M (0,0,0):=by
 unfold blackF
 rw [List.getD_eq_getElem?_getD,List.getElem?_replicate,if_pos h]; rfl
theorem blackF_len (N M : Nat) : (blackF N M).length = N:=by simp [blackF]
theorem black_ok (N M j : Nat) : ∀ p ∈ (blackF N M).getD j [],okPx p:=fun p hp => by
 by_cases h : j < N
 ·rw [blackF_get N M j h] at hp
  rw [(List.mem_replicate.1 hp).2]
  exact ⟨by decide,by decide,by decide⟩
 ·rw [List.getD_eq_getElem?_getD,List.getElem?_eq_none (by rw [blackF_len]; omega)] at hp
  cases hp
theorem zero_cell {w : World} {mb M : Nat} {t : TypeId} (h : w.heap[mb]? = some (.cells (madeCells #[.int .u8 0,.int .u8 0,.int .u8 0] (M * 3)) t (0,0))) (j : Nat) (hj : j < M * 3) : w.cell? ⟨mb,j,none⟩ = some (.int .u8 0):=by
 rw [cell_of_row _ _ j _ _ _ h,<- Array.getElem?_toList]
 simp only [madeCells,Array.toList_map,List.getElem?_map,Array.toList_range,List.getElem?_range hj,Option.map_some]
 have h3 : j % 3 = 0 \/ j % 3 = 1 \/ j % 3 = 2:=by omega
 rcases h3 with h3 | h3 | h3 <;> simp [h3]
structure BlackAt (w : World) (R N M : Nat) : Prop where
 ex : ∃ mb,(∀ j,j < N -> w.cell? ⟨R,j,none⟩ = some (.slice (some ⟨mb,0,none⟩) M M)) /\ mb < w.heap.size /\ ∀ j,j < M * 3 -> w.cell? ⟨mb,j,none⟩ = some (.int .u8 0)
theorem BlackAt.below {w w' : World} {R N M : Nat} (h : BlackAt w R N M) (f : Below w.heap.size w w') : BlackAt w' R N M:=by
 obtain ⟨mb,h1,h2,h3⟩:=h.ex
 have L : ∀ a v,w.cell? a = some v -> w'.cell? a = some v:=fun a v e => (f.cell (World.block_lt_of_cell? w a e)).trans e
 exact ⟨mb,fun j hj => L _ _ (h1 j hj),Nat.lt_of_lt_of_le h2 f.size,fun j hj => L _ _ (h3 j hj)⟩
theorem BlackAt.film {w : World} {R N M : Nat} (h : BlackAt w R N M) : FiIn w (some ⟨R,0,none⟩) (blackF N M):=by
 obtain ⟨mb,h1,h2,h3⟩:=h.ex
 refine .inr ⟨R,0,rfl,fun j hj => ?_⟩
 rw [blackF_len] at hj
 rw [blackF_get N M j hj]
 refine ⟨_,M,by rw [Nat.zero_add,List.length_replicate]; exact h1 j hj,.inr ⟨mb,0,rfl,fun k hk => ?_⟩⟩
 rw [List.length_replicate] at hk
 have e : (List.replicate M ((0,0,0) : Px)).getD k (0,0,0) = (0,0,0):=by rw [List.getD_eq_getElem?_getD,List.getElem?_replicate]; split <;> rfl
 rw [e]
 exact ⟨h3 _ (by omega),h3 _ (by omega),h3 _ (by omega)⟩
theorem BlackAt.frs {w : World} {R N z : Nat} (h : BlackAt w R N (z * z)) : ∃ nbs cs,FrsIn w (some ⟨R,0,none⟩) N z (blackF N (z * z)) nbs cs:=by
 obtain ⟨mb,h1,h2,h3⟩:=h.ex
 refine ⟨fun _ => mb,fun _ => z * z,.inr ⟨R,0,rfl,fun j hj => ⟨by rw [Nat.zero_add]; exact h1 j hj,h2,fun k hk => ?_⟩⟩⟩
 rw [blackF_get N _ j hj]
 have e : (List.replicate (z * z) ((0,0,0) : Px)).getD k (0,0,0) = (0,0,0):=by rw [List.getD_eq_getElem?_getD,List.getElem?_replicate]; split <;> rfl
 rw [e]
 exact ⟨h3 _ (by omega),h3 _ (by omega),h3 _ (by omega)⟩
theorem InL.rows {w wH wr : World} {p M : Nat} {own : Nat -> Nat} {vs : List Value} {mk : Nat -> List En} {wt : Nat -> List Wg} {d : Nat -> Nat} {R : Nat} {b s : Nat -> Nat} {F : List (List Px)} {i : Nat} {L : List Loc} (h : InL w wH wr p M own vs mk wt d R b s F i L) (hM : M <= 900000000) (hl : F.length + 8 <= 900000000) :
  Calls Tryz.prog 34 #[.pointer (some ⟨p,0,none⟩),.slice (some ⟨R,0,none⟩) (F.length + 8) (F.length + 8)] wr fun e w' => e = .returned (.tuple #[]) /\ ∃ own' vi' x,GSt w wH w' p (M + 1) own' (vs.set 3 vi') (upd mk 3 (mk 3 ++ [x])) wt d /\ (∀ i,i < 4 -> (upd mk 3 (mk 3 ++ [x]) i).length <= M + 1) /\ BlackAt w' R F.length (M + 1) /\ ∀ l ∈ L,l.P w':=by
 have hg:=rl_ge (wt 1).length R
 refine (h.st.markRows2 (d':=d) h.row (by omega) (fun _ _ => Nat.le_refl _) (fun t j f ht _ hj hf => rl_free ht hj hf) hM hl (h.m3 3 (by decide))).mono ?_
 rintro e w' ⟨rfl,own',vi',x,mb,g1,g2,g3,g4⟩
 refine ⟨rfl,own',vi',x,g1,len_upd h.m3 3 (by decide) x,⟨mb,fun j hj => ?_,heap_lt0 g4,fun j hj => zero_cell g4 j hj⟩,fun l hl => ?_⟩
 ·obtain ⟨a,c,e,hf⟩:=g3
  rcases hf with h0 | ⟨g,off,rfl,hc⟩
  ·omega
  ·simp only [Value.slice.injEq,Option.some.injEq,Addr.mk.injEq,and_true,true_and] at e
   obtain ⟨⟨rfl,rfl⟩,_⟩:=e
   have:=hc j (by omega) 0 _ rfl
   simpa using this
 ·obtain ⟨r,hr,q1,_,q3,q4,_⟩:=h.ex l hl
  exact (g2.has hr (fun e => by rcases e with e | e | e; exact q1 e; exact q4 e; exact q3 e)).1
end Go.Proofs.YtekfbphnoibnjaaGreatDoor
