/-
  PPlc PSmall PArea
-/
import Derived.Test.YtekfbphnoibnjaaGreatDoorF32
set_option maxHeartbeats 4000000
namespace Go.Proofs.YtekfbphnoibnjaaGreatDoor
namespace Flm
def plc (fs:FS):Px:=(fs.fr,fs.x,fs.y)
theorem plc_soft (s:ByteArray) (z:Nat):∀ (ps:List (Nat × Nat)) (fs:FS),plc (soft s z ps fs)=plc fs
 | [],_=>rfl
 | (i,j) :: ps,fs=>by
  show plc (if (soft1 s z fs i j).1.r.err=0 then soft s z ps (put (soft1 s z fs i j).1 (j*z+i) (soft1 s z fs i j).2) else (soft1 s z fs i j).1)=_
  split
  ·rw [plc_soft s z ps];rfl
  ·rfl
theorem plc_fills (s:ByteArray) (z n:Nat) (l:List Px):∀ (ps:List (Nat × Nat)) (fs:FS),plc (fills s z n l ps fs)=plc fs
 | [],_=>rfl
 | (i,j) :: ps,fs=>by
  show plc (if fs.r.err=0 then (if (which s n 0 fs.r).2.err=0 then fills s z n l ps (put { fs with r:=(which s n 0 fs.r).2 } (j*z+i) (l.getD (which s n 0 fs.r).1 (0,0,0))) else fills s z n l ps { fs with r:=(which s n 0 fs.r).2 }) else fs)=_
  split
  ·split
   ·rw [plc_fills s z n l ps];rfl
   ·rw [plc_fills s z n l ps];rfl
  ·rfl
theorem plc_few (s:ByteArray) (z x y n:Nat) (fs:FS):plc (few s z x y n fs)=plc fs:=by
 unfold few
 dsimp only
 rw [plc_fills]
 rfl
theorem plc_moves (z f:Nat) (dx dy:Int):∀ (ps:List (Nat × Nat)) (fs:FS),plc (moves z f dx dy ps fs)=plc fs
 | [],_=>rfl
 | (i,j) :: ps,fs=>by
  unfold moves
  rw [plc_moves z f dx dy ps]
  rfl
theorem plc_copies (s:ByteArray) (z x y n k f:Nat) (fs:FS):plc (copies s z x y n k f fs)=plc fs:=by
 unfold copies
 dsimp only
 split
 ·split
  ·rw [plc_moves];rfl
  ·rfl
 ·rfl
theorem plc_seen (z:Nat):∀ (ps:List (Nat × Nat)) (fs:FS),plc (seen z ps fs)=plc fs
 | [],_=>rfl
 | (i,j) :: ps,fs=>by
  unfold seen
  rw [plc_seen z ps]
  rfl
theorem plc_block (s:ByteArray) (z x y n:Nat) (fs:FS):plc (block s z x y n fs)=plc fs:=by
 unfold block
 dsimp only
 split
 ·split
  ·split
   ·rw [plc_seen,plc_soft];rfl
   ·rw [plc_seen,plc_few];rfl
  ·split
   ·rw [plc_seen,plc_copies];rfl
   ·split
    ·rfl
    ·rw [plc_seen,plc_copies];rfl
 ·rfl
end Flm
section
open Go.RowKit
open Flm (Px FS)
theorem pSplitContext (w:World) (n:Nat) :
  Calls Tryz.prog 115 #[.int .i64 n] w fun e w'=>e=.returned (.int .i64 ((if n=16 then 0 else 1:Nat):Int))/\w'=w:=by
 by_cases h:n=16
 ·subst h
  go_enter Tryz.func115,Tryz.ntmps115
  go_wp2
  go_ret
  exact ⟨rfl,rfl⟩
 ·have h':¬ ((n:Int)=16):=by omega
  rw [if_neg h]
  go_enter Tryz.func115,Tryz.ntmps115
  go_wp2
  go_ret
  exact ⟨rfl,rfl⟩
theorem pIsSize (w:World) (n:Nat) (b:Bool) (hb:b=decide (n=4 \/ n=8 \/ n=16)) :
  Calls Tryz.prog 38 #[.int .i64 n] w fun e w'=>e=.returned (.bool b)/\w'=w:=by
 by_cases h4:n=4
 ·subst h4
  obtain rfl:b=true:=by rw [hb];decide
  clear hb
  go_enter Tryz.func38,Tryz.ntmps38
  go_wp2
  go_ret
  exact ⟨rfl,rfl⟩
 ·by_cases h8:n=8
  ·subst h8
   obtain rfl:b=true:=by rw [hb];decide
   clear hb
   go_enter Tryz.func38,Tryz.ntmps38
   go_wp2
   go_ret
   exact ⟨rfl,rfl⟩
  ·by_cases h16:n=16
   ·subst h16
    obtain rfl:b=true:=by rw [hb];decide
    clear hb
    go_enter Tryz.func38,Tryz.ntmps38
    go_wp2
    go_ret
    exact ⟨rfl,rfl⟩
   ·obtain rfl:b=false:=by rw [hb];simp [h4,h8,h16]
    have i4:((n:Int) == 4)=false:=by simpa using (by omega:¬ ((n:Int)=4))
    have i8:((n:Int) == 8)=false:=by simpa using (by omega:¬ ((n:Int)=8))
    have i16:((n:Int) == 16)=false:=by simpa using (by omega:¬ ((n:Int)=16))
    have hb2:((n:Int) == 4 || (n:Int) == 8 || (n:Int) == 16)=false:=by rw [i4,i8,i16];rfl
    clear hb i4 i8 i16
    go_enter Tryz.func38,Tryz.ntmps38
    go_wp2
    go_ret
    exact ⟨rfl,rfl⟩
theorem pQuarters (w:World) (x y n h:Nat) (hx:x<=16) (hy:y<=16) (hn:n=2*h) (hh:h<=8) :
  Calls Tryz.prog 116 #[.agg #[.int .i64 x,.int .i64 y,.int .i64 n]] w fun e w'=>e=.returned (.agg #[.int .i64 x,.int .i64 y,.int .i64 h,.int .i64 ((x+h:Nat):Int),.int .i64 y,.int .i64 h,.int .i64 x,.int .i64 ((y+h:Nat):Int),.int .i64 h,.int .i64 ((x+h:Nat):Int),.int .i64 ((y+h:Nat):Int),.int .i64 h])/\Below w.heap.size w w':=by
 have h2:Int.tdiv ((n:Nat):Int) 2=(h:Int):=by
  rw [hn,Int.natCast_mul]
  exact Int.mul_tdiv_cancel_left _ (by decide)
 go_enter Tryz.func116,Tryz.ntmps116
 go_wp2
 refine bodyPost_ret (v:=.agg #[.int .i64 x,.int .i64 y,.int .i64 h,.int .i64 ((x:Int)+h),.int .i64 y,.int .i64 h,.int .i64 x,.int .i64 ((y:Int)+h),.int .i64 h,.int .i64 ((x:Int)+h),.int .i64 ((y:Int)+h),.int .i64 h]) (by simp [results,Tryz.results116,go_sem]) rfl ?_
 exact ⟨by simp,((Below.refl _ _).alloc (Nat.le_refl _) _).alloc (by simp) _⟩
end
section
open Go.RowKit
open Flm (Px FS)
def fltV (A:Nat->Addr) (q:Px) (e:Int):Value:=if e=0 then .nilIface else .iface 113 (.agg #[.int .i64 q.1,.int .i64 q.2.1,.int .i64 q.2.2,.iface 278 (.pointer (some (A e.toNat)))])
theorem fltV_zero (A:Nat->Addr) (q:Px) {e:Int} (h:e=0):fltV A q e=.nilIface:=by unfold fltV;rw [if_pos h]
theorem fltV_pos (A:Nat->Addr) (q:Px) {e:Int} (h:e ≠ 0):fltV A q e=.iface 113 (.agg #[.int .i64 q.1,.int .i64 q.2.1,.int .i64 q.2.2,.iface 278 (.pointer (some (A e.toNat)))]):=by unfold fltV;rw [if_neg h]
set_option maxRecDepth 20000 in
theorem pFault_nil (w:World) (p x y n:Nat) :
  Calls Tryz.prog 120 #[.pointer (some ⟨p,0,none⟩),.agg #[.int .i64 x,.int .i64 y,.int .i64 n],.nilIface] w fun e w'=>e=.returned .nilIface/\Below w.heap.size w w':=by
 go_enter Tryz.func120,Tryz.ntmps120
 go_wp2
 go_ret
 exact ⟨rfl,(Below.refl _ w).alloc (Nat.le_refl _) _⟩
set_option maxRecDepth 100000 in
theorem pFault_some (w:World) (p x y n N:Nat) (da:Option Addr) (dc:Nat) (hp:p<w.heap.size) (c2:w.cell? ⟨p,2,none⟩=some (.slice da N dc)) (ea:Addr) :
  Calls Tryz.prog 120 #[.pointer (some ⟨p,0,none⟩),.agg #[.int .i64 x,.int .i64 y,.int .i64 n],.iface 278 (.pointer (some ea))] w fun e w'=>e=.returned (.iface 113 (.agg #[.int .i64 N,.int .i64 x,.int .i64 y,.iface 278 (.pointer (some ea))]))/\Below w.heap.size w w':=by
 have hmx:Tryz.prog.follows .mixedOrders=true:=by kernel_rfl
 obtain ⟨W,hW⟩:∃ W,W=w.alloc (.cells #[.int .i64 x,.int .i64 y,.int .i64 n] 100):=⟨_,rfl⟩
 have HW:Hid (W=w.alloc (.cells #[.int .i64 x,.int .i64 y,.int .i64 n] 100)):=hW
 have hB:Below w.heap.size w W:=by rw [hW];exact (Below.refl _ w).alloc (Nat.le_refl _) _
 have HB:Hid (Below w.heap.size w W):=hB
 have hr:W.heap[w.heap.size]?=some (.cells #[.int .i64 x,.int .i64 y,.int .i64 n] 100 (0,0)):=by rw [hW];exact heap_alloc_last w _
 have k0:=cell_of_row _ _ 0 _ _ _ hr
 have k1:=cell_of_row _ _ 1 _ _ _ hr
 simp at k0 k1
 have d2:W.cell? ⟨p,2,none⟩=some (.slice da N dc):=(World.cell?_of_block (a:=⟨p,2,none⟩) (hB.block p hp)).trans c2
 clear hW hB hr c2
 go_enter Tryz.func120,Tryz.ntmps120
 go_wp2_with (rw [<- HW.out])
 refine region_calm (S:=fun w'=>w'.cell? ⟨p,2,none⟩=some (.slice da N dc)/\w'.cell? ⟨w.heap.size,0,none⟩=some (.int .i64 x)/\w'.cell? ⟨w.heap.size,1,none⟩=some (.int .i64 y)) 14 #[false,false,false,false,false,false,false,false,false,false,false,false,false,false] rfl rfl hmx ?_
 have hS0:(W.drew.cell? ⟨p,2,none⟩=some (.slice da N dc)/\W.drew.cell? ⟨w.heap.size,0,none⟩=some (.int .i64 x)/\W.drew.cell? ⟨w.heap.size,1,none⟩=some (.int .i64 y)):=⟨d2,k0,k1⟩
 refine tk_at 0 9 (.pointer (some ⟨p,0,none⟩)) #[true,false,false,false,false,false,false,false,false,false,false,false,false,false] rfl rfl rfl (by kernel_rfl) (by rfl) (by rintro w ⟨t0,t1,t2⟩;go_simp) (by assumption) ?_
 simp only [sIb,sCs,sCz]
 refine tk_at 1 10 (.pointer (some ⟨p,0,none⟩)) #[true,true,false,false,false,false,false,false,false,false,false,false,false,false] rfl rfl rfl (by kernel_rfl) (by rfl) (by rintro w ⟨t0,t1,t2⟩;go_simp) (by assumption) ?_
 simp only [sIb,sCs,sCz]
 refine tk_at 2 11 (.pointer (some ⟨p,2,none⟩)) #[true,true,true,false,false,false,false,false,false,false,false,false,false,false] rfl rfl rfl (by kernel_rfl) (by rfl) (by rintro w ⟨t0,t1,t2⟩;go_simp) (by assumption) ?_
 simp only [sIb,sCs,sCz]
 refine tk_at 3 12 (.slice da N dc) #[true,true,true,true,false,false,false,false,false,false,false,false,false,false] rfl rfl rfl (by kernel_rfl) (by rfl) (by rintro w ⟨t0,t1,t2⟩;go_simp) (by assumption) ?_
 simp only [sIb,sCs,sCz]
 refine tk_at 4 13 (.int .i64 N) #[true,true,true,true,true,false,false,false,false,false,false,false,false,false] rfl rfl rfl (by kernel_rfl) (by rfl) (by rintro w ⟨t0,t1,t2⟩;go_simp) (by assumption) ?_
 simp only [sIb,sCs,sCz]
 refine tk_at 5 14 (.pointer (some ⟨w.heap.size,0,none⟩)) #[true,true,true,true,true,true,false,false,false,false,false,false,false,false] rfl rfl rfl (by kernel_rfl) (by rfl) (by rintro w ⟨t0,t1,t2⟩;go_simp) (by assumption) ?_
 simp only [sIb,sCs,sCz]
 refine tk_at 6 15 (.int .i64 x) #[true,true,true,true,true,true,true,false,false,false,false,false,false,false] rfl rfl rfl (by kernel_rfl) (by rfl) (by rintro w ⟨t0,t1,t2⟩;go_simp) (by assumption) ?_
 simp only [sIb,sCs,sCz]
 refine tk_at 7 16 (.pointer (some ⟨w.heap.size,1,none⟩)) #[true,true,true,true,true,true,true,true,false,false,false,false,false,false] rfl rfl rfl (by kernel_rfl) (by rfl) (by rintro w ⟨t0,t1,t2⟩;go_simp) (by assumption) ?_
 simp only [sIb,sCs,sCz]
 refine tk_at 8 17 (.int .i64 y) #[true,true,true,true,true,true,true,true,true,false,false,false,false,false] rfl rfl rfl (by kernel_rfl) (by rfl) (by rintro w ⟨t0,t1,t2⟩;go_simp) (by assumption) ?_
 simp only [sIb,sCs,sCz]
 refine tk_at 9 18 (.agg #[.int .i64 N,.int .i64 x,.int .i64 y]) #[true,true,true,true,true,true,true,true,true,true,false,false,false,false] rfl rfl rfl (by kernel_rfl) (by rfl) (by rintro w ⟨t0,t1,t2⟩;go_simp) (by assumption) ?_
 simp only [sIb,sCs,sCz]
 refine tk_at 10 19 (.iface 278 (.pointer (some ea))) #[true,true,true,true,true,true,true,true,true,true,true,false,false,false] rfl rfl rfl (by kernel_rfl) (by rfl) (by rintro w ⟨t0,t1,t2⟩;go_simp) (by assumption) ?_
 simp only [sIb,sCs,sCz]
 refine tk_at 11 20 (.agg #[.int .i64 N,.int .i64 x,.int .i64 y,.iface 278 (.pointer (some ea))]) #[true,true,true,true,true,true,true,true,true,true,true,true,false,false] rfl rfl rfl (by kernel_rfl) (by rfl) (by rintro w ⟨t0,t1,t2⟩;go_simp) (by assumption) ?_
 simp only [sIb,sCs,sCz]
 refine tk_at 12 21 (.iface 113 (.agg #[.int .i64 N,.int .i64 x,.int .i64 y,.iface 278 (.pointer (some ea))])) #[true,true,true,true,true,true,true,true,true,true,true,true,true,false] rfl rfl rfl (by kernel_rfl) (by rfl) (by rintro w ⟨t0,t1,t2⟩;go_simp) (by assumption) ?_
 simp only [sIb,sCs,sCz]
 refine tk_at 13 6 (.iface 113 (.agg #[.int .i64 N,.int .i64 x,.int .i64 y,.iface 278 (.pointer (some ea))])) #[true,true,true,true,true,true,true,true,true,true,true,true,true,true] rfl rfl rfl (by kernel_rfl) (by rfl) (by rintro w ⟨t0,t1,t2⟩;go_simp) (by assumption) ?_
 simp only [sIb,sCs,sCz]
 refine wpAnyH_done (by kernel_rfl) ?_ _
 dsimp only [calmPost]
 clear d2 k0 k1 hS0
 go_wp2_with fail
 go_ret
 exact ⟨rfl,below_drewN HB.out 1⟩
set_option maxRecDepth 100000 in
theorem pSplit_0 (w:World) (p b x y n k:Nat) (hn4:n ≠ 4) (hk:k=if n=16 then 0 else 1) (hp:p<w.heap.size) (hb:b<w.heap.size) (c0:w.cell? ⟨p,0,none⟩=some (.pointer (some ⟨b,0,none⟩))) (hpb:p ≠ b) (P:World->Prop)
  (hbit:∀ wx,Below w.heap.size w wx->Calls Tryz.prog 129 #[.pointer (some ⟨b,0,none⟩),.int .i64 k] wx fun e w'=>e=.returned (.tuple #[.int .i64 0,.nilIface])/\P w'/\Frm (oneS b) wx w') :
  Calls Tryz.prog 119 #[.pointer (some ⟨p,0,none⟩),.agg #[.int .i64 x,.int .i64 y,.int .i64 n]] w fun e w'=>e=.returned (.tuple #[.bool false,.nilIface])/\P w'/\Frm (oneS b) w w':=by
 have hmx:Tryz.prog.follows .mixedOrders=true:=by kernel_rfl
 obtain ⟨W,hW⟩:∃ W,W=w.alloc (.cells #[.int .i64 x,.int .i64 y,.int .i64 n] 100):=⟨_,rfl⟩
 have HW:Hid (W=w.alloc (.cells #[.int .i64 x,.int .i64 y,.int .i64 n] 100)):=hW
 have hB:Below w.heap.size w W:=by rw [hW];exact (Below.refl _ w).alloc (Nat.le_refl _) _
 have HB:Hid (Below w.heap.size w W):=hB
 have hr:W.heap[w.heap.size]?=some (.cells #[.int .i64 x,.int .i64 y,.int .i64 n] 100 (0,0)):=by rw [hW];exact heap_alloc_last w _
 have k2:=cell_of_row _ _ 2 _ _ _ hr
 simp at k2
 have d0:W.cell? ⟨p,0,none⟩=some (.pointer (some ⟨b,0,none⟩)):=(World.cell?_of_block (a:=⟨p,0,none⟩) (hB.block p hp)).trans c0
 have HBT:Hid (Calls Tryz.prog 129 #[.pointer (some ⟨b,0,none⟩),.int .i64 k] W.drew fun e w'=>e=.returned (.tuple #[.int .i64 0,.nilIface])/\P w'/\Frm (oneS b) W.drew w'):=hbit _ (below_drewN hB 1)
 have HSC:Hid (∀ wx,Calls Tryz.prog 115 #[.int .i64 n] wx fun e w'=>e=.returned (.int .i64 (k:Int))/\w'=wx):=fun wx=>by rw [hk];exact pSplitContext wx n
 have hn4':¬ ((n:Int)=4):=by omega
 clear hW hB hr c0 hk hbit hn4
 go_enter Tryz.func119,Tryz.ntmps119
 go_wp2_with (rw [<- HW.out])
 refine region_calm (S:=fun w'=>w'.cell? ⟨p,0,none⟩=some (.pointer (some ⟨b,0,none⟩))/\w'.cell? ⟨w.heap.size,2,none⟩=some (.int .i64 n)) 13 #[false,false,false,false,false,false,false,false,false,false,false,false,false] rfl rfl hmx ?_
 have hS0:(W.drew.cell? ⟨p,0,none⟩=some (.pointer (some ⟨b,0,none⟩))/\W.drew.cell? ⟨w.heap.size,2,none⟩=some (.int .i64 n)):=⟨d0,k2⟩
 refine tk_at 0 12 (.pointer (some ⟨p,0,none⟩)) #[true,false,false,false,false,false,false,false,false,false,false,false,false] rfl rfl rfl (by kernel_rfl) (by rfl) (by rintro w ⟨t0,t1⟩;go_simp) (by assumption) ?_
 simp only [sIb,sCs,sCz]
 refine tk_at 1 13 (.pointer (some ⟨p,0,none⟩)) #[true,true,false,false,false,false,false,false,false,false,false,false,false] rfl rfl rfl (by kernel_rfl) (by rfl) (by rintro w ⟨t0,t1⟩;go_simp) (by assumption) ?_
 simp only [sIb,sCs,sCz]
 refine tk_at 2 14 (.pointer (some ⟨p,0,none⟩)) #[true,true,true,false,false,false,false,false,false,false,false,false,false] rfl rfl rfl (by kernel_rfl) (by rfl) (by rintro w ⟨t0,t1⟩;go_simp) (by assumption) ?_
 simp only [sIb,sCs,sCz]
 refine tk_at 3 15 (.pointer (some ⟨b,0,none⟩)) #[true,true,true,true,false,false,false,false,false,false,false,false,false] rfl rfl rfl (by kernel_rfl) (by rfl) (by rintro w ⟨t0,t1⟩;go_simp) (by assumption) ?_
 simp only [sIb,sCs,sCz]
 refine tk_at 4 16 (.pointer (some ⟨w.heap.size,2,none⟩)) #[true,true,true,true,true,false,false,false,false,false,false,false,false] rfl rfl rfl (by kernel_rfl) (by rfl) (by rintro w ⟨t0,t1⟩;go_simp) (by assumption) ?_
 simp only [sIb,sCs,sCz]
 refine tk_at 5 17 (.int .i64 n) #[true,true,true,true,true,true,false,false,false,false,false,false,false] rfl rfl rfl (by kernel_rfl) (by rfl) (by rintro w ⟨t0,t1⟩;go_simp) (by assumption) ?_
 simp only [sIb,sCs,sCz]
 refine enter_at (i:=6) (d:=18) (f:=115) (args:=#[.int .i64 n]) #[true,true,true,true,true,true,true,false,false,false,false,false,false] (by kernel_rfl) rfl rfl rfl (by rfl) (by go_simp) (fun v' w'=>v'=.int .i64 (k:Int)/\w'=W.drew) ((HSC.out _).mono (fun e w' he=>⟨_,he.1,rfl,he.2⟩)) ?_
 rintro va wa ⟨rfl,rfl⟩
 refine ⟨hS0,?_⟩
 simp only [sIb,sCs,sCz]
 refine enter_at (i:=7) (d:=19) (f:=129) (args:=#[.pointer (some ⟨b,0,none⟩),.int .i64 (k:Int)]) #[true,true,true,true,true,true,true,true,false,false,false,false,false] (by kernel_rfl) rfl rfl rfl (by rfl) (by go_simp) (fun v' w'=>v'=.tuple #[.int .i64 0,.nilIface]/\P w'/\Frm (oneS b) W w') (HBT.out.mono (fun e w' he=>⟨_,he.1,rfl,he.2.1,((Frm.refl (oneS b) W).drew).trans he.2.2⟩)) ?_
 rintro vb wb ⟨rfl,hPb,fb⟩
 have hN1:¬ oneS b p:=hpb
 have hN2:¬ oneS b w.heap.size:=by show ¬ w.heap.size=b;omega
 have hS1:(wb.cell? ⟨p,0,none⟩=some (.pointer (some ⟨b,0,none⟩))/\wb.cell? ⟨w.heap.size,2,none⟩=some (.int .i64 n)):=⟨fb.cell d0 hN1,fb.cell k2 hN2⟩
 refine ⟨hS1,?_⟩
 simp only [sIb,sCs,sCz]
 refine tk_at 8 11 (.tuple #[.int .i64 0,.nilIface]) #[true,true,true,true,true,true,true,true,true,false,false,false,false] rfl rfl rfl (by kernel_rfl) (by rfl) (by rintro w ⟨t0,t1⟩;go_simp) (by assumption) ?_
 simp only [sIb,sCs,sCz]
 refine tk_at 9 20 (.int .i64 0) #[true,true,true,true,true,true,true,true,true,true,false,false,false] rfl rfl rfl (by kernel_rfl) (by rfl) (by rintro w ⟨t0,t1⟩;go_simp) (by assumption) ?_
 simp only [sIb,sCs,sCz]
 refine tk_at 10 21 (.nilIface) #[true,true,true,true,true,true,true,true,true,true,true,false,false] rfl rfl rfl (by kernel_rfl) (by rfl) (by rintro w ⟨t0,t1⟩;go_simp) (by assumption) ?_
 simp only [sIb,sCs,sCz]
 refine tk_at 11 6 (.int .i64 0) #[true,true,true,true,true,true,true,true,true,true,true,true,false] rfl rfl rfl (by kernel_rfl) (by rfl) (by rintro w ⟨t0,t1⟩;go_simp) (by assumption) ?_
 simp only [sIb,sCs,sCz]
 refine tk_at 12 7 (.nilIface) #[true,true,true,true,true,true,true,true,true,true,true,true,true] rfl rfl rfl (by kernel_rfl) (by rfl) (by rintro w ⟨t0,t1⟩;go_simp) (by assumption) ?_
 simp only [sIb,sCs,sCz]
 refine wpAnyH_done (by kernel_rfl) ?_ _
 dsimp only [calmPost]
 have HR:Hid (P wb/\Frm (oneS b) W wb):=⟨hPb,fb⟩
 clear d0 k2 hS0 hS1 hPb fb
 go_wp2_with fail
 go_ret2
 exact ⟨rfl,HR.out.1,(Frm.of_below HB.out).trans HR.out.2⟩
set_option maxRecDepth 100000 in
theorem pSplit_1 (w:World) (p b x y n k:Nat) (hn4:n ≠ 4) (hk:k=if n=16 then 0 else 1) (hp:p<w.heap.size) (hb:b<w.heap.size) (c0:w.cell? ⟨p,0,none⟩=some (.pointer (some ⟨b,0,none⟩))) (hpb:p ≠ b) (P:World->Prop)
  (hbit:∀ wx,Below w.heap.size w wx->Calls Tryz.prog 129 #[.pointer (some ⟨b,0,none⟩),.int .i64 k] wx fun e w'=>e=.returned (.tuple #[.int .i64 1,.nilIface])/\P w'/\Frm (oneS b) wx w') :
  Calls Tryz.prog 119 #[.pointer (some ⟨p,0,none⟩),.agg #[.int .i64 x,.int .i64 y,.int .i64 n]] w fun e w'=>e=.returned (.tuple #[.bool true,.nilIface])/\P w'/\Frm (oneS b) w w':=by
 have hmx:Tryz.prog.follows .mixedOrders=true:=by kernel_rfl
 obtain ⟨W,hW⟩:∃ W,W=w.alloc (.cells #[.int .i64 x,.int .i64 y,.int .i64 n] 100):=⟨_,rfl⟩
 have HW:Hid (W=w.alloc (.cells #[.int .i64 x,.int .i64 y,.int .i64 n] 100)):=hW
 have hB:Below w.heap.size w W:=by rw [hW];exact (Below.refl _ w).alloc (Nat.le_refl _) _
 have HB:Hid (Below w.heap.size w W):=hB
 have hr:W.heap[w.heap.size]?=some (.cells #[.int .i64 x,.int .i64 y,.int .i64 n] 100 (0,0)):=by rw [hW];exact heap_alloc_last w _
 have k2:=cell_of_row _ _ 2 _ _ _ hr
 simp at k2
 have d0:W.cell? ⟨p,0,none⟩=some (.pointer (some ⟨b,0,none⟩)):=(World.cell?_of_block (a:=⟨p,0,none⟩) (hB.block p hp)).trans c0
 have HBT:Hid (Calls Tryz.prog 129 #[.pointer (some ⟨b,0,none⟩),.int .i64 k] W.drew fun e w'=>e=.returned (.tuple #[.int .i64 1,.nilIface])/\P w'/\Frm (oneS b) W.drew w'):=hbit _ (below_drewN hB 1)
 have HSC:Hid (∀ wx,Calls Tryz.prog 115 #[.int .i64 n] wx fun e w'=>e=.returned (.int .i64 (k:Int))/\w'=wx):=fun wx=>by rw [hk];exact pSplitContext wx n
 have hn4':¬ ((n:Int)=4):=by omega
 clear hW hB hr c0 hk hbit hn4
 go_enter Tryz.func119,Tryz.ntmps119
 go_wp2_with (rw [<- HW.out])
 refine region_calm (S:=fun w'=>w'.cell? ⟨p,0,none⟩=some (.pointer (some ⟨b,0,none⟩))/\w'.cell? ⟨w.heap.size,2,none⟩=some (.int .i64 n)) 13 #[false,false,false,false,false,false,false,false,false,false,false,false,false] rfl rfl hmx ?_
 have hS0:(W.drew.cell? ⟨p,0,none⟩=some (.pointer (some ⟨b,0,none⟩))/\W.drew.cell? ⟨w.heap.size,2,none⟩=some (.int .i64 n)):=⟨d0,k2⟩
 refine tk_at 0 12 (.pointer (some ⟨p,0,none⟩)) #[true,false,false,false,false,false,false,false,false,false,false,false,false] rfl rfl rfl (by kernel_rfl) (by rfl) (by rintro w ⟨t0,t1⟩;go_simp) (by assumption) ?_
 simp only [sIb,sCs,sCz]
 refine tk_at 1 13 (.pointer (some ⟨p,0,none⟩)) #[true,true,false,false,false,false,false,false,false,false,false,false,false] rfl rfl rfl (by kernel_rfl) (by rfl) (by rintro w ⟨t0,t1⟩;go_simp) (by assumption) ?_
 simp only [sIb,sCs,sCz]
 refine tk_at 2 14 (.pointer (some ⟨p,0,none⟩)) #[true,true,true,false,false,false,false,false,false,false,false,false,false] rfl rfl rfl (by kernel_rfl) (by rfl) (by rintro w ⟨t0,t1⟩;go_simp) (by assumption) ?_
 simp only [sIb,sCs,sCz]
 refine tk_at 3 15 (.pointer (some ⟨b,0,none⟩)) #[true,true,true,true,false,false,false,false,false,false,false,false,false] rfl rfl rfl (by kernel_rfl) (by rfl) (by rintro w ⟨t0,t1⟩;go_simp) (by assumption) ?_
 simp only [sIb,sCs,sCz]
 refine tk_at 4 16 (.pointer (some ⟨w.heap.size,2,none⟩)) #[true,true,true,true,true,false,false,false,false,false,false,false,false] rfl rfl rfl (by kernel_rfl) (by rfl) (by rintro w ⟨t0,t1⟩;go_simp) (by assumption) ?_
 simp only [sIb,sCs,sCz]
 refine tk_at 5 17 (.int .i64 n) #[true,true,true,true,true,true,false,false,false,false,false,false,false] rfl rfl rfl (by kernel_rfl) (by rfl) (by rintro w ⟨t0,t1⟩;go_simp) (by assumption) ?_
 simp only [sIb,sCs,sCz]
 refine enter_at (i:=6) (d:=18) (f:=115) (args:=#[.int .i64 n]) #[true,true,true,true,true,true,true,false,false,false,false,false,false] (by kernel_rfl) rfl rfl rfl (by rfl) (by go_simp) (fun v' w'=>v'=.int .i64 (k:Int)/\w'=W.drew) ((HSC.out _).mono (fun e w' he=>⟨_,he.1,rfl,he.2⟩)) ?_
 rintro va wa ⟨rfl,rfl⟩
 refine ⟨hS0,?_⟩
 simp only [sIb,sCs,sCz]
 refine enter_at (i:=7) (d:=19) (f:=129) (args:=#[.pointer (some ⟨b,0,none⟩),.int .i64 (k:Int)]) #[true,true,true,true,true,true,true,true,false,false,false,false,false] (by kernel_rfl) rfl rfl rfl (by rfl) (by go_simp) (fun v' w'=>v'=.tuple #[.int .i64 1,.nilIface]/\P w'/\Frm (oneS b) W w') (HBT.out.mono (fun e w' he=>⟨_,he.1,rfl,he.2.1,((Frm.refl (oneS b) W).drew).trans he.2.2⟩)) ?_
 rintro vb wb ⟨rfl,hPb,fb⟩
 have hN1:¬ oneS b p:=hpb
 have hN2:¬ oneS b w.heap.size:=by show ¬ w.heap.size=b;omega
 have hS1:(wb.cell? ⟨p,0,none⟩=some (.pointer (some ⟨b,0,none⟩))/\wb.cell? ⟨w.heap.size,2,none⟩=some (.int .i64 n)):=⟨fb.cell d0 hN1,fb.cell k2 hN2⟩
 refine ⟨hS1,?_⟩
 simp only [sIb,sCs,sCz]
 refine tk_at 8 11 (.tuple #[.int .i64 1,.nilIface]) #[true,true,true,true,true,true,true,true,true,false,false,false,false] rfl rfl rfl (by kernel_rfl) (by rfl) (by rintro w ⟨t0,t1⟩;go_simp) (by assumption) ?_
 simp only [sIb,sCs,sCz]
 refine tk_at 9 20 (.int .i64 1) #[true,true,true,true,true,true,true,true,true,true,false,false,false] rfl rfl rfl (by kernel_rfl) (by rfl) (by rintro w ⟨t0,t1⟩;go_simp) (by assumption) ?_
 simp only [sIb,sCs,sCz]
 refine tk_at 10 21 (.nilIface) #[true,true,true,true,true,true,true,true,true,true,true,false,false] rfl rfl rfl (by kernel_rfl) (by rfl) (by rintro w ⟨t0,t1⟩;go_simp) (by assumption) ?_
 simp only [sIb,sCs,sCz]
 refine tk_at 11 6 (.int .i64 1) #[true,true,true,true,true,true,true,true,true,true,true,true,false] rfl rfl rfl (by kernel_rfl) (by rfl) (by rintro w ⟨t0,t1⟩;go_simp) (by assumption) ?_
 simp only [sIb,sCs,sCz]
 refine tk_at 12 7 (.nilIface) #[true,true,true,true,true,true,true,true,true,true,true,true,true] rfl rfl rfl (by kernel_rfl) (by rfl) (by rintro w ⟨t0,t1⟩;go_simp) (by assumption) ?_
 simp only [sIb,sCs,sCz]
 refine wpAnyH_done (by kernel_rfl) ?_ _
 dsimp only [calmPost]
 have HR:Hid (P wb/\Frm (oneS b) W wb):=⟨hPb,fb⟩
 clear d0 k2 hS0 hS1 hPb fb
 go_wp2_with fail
 go_ret2
 exact ⟨rfl,HR.out.1,(Frm.of_below HB.out).trans HR.out.2⟩
set_option maxRecDepth 100000 in
theorem pSplit_b (w:World) (p b x y n k:Nat) (ea:Addr) (hn4:n ≠ 4) (hk:k=if n=16 then 0 else 1) (hp:p<w.heap.size) (hb:b<w.heap.size) (c0:w.cell? ⟨p,0,none⟩=some (.pointer (some ⟨b,0,none⟩))) (hpb:p ≠ b) (P:World->Prop)
  (hbit:∀ wx,Below w.heap.size w wx->Calls Tryz.prog 129 #[.pointer (some ⟨b,0,none⟩),.int .i64 k] wx fun e w'=>e=.returned (.tuple #[.int .i64 0,.iface 278 (.pointer (some ea))])/\P w'/\Frm (oneS b) wx w') :
  Calls Tryz.prog 119 #[.pointer (some ⟨p,0,none⟩),.agg #[.int .i64 x,.int .i64 y,.int .i64 n]] w fun e w'=>e=.returned (.tuple #[.bool false,.iface 278 (.pointer (some ea))])/\P w'/\Frm (oneS b) w w':=by
 have hmx:Tryz.prog.follows .mixedOrders=true:=by kernel_rfl
 obtain ⟨W,hW⟩:∃ W,W=w.alloc (.cells #[.int .i64 x,.int .i64 y,.int .i64 n] 100):=⟨_,rfl⟩
 have HW:Hid (W=w.alloc (.cells #[.int .i64 x,.int .i64 y,.int .i64 n] 100)):=hW
 have hB:Below w.heap.size w W:=by rw [hW];exact (Below.refl _ w).alloc (Nat.le_refl _) _
 have HB:Hid (Below w.heap.size w W):=hB
 have hr:W.heap[w.heap.size]?=some (.cells #[.int .i64 x,.int .i64 y,.int .i64 n] 100 (0,0)):=by rw [hW];exact heap_alloc_last w _
 have k2:=cell_of_row _ _ 2 _ _ _ hr
 simp at k2
 have d0:W.cell? ⟨p,0,none⟩=some (.pointer (some ⟨b,0,none⟩)):=(World.cell?_of_block (a:=⟨p,0,none⟩) (hB.block p hp)).trans c0
 have HBT:Hid (Calls Tryz.prog 129 #[.pointer (some ⟨b,0,none⟩),.int .i64 k] W.drew fun e w'=>e=.returned (.tuple #[.int .i64 0,.iface 278 (.pointer (some ea))])/\P w'/\Frm (oneS b) W.drew w'):=hbit _ (below_drewN hB 1)
 have HSC:Hid (∀ wx,Calls Tryz.prog 115 #[.int .i64 n] wx fun e w'=>e=.returned (.int .i64 (k:Int))/\w'=wx):=fun wx=>by rw [hk];exact pSplitContext wx n
 have hn4':¬ ((n:Int)=4):=by omega
 clear hW hB hr c0 hk hbit hn4
 go_enter Tryz.func119,Tryz.ntmps119
 go_wp2_with (rw [<- HW.out])
 refine region_calm (S:=fun w'=>w'.cell? ⟨p,0,none⟩=some (.pointer (some ⟨b,0,none⟩))/\w'.cell? ⟨w.heap.size,2,none⟩=some (.int .i64 n)) 13 #[false,false,false,false,false,false,false,false,false,false,false,false,false] rfl rfl hmx ?_
 have hS0:(W.drew.cell? ⟨p,0,none⟩=some (.pointer (some ⟨b,0,none⟩))/\W.drew.cell? ⟨w.heap.size,2,none⟩=some (.int .i64 n)):=⟨d0,k2⟩
 refine tk_at 0 12 (.pointer (some ⟨p,0,none⟩)) #[true,false,false,false,false,false,false,false,false,false,false,false,false] rfl rfl rfl (by kernel_rfl) (by rfl) (by rintro w ⟨t0,t1⟩;go_simp) (by assumption) ?_
 simp only [sIb,sCs,sCz]
 refine tk_at 1 13 (.pointer (some ⟨p,0,none⟩)) #[true,true,false,false,false,false,false,false,false,false,false,false,false] rfl rfl rfl (by kernel_rfl) (by rfl) (by rintro w ⟨t0,t1⟩;go_simp) (by assumption) ?_
 simp only [sIb,sCs,sCz]
 refine tk_at 2 14 (.pointer (some ⟨p,0,none⟩)) #[true,true,true,false,false,false,false,false,false,false,false,false,false] rfl rfl rfl (by kernel_rfl) (by rfl) (by rintro w ⟨t0,t1⟩;go_simp) (by assumption) ?_
 simp only [sIb,sCs,sCz]
 refine tk_at 3 15 (.pointer (some ⟨b,0,none⟩)) #[true,true,true,true,false,false,false,false,false,false,false,false,false] rfl rfl rfl (by kernel_rfl) (by rfl) (by rintro w ⟨t0,t1⟩;go_simp) (by assumption) ?_
 simp only [sIb,sCs,sCz]
 refine tk_at 4 16 (.pointer (some ⟨w.heap.size,2,none⟩)) #[true,true,true,true,true,false,false,false,false,false,false,false,false] rfl rfl rfl (by kernel_rfl) (by rfl) (by rintro w ⟨t0,t1⟩;go_simp) (by assumption) ?_
 simp only [sIb,sCs,sCz]
 refine tk_at 5 17 (.int .i64 n) #[true,true,true,true,true,true,false,false,false,false,false,false,false] rfl rfl rfl (by kernel_rfl) (by rfl) (by rintro w ⟨t0,t1⟩;go_simp) (by assumption) ?_
 simp only [sIb,sCs,sCz]
 refine enter_at (i:=6) (d:=18) (f:=115) (args:=#[.int .i64 n]) #[true,true,true,true,true,true,true,false,false,false,false,false,false] (by kernel_rfl) rfl rfl rfl (by rfl) (by go_simp) (fun v' w'=>v'=.int .i64 (k:Int)/\w'=W.drew) ((HSC.out _).mono (fun e w' he=>⟨_,he.1,rfl,he.2⟩)) ?_
 rintro va wa ⟨rfl,rfl⟩
 refine ⟨hS0,?_⟩
 simp only [sIb,sCs,sCz]
 refine enter_at (i:=7) (d:=19) (f:=129) (args:=#[.pointer (some ⟨b,0,none⟩),.int .i64 (k:Int)]) #[true,true,true,true,true,true,true,true,false,false,false,false,false] (by kernel_rfl) rfl rfl rfl (by rfl) (by go_simp) (fun v' w'=>v'=.tuple #[.int .i64 0,.iface 278 (.pointer (some ea))]/\P w'/\Frm (oneS b) W w') (HBT.out.mono (fun e w' he=>⟨_,he.1,rfl,he.2.1,((Frm.refl (oneS b) W).drew).trans he.2.2⟩)) ?_
 rintro vb wb ⟨rfl,hPb,fb⟩
 have hN1:¬ oneS b p:=hpb
 have hN2:¬ oneS b w.heap.size:=by show ¬ w.heap.size=b;omega
 have hS1:(wb.cell? ⟨p,0,none⟩=some (.pointer (some ⟨b,0,none⟩))/\wb.cell? ⟨w.heap.size,2,none⟩=some (.int .i64 n)):=⟨fb.cell d0 hN1,fb.cell k2 hN2⟩
 refine ⟨hS1,?_⟩
 simp only [sIb,sCs,sCz]
 refine tk_at 8 11 (.tuple #[.int .i64 0,.iface 278 (.pointer (some ea))]) #[true,true,true,true,true,true,true,true,true,false,false,false,false] rfl rfl rfl (by kernel_rfl) (by rfl) (by rintro w ⟨t0,t1⟩;go_simp) (by assumption) ?_
 simp only [sIb,sCs,sCz]
 refine tk_at 9 20 (.int .i64 0) #[true,true,true,true,true,true,true,true,true,true,false,false,false] rfl rfl rfl (by kernel_rfl) (by rfl) (by rintro w ⟨t0,t1⟩;go_simp) (by assumption) ?_
 simp only [sIb,sCs,sCz]
 refine tk_at 10 21 (.iface 278 (.pointer (some ea))) #[true,true,true,true,true,true,true,true,true,true,true,false,false] rfl rfl rfl (by kernel_rfl) (by rfl) (by rintro w ⟨t0,t1⟩;go_simp) (by assumption) ?_
 simp only [sIb,sCs,sCz]
 refine tk_at 11 6 (.int .i64 0) #[true,true,true,true,true,true,true,true,true,true,true,true,false] rfl rfl rfl (by kernel_rfl) (by rfl) (by rintro w ⟨t0,t1⟩;go_simp) (by assumption) ?_
 simp only [sIb,sCs,sCz]
 refine tk_at 12 7 (.iface 278 (.pointer (some ea))) #[true,true,true,true,true,true,true,true,true,true,true,true,true] rfl rfl rfl (by kernel_rfl) (by rfl) (by rintro w ⟨t0,t1⟩;go_simp) (by assumption) ?_
 simp only [sIb,sCs,sCz]
 refine wpAnyH_done (by kernel_rfl) ?_ _
 dsimp only [calmPost]
 have HR:Hid (P wb/\Frm (oneS b) W wb):=⟨hPb,fb⟩
 clear d0 k2 hS0 hS1 hPb fb
 go_wp2_with fail
 go_ret2
 exact ⟨rfl,HR.out.1,(Frm.of_below HB.out).trans HR.out.2⟩
theorem pSplit (w:World) (L p b nb rg:Nat) (Dv:Value) (dbs:List Nat) (s:ByteArray) (z:Nat) (fs:FS) (A:Nat->Addr) (h:PAt w L p b nb rg Dv dbs s z fs) (hs:s.size<=maxLen) (E:ErrsL w A L) (hLw:L<=w.heap.size) (x y n k:Nat) (hn4:n ≠ 4) (hk:k=if n=16 then 0 else 1) :
  Calls Tryz.prog 119 #[.pointer (some ⟨p,0,none⟩),.agg #[.int .i64 x,.int .i64 y,.int .i64 n]] w fun e w'=>(((Rdr.bitS s fs.r k).err=0->e=.returned (.tuple #[.bool (decide (Rdr.bitV fs.r k=1)),.nilIface]))/\((Rdr.bitS s fs.r k).err ≠ 0->e=.returned (.tuple #[.bool false,.iface 278 (.pointer (some (A (Rdr.bitS s fs.r k).err.toNat)))])))/\goesOn w' L p b nb rg Dv dbs s z fs (Rdr.bitS s fs.r k)/\Frm (oneS b) w w':=by
 have hk4:k<400:=by rw [hk];split <;> decide
 have HB:=fun wx (hb:Below w.heap.size w wx)=>(h.below hb).bit hs (E.below (hb.mono hLw)) k hk4
 have hpb:p ≠ b:=h.nes.1.1
 by_cases e1:(Rdr.bitS s fs.r k).err=0
 ·rcases Rdr.bitV_cases fs.r k with hv|hv
  ·refine (pSplit_0 w p b x y n k hn4 hk h.up.1 h.up.2 h.c0 hpb (fun w'=>goesOn w' L p b nb rg Dv dbs s z fs (Rdr.bitS s fs.r k)) (fun wx hb=>(HB wx hb).mono ?_)).mono ?_
   ·rintro e w' ⟨rfl,hg,f⟩
    exact ⟨by rw [numRet_good A _ e1,hv],hg,f⟩
   ·rintro e w' ⟨rfl,hg,f⟩
    exact ⟨⟨fun _=>by rw [hv];rfl,fun he=>absurd e1 he⟩,hg,f⟩
  ·refine (pSplit_1 w p b x y n k hn4 hk h.up.1 h.up.2 h.c0 hpb (fun w'=>goesOn w' L p b nb rg Dv dbs s z fs (Rdr.bitS s fs.r k)) (fun wx hb=>(HB wx hb).mono ?_)).mono ?_
   ·rintro e w' ⟨rfl,hg,f⟩
    exact ⟨by rw [numRet_good A _ e1,hv],hg,f⟩
   ·rintro e w' ⟨rfl,hg,f⟩
    exact ⟨⟨fun _=>by rw [hv];rfl,fun he=>absurd e1 he⟩,hg,f⟩
 ·refine (pSplit_b w p b x y n k (A (Rdr.bitS s fs.r k).err.toNat) hn4 hk h.up.1 h.up.2 h.c0 hpb (fun w'=>goesOn w' L p b nb rg Dv dbs s z fs (Rdr.bitS s fs.r k)) (fun wx hb=>(HB wx hb).mono ?_)).mono ?_
  ·rintro e w' ⟨rfl,hg,f⟩
   exact ⟨numRet_bad A _ e1,hg,f⟩
  ·rintro e w' ⟨rfl,hg,f⟩
   exact ⟨⟨fun he=>absurd he e1,fun _=>rfl⟩,hg,f⟩
theorem pSplit4 (w:World) (p x y:Nat) :
  Calls Tryz.prog 119 #[.pointer (some ⟨p,0,none⟩),.agg #[.int .i64 x,.int .i64 y,.int .i64 4]] w fun e w'=>e=.returned (.tuple #[.bool false,.nilIface])/\Below w.heap.size w w':=by
 go_enter Tryz.func119,Tryz.ntmps119
 go_wp2
 go_ret2
 exact ⟨rfl,(Below.refl _ w).alloc (Nat.le_refl _) _⟩
end
end Go.Proofs.YtekfbphnoibnjaaGreatDoor
