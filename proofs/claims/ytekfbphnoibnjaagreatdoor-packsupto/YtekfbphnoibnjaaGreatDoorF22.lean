/-
  The program's packer: its carry. The program's packer: the low end is raised; a packer is made. The program's course of a line: the range is narrowed to the part of a bit. The program's packer packs one bit. A draft of a line, in memory: begun.
-/
import Derived.Test.YtekfbphnoibnjaaGreatDoorF17
import Derived.Test.YtekfbphnoibnjaaGreatDoorF21
import Derived.Test.YtekfbphnoibnjaaGreatDoorF02
import Derived.Deep.RegionLaw
import Derived.BigRegion
import Derived.Deep.AppendLies
import Derived.Laws.CopyOwn
import Derived.Test.YtekfbphnoibnjaaGreatDoorF10
import Derived.Deep.MidRow
namespace Go.Proofs.YtekfbphnoibnjaaGreatDoor
open Go.RowKit
theorem infoU8 : (Tryz.prog.info? 5).map (fun i => (i.zero,i.size,i.bytes)) = some (some (.int .u8 0),1,1):=by kernel_rfl
def octs (zs : List Int) : List Value:=zs.map (Value.int .u8)
theorem octs_set (zs : List Int) (k : Nat) (v : Int) : (octs zs).set k (.int .u8 v) = octs (zs.set k v):=by simp [octs,List.map_set]
theorem octs_get (zs : List Int) (k : Nat) (h : k < zs.length) : (octs zs)[k]? = some (.int .u8 (zs.getD k 0)):=by simp [octs,h]
theorem octs_snoc (zs : List Int) (z : Int) : octs zs ++ [.int .u8 z] = octs (zs ++ [z]):=by simp [octs]
def Octs (w : World) (B : Nat) (v : Value) (zs : List Int) : Prop:=w.ownsRow B 5 1 v zs.length (octs zs)
theorem digs_last (i : Nat) (y : Int) (z : List Int) : (Pack.digs (i + 1) y ++ z).getD i 0 = y % 256:=by
 rw [Pack.digs,List.append_assoc,List.getD_eq_getElem?_getD,List.getElem?_append_right (by rw [Pack.digs_length]; exact Nat.le_refl _),Pack.digs_length,Nat.sub_self]
 rfl
theorem digs_setLast (i : Nat) (y d : Int) (z : List Int) : (Pack.digs (i + 1) y ++ z).set i d = Pack.digs i (y / 256) ++ (d :: z):=by
 rw [Pack.digs,List.append_assoc,List.set_append_right _ _ (by rw [Pack.digs_length]; exact Nat.le_refl _),Pack.digs_length,Nat.sub_self]
 rfl
def ownS (v : Value) : Nat -> Prop:=fun k => v.ownBlock = some k
theorem u8_up (d : Int) (h0 : 0 <= d) (h1 : d < 255) : IntKind.u8.wrap (d + 1) = d + 1:=by rw [IntKind.wrap_u8]; omega
set_option maxHeartbeats 1000000 in
set_option maxRecDepth 20000 in
theorem pCarry (w : World) (B b m : Nat) (v : Value) (x : Int) (hm : m <= 1000000) (h0 : w.cell? ⟨b,401,none⟩ = some v) (ho : Octs w B v (Pack.digs m x)) (hb : v.ownBlock ≠ some b) :
  Calls Tryz.prog 146 #[.pointer (some ⟨b,0,none⟩)] w fun e w' => e = .returned (.tuple #[]) /\ Octs w' B v (Pack.digs m (x + 1)) /\ Frm (ownS v) w w':=by
 have hl : (Pack.digs m x).length = m:=Pack.digs_length m x
 unfold Octs at ho
 rw [hl] at ho
 obtain ⟨a,cap,rfl,hav⟩ : ∃ a cap,v = .slice a m cap /\ (m = 0 \/ ∃ g,a = some ⟨g,0,none⟩ /\ g ≠ b):=by
  rcases ho.2 with ⟨rfl,h⟩ | ⟨g,cap,cur,rfl,_⟩
  ·exact ⟨none,0,by rw [h],.inl h⟩
  ·exact ⟨_,cap,rfl,.inr ⟨g,rfl,fun e => hb (by rw [e]; rfl)⟩⟩
 have H0 : Hid (w.cell? ⟨b,401,none⟩ = some (.slice a m cap)):=h0
 go_enter Tryz.func146,Tryz.ntmps146
 go_wp2
 go_loopw [2] (fun i wr => ∃ k : Nat,∃ y : Int,k <= m /\ i = .int .i64 ((k : Int) - 1) /\ wr.ownsRow B 5 1 (.slice a m cap) m (octs (Pack.digs k y ++ List.replicate (m - k) 0)) /\ Pack.digs m (x + 1) = Pack.digs k (y + 1) ++ List.replicate (m - k) 0 /\ Frm (ownS (.slice a m cap)) w wr) (fun i _ => (intOf i + 1).toNat)
 case atStart => exact ⟨m,x,Nat.le_refl _,rfl,by simp; exact ho,by simp,Frm.refl _ _⟩
 case round =>
  obtain ⟨k,y,hk,rfl,hown,heq,hfr⟩:=hrel
  have HEQ : Hid (Pack.digs m (x + 1) = Pack.digs k (y + 1) ++ List.replicate (m - k) 0):=heq
  clear heq
  have h0 : wr.cell? ⟨b,401,none⟩ = some (.slice a m cap):=hfr.cell H0.out (fun h => hb h)
  cases k with
  | zero =>
   go_wp2
   go_end0
   refine ⟨rfl,?_,hfr⟩
   unfold Octs
   rw [Pack.digs_length,HEQ.out]
   exact hown
  | succ k =>
   obtain ⟨g,rfl,hgb⟩ : ∃ g,a = some ⟨g,0,none⟩ /\ g ≠ b:=by
    rcases hav with h | h
    ·omega
    ·exact h
   obtain ⟨d,hd⟩ : ∃ d,d = y % 256:=⟨_,rfl⟩
   have d0 : 0 <= d:=by omega
   have d1 : d <= 255:=by omega
   have hlk : (Pack.digs (k + 1) y ++ List.replicate (m - (k + 1)) 0).length = m:=by rw [List.length_append,Pack.digs_length,List.length_replicate]; omega
   have hck : wr.cell? ⟨g,k,none⟩ = some (.int .u8 d):=by
    rw [World.ownsRow.cellAt hown k (by omega),octs_get _ _ (by rw [hlk]; omega),digs_last,hd]
   have hfk : wr.frozen? ⟨g,k,none⟩ = false:=World.ownsRow.frozenAt hown k
   have hst : ∀ u : Int,Hid ((wr.setCell ⟨g,k,none⟩ (.int .u8 u)).ownsRow B 5 1 (.slice (some ⟨g,0,none⟩) m cap) m (octs (Pack.digs k (y / 256) ++ (u :: List.replicate (m - (k + 1)) 0)))):=fun u => by
    have:=(World.ownsRow.stored hown k (.int .u8 u)).1
    rw [octs_set,digs_setLast] at this
    exact this
   have hfr2 : ∀ u : Int,Hid (Frm (ownS (.slice (some ⟨g,0,none⟩) m cap)) w (wr.setCell ⟨g,k,none⟩ (.int .u8 u))):=fun u => hfr.setCell (p:=⟨g,k,none⟩) (.inl (show ownS (.slice (some ⟨g,0,none⟩) m cap) g from rfl)) _
   have HD : Hid (d = y % 256):=hd
   have hkm : (k : Int) < (m : Int):=by omega
   have hgb' : b ≠ g:=fun e => hgb e.symm
   rw [show (((k + 1 : Nat) : Int) - 1) = (k : Int) by omega]
   clear hd hown hfr hlk
   by_cases h255 : d = 255
   ·subst h255
    go_wp2
    go_roundw
    case rel =>
     refine ⟨k,y / 256,by omega,by go_num,?_,?_,(hfr2 0).out⟩
     ·have:=(hst 0).out
      rw [show m - k = (m - (k + 1)) + 1 by omega,List.replicate_succ]
      exact this
     ·rw [HEQ.out,show m - k = (m - (k + 1)) + 1 by omega,List.replicate_succ,Pack.digs]
      have:=HD.out
      rw [show (y + 1) / 256 = y / 256 + 1 by omega,show (y + 1) % 256 = 0 by omega]
      simp
    case measure => simp [intOf]
   ·have hu:=u8_up d d0 (by omega)
    have hne0 : ((d + 1 : Int) == 0) = false:=by simp; omega
    go_wp2
    refine bodyPost_ret (results_none rfl _ _ _) rfl ?_
    refine ⟨rfl,?_,(hfr2 (d + 1)).out⟩
    unfold Octs
    rw [Pack.digs_length,HEQ.out,Pack.digs]
    have hdd:=HD.out
    rw [show (y + 1) / 256 = y / 256 by omega,show (y + 1) % 256 = d + 1 by omega,List.append_assoc]
    exact (hst (d + 1)).out
end Go.Proofs.YtekfbphnoibnjaaGreatDoor
namespace Go.Proofs.YtekfbphnoibnjaaGreatDoor
open Go.RowKit
structure PW (w : World) (B b : Nat) (v : Value) (t : WS) : Prop where
 c0 : w.cell? ⟨b,401,none⟩ = some v
 own : Octs w B v (Pack.digs t.m (t.n / 4294967296))
 ne : v.ownBlock ≠ some b
 c1 : w.cell? ⟨b,402,none⟩ = some (.int .u32 (t.n % 4294967296))
 c2 : w.cell? ⟨b,0,none⟩ = some (.int .u32 t.rng)
 fz : ∀ o,o < 403 -> w.frozen? ⟨b,o,none⟩ = false
 ch : ChAt w b 1 t.ch
 up : b < w.heap.size
theorem Octs.set {w : World} {B : Nat} {v : Value} {zs : List Int} (h : Octs w B v zs) (b o : Nat) (u : Value) (hb : v.ownBlock ≠ some b) : Octs (w.setCell ⟨b,o,none⟩ u) B v zs:=by
 unfold Octs at *
 exact h.kept (grown_setCell w b o u) (.inr hb)
def wS (b : Nat) (v : Value) : Nat -> Prop:=fun k => k = b \/ v.ownBlock = some k
set_option maxHeartbeats 400000 in
theorem pAdd32 (w : World) (x y : Int) (x0 : 0 <= x) (x1 : x <= 4294967295) (y0 : 0 <= y) (y1 : y <= 4294967295) :
  Calls Tryz.prog 145 #[.int .u32 x,.int .u32 y,.int .u32 0] w fun e w' => e = .returned (.tuple #[.int .u32 ((x + y) % 4294967296),.int .u32 ((x + y) / 4294967296)]) /\ w' = w:=by
 go_enter Tryz.func145,Tryz.ntmps145
 go_wp2
 go_ret2
 exact ⟨rfl,rfl⟩
set_option maxHeartbeats 1000000 in
set_option maxRecDepth 20000 in
theorem pRaise (w : World) (B b : Nat) (v : Value) (t : WS) (c : Int) (hm : t.m <= 1000000) (h : PW w B b v t) (c0 : 0 <= c) (c1 : c <= 4294967295) :
  Calls Tryz.prog 118 #[.pointer (some ⟨b,0,none⟩),.int .u32 c] w fun e w' => e = .returned (.tuple #[]) /\ PW w' B b v { t with n:=t.n + c } /\ Frm (wS b v) w w':=by
 have i1:=h.c1
 have f1:=h.fz 402 (by decide)
 obtain ⟨L,hL⟩ : ∃ L,L = t.n % 4294967296:=⟨_,rfl⟩
 rw [<- hL] at i1
 have L0 : 0 <= L:=by omega
 have L1 : L <= 4294967295:=by omega
 have HL : Hid (L = t.n % 4294967296):=hL
 have HH : Hid (PW w B b v t):=h
 clear hL h
 by_cases hov : L + c < 4294967296
 ·have e1 : (L + c) % 4294967296 = L + c:=by omega
  have e2 : (L + c) / 4294967296 = 0:=by omega
  go_enter Tryz.func118,Tryz.ntmps118
  go_wp2_with (go_at_call 145; refine (pAdd32 _ L c L0 L1 c0 c1).mono ?_; rintro e w1 ⟨rfl,rfl⟩; rw [e1,e2])
  go_end0
  have hl:=HL.out
  have h:=HH.out
  refine ⟨rfl,⟨cell_off h.c0 (.inr (by decide)),?_,h.ne,?_,cell_off h.c2 (.inr (by decide)),fun o ho => by rw [World.frozen?_setCell]; exact h.fz o ho,h.ch.off (.inr (.inr (by decide))),by rw [World.size_setCell]; exact h.up⟩,(Frm.refl (wS b v) w1).setCell (.inl (show wS b v b from .inl rfl)) _⟩
  ·show Octs _ B v (Pack.digs t.m ((t.n + c) / 4294967296))
   rw [show (t.n + c) / 4294967296 = t.n / 4294967296 by omega]
   exact h.own.set b 402 _ h.ne
  ·show _ = some (Value.int .u32 ((t.n + c) % 4294967296))
   rw [show (t.n + c) % 4294967296 = L + c by omega]
   exact World.cell?_setCell_same _ _ _ h.c1
 ·have e1 : (L + c) % 4294967296 = L + c - 4294967296:=by omega
  have e2 : (L + c) / 4294967296 = 1:=by omega
  have hc0 : (w.setCell ⟨b,402,none⟩ (.int .u32 (L + c - 4294967296))).cell? ⟨b,401,none⟩ = some v:=cell_off HH.out.c0 (.inr (by decide))
  have ho : Octs (w.setCell ⟨b,402,none⟩ (.int .u32 (L + c - 4294967296))) B v (Pack.digs t.m (t.n / 4294967296)):=HH.out.own.set b 402 _ HH.out.ne
  have HC : Hid ((w.setCell ⟨b,402,none⟩ (.int .u32 (L + c - 4294967296))).cell? ⟨b,401,none⟩ = some v /\ Octs (w.setCell ⟨b,402,none⟩ (.int .u32 (L + c - 4294967296))) B v (Pack.digs t.m (t.n / 4294967296))):=⟨hc0,ho⟩
  clear hc0 ho
  go_enter Tryz.func118,Tryz.ntmps118
  go_wp2_with (first
   | (go_at_call 145; refine (pAdd32 _ L c L0 L1 c0 c1).mono ?_; rintro e w1 ⟨rfl,rfl⟩; rw [e1,e2])
   | (go_at_call 146; refine (pCarry _ B b t.m v _ hm HC.out.1 HC.out.2 HH.out.ne).mono ?_; rintro e w2 ⟨rfl,ho2,hf2⟩))
  go_end0
  have hl:=HL.out
  have h:=HH.out
  have hnb : ¬ ownS v b:=fun e => h.ne e
  have hbk : w2.heap[b]? = (w1.setCell ⟨b,402,none⟩ (.int .u32 (L + c - 4294967296))).heap[b]?:=hf2.block b (by rw [World.size_setCell]; exact h.up) hnb
  have hcc : ∀ o,w2.cell? ⟨b,o,none⟩ = (w1.setCell ⟨b,402,none⟩ (.int .u32 (L + c - 4294967296))).cell? ⟨b,o,none⟩:=fun o => World.cell?_of_block (a:=⟨b,o,none⟩) hbk
  refine ⟨rfl,⟨(hcc 401).trans (cell_off h.c0 (.inr (by decide))),?_,h.ne,?_,(hcc 0).trans (cell_off h.c2 (.inr (by decide))),fun o ho => by rw [World.frozen?_of_block (a:=⟨b,o,none⟩) hbk,World.frozen?_setCell]; exact h.fz o ho,(h.ch.off (.inr (.inr (by decide)))).on hbk,Nat.lt_of_lt_of_le h.up (by have:=hf2.size; rw [World.size_setCell] at this; exact this)⟩,((Frm.refl (wS b v) w1).setCell (.inl (show wS b v b from .inl rfl)) _).trans (hf2.mono (fun k _ e => .inr e))⟩
  ·show Octs _ B v (Pack.digs t.m ((t.n + c) / 4294967296))
   rw [show (t.n + c) / 4294967296 = t.n / 4294967296 + 1 by omega]
   exact ho2
  ·show _ = some (Value.int .u32 ((t.n + c) % 4294967296))
   rw [show (t.n + c) % 4294967296 = L + c - 4294967296 by omega,hcc 402]
   exact World.cell?_setCell_same _ _ _ h.c1
theorem crs_one : crsEven.all (·.oneCell') = true:=by
 unfold crsEven
 rw [Array.all_append,show chEven.all (·.oneCell') = true from evens_one 400]
 simp [Value.oneCell']
theorem crs_is : laidAt ((#[Value.int .u32 0] ++ Array.replicate 400 (Value.int .u32 0)).setIfInBounds 0 (Value.int .u32 4294967295)) 1 chEven = crsEven:=by
 have hcs : chEven.size = 400:=evens_size 400
 have hzs : ((#[Value.int .u32 0] ++ Array.replicate 400 (Value.int .u32 0)).setIfInBounds 0 (Value.int .u32 4294967295)).size = 401:=by
  rw [Array.size_setIfInBounds,Array.size_append,Array.size_replicate]; rfl
 apply Array.ext_getElem?
 intro j
 rw [laidAt_get,hcs,hzs]
 unfold crsEven
 by_cases h0 : j = 0
 ·subst h0
  rw [if_neg (by omega),Array.getElem?_setIfInBounds_self_of_lt (by rw [Array.size_append,Array.size_replicate]; decide),Array.getElem?_append_left (by simp)]
  rfl
 ·rw [Array.getElem?_append_right (by simp; omega)]
  by_cases h1 : j < 401
  ·rw [if_pos ⟨by omega,by omega,h1⟩]
   rfl
  ·rw [if_neg (by omega),Array.getElem?_eq_none (by rw [hzs]; omega),Array.getElem?_eq_none (by rw [hcs]; simp; omega)]
set_option maxHeartbeats 1000000 in
set_option maxRecDepth 20000 in
theorem pNewCourse (w : World) :
  Calls Tryz.prog 75 #[] w fun x w' => x = .returned (.agg crsEven) /\ Below w.heap.size w w':=by
 obtain ⟨hzero,hsize⟩:=zero_of_info crsInfo
 have hCI:=crs_is
 obtain ⟨Z,hZ⟩ : ∃ Z,Z = #[Value.int .u32 0] ++ Array.replicate 400 (.int .u32 0):=⟨_,rfl⟩
 rw [<- hZ] at hzero hCI
 have hZs : Z.size = 401:=by rw [hZ,Array.size_append,Array.size_replicate]; rfl
 have hZn : Z ≠ #[]:=fun e => by rw [e] at hZs; exact absurd hZs (by decide)
 obtain ⟨E,hE⟩ : ∃ E,E = chEven:=⟨_,rfl⟩
 obtain ⟨F,hF⟩ : ∃ F,F = crsEven:=⟨_,rfl⟩
 have hNC:=fun w => newChances w
 have hF1:=crs_one
 have hFs:=crsEven_size
 have hcs : E.size = 400:=by rw [hE]; exact evens_size 400
 rw [<- hE] at hNC hCI
 rw [<- hF] at hCI hF1 hFs ⊢
 have HCI : Hid (laidAt (Z.setIfInBounds 0 (.int .u32 4294967295)) 1 E = F):=hCI
 have HNC : Hid (∀ w,Calls Tryz.prog 84 #[] w fun e w' => e = .returned (.agg E) /\ Below w.heap.size w w'):=hNC
 have HF1 : Hid (F.all (·.oneCell') = true):=hF1
 have HSZ : Hid ((Tryz.prog.info? 147).map (·.size) = some 401):=hsize
 clear hZ hsize hE hF hNC hF1 hCI
 go_enter Tryz.func75,Tryz.ntmps75
 go_wp2_with (first
  | (go_at_call 84; refine (HNC.out _).mono ?_; rintro e w1 ⟨rfl,hb⟩)
  | (refine wpList_store_row rfl 147 _ _ rfl w.heap.size F rfl (by rw [<- HCI.out]; unfold laidAt; rw [hcs]; rfl) 147 Z ((hb.block _ (by simp)).trans (heap_alloc_last w _)) (by rw [HSZ.out,hFs]) (by rw [hZs,hFs]) HF1.out ?_))
 have hgr : (w1.setRow w.heap.size F).heap[w.heap.size]? = some (.cells F 147 (0,0)):=setRow_heap w1 _ Z F _ _ ((hb.block _ (by simp)).trans (heap_alloc_last w _))
 have hld:=run_loadVar_row (P:=Tryz.prog) (w1.setRow w.heap.size F) w.heap.size 147 147 F (0,0) _ hgr Tryz.underlying147 rfl (by rw [HSZ.out,hFs])
 refine bodyPost_ret (v:=.agg F) ?_ rfl ⟨rfl,below_setRow (((Below.refl _ w).alloc (Nat.le_refl _) _).trans (hb.mono (by simp))) (Nat.le_refl _) _⟩
 simp [results,Tryz.results75,Act.put,asAddr,hld]
set_option maxHeartbeats 1000000 in
set_option maxRecDepth 20000 in
theorem pNewWriter (w : World) :
  Calls Tryz.prog 81 #[] w fun x w' => ∃ b,x = .returned (.pointer (some ⟨b,0,none⟩)) /\ w.heap.size <= b /\ PW w' w.heap.size b (.slice none 0 0) Pack.init /\ Below w.heap.size w w':=by
 obtain ⟨hzero,hsize⟩:=zero_of_info lwInfo
 obtain ⟨Z,hZ⟩ : ∃ Z,Z = (#[Value.int .u32 0] ++ Array.replicate 400 (.int .u32 0)) ++ #[Value.slice none 0 0,.int .u32 0]:=⟨_,rfl⟩
 rw [<- hZ] at hzero
 have hY : (#[Value.int .u32 0] ++ Array.replicate 400 (Value.int .u32 0)).size = 401:=by rw [Array.size_append,Array.size_replicate]; rfl
 have hZs : Z.size = 403:=by rw [hZ,Array.size_append,hY]; rfl
 have hZ0 : Z[401]? = some (.slice none 0 0):=by rw [hZ,Array.getElem?_append_right (by rw [hY]; exact Nat.le_refl _),hY]; rfl
 have hZ1 : Z[402]? = some (.int .u32 0):=by rw [hZ,Array.getElem?_append_right (by rw [hY]; decide),hY]; rfl
 have hZn : Z ≠ #[]:=fun e => by rw [e] at hZs; exact absurd hZs (by decide)
 obtain ⟨E,hE⟩ : ∃ E,E = crsEven:=⟨_,rfl⟩
 have hNC:=fun w => pNewCourse w
 rw [<- hE] at hNC
 have hcs : E.size = 401:=by rw [hE]; exact crsEven_size
 have HE : Hid (E = crsEven):=hE
 clear hZ hsize hY hE
 go_enter Tryz.func81,Tryz.ntmps81
 go_wp2_with (go_at_call 75; refine (hNC _).mono ?_; rintro e w1 ⟨rfl,hb⟩)
 obtain ⟨C,hC⟩ : ∃ C,C = Array.foldl (fun cs x => cs.setIfInBounds x.snd x.fst) Z E.zipIdx 0 401:=⟨_,rfl⟩
 rw [<- hC]
 have hC' : C = laidAt Z 0 crsEven:=by
  rw [hC,<- HE.out]; unfold laidAt; rw [hcs]; simp only [Nat.zero_add]
 have HR : PW (w1.alloc (.cells C 211)) w.heap.size w1.heap.size (.slice none 0 0) Pack.init:=by
  rw [hC']
  refine ⟨?_,World.ownsRow_nil _ _ _ _,by simp [Value.ownBlock],?_,crs_laid0 w1 _ _ hZs,fun o _ => by simp,crs_laid w1 _ _ hZs,by simp⟩
  ·rw [crs_laid2 w1 _ _ 401 (by decide),hZ0]
  ·rw [crs_laid2 w1 _ _ 402 (by decide),hZ1]; rfl
 go_ret
 exact ⟨_,rfl,hb.size,HR,hb.alloc hb.size _⟩
end Go.Proofs.YtekfbphnoibnjaaGreatDoor
namespace Go.Proofs.YtekfbphnoibnjaaGreatDoor
open Go.RowKit
theorem below_drew {B : Nat} {a w : World} (h : Below B a w) : Below B a w.drew:=h.trans ⟨rfl,rfl,rfl,Nat.le_refl _,fun _ _ => rfl⟩
def Pack.rise (t : WS) (k : Nat) (x : Int) : Int:=if x = 0 then 0 else Pack.cut t k
def Pack.shifts (t : WS) (k : Nat) (x : Int) : Int:=if (Pack.half t k x).rng < 16777216 then 1 else 0
structure Part (b : Nat) (w w' : World) : Prop where
 frm : Frm (fun k => k = b) w w'
 cell : ∀ j,401 <= j -> w'.cell? ⟨b,j,none⟩ = w.cell? ⟨b,j,none⟩
 fz : ∀ j,w'.frozen? ⟨b,j,none⟩ = w.frozen? ⟨b,j,none⟩
theorem Part.refl (b : Nat) (w : World) : Part b w w:=⟨Frm.refl _ _,fun _ _ => rfl,fun _ => rfl⟩
theorem Part.set {b : Nat} {a w : World} (h : Part b a w) {o : Nat} (ho : o < 401) (u : Value) : Part b a (w.setCell ⟨b,o,none⟩ u) :=
 ⟨h.frm.setCell (.inl rfl) u,fun j hj => by
  rw [World.cell?_setCell_other]
  ·exact h.cell j hj
  ·intro e
   simp only [Addr.mk.injEq,and_true,true_and] at e
   omega,fun j => by rw [World.frozen?_setCell]; exact h.fz j⟩
theorem Part.drew {b : Nat} {a w : World} (h : Part b a w) : Part b a w.drew:=⟨h.frm.drew,h.cell,h.fz⟩
theorem Part.drewN {b : Nat} {a w : World} (h : Part b a w) (n : Nat) : Part b a (w.drewN n):=⟨h.frm.drewN n,h.cell,h.fz⟩
structure Crs (w : World) (b : Nat) (rng : Int) (ch : List Int) : Prop where
 c2 : w.cell? ⟨b,0,none⟩ = some (.int .u32 rng)
 f2 : w.frozen? ⟨b,0,none⟩ = false
 ch : ChAt w b 1 ch
theorem Crs.drewN {w : World} {b : Nat} {r : Int} {ch : List Int} (h : Crs w b r ch) (n : Nat) : Crs (w.drewN n) b r ch:=⟨h.c2,h.f2,h.ch.on rfl⟩
theorem Crs.drew {w : World} {b : Nat} {r : Int} {ch : List Int} (h : Crs w b r ch) : Crs w.drew b r ch:=⟨h.c2,h.f2,h.ch.on rfl⟩
theorem Crs.put2 {w : World} {b : Nat} {r : Int} {ch : List Int} (h : Crs w b r ch) (q : Int) : Crs (w.setCell ⟨b,0,none⟩ (.int .u32 q)) b q ch :=
 ⟨World.cell?_setCell_same _ _ _ h.c2,by rw [World.frozen?_setCell]; exact h.f2,h.ch.off (.inr (.inl (by decide)))⟩
theorem Crs.putC {w : World} {b : Nat} {r : Int} {ch : List Int} (h : Crs w b r ch) (k : Nat) (c : Int) : Crs (w.setCell ⟨b,1 + k,none⟩ (.int .u32 c)) b r (ch.set k c) :=
 ⟨cell_off h.c2 (.inr (by omega)),by rw [World.frozen?_setCell]; exact h.f2,h.ch.set k c⟩
def wspanOf (w : World) (b : Nat) : Nat:=(intOf ((w.cell? ⟨b,0,none⟩).getD undef)).toNat
theorem wspanOf_eq {w : World} {b : Nat} {r : Int} {ch : List Int} (h : Crs w b r ch) : wspanOf w b = r.toNat:=by
 unfold wspanOf; rw [h.c2]; rfl
set_option maxHeartbeats 2000000 in
set_option maxRecDepth 20000 in
theorem pTake_zero (w : World) (b : Nat) (t : WS) (k : Nat) (C c : Int) (h : Crs w b t.rng t.ch) (ok : Pack.Ok t) (hk : k < 400) (hC : Pack.cut t k = C) (hc : t.ch.getD k 0 = c) :
  Calls Tryz.prog 117 #[.pointer (some ⟨b,0,none⟩),.int .i64 k,.int .i64 0] w fun x w' => x = .returned (.tuple #[.int .u32 0,.int .i64 (Pack.shifts t k 0)]) /\ Crs w' b (Pack.put t k 0).rng (Pack.put t k 0).ch /\ Part b w w':=by
 have hcb:=Pack.cut_bd ok hk
 rw [hC] at hcb
 have hcd:=ok.ch.2 k hk
 rw [hc] at hcd
 obtain ⟨c0,c1⟩:=hcd
 have r0:=ok.r0
 have r1:=ok.r1
 obtain ⟨q,hq⟩ : ∃ q : WS,q = Pack.zero t k:=⟨_,rfl⟩
 have HH : Hid (q.rng = C /\ q.ch = t.ch.set k (c + (4096 - c) / 32)):=by rw [hq]; unfold Pack.zero; rw [hC,hc]; exact ⟨rfl,rfl⟩
 have HPT : Hid (Pack.put t k 0 = Pack.norm q /\ Pack.shifts t k 0 = if q.rng < 16777216 then 1 else 0):=by rw [hq]; exact ⟨rfl,rfl⟩
 have q0 : 126976 <= q.rng:=by rw [HH.out.1]; omega
 have q1 : q.rng <= 4294967295:=by rw [HH.out.1]; omega
 have hck:=h.ch.cell k hk
 have hrc : t.rng / 4096 * c = C:=by rw [<- hC,<- hc]; rfl
 rw [hc] at hck
 have hfk:=h.ch.fz k hk
 have hckn : ∀ n : Nat,(w.drewN n).cell? ⟨b,1 + k,none⟩ = some (.int .u32 c):=fun n => hck
 have hfkn : ∀ n : Nat,(w.drewN n).frozen? ⟨b,1 + k,none⟩ = false:=fun n => hfk
 have i2:=h.c2
 have f2:=h.f2
 have HP : Hid (Crs w b t.rng t.ch):=h
 have hk' : (k : Int) < 400:=by omega
 clear hq h hC hc ok
 go_enter Tryz.func117,Tryz.ntmps117
 go_wp2
 go_quiet ((go_at_call 143; exact Calls.quiet_of_same (chCut _ b 1 k t.rng c hk (by simpa using hck) (by omega) (by omega) (by omega) (by omega))))
 rw [hrc]
 go_wp2_with (go_at_call 144; refine (chLearn0 _ b 1 k c hk (by exact cell_off (hckn _) (.inr (by omega))) (by simp only [World.frozen?_setCell]; exact hfkn _) c0 c1).mono ?_; rintro e w1 ⟨rfl,rfl⟩)
 have HQn : Crs (((w.drewN nq).setCell ⟨b,0,none⟩ (.int .u32 C)).setCell ⟨b,1 + k,none⟩ (.int .u32 (c + (4096 - c) / 32))).drew b q.rng q.ch:=by rw [HH.out.1,HH.out.2]; exact (((HP.out.drewN nq).put2 C).putC k _).drew
 have HFn : Part b w (((w.drewN nq).setCell ⟨b,0,none⟩ (.int .u32 C)).setCell ⟨b,1 + k,none⟩ (.int .u32 (c + (4096 - c) / 32))).drew:=(((((Part.refl b w).drewN nq).set (by decide) _).set (by omega) _)).drew
 clear hckn hfkn hck hfk i2 f2
 go_loopw [7] (fun sv wr => ((Crs wr b q.rng q.ch /\ sv = .int .i64 0) \/ (q.rng < 16777216 /\ sv = .int .i64 1 /\ Crs wr b (256 * q.rng) q.ch)) /\ Part b w wr) (fun _ wr => 16777216 - wspanOf wr b)
 case atStart => exact ⟨.inl ⟨HQn,rfl⟩,HFn⟩
 case round =>
  clear HQn HFn
  obtain ⟨hor,hbr⟩:=hrel
  rcases hor with ⟨hp,rfl⟩ | ⟨hlow,rfl,hp⟩
  ·have i2:=hp.c2
   have f2:=hp.f2
   by_cases hlow : q.rng < 16777216
   ·have hw : IntKind.u32.wrap (q.rng * 256) = 256 * q.rng:=by rw [wrap_u32 (by omega) (by omega),Int.mul_comm]
    go_wp2
    go_roundw
    case rel => exact ⟨.inr ⟨hlow,rfl,by rw [Int.mul_comm 256 q.rng]; exact hp.put2 _⟩,hbr.set (by decide) _⟩
    case measure => rw [wspanOf_eq hp,wspanOf_eq (hp.put2 _)]; omega
   ·go_wp2
    go_ret2
    refine ⟨?_,?_,hbr⟩
    ·rw [HPT.out.2,if_neg (by omega)]; rfl
    ·rw [HPT.out.1]; unfold Pack.norm; rw [if_neg (by omega)]; exact hp
  ·have i2:=hp.c2
   have hr : ¬ 256 * q.rng < 16777216:=by omega
   go_wp2
   go_ret2
   refine ⟨?_,?_,hbr⟩
   ·rw [HPT.out.2,if_pos hlow]; rfl
   ·rw [HPT.out.1]; unfold Pack.norm; rw [if_pos hlow]; exact hp
set_option maxHeartbeats 2000000 in
set_option maxRecDepth 20000 in
theorem pTake_one (w : World) (b : Nat) (t : WS) (k : Nat) (C c : Int) (h : Crs w b t.rng t.ch) (ok : Pack.Ok t) (hk : k < 400) (hC : Pack.cut t k = C) (hc : t.ch.getD k 0 = c) :
  Calls Tryz.prog 117 #[.pointer (some ⟨b,0,none⟩),.int .i64 k,.int .i64 1] w fun x w' => x = .returned (.tuple #[.int .u32 C,.int .i64 (Pack.shifts t k 1)]) /\ Crs w' b (Pack.put t k 1).rng (Pack.put t k 1).ch /\ Part b w w':=by
 have hcb:=Pack.cut_bd ok hk
 rw [hC] at hcb
 have hcd:=ok.ch.2 k hk
 rw [hc] at hcd
 obtain ⟨c0,c1⟩:=hcd
 have r0:=ok.r0
 have r1:=ok.r1
 obtain ⟨q,hq⟩ : ∃ q : WS,q = Pack.one t k:=⟨_,rfl⟩
 have HH : Hid (q.rng = t.rng - C /\ q.ch = t.ch.set k (c - c / 32)):=by rw [hq]; unfold Pack.one; rw [hC,hc]; exact ⟨rfl,rfl⟩
 have HPT : Hid (Pack.put t k 1 = Pack.norm q /\ Pack.shifts t k 1 = if q.rng < 16777216 then 1 else 0):=by rw [hq]; exact ⟨rfl,rfl⟩
 have q0 : 126976 <= q.rng:=by rw [HH.out.1]; omega
 have q1 : q.rng <= 4294967295:=by rw [HH.out.1]; omega
 have hck:=h.ch.cell k hk
 have hrc : t.rng / 4096 * c = C:=by rw [<- hC,<- hc]; rfl
 rw [hc] at hck
 have hfk:=h.ch.fz k hk
 have hckn : ∀ n : Nat,(w.drewN n).cell? ⟨b,1 + k,none⟩ = some (.int .u32 c):=fun n => hck
 have hfkn : ∀ n : Nat,(w.drewN n).frozen? ⟨b,1 + k,none⟩ = false:=fun n => hfk
 have i2:=h.c2
 have f2:=h.f2
 have HP : Hid (Crs w b t.rng t.ch):=h
 have hk' : (k : Int) < 400:=by omega
 clear hq h hC hc ok
 go_enter Tryz.func117,Tryz.ntmps117
 go_wp2
 go_quiet ((go_at_call 143; exact Calls.quiet_of_same (chCut _ b 1 k t.rng c hk (by simpa using hck) (by omega) (by omega) (by omega) (by omega))))
 rw [hrc]
 go_wp2_with (go_at_call 144; refine (chLearn1 _ b 1 k c hk (by exact cell_off (hckn _) (.inr (by omega))) (by simp only [World.frozen?_setCell]; exact hfkn _) c0 c1).mono ?_; rintro e w1 ⟨rfl,rfl⟩)
 have HQn : Crs (((w.drewN nq).setCell ⟨b,0,none⟩ (.int .u32 (t.rng - C))).setCell ⟨b,1 + k,none⟩ (.int .u32 (c - c / 32))).drew b q.rng q.ch:=by rw [HH.out.1,HH.out.2]; exact (((HP.out.drewN nq).put2 (t.rng - C)).putC k _).drew
 have HFn : Part b w (((w.drewN nq).setCell ⟨b,0,none⟩ (.int .u32 (t.rng - C))).setCell ⟨b,1 + k,none⟩ (.int .u32 (c - c / 32))).drew:=(((((Part.refl b w).drewN nq).set (by decide) _).set (by omega) _)).drew
 clear hckn hfkn hck hfk i2 f2
 go_loopw [7] (fun sv wr => ((Crs wr b q.rng q.ch /\ sv = .int .i64 0) \/ (q.rng < 16777216 /\ sv = .int .i64 1 /\ Crs wr b (256 * q.rng) q.ch)) /\ Part b w wr) (fun _ wr => 16777216 - wspanOf wr b)
 case atStart => exact ⟨.inl ⟨HQn,rfl⟩,HFn⟩
 case round =>
  clear HQn HFn
  obtain ⟨hor,hbr⟩:=hrel
  rcases hor with ⟨hp,rfl⟩ | ⟨hlow,rfl,hp⟩
  ·have i2:=hp.c2
   have f2:=hp.f2
   by_cases hlow : q.rng < 16777216
   ·have hw : IntKind.u32.wrap (q.rng * 256) = 256 * q.rng:=by rw [wrap_u32 (by omega) (by omega),Int.mul_comm]
    go_wp2
    go_roundw
    case rel => exact ⟨.inr ⟨hlow,rfl,by rw [Int.mul_comm 256 q.rng]; exact hp.put2 _⟩,hbr.set (by decide) _⟩
    case measure => rw [wspanOf_eq hp,wspanOf_eq (hp.put2 _)]; omega
   ·go_wp2
    go_ret2
    refine ⟨?_,?_,hbr⟩
    ·rw [HPT.out.2,if_neg (by omega)]; rfl
    ·rw [HPT.out.1]; unfold Pack.norm; rw [if_neg (by omega)]; exact hp
  ·have i2:=hp.c2
   have hr : ¬ 256 * q.rng < 16777216:=by omega
   go_wp2
   go_ret2
   refine ⟨?_,?_,hbr⟩
   ·rw [HPT.out.2,if_pos hlow]; rfl
   ·rw [HPT.out.1]; unfold Pack.norm; rw [if_pos hlow]; exact hp
theorem pTake (w : World) (b : Nat) (t : WS) (k : Nat) (x : Int) (h : Crs w b t.rng t.ch) (ok : Pack.Ok t) (hk : k < 400) (hx : x = 0 \/ x = 1) :
  Calls Tryz.prog 117 #[.pointer (some ⟨b,0,none⟩),.int .i64 k,.int .i64 x] w fun e w' => e = .returned (.tuple #[.int .u32 (Pack.rise t k x),.int .i64 (Pack.shifts t k x)]) /\ Crs w' b (Pack.put t k x).rng (Pack.put t k x).ch /\ Part b w w':=by
 rcases hx with rfl | rfl
 ·exact pTake_zero w b t k _ _ h ok hk rfl rfl
 ·exact pTake_one w b t k _ _ h ok hk rfl rfl
end Go.Proofs.YtekfbphnoibnjaaGreatDoor
namespace Go.Proofs.YtekfbphnoibnjaaGreatDoor
open Go.RowKit
def vLo (B : Nat) (v : Value) : Prop:=∀ k,v.ownBlock = some k -> B <= k
theorem PW.crs {w : World} {B b : Nat} {v : Value} {t : WS} (h : PW w B b v t) : Crs w b t.rng t.ch:=⟨h.c2,h.fz 0 (by decide),h.ch⟩
theorem PW.part {w w' : World} {B b : Nat} {v : Value} {t : WS} (h : PW w B b v t) {r : Int} {ch : List Int} (hc : Crs w' b r ch) (hp : Part b w w') : PW w' B b v { t with rng:=r,ch:=ch } :=
 ⟨(hp.cell 401 (by decide)).trans h.c0,by have:=h.own; unfold Octs at this ⊢; exact hp.frm.owns this (fun k hk e => h.ne (by rw [hk,e])),h.ne,(hp.cell 402 (by decide)).trans h.c1,hc.c2,fun o ho => (hp.fz o).trans (h.fz o ho),hc.ch,Nat.lt_of_lt_of_le h.up hp.frm.size⟩
theorem put_done {wr w5 : World} {B b gg cap : Nat} {v : Value} {q : WS} {L : Int} (h : PW wr B b v q) (ho : w5.ownsRow B 5 1 (.slice (some ⟨gg,0,none⟩) (q.m + 1) cap) (q.m + 1) (octs (Pack.digs q.m (q.n / 4294967296)) ++ [.int .u8 (L / 16777216 % 256)]))
  (hb : w5.heap[b]? = wr.heap[b]?) (hz : wr.heap.size <= w5.heap.size) (hat : v.ownBlock = some gg \/ gg = wr.heap.size + 1) (hL : L = q.n % 4294967296) (hbup : b < wr.heap.size) :
  PW ((w5.setCell ⟨b,401,none⟩ (.slice (some ⟨gg,0,none⟩) (q.m + 1) cap)).setCell ⟨b,402,none⟩ (.int .u32 (L * 256 % 4294967296))) B b (.slice (some ⟨gg,0,none⟩) (q.m + 1) cap) { q with n:=256 * q.n,m:=q.m + 1 }:=by
 have hg : gg ≠ b:=by
  rcases hat with h' | h'
  ·exact fun e => h.ne (by rw [h',e])
  ·omega
 rw [show L * 256 % 4294967296 = 256 * q.n % 4294967296 by omega]
 have hne : (Value.slice (some ⟨gg,0,none⟩) (q.m + 1) cap).ownBlock ≠ some b:=by simp [Value.ownBlock]; exact hg
 have hc : ∀ o,w5.cell? ⟨b,o,none⟩ = wr.cell? ⟨b,o,none⟩:=fun o => World.cell?_of_block (a:=⟨b,o,none⟩) hb
 have ho' : Octs w5 B (.slice (some ⟨gg,0,none⟩) (q.m + 1) cap) (Pack.digs (q.m + 1) (256 * q.n / 4294967296)):=by
  unfold Octs
  rw [Pack.digs_length,Pack.digs,<- octs_snoc]
  rw [show 256 * q.n / 4294967296 / 256 = q.n / 4294967296 by omega,show 256 * q.n / 4294967296 % 256 = L / 16777216 % 256 by omega]
  exact ho
 refine ⟨cell_off (World.cell?_setCell_same _ _ _ ((hc 401).trans h.c0)) (.inr (by decide)),(ho'.set b 401 _ hne).set b 402 _ hne,hne,?_,?_,fun o hlt => ?_,?_,?_⟩
 ·exact World.cell?_setCell_same _ _ _ (cell_off ((hc 402).trans h.c1) (.inr (by decide)))
 ·exact cell_off (cell_off ((hc 0).trans h.c2) (.inr (by decide))) (.inr (by decide))
 ·simp only [World.frozen?_setCell]
  exact (World.frozen?_of_block (a:=⟨b,o,none⟩) hb).trans (h.fz o hlt)
 ·exact ((h.ch.on hb).off (.inr (.inr (by decide)))).off (.inr (.inr (by decide)))
 ·simp only [World.size_setCell]; exact Nat.lt_of_lt_of_le h.up hz
theorem put_parts (t : WS) (k : Nat) (x : Int) (hx : x = 0 \/ x = 1) : Pack.put t k x = if Pack.shifts t k x = 1 then { t with n:=256 * (t.n + Pack.rise t k x),m:=t.m + 1,rng:=(Pack.put t k x).rng,ch:=(Pack.put t k x).ch } else { t with n:=t.n + Pack.rise t k x,rng:=(Pack.put t k x).rng,ch:=(Pack.put t k x).ch }:=by
 have hn : (Pack.half t k x).n = t.n + Pack.rise t k x:=by
  unfold Pack.half Pack.rise
  rcases hx with rfl | rfl
  ·simp [Pack.zero]
  ·simp [Pack.one]
 have hm:=Pack.half_m t k x
 rw [Pack.put_eq]
 unfold Pack.norm Pack.shifts
 by_cases h : (Pack.half t k x).rng < 16777216
 ·rw [if_pos h,if_pos h,if_pos rfl]
  unfold Pack.pull
  rw [hn,hm]
 ·rw [if_neg h,if_neg h,if_neg (by decide),<- hn,<- hm]
theorem shifts_or (t : WS) (k : Nat) (x : Int) : Pack.shifts t k x = 0 \/ Pack.shifts t k x = 1:=by unfold Pack.shifts; split <;> simp
set_option maxHeartbeats 2000000 in
set_option maxRecDepth 20000 in
theorem pPut (w : World) (B b : Nat) (v : Value) (t : WS) (k : Nat) (x : Int) (h : PW w B b v t) (ok : Pack.Ok t) (hm : t.m <= 200000) (hk : k < 400) (hx : x = 0 \/ x = 1) (hbB : B <= b) (hBw : B <= w.heap.size) (hvB : vLo B v) :
  Calls Tryz.prog 82 #[.pointer (some ⟨b,0,none⟩),.int .i64 k,.int .i64 x] w fun e w' => e = .returned (.tuple #[]) /\ ∃ v',PW w' B b v' (Pack.put t k x) /\ vLo B v' /\ Below B w w':=by
 obtain ⟨Rs,hRs⟩ : ∃ Rs,Rs = Pack.rise t k x:=⟨_,rfl⟩
 obtain ⟨Sh,hSh⟩ : ∃ Sh,Sh = Pack.shifts t k x:=⟨_,rfl⟩
 obtain ⟨P,hP⟩ : ∃ P,P = Pack.put t k x:=⟨_,rfl⟩
 have HT:=pTake w b t k x h.crs ok hk hx
 have HPP : Hid (P = if Sh = 1 then { t with n:=256 * (t.n + Rs),m:=t.m + 1,rng:=P.rng,ch:=P.ch } else { t with n:=t.n + Rs,rng:=P.rng,ch:=P.ch }):=by
  unfold Hid; rw [hP,hSh,hRs]; exact put_parts t k x hx
 have hcb:=Pack.cut_bd ok hk
 have r1:=ok.r1
 have n0:=ok.n0
 have Rb : 0 <= Rs /\ Rs <= 4294967295:=by rw [hRs]; unfold Pack.rise; split <;> omega
 have Sb:=shifts_or t k x
 rw [<- hSh] at Sb
 rw [<- hRs,<- hSh,<- hP] at HT
 rw [<- hP]
 have HTT : Hid (Calls Tryz.prog 117 #[.pointer (some ⟨b,0,none⟩),.int .i64 k,.int .i64 x] w fun e w' => e = .returned (.tuple #[.int .u32 Rs,.int .i64 Sh]) /\ Crs w' b P.rng P.ch /\ Part b w w'):=HT
 have HH : Hid (PW w B b v t):=h
 have hup:=h.up
 clear HT hRs hSh hP hcb ok h
 go_enter Tryz.func82,Tryz.ntmps82
 go_wp2_with (first
  | (go_at_call 117; refine HTT.out.mono ?_; rintro e w1 ⟨rfl,hc1,hp1⟩)
  | (go_at_call 118; refine (pRaise _ B b v { t with rng:=P.rng,ch:=P.ch } Rs (by show t.m <= 1000000; omega) (HH.out.part hc1 hp1) Rb.1 Rb.2).mono ?_; rintro e w2 ⟨rfl,hp2,hf2⟩))
 obtain ⟨q,hq⟩ : ∃ q : WS,q = { t with n:=t.n + Rs,rng:=P.rng,ch:=P.ch }:=⟨_,rfl⟩
 have hq0 : 0 <= q.n:=by rw [hq]; show 0 <= t.n + Rs; omega
 have hqm : q.m <= 200000:=by rw [hq]; exact hm
 have HQ : Hid (P = if Sh = 1 then { q with n:=256 * q.n,m:=q.m + 1 } else q):=by rw [hq]; exact HPP.out
 have hb2 : Below B w w2:=(hp1.frm.below hBw (fun j e => by rw [e]; exact hbB)).trans (hf2.below (Nat.le_trans hBw hp1.frm.size) (fun j hj => by rcases hj with rfl | hj; exact hbB; exact hvB j hj))
 have hpq : PW w2 B b v q:=by rw [hq]; exact hp2
 have HPQ : Hid (PW w2 B b v q /\ Below B w w2):=⟨hpq,hb2⟩
 clear hc1 hp1 hp2 hf2 hb2 hpq hq HPP
 go_loopw [21] (fun iv wr => (iv = .int .i64 0 /\ wr = w2) \/ (iv = .int .i64 1 /\ Sh = 1 /\ (∃ v',PW wr B b v' { q with n:=256 * q.n,m:=q.m + 1 } /\ vLo B v') /\ Below B w wr)) (fun iv _ => 1 - (intOf iv).toNat)
 case atStart => exact .inl ⟨rfl,rfl⟩
 case round =>
  rcases hrel with ⟨rfl,rfl⟩ | ⟨rfl,hS1,⟨v',hp,hvl⟩,hbr⟩
  ·rcases Sb with hS | hS
   ·subst hS
    go_wp2
    go_end0
    refine ⟨rfl,v,?_,hvB,HPQ.out.2⟩
    rw [HQ.out,if_neg (by decide)]
    exact HPQ.out.1
   ·subst hS
    have hp:=HPQ.out.1
    have hbr:=HPQ.out.2
    have i0:=hp.c0
    have i1:=hp.c1
    have f0:=hp.fz 401 (by decide)
    have f1:=hp.fz 402 (by decide)
    obtain ⟨k0,hi',hy0,hy1,hy2⟩:=info_parts infoU8
    have hpo:=hp.own
    unfold Octs at hpo
    rw [Pack.digs_length] at hpo
    obtain ⟨L,hL⟩ : ∃ L,L = q.n % 4294967296:=⟨_,rfl⟩
    rw [<- hL] at i1
    have L0 : 0 <= L:=by omega
    have L1 : L <= 4294967295:=by omega
    have HL : Hid (L = q.n % 4294967296):=hL
    clear hL
    have hbup:=hp.up
    have hne:=hp.ne
    have hBr : B <= wr.heap.size:=by have:=hbr.size; omega
    have HBR : Hid (Below B w wr):=hbr
    clear hp hbr
    go_wp2
    go_region_law ((refine step_append_lies _ (by rfl) _ _ _ (by rfl) B 5 k0 _ 1 1 Tryz.underlying101 hi' hy0 hy1 hy2 rfl (by omega) v q.m (octs (Pack.digs q.m (q.n / 4294967296))) (by rfl) ((hpo.alloc _).drew) ⟨wr.heap.size,0,none⟩ 1 1 [.int .u8 (L / 16777216 % 256)] (by rfl) (by rfl) (World.news_of_block (cs:=#[.int .u8 (L / 16777216 % 256)]) (t:=5) (fr:=(0,0)) (heap_alloc_new wr _)) (by simp [Value.oneCell']) (by omega) (by unfold maxLen; omega) (by omega) (by simp; omega) (wr.heap.size + 1) (by simp) ?_; intro gg cap w5 hown5 hgrow hat hlt5; have sf5 : w5.frozen? ⟨b,401,none⟩ = false:=((hgrow.frozen_far ⟨b,401,none⟩ (by simp; omega) (Ne.symm hne)).trans (frozen_alloc_drew hbup)).trans f0; have sc5 : w5.cell? ⟨b,401,none⟩ = some v:=((hgrow.cell_far ⟨b,401,none⟩ (by simp; omega) (Ne.symm hne)).trans (cell_alloc_drew hbup)).trans i0))
    all_goals
     have hsz5:=hgrow.size
     have hblk : w5.heap[b]? = wr.heap[b]?:=(hgrow.block b (by simp; omega) (Ne.symm hne)).trans (Below.heap_alloc wr _ b hbup)
     have sc1 : w5.cell? ⟨b,402,none⟩ = some (.int .u32 L):=(World.cell?_of_block (a:=⟨b,402,none⟩) hblk).trans i1
     have sf1 : w5.frozen? ⟨b,402,none⟩ = false:=(World.frozen?_of_block (a:=⟨b,402,none⟩) hblk).trans f1
     have HGH : Hid ((wr.alloc (Obj.cells #[Value.int IntKind.u8 (IntKind.u8.wrap (L / 16777216))] 5)).drew.grownBy w5 v.ownBlock):=hgrow
     clear hgrow
     go_wp2
     go_roundw
     case rel =>
      refine .inr ⟨rfl,trivial,⟨_,put_done HPQ.out.1 hown5 hblk (by simp at hsz5; omega) hat HL.out hbup,fun j hj => by injection hj with hj; exact hj ▸ (World.ownsRow.lt hown5 gg rfl).1⟩,?_⟩
      exact (((HBR.out.alloc hBr _).trans (below_drew (Below.refl B _))).grown HGH.out (by simp; omega) (fun j e => hvB j e)).setCell hbB _ |>.setCell hbB _
     case measure => simp [intOf]
  ·subst hS1
   go_wp2
   go_end0
   refine ⟨rfl,v',?_,hvl,hbr⟩
   rw [HQ.out,if_pos trivial]
   exact hp
end Go.Proofs.YtekfbphnoibnjaaGreatDoor
namespace Go.Proofs.YtekfbphnoibnjaaGreatDoor
open Go.RowKit
def stepCells (l : List (Nat × Int)) : List Value:=l.flatMap fun p => [.int .u16 p.1,.int .u8 p.2]
theorem stepCells_len (l : List (Nat × Int)) : (stepCells l).length = l.length * 2:=by
 induction l with
 | nil => rfl
 | cons b bs ih => simp [stepCells] at ih ⊢; omega
theorem stepCells_app (l r : List (Nat × Int)) : stepCells (l ++ r) = stepCells l ++ stepCells r:=by simp [stepCells]
theorem stepCells_get (l : List (Nat × Int)) (i : Nat) (h : i < l.length) : (stepCells l)[i * 2]? = some (.int .u16 (l.getD i (0,0)).1) /\ (stepCells l)[i * 2 + 1]? = some (.int .u8 (l.getD i (0,0)).2):=by
 induction l generalizing i with
 | nil => simp at h
 | cons b bs ih =>
  have e : stepCells (b :: bs) = .int .u16 b.1 :: .int .u8 b.2 :: stepCells bs:=by simp [stepCells]
  rw [e]
  cases i with
  | zero => simp
  | succ i =>
   have:=ih i (by simpa using h)
   rw [show (i + 1) * 2 = i * 2 + 1 + 1 by omega]
   simpa using this
theorem oneCell_steps (l : List (Nat × Int)) : ∀ u ∈ stepCells l,u.oneCell' = true:=by
 intro u hu
 unfold stepCells at hu
 obtain ⟨b,_,hb⟩:=List.mem_flatMap.1 hu
 simp at hb
 rcases hb with rfl | rfl <;> rfl
theorem infoStep : (Tryz.prog.info? 159).map (fun i => (i.zero,i.size,i.bytes)) = some (some (.agg #[.int .u16 0,.int .u8 0]),2,4):=by kernel_rfl
theorem drInfo : (Tryz.prog.info? 151).map (fun i => (i.zero,i.size)) = some (some (.agg ((#[.int .u32 0] ++ Array.replicate 400 (.int .u32 0)) ++ #[.int .i64 0,.slice none 0 0])),403):=by kernel_rfl
structure DrAt (w : World) (b : Nat) (v : Value) (t : WS) (l : List (Nat × Int)) : Prop where
 crs : Crs w b t.rng t.ch
 sh : w.cell? ⟨b,401,none⟩ = some (.int .i64 t.m)
 bits : w.cell? ⟨b,402,none⟩ = some v
 own : w.ownsRow 0 159 2 v l.length (stepCells l)
 ne : v.ownBlock ≠ some b
 fz : ∀ o,o < 403 -> w.frozen? ⟨b,o,none⟩ = false
 up : b < w.heap.size
theorem Crs.on {w w' : World} {b : Nat} {r : Int} {ch : List Int} (h : Crs w b r ch) (hb : w'.heap[b]? = w.heap[b]?) : Crs w' b r ch :=
 ⟨(World.cell?_of_block (a:=⟨b,0,none⟩) hb).trans h.c2,(World.frozen?_of_block (a:=⟨b,0,none⟩) hb).trans h.f2,h.ch.on hb⟩
theorem DrAt.frm {S : Nat -> Prop} {w w' : World} {b : Nat} {v : Value} {t : WS} {l : List (Nat × Int)} (h : DrAt w b v t l) (f : Frm S w w') (hb : ¬ S b) (hv : ∀ k,v.ownBlock = some k -> ¬ S k) : DrAt w' b v t l:=by
 have e:=f.block b h.up hb
 refine ⟨h.crs.on e,(World.cell?_of_block (a:=⟨b,401,none⟩) e).trans h.sh,(World.cell?_of_block (a:=⟨b,402,none⟩) e).trans h.bits,?_,h.ne,fun o ho => (World.frozen?_of_block (a:=⟨b,o,none⟩) e).trans (h.fz o ho),Nat.lt_of_lt_of_le h.up f.size⟩
 exact f.owns h.own hv
theorem DrAt.below {w w' : World} {b : Nat} {v : Value} {t : WS} {l : List (Nat × Int)} (h : DrAt w b v t l) (f : Below w.heap.size w w') : DrAt w' b v t l :=
 h.frm (Frm.of_below (S:=fun _ => False) f) (fun e => e) (fun _ _ e => e)
structure Wr (b : Nat) (v : Value) (w w' : World) (v' : Value) : Prop where
 frm : Frm (fun k => k = b \/ v.ownBlock = some k) w w'
 loc : ∀ k,v'.ownBlock = some k -> v.ownBlock = some k \/ w.heap.size <= k
theorem Wr.refl (b : Nat) (v : Value) (w : World) : Wr b v w w v:=⟨Frm.refl _ _,fun _ e => .inl e⟩
theorem Wr.trans {b : Nat} {v v' v'' : Value} {w w' w'' : World} (h : Wr b v w w' v') (k : Wr b v' w' w'' v'') : Wr b v w w'' v'':=by
 refine ⟨⟨k.frm.os.trans h.frm.os,k.frm.tape.trans h.frm.tape,k.frm.output.trans h.frm.output,Nat.le_trans h.frm.size k.frm.size,fun i hi hn => (k.frm.block i (Nat.lt_of_lt_of_le hi h.frm.size) fun e => ?_).trans (h.frm.block i hi hn)⟩,fun i e => ?_⟩
 ·rcases e with e | e
  ·exact hn (.inl e)
  ·rcases h.loc i e with e | e
   ·exact hn (.inr e)
   ·omega
 ·rcases k.loc i e with e | e
  ·exact h.loc i e
  ·exact .inr (Nat.le_trans h.frm.size e)
theorem Wr.below {b : Nat} {v v' : Value} {w w' w'' : World} (h : Wr b v w w' v') (k : Below w'.heap.size w' w'') : Wr b v w w'' v':=⟨h.frm.trans (Frm.of_below k),h.loc⟩
set_option maxHeartbeats 1000000 in
set_option maxRecDepth 20000 in
theorem pNewDraft (w : World) :
  Calls Tryz.prog 39 #[] w fun x w' => ∃ b,x = .returned (.pointer (some ⟨b,0,none⟩)) /\ w.heap.size <= b /\ DrAt w' b (.slice none 0 0) Pack.init [] /\ Below w.heap.size w w':=by
 obtain ⟨hzero,hsize⟩:=zero_of_info drInfo
 obtain ⟨Z,hZ⟩ : ∃ Z,Z = (#[Value.int .u32 0] ++ Array.replicate 400 (.int .u32 0)) ++ #[Value.int .i64 0,.slice none 0 0]:=⟨_,rfl⟩
 rw [<- hZ] at hzero
 have hY : (#[Value.int .u32 0] ++ Array.replicate 400 (Value.int .u32 0)).size = 401:=by rw [Array.size_append,Array.size_replicate]; rfl
 have hZs : Z.size = 403:=by rw [hZ,Array.size_append,hY]; rfl
 have hZ0 : Z[401]? = some (.int .i64 0):=by rw [hZ,Array.getElem?_append_right (by rw [hY]; exact Nat.le_refl _),hY]; rfl
 have hZ1 : Z[402]? = some (.slice none 0 0):=by rw [hZ,Array.getElem?_append_right (by rw [hY]; decide),hY]; rfl
 have hZn : Z ≠ #[]:=fun e => by rw [e] at hZs; exact absurd hZs (by decide)
 obtain ⟨E,hE⟩ : ∃ E,E = crsEven:=⟨_,rfl⟩
 have hNC:=fun w => pNewCourse w
 rw [<- hE] at hNC
 have hcs : E.size = 401:=by rw [hE]; exact crsEven_size
 have HE : Hid (E = crsEven):=hE
 clear hZ hsize hY hE
 go_enter Tryz.func39,Tryz.ntmps39
 go_wp2_with (go_at_call 75; refine (hNC _).mono ?_; rintro e w1 ⟨rfl,hb⟩)
 obtain ⟨C,hC⟩ : ∃ C,C = Array.foldl (fun cs x => cs.setIfInBounds x.snd x.fst) Z E.zipIdx 0 401:=⟨_,rfl⟩
 rw [<- hC]
 have hC' : C = laidAt Z 0 crsEven:=by
  rw [hC,<- HE.out]; unfold laidAt; rw [hcs]; simp only [Nat.zero_add]
 have HR : DrAt (w1.alloc (.cells C 151)) w1.heap.size (.slice none 0 0) Pack.init []:=by
  rw [hC']
  refine ⟨⟨crs_laid0 w1 _ _ hZs,by simp,crs_laid w1 _ _ hZs⟩,?_,?_,World.ownsRow_nil _ _ _ _,by simp [Value.ownBlock],fun o _ => by simp,by simp⟩
  ·rw [crs_laid2 w1 _ _ 401 (by decide),hZ0]; rfl
  ·rw [crs_laid2 w1 _ _ 402 (by decide),hZ1]
 go_ret
 exact ⟨_,rfl,hb.size,HR,hb.alloc hb.size _⟩
end Go.Proofs.YtekfbphnoibnjaaGreatDoor
