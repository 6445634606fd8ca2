/-
  Opening Open2 World0 Plays PlaysP EncWalk Pack Pack2
-/
import Derived.Test.YtekfbphnoibnjaaGreatDoorG10
set_option maxHeartbeats 4000000
namespace Go.Proofs.YtekfbphnoibnjaaGreatDoor
section
open Go.RowKit
theorem cellAt_new (w:World) (xs zs:Array Value) (e:TypeId) (i:Nat) (v:Value) (h:xs[i]?=some v):(w.alloc (.cells (xs++zs) e)).drew.cell? ⟨w.heap.size,i,none⟩=some v:=by
 have hi:i<xs.size:=by
  rcases Nat.lt_or_ge i xs.size with h'|h'
  ·exact h'
  ·rw [Array.getElem?_eq_none h'] at h;cases h
 show (w.alloc (.cells (xs++zs) e)).cell? ⟨w.heap.size,i,none⟩=some v
 have hg:(w.alloc (.cells (xs++zs) e)).heap[w.heap.size]?=some (.cells (xs++zs) e (0,0)):=by
  show (w.heap.push _)[w.heap.size]?=_
  simp
 rw [cell_of_row _ _ _ _ _ _ hg,Array.getElem?_append,if_pos hi,h]
theorem conv4 (w:World) (a b c d:Int) (z:Array Value) (cap:Nat) :
  Sem.run Tryz.prog (convert 101 9 (.slice (some ⟨w.heap.size+1,0,none⟩) 4 cap)) ((w.alloc (.cells #[.int .u8 a,.int .u8 b,.int .u8 c,.int .u8 d] 5)).alloc (.cells (#[.int .u8 a,.int .u8 b,.int .u8 c,.int .u8 d]++z) 5)).drew
   = .ok (.string (strOfNums [a,b,c,d])) ((w.alloc (.cells #[.int .u8 a,.int .u8 b,.int .u8 c,.int .u8 d] 5)).alloc (.cells (#[.int .u8 a,.int .u8 b,.int .u8 c,.int .u8 d]++z) 5)).drew:=by
 refine run_convert_bytes_arg _ 101 5 Tryz.underlying101 Tryz.underlying5 (w.heap.size+1) 0 4 cap [a,b,c,d] rfl ?_ 9 Tryz.underlying9
 intro i hi
 have hs:w.heap.size+1=(w.alloc (.cells #[.int .u8 a,.int .u8 b,.int .u8 c,.int .u8 d] 5)).heap.size:=by simp
 rw [hs]
 refine cellAt_new _ _ _ _ _ _ ?_
 match i,hi with
 | 0,_=>rfl
 | 1,_=>rfl
 | 2,_=>rfl
 | 3,_=>rfl
set_option maxRecDepth 20000 in
theorem wend_any (w:World) (B b g:Nat) (L R:Int) (cs:List Int) (h:Wrt w B b g L R cs) (L0:0<=L) (L1:L<=4294967295) :
  Calls Tryz.prog 52 #[.pointer (some ⟨b,0,none⟩)] w fun e w'=>(∃ s:ByteArray,e=.returned (.string s)/\s.size=4)/\Below w.heap.size w w':=by
 obtain ⟨h0,h1,h2,h3,hfz,hn,hne,hlo,hup⟩:=h
 clear hn
 have hcv:=conv4 w
 go_enter Tryz.func52,Tryz.ntmps52
 go_wp2
 go_ret
 refine ⟨⟨_,rfl,by rw [strOfNums_size];rfl⟩,?_⟩
 exact (((Below.refl _ _).alloc (Nat.le_refl _) _).alloc (by simp) _).drew
theorem getD_set_ne (l:List Int) (i j:Nat) (v:Int) (h:i ≠ j):(l.set i v).getD j 0=l.getD j 0:=by
 simp [List.getD_eq_getElem?_getD,List.getElem?_set_ne h]
theorem getD_set_eq (l:List Int) (i:Nat) (v:Int) (h:i<l.length):(l.set i v).getD i 0=v:=by
 simp [List.getD_eq_getElem?_getD,h]
structure Chs (cs:List Int) (a3 a200 a224:Int):Prop where
 h3:cs.getD 3 0=a3
 h200:cs.getD 200 0=a200
 h224:cs.getD 224 0=a224
theorem bitA (w:World) (B b g:Nat) (h:Wrt w B b g 0 4294967295 ch0) :
  Calls Tryz.prog 51 #[.pointer (some ⟨b,0,none⟩),.int .i64 2,.int .i64 0] w fun e w'=>e=.returned (.tuple #[])/\(∃ cs,Wrt w' B b g 0 2147481600 cs/\Chs cs 2048 2048 2048)/\Below B w w':=by
 have k:=wbit0 w B b g 2 0 4294967295 2048 ch0 h (by decide) (ch0_get 2 (by decide)) (by decide) (by decide) (by decide) (by decide) (by decide) (by decide) (by decide) (by decide)
 refine k.mono ?_
 rintro e w' ⟨rfl,hw,hb⟩
 exact ⟨rfl,⟨_,hw,by rw [getD_set_ne _ _ _ _ (by decide)];exact ch0_get 3 (by decide),by rw [getD_set_ne _ _ _ _ (by decide)];exact ch0_get 200 (by decide),by rw [getD_set_ne _ _ _ _ (by decide)];exact ch0_get 224 (by decide)⟩,hb⟩
theorem bitB (w:World) (B b g:Nat) (h:∃ cs,Wrt w B b g 0 2147481600 cs/\Chs cs 2048 2048 2048) :
  Calls Tryz.prog 51 #[.pointer (some ⟨b,0,none⟩),.int .i64 3,.int .i64 1] w fun e w'=>e=.returned (.tuple #[])/\(∃ cs,Wrt w' B b g 1073739776 1073741824 cs/\Chs cs 1984 2048 2048)/\Below B w w':=by
 obtain ⟨cs,h,q3,q200,q224⟩:=h
 have k:=wbit1 w B b g 3 0 2147481600 2048 cs h (by decide) q3 (by decide) (by decide) (by decide) (by decide) (by decide) (by decide) (by decide) (by decide) (by decide) (by decide)
 refine k.mono ?_
 rintro e w' ⟨rfl,hw,hb⟩
 exact ⟨rfl,⟨_,hw,getD_set_eq _ _ _ (by rw [h.nums.len];decide),by rw [getD_set_ne _ _ _ _ (by decide)];exact q200,by rw [getD_set_ne _ _ _ _ (by decide)];exact q224⟩,hb⟩
theorem bitC (w:World) (B b g:Nat) (h:∃ cs,Wrt w B b g 1073739776 1073741824 cs/\Chs cs 1984 2048 2048) :
  Calls Tryz.prog 51 #[.pointer (some ⟨b,0,none⟩),.int .i64 200,.int .i64 0] w fun e w'=>e=.returned (.tuple #[])/\(∃ cs,Wrt w' B b g 1073739776 536870912 cs/\Chs cs 1984 2112 2048)/\Below B w w':=by
 obtain ⟨cs,h,q3,q200,q224⟩:=h
 have k:=wbit0 w B b g 200 1073739776 1073741824 2048 cs h (by decide) q200 (by decide) (by decide) (by decide) (by decide) (by decide) (by decide) (by decide) (by decide)
 refine k.mono ?_
 rintro e w' ⟨rfl,hw,hb⟩
 exact ⟨rfl,⟨_,hw,by rw [getD_set_ne _ _ _ _ (by decide)];exact q3,getD_set_eq _ _ _ (by rw [h.nums.len];decide),by rw [getD_set_ne _ _ _ _ (by decide)];exact q224⟩,hb⟩
theorem bitD (w:World) (B b g:Nat) (R c:Int) (h:∃ cs,Wrt w B b g 1073739776 R cs/\Chs cs 1984 2112 c) (c0:0<=c) (c1:c<=4096) (R0:0<=R) (R1:R<=4294967295) (m0:16777216<=R / 4096*c) (m1:R / 4096*c<=4294967295) :
  Calls Tryz.prog 51 #[.pointer (some ⟨b,0,none⟩),.int .i64 224,.int .i64 0] w fun e w'=>e=.returned (.tuple #[])/\(∃ cs,Wrt w' B b g 1073739776 (R / 4096*c) cs/\Chs cs 1984 2112 (c+(4096-c) / 32))/\Below B w w':=by
 obtain ⟨cs,h,q3,q200,q224⟩:=h
 have k:=wbit0 w B b g 224 1073739776 R c cs h (by decide) q224 c0 c1 (by decide) (by decide) R0 R1 m0 m1
 refine k.mono ?_
 rintro e w' ⟨rfl,hw,hb⟩
 exact ⟨rfl,⟨_,hw,by rw [getD_set_ne _ _ _ _ (by decide)];exact q3,by rw [getD_set_ne _ _ _ _ (by decide)];exact q200,getD_set_eq _ _ _ (by rw [h.nums.len];decide)⟩,hb⟩
end
section
open Go.RowKit
theorem black_any (w:World) :
  Calls Tryz.prog 24 #[] w fun e w'=>(∃ s:ByteArray,e=.returned (.string s)/\s.size=8)/\Below w.heap.size w w':=by
 have ta:True:=trivial
 have tb:True:=trivial
 have tc:True:=trivial
 have t1:True:=trivial
 have t2:True:=trivial
 have t3:True:=trivial
 go_enter Tryz.func24,Tryz.ntmps24
 go_wp2_with (first
  | (go_at_call 50;refine (newWriter_any _).mono ?_;rintro e w1 ⟨b,rfl,hw1,hb1⟩)
  | (go_at_call 51;have _t:=ta;refine (bitA _ w.heap.size b w.heap.size hw1).mono ?_;clear ta;rintro e w2 ⟨rfl,hw2,hb2⟩)
  | (go_at_call 51;have _t:=tb;refine (bitB _ w.heap.size b w.heap.size hw2).mono ?_;clear tb;rintro e w3 ⟨rfl,hw3,hb3⟩)
  | (go_at_call 51;have _t:=tc;refine (bitC _ w.heap.size b w.heap.size hw3).mono ?_;clear tc;rintro e w4 ⟨rfl,hw4,hb4⟩)
  | (go_at_call 51;have _t:=t1;refine (bitD _ w.heap.size b w.heap.size 536870912 2048 hw4 (by decide) (by decide) (by decide) (by decide) (by decide) (by decide)).mono ?_;clear t1;rintro e w5 ⟨rfl,hw5,hb5⟩)
  | (go_at_call 51;have _t:=t2;refine (bitD _ w.heap.size b w.heap.size 268435456 2112 hw5 (by decide) (by decide) (by decide) (by decide) (by decide) (by decide)).mono ?_;clear t2;rintro e w6 ⟨rfl,hw6,hb6⟩)
  | (go_at_call 51;have _t:=t3;refine (bitD _ w.heap.size b w.heap.size 138412032 2174 hw6 (by decide) (by decide) (by decide) (by decide) (by decide) (by decide)).mono ?_;clear t3;rintro e w7 ⟨rfl,⟨cs,hw7,hq7⟩,hb7⟩)
  | (go_at_call 52;refine (wend_any _ w.heap.size b w.heap.size _ _ cs hw7 (by decide) (by decide)).mono ?_;rintro e w8 ⟨⟨s,rfl,hs⟩,hb8⟩))
 go_ret
 have k1:Below w.heap.size w w7:=(((((hb1.trans hb2).trans hb3).trans hb4).trans hb5).trans hb6).trans hb7
 refine ⟨⟨_,rfl,?_⟩,k1.trans (hb8.mono k1.size)⟩
 rw [ByteArray.size_append,hs];rfl
structure OpV where
 kind:Int
 s:ByteArray
 c0:Int
 c1:Int
 c2:Int
 p0:Int
 p1:Int
 p2:Int
 b:Option Addr
 bl:Nat
 bc:Nat
 l:Option Addr
 ll:Nat
 lc:Nat
 size:Int
 f:Option Addr
 fl:Nat
 fc:Nat
def OpV.cells (o:OpV):List Value:=[.int .i64 o.kind,.string o.s,.int .i64 o.c0,.int .i64 o.c1,.int .i64 o.c2,.int .u8 o.p0,.int .u8 o.p1,.int .u8 o.p2,.slice o.b o.bl o.bc,.slice o.l o.ll o.lc,.int .i64 o.size,.slice o.f o.fl o.fc]
def OpV.val (o:OpV):Value:=.agg #[.int .i64 o.kind,.string o.s,.int .i64 o.c0,.int .i64 o.c1,.int .i64 o.c2,.int .u8 o.p0,.int .u8 o.p1,.int .u8 o.p2,.slice o.b o.bl o.bc,.slice o.l o.ll o.lc,.int .i64 o.size,.slice o.f o.fl o.fc]
def opA (k:Int):OpV:=⟨k,⟨#[]⟩,0,0,0,0,0,0,none,0,0,none,0,0,0,none,0,0⟩
def headOps (s:ByteArray) (b0 b1 b2 b4:Nat):List OpV :=
 [⟨1,⟨#[]⟩,0,0,0,10,20,30,none,0,0,none,0,0,0,none,0,0⟩,
  ⟨2,⟨#[]⟩,20,-20,0,0,0,0,none,0,0,none,0,0,0,none,0,0⟩,
  ⟨2,⟨#[]⟩,0,0,-2,0,0,0,none,0,0,none,0,0,0,none,0,0⟩,
  ⟨3,⟨#[]⟩,0,0,0,0,0,0,some ⟨b0,0,none⟩,1,1,none,0,0,0,none,0,0⟩,
  ⟨3,⟨#[]⟩,0,0,0,0,0,0,some ⟨b1,0,none⟩,1,1,none,0,0,0,none,0,0⟩,
  ⟨4,⟨#[255,255,255,254]⟩,0,0,0,0,0,0,none,0,0,some ⟨b2,0,none⟩,1,1,0,none,0,0⟩,
  ⟨4,⟨#[]⟩,0,0,0,0,0,0,none,0,0,none,0,0,0,none,0,0⟩,
  ⟨5,s,0,0,0,0,0,0,none,0,0,none,0,0,0,none,0,0⟩,
  ⟨5,⟨#[70,66]⟩,0,0,0,0,0,0,none,0,0,none,0,0,0,none,0,0⟩,
  ⟨6,⟨#[]⟩,0,0,0,0,0,0,none,0,0,none,0,0,4,some ⟨b4,0,none⟩,1,1⟩,
  ⟨6,⟨#[]⟩,0,0,0,0,0,0,none,0,0,none,0,0,0,none,0,0⟩]
def opsCells (ops:List OpV):List Value:=ops.flatMap OpV.cells
structure Opened (w0 wH:World) (g:Nat) (s:ByteArray) (b0 b1 b2 b3 b4:Nat):Prop where
 below:Below w0.heap.size w0 wH
 ssize:s.size=8
 hg:wH.heap[g]?=some (.cells (opsCells (headOps s b0 b1 b2 b4)).toArray 54 (0,0))
 h0:wH.heap[b0]?=some (.cells #[.int .i64 7,.int .i64 1] 69 (0,0))
 h1:wH.heap[b1]?=some (.cells #[.int .i64 (-1),.int .i64 0] 69 (0,0))
 h2:wH.heap[b2]?=some (.cells #[.int .i64 7] 3 (0,0))
 h3:wH.ownsRow w0.heap.size 50 3 (.slice (some ⟨b3,0,none⟩) 16 16) 16 (madeCells #[.int .u8 0,.int .u8 0,.int .u8 0] 48).toList
 h4:wH.heap[b4]?=some (.cells #[.slice (some ⟨b3,0,none⟩) 16 16] 58 (0,0))
 lo:w0.heap.size<=b0
 o1:b0<b1
 o2:b1<b2
 o3:b2<b3
 o4:b3<b4
 o5:b4<g
 up:g<wH.heap.size
theorem infoPix:(Tryz.prog.info? 50).map (fun i=>(i.zero,i.size,i.bytes))=some (some (.agg #[.int .u8 0,.int .u8 0,.int .u8 0]),3,3):=by kernel_rfl
theorem heap_new (w:World) (o:Obj):(w.alloc o).heap[w.heap.size]?=some o:=by
 show (w.heap.push o)[w.heap.size]?=some o
 simp
theorem heap_old {w:World} {o x:Obj} {k:Nat} (h:w.heap[k]?=some x):(w.alloc o).heap[k]?=some x:=by
 have hk:k<w.heap.size:=by
  rcases Nat.lt_or_ge k w.heap.size with h'|h'
  ·exact h'
  ·rw [Array.getElem?_eq_none h'] at h;cases h
 rw [Below.heap_alloc w o k hk];exact h
theorem heap_grown {w w':World} {x:Obj} {k:Nat} (hg:w.grownBy w' none) (h:w.heap[k]?=some x):w'.heap[k]?=some x:=by
 have hk:k<w.heap.size:=by
  rcases Nat.lt_or_ge k w.heap.size with h'|h'
  ·exact h'
  ·rw [Array.getElem?_eq_none h'] at h;cases h
 rw [hg.block k hk (by simp)];exact h
theorem opened_mk (w w1 w2:World) (s:ByteArray) (hs:s.size=8) (hb1:Below w.heap.size w w1)
  (hown:w2.ownsRow w.heap.size 50 3 (.slice (some ⟨w1.heap.size+1+1+1,0,none⟩) 16 16) 16 (madeCells #[.int .u8 0,.int .u8 0,.int .u8 0] 48).toList)
  (hgrow:(((w1.alloc (.cells #[.int .i64 7,.int .i64 1] 69)).alloc (.cells #[.int .i64 (-1),.int .i64 0] 69)).alloc (.cells #[.int .i64 7] 3)).grownBy w2 none) :
  Opened w ((w2.alloc (.cells #[.slice (some ⟨w1.heap.size+1+1+1,0,none⟩) 16 16] 58)).alloc (.cells (opsCells (headOps s w1.heap.size (w1.heap.size+1) (w1.heap.size+1+1) w2.heap.size)).toArray 54))
   (w2.heap.size+1) s w1.heap.size (w1.heap.size+1) (w1.heap.size+1+1) (w1.heap.size+1+1+1) w2.heap.size:=by
 have hsz:=hgrow.size
 simp only [World.size_alloc] at hsz
 have hl:=World.ownsRow.lt hown _ rfl
 have hz:=hb1.size
 have g0:=heap_new w1 (.cells #[.int .i64 7,.int .i64 1] 69)
 have g1:=heap_new (w1.alloc (.cells #[.int .i64 7,.int .i64 1] 69)) (.cells #[.int .i64 (-1),.int .i64 0] 69)
 have g2:=heap_new ((w1.alloc (.cells #[.int .i64 7,.int .i64 1] 69)).alloc (.cells #[.int .i64 (-1),.int .i64 0] 69)) (.cells #[.int .i64 7] 3)
 have g4:=heap_new w2 (.cells #[.slice (some ⟨w1.heap.size+1+1+1,0,none⟩) 16 16] 58)
 have g5:=heap_new (w2.alloc (.cells #[.slice (some ⟨w1.heap.size+1+1+1,0,none⟩) 16 16] 58)) (.cells (opsCells (headOps s w1.heap.size (w1.heap.size+1) (w1.heap.size+1+1) w2.heap.size)).toArray 54)
 rw [World.size_alloc] at g1 g5
 rw [World.size_alloc,World.size_alloc] at g2
 have k1:Below w.heap.size w w2:=(((hb1.alloc hz _).alloc (by simp;omega) _).alloc (by simp;omega) _).grown hgrow (by simp;omega) (fun _ h=>by cases h)
 refine ⟨(k1.alloc (by omega) _).alloc (by simp;omega) _,hs,g5,heap_old (heap_old (heap_grown hgrow (heap_old (heap_old g0)))),heap_old (heap_old (heap_grown hgrow (heap_old g1))),heap_old (heap_old (heap_grown hgrow g2)),(hown.alloc _).alloc _,heap_old g4,hz,by omega,by omega,by omega,hl.2,by omega,by simp⟩
set_option maxRecDepth 20000 in
theorem opening_any (w:World) :
  Calls Tryz.prog 14 #[] w fun e w'=>∃ g s b0 b1 b2 b3 b4,e=.returned (.slice (some ⟨g,0,none⟩) 11 11)/\Opened w w' g s b0 b1 b2 b3 b4:=by
 obtain ⟨i0,hi,hz0,hz1,hz2⟩:=info_parts infoPix
 go_enter Tryz.func14,Tryz.ntmps14
 go_wp2_with (first
  | (go_at_call 24;refine (black_any _).mono ?_;rintro e w1 ⟨⟨s,rfl,hs⟩,hb1⟩;have hsz:=hb1.size)
  | (at_make;refine wpList_make_full _ rfl _ _ 58 rfl w.heap.size 50 i0 (.agg #[.int .u8 0,.int .u8 0,.int .u8 0]) 3 Tryz.underlying58 hi hz0 hz1 _ _ _ _ 16 rfl rfl rfl rfl (by rw [hz2];decide) (by decide) (by simp;omega) ?_;intro w2 hown hgrow))
 go_ret
 rw [World.size_alloc,World.size_alloc,World.size_alloc] at hown
 exact ⟨_,s,_,_,_,_,_,rfl,opened_mk w w1 w2 s hs hb1 hown hgrow⟩
end
section
open Go.RowKit
structure Book0 (w:World) (p:Nat):Prop where
 c0:w.cell? ⟨p,0,none⟩=some (.int .i64 0)
 c1:w.cell? ⟨p,1,none⟩=some (.slice none 0 0)
 c2:w.cell? ⟨p,2,none⟩=some (.slice none 0 0)
 c3:w.cell? ⟨p,3,none⟩=some (.slice none 0 0)
 c4:w.cell? ⟨p,4,none⟩=some (.slice none 0 0)
 c5:w.cell? ⟨p,5,none⟩=some (.slice none 0 0)
 c6:w.cell? ⟨p,6,none⟩=some (.slice none 0 0)
 c7:w.cell? ⟨p,7,none⟩=some (.slice none 0 0)
 c8:w.cell? ⟨p,8,none⟩=some (.slice none 0 0)
 fz:∀ o,w.frozen? ⟨p,o,none⟩=false
theorem Book0.of_block {w w':World} {p:Nat} (h:Book0 w p) (hb:w'.heap[p]?=w.heap[p]?):Book0 w' p:=by
 have hc:∀ o,w'.cell? ⟨p,o,none⟩=w.cell? ⟨p,o,none⟩:=fun o=>World.cell?_of_block (a:=⟨p,o,none⟩) hb
 exact ⟨(hc 0).trans h.c0,(hc 1).trans h.c1,(hc 2).trans h.c2,(hc 3).trans h.c3,(hc 4).trans h.c4,(hc 5).trans h.c5,(hc 6).trans h.c6,(hc 7).trans h.c7,(hc 8).trans h.c8,
  fun o=>(World.frozen?_of_block (a:=⟨p,o,none⟩) hb).trans (h.fz o)⟩
end
section
open Go.RowKit
def Script (w:World) (a:Option Addr) (len:Nat) (ops:List OpV):Prop :=
 (len=0/\ops=[]) \/
 ∃ b off,a=some ⟨b,off,none⟩/\b<w.heap.size/\ops.length=len/\∀ i (h:i<ops.length) (j:Nat) (v:Value),ops[i].cells[j]?=some v->w.cell? ⟨b,off+i*12+j,none⟩=some v
theorem opsCells_get (ops:List OpV) (i:Nat) (h:i<ops.length) (j:Nat) (v:Value) (hv:ops[i].cells[j]?=some v):(opsCells ops)[i*12+j]?=some v:=by
 induction ops generalizing i with
 | nil=>simp at h
 | cons o ops ih =>
  have hl:o.cells.length=12:=rfl
  rw [show opsCells (o :: ops)=o.cells++opsCells ops by simp [opsCells]]
  cases i with
  | zero =>
   simp only [List.getElem_cons_zero] at hv
   have hj:j<o.cells.length:=by
    rcases Nat.lt_or_ge j o.cells.length with h'|h'
    ·exact h'
    ·rw [List.getElem?_eq_none h'] at hv;cases hv
   rw [Nat.zero_mul,Nat.zero_add,List.getElem?_append_left hj];exact hv
  | succ i =>
   simp only [List.getElem_cons_succ] at hv
   rw [List.getElem?_append_right (by rw [hl];omega),hl,show (i+1)*12+j-12=i*12+j by omega]
   exact ih i (by simpa using h) hv
theorem head_cell {w:World} {g:Nat} {hd:List OpV} (h:w.heap[g]?=some (.cells (opsCells hd).toArray 54 (0,0))) (i:Nat) (hi:i<hd.length) (j:Nat) (v:Value) (hv:hd[i].cells[j]?=some v) :
  w.cell? ⟨g,i*12+j,none⟩=some v:=by
 rw [cell_of_row w g _ _ _ _ h]
 simpa using opsCells_get hd i hi j v hv
def world0:Obj:=.cells #[.int .i64 0,.slice none 0 0,.slice none 0 0,.slice none 0 0,.slice none 0 0,.slice none 0 0,.slice none 0 0,.slice none 0 0,.slice none 0 0] 46
theorem book0_new {w wH:World} (hb:Below (w.alloc world0).heap.size (w.alloc world0) wH):Book0 wH w.heap.size:=by
 have hh:wH.heap[w.heap.size]?=some world0:=(hb.block w.heap.size (by simp)).trans (heap_new w world0)
 have hc:=fun j=>cell_of_row wH w.heap.size j _ _ _ hh
 exact ⟨hc 0,hc 1,hc 2,hc 3,hc 4,hc 5,hc 6,hc 7,hc 8,fun j=>frozen_of_row wH w.heap.size j _ _ hh⟩
end
section
open Go.RowKit
structure PlayerP (lo up:Int) (w:World) (p g N:Nat) (hd ops:List OpV) (I:Nat->World->Prop):Prop where
 below:∀ c w',I c w'->Below w.heap.size w w'
 head:∀ c w',I c w'->w'.heap[g]?=some (.cells (opsCells hd).toArray 54 (0,0))
 alloc:∀ c w' o,I c w'->I c (w'.alloc o)
 mono:∀ c w',I c w'->I (c+1) w'
 step:∀ c w' o,c<N->I c w'->(hd++ops)[c]?=some o->lo<=o.kind->o.kind<=up->Calls Tryz.prog 15 #[.pointer (some ⟨p,0,none⟩),o.val] w' fun e w''=>e=.returned (.bool true)/\I (c+1) w''
 settle:∀ c w',c<=N->I c w'->Calls Tryz.prog 16 #[.pointer (some ⟨p,0,none⟩)] w' fun e w''=>e=.returned (.bool true)/\I c w''
 looks:∀ c w',c<=N->I c w'->Calls Tryz.prog 17 #[.pointer (some ⟨p,0,none⟩)] w' fun e w''=>e=.returned (.bool true)/\I c w''
set_option maxRecDepth 20000 in
theorem plays_pos (lo up:Int) (w:World) (a:Option Addr) (len cap:Nat) (ops:List OpV) (hs:Script w a len ops) (hl:len<=maxLen)
  (start:∀ wH g s b0 b1 b2 b3 b4,Opened (w.alloc world0) wH g s b0 b1 b2 b3 b4->∃ I:Nat->World->Prop,I 0 wH/\PlayerP lo up w w.heap.size g (11+len) (headOps s b0 b1 b2 b4) ops I) :
  Calls Tryz.prog 9 #[.slice a len cap,.int .i64 lo,.int .i64 up] w fun e w'=>e=.returned (.bool true)/\Below w.heap.size w w':=by
 unfold maxLen at hl
 go_enter Tryz.func9,Tryz.ntmps9
 go_wp2_with (go_at_call 14;refine (opening_any _).mono ?_;rintro e wH ⟨g,s,b0,b1,b2,b3,b4,rfl,hop⟩)
 obtain ⟨I,hI,P⟩:=start wH g s b0 b1 b2 b3 b4 hop
 have HS:Hid (Script w a len ops):=hs
 have HP:Hid (PlayerP lo up w w.heap.size g (11+len) (headOps s b0 b1 b2 b4) ops I):=P
 clear hs hop start P
 go_loopw [9] (fun i wr=>∃ k:Nat,k<=11/\i=.int .i64 k/\I k wr) (fun i _=>11-(intOf i).toNat)
 case atStart=>exact ⟨0,by omega,rfl,hI⟩
 case round =>
  obtain ⟨k,hk,rfl,hIr⟩:=hrel
  by_cases hlt:k<11
  ·have hlen:(headOps s b0 b1 b2 b4).length=11:=rfl
   obtain ⟨o,ho⟩:∃ o,o=(headOps s b0 b1 b2 b4)[k]'(by rw [hlen];exact hlt):=⟨_,rfl⟩
   have hc:∀ j v,o.cells[j]?=some v->wr.cell? ⟨g,k*12+j,none⟩=some v:=fun j v hv=>head_cell (HP.out.head _ wr hIr) k (by rw [hlen];exact hlt) j v (by rw [<- ho];exact hv)
   have hm:Hid ((headOps s b0 b1 b2 b4++ops)[k]?=some o):=by unfold Hid;rw [List.getElem?_append_left (by rw [hlen];exact hlt),ho];exact List.getElem?_eq_getElem _
   obtain ⟨kd,os,c0,c1,c2,p0,p1,p2,va,va1,va2,vl,vl1,vl2,sz,vf,vf1,vf2⟩:=o
   have i0:=hc 0 _ rfl
   have i1:=hc 1 _ rfl
   have i2:=hc 2 _ rfl
   have i3:=hc 3 _ rfl
   have i4:=hc 4 _ rfl
   have i5:=hc 5 _ rfl
   have i6:=hc 6 _ rfl
   have i7:=hc 7 _ rfl
   have i8:=hc 8 _ rfl
   have i9:=hc 9 _ rfl
   have i10:=hc 10 _ rfl
   have i11:=hc 11 _ rfl
   clear hc ho
   rw [Nat.add_zero] at i0
   have hlt':(k:Int)<11:=by omega
   by_cases h1:lo<=kd
   ·by_cases h2:kd<=up
    ·have hst:=HP.out.step k wr _ (by omega) hIr hm.out h1 h2
     go_wp2_with (go_at_call 15;refine hst.mono ?_;rintro e w1 ⟨rfl,hI1⟩)
     go_roundw
     case rel=>exact ⟨k+1,by omega,by go_num,hI1⟩
     case measure=>simp [intOf];omega
    ·go_wp2
     go_roundw
     case rel=>exact ⟨k+1,by omega,by go_num,HP.out.mono _ _ hIr⟩
     case measure=>simp [intOf];omega
   ·go_wp2
    go_roundw
    case rel=>exact ⟨k+1,by omega,by go_num,HP.out.mono _ _ hIr⟩
    case measure=>simp [intOf];omega
  ·have hge:¬ (k:Int)<11:=by omega
   obtain ⟨k9,h9⟩:∃ k9,k9=k:=⟨k,rfl⟩
   subst h9
   have hIr':I 11 wr:=by rw [show (11:Nat)=k9 by omega];exact hIr
   have HIR:Hid (I 11 wr):=hIr'
   clear hlt hk hI hIr hIr'
   go_wp2
   go_loopw [11] (fun i wr=>∃ k:Nat,k<=len/\i=.int .i64 k/\I (11+k) wr) (fun i _=>len-(intOf i).toNat)
   case atStart=>exact ⟨0,by omega,rfl,HIR.out⟩
   case round =>
    clear HIR
    obtain ⟨k,hk,rfl,hIr⟩:=hrel
    by_cases hend:k<len/\(k:Int)<1152921504606846976
    ·obtain ⟨hlt,hM⟩:=hend
     obtain ⟨b,off,ha,hbs,hlen,hcl⟩:∃ b off,a=some ⟨b,off,none⟩/\b<w.heap.size/\ops.length=len/\∀ i (h:i<ops.length) (j:Nat) (v:Value),ops[i].cells[j]?=some v->w.cell? ⟨b,off+i*12+j,none⟩=some v:=by
      rcases HS.out with ⟨h,_⟩|h
      ·omega
      ·exact h
     subst ha
     obtain ⟨o,ho⟩:∃ o,o=ops[k]'(by rw [hlen];exact hlt):=⟨_,rfl⟩
     have hbel:=HP.out.below _ wr hIr
     have hc:∀ j v,o.cells[j]?=some v->wr.cell? ⟨b,off+k*12+j,none⟩=some v:=fun j v hv=>(hbel.cell (p:=⟨b,off+k*12+j,none⟩) hbs).trans (hcl k (by rw [hlen];exact hlt) j v (by rw [<- ho];exact hv))
     have hm:Hid ((headOps s b0 b1 b2 b4++ops)[11+k]?=some o):=by unfold Hid;rw [List.getElem?_append_right (show (headOps s b0 b1 b2 b4).length<=11+k from Nat.le_add_right 11 k),show 11+k-(headOps s b0 b1 b2 b4).length=k from Nat.add_sub_cancel_left (n:=11) (m:=k),ho];exact List.getElem?_eq_getElem _
     obtain ⟨kd,os,c0,c1,c2,p0,p1,p2,va,va1,va2,vl,vl1,vl2,sz,vf,vf1,vf2⟩:=o
     have i0:=hc 0 _ rfl
     have i1:=hc 1 _ rfl
     have i2:=hc 2 _ rfl
     have i3:=hc 3 _ rfl
     have i4:=hc 4 _ rfl
     have i5:=hc 5 _ rfl
     have i6:=hc 6 _ rfl
     have i7:=hc 7 _ rfl
     have i8:=hc 8 _ rfl
     have i9:=hc 9 _ rfl
     have i10:=hc 10 _ rfl
     have i11:=hc 11 _ rfl
     clear hc ho hcl hbel
     rw [Nat.add_zero] at i0
     have hlt':(k:Int)<(len:Int):=by omega
     have hIa:=HP.out.alloc _ wr (.cells #[.int .i64 kd,.string os,.int .i64 c0,.int .i64 c1,.int .i64 c2,.int .u8 p0,.int .u8 p1,.int .u8 p2,.slice va va1 va2,.slice vl vl1 vl2,.int .i64 sz,.slice vf vf1 vf2] 54) hIr
     by_cases h1:kd<lo
     ·go_wp2
      go_roundw
      case rel=>exact ⟨k+1,by omega,by go_num,HP.out.mono _ _ hIa⟩
      case measure=>simp [intOf];omega
     ·by_cases h2:up<kd
      ·go_wp2
       go_roundw
       case rel=>exact ⟨k+1,by omega,by go_num,HP.out.mono _ _ hIa⟩
       case measure=>simp [intOf];omega
      ·have hst:=HP.out.step (11+k) _ _ (by omega) hIa hm.out (by simpa using h1) (by simpa using h2)
       rcases h3:((k:Int) % 3 == 2) with _|_
       ·go_wp2_with (first
         | (go_at_call 15;refine hst.mono ?_;rintro e w1 ⟨rfl,hI1⟩)
         | (go_at_call 17;refine (HP.out.looks _ _ (by omega) hI1).mono ?_;rintro e w3 ⟨rfl,hI3⟩))
        go_roundw
        case rel=>exact ⟨k+1,by omega,by go_num,hI3⟩
        case measure=>simp [intOf];omega
       ·go_wp2_with (first
         | (go_at_call 15;refine hst.mono ?_;rintro e w1 ⟨rfl,hI1⟩)
         | (go_at_call 16;refine (HP.out.settle _ _ (by omega) hI1).mono ?_;rintro e w2 ⟨rfl,hI2⟩)
         | (go_at_call 17;refine (HP.out.looks _ _ (by omega) hI2).mono ?_;rintro e w3 ⟨rfl,hI3⟩))
        go_roundw
        case rel=>exact ⟨k+1,by omega,by go_num,hI3⟩
        case measure=>simp [intOf];omega
    ·by_cases hlt:k<len
     ·have hM:¬ (k:Int)<1152921504606846976:=fun h=>hend ⟨hlt,h⟩
      have hlt':(k:Int)<(len:Int):=by omega
      go_wp2_with (first
       | (go_at_call 16;refine (HP.out.settle _ _ (by omega) hIr).mono ?_;rintro e w2 ⟨rfl,hI2⟩)
       | (go_at_call 17;refine (HP.out.looks _ _ (by omega) hI2).mono ?_;rintro e w3 ⟨rfl,hI3⟩))
      go_ret
      exact ⟨rfl,HP.out.below _ _ hI3⟩
     ·go_wp2_with (first
       | (go_at_call 16;refine (HP.out.settle _ _ (by omega) hIr).mono ?_;rintro e w2 ⟨rfl,hI2⟩)
       | (go_at_call 17;refine (HP.out.looks _ _ (by omega) hI2).mono ?_;rintro e w3 ⟨rfl,hI3⟩))
      go_ret
      exact ⟨rfl,HP.out.below _ _ hI3⟩
end
section
open Go.RowKit
structure FB (W:World) (H:Nat) (z v:Value):Prop where
 c0:W.cell? ⟨H,0,none⟩=some z
 c1:W.cell? ⟨H,1,none⟩=some v
theorem FB.below {W W':World} {H:Nat} {z v:Value} (h:FB W H z v) (b:Below W.heap.size W W'):FB W' H z v:=⟨(b.cell (World.block_lt_of_cell? W _ h.c0)).trans h.c0,(b.cell (World.block_lt_of_cell? W _ h.c1)).trans h.c1⟩
theorem FB.cells {W:World} {H:Nat} {z v:Value} (h:FB W H z v):W.cell? ⟨H,0,none⟩=some z/\W.cell? ⟨H,1,none⟩=some v:=⟨h.c0,h.c1⟩
theorem fb_mk (w:World) (z v:Value):∃ W1 H,W1=w.alloc (.cells #[z,v] 27)/\H=w.heap.size/\Below w.heap.size w W1/\FB W1 H z v :=
 ⟨_,_,rfl,rfl,(Below.refl _ w).alloc (Nat.le_refl _) _,⟨cell_of_row _ _ 0 _ _ _ (heap_alloc_last w _),cell_of_row _ _ 1 _ _ _ (heap_alloc_last w _)⟩⟩
theorem kat {K:Nat->World->Prop} {a b:Nat} {w:World} (e:a=b) (h:K b w):K a w:=by rw [e];exact h
set_option maxRecDepth 20000 in
theorem encodes_walk (W:World) (p:Value) (z:Int) (fa:Option Addr) (fn fc:Nat) (la:Option Addr) (ln lc:Nat) (S1 S2:ByteArray) (E1 E2:Int) (r:Bool) (K1:Nat->World->Prop) (K2:World->Prop) (K3:Value->World->Prop)
  (m1:∀ T wa wb,K1 T wa->Below wa.heap.size wa wb->K1 T wb) (m2:∀ wa wb,K2 wa->Below wa.heap.size wa wb->K2 wb) (m3:∀ v wa wb,K3 v wa->Below wa.heap.size wa wb->K3 v wb)
  (c1:∀ o,Calls Tryz.prog 70 #[.agg #[.int .i64 z,.slice fa fn fc]] (W.alloc o) fun x w'=>x=.returned (.agg #[.int .i64 z,.slice la ln lc])/\Below (W.alloc o).heap.size (W.alloc o) w'/\K1 w'.heap.size w')
  (c2:∀ T wx,K1 T wx->Calls Tryz.prog 11 #[.agg #[.int .i64 z,.slice la ln lc]] wx fun x w'=>x=.returned (.tuple #[.string S1,.int .i64 E1])/\Below wx.heap.size wx w')
  (c3:∀ T wx,K1 T wx->FB wx W.heap.size (.int .i64 z) (.slice fa fn fc)->FB wx T (.int .i64 z) (.slice la ln lc)->Calls Tryz.prog 71 #[p,.agg #[.int .i64 z,.slice la ln lc],.agg #[.int .i64 z,.slice fa fn fc]] wx fun x w'=>x=.returned (.bool true)/\K2 w'/\FB w' W.heap.size (.int .i64 z) (.slice fa fn fc)/\FB w' T (.int .i64 z) (.slice la ln lc))
  (c4:∀ wx,K2 wx->Calls Tryz.prog 72 #[.agg #[.int .i64 z,.slice fa fn fc]] wx fun x w'=>x=.returned (.bool r)/\Below wx.heap.size wx w')
  (c5:∀ wx,K2 wx->Calls Tryz.prog 70 #[.agg #[.int .i64 z,.slice la ln lc]] wx fun x w'=>∃ ta tn tc,x=.returned (.agg #[.int .i64 z,.slice ta tn tc])/\Below wx.heap.size wx w'/\K3 (.slice ta tn tc) w')
  (c6:∀ wx,K2 wx->Calls Tryz.prog 11 #[.agg #[.int .i64 z,.slice la ln lc]] wx fun x w'=>x=.returned (.tuple #[.string S2,.int .i64 E2])/\Below wx.heap.size wx w')
  (c7:∀ wx v,K3 v wx->Calls Tryz.prog 73 #[.agg #[.int .i64 z,v],.string S2,.int .i64 E2] wx fun x w'=>x=.returned (.bool true)/\Below wx.heap.size wx w')
  (c8:r=true->∀ wx,K2 wx->Calls Tryz.prog 73 #[.agg #[.int .i64 z,.slice fa fn fc],.string S1,.int .i64 E1] wx fun x w'=>x=.returned (.bool true)/\Below wx.heap.size wx w')
  (c9:r=false->S1=⟨#[]⟩/\E1=3) :
  Calls Tryz.prog 29 #[p,.agg #[.int .i64 z,.slice fa fn fc]] W fun x w'=>x=.returned (.bool true)/\K2 w':=by
 have M1:Hid (∀ T wa wb,K1 T wa->Below wa.heap.size wa wb->K1 T wb):=m1
 have M2:Hid (∀ wa wb,K2 wa->Below wa.heap.size wa wb->K2 wb):=m2
 have M3:Hid (∀ v wa wb,K3 v wa->Below wa.heap.size wa wb->K3 v wb):=m3
 obtain ⟨W1,A1,hW1,hA1,hb1,x1⟩:=fb_mk W (.int .i64 z) (.slice fa fn fc)
 have C1:=c1 (.cells #[.int .i64 z,.slice fa fn fc] 27)
 rw [<- hW1] at C1
 rw [<- hA1] at c3
 have C2:Hid (∀ T wx,K1 T wx->Calls Tryz.prog 11 #[.agg #[.int .i64 z,.slice la ln lc]] wx fun x w'=>x=.returned (.tuple #[.string S1,.int .i64 E1])/\Below wx.heap.size wx w'):=c2
 have C3:Hid (∀ T wx,K1 T wx->FB wx A1 (.int .i64 z) (.slice fa fn fc)->FB wx T (.int .i64 z) (.slice la ln lc)->Calls Tryz.prog 71 #[p,.agg #[.int .i64 z,.slice la ln lc],.agg #[.int .i64 z,.slice fa fn fc]] wx fun x w'=>x=.returned (.bool true)/\K2 w'/\FB w' A1 (.int .i64 z) (.slice fa fn fc)/\FB w' T (.int .i64 z) (.slice la ln lc)):=c3
 have C4:Hid (∀ wx,K2 wx->Calls Tryz.prog 72 #[.agg #[.int .i64 z,.slice fa fn fc]] wx fun x w'=>x=.returned (.bool r)/\Below wx.heap.size wx w'):=c4
 have C5:Hid (∀ wx,K2 wx->Calls Tryz.prog 70 #[.agg #[.int .i64 z,.slice la ln lc]] wx fun x w'=>∃ ta tn tc,x=.returned (.agg #[.int .i64 z,.slice ta tn tc])/\Below wx.heap.size wx w'/\K3 (.slice ta tn tc) w'):=c5
 have C6:Hid (∀ wx,K2 wx->Calls Tryz.prog 11 #[.agg #[.int .i64 z,.slice la ln lc]] wx fun x w'=>x=.returned (.tuple #[.string S2,.int .i64 E2])/\Below wx.heap.size wx w'):=c6
 have C7:Hid (∀ wx v,K3 v wx->Calls Tryz.prog 73 #[.agg #[.int .i64 z,v],.string S2,.int .i64 E2] wx fun x w'=>x=.returned (.bool true)/\Below wx.heap.size wx w'):=c7
 have HW:Hid (W1=W.alloc (.cells #[.int .i64 z,.slice fa fn fc] 27)/\A1=W.heap.size):=⟨hW1,hA1⟩
 have X1:Hid (FB W1 A1 (.int .i64 z) (.slice fa fn fc)):=x1
 obtain ⟨f0,f1⟩:=x1.cells
 have T0:Hid True:=trivial
 have T1:Hid True:=trivial
 clear m1 m2 m3 c1 c2 c3 c4 c5 c6 c7 hW1 hA1 x1 hb1
 have C8:Hid (r=true->∀ wx,K2 wx->Calls Tryz.prog 73 #[.agg #[.int .i64 z,.slice fa fn fc],.string S1,.int .i64 E1] wx fun x w'=>x=.returned (.bool true)/\Below wx.heap.size wx w'):=c8
 have C9:Hid (r=false->S1=⟨#[]⟩/\E1=3):=c9
 clear c8 c9
 go_enter Tryz.func29,Tryz.ntmps29
 go_wp2_with (first
  | (rw [<- HW.out.1,<- HW.out.2])
  | (clear T0;go_at_call 70;refine C1.mono ?_;rintro e w2 ⟨rfl,b2,q2⟩;obtain ⟨W2,A2,hW2,hA2,hb2,x2⟩:=fb_mk w2 (.int .i64 z) (.slice la ln lc);have X2:Hid (FB W2 A1 (.int .i64 z) (.slice fa fn fc)/\FB W2 A2 (.int .i64 z) (.slice la ln lc)):=⟨(X1.out.below b2).below hb2,x2⟩;have Q2:Hid (K1 A2 W2):=kat hA2 (M1.out _ _ _ q2 hb2);have HW2:Hid (W2=_/\A2=_):=⟨hW2,hA2⟩;clear hW2 hA2 x2 b2 q2 hb2 f0 f1)
  | (rw [<- HW2.out.1,<- HW2.out.2];obtain ⟨f0,f1⟩:=X2.out.1.cells;obtain ⟨g0,g1⟩:=X2.out.2.cells)
  | (clear T1;go_at_call 11;refine (C2.out A2 W2 Q2.out).mono ?_;rintro e w3 ⟨rfl,b3⟩;have X3:Hid (FB w3 A1 (.int .i64 z) (.slice fa fn fc)/\FB w3 A2 (.int .i64 z) (.slice la ln lc)):=⟨X2.out.1.below b3,X2.out.2.below b3⟩;have Q3:Hid (K1 A2 w3):=M1.out _ _ _ Q2.out b3;clear f0 f1 g0 g1 b3;obtain ⟨f0,f1⟩:=X3.out.1.cells;obtain ⟨g0,g1⟩:=X3.out.2.cells)
  | (go_at_call 71;refine (C3.out A2 w3 Q3.out X3.out.1 X3.out.2).mono ?_;rintro e w4 ⟨rfl,q4,y1,y2⟩;have X4:Hid (FB w4 A1 (.int .i64 z) (.slice fa fn fc)/\FB w4 A2 (.int .i64 z) (.slice la ln lc)):=⟨y1,y2⟩;have Q4:Hid (K2 w4):=q4;clear f0 f1 g0 g1 y1 y2 q4;obtain ⟨f0,f1⟩:=X4.out.1.cells;obtain ⟨g0,g1⟩:=X4.out.2.cells)
  | (go_at_call 72;refine (C4.out w4 Q4.out).mono ?_;rintro e w5 ⟨rfl,b5⟩;have X5:Hid (FB w5 A1 (.int .i64 z) (.slice fa fn fc)/\FB w5 A2 (.int .i64 z) (.slice la ln lc)):=⟨X4.out.1.below b5,X4.out.2.below b5⟩;have Q5:Hid (K2 w5):=M2.out _ _ Q4.out b5;clear f0 f1 g0 g1 b5;obtain ⟨f0,f1⟩:=X5.out.1.cells;obtain ⟨g0,g1⟩:=X5.out.2.cells)
  | (go_at_call 70;refine (C5.out w5 Q5.out).mono ?_;rintro e w6 ⟨ta,tn,tc,rfl,b6,q6⟩;obtain ⟨W6,A6,hW6,hA6,hb6,x6⟩:=fb_mk w6 (.int .i64 z) (.slice ta tn tc);have X6:Hid (FB W6 A1 (.int .i64 z) (.slice fa fn fc)/\FB W6 A2 (.int .i64 z) (.slice la ln lc)/\FB W6 A6 (.int .i64 z) (.slice ta tn tc)):=⟨(X5.out.1.below b6).below hb6,(X5.out.2.below b6).below hb6,x6⟩;have Q6:Hid (K2 W6/\K3 (.slice ta tn tc) W6):=⟨M2.out _ _ (M2.out _ _ Q5.out b6) hb6,M3.out _ _ _ q6 hb6⟩;have HW6:Hid (W6=_/\A6=_):=⟨hW6,hA6⟩;clear hW6 hA6 x6 b6 q6 hb6 f0 f1 g0 g1)
  | (rw [<- HW6.out.1,<- HW6.out.2];obtain ⟨f0,f1⟩:=X6.out.1.cells;obtain ⟨g0,g1⟩:=X6.out.2.1.cells;obtain ⟨t0,t1⟩:=X6.out.2.2.cells)
  | (go_at_call 11;refine (C6.out W6 Q6.out.1).mono ?_;rintro e w7 ⟨rfl,b7⟩;have X7:Hid (FB w7 A1 (.int .i64 z) (.slice fa fn fc)/\FB w7 A6 (.int .i64 z) (.slice ta tn tc)):=⟨X6.out.1.below b7,X6.out.2.2.below b7⟩;have Q7:Hid (K2 w7/\K3 (.slice ta tn tc) w7):=⟨M2.out _ _ Q6.out.1 b7,M3.out _ _ _ Q6.out.2 b7⟩;clear f0 f1 g0 g1 t0 t1 b7;obtain ⟨f0,f1⟩:=X7.out.1.cells;obtain ⟨t0,t1⟩:=X7.out.2.cells))
 go_region_with (first
  | (go_at_call 57;refine (num_any _ _).mono ?_;rintro e w9 ⟨rfl,hw⟩;rw [hw];clear hw)
  | (go_at_call 73;refine (C7.out w7.drew _ (M3.out _ _ _ Q7.out.2 (Below.refl _ w7).drew)).mono ?_;rintro e w8 ⟨rfl,b8⟩))
 all_goals
  have Q8:Hid (K2 w8):=M2.out _ _ (M2.out _ _ Q7.out.1 (Below.refl _ w7).drew) b8
  have X8:Hid (FB w8 A1 (.int .i64 z) (.slice fa fn fc)):=(X7.out.1.below (Below.refl _ w7).drew).below b8
  clear f0 f1 t0 t1
  obtain ⟨f0,f1⟩:=X8.out.cells
  cases r with
  | false =>
   obtain ⟨rfl,rfl⟩:=C9.out rfl
   go_wp2_with (go_at_call 57;refine (num_any _ _).mono ?_;rintro e w9 ⟨rfl,hw⟩;rw [hw];clear hw)
   go_ret
   exact ⟨rfl,Q8.out⟩
  | true =>
   have C8t:Hid (∀ wx,K2 wx->Calls Tryz.prog 73 #[.agg #[.int .i64 z,.slice fa fn fc],.string S1,.int .i64 E1] wx fun x w'=>x=.returned (.bool true)/\Below wx.heap.size wx w'):=C8.out rfl
   clear C8 C9
   go_wp2
   go_region_with (first
    | (go_at_call 57;refine (num_any _ _).mono ?_;rintro e w9 ⟨rfl,hw⟩;rw [hw];clear hw)
    | (go_at_call 73;refine (C8t.out w8.drew (M2.out _ _ Q8.out (Below.refl _ w8).drew)).mono ?_;rintro e w9 ⟨rfl,b9⟩))
   all_goals
    go_wp2
    go_ret
    exact ⟨rfl,M2.out _ _ (M2.out _ _ Q8.out (Below.refl _ w8).drew) b9⟩
end
structure WS where
 n:Int
 m:Nat
 rng:Int
 ch:List Int
namespace Pack
def cut (t:WS) (k:Nat):Int:=t.rng / 4096*t.ch.getD k 0
def pull (t:WS):WS:={ t with n:=256*t.n,m:=t.m+1,rng:=256*t.rng }
def norm (t:WS):WS:=if t.rng<16777216 then pull t else t
def zero (t:WS) (k:Nat):WS:={ t with rng:=cut t k,ch:=t.ch.set k (t.ch.getD k 0+(4096-t.ch.getD k 0) / 32) }
def one (t:WS) (k:Nat):WS:={ t with n:=t.n+cut t k,rng:=t.rng-cut t k,ch:=t.ch.set k (t.ch.getD k 0-t.ch.getD k 0 / 32) }
def put (t:WS) (k:Nat) (v:Int):WS:=norm (if v=0 then zero t k else one t k)
def puts:WS->List (Nat × Int)->WS
 | t,[]=>t
 | t,(k,v) :: l=>puts (put t k v) l
def init:WS:=⟨0,0,4294967295,ch0⟩
structure Ok (t:WS):Prop where
 ch:Rdr.ChOk t.ch
 r0:16777216<=t.rng
 r1:t.rng<=4294967295
 n0:0<=t.n
theorem cut_bd {t:WS} (h:Ok t) {k:Nat} (hk:k<400):126976<=cut t k/\cut t k+126976<=t.rng:=by
 have hb:=h.ch.2 k hk
 have:=h.r0
 have:=h.r1
 have hm:=Rdr.mul_bd (t.rng / 4096) (t.ch.getD k 0) (by omega) (by omega) hb.1 hb.2
 unfold cut
 omega
theorem norm_ok {t:WS} (ch:Rdr.ChOk t.ch) (r0:126976<=t.rng) (r1:t.rng<=4294967295) (n0:0<=t.n):Ok (norm t):=by
 unfold norm
 split
 ·exact ⟨ch,by show 16777216<=256*t.rng;omega,by show 256*t.rng<=4294967295;omega,by show 0<=256*t.n;omega⟩
 ·exact ⟨ch,by omega,r1,n0⟩
theorem Ok.put {t:WS} (h:Ok t) {k:Nat} (hk:k<400) (v:Int):Ok (put t k v):=by
 have hc:=cut_bd h hk
 have hb:=h.ch.2 k hk
 have h1:=h.r1
 have h0:=h.n0
 unfold Pack.put
 by_cases hv:v=0
 ·rw [if_pos hv]
  exact norm_ok (h.ch.set (Rdr.up_bd _ hb.1 hb.2).1 (Rdr.up_bd _ hb.1 hb.2).2) hc.1 (by show cut t k<=4294967295;omega) h0
 ·rw [if_neg hv]
  exact norm_ok (h.ch.set (Rdr.dn_bd _ hb.1 hb.2).1 (Rdr.dn_bd _ hb.1 hb.2).2) (by show 126976<=t.rng-cut t k;omega) (by show t.rng-cut t k<=4294967295;omega) (by show 0<=t.n+cut t k;omega)
theorem init_ok:Ok init:=⟨⟨by unfold init ch0;exact List.length_replicate,fun k hk=>by show 31<=ch0.getD k 0/\_;rw [show (init).ch=ch0 from rfl,ch0_get k hk];decide⟩,by decide,by decide,by decide⟩
def In (t u:WS):Prop:=∃ d:Nat,u.m=t.m+d/\t.n*256 ^ d<=u.n/\u.n+u.rng<=(t.n+t.rng)*256 ^ d
theorem In.refl (t:WS):In t t:=⟨0,rfl,by simp,by simp⟩
theorem In.trans {t u v:WS} (h:In t u) (k:In u v):In t v:=by
 obtain ⟨d,h1,h2,h3⟩:=h
 obtain ⟨e,k1,k2,k3⟩:=k
 have hp:(0:Int)<=256 ^ e:=Int.pow_nonneg (by decide)
 refine ⟨d+e,by omega,?_,?_⟩
 ·rw [Int.pow_add,<- Int.mul_assoc]
  exact Int.le_trans (Int.mul_le_mul_of_nonneg_right h2 hp) k2
 ·rw [Int.pow_add,<- Int.mul_assoc]
  exact Int.le_trans k3 (Int.mul_le_mul_of_nonneg_right h3 hp)
theorem In.norm (t:WS):In t (norm t):=by
 unfold Pack.norm
 split
 ·exact ⟨1,rfl,by show t.n*256 ^ 1<=256*t.n;omega,by show 256*t.n+256*t.rng<=(t.n+t.rng)*256 ^ 1;omega⟩
 ·exact In.refl t
def half (t:WS) (k:Nat) (v:Int):WS:=if v=0 then zero t k else one t k
theorem put_eq (t:WS) (k:Nat) (v:Int):put t k v=norm (half t k v):=rfl
theorem In.half {t:WS} (h:Ok t) {k:Nat} (hk:k<400) (v:Int):In t (half t k v):=by
 have hc:=cut_bd h hk
 unfold Pack.half
 by_cases hv:v=0
 ·rw [if_pos hv]
  exact ⟨0,rfl,by show t.n*256 ^ 0<=t.n;omega,by show t.n+cut t k<=(t.n+t.rng)*256 ^ 0;omega⟩
 ·rw [if_neg hv]
  exact ⟨0,rfl,by show t.n*256 ^ 0<=t.n+cut t k;omega,by show t.n+cut t k+(t.rng-cut t k)<=(t.n+t.rng)*256 ^ 0;omega⟩
theorem puts_ok:∀ (l:List (Nat × Int)) (t:WS),Ok t->(∀ p ∈ l,p.1<400)->Ok (puts t l)
 | [],_,h,_=>h
 | (k,v) :: l,_,h,hl=>puts_ok l _ (h.put (hl (k,v) (by simp)) v) (fun p hp=>hl p (by simp [hp]))
theorem puts_in:∀ (l:List (Nat × Int)) (t:WS),Ok t->(∀ p ∈ l,p.1<400)->In t (puts t l)
 | [],t,_,_=>In.refl t
 | (k,v) :: l,t,h,hl=>by
  have hk:=hl (k,v) (by simp)
  have h1:=In.trans (In.half h hk v) (In.norm (half t k v))
  exact In.trans h1 (puts_in l _ (h.put hk v) (fun p hp=>hl p (by simp [hp])))
theorem norm_m (t:WS):(norm t).m<=t.m+1:=by unfold norm;split <;> (first|exact Nat.le_refl _|exact Nat.le_succ _)
theorem half_m (t:WS) (k:Nat) (v:Int):(half t k v).m=t.m:=by unfold half;split <;> rfl
theorem puts_m:∀ (l:List (Nat × Int)) (t:WS),(puts t l).m<=t.m+l.length
 | [],t=>Nat.le_refl _
 | (k,v) :: l,t=>by
  have h:=puts_m l (put t k v)
  have h1:=norm_m (half t k v)
  rw [half_m] at h1
  show (puts (put t k v) l).m<=t.m+(l.length+1)
  have h2:(put t k v).m<=t.m+1:=h1
  omega
theorem puts_snoc (k:Nat) (v:Int):∀ (l:List (Nat × Int)) (t:WS),puts t (l++[(k,v)])=put (puts t l) k v
 | [],_=>rfl
 | (_,_) :: l,_=>puts_snoc k v l _
def digs:Nat->Int->List Int
 | 0,_=>[]
 | m+1,x=>digs m (x / 256)++[x % 256]
theorem digs_length:∀ (m:Nat) (x:Int),(digs m x).length=m
 | 0,_=>rfl
 | m+1,x=>by rw [digs,List.length_append,digs_length m];rfl
theorem digs_get:∀ (m:Nat) (x:Int) (i:Nat),i<m->(digs m x).getD i 0=x / 256 ^ (m-1-i) % 256
 | 0,_,i,h=>absurd h (by omega)
 | m+1,x,i,h=>by
  rw [digs,List.getD_eq_getElem?_getD]
  rcases Nat.lt_or_ge i m with hi|hi
  ·rw [List.getElem?_append_left (by rw [digs_length];exact hi),<- List.getD_eq_getElem?_getD,digs_get m (x / 256) i hi]
   rw [show m+1-1-i=(m-1-i)+1 by omega,Int.pow_succ,Int.mul_comm,Int.ediv_ediv_of_nonneg (by decide)]
  ·obtain rfl:i=m:=by omega
   rw [List.getElem?_append_right (by rw [digs_length];exact Nat.le_refl _),digs_length,Nat.sub_self]
   simp
theorem digs_bd:∀ (m:Nat) (x:Int),∀ z ∈ digs m x,0<=z/\z<=255
 | 0,_,z,h=>by simp [digs] at h
 | m+1,x,z,h=>by
  rw [digs,List.mem_append] at h
  rcases h with h|h
  ·exact digs_bd m _ z h
  ·simp at h;subst h;omega
end Pack
namespace Pack
structure BytesOf (S:ByteArray) (V:Int) (M:Nat):Prop where
 size:S.size=M+4
 at':∀ i,i<M+4->Rdr.byteAt S i=V / 256 ^ (M+3-i) % 256
structure Rel (V:Int) (M:Nat) (t:WS) (r:RS):Prop where
 err:r.err=0
 pos:r.pos=t.m+4
 rng:r.rng=t.rng
 ch:r.ch=t.ch
 le:t.m<=M
 code:r.code=V / 256 ^ (M-t.m)-t.n
theorem rel_norm {S:ByteArray} {V:Int} {M:Nat} (hS:BytesOf S V M) {t:WS} {r:RS} (h:Rel V M t r) (hm:(norm t).m<=M):Rel V M (norm t) (Rdr.norm S r):=by
 obtain ⟨h1,h2,h3,h4,h5,h6⟩:=h
 unfold norm Rdr.norm at *
 by_cases hl:t.rng<16777216
 ·rw [if_pos hl] at hm ⊢
  rw [if_pos (by rw [h3];exact hl)]
  have hm':t.m+1<=M:=hm
  have hp:r.pos<S.size:=by rw [h2,hS.size];omega
  have ho:Rdr.octS S r={ r with pos:=r.pos+1 }:=by unfold Rdr.octS;rw [if_pos hp]
  have hb:Rdr.octB S r=V / 256 ^ (M-(t.m+1)) % 256:=by
   unfold Rdr.octB
   rw [if_pos hp,hS.at' _ (by omega),h2,show M+3-(t.m+4)=M-(t.m+1) by omega]
  unfold Rdr.pull
  rw [ho,hb]
  refine ⟨h1,by show r.pos+1=t.m+1+4;omega,by show 256*r.rng=256*t.rng;rw [h3],h4,hm',?_⟩
  show 256*r.code+V / 256 ^ (M-(t.m+1)) % 256=V / 256 ^ (M-(t.m+1))-256*t.n
  rw [h6,show M-t.m=(M-(t.m+1))+1 by omega,Int.pow_succ,<- Int.ediv_ediv_of_nonneg (Int.pow_nonneg (by decide))]
  omega
 ·rw [if_neg hl] at hm ⊢
  rw [if_neg (by rw [h3];exact hl)]
  exact ⟨h1,h2,h3,h4,h5,h6⟩
theorem rel_step {S:ByteArray} {V:Int} {M:Nat} (hS:BytesOf S V M) {t u:WS} {r:RS} (h:Rel V M t r) {k:Nat} {v:Int} (hv:v=0 \/ v=1) (hin:In (put t k v) u) (hV:V=u.n) (hM:M=u.m) (hu:0<u.rng) :
  Rdr.bitV r k=v/\Rel V M (put t k v) (Rdr.bitS S r k):=by
 have hm:(put t k v).m<=M:=by obtain ⟨d,h1,_⟩:=hin;omega
 obtain ⟨d,hd1,hd2,hd3⟩:=In.trans (In.norm (half t k v)) (by rw [<- put_eq];exact hin)
 rw [half_m] at hd1
 have hp:(0:Int)<256 ^ d:=Int.pow_pos (by decide)
 have hdd:M-t.m=d:=by omega
 have hcut:Rdr.cut r k=cut t k:=by unfold Rdr.cut cut;rw [h.rng,h.ch]
 have hcode:=h.code
 rw [hdd] at hcode
 rcases hv with rfl|rfl
 ·have hlt:V / 256 ^ d<t.n+cut t k:=by
   refine Int.ediv_lt_of_lt_mul hp ?_
   have:u.n+u.rng<=(t.n+cut t k)*256 ^ d:=hd3
   omega
  have hc:r.code<Rdr.cut r k:=by rw [hcut,hcode];omega
  have e1:Rdr.bitV r k=0:=by unfold Rdr.bitV;rw [if_pos h.err,if_pos hc]
  have e2:Rdr.bitS S r k=Rdr.norm S (Rdr.zero r k):=by unfold Rdr.bitS;rw [if_pos h.err,if_pos hc]
  refine ⟨e1,?_⟩
  rw [e2]
  refine rel_norm hS (t:=zero t k) ⟨h.err,h.pos,hcut,?_,h.le,h.code⟩ hm
  show r.ch.set k _=t.ch.set k _
  rw [h.ch]
 ·have hge:t.n+cut t k<=V / 256 ^ d:=by
   refine Int.le_ediv_of_mul_le hp ?_
   have:(t.n+cut t k)*256 ^ d<=u.n:=hd2
   omega
  have hc:¬ r.code<Rdr.cut r k:=by rw [hcut,hcode];omega
  have e1:Rdr.bitV r k=1:=by unfold Rdr.bitV;rw [if_pos h.err,if_neg hc]
  have e2:Rdr.bitS S r k=Rdr.norm S (Rdr.one r k):=by unfold Rdr.bitS;rw [if_pos h.err,if_neg hc]
  refine ⟨e1,?_⟩
  rw [e2]
  refine rel_norm hS (t:=one t k) ⟨h.err,h.pos,?_,?_,h.le,?_⟩ hm
  ·show r.rng-Rdr.cut r k=t.rng-cut t k;rw [hcut,h.rng]
  ·show r.ch.set k _=t.ch.set k _
   rw [h.ch]
  ·show r.code-Rdr.cut r k=V / 256 ^ (M-t.m)-(t.n+cut t k)
   rw [hcut,h.code];omega
theorem four_code {S:ByteArray} {V:Int} {M:Nat} (hS:BytesOf S V M) (h0:0<=V) (h1:V<256 ^ (M+4)) (ch:List Int):∀ n,n<=4->(Rdr.four S (Rdr.r0 ch) n).code=V / 256 ^ (M+4-n)/\(Rdr.four S (Rdr.r0 ch) n).pos=n/\(Rdr.four S (Rdr.r0 ch) n).err=0
 | 0,_=>⟨by show (0:Int)=V / 256 ^ (M+4);rw [Int.ediv_eq_zero_of_lt h0 h1],rfl,rfl⟩
 | n+1,hn=>by
  obtain ⟨c1,c2,c3⟩:=four_code hS h0 h1 ch n (by omega)
  have hp:(Rdr.four S (Rdr.r0 ch) n).pos<S.size:=by rw [c2,hS.size];omega
  have hb:Rdr.octB S (Rdr.four S (Rdr.r0 ch) n)=V / 256 ^ (M+4-(n+1)) % 256:=by
   unfold Rdr.octB
   rw [if_pos hp,hS.at' _ (by rw [c2];omega),c2,show M+3-n=M+4-(n+1) by omega]
  rw [Rdr.four_succ,show Rdr.octS S (Rdr.four S (Rdr.r0 ch) n)={ Rdr.four S (Rdr.r0 ch) n with pos:=(Rdr.four S (Rdr.r0 ch) n).pos+1 } by unfold Rdr.octS;rw [if_pos hp]]
  refine ⟨?_,by show (Rdr.four S (Rdr.r0 ch) n).pos+1=n+1;rw [c2],c3⟩
  show 256*(Rdr.four S (Rdr.r0 ch) n).code+Rdr.octB S (Rdr.four S (Rdr.r0 ch) n)=V / 256 ^ (M+4-(n+1))
  rw [hb,c1,show M+4-n=(M+4-(n+1))+1 by omega,Int.pow_succ,<- Int.ediv_ediv_of_nonneg (Int.pow_nonneg (by decide))]
  omega
def fin (l:List (Nat × Int)):WS:=puts init l
def BitsOk (l:List (Nat × Int)):Prop:=∀ p ∈ l,p.1<400/\(p.2=0 \/ p.2=1)
theorem fin_bd {l:List (Nat × Int)} (hl:BitsOk l):0<=(fin l).n/\(fin l).n<4294967295*256 ^ (fin l).m:=by
 have ok:=puts_ok l _ init_ok (fun p hp=>(hl p hp).1)
 obtain ⟨d,h1,h2,h3⟩:=puts_in l _ init_ok (fun p hp=>(hl p hp).1)
 have hm:(puts init l).m=d:=by rw [h1];exact Nat.zero_add d
 have h3':(puts init l).n+(puts init l).rng<=(0+4294967295)*256 ^ d:=h3
 have:=ok.r0
 refine ⟨ok.n0,?_⟩
 show (puts init l).n<4294967295*256 ^ (puts init l).m
 rw [hm];omega
theorem start_rel {S:ByteArray} {l:List (Nat × Int)} (hl:BitsOk l) (hS:BytesOf S (fin l).n (fin l).m):Rel (fin l).n (fin l).m init (Rdr.start S ch0):=by
 obtain ⟨b0,b1⟩:=fin_bd hl
 have hp:(0:Int)<256 ^ (fin l).m:=Int.pow_pos (by decide)
 have h4:(fin l).n<256 ^ ((fin l).m+4):=by
  rw [Int.pow_add]
  have:(4294967295:Int)*256 ^ (fin l).m<=256 ^ (fin l).m*256 ^ 4:=by
   rw [Int.mul_comm]
   exact Int.mul_le_mul_of_nonneg_left (by decide) (Int.le_of_lt hp)
  omega
 obtain ⟨c1,c2,c3⟩:=four_code hS b0 h4 ch0 4 (by omega)
 obtain ⟨f1,f2,f3,f4,f5,f6⟩:=Rdr.four_facts S ch0 4
 have hc:(Rdr.four S (Rdr.r0 ch0) 4).code<4294967295:=by
  rw [c1,show (fin l).m+4-4=(fin l).m by omega]
  exact Int.ediv_lt_of_lt_mul hp b1
 rw [Rdr.start_eq,if_neg (fun h=>by omega)]
 refine ⟨c3,c2,f3,f2,Nat.zero_le _,?_⟩
 rw [c1,show (fin l).m+4-4=(fin l).m-init.m from rfl]
 show _=_-(0:Int)
 omega
end Pack
namespace Rdr
end Rdr
end Go.Proofs.YtekfbphnoibnjaaGreatDoor
