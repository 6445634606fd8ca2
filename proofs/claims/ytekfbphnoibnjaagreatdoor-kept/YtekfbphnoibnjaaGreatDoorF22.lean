/-
  KpFilm KpSame KpSim
-/
import Derived.Test.YtekfbphnoibnjaaGreatDoorF21
set_option maxHeartbeats 4000000
namespace Go.Proofs.YtekfbphnoibnjaaGreatDoor
section
open Go.RowKit
open Flm (Px okPx)
theorem at_bd (i k:Nat) (h:k<=256):i*768+3*k<=(i+1)*768:=by omega
theorem mod_bd (y:Int):0<=y % 256/\y % 256<=255:=by omega
theorem px_store {w:World} {A:Nat} {p0 p1 p2:Int} (h:w.heap[A]?=some (.cells #[.int .u8 p0,.int .u8 p1,.int .u8 p2] 50 (0,0))) (hok:okPx (p0,p1,p2)) {j:Nat} (hj:j<3) {x:Int} (hx:0<=x/\x<=255) :
  ∃ q0 q1 q2,okPx (q0,q1,q2)/\(w.setCell ⟨A,j,none⟩ (.int .u8 x)).heap[A]?=some (.cells #[.int .u8 q0,.int .u8 q1,.int .u8 q2] 50 (0,0)):=by
 have h1:=Go.heap_setCell_same w A j _ _ (.int .u8 x) h
 rw [h1]
 match j,hj with
 | 0,_=>exact ⟨x,p1,p2,⟨hx,hok.2.1,hok.2.2⟩,by simp⟩
 | 1,_=>exact ⟨p0,x,p2,⟨hok.1,hx,hok.2.2⟩,by simp⟩
 | 2,_=>exact ⟨p0,p1,x,⟨hok.1,hok.2.1,hx⟩,by simp⟩
theorem px_done {w wk:World} {A m c:Nat} {p0 p1 p2:Int} (h:okPx (p0,p1,p2)/\w.heap[A]?=some (.cells #[.int .u8 p0,.int .u8 p1,.int .u8 p2] 50 (0,0))/\Below A wk w) {j:Nat} (hj:j<3) (hm:m<=c+j) {y:Int} :
  ∃ (m2 j2:Nat) (p0 p1 p2:Int),Value.int .i64 ((m:Int)+1)=.int .i64 m2/\m2<=c+j2/\j2<=3/\Value.int .i64 ((j:Int)+1)=.int .i64 j2/\okPx (p0,p1,p2)/\(w.setCell ⟨A,j,none⟩ (.int .u8 (y % 256))).heap[A]?=some (.cells #[.int .u8 p0,.int .u8 p1,.int .u8 p2] 50 (0,0))/\Below A wk (w.setCell ⟨A,j,none⟩ (.int .u8 (y % 256))):=by
 obtain ⟨q0,q1,q2,h1,h2⟩:=px_store h.2.1 h.1 hj (mod_bd y)
 exact ⟨m+1,j+1,q0,q1,q2,by simp,by omega,hj,by simp,h1,h2,h.2.2.setCell (p:=⟨A,j,none⟩) (Nat.le_refl _) _⟩
theorem KF.frm {S:Nat->Prop} {w w':World} {B H z:Nat} {F:List (List Px)} {Lv:Value} {fs:List (Nat × Nat)} (h:KF w B H z F Lv fs) (f:Frm S w w') (hS:∀ k,S k->k<B/\k ≠ H):KF w' B H z F Lv fs :=
 ⟨(f.block H (heap_lt0 h.bx) (fun e=>(hS H e).2 rfl)).trans h.bx,f.owns h.row (fun k hk e=>by have:=(World.ownsRow.lt h.row k hk).1;have:=(hS k e).1;omega),h.ln,fun i hi=>f.owns (h.fr i hi) (fun k hk e=>by have:=(World.ownsRow.lt (h.fr i hi) k hk).1;have:=(hS k e).1;omega),h.ok,h.hB⟩
set_option maxRecDepth 20000 in
theorem kFilm2 (w:World) (c0 c1:Int) (s:ByteArray) (c3:Int) (a0:-9223372036854775808<=c0) (a1:c0<=9223372036854775807) (b0:-9223372036854775808<=c1) (b1:c1<=9223372036854775807) (d0:-9223372036854775808<=c3) (d1:c3<=9223372036854775807) (hs:s.size<=maxLen) :
  Calls Tryz.prog 10 #[.int .i64 c0,.int .i64 c1,.string s,.int .i64 c3] w fun x w'=>(∃ (z:Nat) (F:List (List Px)) (a:Option Addr) (fc B H:Nat) (fs:List (Nat × Nat)),x=.returned (.agg #[.int .i64 z,.slice a F.length fc])/\Pk.FilmOk z F/\w.heap.size<=B/\KF w' B H z F (.slice a F.length fc) fs)/\Below w.heap.size w w':=by
 unfold maxLen at hs
 obtain ⟨i0,hi,hz0,hz1,hz2⟩:=info_parts infoPx
 obtain ⟨j0,hj0,hy0,hy1,hy2⟩:=info_parts infoRow
 obtain ⟨p,hp⟩:∃ p,p=kpk c0 3:=⟨_,rfl⟩
 have hpb:=kpk_bd c0 3 (by decide)
 obtain ⟨q,hq⟩:∃ q,q=kpk c1 9:=⟨_,rfl⟩
 have hqb:=kpk_bd c1 9 (by decide)
 rw [<- hp] at hpb
 rw [<- hq] at hqb
 have HP:Hid (p=kpk c0 3):=hp
 have HQ:Hid (q=kpk c1 9):=hq
 have HA:Hid ((-9223372036854775808<=c0/\c0<=9223372036854775807)/\(-9223372036854775808<=c1/\c1<=9223372036854775807)):=⟨⟨a0,a1⟩,b0,b1⟩
 clear hp hq a0 a1 b0 b1
 go_enter Tryz.func10,Tryz.ntmps10
 go_upto_block 0 with (go_at_call 18;refine (kPick _ c0 3 HA.out.1.1 HA.out.1.2 (by decide) (by decide)).mono ?_;rintro e w' ⟨rfl,hw⟩;rw [hw,<- HP.out];clear hw)
 go_cut [] (fun wx=>∃ z:Nat,(z=4 \/ z=8 \/ z=16)/\wx=(w.alloc (.cells #[.int .i64 0,.slice none 0 0] 27)).alloc (.cells #[.int .i64 z,.slice none 0 0] 27))
 case first =>
  rcases (show p=0 \/ p=1 \/ p=2 by omega) with rfl|rfl|rfl
  ·go_wp2
   go_meet
   exact ⟨4,.inl rfl,rfl⟩
  ·go_wp2
   go_meet
   exact ⟨8,.inr (.inl rfl),rfl⟩
  ·go_wp2
   go_meet
   exact ⟨16,.inr (.inr rfl),rfl⟩
 case rest =>
  obtain ⟨z,hz,hwc⟩:=hcut
  obtain ⟨Q,hQ⟩:∃ Q:Nat,q=(Q:Int):=⟨q.toNat,by omega⟩
  subst hQ
  obtain ⟨Z,hZ⟩:∃ Z,Z=z*z:=⟨_,rfl⟩
  have hZ8:Z<=256:=by rw [hZ];rcases hz with rfl|rfl|rfl <;> decide
  have hw64:wrap64 ((z:Int)*(z:Int))=(Z:Int):=by rw [hZ];rcases hz with rfl|rfl|rfl <;> (unfold wrap64;decide)
  have hwi:IntKind.i64.wrap ((z:Int)*(z:Int))=(Z:Int):=by rw [hZ];rcases hz with rfl|rfl|rfl <;> rfl
  obtain ⟨H,hH⟩:∃ H,H=w.heap.size:=⟨_,rfl⟩
  have hsz:wc.heap.size=H+2:=by rw [hwc,hH];simp
  have x0:wc.heap[H]?=some (.cells #[.int .i64 0,.slice none 0 0] 27 (0,0)):=by rw [hwc,hH,Below.heap_alloc _ _ _ (by simp)];exact heap_alloc_last w _
  have x1:wc.heap[H+1]?=some (.cells #[.int .i64 z,.slice none 0 0] 27 (0,0)):=by
   have k:=heap_alloc_last (w.alloc (.cells #[.int .i64 0,.slice none 0 0] 27)) (.cells #[.int .i64 z,.slice none 0 0] 27)
   rw [World.size_alloc,<- hH] at k
   rw [hwc];exact k
  have I0:Hid (KF wc (H+2) (H+1) z [] (.slice none 0 0) []/\wc.heap[H]?=some (.cells #[.int .i64 0,.slice none 0 0] 27 (0,0))/\Below H w wc) :=
   ⟨⟨x1,World.ownsRow_nil _ _ _ _,rfl,fun i hi=>absurd hi (Nat.not_lt_zero _),fun i p hp=>by simp at hp,by omega⟩,x0,by rw [hwc,hH];exact ((Below.refl _ w).alloc (Nat.le_refl _) _).alloc (by simp) _⟩
  have HZ:Hid (Z=z*z/\(z=4 \/ z=8 \/ z=16)):=⟨hZ,hz⟩
  have HH:Hid (H=w.heap.size):=hH
  have HWR:Hid (wrap64 ((z:Int)*(z:Int))=(Z:Int)/\IntKind.i64.wrap ((z:Int)*(z:Int))=(Z:Int)):=⟨hw64,hwi⟩
  rw [<- hH]
  clear hwc x0 x1 hsz hz hZ hH hw64 hwi
  go_wp2
  go_loopw [10,11] (fun av iv wr=>∃ (m i:Nat) (F:List (List Px)) (Lv:Value) (fs:List (Nat × Nat)),i<=Q/\av=.int .i64 m/\m<=i*768/\iv=.int .i64 i/\F.length=i/\KF wr (H+2) (H+1) z F Lv fs/\wr.heap[H]?=some (.cells #[.int .i64 0,.slice none 0 0] 27 (0,0))/\Below H w wr) (fun _ iv _=>Q-(intOf iv).toNat)
  case atStart=>exact ⟨0,0,[],_,[],Nat.zero_le _,rfl,Nat.zero_le _,rfl,rfl,I0.out.1,I0.out.2.1,I0.out.2.2⟩
  case round =>
   clear I0
   obtain ⟨m,i,F,Lv,fs,hi9,rfl,hm,rfl,hF,hK,hx0,hB⟩:=hrel
   by_cases hlt:i<Q
   ·have hlt':(i:Int)<(Q:Int):=by omega
    obtain ⟨wo,hwo⟩:∃ wo,wo=wr:=⟨wr,rfl⟩
    subst hwo
    have HK:Hid (KF wo (H+2) (H+1) z F Lv fs):=hK
    have HX:Hid (wo.heap[H]?=some (.cells #[.int .i64 0,.slice none 0 0] 27 (0,0))/\Below H w wo/\F.length=i):=⟨hx0,hB,hF⟩
    have HBX:Hid (∀ wx,Below wo.heap.size wo wx->wx.cell? ⟨H+1,0,none⟩=some (.int .i64 z)):=fun wx bx=>cell_of_row _ _ 0 _ _ _ (hK.below bx).bx
    clear hK hx0 hB hF
    go_wp2_with (go_at_call 18;refine (kPick _ c1 9 HA.out.2.1 HA.out.2.2 (by decide) (by decide)).mono ?_;rintro e w' ⟨rfl,hw⟩;rw [hw,<- HQ.out];clear hw)
    go_loopw [10,12,13] (fun av lv kv wx=>∃ (m' k:Nat) (ps:List Px),av=.int .i64 m'/\m'<=i*768+3*k/\k<=Z/\kv=.int .i64 k/\wx.ownsRow wo.heap.size 50 3 lv k (pxCells ps)/\(∀ p ∈ ps,okPx p)/\Below wo.heap.size wo wx) (fun _ _ kv _=>Z-(intOf kv).toNat)
    case atStart=>exact ⟨m,0,[],rfl,by omega,Nat.zero_le _,rfl,World.ownsRow_nil _ _ _ _,fun p hp=>by simp at hp,Below.refl _ _⟩
    case round =>
     obtain ⟨m',k,ps,rfl,hm',hk,rfl,hown,hps,hbx⟩:=hrel
     have kz:=HBX.out wr hbx
     by_cases hkz:k<Z
     ·have hkz':(k:Int)<(Z:Int):=by omega
      obtain ⟨A,hA⟩:∃ A,A=wr.heap.size:=⟨_,rfl⟩
      obtain ⟨W4,hW4⟩:∃ W4,W4=wr.alloc (.cells #[.int .u8 0,.int .u8 0,.int .u8 0] 50):=⟨_,rfl⟩
      have I4:Hid (W4.heap[A]?=some (.cells #[.int .u8 0,.int .u8 0,.int .u8 0] 50 (0,0))/\Below A wr W4):=⟨by rw [hW4,hA];exact heap_alloc_last wr _,by rw [hW4,hA];exact (Below.refl _ wr).alloc (Nat.le_refl _) _⟩
      have HW4:Hid (W4=wr.alloc (.cells #[.int .u8 0,.int .u8 0,.int .u8 0] 50)/\A=wr.heap.size):=⟨hW4,hA⟩
      have HO:Hid (wr.ownsRow wo.heap.size 50 3 u12 k (pxCells ps)/\(∀ p ∈ ps,okPx p)/\Below wo.heap.size wo wr):=⟨hown,hps,hbx⟩
      obtain ⟨wk,hwk⟩:∃ wk,wk=wr:=⟨wr,rfl⟩
      subst hwk
      clear hW4 hA hown hps hbx
      obtain ⟨hw64,hwi⟩:=HWR.out
      go_upto_block 5 with (rw [<- HW4.out.1,<- HW4.out.2])
      clear hw64 hwi kz
      go_cut [10] (fun av wy=>∃ (m2:Nat) (p0 p1 p2:Int),av=.int .i64 m2/\m2<=i*768+3*k+3/\okPx (p0,p1,p2)/\wy.heap[A]?=some (.cells #[.int .u8 p0,.int .u8 p1,.int .u8 p2] 50 (0,0))/\Below A wk wy)
      case first =>
       go_wp2
       go_loopw [10,15] (fun av jv wy=>∃ (m2 j:Nat) (p0 p1 p2:Int),av=.int .i64 m2/\m2<=i*768+3*k+j/\j<=3/\jv=.int .i64 j/\okPx (p0,p1,p2)/\wy.heap[A]?=some (.cells #[.int .u8 p0,.int .u8 p1,.int .u8 p2] 50 (0,0))/\Below A wk wy) (fun _ jv _=>3-(intOf jv).toNat)
       case atStart=>exact ⟨m',0,0,0,0,rfl,hm',Nat.zero_le _,rfl,⟨⟨by decide,by decide⟩,⟨by decide,by decide⟩,⟨by decide,by decide⟩⟩,I4.out.1,I4.out.2⟩
       case round =>
        obtain ⟨m2,j,p0,p1,p2,rfl,hm2,hj3,rfl,hpx,hc,hb⟩:=hrel
        by_cases hj:j<3
        ·have hj':(j:Int)<3:=by omega
         by_cases hs0:s=⟨#[]⟩
         ·subst hs0
          have HC:Hid (okPx (p0,p1,p2)/\wr.heap[A]?=some (.cells #[.int .u8 p0,.int .u8 p1,.int .u8 p2] 50 (0,0))/\Below A wk wr):=⟨hpx,hc,hb⟩
          clear hpx hc hb
          go_wp2
          go_meet
          exact ⟨m2,p0,p1,p2,rfl,by omega,HC.out.1,HC.out.2.1,HC.out.2.2⟩
         ·have HC:Hid (okPx (p0,p1,p2)/\wr.heap[A]?=some (.cells #[.int .u8 p0,.int .u8 p1,.int .u8 p2] 50 (0,0))/\Below A wk wr):=⟨hpx,hc,hb⟩
          obtain ⟨pj,cz⟩:∃ pj,wr.cell? ⟨A,j,none⟩=some (.int .u8 pj):=by
           rw [cell_of_row _ _ j _ _ _ hc]
           match j,hj with
           | 0,_=>exact ⟨p0,rfl⟩
           | 1,_=>exact ⟨p1,rfl⟩
           | 2,_=>exact ⟨p2,rfl⟩
          have fz:wr.frozen? ⟨A,j,none⟩=false:=frozen_of_row _ _ j _ _ hc
          have hs1:0<s.size:=by
           rcases Nat.eq_zero_or_pos s.size with h|h
           ·exact absurd (ByteArray.ext (Array.eq_empty_of_size_eq_zero h)) hs0
           ·exact h
          have hr0:0<=(m2:Int) % (s.size:Int):=Int.emod_nonneg _ (by omega)
          have hr1:(m2:Int) % (s.size:Int)<(s.size:Int):=Int.emod_lt_of_pos _ (by omega)
          clear hpx hc hb
          go_wp2
          all_goals first
           | (go_meet;exact ⟨m2,p0,p1,p2,rfl,by omega,HC.out.1,HC.out.2.1,HC.out.2.2⟩)
           | (go_roundw;(case rel=>exact px_done HC.out hj hm2);(case measure=>simp [intOf];omega))
        ·have hj':¬ (j:Int)<3:=by omega
         have HC:Hid (okPx (p0,p1,p2)/\wr.heap[A]?=some (.cells #[.int .u8 p0,.int .u8 p1,.int .u8 p2] 50 (0,0))/\Below A wk wr):=⟨hpx,hc,hb⟩
         clear hpx hc hb
         go_wp2
         go_meet
         exact ⟨m2,p0,p1,p2,rfl,by omega,HC.out.1,HC.out.2.1,HC.out.2.2⟩
      case rest =>
       obtain ⟨m2,p0,p1,p2,rfl,hm2,hpx,hc,hb⟩:=hcut
       have e0:wc.cell? ⟨A,0,none⟩=some (.int .u8 p0):=cell_of_row _ _ 0 _ _ _ hc
       have e1:wc.cell? ⟨A,1,none⟩=some (.int .u8 p1):=cell_of_row _ _ 1 _ _ _ hc
       have e2:wc.cell? ⟨A,2,none⟩=some (.int .u8 p2):=cell_of_row _ _ 2 _ _ _ hc
       have hbk:Below wk.heap.size wk wc:=by rw [<- HW4.out.2];exact hb
       have HB5:Hid (Below wo.heap.size wo wc):=HO.out.2.2.trans (hbk.mono HO.out.2.2.size)
       have HO5:Hid (wc.ownsRow wo.heap.size 50 3 u12 k (pxCells ps)):=(Frm.of_below (S:=fun _=>False) hbk).owns HO.out.1 (fun _ _ e=>e)
       have HPX:Hid (okPx (p0,p1,p2)):=hpx
       have hsz5:wo.heap.size<=wc.heap.size:=HB5.out.size
       clear hc hb hbk hpx
       go_wp2_with (at_builtin;refine wpList_append_own _ rfl (.tmp 69) (.tmp 71) 58 rfl wo.heap.size 50 i0 (.agg #[.int .u8 0,.int .u8 0,.int .u8 0]) 3 3 Tryz.underlying58 hi hz0 hz1 hz2 rfl (by decide) _ k (pxCells ps) rfl ?c0 ⟨wc.heap.size,0,none⟩ 1 1 [.int .u8 p0,.int .u8 p1,.int .u8 p2] rfl rfl ?c1 ?c2 ?c3 ?c4 ?c5 ?_)
       case c0=>exact HO5.out.alloc _
       case c1=>exact news_new _ [.int .u8 p0,.int .u8 p1,.int .u8 p2] 50 _ (by simp)
       case c2=>intro u hu;simp at hu;rcases hu with rfl|rfl|rfl <;> rfl
       case c3=>unfold maxLen;omega
       case c4=>omega
       case c5=>simp;omega
       intro v' w3 hown' hgrow _
       have HN:Hid (w3.ownsRow wo.heap.size 50 3 v' (k+1) (pxCells (ps++[(p0,p1,p2)]))):=by unfold Hid;rw [pxCells_app];exact hown'
       have HB6:Hid (Below wo.heap.size wo w3):=(HB5.out.alloc hsz5 _).grown hgrow (by simp;omega) (fun j e=>(World.ownsRow.lt HO5.out j e).1)
       clear hown' hgrow
       go_wp2
       go_roundw
       case rel=>exact ⟨m2,k+1,ps++[(p0,p1,p2)],rfl,by omega,hkz,by go_num,HN.out,fun p hp=>by rcases List.mem_append.1 hp with h|h;exact HO.out.2.1 p h;rw [List.mem_singleton.1 h];exact HPX.out,HB6.out⟩
       case measure=>simp [intOf];omega
     ·have hkz':¬ (k:Int)<(Z:Int):=by omega
      obtain rfl:k=Z:=by omega
      have hk0:0<k:=by have:=HZ.out;rcases this.2 with e|e|e <;> (rw [this.1,e];decide)
      obtain ⟨g,c,hform,hbg,hgw⟩:=World.ownsRow.form hown hk0
      subst hform
      have hk1:=HK.out.below hbx
      have hbz:=hbx.size
      have kL:wr.cell? ⟨H+1,1,none⟩=some Lv:=cell_of_row _ _ 1 _ _ _ hk1.bx
      have hHz:H+1<wo.heap.size:=heap_lt0 HK.out.bx
      have hHL:∀ j,Lv.ownBlock=some j->H+2<=j:=fun j e=>(World.ownsRow.lt hk1.row j e).1
      have HO7:Hid (wr.ownsRow wo.heap.size 50 3 (.slice (some ⟨g,0,none⟩) k c) k (pxCells ps)/\(∀ p ∈ ps,okPx p)/\Below wo.heap.size wo wr/\KF wr (H+2) (H+1) z F Lv fs):=⟨hown,hps,hbx,hk1⟩
      have HLL:Hid (∀ j,Lv.ownBlock=some j->H+2<=j):=hHL
      clear hown hps hbx hk1 hHL
      obtain ⟨hw64,hwi⟩:=HWR.out
      go_wp2_with (at_builtin;refine wpList_append_own _ rfl (.tmp 74) (.tmp 76) 25 rfl (H+2) 58 j0 (.slice none 0 0) 1 24 Tryz.underlying25 hj0 hy0 hy1 hy2 rfl (by decide) _ F.length (fs.map fun q=>Value.slice (some ⟨q.1,0,none⟩) (z*z) q.2) rfl ?c0 ⟨wr.heap.size,0,none⟩ 1 1 [.slice (some ⟨g,0,none⟩) k c] rfl rfl ?c1 ?c2 ?c3 ?c4 ?c5 ?_)
      clear hw64 hwi
      case c0=>exact HO7.out.2.2.2.row.alloc _
      case c2=>rfl
      case c3=>have:=HX.out.2.2;unfold maxLen;omega
      case c4=>have:=HX.out.2.2;omega
      case c5=>omega
      intro v' w3 hown' hgrow _
      obtain ⟨ra,rc,hv',_⟩:=owns_form hown'
      subst hv'
      have ek:k=z*z:=HZ.out.1
      obtain ⟨w5,hw5⟩:∃ w5,w5=wr.alloc (.cells #[.slice (some ⟨g,0,none⟩) k c] 58):=⟨_,rfl⟩
      have b5:Below wr.heap.size wr w5:=by rw [hw5];exact (Below.refl _ wr).alloc (Nat.le_refl _) _
      rw [<- hw5] at hgrow
      have hk5:=HO7.out.2.2.2.below b5
      have hl5:w5.ownsRow (H+2) 50 3 (.slice (some ⟨g,0,none⟩) (z*z) c) (z*z) (pxCells ps):=by
       rw [<- ek]
       exact owns_base ((Frm.of_below (S:=fun _=>False) b5).owns HO7.out.1 (fun _ _ e=>e)) (by omega)
      have hb5:Below wo.heap.size wo w5:=HO7.out.2.2.1.trans (b5.mono HO7.out.2.2.1.size)
      have hH5:w5.heap[H+1]?=some (.cells #[.int .i64 z,Lv] 27 (0,0)):=hk5.bx
      have hH3:w3.heap[H+1]?=some (.cells #[.int .i64 z,Lv] 27 (0,0)):=(hgrow.block (H+1) (heap_lt0 hH5) (fun e=>by have:=HLL.out (H+1) e.symm;omega)).trans hH5
      have h05:w5.heap[H]?=some (.cells #[.int .i64 0,.slice none 0 0] 27 (0,0)):=(hb5.block H (by omega)).trans HX.out.1
      have h03:w3.heap[H]?=some (.cells #[.int .i64 0,.slice none 0 0] 27 (0,0)):=(hgrow.block H (heap_lt0 h05) (fun e=>by have:=HLL.out H e.symm;omega)).trans h05
      have hs5:=hb5.size
      have HN:Hid (KF (w3.setCell ⟨H+1,1,none⟩ (.slice ra (F.length+1) rc)) (H+2) (H+1) z (F++[ps]) (.slice ra (F.length+1) rc) (fs++[(g,c)])/\(w3.setCell ⟨H+1,1,none⟩ (.slice ra (F.length+1) rc)).heap[H]?=some (.cells #[.int .i64 0,.slice none 0 0] 27 (0,0))/\Below H w (w3.setCell ⟨H+1,1,none⟩ (.slice ra (F.length+1) rc))):=by
       refine ⟨hk5.add hl5 HO7.out.2.1 (by rw [ek] at hown';exact hown') hgrow,(Below.heap_setCell w3 ⟨H+1,1,none⟩ _ H (show H ≠ H+1 by omega)).trans h03,?_⟩
       exact ((HX.out.2.1.trans (hb5.mono (show H<=wo.heap.size by omega))).grown hgrow (show H<=w5.heap.size by omega) (fun j e=>by have:=HLL.out j e;omega)).setCell (p:=⟨H+1,1,none⟩) (show H<=H+1 by omega) _
      have d1:w3.cell? ⟨H+1,1,none⟩=some Lv:=cell_of_row _ _ 1 _ _ _ hH3
      have f1:w3.frozen? ⟨H+1,1,none⟩=false:=frozen_of_row _ _ 1 _ _ hH3
      clear hown' hgrow hw5 b5 hk5 hl5 hb5 hH5 hH3 h05 h03 ek kL kz hs5
      go_wp2
      exact ⟨⟨m',i+1,F++[ps],_,_,hlt,rfl,Nat.le_trans hm' (at_bd i k hZ8),by go_num,by rw [List.length_append,HX.out.2.2];rfl,HN.out.1,HN.out.2.1,HN.out.2.2⟩,by simp [intOf];omega⟩
   ·have hlt':¬ (i:Int)<(Q:Int):=by omega
    obtain ⟨a,fc,hLv,hfr⟩:=hK.film
    subst hLv
    have k0:wr.cell? ⟨H+1,0,none⟩=some (.int .i64 z):=cell_of_row _ _ 0 _ _ _ hK.bx
    have k1:wr.cell? ⟨H+1,1,none⟩=some (.slice a F.length fc):=cell_of_row _ _ 1 _ _ _ hK.bx
    have d0:wr.cell? ⟨H,0,none⟩=some (.int .i64 0):=cell_of_row _ _ 0 _ _ _ hx0
    have d1:wr.cell? ⟨H,1,none⟩=some (.slice none 0 0):=cell_of_row _ _ 1 _ _ _ hx0
    have f0:wr.frozen? ⟨H,0,none⟩=false:=frozen_of_row _ _ 0 _ _ hx0
    have f1:wr.frozen? ⟨H,1,none⟩=false:=frozen_of_row _ _ 1 _ _ hx0
    have HKF:Hid (KF wr (H+2) (H+1) z F (.slice a F.length fc) fs/\Below H w wr/\FrsIn wr a F.length z F (fun i=>(fs.getD i (0,0)).1) (fun i=>(fs.getD i (0,0)).2)):=⟨hK,hB,hfr⟩
    obtain ⟨n,hn⟩:∃ n,n=F.length:=⟨_,rfl⟩
    rw [<- hn] at k1 HKF
    have HNL:Hid (n=F.length/\F.length=i):=⟨hn,hF⟩
    clear hK hx0 hB hfr hF hn
    go_wp2_with (go_at_call 18;refine (kPick _ c1 9 HA.out.2.1 HA.out.2.2 (by decide) (by decide)).mono ?_;rintro e w' ⟨rfl,hw⟩;rw [hw,<- HQ.out];clear hw)
    obtain ⟨W9,hW9⟩:∃ W9,W9=(wr.setCell ⟨H,0,none⟩ (.int .i64 z)).setCell ⟨H,1,none⟩ (.slice a n fc):=⟨_,rfl⟩
    rw [<- hW9]
    have q0:W9.cell? ⟨H,0,none⟩=some (.int .i64 z):=by
     rw [hW9]
     exact cell_off (World.cell?_setCell_same _ _ _ d0) (.inr (by decide))
    have q1:W9.cell? ⟨H,1,none⟩=some (.slice a n fc):=by
     rw [hW9]
     exact World.cell?_setCell_same _ _ _ (cell_off d1 (.inr (by decide)))
    have fr:Frm (fun k=>k=H) wr W9:=by
     rw [hW9]
     exact ((Frm.refl (fun k=>k=H) wr).setCell (p:=⟨H,0,none⟩) (.inl rfl) _).setCell (p:=⟨H,1,none⟩) (.inl rfl) _
    refine bodyPost_ret (v:=.agg #[.int .i64 z,.slice a n fc]) (by simp [results,Tryz.results10,go_sem,q0,q1]) rfl ?_
    have hk9:=HKF.out.1.frm fr (fun k e=>by have e':k=H:=e;omega)
    have hn:=HNL.out.1
    have hi:=HNL.out.2
    refine ⟨⟨z,F,a,fc,H+2,H+1,fs,by rw [hn],⟨HZ.out.2,by omega,fun f hf=>?_,hk9.ok⟩,by rw [<- HH.out];omega,by rw [<- hn];exact hk9⟩,?_⟩
    ·have:=(hk9.fr f hf).1
     rw [pxCells_len] at this
     omega
    ·rw [<- HH.out,hW9]
     exact (HKF.out.2.1.setCell (p:=⟨H,0,none⟩) (Nat.le_refl _) _).setCell (p:=⟨H,1,none⟩) (Nat.le_refl _) _
theorem kFilm (w:World) (c0 c1:Int) (s:ByteArray) (c3:Int) (a0:-9223372036854775808<=c0) (a1:c0<=9223372036854775807) (b0:-9223372036854775808<=c1) (b1:c1<=9223372036854775807) (d0:-9223372036854775808<=c3) (d1:c3<=9223372036854775807) (hs:s.size<=maxLen) :
  Calls Tryz.prog 10 #[.int .i64 c0,.int .i64 c1,.string s,.int .i64 c3] w fun x w'=>(∃ (z:Nat) (F:List (List Px)) (a:Option Addr) (fc:Nat) (nbs cs:Nat->Nat),x=.returned (.agg #[.int .i64 z,.slice a F.length fc])/\Pk.FilmOk z F/\FrsIn w' a F.length z F nbs cs)/\Below w.heap.size w w':=by
 refine (kFilm2 w c0 c1 s c3 a0 a1 b0 b1 d0 d1 hs).mono fun x w' ⟨⟨z,F,a,fc,B,H,fs,e,h1,_,h2⟩,h3⟩=>?_
 obtain ⟨a',c',e1,e2⟩:=h2.film
 simp only [Value.slice.injEq] at e1
 obtain ⟨rfl,e3,rfl⟩:=e1
 exact ⟨⟨z,F,a,fc,_,_,e,h1,e2⟩,h3⟩
end
section
open Go.RowKit
open Flm (Px FS)
set_option maxRecDepth 100000 in
theorem kSame (w:World) (B z fc:Nat) (a:Option Addr) (Lb:Value) (frs:List (List Px)) (ha:FiIn w a frs) (hl:∀ j,j<frs.length->(frs.getD j []).length=z*z) (hb:FilmAt w B Lb z frs) :
  Calls Tryz.prog 13 #[.agg #[.int .i64 z,.slice a frs.length fc],.agg #[.int .i64 z,Lb]] w fun x w'=>x=.returned (.bool true)/\Below w.heap.size w w':=by
 obtain ⟨b,cb,rfl,rb⟩:=hb.row
 obtain ⟨n,hn⟩:∃ n,n=frs.length:=⟨_,rfl⟩
 have h8:n<=8:=by obtain ⟨_,_,_,_,_,_,_,h8,_⟩:=hb;omega
 obtain ⟨Z,hZ⟩:∃ Z,Z=z*z:=⟨_,rfl⟩
 have hZ8:0<Z/\Z<=256:=by obtain ⟨_,_,_,_,_,_,hz,_⟩:=hb;rw [hZ];rcases hz with e|e|e <;> subst e <;> decide
 rw [<- hn]
 obtain ⟨W,hW⟩:∃ W,W=(w.alloc (.cells #[.int .i64 z,.slice a n fc] 27)).alloc (.cells #[.int .i64 z,.slice b n cb] 27):=⟨_,rfl⟩
 have hB:Below w.heap.size w W:=by rw [hW];exact ((Below.refl _ w).alloc (Nat.le_refl _) _).alloc (by simp) _
 have h0:W.heap[w.heap.size]?=some (.cells #[.int .i64 z,.slice a n fc] 27 (0,0)):=by rw [hW,Below.heap_alloc _ _ _ (by simp)];exact heap_alloc_last w _
 have h1:W.heap[w.heap.size+1]?=some (.cells #[.int .i64 z,.slice b n cb] 27 (0,0)):=by
  have:=heap_alloc_last (w.alloc (.cells #[.int .i64 z,.slice a n fc] 27)) (.cells #[.int .i64 z,.slice b n cb] 27)
  rw [World.size_alloc] at this
  rw [hW];exact this
 have k00:W.cell? ⟨w.heap.size,0,none⟩=some (.int .i64 z):=cell_of_row _ _ 0 _ _ _ h0
 have k01:W.cell? ⟨w.heap.size,1,none⟩=some (.slice a n fc):=cell_of_row _ _ 1 _ _ _ h0
 have k10:W.cell? ⟨w.heap.size+1,0,none⟩=some (.int .i64 z):=cell_of_row _ _ 0 _ _ _ h1
 have k11:W.cell? ⟨w.heap.size+1,1,none⟩=some (.slice b n cb):=cell_of_row _ _ 1 _ _ _ h1
 have HW:Hid (W=(w.alloc (.cells #[.int .i64 z,.slice a n fc] 27)).alloc (.cells #[.int .i64 z,.slice b n cb] 27)):=hW
 have HB:Hid (Below w.heap.size w W):=hB
 have HR:Hid (∀ i,i<n->∃ ga go fa fo ca gb fb,a=some ⟨ga,go,none⟩/\b=some ⟨gb,0,none⟩/\W.cell? ⟨ga,go+i,none⟩=some (.slice (some ⟨fa,fo,none⟩) Z ca)/\W.cell? ⟨gb,i,none⟩=some (.slice (some ⟨fb,0,none⟩) Z Z)/\∀ k,k<Z->∃ p0 p1 p2:Int,(W.cell? ⟨fa,fo+k*3,none⟩=some (.int .u8 p0)/\W.cell? ⟨fa,fo+k*3+1,none⟩=some (.int .u8 p1)/\W.cell? ⟨fa,fo+k*3+2,none⟩=some (.int .u8 p2))/\(W.cell? ⟨fb,k*3,none⟩=some (.int .u8 p0)/\W.cell? ⟨fb,k*3+1,none⟩=some (.int .u8 p1)/\W.cell? ⟨fb,k*3+2,none⟩=some (.int .u8 p2))):=fun i hi=>by
  have L:∀ g t u,w.cell? ⟨g,t,none⟩=some u->W.cell? ⟨g,t,none⟩=some u:=fun g t u e=>(hB.cell (p:=⟨g,t,none⟩) (World.block_lt_of_cell? w _ e)).trans e
  obtain ⟨ga,go,ea,hf⟩:=ha.resolve_left (by omega)
  obtain ⟨a1,ca,c1,hp⟩:=hf i (by omega)
  have hli:=hl i (by omega)
  rw [hli,<- hZ] at c1
  obtain ⟨fa,fo,e1,p1⟩:=hp.resolve_left (by omega)
  obtain ⟨gb,fb,eb,c2,p2⟩:=rb i (by omega)
  rw [<- hZ] at c2 p2
  rw [e1] at c1
  refine ⟨ga,go,fa,fo,ca,gb,fb,ea,eb,L _ _ _ c1,L _ _ _ c2,fun k hk=>?_⟩
  obtain ⟨x0,x1,x2⟩:=p1 k (by omega)
  obtain ⟨y0,y1,y2⟩:=p2.cell k hk
  exact ⟨_,_,_,⟨L _ _ _ x0,L _ _ _ x1,L _ _ _ x2⟩,L _ _ _ y0,L _ _ _ y1,L _ _ _ y2⟩
 clear rb ha hb hl hW hB h0 h1 hn hZ
 go_enter Tryz.func13,Tryz.ntmps13
 go_wp2_with (rw [<- HW.out])
 go_loopw [5] (fun i wr=>∃ k:Nat,k<=n/\i=.int .i64 k/\∃ d,wr=W.drewN d) (fun i _=>n-(intOf i).toNat)
 case atStart=>exact ⟨0,by omega,rfl,0,rfl⟩
 case round =>
  obtain ⟨i,hi,rfl,d,rfl⟩:=hrel
  by_cases hlt:i<n
  ·have hlt':(i:Int)<(n:Int):=by omega
   obtain ⟨ga,go,fa,fo,ca,gb,fb,rfl,rfl,c1,c2,HP⟩:=HR.out i hlt
   have HPX:Hid (∀ k,k<Z->∃ p0 p1 p2:Int,(W.cell? ⟨fa,fo+k*3,none⟩=some (.int .u8 p0)/\W.cell? ⟨fa,fo+k*3+1,none⟩=some (.int .u8 p1)/\W.cell? ⟨fa,fo+k*3+2,none⟩=some (.int .u8 p2))/\(W.cell? ⟨fb,k*3,none⟩=some (.int .u8 p0)/\W.cell? ⟨fb,k*3+1,none⟩=some (.int .u8 p1)/\W.cell? ⟨fb,k*3+2,none⟩=some (.int .u8 p2))):=HP
   clear HP
   go_wp2
   go_region
   all_goals
    go_wp2
    go_loopw [6] (fun j wr=>∃ k:Nat,k<=Z/\j=.int .i64 k/\∃ d,wr=W.drewN d) (fun j _=>Z-(intOf j).toNat)
    case atStart=>exact ⟨0,by omega,rfl,_,rfl⟩
    case round =>
     obtain ⟨k,hk,rfl,d2,rfl⟩:=hrel
     by_cases hkz:k<Z
     ·have hkz':(k:Int)<(Z:Int):=by omega
      obtain ⟨p0,p1,p2,⟨x0,x1,x2⟩,y0,y1,y2⟩:=HPX.out k hkz
      have heq:=fun w=>eqPix w p0 p1 p2 p0 p1 p2
      go_wp2
      go_region
      all_goals
       go_wp2
       go_roundw
       case rel=>exact ⟨k+1,by omega,by go_num,_,rfl⟩
       case measure=>simp [intOf];omega
     ·have hkz':¬ ((k:Int)<(Z:Int)):=by omega
      go_wp2
      go_roundw
      case rel=>exact ⟨i+1,by omega,by go_num,_,rfl⟩
      case measure=>simp [intOf];omega
  ·have hlt':¬ (i:Int)<(n:Int):=by omega
   go_wp2
   go_ret
   exact ⟨rfl,below_drewN HB.out d⟩
end
structure Less (t t':ByteArray):Prop where
 sz:t.size=t'.size+1
 eq:∀ i,i<t'.size->Rdr.byteAt t' i=Rdr.byteAt t i
def Al {β:Type} (t':ByteArray) (e:β->RS) (x x':β):Prop:=(e x').err=5 \/ (x'=x/\(e x).pos<=t'.size)
theorem Al.map {β γ:Type} {t':ByteArray} {e:β->RS} {f:γ->RS} {x x':β} (h:Al t' e x x') (g g':β->γ) (hs:(e x').err=5->(f (g' x')).err=5) (hg:g' x=g x) (hp:(f (g x)).pos=(e x).pos):Al t' f (g x) (g' x'):=by
 rcases h with h|⟨rfl,h⟩
 ·exact .inl (hs h)
 ·exact .inr ⟨hg,by rw [hp];exact h⟩
namespace Rdr
theorem fail_five {r:RS} {e:Int} (h:r.err=5):(fail r e).err=5:=by unfold fail;dsimp only;rw [if_neg (by omega)];exact h
theorem fail_al {t':ByteArray} {r r':RS} (h:Al t' id r r') (e:Int):Al t' id (fail r e) (fail r' e):=by
 rcases h with h|⟨rfl,h⟩
 ·exact .inl (fail_five h)
 ·exact .inr ⟨rfl,h⟩
theorem bitS_five {s:ByteArray} {r:RS} (h:r.err=5) (k:Nat):bitS s r k=r:=by unfold bitS;rw [if_neg (by omega)]
theorem norm_al {t t':ByteArray} (L:Less t t') {r:RS} (he:r.err=0) (hp:r.pos<=t'.size):Al t' id (norm t r) (norm t' r):=by
 unfold norm
 by_cases h:r.rng<16777216
 ·rw [if_pos h,if_pos h]
  have hs:=L.sz
  by_cases hq:r.pos<t'.size
  ·have e1:octS t' r=octS t r:=by unfold octS;rw [if_pos hq,if_pos (by omega)]
   have e2:octB t' r=octB t r:=by unfold octB;rw [if_pos hq,if_pos (by omega),L.eq _ hq]
   refine .inr ⟨?_,?_⟩
   ·unfold pull;rw [e1,e2]
   ·show (octS t r).pos<=_
    unfold octS
    rw [if_pos (by omega)]
    exact hq
  ·refine .inl ?_
   show (octS t' r).err=5
   unfold octS
   rw [if_neg hq]
   show (if r.err=0 then (5:Int) else r.err)=5
   rw [if_pos he]
 ·rw [if_neg h,if_neg h]
  exact .inr ⟨rfl,hp⟩
theorem bitS_al {t t':ByteArray} (L:Less t t') {r:RS} (hp:r.pos<=t'.size) (k:Nat):Al t' id (bitS t r k) (bitS t' r k):=by
 unfold bitS
 by_cases he:r.err=0
 ·rw [if_pos he,if_pos he]
  by_cases hc:r.code<cut r k
  ·rw [if_pos hc,if_pos hc];exact norm_al L he hp
  ·rw [if_neg hc,if_neg hc];exact norm_al L he hp
 ·rw [if_neg he,if_neg he]
  exact .inr ⟨rfl,hp⟩
theorem run_five {s:ByteArray} {k:Nat} {r:RS} (h:r.err=5) (f n:Nat):run s k f n r=(n,r):=by
 cases f with
 | zero=>rfl
 | succ f=>unfold run;rw [if_neg (by omega)]
theorem run_al {t t':ByteArray} (L:Less t t') (k:Nat):∀ (f n:Nat) (r r':RS),Al t' id r r'->Al t' Prod.snd (run t k f n r) (run t' k f n r')
 | f,n,r,r',.inl h=>.inl (by have h':r'.err=5:=h;rw [run_five h'];exact h')
 | 0,n,r,r',.inr ⟨e,h⟩=>by subst e;exact .inr ⟨rfl,h⟩
 | f+1,n,r,r',.inr ⟨e,h⟩=>by
  subst e
  unfold run
  by_cases he:r'.err=0
  ·rw [if_pos he,if_pos he]
   have hb:=bitS_al L h (k+n)
   by_cases hv:bitV r' (k+n)=0
   ·rw [if_pos hv,if_pos hv]
    exact hb.map (Prod.mk n) (Prod.mk n) (fun e=>e) rfl rfl
   ·rw [if_neg hv,if_neg hv]
    by_cases h9:n+1=10
    ·rw [if_pos h9,if_pos h9];exact run_al L k f (n+1) _ _ (fail_al hb 8)
    ·rw [if_neg h9,if_neg h9];exact run_al L k f (n+1) _ _ hb
  ·rw [if_neg he,if_neg he]
   exact .inr ⟨rfl,h⟩
theorem lows_five {s:ByteArray} {k:Nat} {r:RS} (h:r.err=5) (f:Nat) (d u:Int):lows s k f d u r=(d,u,r):=by
 cases f with
 | zero=>rfl
 | succ f=>unfold lows;rw [if_neg (by omega)]
theorem lows_al {t t':ByteArray} (L:Less t t') (k:Nat):∀ (f:Nat) (d u:Int) (r r':RS),Al t' id r r'->Al t' (fun q=>q.2.2) (lows t k f d u r) (lows t' k f d u r')
 | f,d,u,r,r',.inl h=>.inl (by have h':r'.err=5:=h;show (lows t' k f d u r').2.2.err=5;rw [lows_five h'];exact h')
 | 0,d,u,r,r',.inr ⟨e,h⟩=>by subst e;exact .inr ⟨rfl,h⟩
 | f+1,d,u,r,r',.inr ⟨e,h⟩=>by
  subst e
  unfold lows
  by_cases he:r'.err=0
  ·rw [if_pos he,if_pos he]
   rcases bitS_al L h k with hb|⟨hb,hp⟩
   ·exact .inl (by
     have hb':(bitS t' r' k).err=5:=hb
     show (lows t' k f (2*d+bitV r' k) (2*u) (bitS t' r' k)).2.2.err=5
     rw [lows_five hb'];exact hb')
   ·have hb':bitS t' r' k=bitS t r' k:=hb
    rw [hb'];exact lows_al L k f _ _ _ _ (.inr ⟨rfl,hp⟩)
  ·rw [if_neg he,if_neg he]
   exact .inr ⟨rfl,h⟩
theorem number_five {s:ByteArray} {r:RS} (h:r.err=5) (k:Nat):(number s r k).2.err=5:=by
 unfold number
 rw [run_five h,lows_five h]
 exact h
theorem number_al {t t':ByteArray} (L:Less t t') {r:RS} (hp:r.pos<=t'.size) (k:Nat):Al t' Prod.snd (number t r k) (number t' r k):=by
 rcases run_al L k 11 0 r r (.inr ⟨rfl,hp⟩) with h|⟨h,h'⟩
 ·refine .inl ?_
  unfold number
  rw [lows_five h]
  exact h
 ·unfold number
  rw [h]
  exact (lows_al L _ _ 0 1 _ _ (.inr ⟨rfl,h'⟩)).map (fun q=>(q.2.1+q.1-1,q.2.2)) (fun q=>(q.2.1+q.1-1,q.2.2)) (fun e=>e) rfl rfl
theorem octS_five {s:ByteArray} {r:RS} (h:r.err=5):(octS s r).err=5:=by
 unfold octS
 split
 ·exact h
 ·show (if r.err=0 then (5:Int) else r.err)=5
  rw [if_neg (by omega)];exact h
theorem four_err (s:ByteArray) (r:RS) (hr:r.err=0):∀ n,(four s r n).err=0 \/ (four s r n).err=5
 | 0=>.inl hr
 | n+1=>by
  show (octS s (four s r n)).err=0 \/ (octS s (four s r n)).err=5
  rcases four_err s r hr n with h|h
  ·unfold octS
   by_cases hq:(four s r n).pos<s.size
   ·rw [if_pos hq];exact .inl h
   ·rw [if_neg hq];exact .inr (by show (if (four s r n).err=0 then (5:Int) else (four s r n).err)=5;rw [if_pos h])
  ·exact .inr (octS_five h)
theorem four_al {t t':ByteArray} (L:Less t t') (r:RS) (hr:r.err=0) (hp:r.pos<=t'.size):∀ n,Al t' id (four t r n) (four t' r n)
 | 0=>.inr ⟨rfl,hp⟩
 | n+1=>by
  have hs:=L.sz
  rcases four_al L r hr hp n with h|⟨e,h⟩
  ·exact .inl (octS_five (s:=t') h)
  ·have e':four t' r n=four t r n:=e
   have h':(four t r n).pos<=t'.size:=h
   rw [four_succ,four_succ,e']
   by_cases hq:(four t r n).pos<t'.size
   ·have e1:octS t' (four t r n)=octS t (four t r n):=by unfold octS;rw [if_pos hq,if_pos (by omega)]
    have e2:octB t' (four t r n)=octB t (four t r n):=by unfold octB;rw [if_pos hq,if_pos (by omega),L.eq _ hq]
    rw [e1,e2]
    refine .inr ⟨rfl,?_⟩
    show (octS t (four t r n)).pos<=_
    unfold octS
    rw [if_pos (by omega)]
    exact hq
   ·refine .inl ?_
    show (octS t' (four t r n)).err=5
    unfold octS
    rw [if_neg hq]
    show (if (four t r n).err=0 then (5:Int) else (four t r n).err)=5
    rcases four_err t r hr n with h0|h0
    ·rw [if_pos h0]
    ·rw [if_neg (by omega)];exact h0
theorem start_al {t t':ByteArray} (L:Less t t') (ch:List Int):Al t' id (start t ch) (start t' ch):=by
 rw [start_eq,start_eq]
 rcases four_al L (r0 ch) rfl (Nat.zero_le _) 4 with h|⟨e,h⟩
 ·have h':(four t' (r0 ch) 4).err=5:=h
  refine .inl ?_
  rw [if_neg (by omega)]
  exact h'
 ·have e':four t' (r0 ch) 4=four t (r0 ch) 4:=e
  rw [e']
  refine .inr ⟨rfl,?_⟩
  have h':(four t (r0 ch) 4).pos<=t'.size:=h
  split
  ·exact h'
  ·exact h'
end Rdr
namespace Flm
theorem soft1_al {t t':ByteArray} (L:Less t t') {z:Nat} {fs:FS} (hp:fs.r.pos<=t'.size) (i j:Nat):Al t' (fun q=>q.1.r) (soft1 t z fs i j) (soft1 t' z fs i j):=by
 rcases Rdr.number_al L hp 100 with h1|⟨e1,p1⟩
 ·refine .inl ?_
  have h3:=Rdr.number_five (s:=t') (Rdr.number_five (s:=t') h1 124) 148
  unfold soft1
  dsimp only
  split
  ·exact h3
  ·exact Rdr.fail_five h3
 ·rcases Rdr.number_al L p1 124 with h2|⟨e2,p2⟩
  ·refine .inl ?_
   have h3:=Rdr.number_five (s:=t') h2 148
   unfold soft1
   dsimp only
   rw [e1]
   split
   ·exact h3
   ·exact Rdr.fail_five h3
  ·rcases Rdr.number_al L p2 148 with h3|⟨e3,p3⟩
   ·refine .inl ?_
    unfold soft1
    dsimp only
    rw [e1,e2]
    split
    ·exact h3
    ·exact Rdr.fail_five h3
   ·refine .inr ⟨?_,?_⟩
    ·unfold soft1 Rdr.signed
     dsimp only
     rw [e1,e2,e3]
    ·unfold soft1
     dsimp only
     split
     ·exact p3
     ·exact p3
theorem soft_al {t t':ByteArray} (L:Less t t') {z:Nat}:∀ (ps:List (Nat × Nat)) (fs:FS),fs.r.pos<=t'.size->Al t' FS.r (soft t z ps fs) (soft t' z ps fs)
 | [],_,h=>.inr ⟨rfl,h⟩
 | (i,j) :: ps,fs,h=>by
  rcases soft1_al L (z:=z) h i j with h1|⟨e1,p1⟩
  ·have h1':(soft1 t' z fs i j).1.r.err=5:=h1
   refine .inl ?_
   unfold soft
   dsimp only
   rw [if_neg (by omega)]
   exact h1'
  ·unfold soft
   dsimp only
   rw [e1]
   by_cases he:(soft1 t z fs i j).1.r.err=0
   ·rw [if_pos he,if_pos he]
    exact soft_al L ps _ p1
   ·rw [if_neg he,if_neg he]
    exact .inr ⟨rfl,p1⟩
theorem shade_five {s:ByteArray} {r:RS} (h:r.err=5):(shade s r).2.err=5:=by
 have h1:=Rdr.number_five (s:=s) h 224
 unfold shade
 dsimp only
 split
 ·exact Rdr.fail_five h1
 ·exact h1
theorem shade_al {t t':ByteArray} (L:Less t t') {r:RS} (hp:r.pos<=t'.size):Al t' Prod.snd (shade t r) (shade t' r):=by
 rcases Rdr.number_al L hp 224 with h1|⟨e1,p1⟩
 ·refine .inl ?_
  unfold shade
  dsimp only
  split
  ·exact Rdr.fail_five h1
  ·exact h1
 ·refine .inr ⟨?_,?_⟩
  ·unfold shade;rw [e1]
  ·unfold shade
   dsimp only
   split
   ·exact p1
   ·exact p1
theorem colour_al {t t':ByteArray} (L:Less t t') {r:RS} (hp:r.pos<=t'.size):Al t' Prod.snd (colour t r) (colour t' r):=by
 rcases shade_al L hp with h1|⟨e1,p1⟩
 ·exact .inl (shade_five (shade_five h1))
 ·rcases shade_al L p1 with h2|⟨e2,p2⟩
  ·refine .inl ?_
   unfold colour
   dsimp only
   rw [e1]
   exact shade_five h2
  ·rcases shade_al L p2 with h3|⟨e3,p3⟩
   ·refine .inl ?_
    unfold colour
    dsimp only
    rw [e1,e2]
    exact h3
   ·refine .inr ⟨?_,p3⟩
    unfold colour
    dsimp only
    rw [e1,e2,e3]
theorem colours_al {t t':ByteArray} (L:Less t t'):∀ (n:Nat) (r:RS),r.pos<=t'.size->Al t' Prod.snd (colours t n r) (colours t' n r)
 | 0,_,h=>.inr ⟨rfl,h⟩
 | n+1,r,h=>by
  unfold colours
  by_cases he:r.err=0
  ·rw [if_pos he,if_pos he]
   dsimp only
   rcases colour_al L h with h1|⟨e1,p1⟩
   ·refine .inl ?_
    show (colours t' n (colour t' r).2).2.err=5
    rw [colours_err (by omega)]
    exact h1
   ·rw [e1]
    exact (colours_al L n _ p1).map (fun q=>((colour t r).1 :: q.1,q.2)) (fun q=>((colour t r).1 :: q.1,q.2)) (fun e=>e) rfl rfl
  ·rw [if_neg he,if_neg he]
   exact .inr ⟨rfl,h⟩
theorem which_five {s:ByteArray} {r:RS} (h:r.err=5) (f k:Nat):(which s f k r).2.err=5:=by
 cases f with
 | zero=>exact h
 | succ f =>
  unfold which
  rw [if_pos (by unfold Rdr.bitV;rw [if_neg (by omega)]),Rdr.bitS_five h]
  exact h
theorem which_al {t t':ByteArray} (L:Less t t'):∀ (f k:Nat) (r:RS),r.pos<=t'.size->Al t' Prod.snd (which t f k r) (which t' f k r)
 | 0,_,_,h=>.inr ⟨rfl,h⟩
 | f+1,k,r,h=>by
  unfold which
  have hb:=Rdr.bitS_al L h (250+k)
  by_cases hv:Rdr.bitV r (250+k)=0
  ·rw [if_pos hv,if_pos hv]
   exact hb.map (Prod.mk k) (Prod.mk k) (fun e=>e) rfl rfl
  ·rw [if_neg hv,if_neg hv]
   rcases hb with hb|⟨hb,hp⟩
   ·exact .inl (which_five hb f (k+1))
   ·have hb':Rdr.bitS t' r (250+k)=Rdr.bitS t r (250+k):=hb
    rw [hb'];exact which_al L f (k+1) _ hp
theorem fills_five {s:ByteArray} {z n:Nat} {l:List Px} {ps:List (Nat × Nat)} {fs:FS} (h:fs.r.err=5):(fills s z n l ps fs).r.err=5:=by
 rw [fills_err (by omega)];exact h
theorem fills_al {t t':ByteArray} (L:Less t t') {z n:Nat} {l:List Px}:∀ (ps:List (Nat × Nat)) (fs:FS),fs.r.pos<=t'.size->Al t' FS.r (fills t z n l ps fs) (fills t' z n l ps fs)
 | [],_,h=>.inr ⟨rfl,h⟩
 | (i,j) :: ps,fs,h=>by
  unfold fills
  by_cases he:fs.r.err=0
  ·rw [if_pos he,if_pos he]
   dsimp only
   rcases which_al L n 0 fs.r h with h1|⟨e1,p1⟩
   ·refine .inl ?_
    rw [if_neg (by omega)]
    exact fills_five h1
   ·rw [e1]
    by_cases hq:(which t n 0 fs.r).2.err=0
    ·rw [if_pos hq,if_pos hq];exact fills_al L ps _ p1
    ·rw [if_neg hq,if_neg hq];exact fills_al L ps _ p1
  ·rw [if_neg he,if_neg he]
   exact .inr ⟨rfl,h⟩
theorem few_al {t t':ByteArray} (L:Less t t') {z x y side:Nat} {fs:FS} (h:fs.r.pos<=t'.size):Al t' FS.r (few t z x y side fs) (few t' z x y side fs):=by
 rcases Rdr.number_al L h 200 with h1|⟨e1,p1⟩
 ·refine .inl ?_
  have h2:(if 3<(Rdr.number t' fs.r 200).1 then Rdr.fail (Rdr.number t' fs.r 200).2 8 else (Rdr.number t' fs.r 200).2).err=5:=by
   split
   ·exact Rdr.fail_five h1
   ·exact h1
  unfold few
  dsimp only
  refine fills_five ?_
  show (colours t' _ _).2.err=5
  rw [colours_err (by omega)]
  exact h2
 ·have p2:(if 3<(Rdr.number t fs.r 200).1 then Rdr.fail (Rdr.number t fs.r 200).2 8 else (Rdr.number t fs.r 200).2).pos<=t'.size:=by
   split
   ·exact p1
   ·exact p1
  unfold few
  dsimp only
  rw [e1]
  rcases colours_al L ((Rdr.number t fs.r 200).1.toNat+1) _ p2 with h3|⟨e3,p3⟩
  ·exact .inl (fills_five h3)
  ·rw [e3]
   exact fills_al L _ _ p3
theorem copies_al {t t':ByteArray} (L:Less t t') {z x y side k f:Nat} {fs:FS} (h:fs.r.pos<=t'.size):Al t' FS.r (copies t z x y side k f fs) (copies t' z x y side k f fs):=by
 rcases Rdr.number_al L h k with h1|⟨e1,p1⟩
 ·refine .inl ?_
  have h2:=Rdr.number_five (s:=t') h1 (k+24)
  unfold copies
  dsimp only
  rw [if_neg (by omega)]
  exact h2
 ·rcases Rdr.number_al L p1 (k+24) with h2|⟨e2,p2⟩
  ·refine .inl ?_
   unfold copies
   dsimp only
   rw [e1,if_neg (by omega)]
   exact h2
  ·refine .inr ⟨?_,?_⟩
   ·unfold copies Rdr.signed
    dsimp only
    rw [e1,e2]
   ·unfold copies
    dsimp only
    split
    ·split
     ·rw [moves_r];exact p2
     ·exact p2
    ·exact p2
theorem seen_al {t':ByteArray} {z:Nat} {ps:List (Nat × Nat)} {a b:FS} (h:Al t' FS.r a b):Al t' FS.r (seen z ps a) (seen z ps b) :=
 h.map (seen z ps) (seen z ps) (fun e=>by rw [seen_r];exact e) rfl (by rw [seen_r])
theorem block_al {t t':ByteArray} (L:Less t t') {z x y side:Nat} {fs:FS} (h:fs.r.pos<=t'.size):Al t' FS.r (block t z x y side fs) (block t' z x y side fs):=by
 rcases Rdr.bitS_al L h 2 with h1|⟨e1,p1⟩
 ·refine .inl ?_
  have h1':(Rdr.bitS t' fs.r 2).err=5:=h1
  unfold block
  dsimp only
  rw [Rdr.bitS_five h1',if_neg (by omega)]
  exact h1'
 ·have e1':Rdr.bitS t' fs.r 2=Rdr.bitS t fs.r 2:=e1
  rcases Rdr.bitS_al L p1 (3+(Rdr.bitV fs.r 2).toNat) with h2|⟨e2,p2⟩
  ·refine .inl ?_
   have h2':(Rdr.bitS t' (Rdr.bitS t fs.r 2) (3+(Rdr.bitV fs.r 2).toNat)).err=5:=h2
   unfold block
   dsimp only
   rw [e1',if_neg (by omega)]
   exact h2'
  ·have e2':Rdr.bitS t' (Rdr.bitS t fs.r 2) (3+(Rdr.bitV fs.r 2).toNat)=Rdr.bitS t (Rdr.bitS t fs.r 2) (3+(Rdr.bitV fs.r 2).toNat):=e2
   unfold block
   dsimp only
   rw [e1',e2']
   split
   ·split
    ·split
     ·exact seen_al (soft_al L _ _ p2)
     ·exact seen_al (few_al L p2)
    ·split
     ·exact seen_al (copies_al L p2)
     ·split
      ·exact .inr ⟨rfl,p2⟩
      ·exact seen_al (copies_al L p2)
   ·exact .inr ⟨rfl,p2⟩
theorem area_five {s:ByteArray} {z:Nat} {fs:FS} (h:fs.r.err=5) (n x y side:Nat):area s z n x y side fs=fs:=by
 cases n with
 | zero=>unfold area;rw [if_neg (by omega)]
 | succ n=>unfold area;rw [if_neg (by omega)]
theorem area_al {t t':ByteArray} (L:Less t t') {z:Nat}:∀ (n x y side:Nat) (fs fs':FS),Al t' FS.r fs fs'->Al t' FS.r (area t z n x y side fs) (area t' z n x y side fs')
 | n,x,y,side,fs,fs',.inl h=>.inl (by rw [area_five h];exact h)
 | 0,x,y,side,fs,fs',.inr ⟨e,h⟩=>by
  subst e
  unfold area
  by_cases he:fs'.r.err=0
  ·rw [if_pos he,if_pos he];exact block_al L h
  ·rw [if_neg he,if_neg he];exact .inr ⟨rfl,h⟩
 | n+1,x,y,side,fs,fs',.inr ⟨e,h⟩=>by
  subst e
  unfold area
  by_cases he:fs'.r.err=0
  ·rw [if_pos he,if_pos he]
   dsimp only
   have hb:=Rdr.bitS_al L h (if side=16 then 0 else 1)
   have hg:Al t' FS.r { fs' with fr:=now fs',x:=x,y:=y,r:=Rdr.bitS t fs'.r (if side=16 then 0 else 1) } { fs' with fr:=now fs',x:=x,y:=y,r:=Rdr.bitS t' fs'.r (if side=16 then 0 else 1) } :=
    hb.map (fun r=>({ fs' with fr:=now fs',x:=x,y:=y,r:=r }:FS)) (fun r=>({ fs' with fr:=now fs',x:=x,y:=y,r:=r }:FS)) (fun e=>e) rfl rfl
   by_cases hv:Rdr.bitV fs'.r (if side=16 then 0 else 1)=1
   ·rw [if_pos hv,if_pos hv]
    exact area_al L n _ _ _ _ _ (area_al L n _ _ _ _ _ (area_al L n _ _ _ _ _ (area_al L n _ _ _ _ _ hg)))
   ·rw [if_neg hv,if_neg hv]
    rcases hb with hb|⟨hb,hp⟩
    ·have hb':(Rdr.bitS t' fs'.r (if side=16 then 0 else 1)).err=5:=hb
     refine .inl ?_
     rw [if_neg (by omega)]
     exact hb'
    ·have hb':Rdr.bitS t' fs'.r (if side=16 then 0 else 1)=Rdr.bitS t fs'.r (if side=16 then 0 else 1):=hb
     rw [hb']
     by_cases hq:(Rdr.bitS t fs'.r (if side=16 then 0 else 1)).err=0
     ·rw [if_pos hq,if_pos hq];exact block_al L hp
     ·rw [if_neg hq,if_neg hq];exact .inr ⟨rfl,hp⟩
  ·rw [if_neg he,if_neg he];exact .inr ⟨rfl,h⟩
theorem frames_five {s:ByteArray} {z:Nat} {fs:FS} (h:fs.r.err=5) (n:Nat):frames s z n fs=fs:=by
 cases n with
 | zero=>rfl
 | succ n=>unfold frames;rw [if_neg (by omega)]
theorem frames_al {t t':ByteArray} (L:Less t t') {z:Nat}:∀ (n:Nat) (fs fs':FS),Al t' FS.r fs fs'->Al t' FS.r (frames t z n fs) (frames t' z n fs')
 | n,fs,fs',.inl h=>.inl (by rw [frames_five h];exact h)
 | 0,fs,fs',.inr ⟨e,h⟩=>by subst e;exact .inr ⟨rfl,h⟩
 | n+1,fs,fs',.inr ⟨e,h⟩=>by
  subst e
  unfold frames
  by_cases he:fs'.r.err=0
  ·rw [if_pos he,if_pos he]
   exact frames_al L n _ _ (area_al L _ _ _ _ _ _ (.inr ⟨rfl,h⟩))
  ·rw [if_neg he,if_neg he];exact .inr ⟨rfl,h⟩
end Flm
end Go.Proofs.YtekfbphnoibnjaaGreatDoor
