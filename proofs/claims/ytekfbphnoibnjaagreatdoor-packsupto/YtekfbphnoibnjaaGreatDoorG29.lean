/-
  PCopied PPut3
-/
import Derived.Test.YtekfbphnoibnjaaGreatDoorG28
set_option maxHeartbeats 4000000
namespace Go.Proofs.YtekfbphnoibnjaaGreatDoor
section
open Go.RowKit Go.Shelf
open Flm (Px FS okPx)
open Pk (nearL)
def WrPost (w:World) (b:Nat) (v:Value) (t:WS) (l:List (Nat × Int)) (c:Option Pk.Bts) (e:Ending) (w':World):Prop:=e=.returned (.bool c.isSome)/\PutAt w w' b v t l (c.getD [])
theorem sgn_facts {k:Nat} {n:Int} (hk:k+22<=400) (h0:-511<=n) (h1:n<=511):Pack.BitsOk (Pk.sgn k n)/\(Pk.sgn k n).length<=19:=by
 have hf:=Pk.fold_le h0 h1
 have hd:=Pk.dig_le hf
 have hl:=Pk.num_len k (Pk.fold n)
 refine ⟨Pk.num_ok hf hk,?_⟩
 show (Pk.num k (Pk.fold n)).length<=19
 omega
theorem placesO_len (z:Nat) (T:Option (List Px)) (n:Nat) (ps:List Px):(placesO z T n ps).length<=(z-n+1)*(z-n+1):=by
 cases T with
 | none=>exact Nat.zero_le _
 | some T =>
  show (Pk.placesL z T n ps).length<=_
  unfold Pk.placesL
  have:=List.length_filter_le (fun q=>decide (Pk.content z T n q=ps)) (Flm.spots 0 0 (z-n+1))
  rw [Flm.spots_len] at this
  exact this
set_option maxRecDepth 100000 in
theorem pCopiedW (w:World) (q z nb C:Nat) (mh mb:Value) (T:List Px) (h:FwAt w q z nb C mh mb T) (base top:Nat) (hp:Plc w base top mh z (some T)) (b:Nat) (v:Value) (t:WS) (l:List (Nat × Int)) (hdr:DrAt w b v t l)
  (x y n:Nat) (hn:n=4 \/ n=8 \/ n=16) (hx:x+n<=z) (hy:y+n<=z) (ro:Room t l 57) :
  Calls Tryz.prog 109 #[.pointer (some ⟨q,0,none⟩),.pointer (some ⟨b,0,none⟩),.agg #[.int .i64 x,.int .i64 y,.int .i64 n]] w (WrPost w b v t l ((nearL (Pk.mayCopy x y n) x y (placesO z (some T) n (Pk.content z T n (x,y)))).map fun q=>Pk.copyl 260 ((q.1:Int)-x) ((q.2:Int)-y))):=by
 have hmx:Tryz.prog.follows .mixedOrders=true:=by kernel_rfl
 obtain ⟨Z,hZ⟩:∃ Z,Z=z*z:=⟨_,rfl⟩
 obtain ⟨hz16,hzz⟩:=h.z16
 obtain ⟨H,hH⟩:∃ H,H=w.heap.size:=⟨_,rfl⟩
 obtain ⟨W,hW⟩:∃ W,W=w.alloc (.cells #[.int .i64 x,.int .i64 y,.int .i64 n] 100):=⟨_,rfl⟩
 have hB:Below w.heap.size w W:=by rw [hW];exact (Below.refl _ w).alloc (Nat.le_refl _) _
 have hx0:W.heap[H]?=some (.cells #[.int .i64 x,.int .i64 y,.int .i64 n] 100 (0,0)):=by rw [hW,hH];exact heap_alloc_last w _
 have hW2:=h.below hB
 have hT:=h.ok
 have hz:=h.zz
 have n16:4<=n/\n<=16:=by omega
 have c0:=hW2.c0
 have c1:=hW2.c1
 have cm:=hW2.c2
 rw [<- hZ] at c1
 have d0:=cell_of_row _ _ 0 _ _ _ hx0
 have d1:=cell_of_row _ _ 1 _ _ _ hx0
 have d2:=cell_of_row _ _ 2 _ _ _ hx0
 simp at d0 d1 d2
 obtain ⟨PL,hPL⟩:∃ PL,PL=placesO z (some T) n (Pk.content z T n (x,y)):=⟨_,rfl⟩
 rw [<- hPL]
 obtain ⟨NR,hNR⟩:∃ NR,NR=nearL (Pk.mayCopy x y n) x y PL:=⟨_,rfl⟩
 obtain ⟨R,hR⟩:∃ R,R=contL n (Pk.content z T n (x,y)):=⟨_,rfl⟩
 have hgk:GoodK (n,Pk.content z T n (x,y)):=kap_good hT n16.2 (x,y)
 have hBd:Below W.heap.size W W.drew:=⟨rfl,rfl,rfl,Nat.le_refl _,fun _ _=>rfl⟩
 have hPLm:∀ p ∈ PL,p.1+n<=z/\p.2+n<=z:=fun p hp=>placesO_mem (by omega) (by rw [hPL] at hp;exact hp)
 have HCT:Hid (Calls Tryz.prog 106 #[.agg #[.int .i64 z,.slice (some ⟨nb,0,none⟩) Z C],.agg #[.int .i64 x,.int .i64 y,.int .i64 n]] W.drew fun e w'=>e=.returned (.agg R.toArray)/\Below W.heap.size W w'):=by
  have:=pContent (C:=C) W.drew nb z T hz (hW2.px.below hBd) x y n hx hy
  rw [<- hZ,<- hR] at this
  exact this.mono fun e w' he=>⟨he.1,hBd.trans he.2⟩
 have hlen:PL.length<=1000:=by
  have h1:PL.length<=(z-n+1)*(z-n+1):=by
   rw [hPL]
   exact placesO_len z (some T) n _
  have h2:(z-n+1)*(z-n+1)<=13*13:=Nat.mul_le_mul (by omega) (by omega)
  omega
 have HNE:Hid (∀ wa,Below W.heap.size W wa->Calls Tryz.prog 141 #[mh,.agg R.toArray,.agg #[.int .i64 x,.int .i64 y,.int .i64 n],.func (.func 139) #[] #[.pointer (some ⟨H,0,none⟩)]] wa fun e w'=>e=.returned (.tuple #[.int .i64 (nstX x NR),.int .i64 (nstY y NR),.bool NR.isSome])/\Below wa.heap.size wa w'):=by
  intro wa ba
  have hpa:=(hp.below hB).below ba
  rw [hNR]
  refine pNearCopy wa mh R PL x y n base H (Pk.mayCopy x y n) (by rw [hR];exact contL_len hgk.len) (by omega) (by omega) (fun p hp=>by have:=hPLm p hp;omega) hlen (fun W' bW=>?_) (fun W' p bW hp=>?_)
  ·obtain ⟨v,h1,h2⟩:=(hpa.below bW).look hz hn (by omega) hgk
   rw [<- hPL] at h2
   rw [hR]
   exact ⟨v,h1,h2⟩
  ·have hpz:=hPLm p hp
   exact pMayCopy W' H p.1 p.2 n x y ((bW.block H (Nat.lt_of_lt_of_le (heap_lt0 hx0) ba.size)).trans ((ba.block H (heap_lt0 hx0)).trans hx0)) (by omega) (by omega) (by omega) (by omega) (by omega)
 have HNV:Hid (NR=nearL (Pk.mayCopy x y n) x y PL):=hNR
 have HBX:Hid (∀ p,NR=some p->p.1<=16/\p.2<=16):=fun p e=>by
  rw [hNR] at e
  have:=hPLm p (Pk.near_some e).1
  omega
 have HW:Hid (W=w.alloc (.cells #[.int .i64 x,.int .i64 y,.int .i64 n] 100)/\H=w.heap.size/\Below w.heap.size w W):=⟨hW,hH,hB⟩
 have HDR:Hid (DrAt w b v t l/\Room t l 57):=⟨hdr,ro⟩
 have HXY:Hid (x<=16/\y<=16):=⟨by omega,by omega⟩
 rw [<- hNR]
 clear hNR hW hH hB hx0 hW2 hT hz hPL hR hgk hPLm hlen hp h hdr ro hZ hzz hz16 n16 hn hx hy
 go_enter Tryz.func109,Tryz.ntmps109
 go_wp2_with (rw [<- HW.out.1,<- HW.out.2.1])
 refine region_calm (S:=fun w'=>w'.cell? ⟨q,0,none⟩=some (.int .i64 z)/\w'.cell? ⟨q,1,none⟩=some (.slice (some ⟨nb,0,none⟩) Z C)/\w'.cell? ⟨q,2,none⟩=some mh/\w'.cell? ⟨H,0,none⟩=some (.int .i64 x)/\w'.cell? ⟨H,1,none⟩=some (.int .i64 y)/\w'.cell? ⟨H,2,none⟩=some (.int .i64 n)) 20 #[false,false,false,false,false,false,false,false,false,false,false,false,false,false,false,false,false,false,false,false] rfl rfl hmx ?_
 have hS0:(W.drew.cell? ⟨q,0,none⟩=some (.int .i64 z)/\W.drew.cell? ⟨q,1,none⟩=some (.slice (some ⟨nb,0,none⟩) Z C)/\W.drew.cell? ⟨q,2,none⟩=some mh/\W.drew.cell? ⟨H,0,none⟩=some (.int .i64 x)/\W.drew.cell? ⟨H,1,none⟩=some (.int .i64 y)/\W.drew.cell? ⟨H,2,none⟩=some (.int .i64 n)):=⟨c0,c1,cm,d0,d1,d2⟩
 refine tk_at 0 13 (.pointer (some ⟨q,0,none⟩)) #[true,false,false,false,false,false,false,false,false,false,false,false,false,false,false,false,false,false,false,false] rfl rfl rfl (by kernel_rfl) (by rfl) (by rintro w ⟨t0,t1,t2,t3,t4,t5⟩;go_simp) (by assumption) ?_
 simp only [sIb,sCs,sCz]
 refine tk_at 1 14 (.pointer (some ⟨q,0,none⟩)) #[true,true,false,false,false,false,false,false,false,false,false,false,false,false,false,false,false,false,false,false] rfl rfl rfl (by kernel_rfl) (by rfl) (by rintro w ⟨t0,t1,t2,t3,t4,t5⟩;go_simp) (by assumption) ?_
 simp only [sIb,sCs,sCz]
 refine tk_at 2 15 (.pointer (some ⟨q,2,none⟩)) #[true,true,true,false,false,false,false,false,false,false,false,false,false,false,false,false,false,false,false,false] rfl rfl rfl (by kernel_rfl) (by rfl) (by rintro w ⟨t0,t1,t2,t3,t4,t5⟩;go_simp) (by assumption) ?_
 simp only [sIb,sCs,sCz]
 refine tk_at 3 16 (mh) #[true,true,true,true,false,false,false,false,false,false,false,false,false,false,false,false,false,false,false,false] rfl rfl rfl (by kernel_rfl) (by rfl) (by rintro w ⟨t0,t1,t2,t3,t4,t5⟩;go_simp) (by assumption) ?_
 simp only [sIb,sCs,sCz]
 refine tk_at 4 17 (.pointer (some ⟨q,0,none⟩)) #[true,true,true,true,true,false,false,false,false,false,false,false,false,false,false,false,false,false,false,false] rfl rfl rfl (by kernel_rfl) (by rfl) (by rintro w ⟨t0,t1,t2,t3,t4,t5⟩;go_simp) (by assumption) ?_
 simp only [sIb,sCs,sCz]
 refine tk_at 5 18 (.pointer (some ⟨q,0,none⟩)) #[true,true,true,true,true,true,false,false,false,false,false,false,false,false,false,false,false,false,false,false] rfl rfl rfl (by kernel_rfl) (by rfl) (by rintro w ⟨t0,t1,t2,t3,t4,t5⟩;go_simp) (by assumption) ?_
 simp only [sIb,sCs,sCz]
 refine tk_at 6 19 (.pointer (some ⟨q,0,none⟩)) #[true,true,true,true,true,true,true,false,false,false,false,false,false,false,false,false,false,false,false,false] rfl rfl rfl (by kernel_rfl) (by rfl) (by rintro w ⟨t0,t1,t2,t3,t4,t5⟩;go_simp) (by assumption) ?_
 simp only [sIb,sCs,sCz]
 refine tk_at 7 20 (.agg #[.int .i64 z,.slice (some ⟨nb,0,none⟩) Z C]) #[true,true,true,true,true,true,true,true,false,false,false,false,false,false,false,false,false,false,false,false] rfl rfl rfl (by kernel_rfl) (by rfl) (by rintro w ⟨t0,t1,t2,t3,t4,t5⟩;go_simp) (by assumption) ?_
 simp only [sIb,sCs,sCz]
 refine tk_at 8 21 (.agg #[.int .i64 x,.int .i64 y,.int .i64 n]) #[true,true,true,true,true,true,true,true,true,false,false,false,false,false,false,false,false,false,false,false] rfl rfl rfl (by kernel_rfl) (by rfl) (by rintro w ⟨t0,t1,t2,t3,t4,t5⟩;go_simp) (by assumption) ?_
 simp only [sIb,sCs,sCz]
 refine tk_at 10 23 (.agg #[.int .i64 x,.int .i64 y,.int .i64 n]) #[true,true,true,true,true,true,true,true,true,false,true,false,false,false,false,false,false,false,false,false] rfl rfl rfl (by kernel_rfl) (by rfl) (by rintro w ⟨t0,t1,t2,t3,t4,t5⟩;go_simp) (by assumption) ?_
 simp only [sIb,sCs,sCz]
 refine tk_at 11 24 (.func (.func 139) #[] #[.pointer (some ⟨H,0,none⟩)]) #[true,true,true,true,true,true,true,true,true,false,true,true,false,false,false,false,false,false,false,false] rfl rfl rfl (by kernel_rfl) (by rfl) (by rintro w ⟨t0,t1,t2,t3,t4,t5⟩;go_simp) (by assumption) ?_
 simp only [sIb,sCs,sCz]
 have cc:∀ Y,Below W.heap.size W Y->(Y.cell? ⟨q,0,none⟩=some (.int .i64 z)/\Y.cell? ⟨q,1,none⟩=some (.slice (some ⟨nb,0,none⟩) Z C)/\Y.cell? ⟨q,2,none⟩=some mh/\Y.cell? ⟨H,0,none⟩=some (.int .i64 x)/\Y.cell? ⟨H,1,none⟩=some (.int .i64 y)/\Y.cell? ⟨H,2,none⟩=some (.int .i64 n)):=fun Y hb=>⟨(hb.cell (World.block_lt_of_cell? W _ c0)).trans c0,(hb.cell (World.block_lt_of_cell? W _ c1)).trans c1,(hb.cell (World.block_lt_of_cell? W _ cm)).trans cm,(hb.cell (World.block_lt_of_cell? W _ d0)).trans d0,(hb.cell (World.block_lt_of_cell? W _ d1)).trans d1,(hb.cell (World.block_lt_of_cell? W _ d2)).trans d2⟩
 refine enter_at (i:=9) (d:=22) (f:=106) (args:=#[.agg #[.int .i64 z,.slice (some ⟨nb,0,none⟩) Z C],.agg #[.int .i64 x,.int .i64 y,.int .i64 n]]) #[true,true,true,true,true,true,true,true,true,true,true,true,false,false,false,false,false,false,false,false] (by kernel_rfl) rfl rfl rfl (by rfl) (by go_simp) (fun r w'=>r=.agg R.toArray/\Below W.heap.size W w') (HCT.out.mono (fun r w' he=>⟨_,he.1,rfl,he.2⟩)) ?_
 rintro va wa ⟨rfl,ba⟩
 refine ⟨cc wa ba,?_⟩
 simp only [sIb,sCs,sCz]
 obtain ⟨EX,hEX⟩:∃ EX,EX=nstX x NR:=⟨_,rfl⟩
 obtain ⟨EY,hEY⟩:∃ EY,EY=nstY y NR:=⟨_,rfl⟩
 obtain ⟨EO,hEO⟩:∃ EO,EO=NR.isSome:=⟨_,rfl⟩
 have HNA:=HNE.out wa ba
 rw [<- hEX,<- hEY,<- hEO] at HNA
 refine enter_at (i:=12) (d:=25) (f:=141) (args:=#[mh,.agg R.toArray,.agg #[.int .i64 x,.int .i64 y,.int .i64 n],.func (.func 139) #[] #[.pointer (some ⟨H,0,none⟩)]]) #[true,true,true,true,true,true,true,true,true,true,true,true,true,false,false,false,false,false,false,false] (by kernel_rfl) rfl rfl rfl (by rfl) (by go_simp) (fun r w'=>r=.tuple #[.int .i64 EX,.int .i64 EY,.bool EO]/\Below W.heap.size W w') (HNA.mono (fun r w' he=>⟨_,he.1,rfl,ba.trans (he.2.mono ba.size)⟩)) ?_
 rintro vb wb ⟨rfl,bb⟩
 refine ⟨cc wb bb,?_⟩
 have hSB:=cc wb bb
 simp only [sIb,sCs,sCz]
 refine tk_at 13 12 (.tuple #[.int .i64 EX,.int .i64 EY,.bool EO]) #[true,true,true,true,true,true,true,true,true,true,true,true,true,true,false,false,false,false,false,false] rfl rfl rfl (by kernel_rfl) (by rfl) (by rintro w ⟨t0,t1,t2,t3,t4,t5⟩;go_simp) (by assumption) ?_
 simp only [sIb,sCs,sCz]
 refine tk_at 14 26 (.int .i64 EX) #[true,true,true,true,true,true,true,true,true,true,true,true,true,true,true,false,false,false,false,false] rfl rfl rfl (by kernel_rfl) (by rfl) (by rintro w ⟨t0,t1,t2,t3,t4,t5⟩;go_simp) (by assumption) ?_
 simp only [sIb,sCs,sCz]
 refine tk_at 15 27 (.int .i64 EY) #[true,true,true,true,true,true,true,true,true,true,true,true,true,true,true,true,false,false,false,false] rfl rfl rfl (by kernel_rfl) (by rfl) (by rintro w ⟨t0,t1,t2,t3,t4,t5⟩;go_simp) (by assumption) ?_
 simp only [sIb,sCs,sCz]
 refine tk_at 16 28 (.bool EO) #[true,true,true,true,true,true,true,true,true,true,true,true,true,true,true,true,true,false,false,false] rfl rfl rfl (by kernel_rfl) (by rfl) (by rintro w ⟨t0,t1,t2,t3,t4,t5⟩;go_simp) (by assumption) ?_
 simp only [sIb,sCs,sCz]
 refine tk_at 17 8 (.int .i64 EX) #[true,true,true,true,true,true,true,true,true,true,true,true,true,true,true,true,true,true,false,false] rfl rfl rfl (by kernel_rfl) (by rfl) (by rintro w ⟨t0,t1,t2,t3,t4,t5⟩;go_simp) (by assumption) ?_
 simp only [sIb,sCs,sCz]
 refine tk_at 18 9 (.int .i64 EY) #[true,true,true,true,true,true,true,true,true,true,true,true,true,true,true,true,true,true,true,false] rfl rfl rfl (by kernel_rfl) (by rfl) (by rintro w ⟨t0,t1,t2,t3,t4,t5⟩;go_simp) (by assumption) ?_
 simp only [sIb,sCs,sCz]
 refine tk_at 19 10 (.bool EO) #[true,true,true,true,true,true,true,true,true,true,true,true,true,true,true,true,true,true,true,true] rfl rfl rfl (by kernel_rfl) (by rfl) (by rintro w ⟨t0,t1,t2,t3,t4,t5⟩;go_simp) (by assumption) ?_
 simp only [sIb,sCs,sCz]
 refine wpAnyH_done (by kernel_rfl) ?_ _
 dsimp only [calmPost]
 have HB:Hid (Below w.heap.size w wb):=HW.out.2.2.trans (bb.mono HW.out.2.2.size)
 have HE:Hid (EX=nstX x NR/\EY=nstY y NR):=⟨hEX,hEY⟩
 clear ba bb cc hSB hS0 c0 c1 cm d0 d1 d2 hBd HNA HCT HNE HW hEX hEY
 cases NR with
 | none =>
  have hEO2:EO=false:=hEO
  clear hEO
  subst hEO2
  go_wp2
  go_ret
  exact ⟨rfl,(PutAt.refl HDR.out.1).below HB.out⟩
 | some p =>
  have hEO2:EO=true:=hEO
  clear hEO
  subst hEO2
  obtain ⟨px,py⟩:=HBX.out p rfl
  have ex:EX=(p.1:Int)-x:=HE.out.1
  have ey:EY=(p.2:Int)-y:=HE.out.2
  have hx1:=HXY.out
  have HX1:Hid (-511<=EX/\EX<=511/\-511<=EY/\EY<=511):=by refine ⟨?_,?_,?_,?_⟩ <;> omega
  have HEX:Hid (EX=(p.1:Int)-x/\EY=(p.2:Int)-y):=⟨ex,ey⟩
  have HP0:Hid (PutAt w wb b v t l []):=(PutAt.refl HDR.out.1).below HB.out
  obtain ⟨P1,hP1⟩:∃ P1,P1=Pk.sgn 260 EX:=⟨_,rfl⟩
  obtain ⟨P2,hP2⟩:∃ P2,P2=Pk.sgn 284 EY:=⟨_,rfl⟩
  have HC1:Hid (Calls Tryz.prog 134 #[.pointer (some ⟨b,0,none⟩),.int .i64 260,.int .i64 EX] wb fun e w'=>e=.returned (.tuple #[])/\PutAt w w' b v t l P1):=by
   have:=pPutSigned w wb b v t l [] 260 EX HP0.out (HDR.out.2.le (by decide)) (fun _ hq=>absurd hq (List.not_mem_nil)) (by decide) HX1.out.1 HX1.out.2.1
   rw [List.nil_append,<- hP1] at this
   exact this
  have HC2:Hid (∀ wr,PutAt w wr b v t l P1->Calls Tryz.prog 134 #[.pointer (some ⟨b,0,none⟩),.int .i64 284,.int .i64 EY] wr fun e w'=>e=.returned (.tuple #[])/\PutAt w w' b v t l (P1++P2)):=fun wr hr=>by
   have hs:=sgn_facts (k:=260) (by decide) HX1.out.1 HX1.out.2.1
   rw [<- hP1] at hs
   have:=pPutSigned w wr b v t l P1 284 EY hr (HDR.out.2.le (by have:=hs.2;omega)) hs.1 (by decide) HX1.out.2.2.1 HX1.out.2.2.2
   rw [<- hP2] at this
   exact this
  have HPP:Hid (P1++P2=Pk.copyl 260 ((p.1:Int)-x) ((p.2:Int)-y)):=by
   rw [Hid,hP1,hP2,HEX.out.1,HEX.out.2]
   rfl
  have T1:Hid True:=trivial
  clear hx1 ex ey px py HE HEX HP0 HX1 HDR HXY HB HBX HNV hP1 hP2
  go_wp2_with (first
   | (clear T1;go_at_call 134;refine HC1.out.mono ?_;rintro e wp ⟨rfl,pp⟩)
   | (go_at_call 134;refine (HC2.out wp pp).mono ?_;rintro e wq ⟨rfl,pq⟩))
  go_ret
  refine ⟨rfl,?_⟩
  rw [HPP.out] at pq
  exact pq
set_option maxRecDepth 100000 in
theorem pStillW (w:World) (q z nb C:Nat) (mh mb:Value) (T:List Px) (h:FwAt w q z nb C mh mb T) (base top:Nat) (T0:Option (List Px)) (hp:Plc w base top mb z T0) (b:Nat) (v:Value) (t:WS) (l:List (Nat × Int)) (hdr:DrAt w b v t l)
  (x y n:Nat) (hn:n=4 \/ n=8 \/ n=16) (hx:x+n<=z) (hy:y+n<=z) (ro:Room t l 57) :
  Calls Tryz.prog 110 #[.pointer (some ⟨q,0,none⟩),.pointer (some ⟨b,0,none⟩),.agg #[.int .i64 x,.int .i64 y,.int .i64 n]] w (WrPost w b v t l ((nearL (fun _=>true) x y (placesO z T0 n (Pk.content z T n (x,y)))).map fun q=>Pk.copyl 310 ((q.1:Int)-x) ((q.2:Int)-y))):=by
 have hmx:Tryz.prog.follows .mixedOrders=true:=by kernel_rfl
 obtain ⟨Z,hZ⟩:∃ Z,Z=z*z:=⟨_,rfl⟩
 obtain ⟨hz16,hzz⟩:=h.z16
 obtain ⟨H,hH⟩:∃ H,H=w.heap.size:=⟨_,rfl⟩
 obtain ⟨W,hW⟩:∃ W,W=w.alloc (.cells #[.int .i64 x,.int .i64 y,.int .i64 n] 100):=⟨_,rfl⟩
 have hB:Below w.heap.size w W:=by rw [hW];exact (Below.refl _ w).alloc (Nat.le_refl _) _
 have hx0:W.heap[H]?=some (.cells #[.int .i64 x,.int .i64 y,.int .i64 n] 100 (0,0)):=by rw [hW,hH];exact heap_alloc_last w _
 have hW2:=h.below hB
 have hT:=h.ok
 have hz:=h.zz
 have n16:4<=n/\n<=16:=by omega
 have c0:=hW2.c0
 have c1:=hW2.c1
 have cm:=hW2.c3
 rw [<- hZ] at c1
 have d0:=cell_of_row _ _ 0 _ _ _ hx0
 have d1:=cell_of_row _ _ 1 _ _ _ hx0
 have d2:=cell_of_row _ _ 2 _ _ _ hx0
 simp at d0 d1 d2
 obtain ⟨PL,hPL⟩:∃ PL,PL=placesO z T0 n (Pk.content z T n (x,y)):=⟨_,rfl⟩
 rw [<- hPL]
 obtain ⟨NR,hNR⟩:∃ NR,NR=nearL (fun _=>true) x y PL:=⟨_,rfl⟩
 obtain ⟨R,hR⟩:∃ R,R=contL n (Pk.content z T n (x,y)):=⟨_,rfl⟩
 have hgk:GoodK (n,Pk.content z T n (x,y)):=kap_good hT n16.2 (x,y)
 have hBd:Below W.heap.size W W.drew:=⟨rfl,rfl,rfl,Nat.le_refl _,fun _ _=>rfl⟩
 have hPLm:∀ p ∈ PL,p.1+n<=z/\p.2+n<=z:=fun p hp=>placesO_mem (by omega) (by rw [hPL] at hp;exact hp)
 have HCT:Hid (Calls Tryz.prog 106 #[.agg #[.int .i64 z,.slice (some ⟨nb,0,none⟩) Z C],.agg #[.int .i64 x,.int .i64 y,.int .i64 n]] W.drew fun e w'=>e=.returned (.agg R.toArray)/\Below W.heap.size W w'):=by
  have:=pContent (C:=C) W.drew nb z T hz (hW2.px.below hBd) x y n hx hy
  rw [<- hZ,<- hR] at this
  exact this.mono fun e w' he=>⟨he.1,hBd.trans he.2⟩
 have hlen:PL.length<=1000:=by
  have h1:PL.length<=(z-n+1)*(z-n+1):=by
   rw [hPL]
   exact placesO_len z T0 n _
  have h2:(z-n+1)*(z-n+1)<=13*13:=Nat.mul_le_mul (by omega) (by omega)
  omega
 have HNE:Hid (∀ wa,Below W.heap.size W wa->Calls Tryz.prog 141 #[mb,.agg R.toArray,.agg #[.int .i64 x,.int .i64 y,.int .i64 n],.func (.func 142) #[] #[]] wa fun e w'=>e=.returned (.tuple #[.int .i64 (nstX x NR),.int .i64 (nstY y NR),.bool NR.isSome])/\Below wa.heap.size wa w'):=by
  intro wa ba
  have hpa:=(hp.below hB).below ba
  rw [hNR]
  refine pNearStill wa mb R PL x y n base (fun _=>true) (by rw [hR];exact contL_len hgk.len) (by omega) (by omega) (fun p hp=>by have:=hPLm p hp;omega) hlen (fun W' bW=>?_) (fun W' p bW hp=>?_)
  ·obtain ⟨v,h1,h2⟩:=(hpa.below bW).look hz hn (by omega) hgk
   rw [<- hPL] at h2
   rw [hR]
   exact ⟨v,h1,h2⟩
  ·have hpz:=hPLm p hp
   exact pMayStill W' p.1 p.2 n
 have HNV:Hid (NR=nearL (fun _=>true) x y PL):=hNR
 have HBX:Hid (∀ p,NR=some p->p.1<=16/\p.2<=16):=fun p e=>by
  rw [hNR] at e
  have:=hPLm p (Pk.near_some e).1
  omega
 have HW:Hid (W=w.alloc (.cells #[.int .i64 x,.int .i64 y,.int .i64 n] 100)/\H=w.heap.size/\Below w.heap.size w W):=⟨hW,hH,hB⟩
 have HDR:Hid (DrAt w b v t l/\Room t l 57):=⟨hdr,ro⟩
 have HXY:Hid (x<=16/\y<=16):=⟨by omega,by omega⟩
 rw [<- hNR]
 clear hNR hW hH hB hx0 hW2 hT hz hPL hR hgk hPLm hlen hp h hdr ro hZ hzz hz16 n16 hn hx hy
 go_enter Tryz.func110,Tryz.ntmps110
 go_wp2_with (rw [<- HW.out.1,<- HW.out.2.1])
 refine region_calm (S:=fun w'=>w'.cell? ⟨q,0,none⟩=some (.int .i64 z)/\w'.cell? ⟨q,1,none⟩=some (.slice (some ⟨nb,0,none⟩) Z C)/\w'.cell? ⟨q,3,none⟩=some mb/\w'.cell? ⟨H,0,none⟩=some (.int .i64 x)/\w'.cell? ⟨H,1,none⟩=some (.int .i64 y)/\w'.cell? ⟨H,2,none⟩=some (.int .i64 n)) 20 #[false,false,false,false,false,false,false,false,false,false,false,false,false,false,false,false,false,false,false,false] rfl rfl hmx ?_
 have hS0:(W.drew.cell? ⟨q,0,none⟩=some (.int .i64 z)/\W.drew.cell? ⟨q,1,none⟩=some (.slice (some ⟨nb,0,none⟩) Z C)/\W.drew.cell? ⟨q,3,none⟩=some mb/\W.drew.cell? ⟨H,0,none⟩=some (.int .i64 x)/\W.drew.cell? ⟨H,1,none⟩=some (.int .i64 y)/\W.drew.cell? ⟨H,2,none⟩=some (.int .i64 n)):=⟨c0,c1,cm,d0,d1,d2⟩
 refine tk_at 0 12 (.pointer (some ⟨q,0,none⟩)) #[true,false,false,false,false,false,false,false,false,false,false,false,false,false,false,false,false,false,false,false] rfl rfl rfl (by kernel_rfl) (by rfl) (by rintro w ⟨t0,t1,t2,t3,t4,t5⟩;go_simp) (by assumption) ?_
 simp only [sIb,sCs,sCz]
 refine tk_at 1 13 (.pointer (some ⟨q,0,none⟩)) #[true,true,false,false,false,false,false,false,false,false,false,false,false,false,false,false,false,false,false,false] rfl rfl rfl (by kernel_rfl) (by rfl) (by rintro w ⟨t0,t1,t2,t3,t4,t5⟩;go_simp) (by assumption) ?_
 simp only [sIb,sCs,sCz]
 refine tk_at 2 14 (.pointer (some ⟨q,3,none⟩)) #[true,true,true,false,false,false,false,false,false,false,false,false,false,false,false,false,false,false,false,false] rfl rfl rfl (by kernel_rfl) (by rfl) (by rintro w ⟨t0,t1,t2,t3,t4,t5⟩;go_simp) (by assumption) ?_
 simp only [sIb,sCs,sCz]
 refine tk_at 3 15 (mb) #[true,true,true,true,false,false,false,false,false,false,false,false,false,false,false,false,false,false,false,false] rfl rfl rfl (by kernel_rfl) (by rfl) (by rintro w ⟨t0,t1,t2,t3,t4,t5⟩;go_simp) (by assumption) ?_
 simp only [sIb,sCs,sCz]
 refine tk_at 4 16 (.pointer (some ⟨q,0,none⟩)) #[true,true,true,true,true,false,false,false,false,false,false,false,false,false,false,false,false,false,false,false] rfl rfl rfl (by kernel_rfl) (by rfl) (by rintro w ⟨t0,t1,t2,t3,t4,t5⟩;go_simp) (by assumption) ?_
 simp only [sIb,sCs,sCz]
 refine tk_at 5 17 (.pointer (some ⟨q,0,none⟩)) #[true,true,true,true,true,true,false,false,false,false,false,false,false,false,false,false,false,false,false,false] rfl rfl rfl (by kernel_rfl) (by rfl) (by rintro w ⟨t0,t1,t2,t3,t4,t5⟩;go_simp) (by assumption) ?_
 simp only [sIb,sCs,sCz]
 refine tk_at 6 18 (.pointer (some ⟨q,0,none⟩)) #[true,true,true,true,true,true,true,false,false,false,false,false,false,false,false,false,false,false,false,false] rfl rfl rfl (by kernel_rfl) (by rfl) (by rintro w ⟨t0,t1,t2,t3,t4,t5⟩;go_simp) (by assumption) ?_
 simp only [sIb,sCs,sCz]
 refine tk_at 7 19 (.agg #[.int .i64 z,.slice (some ⟨nb,0,none⟩) Z C]) #[true,true,true,true,true,true,true,true,false,false,false,false,false,false,false,false,false,false,false,false] rfl rfl rfl (by kernel_rfl) (by rfl) (by rintro w ⟨t0,t1,t2,t3,t4,t5⟩;go_simp) (by assumption) ?_
 simp only [sIb,sCs,sCz]
 refine tk_at 8 20 (.agg #[.int .i64 x,.int .i64 y,.int .i64 n]) #[true,true,true,true,true,true,true,true,true,false,false,false,false,false,false,false,false,false,false,false] rfl rfl rfl (by kernel_rfl) (by rfl) (by rintro w ⟨t0,t1,t2,t3,t4,t5⟩;go_simp) (by assumption) ?_
 simp only [sIb,sCs,sCz]
 refine tk_at 10 22 (.agg #[.int .i64 x,.int .i64 y,.int .i64 n]) #[true,true,true,true,true,true,true,true,true,false,true,false,false,false,false,false,false,false,false,false] rfl rfl rfl (by kernel_rfl) (by rfl) (by rintro w ⟨t0,t1,t2,t3,t4,t5⟩;go_simp) (by assumption) ?_
 simp only [sIb,sCs,sCz]
 refine tk_at 11 23 (.func (.func 142) #[] #[]) #[true,true,true,true,true,true,true,true,true,false,true,true,false,false,false,false,false,false,false,false] rfl rfl rfl (by kernel_rfl) (by rfl) (by rintro w ⟨t0,t1,t2,t3,t4,t5⟩;go_simp) (by assumption) ?_
 simp only [sIb,sCs,sCz]
 have cc:∀ Y,Below W.heap.size W Y->(Y.cell? ⟨q,0,none⟩=some (.int .i64 z)/\Y.cell? ⟨q,1,none⟩=some (.slice (some ⟨nb,0,none⟩) Z C)/\Y.cell? ⟨q,3,none⟩=some mb/\Y.cell? ⟨H,0,none⟩=some (.int .i64 x)/\Y.cell? ⟨H,1,none⟩=some (.int .i64 y)/\Y.cell? ⟨H,2,none⟩=some (.int .i64 n)):=fun Y hb=>⟨(hb.cell (World.block_lt_of_cell? W _ c0)).trans c0,(hb.cell (World.block_lt_of_cell? W _ c1)).trans c1,(hb.cell (World.block_lt_of_cell? W _ cm)).trans cm,(hb.cell (World.block_lt_of_cell? W _ d0)).trans d0,(hb.cell (World.block_lt_of_cell? W _ d1)).trans d1,(hb.cell (World.block_lt_of_cell? W _ d2)).trans d2⟩
 refine enter_at (i:=9) (d:=21) (f:=106) (args:=#[.agg #[.int .i64 z,.slice (some ⟨nb,0,none⟩) Z C],.agg #[.int .i64 x,.int .i64 y,.int .i64 n]]) #[true,true,true,true,true,true,true,true,true,true,true,true,false,false,false,false,false,false,false,false] (by kernel_rfl) rfl rfl rfl (by rfl) (by go_simp) (fun r w'=>r=.agg R.toArray/\Below W.heap.size W w') (HCT.out.mono (fun r w' he=>⟨_,he.1,rfl,he.2⟩)) ?_
 rintro va wa ⟨rfl,ba⟩
 refine ⟨cc wa ba,?_⟩
 simp only [sIb,sCs,sCz]
 obtain ⟨EX,hEX⟩:∃ EX,EX=nstX x NR:=⟨_,rfl⟩
 obtain ⟨EY,hEY⟩:∃ EY,EY=nstY y NR:=⟨_,rfl⟩
 obtain ⟨EO,hEO⟩:∃ EO,EO=NR.isSome:=⟨_,rfl⟩
 have HNA:=HNE.out wa ba
 rw [<- hEX,<- hEY,<- hEO] at HNA
 refine enter_at (i:=12) (d:=24) (f:=141) (args:=#[mb,.agg R.toArray,.agg #[.int .i64 x,.int .i64 y,.int .i64 n],.func (.func 142) #[] #[]]) #[true,true,true,true,true,true,true,true,true,true,true,true,true,false,false,false,false,false,false,false] (by kernel_rfl) rfl rfl rfl (by rfl) (by go_simp) (fun r w'=>r=.tuple #[.int .i64 EX,.int .i64 EY,.bool EO]/\Below W.heap.size W w') (HNA.mono (fun r w' he=>⟨_,he.1,rfl,ba.trans (he.2.mono ba.size)⟩)) ?_
 rintro vb wb ⟨rfl,bb⟩
 refine ⟨cc wb bb,?_⟩
 have hSB:=cc wb bb
 simp only [sIb,sCs,sCz]
 refine tk_at 13 11 (.tuple #[.int .i64 EX,.int .i64 EY,.bool EO]) #[true,true,true,true,true,true,true,true,true,true,true,true,true,true,false,false,false,false,false,false] rfl rfl rfl (by kernel_rfl) (by rfl) (by rintro w ⟨t0,t1,t2,t3,t4,t5⟩;go_simp) (by assumption) ?_
 simp only [sIb,sCs,sCz]
 refine tk_at 14 25 (.int .i64 EX) #[true,true,true,true,true,true,true,true,true,true,true,true,true,true,true,false,false,false,false,false] rfl rfl rfl (by kernel_rfl) (by rfl) (by rintro w ⟨t0,t1,t2,t3,t4,t5⟩;go_simp) (by assumption) ?_
 simp only [sIb,sCs,sCz]
 refine tk_at 15 26 (.int .i64 EY) #[true,true,true,true,true,true,true,true,true,true,true,true,true,true,true,true,false,false,false,false] rfl rfl rfl (by kernel_rfl) (by rfl) (by rintro w ⟨t0,t1,t2,t3,t4,t5⟩;go_simp) (by assumption) ?_
 simp only [sIb,sCs,sCz]
 refine tk_at 16 27 (.bool EO) #[true,true,true,true,true,true,true,true,true,true,true,true,true,true,true,true,true,false,false,false] rfl rfl rfl (by kernel_rfl) (by rfl) (by rintro w ⟨t0,t1,t2,t3,t4,t5⟩;go_simp) (by assumption) ?_
 simp only [sIb,sCs,sCz]
 refine tk_at 17 8 (.int .i64 EX) #[true,true,true,true,true,true,true,true,true,true,true,true,true,true,true,true,true,true,false,false] rfl rfl rfl (by kernel_rfl) (by rfl) (by rintro w ⟨t0,t1,t2,t3,t4,t5⟩;go_simp) (by assumption) ?_
 simp only [sIb,sCs,sCz]
 refine tk_at 18 9 (.int .i64 EY) #[true,true,true,true,true,true,true,true,true,true,true,true,true,true,true,true,true,true,true,false] rfl rfl rfl (by kernel_rfl) (by rfl) (by rintro w ⟨t0,t1,t2,t3,t4,t5⟩;go_simp) (by assumption) ?_
 simp only [sIb,sCs,sCz]
 refine tk_at 19 10 (.bool EO) #[true,true,true,true,true,true,true,true,true,true,true,true,true,true,true,true,true,true,true,true] rfl rfl rfl (by kernel_rfl) (by rfl) (by rintro w ⟨t0,t1,t2,t3,t4,t5⟩;go_simp) (by assumption) ?_
 simp only [sIb,sCs,sCz]
 refine wpAnyH_done (by kernel_rfl) ?_ _
 dsimp only [calmPost]
 have HB:Hid (Below w.heap.size w wb):=HW.out.2.2.trans (bb.mono HW.out.2.2.size)
 have HE:Hid (EX=nstX x NR/\EY=nstY y NR):=⟨hEX,hEY⟩
 clear ba bb cc hSB hS0 c0 c1 cm d0 d1 d2 hBd HNA HCT HNE HW hEX hEY
 cases NR with
 | none =>
  have hEO2:EO=false:=hEO
  clear hEO
  subst hEO2
  go_wp2
  go_ret
  exact ⟨rfl,(PutAt.refl HDR.out.1).below HB.out⟩
 | some p =>
  have hEO2:EO=true:=hEO
  clear hEO
  subst hEO2
  obtain ⟨px,py⟩:=HBX.out p rfl
  have ex:EX=(p.1:Int)-x:=HE.out.1
  have ey:EY=(p.2:Int)-y:=HE.out.2
  have hx1:=HXY.out
  have HX1:Hid (-511<=EX/\EX<=511/\-511<=EY/\EY<=511):=by refine ⟨?_,?_,?_,?_⟩ <;> omega
  have HEX:Hid (EX=(p.1:Int)-x/\EY=(p.2:Int)-y):=⟨ex,ey⟩
  have HP0:Hid (PutAt w wb b v t l []):=(PutAt.refl HDR.out.1).below HB.out
  obtain ⟨P1,hP1⟩:∃ P1,P1=Pk.sgn 310 EX:=⟨_,rfl⟩
  obtain ⟨P2,hP2⟩:∃ P2,P2=Pk.sgn 334 EY:=⟨_,rfl⟩
  have HC1:Hid (Calls Tryz.prog 134 #[.pointer (some ⟨b,0,none⟩),.int .i64 310,.int .i64 EX] wb fun e w'=>e=.returned (.tuple #[])/\PutAt w w' b v t l P1):=by
   have:=pPutSigned w wb b v t l [] 310 EX HP0.out (HDR.out.2.le (by decide)) (fun _ hq=>absurd hq (List.not_mem_nil)) (by decide) HX1.out.1 HX1.out.2.1
   rw [List.nil_append,<- hP1] at this
   exact this
  have HC2:Hid (∀ wr,PutAt w wr b v t l P1->Calls Tryz.prog 134 #[.pointer (some ⟨b,0,none⟩),.int .i64 334,.int .i64 EY] wr fun e w'=>e=.returned (.tuple #[])/\PutAt w w' b v t l (P1++P2)):=fun wr hr=>by
   have hs:=sgn_facts (k:=310) (by decide) HX1.out.1 HX1.out.2.1
   rw [<- hP1] at hs
   have:=pPutSigned w wr b v t l P1 334 EY hr (HDR.out.2.le (by have:=hs.2;omega)) hs.1 (by decide) HX1.out.2.2.1 HX1.out.2.2.2
   rw [<- hP2] at this
   exact this
  have HPP:Hid (P1++P2=Pk.copyl 310 ((p.1:Int)-x) ((p.2:Int)-y)):=by
   rw [Hid,hP1,hP2,HEX.out.1,HEX.out.2]
   rfl
  have T1:Hid True:=trivial
  clear hx1 ex ey px py HE HEX HP0 HX1 HDR HXY HB HBX HNV hP1 hP2
  go_wp2_with (first
   | (clear T1;go_at_call 134;refine HC1.out.mono ?_;rintro e wp ⟨rfl,pp⟩)
   | (go_at_call 134;refine (HC2.out wp pp).mono ?_;rintro e wq ⟨rfl,pq⟩))
  go_ret
  refine ⟨rfl,?_⟩
  rw [HPP.out] at pq
  exact pq
end
section
open Go.RowKit
open Pk (num sgn dig fold ones lowb)
set_option maxRecDepth 20000 in
theorem pSplitContextW (w:World) (n:Nat):Calls Tryz.prog 115 #[.int .i64 n] w fun e w'=>e=.returned (.int .i64 ((if n=16 then 0 else 1:Nat):Int))/\w'=w:=by
 by_cases h:n=16
 ·subst h
  go_enter Tryz.func115,Tryz.ntmps115
  go_wp2
  go_ret
  exact ⟨rfl,rfl⟩
 ·rw [if_neg h]
  have h':¬ ((n:Int)=16):=by omega
  go_enter Tryz.func115,Tryz.ntmps115
  go_wp2
  go_ret
  exact ⟨rfl,rfl⟩
set_option maxRecDepth 20000 in
theorem pPutChoice (w wr:World) (b:Nat) (v:Value) (t:WS) (l p:List (Nat × Int)) (n last:Nat) (h:PutAt w wr b v t l p) (ro:Room t l (p.length+4)) (op:Pack.BitsOk p) (hn:n<=3) (hla:last<=3) :
  Calls Tryz.prog 137 #[.pointer (some ⟨b,0,none⟩),.int .i64 n,.int .i64 last] wr fun e w'=>e=.returned (.tuple #[])/\PutAt w w' b v t l (p++(ones 250 0 n++if n<last then [(250+n,0)] else [])):=by
 have HH:Hid (PutAt w wr b v t l p):=h
 have HK:Hid (Pack.BitsOk p/\Room t l (p.length+4)):=⟨op,ro⟩
 obtain ⟨C,hC⟩:∃ C:List (Nat × Int),C=(ones 250 0 n++if n<last then [(250+n,0)] else []):=⟨_,rfl⟩
 rw [<- hC]
 have HC:Hid (C=(ones 250 0 n++if n<last then [(250+n,0)] else [])):=hC
 clear h op ro hC
 go_enter Tryz.func137,Tryz.ntmps137
 go_wp2
 go_loopw [8] (fun i wy=>∃ j:Nat,j<=n/\i=.int .i64 j/\PutAt w wy b v t l (p++ones 250 0 j)) (fun i _=>n-(intOf i).toNat)
 case atStart=>exact ⟨0,Nat.zero_le _,rfl,by show PutAt _ _ _ _ _ _ (p++[]);rw [List.append_nil];exact HH.out⟩
 case round =>
  obtain ⟨j,hj,rfl,hp⟩:=hrel
  have ho:Pack.BitsOk (p++ones 250 0 j):=Pk.ok_app HK.out.1 (Pk.ones_ok 250 j 0 (by omega))
  have HP:Hid (PutAt w wr b v t l (p++ones 250 0 j)):=hp
  clear hp
  by_cases hlt:j<n
  ·have hlt':(j:Int)<(n:Int):=by omega
   have e1:wrap64 (250+(j:Int))=((250+j:Nat):Int):=by unfold wrap64;omega
   go_wp2_with (go_at_call 114;refine (HP.out.step (HK.out.2.le (by rw [List.length_append,Pk.ones_len];omega)) ho (k:=250+j) (x:=1) (by omega) (.inr rfl)).mono ?_;rintro e w2 ⟨rfl,h2⟩)
   go_roundw
   case rel=>exact ⟨j+1,by omega,by go_num,by rw [ones_snoc,<- List.append_assoc,Nat.zero_add];exact h2⟩
   case measure=>simp [intOf];omega
  ·obtain rfl:j=n:=by omega
   have hlt':¬ (j:Int)<(j:Int):=by omega
   by_cases hl:j<last
   ·have hl':(j:Int)<(last:Int):=by omega
    have e1:wrap64 (250+(j:Int))=((250+j:Nat):Int):=by unfold wrap64;omega
    go_wp2_with (go_at_call 114;refine (HP.out.step (HK.out.2.le (by rw [List.length_append,Pk.ones_len];omega)) ho (k:=250+j) (x:=0) (by omega) (.inl rfl)).mono ?_;rintro e w2 ⟨rfl,h2⟩)
    go_end0
    refine ⟨rfl,?_⟩
    rw [HC.out,if_pos hl,<- List.append_assoc]
    exact h2
   ·have hl':¬ (j:Int)<(last:Int):=by omega
    go_wp2
    go_end0
    refine ⟨rfl,?_⟩
    rw [HC.out,if_neg hl,List.append_nil]
    exact HP.out
end
end Go.Proofs.YtekfbphnoibnjaaGreatDoor
