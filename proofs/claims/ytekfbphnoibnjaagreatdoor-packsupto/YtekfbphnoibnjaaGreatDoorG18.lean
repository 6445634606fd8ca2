/-
  PIns PTalM PIdx PPts
-/
import Derived.Test.YtekfbphnoibnjaaGreatDoorG17
import Derived.RangeFuncNested
import Derived.RangeFuncBound
import Derived.Shelf.RegionOpen
import Derived.OwnWalkIn
import Derived.LoopNIn
import Derived.LoopIn
set_option maxHeartbeats 4000000
namespace Go.Proofs.YtekfbphnoibnjaaGreatDoor
section
open Go.RowKit
open Flm (Px FS okPx)
open Pk (swap sink sorts)
theorem sink_succ (j:Nat) (l:List Tl):sink (j+1) l=if (l.getD j tl0).2<(l.getD (j+1) tl0).2 then sink j (swap l (j+1)) else l:=rfl
theorem getD_some {l:List Tl} {k:Nat} {t:Tl} (h:l[k]?=some t):l.getD k tl0=t:=by rw [List.getD_eq_getElem?_getD,h];rfl
set_option maxRecDepth 100000 in
theorem pInsertion (w:World) (g n cap:Nat) (l:List Tl) (hn:l.length=n) (hn0:0<n) (hn4:n<=4) (h:TalB w g l) :
  Calls Tryz.prog 184 #[.slice (some ⟨g,0,none⟩) n cap,.int .i64 0,.int .i64 n,.func (.func 160) #[] #[]] w fun e w'=>e=.returned (.tuple #[])/\TalB w' g (sorts n l)/\Frm (fun k=>k=g) w w':=by
 have hmx:Tryz.prog.follows .mixedOrders=true:=by kernel_rfl
 have H0:Hid (TalB w g l/\l.length=n):=⟨h,hn⟩
 clear h hn
 go_enter Tryz.func184,Tryz.ntmps184
 go_wp2
 go_loopw [8] (fun v8 wr=>∃ i:Nat,1<=i/\i<=n/\v8=.int .i64 i/\TalB wr g (sorts i l)/\(sorts i l).length=n/\Frm (fun k=>k=g) w wr) (fun v8 _=>n-(intOf v8).toNat)
 case atStart=>exact ⟨1,Nat.le_refl _,hn0,rfl,H0.out.1,H0.out.2,Frm.refl _ _⟩
 case round =>
  obtain ⟨i,hi1,hi,rfl,hT,hl,hF⟩:=hrel
  have HI:Hid (TalB wr g (sorts i l)/\(sorts i l).length=n/\Frm (fun k=>k=g) w wr):=⟨hT,hl,hF⟩
  clear hT hl hF
  by_cases hlt:i<n
  ·have hlt':(i:Int)<(n:Int):=by omega
   go_wp2
   go_loopw [9] (fun v9 wi=>∃ (j:Nat) (m:List Tl),j<=i/\v9=.int .i64 j/\sink j m=sorts (i+1) l/\m.length=n/\TalB wi g m/\Frm (fun k=>k=g) w wi) (fun v9 _=>(intOf v9).toNat)
   case atStart=>exact ⟨i,sorts i l,Nat.le_refl _,rfl,rfl,HI.out.2.1,HI.out.1,HI.out.2.2⟩
   case round =>
    clear HI H0
    obtain ⟨j,m,hj,rfl,hs,hm,hT,hF⟩:=hrel
    obtain ⟨wi,rfl⟩:∃ wi,wi=wr:=⟨_,rfl⟩
    cases j with
    | zero =>
     have HI:Hid (m=sorts (i+1) l/\m.length=n/\TalB wi g m/\Frm (fun k=>k=g) w wi):=⟨hs,hm,hT,hF⟩
     have hj0:¬ (((0:Nat):Int) > 0):=by omega
     clear hs hm hT hF
     go_wp2_with fail
     go_region
     go_wp2_with fail
     obtain ⟨e1,e2,e3,e4⟩:=HI.out
     rw [e1] at e2 e3
     refine ⟨⟨i+1,by omega,by omega,by simp,e3,e2,e4.drew⟩,?_⟩
     simp [intOf];omega
    | succ j =>
     obtain ⟨s,hsj⟩:∃ s,m[j]?=some s:=⟨m[j]'(by omega),List.getElem?_eq_getElem _⟩
     obtain ⟨t,htj⟩:∃ t,m[j+1]?=some t:=⟨m[j+1]'(by omega),List.getElem?_eq_getElem _⟩
     obtain ⟨⟨s0,s1,s2⟩,sc⟩:=s
     obtain ⟨⟨t0,t1,t2⟩,tc⟩:=t
     obtain ⟨J,hJ⟩:∃ J,J=j+1:=⟨_,rfl⟩
     obtain ⟨k0,k1,k2,k3⟩:=hT.at hsj
     obtain ⟨l0,l1,l2,l3⟩:=hT.at htj
     rw [<- hJ] at l0 l1 l2 l3 hj ⊢
     dsimp only at k0 k1 k2 k3 l0 l1 l2 l3
     have hjn:(j:Int)<(n:Int):=by omega
     have hJn:(J:Int)<(n:Int):=by omega
     have hJ0:(J:Int) > 0:=by omega
     have hJp:0<J:=by omega
     have hJ1:(J:Int)-1=(j:Int):=by omega
     have wj:wrap64 ((J:Int)-1)=(j:Int):=by unfold wrap64;omega
     have wj':IntKind.i64.wrap ((J:Int)-1)=(j:Int):=by rw [IntKind.wrap_i64];omega
     have HI:Hid (sink J m=sorts (i+1) l/\m.length=n/\TalB wi g m/\Frm (fun k=>k=g) w wi/\J=j+1/\m[j]?=some ((s0,s1,s2),sc)/\m[J]?=some ((t0,t1,t2),tc)):=⟨by rw [hJ];exact hs,hm,hT,hF,hJ,hsj,by rw [hJ];exact htj⟩
     have wj2:IntKind.i64.wrap (j:Int)=(j:Int):=by rw [IntKind.wrap_i64];omega
     clear hs hm hT hF hJ hsj htj
     go_wp2_with fail
     have hdw:Below wi.heap.size wi wi.drew:=⟨rfl,rfl,rfl,Nat.le_refl _,fun _ _=>rfl⟩
     obtain ⟨C3,hC3⟩:∃ C3,C3=cmp3 sc tc:=⟨_,rfl⟩
     have hsk:sink J m=if sc<tc then sink j (swap m J) else m:=by
      obtain ⟨_,_,_,_,e5,e6,e7⟩:=HI.out
      rw [e5,sink_succ,getD_some e6,<- e5,getD_some e7]
     have HCM:Hid (∀ W,Calls Tryz.prog 160 #[.agg #[.int .u8 t0,.int .u8 t1,.int .u8 t2,.int .i64 tc],.agg #[.int .u8 s0,.int .u8 s1,.int .u8 s2,.int .i64 sc]] W fun e w'=>e=.returned (.int .i64 C3)/\Below W.heap.size W w'):=fun W=>by rw [hC3];exact pCmp W t0 t1 t2 s0 s1 s2 tc sc
     have cc:∀ Y,Below wi.heap.size wi Y->(Y.cell? ⟨g,j*4,none⟩=some (.int .u8 s0)/\Y.cell? ⟨g,j*4+1,none⟩=some (.int .u8 s1)/\Y.cell? ⟨g,j*4+2,none⟩=some (.int .u8 s2)/\Y.cell? ⟨g,j*4+3,none⟩=some (.int .i64 sc)/\Y.cell? ⟨g,J*4,none⟩=some (.int .u8 t0)/\Y.cell? ⟨g,J*4+1,none⟩=some (.int .u8 t1)/\Y.cell? ⟨g,J*4+2,none⟩=some (.int .u8 t2)/\Y.cell? ⟨g,J*4+3,none⟩=some (.int .i64 tc)):=fun Y hb=>⟨(hb.cell (World.block_lt_of_cell? wi _ k0)).trans k0,(hb.cell (World.block_lt_of_cell? wi _ k1)).trans k1,(hb.cell (World.block_lt_of_cell? wi _ k2)).trans k2,(hb.cell (World.block_lt_of_cell? wi _ k3)).trans k3,(hb.cell (World.block_lt_of_cell? wi _ l0)).trans l0,(hb.cell (World.block_lt_of_cell? wi _ l1)).trans l1,(hb.cell (World.block_lt_of_cell? wi _ l2)).trans l2,(hb.cell (World.block_lt_of_cell? wi _ l3)).trans l3⟩
     refine region_calm (S:=fun w'=>w'.cell? ⟨g,j*4,none⟩=some (.int .u8 s0)/\w'.cell? ⟨g,j*4+1,none⟩=some (.int .u8 s1)/\w'.cell? ⟨g,j*4+2,none⟩=some (.int .u8 s2)/\w'.cell? ⟨g,j*4+3,none⟩=some (.int .i64 sc)/\w'.cell? ⟨g,J*4,none⟩=some (.int .u8 t0)/\w'.cell? ⟨g,J*4+1,none⟩=some (.int .u8 t1)/\w'.cell? ⟨g,J*4+2,none⟩=some (.int .u8 t2)/\w'.cell? ⟨g,J*4+3,none⟩=some (.int .i64 tc)) 17 #[false,false,false,false,false,false,false,false,false,false,false,false,false,false,false,false,false] rfl rfl hmx ?_
     have hS0:(wi.drew.cell? ⟨g,j*4,none⟩=some (.int .u8 s0)/\wi.drew.cell? ⟨g,j*4+1,none⟩=some (.int .u8 s1)/\wi.drew.cell? ⟨g,j*4+2,none⟩=some (.int .u8 s2)/\wi.drew.cell? ⟨g,j*4+3,none⟩=some (.int .i64 sc)/\wi.drew.cell? ⟨g,J*4,none⟩=some (.int .u8 t0)/\wi.drew.cell? ⟨g,J*4+1,none⟩=some (.int .u8 t1)/\wi.drew.cell? ⟨g,J*4+2,none⟩=some (.int .u8 t2)/\wi.drew.cell? ⟨g,J*4+3,none⟩=some (.int .i64 tc)):=cc _ hdw
     refine tk_at 0 18 (.int .i64 J) #[true,false,false,false,false,false,false,false,false,false,false,false,false,false,false,false,false] rfl rfl rfl (by kernel_rfl) (by rfl) (by rintro w ⟨a0,a1,a2,a3,b0,b1,b2,b3⟩;go_simp) (by assumption) ?_
     simp only [sIb,sCs,sCz]
     refine tk_at 1 19 (.int .i64 0) #[true,true,false,false,false,false,false,false,false,false,false,false,false,false,false,false,false] rfl rfl rfl (by kernel_rfl) (by rfl) (by rintro w ⟨a0,a1,a2,a3,b0,b1,b2,b3⟩;go_simp) (by assumption) ?_
     simp only [sIb,sCs,sCz]
     refine tk_at 2 20 (.bool true) #[true,true,true,false,false,false,false,false,false,false,false,false,false,false,false,false,false] rfl rfl rfl (by kernel_rfl) (by rfl) (by rintro w ⟨a0,a1,a2,a3,b0,b1,b2,b3⟩;go_simp) (by assumption) ?_
     simp only [sIb,sCs,sCz]
     refine tk_at 3 21 (.bool true) #[true,true,true,true,false,false,false,false,false,false,false,false,false,false,false,false,false] rfl rfl rfl (by kernel_rfl) (by rfl) (by rintro w ⟨a0,a1,a2,a3,b0,b1,b2,b3⟩;go_simp) (by assumption) ?_
     simp only [sIb,sCs,sCz]
     refine tk_at 4 22 (.func (.func 160) #[] #[]) #[true,true,true,true,true,false,false,false,false,false,false,false,false,false,false,false,false] rfl rfl rfl (by kernel_rfl) (by rfl) (by rintro w ⟨a0,a1,a2,a3,b0,b1,b2,b3⟩;go_simp) (by assumption) ?_
     simp only [sIb,sCs,sCz]
     refine tk_at 5 23 (.slice (some ⟨g,0,none⟩) n cap) #[true,true,true,true,true,true,false,false,false,false,false,false,false,false,false,false,false] rfl rfl rfl (by kernel_rfl) (by rfl) (by rintro w ⟨a0,a1,a2,a3,b0,b1,b2,b3⟩;go_simp) (by assumption) ?_
     simp only [sIb,sCs,sCz]
     refine tk_at 6 24 (.int .i64 J) #[true,true,true,true,true,true,true,false,false,false,false,false,false,false,false,false,false] rfl rfl rfl (by kernel_rfl) (by rfl) (by rintro w ⟨a0,a1,a2,a3,b0,b1,b2,b3⟩;go_simp) (by assumption) ?_
     simp only [sIb,sCs,sCz]
     refine tk_at 7 25 (.pointer (some ⟨g,J*4,none⟩)) #[true,true,true,true,true,true,true,true,false,false,false,false,false,false,false,false,false] rfl rfl rfl (by kernel_rfl) (by rfl) (by rintro w ⟨a0,a1,a2,a3,b0,b1,b2,b3⟩;go_simp) (by assumption) ?_
     simp only [sIb,sCs,sCz]
     refine tk_at 8 26 (.agg #[.int .u8 t0,.int .u8 t1,.int .u8 t2,.int .i64 tc]) #[true,true,true,true,true,true,true,true,true,false,false,false,false,false,false,false,false] rfl rfl rfl (by kernel_rfl) (by rfl) (by rintro w ⟨a0,a1,a2,a3,b0,b1,b2,b3⟩;go_simp) (by assumption) ?_
     simp only [sIb,sCs,sCz]
     refine tk_at 9 27 (.slice (some ⟨g,0,none⟩) n cap) #[true,true,true,true,true,true,true,true,true,true,false,false,false,false,false,false,false] rfl rfl rfl (by kernel_rfl) (by rfl) (by rintro w ⟨a0,a1,a2,a3,b0,b1,b2,b3⟩;go_simp) (by assumption) ?_
     simp only [sIb,sCs,sCz]
     refine tk_at 10 28 (.int .i64 J) #[true,true,true,true,true,true,true,true,true,true,true,false,false,false,false,false,false] rfl rfl rfl (by kernel_rfl) (by rfl) (by rintro w ⟨a0,a1,a2,a3,b0,b1,b2,b3⟩;go_simp) (by assumption) ?_
     simp only [sIb,sCs,sCz]
     refine tk_at 11 29 (.int .i64 j) #[true,true,true,true,true,true,true,true,true,true,true,true,false,false,false,false,false] rfl rfl rfl (by kernel_rfl) (by rfl) (by rintro w ⟨a0,a1,a2,a3,b0,b1,b2,b3⟩;go_simp) (by assumption) ?_
     simp only [sIb,sCs,sCz]
     refine tk_at 12 30 (.pointer (some ⟨g,j*4,none⟩)) #[true,true,true,true,true,true,true,true,true,true,true,true,true,false,false,false,false] rfl rfl rfl (by kernel_rfl) (by rfl) (by rintro w ⟨a0,a1,a2,a3,b0,b1,b2,b3⟩;go_simp) (by assumption) ?_
     simp only [sIb,sCs,sCz]
     refine tk_at 13 31 (.agg #[.int .u8 s0,.int .u8 s1,.int .u8 s2,.int .i64 sc]) #[true,true,true,true,true,true,true,true,true,true,true,true,true,true,false,false,false] rfl rfl rfl (by kernel_rfl) (by rfl) (by rintro w ⟨a0,a1,a2,a3,b0,b1,b2,b3⟩;go_simp) (by assumption) ?_
     simp only [sIb,sCs,sCz]
     refine enter_at (i:=14) (d:=32) (f:=160) (args:=#[.agg #[.int .u8 t0,.int .u8 t1,.int .u8 t2,.int .i64 tc],.agg #[.int .u8 s0,.int .u8 s1,.int .u8 s2,.int .i64 sc]]) #[true,true,true,true,true,true,true,true,true,true,true,true,true,true,true,false,false] (by kernel_rfl) rfl rfl rfl (by rfl) (by go_simp) (fun r w'=>r=.int .i64 C3/\Below wi.heap.size wi w') ((HCM.out wi.drew).mono (fun r w' he=>⟨_,he.1,rfl,hdw.trans he.2⟩)) ?_
     rintro va w2 ⟨rfl,hB2⟩
     refine ⟨cc w2 hB2,?_⟩
     have hS2:=cc w2 hB2
     simp only [sIb,sCs,sCz]
     obtain ⟨e1,e2,e3,e4,e5,e6,e7⟩:=HI.out
     have hT2:=e3.below hB2
     have hF2:Frm (fun k=>k=g) w w2:=e4.trans (Frm.of_below hB2)
     have HI2:Hid (sink J m=sorts (i+1) l/\m.length=n/\TalB w2 g m/\Frm (fun k=>k=g) w w2/\J=j+1/\m[j]?=some ((s0,s1,s2),sc)/\m[J]?=some ((t0,t1,t2),tc)):=⟨e1,e2,hT2,hF2,e5,e6,e7⟩
     clear HI e1 e2 e3 e4 e5 e6 e7 hF2
     by_cases hc:sc<tc
     ·have hc3:C3<0:=by rw [hC3];exact (cmp3_neg _ _).2 hc
      rw [if_pos hc] at hsk
      have HSK:Hid (sink J m=sink j (swap m J)):=hsk
      clear hsk HCM hC3
      refine tk_at 15 33 (.bool true) #[true,true,true,true,true,true,true,true,true,true,true,true,true,true,true,true,false] rfl rfl rfl (by kernel_rfl) (by rfl) (by rintro w ⟨a0,a1,a2,a3,b0,b1,b2,b3⟩;go_simp) (by assumption) ?_
      simp only [sIb,sCs,sCz]
      refine tk_at 16 34 (.bool true) #[true,true,true,true,true,true,true,true,true,true,true,true,true,true,true,true,true] rfl rfl rfl (by kernel_rfl) (by rfl) (by rintro w ⟨a0,a1,a2,a3,b0,b1,b2,b3⟩;go_simp) (by assumption) ?_
      simp only [sIb,sCs,sCz]
      refine wpAnyH_done (by kernel_rfl) ?_ _
      dsimp only [calmPost]
      clear cc hS0 hS2 hB2 hdw
      clear k0 k1 k2 k3 l0 l1 l2 l3
      obtain ⟨k0,k1,k2,k3⟩:=hT2.at HI2.out.2.2.2.2.2.1
      obtain ⟨l0,l1,l2,l3⟩:=hT2.at HI2.out.2.2.2.2.2.2
      dsimp only at k0 k1 k2 k3 l0 l1 l2 l3
      have fz:=hT2.frz
      have HT2:Hid (TalB w2 g m):=hT2
      clear hT2
      go_wp2_with fail
      refine region_calm (S:=fun _=>True) 18 #[false,false,false,false,false,false,false,false,false,false,false,false,false,false,false,false,false,false] rfl rfl hmx ?_
      have hS1:True:=trivial
      refine tk_at 0 37 (.slice (some ⟨g,0,none⟩) n cap) #[true,false,false,false,false,false,false,false,false,false,false,false,false,false,false,false,false,false] rfl rfl rfl (by kernel_rfl) (by rfl) ?y0 (by assumption) ?r0
      case y0 =>
       intro w _
       go_simp
      case r0 =>
      simp only [sIb,sCs,sCz]
      refine tk_at 1 38 (.int .i64 J) #[true,true,false,false,false,false,false,false,false,false,false,false,false,false,false,false,false,false] rfl rfl rfl (by kernel_rfl) (by rfl) ?y1 (by assumption) ?r1
      case y1 =>
       intro w _
       go_simp
      case r1 =>
      simp only [sIb,sCs,sCz]
      refine tk_at 2 39 (.slice (some ⟨g,0,none⟩) n cap) #[true,true,true,false,false,false,false,false,false,false,false,false,false,false,false,false,false,false] rfl rfl rfl (by kernel_rfl) (by rfl) ?y2 (by assumption) ?r2
      case y2 =>
       intro w _
       go_simp
      case r2 =>
      simp only [sIb,sCs,sCz]
      refine tk_at 3 40 (.int .i64 J) #[true,true,true,true,false,false,false,false,false,false,false,false,false,false,false,false,false,false] rfl rfl rfl (by kernel_rfl) (by rfl) ?y3 (by assumption) ?r3
      case y3 =>
       intro w _
       go_simp
      case r3 =>
      simp only [sIb,sCs,sCz]
      refine tk_at 4 41 (.int .i64 j) #[true,true,true,true,true,false,false,false,false,false,false,false,false,false,false,false,false,false] rfl rfl rfl (by kernel_rfl) (by rfl) ?y4 (by assumption) ?r4
      case y4 =>
       intro w _
       go_simp
      case r4 =>
      simp only [sIb,sCs,sCz]
      refine tk_at 5 42 (.slice (some ⟨g,0,none⟩) n cap) #[true,true,true,true,true,true,false,false,false,false,false,false,false,false,false,false,false,false] rfl rfl rfl (by kernel_rfl) (by rfl) ?y5 (by assumption) ?r5
      case y5 =>
       intro w _
       go_simp
      case r5 =>
      simp only [sIb,sCs,sCz]
      refine tk_at 6 43 (.int .i64 J) #[true,true,true,true,true,true,true,false,false,false,false,false,false,false,false,false,false,false] rfl rfl rfl (by kernel_rfl) (by rfl) ?y6 (by assumption) ?r6
      case y6 =>
       intro w _
       go_simp
      case r6 =>
      simp only [sIb,sCs,sCz]
      refine tk_at 7 44 (.int .i64 j) #[true,true,true,true,true,true,true,true,false,false,false,false,false,false,false,false,false,false] rfl rfl rfl (by kernel_rfl) (by rfl) ?y7 (by assumption) ?r7
      case y7 =>
       intro w _
       go_simp
      case r7 =>
      simp only [sIb,sCs,sCz]
      refine tk_at 8 45 (.pointer (some ⟨g,j*4,none⟩)) #[true,true,true,true,true,true,true,true,true,false,false,false,false,false,false,false,false,false] rfl rfl rfl (by kernel_rfl) (by rfl) ?y8 (by assumption) ?r8
      case y8 =>
       intro w _
       go_simp
      case r8 =>
      simp only [sIb,sCs,sCz]
      refine tk_at 10 47 (.slice (some ⟨g,0,none⟩) n cap) #[true,true,true,true,true,true,true,true,true,false,true,false,false,false,false,false,false,false] rfl rfl rfl (by kernel_rfl) (by rfl) ?y10 (by assumption) ?r10
      case y10 =>
       intro w _
       go_simp
      case r10 =>
      simp only [sIb,sCs,sCz]
      refine tk_at 11 48 (.int .i64 J) #[true,true,true,true,true,true,true,true,true,false,true,true,false,false,false,false,false,false] rfl rfl rfl (by kernel_rfl) (by rfl) ?y11 (by assumption) ?r11
      case y11 =>
       intro w _
       go_simp
      case r11 =>
      simp only [sIb,sCs,sCz]
      refine tk_at 12 49 (.pointer (some ⟨g,J*4,none⟩)) #[true,true,true,true,true,true,true,true,true,false,true,true,true,false,false,false,false,false] rfl rfl rfl (by kernel_rfl) (by rfl) ?y12 (by assumption) ?r12
      case y12 =>
       intro w _
       go_simp
      case r12 =>
      simp only [sIb,sCs,sCz]
      have k0d:w2.drew.cell? ⟨g,j*4,none⟩=some (.int .u8 s0):=k0
      have k1d:w2.drew.cell? ⟨g,j*4+1,none⟩=some (.int .u8 s1):=k1
      have k2d:w2.drew.cell? ⟨g,j*4+2,none⟩=some (.int .u8 s2):=k2
      have k3d:w2.drew.cell? ⟨g,j*4+3,none⟩=some (.int .i64 sc):=k3
      have l0d:w2.drew.cell? ⟨g,J*4,none⟩=some (.int .u8 t0):=l0
      have l1d:w2.drew.cell? ⟨g,J*4+1,none⟩=some (.int .u8 t1):=l1
      have l2d:w2.drew.cell? ⟨g,J*4+2,none⟩=some (.int .u8 t2):=l2
      have l3d:w2.drew.cell? ⟨g,J*4+3,none⟩=some (.int .i64 tc):=l3
      refine pair_at (i:=9) (j:=13) (di:=46) (dj:=50) (vi:=.agg #[.int .u8 s0,.int .u8 s1,.int .u8 s2,.int .i64 sc]) (vj:=.agg #[.int .u8 t0,.int .u8 t1,.int .u8 t2,.int .i64 tc]) (w':=w2.drew) #[true,true,true,true,true,true,true,true,true,true,true,true,true,false,false,false,false,false] #[true,true,true,true,true,true,true,true,true,false,true,true,true,true,false,false,false,false] #[true,true,true,true,true,true,true,true,true,true,true,true,true,true,false,false,false,false] rfl rfl rfl rfl (by kernel_rfl) (by kernel_rfl) (by kernel_rfl) rfl rfl rfl rfl rfl rfl rfl rfl (by rfl) (by rfl) (by rfl) (by rfl) ?g1 ?g2 ?g3 ?g4 trivial trivial ?_
      case g1=>go_simp
      case g2=>go_simp
      case g3=>go_simp
      case g4=>go_simp
      simp only [sIb,sCs,sCz]
      refine tk_at 14 51 (.pointer (some ⟨g,J*4,none⟩)) #[true,true,true,true,true,true,true,true,true,true,true,true,true,true,true,false,false,false] rfl rfl rfl (by kernel_rfl) (by rfl) ?y14 (by assumption) ?r14
      case y14 =>
       intro w _
       go_simp
      case r14 =>
      simp only [sIb,sCs,sCz]
      obtain ⟨X,hX⟩:∃ X,X=st4 w2.drew g J ((s0,s1,s2),sc):=⟨_,rfl⟩
      obtain ⟨Y,hY⟩:∃ Y,Y=st4 X g j ((t0,t1,t2),tc):=⟨_,rfl⟩
      have fz0:=HT2.out.frz (J*4)
      have fz1:=HT2.out.frz (J*4+1)
      have fz2:=HT2.out.frz (J*4+2)
      have fz3:=HT2.out.frz (J*4+3)
      refine store_at (i:=15) (w':=X) #[true,true,true,true,true,true,true,true,true,true,true,true,true,true,true,true,false,false] (by kernel_rfl) rfl rfl rfl (by rfl) ?y15 trivial ?r15
      case y15 =>
       rw [hX]
       unfold st4
       clear hX hY HI2 HT2 HSK fz
       go_simp
      case r15 =>
      refine tk_at 16 52 (.pointer (some ⟨g,j*4,none⟩)) #[true,true,true,true,true,true,true,true,true,true,true,true,true,true,true,true,true,false] rfl rfl rfl (by kernel_rfl) (by rfl) ?y16 (by assumption) ?r16
      case y16 =>
       intro w _
       go_simp
      case r16 =>
      simp only [sIb,sCs,sCz]
      have hdl:TalB w2.drew g m:=HT2.out.below ⟨rfl,rfl,rfl,Nat.le_refl _,fun _ _=>rfl⟩
      have hJl:J<m.length:=by have:=HI2.out.2.1;omega
      have hjl:j<m.length:=by have:=HI2.out.2.1;omega
      have hTX:TalB X g (m.set J ((s0,s1,s2),sc)):=by rw [hX];exact hdl.store hJl _
      have hTY:TalB Y g ((m.set J ((s0,s1,s2),sc)).set j ((t0,t1,t2),tc)):=by rw [hY];exact hTX.store (by rw [List.length_set];exact hjl) _
      have fX:Frm (fun k=>k=g) w2.drew X:=by rw [hX];exact st4_frm _ _ _ _
      have fY:Frm (fun k=>k=g) X Y:=by rw [hY];exact st4_frm _ _ _ _
      obtain ⟨k4,k5,k6,k7⟩:=hTX.at (k:=j) (t:=((s0,s1,s2),sc)) (by rw [List.getElem?_set,if_neg (by have:=HI2.out.2.2.2.2.1;omega)];exact HI2.out.2.2.2.2.2.1)
      dsimp only at k4 k5 k6 k7
      have hz0:=hTX.frz (j*4)
      have hz1:=hTX.frz (j*4+1)
      have hz2:=hTX.frz (j*4+2)
      have hz3:=hTX.frz (j*4+3)
      have HTY:Hid (TalB Y g (swap m J)/\(swap m J).length=n/\Frm (fun k=>k=g) w Y):=by
       have e5:=HI2.out.2.2.2.2.1
       refine ⟨?_,by rw [Pk.swap_len];exact HI2.out.2.1,(HI2.out.2.2.2.1.trans ((Frm.refl _ w2).drew.trans fX)).trans fY⟩
       have:swap m J=(m.set J ((s0,s1,s2),sc)).set j ((t0,t1,t2),tc):=by
        unfold swap
        have h1:J-1=j:=by omega
        rw [h1,List.getD_eq_getElem?_getD,List.getD_eq_getElem?_getD,HI2.out.2.2.2.2.2.1,HI2.out.2.2.2.2.2.2]
        rfl
       rw [this]
       exact hTY
      refine store_at (i:=17) (w':=Y) #[true,true,true,true,true,true,true,true,true,true,true,true,true,true,true,true,true,true] (by kernel_rfl) rfl rfl rfl (by rfl) ?y17 trivial ?r17
      case y17 =>
       rw [hY]
       unfold st4
       clear hX hY HI2 HT2 HSK HTY fX fY hTX hTY hdl fz
       go_simp
      case r17 =>
      refine wpAnyH_done (by kernel_rfl) ?_ _
      dsimp only [calmPost]
      clear k0 k1 k2 k3 l0 l1 l2 l3 k0d k1d k2d k3d l0d l1d l2d l3d k4 k5 k6 k7 hz0 hz1 hz2 hz3 fz0 fz1 fz2 fz3 fz hX hY hTX hTY fX fY hdl hS1 HT2
      go_wp2_with fail
      go_roundw
      case rel=>exact ⟨j,swap m J,by omega,rfl,by rw [<- HSK.out];exact HI2.out.1,HTY.out.2.1,HTY.out.1,HTY.out.2.2⟩
      case measure=>simp [intOf];omega
     ·have hc3:¬ (C3<0):=by rw [hC3];exact fun e=>hc ((cmp3_neg _ _).1 e)
      rw [if_neg hc] at hsk
      have HSK:Hid (sink J m=m):=hsk
      clear hsk HCM hC3
      refine tk_at 15 33 (.bool false) #[true,true,true,true,true,true,true,true,true,true,true,true,true,true,true,true,false] rfl rfl rfl (by kernel_rfl) (by rfl) (by rintro w ⟨a0,a1,a2,a3,b0,b1,b2,b3⟩;go_simp) (by assumption) ?_
      simp only [sIb,sCs,sCz]
      refine tk_at 16 34 (.bool false) #[true,true,true,true,true,true,true,true,true,true,true,true,true,true,true,true,true] rfl rfl rfl (by kernel_rfl) (by rfl) (by rintro w ⟨a0,a1,a2,a3,b0,b1,b2,b3⟩;go_simp) (by assumption) ?_
      simp only [sIb,sCs,sCz]
      refine wpAnyH_done (by kernel_rfl) ?_ _
      dsimp only [calmPost]
      clear cc hS0 hS2 hB2 hdw k0 k1 k2 k3 l0 l1 l2 l3 hT2
      go_wp2_with fail
      obtain ⟨e1,e2,e3,e4,_⟩:=HI2.out
      rw [HSK.out] at e1
      rw [e1] at e2 e3
      refine ⟨⟨i+1,by omega,by omega,by simp,e3,e2,e4⟩,?_⟩
      simp [intOf];omega
  ·have hlt':¬ ((i:Int)<(n:Int)):=by omega
   have hin:i=n:=by omega
   go_wp2
   go_end0
   have e:=HI.out
   rw [hin] at e
   exact ⟨rfl,e.1,e.2.2⟩
theorem pStable (w:World) (g n cap:Nat) (l:List Tl) (hn:l.length=n) (hn0:0<n) (hn4:n<=4) (h:TalB w g l) :
  Calls Tryz.prog 178 #[.slice (some ⟨g,0,none⟩) n cap,.int .i64 n,.func (.func 160) #[] #[]] w fun e w'=>e=.returned (.tuple #[])/\TalB w' g (sorts n l)/\Frm (fun k=>k=g) w w':=by
 have HC:=pInsertion w g n cap l hn hn0 hn4 h
 have h20:¬ ((20:Int)<=(n:Int)):=by omega
 have h20':¬ ((20:Int)<(n:Int)):=by omega
 have HN:Hid (l.length=n/\0<n):=⟨hn,hn0⟩
 clear hn h hn0
 go_enter Tryz.func178,Tryz.ntmps178
 go_wp2
 go_loopw [7,8] (fun v7 v8 wr=>v7=.int .i64 0/\v8=.int .i64 20/\wr=w) (fun _ _ _=>0)
 case atStart=>exact ⟨rfl,rfl,rfl⟩
 case round =>
  obtain ⟨rfl,rfl,rfl⟩:=hrel
  go_wp2_with (go_at_call 184;refine HC.mono ?_;rintro e w2 ⟨rfl,h2⟩)
  have H2:Hid (TalB w2 g (sorts n l)/\Frm (fun k=>k=g) wr w2):=h2
  clear h2 HC
  go_loopw [6] (fun v6 wq=>v6=.int .i64 20/\wq=w2) (fun _ _=>0)
  case atStart=>exact ⟨rfl,rfl⟩
  case round =>
   obtain ⟨rfl,rfl⟩:=hrel
   go_wp2
   go_end0
   exact ⟨rfl,H2.out⟩
theorem pSortStable (w:World) (g n cap:Nat) (l:List Tl) (hn:l.length=n) (hn0:0<n) (hn4:n<=4) (h:TalB w g l) :
  Calls Tryz.prog 159 #[.slice (some ⟨g,0,none⟩) n cap,.func (.func 160) #[] #[]] w fun e w'=>e=.returned (.tuple #[])/\TalB w' g (sorts n l)/\Frm (fun k=>k=g) w w':=by
 have HC:=pStable w g n cap l hn hn0 hn4 h
 clear hn h hn0
 go_enter Tryz.func159,Tryz.ntmps159
 go_wp2_with (go_at_call 178;refine HC.mono ?_;rintro e w2 ⟨rfl,h2⟩)
 go_end0
 exact ⟨rfl,h2⟩
end
section
open Go.RowKit
open Flm (Px FS okPx)
open Pk (find tally tallies coloursL index col1 choice fewl num ones)
theorem tallies_nil (l:List Tl):tallies [] l=some l:=rfl
theorem tallies_cons (c:Px) (cs:List Px) (l:List Tl):tallies (c :: cs) l=if find c l<l.length \/ l.length<4 then tallies cs (tally l c) else none:=rfl
theorem tallies_snoc:∀ (cs:List Px) (l:List Tl) (c:Px),tallies (cs++[c]) l=(tallies cs l).bind fun L=>if find c L<L.length \/ L.length<4 then some (tally L c) else none
 | [],l,c=>by
  rw [List.nil_append,tallies_cons,tallies_nil]
  rfl
 | d :: cs,l,c=>by
  rw [List.cons_append,tallies_cons,tallies_cons]
  split
  ·exact tallies_snoc cs _ c
  ·rfl
theorem tallies_none:∀ (cs:List Px) (l:List Tl) (ds:List Px),tallies cs l=none->tallies (cs++ds) l=none
 | [],l,ds,h=>by rw [tallies_nil] at h;cases h
 | d :: cs,l,ds,h=>by
  rw [List.cons_append,tallies_cons]
  rw [tallies_cons] at h
  split
  ·rename_i h1
   rw [if_pos h1] at h
   exact tallies_none cs _ ds h
  ·rfl
theorem find_le (c:Px):∀ l:List Tl,find c l<=l.length
 | []=>Nat.le_refl _
 | t :: l=>by
  unfold find
  split
  ·exact Nat.zero_le _
  ·have:=find_le c l
   rw [List.length_cons];omega
def CntOk (N:Nat) (l:List Tl):Prop:=∀ t ∈ l,0<=t.2/\t.2<=N
theorem CntOk.tally {N:Nat} {l:List Tl} (h:CntOk N l) (c:Px):CntOk (N+1) (tally l c):=by
 intro t ht
 unfold Pk.tally at ht
 split at ht
 ·rename_i hf
  rcases List.mem_or_eq_of_mem_set ht with h1|h1
  ·have:=h t h1;omega
  ·have h2:l.getD (find c l) tl0 ∈ l:=by rw [List.getD_eq_getElem?_getD,List.getElem?_eq_getElem hf];exact List.getElem_mem hf
   have h3:=h _ h2
   rw [h1]
   exact ⟨Int.le_add_one h3.1,Int.add_le_add_right h3.2 1⟩
 ·rcases List.mem_append.1 ht with h1|h1
  ·have:=h t h1;omega
  ·rw [List.mem_singleton.1 h1];dsimp only;omega
theorem tally_old {l:List Tl} {c:Px} (h:find c l<l.length):tally l c=l.set (find c l) (c,(l.getD (find c l) tl0).2+1):=if_pos h
theorem tally_new {l:List Tl} {c:Px} (h:¬ find c l<l.length):tally l c=l++[(c,1)]:=if_neg h
theorem find_get {l:List Tl} {c:Px} (h:find c l<l.length):∃ n,l[find c l]?=some (c,n):=by
 have h1:=Pk.find_lt h
 rw [List.getD_eq_getElem?_getD,List.getElem?_eq_getElem h] at h1
 rw [List.getElem?_eq_getElem h]
 exact ⟨(l[find c l]).2,congrArg some (Prod.ext h1 rfl)⟩
theorem snoc_set {l:List Tl} (a b:Tl):(l++[a]).set l.length b=l++[b]:=by
 rw [List.set_append_right _ _ (Nat.le_refl _),Nat.sub_self];rfl
theorem find_drop (c:Px):∀ (l:List Tl) (k:Nat),(∀ j t,j<k->l[j]?=some t->t.1 ≠ c)->k<=l.length->(∀ t,l[k]?=some t->t.1=c)->find c l=k
 | [],k,_,h,_=>by simp at h;exact h.symm
 | t :: l,0,_,_,h=>by
  unfold find
  rw [if_pos (h t rfl)]
 | t :: l,k+1,h1,h2,h3=>by
  unfold find
  rw [if_neg (h1 0 t (by omega) rfl),find_drop c l k (fun j s hj hs=>h1 (j+1) s (by omega) hs) (by simpa using h2) (fun s hs=>h3 s hs)]
theorem index_drop (c:Px):∀ (l:List Px) (k:Nat),(∀ j t,j<k->l[j]?=some t->t ≠ c)->l[k]?=some c->index c l=k
 | [],k,_,h=>by simp at h
 | t :: l,0,_,h=>by
  unfold index
  rw [if_pos (by simpa using h)]
 | t :: l,k+1,h1,h3=>by
  unfold index
  rw [if_neg (h1 0 t (by omega) rfl),index_drop c l k (fun j s hj hs=>h1 (j+1) s (by omega) hs) (by simpa using h3)]
theorem num8_len {m:Nat} (h:m<=255) (k:Nat):(num k m).length<=19:=by
 have:=Pk.num_len k m
 have:=Pk.dig_le (m:=m) (by omega)
 omega
theorem col1_ok {c:Px} (hc:okPx c):Pack.BitsOk (col1 c)/\(col1 c).length<=57:=by
 obtain ⟨⟨a1,a2⟩,⟨a3,a4⟩,a5,a6⟩:=hc
 unfold col1
 refine ⟨Pk.ok_app (Pk.num_ok (by omega) (by decide)) (Pk.ok_app (Pk.num_ok (by omega) (by decide)) (Pk.num_ok (by omega) (by decide))),?_⟩
 have h1:=num8_len (m:=c.1.toNat) (by omega) 224
 have h2:=num8_len (m:=c.2.1.toNat) (by omega) 224
 have h3:=num8_len (m:=c.2.2.toNat) (by omega) 224
 rw [List.length_append,List.length_append]
 omega
theorem choice_ok {last n:Nat} (hn:n<=3):Pack.BitsOk (choice last n)/\(choice last n).length<=4:=by
 unfold choice
 have h1:=Pk.ones_len 250 n 0
 refine ⟨Pk.ok_app (Pk.ones_ok 250 n 0 (by omega)) ?_,?_⟩
 ·split
  ·exact Pk.ok_cons (by omega) (.inl rfl) Pk.ok_nil
  ·exact Pk.ok_nil
 ·rw [List.length_append]
  split <;> simp only [List.length_cons,List.length_nil] <;> omega
theorem flatMap_snoc {α β:Type} (f:α->List β) (l:List α) (a:α):(l++[a]).flatMap f=l.flatMap f++f a:=by
 rw [List.flatMap_append,List.flatMap_cons,List.flatMap_nil,List.append_nil]
theorem take_snoc {α:Type} {l:List α} {k:Nat} {c:α} (h:l[k]?=some c):l.take (k+1)=l.take k++[c]:=by
 rw [List.take_add_one,h];rfl
end
section
open Go.RowKit
open Flm (Px FS okPx)
open Pk (find tally tallies index)
def sameP (a b:Px):Bool:=a.1 == b.1 && (a.2.1 == b.2.1 && a.2.2 == b.2.2)
theorem sameP_iff (a b:Px):sameP a b=true ↔ a=b:=by
 obtain ⟨a0,a1,a2⟩:=a
 obtain ⟨b0,b1,b2⟩:=b
 simp [sameP]
def findI (c:Px) (l:List Tl):Int:=if find c l<l.length then (find c l:Int) else -1
theorem findI_lt {c:Px} {l:List Tl} (h:find c l<l.length):findI c l=(find c l:Int):=if_pos h
theorem findI_ge {c:Px} {l:List Tl} (h:¬ find c l<l.length):findI c l=-1:=if_neg h
theorem pSameCol (w:World) (K:Nat) (a0 a1 a2 n c0 c1 c2:Int) (h0:w.cell? ⟨K,0,none⟩=some (.int .u8 c0)) (h1:w.cell? ⟨K,1,none⟩=some (.int .u8 c1)) (h2:w.cell? ⟨K,2,none⟩=some (.int .u8 c2)) :
  Calls Tryz.prog 158 #[.agg #[.int .u8 a0,.int .u8 a1,.int .u8 a2,.int .i64 n],.pointer (some ⟨K,0,none⟩)] w fun e w'=>e=.returned (.bool (sameP (a0,a1,a2) (c0,c1,c2)))/\Below w.heap.size w w':=by
 obtain ⟨W,hW⟩:∃ W,W=w.alloc (.cells #[.int .u8 a0,.int .u8 a1,.int .u8 a2,.int .i64 n] 258):=⟨_,rfl⟩
 have hB:Below w.heap.size w W:=by rw [hW];exact (Below.refl _ w).alloc (Nat.le_refl _) _
 have hh:W.heap[w.heap.size]?=some (.cells #[.int .u8 a0,.int .u8 a1,.int .u8 a2,.int .i64 n] 258):=by rw [hW];exact heap_alloc_last w _
 obtain ⟨H,hH⟩:∃ H,H=w.heap.size:=⟨_,rfl⟩
 rw [<- hH] at hh
 have c:∀ (a:Addr) (v:Value),w.cell? a=some v->W.cell? a=some v:=fun a v e=>(hB.cell (World.block_lt_of_cell? w _ e)).trans e
 have k0:=c _ _ h0
 have k1:=c _ _ h1
 have k2:=c _ _ h2
 have d0:=cell_of_row _ _ 0 _ _ _ hh
 have d1:=cell_of_row _ _ 1 _ _ _ hh
 have d2:=cell_of_row _ _ 2 _ _ _ hh
 simp at d0 d1 d2
 have heq:=fun w=>eqPix w a0 a1 a2 c0 c1 c2
 obtain ⟨E,hE⟩:∃ E,E=sameP (a0,a1,a2) (c0,c1,c2):=⟨_,rfl⟩
 have hE':(a0 == c0 && (a1 == c1 && a2 == c2))=E:=hE.symm
 rw [hE'] at heq
 rw [<- hE]
 have HW:Hid (W=w.alloc (.cells #[.int .u8 a0,.int .u8 a1,.int .u8 a2,.int .i64 n] 258)/\H=w.heap.size/\Below w.heap.size w W):=⟨hW,hH,hB⟩
 clear hW hB hh hH c h0 h1 h2 hE hE'
 go_enter Tryz.func158,Tryz.ntmps158
 go_wp2_with (rw [<- HW.out.1,<- HW.out.2.1])
 go_ret
 exact ⟨rfl,HW.out.2.2⟩
theorem pIndexFunc (w:World) (a:Option Addr) (n cap K:Nat) (l:List Tl) (c:Px) (hn:l.length=n) (hn4:n<=4) (h:n=0 \/ ∃ g,a=some ⟨g,0,none⟩/\∀ k t,l[k]?=some t->TalK w g k t) (h0:w.cell? ⟨K,0,none⟩=some (.int .u8 c.1)) (h1:w.cell? ⟨K,1,none⟩=some (.int .u8 c.2.1)) (h2:w.cell? ⟨K,2,none⟩=some (.int .u8 c.2.2)) :
  Calls Tryz.prog 157 #[.slice a n cap,.func (.func 158) #[] #[.pointer (some ⟨K,0,none⟩)]] w fun e w'=>e=.returned (.int .i64 (findI c l))/\Below w.heap.size w w':=by
 have HH:Hid (l.length=n/\(n=0 \/ ∃ g,a=some ⟨g,0,none⟩/\∀ k t,l[k]?=some t->TalK w g k t)/\w.cell? ⟨K,0,none⟩=some (.int .u8 c.1)/\w.cell? ⟨K,1,none⟩=some (.int .u8 c.2.1)/\w.cell? ⟨K,2,none⟩=some (.int .u8 c.2.2)):=⟨hn,h,h0,h1,h2⟩
 clear hn h h0 h1 h2
 obtain ⟨c0,c1,c2⟩:=c
 go_enter Tryz.func157,Tryz.ntmps157
 go_wp2
 go_loopw [8] (fun v8 wr=>∃ j:Nat,j<=n/\v8=.int .i64 j/\(∀ i t,i<j->l[i]?=some t->t.1 ≠ (c0,c1,c2))/\Below w.heap.size w wr) (fun v8 _=>n-(intOf v8).toNat)
 case atStart=>exact ⟨0,Nat.zero_le _,rfl,fun i t hi=>absurd hi (Nat.not_lt_zero _),Below.refl _ _⟩
 case round =>
  obtain ⟨j,hj,rfl,hne,hb⟩:=hrel
  by_cases hlt:j<n
  ·have hlt':(j:Int)<(n:Int):=by omega
   obtain ⟨e1,e2,e3,e4,e5⟩:=HH.out
   obtain ⟨t,ht⟩:∃ t,l[j]?=some t:=⟨l[j]'(by omega),List.getElem?_eq_getElem _⟩
   obtain ⟨⟨t0,t1,t2⟩,tc⟩:=t
   obtain ⟨g,rfl,hg⟩:∃ g,a=some ⟨g,0,none⟩/\∀ k t,l[k]?=some t->TalK w g k t:=e2.resolve_left (by omega)
   obtain ⟨k0,k1,k2,k3⟩:=hg j _ ht
   have cc:∀ (a:Addr) (v:Value),w.cell? a=some v->wr.cell? a=some v:=fun a v e=>(hb.cell (World.block_lt_of_cell? w _ e)).trans e
   have d0:=cc _ _ k0
   have d1:=cc _ _ k1
   have d2:=cc _ _ k2
   have d3:=cc _ _ k3
   dsimp only at d0 d1 d2 d3
   have HC:=pSameCol wr K t0 t1 t2 tc c0 c1 c2 (cc _ _ e3) (cc _ _ e4) (cc _ _ e5)
   obtain ⟨E,hE⟩:∃ E,E=sameP (t0,t1,t2) (c0,c1,c2):=⟨_,rfl⟩
   rw [<- hE] at HC
   have HI:Hid ((∀ i t,i<j->l[i]?=some t->t.1 ≠ (c0,c1,c2))/\Below w.heap.size w wr/\l[j]?=some ((t0,t1,t2),tc)/\E=sameP (t0,t1,t2) (c0,c1,c2)/\l.length=n):=⟨hne,hb,ht,hE,e1⟩
   clear hne hb ht hE e1 e2 e3 e4 e5 hg k0 k1 k2 k3 cc HH
   cases E with
   | true =>
    go_wp2_with (go_at_call 158;refine HC.mono ?_;rintro e w2 ⟨rfl,b2⟩)
    go_ret
    obtain ⟨i1,i2,i3,i4,i5⟩:=HI.out
    have hc:=(sameP_iff _ _).1 i4.symm
    have hf:find (c0,c1,c2) l=j:=find_drop _ l j i1 (by omega) (fun t ht=>by rw [i3] at ht;rw [<- Option.some.inj ht];exact hc)
    exact ⟨by rw [findI_lt (by omega),hf];rfl,i2.trans (b2.mono i2.size)⟩
   | false =>
    go_wp2_with (go_at_call 158;refine HC.mono ?_;rintro e w2 ⟨rfl,b2⟩)
    obtain ⟨i1,i2,i3,i4,i5⟩:=HI.out
    go_roundw
    case rel =>
     refine ⟨j+1,hlt,by go_num,fun i t hi ht e=>?_,i2.trans (b2.mono i2.size)⟩
     by_cases hij:i<j
     ·exact i1 i t hij ht e
     ·have:i=j:=by omega
      subst this
      rw [i3] at ht
      rw [<- Option.some.inj ht] at e
      rw [(sameP_iff _ _).2 e] at i4
      cases i4
    case measure=>simp [intOf];omega
  ·have hlt':¬ (j:Int)<(n:Int):=by omega
   have HI:Hid ((∀ i t,i<j->l[i]?=some t->t.1 ≠ (c0,c1,c2))/\Below w.heap.size w wr):=⟨hne,hb⟩
   clear hne hb
   go_wp2
   go_ret
   obtain ⟨i1,i2⟩:=HI.out
   have hf:find (c0,c1,c2) l=j:=find_drop _ l j i1 (by have:=HH.out.1;omega) (fun t ht=>by have:=(List.getElem?_eq_some_iff.1 ht).1;have:=HH.out.1;omega)
   exact ⟨by rw [findI_ge (by have:=HH.out.1;omega)];rfl,i2⟩
def ColsAt (w:World) (g:Nat) (cs:List Px):Prop:=∀ k c,cs[k]?=some c->w.cell? ⟨g,k*3,none⟩=some (.int .u8 c.1)/\w.cell? ⟨g,k*3+1,none⟩=some (.int .u8 c.2.1)/\w.cell? ⟨g,k*3+2,none⟩=some (.int .u8 c.2.2)
theorem ColsAt.below {w w':World} {g:Nat} {cs:List Px} (h:ColsAt w g cs) (f:Below w.heap.size w w'):ColsAt w' g cs:=fun k c hk =>
 have cc:∀ (a:Addr) (v:Value),w.cell? a=some v->w'.cell? a=some v:=fun _ _ e=>(f.cell (World.block_lt_of_cell? w _ e)).trans e
 ⟨cc _ _ (h k c hk).1,cc _ _ (h k c hk).2.1,cc _ _ (h k c hk).2.2⟩
theorem ColsAt.frm {S:Nat->Prop} {w w':World} {g:Nat} {cs:List Px} (h:ColsAt w g cs) (f:Frm S w w') (hg:¬ S g):ColsAt w' g cs:=fun k c hk =>
 ⟨f.cell (h k c hk).1 hg,f.cell (h k c hk).2.1 hg,f.cell (h k c hk).2.2 hg⟩
theorem pIndex (w:World) (g n cap:Nat) (cs:List Px) (c:Px) (hn:cs.length=n) (hn4:n<=4) (h:ColsAt w g cs) (hc:c ∈ cs) :
  Calls Tryz.prog 138 #[.slice (some ⟨g,0,none⟩) n cap,.agg #[.int .u8 c.1,.int .u8 c.2.1,.int .u8 c.2.2]] w fun e w'=>e=.returned (.int .i64 (index c cs))/\Below w.heap.size w w':=by
 obtain ⟨c0,c1,c2⟩:=c
 dsimp only
 obtain ⟨W,hW⟩:∃ W,W=w.alloc (.cells #[.int .u8 c0,.int .u8 c1,.int .u8 c2] 50):=⟨_,rfl⟩
 have hB:Below w.heap.size w W:=by rw [hW];exact (Below.refl _ w).alloc (Nat.le_refl _) _
 obtain ⟨H,hH⟩:∃ H,H=w.heap.size:=⟨_,rfl⟩
 have hh:W.heap[H]?=some (.cells #[.int .u8 c0,.int .u8 c1,.int .u8 c2] 50):=by rw [hW,hH];exact heap_alloc_last w _
 have HH:Hid (cs.length=n/\ColsAt W g cs/\(c0,c1,c2) ∈ cs/\W=w.alloc (.cells #[.int .u8 c0,.int .u8 c1,.int .u8 c2] 50)/\H=w.heap.size/\W.heap[H]?=some (.cells #[.int .u8 c0,.int .u8 c1,.int .u8 c2] 50)/\Below w.heap.size w W):=⟨hn,h.below hB,hc,hW,hH,hh,hB⟩
 clear hn h hc hW hB hH hh
 go_enter Tryz.func138,Tryz.ntmps138
 go_wp2_with (rw [<- HH.out.2.2.2.1,<- HH.out.2.2.2.2.1])
 go_loopw [8] (fun v8 wr=>∃ j:Nat,j<=n/\v8=.int .i64 j/\(∀ i t,i<j->cs[i]?=some t->t ≠ (c0,c1,c2))/\Below W.heap.size W wr) (fun v8 _=>n-(intOf v8).toNat)
 case atStart=>exact ⟨0,Nat.zero_le _,rfl,fun i t hi=>absurd hi (Nat.not_lt_zero _),Below.refl _ _⟩
 case round =>
  obtain ⟨j,hj,rfl,hne,hb⟩:=hrel
  by_cases hlt:j<n
  ·have hlt':(j:Int)<(n:Int):=by omega
   obtain ⟨e1,e2,e3,e4,e5,e6,e7⟩:=HH.out
   obtain ⟨t,ht⟩:∃ t,cs[j]?=some t:=⟨cs[j]'(by omega),List.getElem?_eq_getElem _⟩
   obtain ⟨t0,t1,t2⟩:=t
   obtain ⟨k0,k1,k2⟩:=e2 j _ ht
   have cc:∀ (a:Addr) (v:Value),W.cell? a=some v->wr.cell? a=some v:=fun a v e=>(hb.cell (World.block_lt_of_cell? W _ e)).trans e
   have d0:=cc _ _ k0
   have d1:=cc _ _ k1
   have d2:=cc _ _ k2
   have x0:=cc _ _ (cell_of_row _ _ 0 _ _ _ e6)
   have x1:=cc _ _ (cell_of_row _ _ 1 _ _ _ e6)
   have x2:=cc _ _ (cell_of_row _ _ 2 _ _ _ e6)
   dsimp only at d0 d1 d2
   have heq:=fun w=>eqPix w c0 c1 c2 t0 t1 t2
   obtain ⟨E,hE⟩:∃ E,E=sameP (c0,c1,c2) (t0,t1,t2):=⟨_,rfl⟩
   have hE':(c0 == t0 && (c1 == t1 && c2 == t2))=E:=hE.symm
   rw [hE'] at heq
   have HI:Hid ((∀ i t,i<j->cs[i]?=some t->t ≠ (c0,c1,c2))/\Below W.heap.size W wr/\cs[j]?=some (t0,t1,t2)/\E=sameP (c0,c1,c2) (t0,t1,t2)/\cs.length=n/\Below w.heap.size w W):=⟨hne,hb,ht,hE,e1,e7⟩
   clear hne hb ht hE hE' e1 e2 e3 e4 e5 e6 e7 k0 k1 k2 cc HH
   have hdr:Below wr.heap.size wr wr.drew:=⟨rfl,rfl,rfl,Nat.le_refl _,fun _ _=>rfl⟩
   cases E with
   | true =>
    go_wp2_with fail
    go_region
    go_wp2
    go_ret
    obtain ⟨i1,i2,i3,i4,i5,i6⟩:=HI.out
    have hc:=(sameP_iff _ _).1 i4.symm
    have hf:index (c0,c1,c2) cs=j:=index_drop _ cs j i1 (by rw [i3,hc])
    exact ⟨by rw [hf];rfl,i6.trans ((i2.trans (hdr.mono i2.size)).mono i6.size)⟩
   | false =>
    go_wp2_with fail
    go_region
    go_wp2
    obtain ⟨i1,i2,i3,i4,i5,i6⟩:=HI.out
    go_roundw
    case rel =>
     refine ⟨j+1,hlt,by go_num,fun i t hi ht e=>?_,i2.trans (hdr.mono i2.size)⟩
     by_cases hij:i<j
     ·exact i1 i t hij ht e
     ·have:i=j:=by omega
      subst this
      rw [i3] at ht
      rw [<- Option.some.inj ht] at e
      rw [(sameP_iff _ _).2 e.symm] at i4
      cases i4
    case measure=>simp [intOf];omega
  ·exfalso
   obtain ⟨i,hi⟩:=List.mem_iff_getElem?.1 HH.out.2.2.1
   have:=(List.getElem?_eq_some_iff.1 hi).1
   have:=HH.out.1
   exact hne i _ (by omega) hi rfl
end
section
open Go.RowKit Go.Shelf
attribute [local go_sem] Oper.semAt_some
theorem pPoints (w:World) (x y n:Int) :
  Calls Tryz.prog 105 #[.agg #[.int .i64 x,.int .i64 y,.int .i64 n]] w fun e w'=>e=.returned (.func (.func 131) #[] #[.pointer (some ⟨w.heap.size,0,none⟩)])/\w'=w.alloc (.cells #[.int .i64 x,.int .i64 y,.int .i64 n] 100):=by
 go_enter Tryz.func105,Tryz.ntmps105
 go_wp2
 go_ret
 exact ⟨rfl,rfl⟩
abbrev Pt (x y n:Nat):={ p:Nat × Nat // (x<=p.1/\p.1<x+n)/\y<=p.2/\p.2<y+n }
def encPt {x y n:Nat} (p:Pt x y n):Array Value:=#[.int .i64 p.1.1,.int .i64 p.1.2]
def KpB (b:Nat) (W W':World):Prop:=W'.heap[b]?=W.heap[b]?
set_option maxRecDepth 100000 in
theorem points1_in (F:Fence) (m:Nat) (hF:F.fn 131) (hro:F.round=none) (hm:1<=m) (l b x y n:Nat) (hx:x+n<=16) (hy:y+n<=16) (J Jx:List (Pt x y n)->World->Prop)
  (hY:∀ pre p W,J pre W->pre.length<n*n->YieldAt F (m-1) Tryz.prog l (encPt p) W fun e W'=>(e=.returned (.bool true)/\J (pre++[p]) W'/\KpB b W W') \/ (e=.returned (.bool false)/\Jx (pre++[p]) W'))
  (W:World) (hb:W.heap[b]?=some (.cells #[.int .i64 x,.int .i64 y,.int .i64 n] 100 (0,0))) (h0:J [] W) :
  CallsIn F m Tryz.prog 131 #[.func (.yield l) #[] #[],.pointer (some ⟨b,0,none⟩)] W fun e W'=>(∃ v,e=.returned v) /\
   ((∃ xs:List (Pt x y n),xs.map (·.1)=Flm.spots x y n/\J xs W') \/ (∃ pre:List (Pt x y n),pre.map (·.1) <+: Flm.spots x y n/\Jx pre W')):=by
 refine callsIn_of_wp Tryz.func131 rfl hF ?_ hro
 simp only [Tryz.ntmps131,List.size_toArray,List.length_cons,List.length_nil,Nat.reduceAdd,Nat.reduceSub,Array.replicate_succ,Array.replicate_zero,List.push_toArray,List.append_toArray,List.nil_append,List.cons_append]
 have c0:=cell_of_row _ _ 0 _ _ _ hb
 have c1:=cell_of_row _ _ 1 _ _ _ hb
 have c2:=cell_of_row _ _ 2 _ _ _ hb
 have HBX:Hid (W.heap[b]?=some (.cells #[.int .i64 x,.int .i64 y,.int .i64 n] 100 (0,0))):=hb
 have HJ0:Hid (J [] W):=h0
 have HY:Hid (∀ pre p W,J pre W->pre.length<n*n->YieldAt F (m-1) Tryz.prog l (encPt p) W fun e W'=>(e=.returned (.bool true)/\J (pre++[p]) W'/\KpB b W W') \/ (e=.returned (.bool false)/\Jx (pre++[p]) W')):=hY
 clear hb h0 hY
 gi_wp2
 clear c0 c1 c2
 gi_loopw [3,4] (fun yv _ wr=>∃ (j:Nat) (pre:List (Pt x y n)),j<=n/\yv=.int .i64 ((y+j:Nat):Int)/\pre.map (·.1)++Flm.left x y n j 0=Flm.spots x y n/\J pre wr/\wr.heap[b]?=some (.cells #[.int .i64 x,.int .i64 y,.int .i64 n] 100 (0,0))) (fun yv _ _=>y+n-(intOf yv).toNat)
 case atStart=>exact ⟨0,[],by omega,rfl,by simp [Flm.left_zero],HJ0.out,HBX.out⟩
 case round =>
  clear HJ0 HBX
  obtain ⟨j,pre,hj,rfl,hpre,hJ,hb⟩:=hrel
  obtain ⟨Y,hYe⟩:∃ Y,Y=y+j:=⟨_,rfl⟩
  rw [<- hYe]
  have c0:=cell_of_row _ _ 0 _ _ _ hb
  have c1:=cell_of_row _ _ 1 _ _ _ hb
  have c2:=cell_of_row _ _ 2 _ _ _ hb
  have HI:Hid (pre.map (·.1)++Flm.left x y n j 0=Flm.spots x y n/\J pre wr/\wr.heap[b]?=some (.cells #[.int .i64 x,.int .i64 y,.int .i64 n] 100 (0,0))):=⟨hpre,hJ,hb⟩
  have HYE:Hid (Y=y+j):=hYe
  by_cases hlt:j<n
  ·have hlt':(Y:Int)<(y:Int)+(n:Int):=by omega
   clear hpre hJ hb hYe
   gi_wp2
   clear c0 c1 c2
   gi_loopw [4] (fun xv wi=>∃ (i:Nat) (pre:List (Pt x y n)),i<=n/\xv=.int .i64 ((x+i:Nat):Int)/\pre.map (·.1)++Flm.left x y n j i=Flm.spots x y n/\J pre wi/\wi.heap[b]?=some (.cells #[.int .i64 x,.int .i64 y,.int .i64 n] 100 (0,0))) (fun xv _=>x+n-(intOf xv).toNat)
   case atStart=>exact ⟨0,pre,by omega,rfl,HI.out.1,HI.out.2.1,HI.out.2.2⟩
   case round =>
    clear HI
    obtain ⟨i,pre,hi,rfl,hpre,hJ,hb⟩:=hrel
    obtain ⟨wi,rfl⟩:∃ wi,wi=wr:=⟨_,rfl⟩
    obtain ⟨X,hXe⟩:∃ X,X=x+i:=⟨_,rfl⟩
    rw [<- hXe]
    have c0:=cell_of_row _ _ 0 _ _ _ hb
    have c1:=cell_of_row _ _ 1 _ _ _ hb
    have c2:=cell_of_row _ _ 2 _ _ _ hb
    have HXE:Hid (X=x+i):=hXe
    by_cases hlt2:i<n
    ·have hlt2':(X:Int)<(x:Int)+(n:Int):=by omega
     have hYe:=HYE.out
     have hcons:=Flm.left_cons x y n j i hlt hlt2
     rw [<- hXe,<- hYe] at hcons
     have hlen:pre.length<n*n:=by
      have:=congrArg List.length hpre
      rw [hcons] at this
      simp only [List.length_append,List.length_map,List.length_cons,Flm.spots_len] at this
      omega
     obtain ⟨P,hP⟩:∃ P:Pt x y n,P.1=(X,Y):=⟨⟨(X,Y),by dsimp only;omega⟩,rfl⟩
     have hen:encPt P=#[.int .i64 X,.int .i64 Y]:=by unfold encPt;rw [hP]
     have hyield:=HY.out pre P wi hJ hlen
     rw [hen] at hyield
     have HP:Hid (P.1=(X,Y)):=hP
     clear hP hen
     obtain ⟨fn,tmps,assign,body,hy,hR⟩:=hyield
     have HN:Hid (∀ q:Pt x y n,q.1=(X,Y)->(pre++[q]).map (·.1)++Flm.left x y n j (i+1)=Flm.spots x y n):=fun q hq=>by
      rw [List.map_append,List.append_assoc,<- hpre,hcons]
      simp [hq]
     have HB:Hid (wi.heap[b]?=some (.cells #[.int .i64 x,.int .i64 y,.int .i64 n] 100 (0,0))):=hb
     clear hpre hJ hb hXe hYe hcons
     gi_wp2
     refine hR.mono ?_
     rintro e W3 (⟨rfl,hJ3,hk3⟩|⟨rfl,hJx3⟩)
     ·gi_wp2
      go_roundw
      case rel =>
       have hXe:=HXE.out
       exact ⟨i+1,_,by omega,by rw [show ((x+(i+1):Nat):Int)=(X:Int)+1 by omega],HN.out _ HP.out,hJ3,hk3.trans HB.out⟩
      case measure=>simp [intOf];omega
     ·gi_wp2
      refine bodyPost_ret (results_none rfl _ _ _) rfl ?_
      exact ⟨⟨_,rfl⟩,.inr ⟨_,⟨_,HN.out _ HP.out⟩,hJx3⟩⟩
    ·have hlt2':¬ ((X:Int)<(x:Int)+(n:Int)):=by omega
     obtain rfl:i=n:=by omega
     have HI2:Hid (pre.map (·.1)++Flm.left x y i j i=Flm.spots x y i/\J pre wi/\wi.heap[b]?=some (.cells #[.int .i64 x,.int .i64 y,.int .i64 i] 100 (0,0))):=⟨hpre,hJ,hb⟩
     clear hpre hJ hb hXe
     gi_wp2
     have hYe:=HYE.out
     obtain ⟨p1,p2,p3⟩:=HI2.out
     refine ⟨⟨j+1,pre,by omega,?_,by rw [<- p1,Flm.left_row],p2,p3⟩,?_⟩
     ·rw [show ((y+(j+1):Nat):Int)=(Y:Int)+1 by omega]
     ·simp [intOf];omega
  ·have hlt':¬ ((Y:Int)<(y:Int)+(n:Int)):=by omega
   obtain rfl:j=n:=by omega
   clear hpre hJ hb hYe
   gi_wp2
   go_end0
   obtain ⟨p1,p2,p3⟩:=HI.out
   rw [Flm.left_end,List.append_nil] at p1
   exact ⟨⟨_,rfl⟩,.inl ⟨pre,p1,p2⟩⟩
theorem points_stops (F:Fence) (m:Nat) (hF:F.fn 131) (hro:F.round=none) (hm:1<=m) (b x y n:Nat) (hx:x+n<=16) (hy:y+n<=16) (w:World) (hb:w.heap[b]?=some (.cells #[.int .i64 x,.int .i64 y,.int .i64 n] 100 (0,0))) :
  SeqStopsK F m Tryz.prog 131 #[.pointer (some ⟨b,0,none⟩)] (encPt (x:=x) (y:=y) (n:=n)) (KpB b) (fun xs=>xs.map (·.1)=Flm.spots x y n) (fun pre=>pre.map (·.1) <+: Flm.spots x y n) (n*n) w :=
 fun l J Jx W hW _ _ hY h0=>points1_in F m hF hro hm l b x y n hx hy J Jx hY W ((hW.block b (heap_lt0 hb)).trans hb) h0
end
end Go.Proofs.YtekfbphnoibnjaaGreatDoor
