/-
  PRead PPlace PErrs
-/
import Derived.Test.YtekfbphnoibnjaaGreatDoorF36
import Derived.Test.YtekfbphnoibnjaaGreatDoorF34
set_option maxHeartbeats 4000000
namespace Go.Proofs.YtekfbphnoibnjaaGreatDoor
section
open Go.RowKit
open Flm (Px FS)
theorem two_set (wr:World) (G:Nat) (u0 u1:Value) {x0 x1:Value} (a0:wr.cell? ⟨G,0,none⟩=some x0) (a1:wr.cell? ⟨G,1,none⟩=some x1) (X:World) (hX:X=(wr.setCell ⟨G,0,none⟩ u0).setCell ⟨G,1,none⟩ u1):X.cell? ⟨G,0,none⟩=some u0/\X.cell? ⟨G,1,none⟩=some u1/\Frm (fun k=>k=G) wr X:=by
 have n01:(wr.setCell ⟨G,0,none⟩ u0).cell? ⟨G,1,none⟩=some x1:=by
  rw [World.cell?_setCell_other]
  ·exact a1
  ·intro e;simp at e
 refine ⟨?_,?_,?_⟩
 ·rw [hX,World.cell?_setCell_other]
  ·exact World.cell?_setCell_same _ _ _ a0
  ·intro e;simp at e
 ·rw [hX];exact World.cell?_setCell_same _ _ _ n01
 ·rw [hX];exact Frm.setCell (p:=⟨G,1,none⟩) (Frm.setCell (p:=⟨G,0,none⟩) (Frm.refl (fun k=>k=G) wr) (.inl rfl) _) (.inl rfl) _
set_option maxRecDepth 20000 in
theorem pRead_head (w:World) (s:ByteArray) (ea:Addr)
  (hh:∀ wx,Below w.heap.size w wx->Calls Tryz.prog 44 #[.string s] wx fun e w'=>e=.returned (.tuple #[.int .i64 0,.int .i64 0,.iface 278 (.pointer (some ea))])/\Below wx.heap.size wx w') :
  Calls Tryz.prog 21 #[.string s] w fun e w'=>e=.returned (.tuple #[.agg #[.int .i64 0,.slice none 0 0],.iface 278 (.pointer (some ea))])/\Below w.heap.size w w':=by
 obtain ⟨W1,hW1⟩:∃ W1,W1=w.alloc (.cells #[.int .i64 0,.slice none 0 0] 27):=⟨_,rfl⟩
 have hB1:Below w.heap.size w W1:=by rw [hW1];exact (Below.refl _ w).alloc (Nat.le_refl _) _
 have hr1:W1.heap[w.heap.size]?=some (.cells #[.int .i64 0,.slice none 0 0] 27 (0,0)):=by rw [hW1];exact heap_alloc_last w _
 have HW1:Hid (W1=w.alloc (.cells #[.int .i64 0,.slice none 0 0] 27)):=hW1
 have HB:Hid (Below w.heap.size w W1):=hB1
 have hlw:w.heap.size<W1.heap.size:=heap_lt hr1
 have HC:Hid (∀ w2,Below W1.heap.size W1 w2->w2.cell? ⟨w.heap.size,0,none⟩=some (.int .i64 0)/\w2.cell? ⟨w.heap.size,1,none⟩=some (.slice none 0 0)/\w2.frozen? ⟨w.heap.size,0,none⟩=false/\w2.frozen? ⟨w.heap.size,1,none⟩=false):=fun w2 b=>by
  have r2:=(b.block _ (heap_lt hr1)).trans hr1
  exact ⟨cell_of_row _ _ 0 _ _ _ r2,cell_of_row _ _ 1 _ _ _ r2,frozen_of_row _ _ 0 _ _ r2,frozen_of_row _ _ 1 _ _ r2⟩
 have HH:Hid (Calls Tryz.prog 44 #[.string s] W1 fun e w'=>e=.returned (.tuple #[.int .i64 0,.int .i64 0,.iface 278 (.pointer (some ea))])/\Below W1.heap.size W1 w'):=hh W1 hB1
 clear hh hW1 hB1 hr1
 go_enter Tryz.func21,Tryz.ntmps21
 go_wp2_with (first
  | (rw [<- HW1.out])
  | (go_at_call 44;refine HH.out.mono ?_;rintro e w2 ⟨rfl,b2⟩;obtain ⟨k0,k1,z0,z1⟩:=HC.out w2 b2))
 obtain ⟨X,hX⟩:∃ X,X=(w2.setCell ⟨w.heap.size,0,none⟩ (.int .i64 0)).setCell ⟨w.heap.size,1,none⟩ (.slice none 0 0):=⟨_,rfl⟩
 rw [<- hX]
 obtain ⟨q0,q1,fX⟩:=two_set w2 w.heap.size _ _ k0 k1 X hX
 refine bodyPost_ret (v:=.tuple #[.agg #[.int .i64 0,.slice none 0 0],.iface 278 (.pointer (some ea))]) (by simp [results,Tryz.results21,go_sem,q0,q1]) rfl ⟨rfl,?_⟩
 exact (HB.out.trans (b2.mono HB.out.size)).trans (fX.below (by have:=HB.out.size;have:=b2.size;omega) (fun k e=>by omega))
set_option maxRecDepth 20000 in
theorem pRead_start (w:World) (s t:ByteArray) (h4:4<=s.size) (ht:s.extract 4 s.size=t) (Z N:Int) (ea:Addr)
  (hh:∀ wx,Below w.heap.size w wx->Calls Tryz.prog 44 #[.string s] wx fun e w'=>e=.returned (.tuple #[.int .i64 Z,.int .i64 N,.nilIface])/\Below wx.heap.size wx w')
  (hn:∀ wx,Below w.heap.size w wx->Calls Tryz.prog 45 #[.string t] wx fun e w'=>(∃ P,e=.returned (.tuple #[P,.iface 278 (.pointer (some ea))]))/\Below wx.heap.size wx w') :
  Calls Tryz.prog 21 #[.string s] w fun e w'=>e=.returned (.tuple #[.agg #[.int .i64 0,.slice none 0 0],.iface 278 (.pointer (some ea))])/\Below w.heap.size w w':=by
 obtain ⟨W1,hW1⟩:∃ W1,W1=w.alloc (.cells #[.int .i64 0,.slice none 0 0] 27):=⟨_,rfl⟩
 have hB1:Below w.heap.size w W1:=by rw [hW1];exact (Below.refl _ w).alloc (Nat.le_refl _) _
 have hr1:W1.heap[w.heap.size]?=some (.cells #[.int .i64 0,.slice none 0 0] 27 (0,0)):=by rw [hW1];exact heap_alloc_last w _
 have HW1:Hid (W1=w.alloc (.cells #[.int .i64 0,.slice none 0 0] 27)):=hW1
 have HB:Hid (Below w.heap.size w W1):=hB1
 have hlw:w.heap.size<W1.heap.size:=heap_lt hr1
 have HC:Hid (∀ w2,Below W1.heap.size W1 w2->w2.cell? ⟨w.heap.size,0,none⟩=some (.int .i64 0)/\w2.cell? ⟨w.heap.size,1,none⟩=some (.slice none 0 0)/\w2.frozen? ⟨w.heap.size,0,none⟩=false/\w2.frozen? ⟨w.heap.size,1,none⟩=false):=fun w2 b=>by
  have r2:=(b.block _ (heap_lt hr1)).trans hr1
  exact ⟨cell_of_row _ _ 0 _ _ _ r2,cell_of_row _ _ 1 _ _ _ r2,frozen_of_row _ _ 0 _ _ r2,frozen_of_row _ _ 1 _ _ r2⟩
 have HH:Hid (Calls Tryz.prog 44 #[.string s] W1 fun e w'=>e=.returned (.tuple #[.int .i64 Z,.int .i64 N,.nilIface])/\Below W1.heap.size W1 w'):=hh W1 hB1
 have HN:Hid (∀ wx,Below W1.heap.size W1 wx->Calls Tryz.prog 45 #[.string t] wx fun e w'=>(∃ P,e=.returned (.tuple #[P,.iface 278 (.pointer (some ea))]))/\Below wx.heap.size wx w'):=fun wx hb=>hn wx (hB1.trans (hb.mono hB1.size))
 have h4':(4:Int)<=(s.size:Int):=by omega
 clear hh hn hW1 hB1 hr1
 go_enter Tryz.func21,Tryz.ntmps21
 go_wp2_with (first
  | (rw [<- HW1.out])
  | (go_at_call 44;refine HH.out.mono ?_;rintro e w2 ⟨rfl,b2⟩)
  | (go_at_call 45;refine (HN.out _ b2).mono ?_;rintro e w3 ⟨⟨P,rfl⟩,b3⟩;obtain ⟨k0,k1,z0,z1⟩:=HC.out w3 (b2.trans (b3.mono b2.size))))
 obtain ⟨X,hX⟩:∃ X,X=(w3.setCell ⟨w.heap.size,0,none⟩ (.int .i64 0)).setCell ⟨w.heap.size,1,none⟩ (.slice none 0 0):=⟨_,rfl⟩
 rw [<- hX]
 obtain ⟨q0,q1,fX⟩:=two_set w3 w.heap.size _ _ k0 k1 X hX
 refine bodyPost_ret (v:=.tuple #[.agg #[.int .i64 0,.slice none 0 0],.iface 278 (.pointer (some ea))]) (by simp [results,Tryz.results21,go_sem,q0,q1]) rfl ⟨rfl,?_⟩
 exact ((HB.out.trans (b2.mono HB.out.size)).trans (b3.mono (by have:=HB.out.size;have:=b2.size;omega))).trans (fX.below (by have:=HB.out.size;have:=b2.size;have:=b3.size;omega) (fun k e=>by omega))
def ReadPost (A:Nat->Addr) (w:World) (t:ByteArray) (z:Nat) (F:FS) (e:Ending) (w':World):Prop :=
 (F.r.err ≠ 0->e=.returned (.tuple #[.agg #[.int .i64 0,.slice none 0 0],fltV A (Flm.plc F) F.r.err])) /\
 (F.r.err=0->(Rdr.finish t F.r).err ≠ 0->e=.returned (.tuple #[.agg #[.int .i64 0,.slice none 0 0],errA A (Rdr.finish t F.r).err])) /\
 (F.r.err=0->(Rdr.finish t F.r).err=0->∃ Lv B,w.heap.size<=B/\e=.returned (.tuple #[.agg #[.int .i64 z,Lv],.nilIface])/\FilmAt w' B Lv z F.frs) /\
 Below w.heap.size w w'
theorem PL.film {w w':World} {S:Nat->Prop} {L p b:Nat} {Dv:Value} {dbs:List Nat} {s:ByteArray} {z:Nat} {q:FS} (h:PL w L p b Dv dbs s z q) (h8:q.frs.length<=8) (f:Frm S w w') (hS:∀ k,S k->k<L):FilmAt w' L Dv z q.frs:=by
 refine ⟨dbs,f.owns h.rows (fun k e hs=>?_),h.n1,fun i hi=>f.pixs (h.dn i hi) (fun hs=>?_),h.nes.2.2,fun k e=>(h.nd k e).2.2,h.zz,h8,fun i k=>h.px i k⟩
 ·have:=(World.ownsRow.lt h.rows k e).1
  have:=hS k hs
  omega
 ·have:=(h.dn i hi).lt.1
  have:=hS _ hs
  omega
theorem Flm.frames_on {s:ByteArray} {z n:Nat} {q:FS} (h:q.r.err=0):Flm.frames s z (n+1) q=Flm.frames s z n (Flm.area s z (Flm.cuts z) 0 0 z (Flm.begin z q)):=by
 conv=>lhs;unfold Flm.frames
 rw [if_pos h]
 rfl
theorem Flm.frames_off {s:ByteArray} {z:Nat} {q:FS} (h:q.r.err ≠ 0):∀ n,Flm.frames s z n q=q
 | 0=>rfl
 | n+1=>by unfold Flm.frames;rw [if_neg h]
theorem finish_err (t:ByteArray) (r:RS) (h:r.err=0):(Rdr.finish t r).err=0 \/ (Rdr.finish t r).err=6:=by
 unfold Rdr.finish
 split
 ·exact .inr rfl
 ·exact .inl h
theorem PL.new {w w':World} {L b z:Nat} {t:ByteArray} (hz:z=4 \/ z=8 \/ z=16) (hL:L<=w.heap.size) (hb:L<=b) (hbw:b<w.heap.size) (hr:PR w b t (Rdr.start t ch0)) (he:(Rdr.start t ch0).err=0) (hw:w'=w.alloc (.cells #[.pointer (some ⟨b,0,none⟩),.int .i64 z,.slice none 0 0,.int .i64 0,.slice none 0 0,.slice none 0 0] 110)) :
  PL w' L w.heap.size b (.slice none 0 0) [] t z ⟨Rdr.start t ch0,[],[],0,0,0⟩:=by
 have hrow:w'.heap[w.heap.size]?=some (.cells #[.pointer (some ⟨b,0,none⟩),.int .i64 z,.slice none 0 0,.int .i64 0,.slice none 0 0,.slice none 0 0] 110 (0,0)):=by rw [hw];exact heap_alloc_last w _
 have hB:Below w.heap.size w w':=by rw [hw];exact (Below.refl _ w).alloc (Nat.le_refl _) _
 refine ⟨hr.on (hB.block b hbw),Rdr.start_ok t ch0 ch0_ok,he,cell_of_row _ _ 0 _ _ _ hrow,cell_of_row _ _ 1 _ _ _ hrow,cell_of_row _ _ 2 _ _ _ hrow,⟨_,cell_of_row _ _ 3 _ _ _ hrow⟩,⟨_,cell_of_row _ _ 4 _ _ _ hrow⟩,⟨_,cell_of_row _ _ 5 _ _ _ hrow⟩,fun o=>frozen_of_row _ _ o _ _ hrow,World.ownsRow_nil w' _ _ _,fun i hi=>absurd hi (by simp),rfl,hz,?_,fun k e=>absurd e (by simp [Value.ownBlock]),fun i k=>?_,⟨hL,hb⟩,⟨heap_lt hrow,Nat.lt_of_lt_of_le hbw hB.size⟩⟩
 ·simp;omega
 ·simp [Flm.px,Flm.okPx]
set_option maxRecDepth 100000 in
theorem pRead_main (w:World) (s t:ByteArray) (h4:4<=s.size) (ht:s.extract 4 s.size=t) (hs:t.size<=maxLen) (z N:Nat) (hz:z=4 \/ z=8 \/ z=16) (hN:N<=8) (A:Nat->Addr) (E:ErrsA w A) (SG:SoftG w w.heap.size) (he:(Rdr.start t ch0).err=0)
  (hh:∀ wx,Below w.heap.size w wx->Calls Tryz.prog 44 #[.string s] wx fun e w'=>e=.returned (.tuple #[.int .i64 z,.int .i64 N,.nilIface])/\Below wx.heap.size wx w') :
  Calls Tryz.prog 21 #[.string s] w (ReadPost A w t z (Flm.frames t z N ⟨Rdr.start t ch0,[],[],0,0,0⟩)):=by
 obtain ⟨F,hF⟩:∃ F,F=Flm.frames t z N ⟨Rdr.start t ch0,[],[],0,0,0⟩:=⟨_,rfl⟩
 rw [<- hF]
 have HF:Hid (F=Flm.frames t z N ⟨Rdr.start t ch0,[],[],0,0,0⟩):=hF
 obtain ⟨W1,hW1⟩:∃ W1,W1=w.alloc (.cells #[.int .i64 0,.slice none 0 0] 27):=⟨_,rfl⟩
 have hB1:Below w.heap.size w W1:=by rw [hW1];exact (Below.refl _ w).alloc (Nat.le_refl _) _
 have hr1:W1.heap[w.heap.size]?=some (.cells #[.int .i64 0,.slice none 0 0] 27 (0,0)):=by rw [hW1];exact heap_alloc_last w _
 have HW1:Hid (W1=w.alloc (.cells #[.int .i64 0,.slice none 0 0] 27)):=hW1
 have HB:Hid (Below w.heap.size w W1):=hB1
 have hlw:w.heap.size<W1.heap.size:=heap_lt hr1
 have HC:Hid (∀ w2,Below W1.heap.size W1 w2->w2.cell? ⟨w.heap.size,0,none⟩=some (.int .i64 0)/\w2.cell? ⟨w.heap.size,1,none⟩=some (.slice none 0 0)/\w2.frozen? ⟨w.heap.size,0,none⟩=false/\w2.frozen? ⟨w.heap.size,1,none⟩=false):=fun w2 b=>by
  have r2:=(b.block _ (heap_lt hr1)).trans hr1
  exact ⟨cell_of_row _ _ 0 _ _ _ r2,cell_of_row _ _ 1 _ _ _ r2,frozen_of_row _ _ 0 _ _ r2,frozen_of_row _ _ 1 _ _ r2⟩
 have HH:Hid (Calls Tryz.prog 44 #[.string s] W1 fun e w'=>e=.returned (.tuple #[.int .i64 z,.int .i64 N,.nilIface])/\Below W1.heap.size W1 w'):=hh W1 hB1
 obtain ⟨L,hL⟩:∃ L,L=W1.heap.size:=⟨_,rfl⟩
 have hLw:w.heap.size<L:=by rw [hL];exact hlw
 have HES:Hid (∀ wx,Below L W1 wx->ErrsL wx A L/\SoftG wx L/\L<=wx.heap.size):=fun wx hb=>by
  have hs1:=hb.size
  rw [<- hL] at hs1
  have e1:=(E.below hB1).low
  rw [<- hL] at e1
  have sg1:SoftG W1 L:=SG.of (hB1.block _ SG.lt) (Nat.lt_trans SG.lt hLw)
  exact ⟨e1.below hb,sg1.below hb,hs1⟩
 have HNR:Hid (∀ wx,Below L W1 wx->Calls Tryz.prog 45 #[.string t] wx fun e w'=>∃ b,e=.returned (.tuple #[.pointer (some ⟨b,0,none⟩),.nilIface])/\L<=b/\b<w'.heap.size/\PR w' b t (Rdr.start t ch0)/\Below wx.heap.size wx w'):=fun wx hb=>by
  obtain ⟨e1,_,e3⟩:=HES.out wx hb
  refine (pNewReader wx t hs (A 5) (A 6) (A 7) e1.all.errs).mono ?_
  rintro x w' ⟨pv,rfl,hp,b3⟩
  obtain ⟨b,rfl,l1,l2,l3⟩:=hp he
  refine ⟨b,?_,by omega,l2,l3,b3⟩
  rw [he,errV0]
 rw [<- hL] at HC HH
 have HLE:Hid (L=W1.heap.size):=hL
 have h4':(4:Int)<=(s.size:Int):=by omega
 have hN':(N:Int)<=8:=by omega
 clear hh hW1 hB1 hr1 hF E SG hL hlw
 go_enter Tryz.func21,Tryz.ntmps21
 go_wp2_with (first
  | (rw [<- HW1.out])
  | (go_at_call 44;refine HH.out.mono ?_;rintro e w2 ⟨rfl,b2⟩)
  | (go_at_call 45;refine (HNR.out _ b2).mono ?_;rintro e w3 ⟨b,rfl,l1,l2,hr3,b3⟩))
 obtain ⟨p,hp⟩:∃ p,p=w3.heap.size:=⟨_,rfl⟩
 obtain ⟨w4,hw4⟩:∃ w4,w4=w3.alloc (.cells #[.pointer (some ⟨b,0,none⟩),.int .i64 z,.slice none 0 0,.int .i64 0,.slice none 0 0,.slice none 0 0] 110):=⟨_,rfl⟩
 have hL3:L<=w3.heap.size:=by have:=(HES.out w2 b2).2.2;have:=b3.size;omega
 have b4:Below w3.heap.size w3 w4:=by rw [hw4];exact (Below.refl _ w3).alloc (Nat.le_refl _) _
 have b14:Below L W1 w4:=(b2.trans (b3.mono (by have:=(HES.out w2 b2).2.2;omega))).trans (b4.mono hL3)
 have HL0:Hid (PL w4 L p b (.slice none 0 0) [] t z ⟨Rdr.start t ch0,[],[],0,0,0⟩/\Below L W1 w4):=⟨by rw [hp];exact PL.new hz hL3 l1 l2 hr3 he hw4,b14⟩
 rw [<- hp,<- hw4]
 clear hp hw4 b4 b14 b2 b3 hr3 l2 hL3 HH HNR
 go_loopw [36] (fun kv wr=>∃ (k:Nat) (Dv:Value) (dbs:List Nat) (q:FS),k<=N/\kv=.int .i64 k/\Flm.frames t z (N-k) q=F/\PL wr L p b Dv dbs t z q/\dbs.length=k/\Below L W1 wr) (fun kv _=>N-(intOf kv).toNat)
 case atStart=>exact ⟨0,_,_,_,by omega,rfl,HF.out.symm,HL0.out.1,rfl,HL0.out.2⟩
 case round =>
  clear HL0
  obtain ⟨k,Dv,dbs,q,hk,rfl,hfr,hpl,hdb,hbw⟩:=hrel
  obtain ⟨e1,e2,e3⟩:=HES.out wr hbw
  by_cases hkn:k<N
  ·have hkn':(k:Int)<(N:Int):=by omega
   rw [show N-k=(N-(k+1))+1 by omega,Flm.frames_on hpl.err] at hfr
   have HFM:=pFrame wr L p b Dv dbs t z q A hpl (by rw [<- hpl.n1,hdb];omega) hs e1 e2 e3
   obtain ⟨q1,hq1⟩:∃ q1,q1=Flm.area t z (Flm.cuts z) 0 0 z (Flm.begin z q):=⟨_,rfl⟩
   rw [<- hq1] at HFM hfr
   have HBW:Hid (Below L W1 wr):=hbw
   have HD:Hid (dbs.length=k):=hdb
   clear hpl hdb hbw e1 e2 e3 hq1
   by_cases hqe:q1.r.err=0
   ·have HFG:Hid (Calls Tryz.prog 46 #[.pointer (some ⟨p,0,none⟩)] wr fun e w'=>e=.returned .nilIface/\(∃ Dv' dbs',PL w' L p b Dv' dbs' t z q1/\dbs'.length=dbs.length+1)/\Below L wr w'):=HFM.mono (fun e w' h=>⟨by rw [h.1,fltV_zero A _ hqe],h.2.1 hqe,h.2.2⟩)
    have HFE:Hid (Flm.frames t z (N-(k+1)) q1=F):=hfr
    clear HFM hqe hfr
    go_wp2_with (go_at_call 46;refine HFG.out.mono ?_;rintro e w5 ⟨rfl,h5,b5⟩)
    go_roundw
    case rel =>
     obtain ⟨Dv',dbs',h5,l5⟩:=h5
     exact ⟨k+1,Dv',dbs',q1,by omega,by go_num,HFE.out,h5,by rw [l5,HD.out],HBW.out.trans b5⟩
    case measure=>simp [intOf];omega
   ·obtain ⟨fv,hfv⟩:∃ fv,fv=Value.agg #[.int .i64 (Flm.plc q1).1,.int .i64 (Flm.plc q1).2.1,.int .i64 (Flm.plc q1).2.2,.iface 278 (.pointer (some (A q1.r.err.toNat)))]:=⟨_,rfl⟩
    have HFG:Hid (Calls Tryz.prog 46 #[.pointer (some ⟨p,0,none⟩)] wr fun e w'=>e=.returned (.iface 113 fv)/\Below L wr w'):=HFM.mono (fun e w' h=>⟨by rw [h.1,fltV_pos A _ hqe,hfv],h.2.2⟩)
    have HQ:Hid (F=q1/\.iface 113 fv=fltV A (Flm.plc q1) q1.r.err/\q1.r.err ≠ 0):=⟨by rw [<- hfr,Flm.frames_off hqe],by rw [fltV_pos A _ hqe,hfv],hqe⟩
    clear HFM hqe hfr hfv
    go_wp2_with (go_at_call 46;refine HFG.out.mono ?_;rintro e w5 ⟨rfl,b5⟩;obtain ⟨k0,k1,z0,z1⟩:=HC.out w5 (HBW.out.trans b5))
    obtain ⟨X,hX⟩:∃ X,X=(w5.setCell ⟨w.heap.size,0,none⟩ (.int .i64 0)).setCell ⟨w.heap.size,1,none⟩ (.slice none 0 0):=⟨_,rfl⟩
    rw [<- hX]
    obtain ⟨q0,q1',fX⟩:=two_set w5 w.heap.size _ _ k0 k1 X hX
    refine bodyPost_ret (v:=.tuple #[.agg #[.int .i64 0,.slice none 0 0],.iface 113 fv]) (by simp [results,Tryz.results21,go_sem,q0,q1']) rfl ?_
    obtain ⟨y1,y2,y3⟩:=HQ.out
    have hbx:Below w.heap.size w X:=(HB.out.trans ((HBW.out.trans b5).mono (by omega))).trans (fX.below (by have:=HB.out.size;have:=(HBW.out.trans b5).size;have:=HLE.out;omega) (fun k e=>by omega))
    exact ⟨fun _=>by rw [y1,y2],fun h0=>absurd (y1 ▸ h0) y3,fun h0=>absurd (y1 ▸ h0) y3,hbx⟩
  ·have hkn':¬ ((k:Int)<(N:Int)):=by omega
   rw [show N-k=0 by omega] at hfr
   have hFq:F=q:=hfr.symm
   obtain ⟨da,dc,hD,_⟩:=owns_form hpl.rows
   obtain ⟨M,hM⟩:∃ M,M=q.frs.length:=⟨_,rfl⟩
   rw [<- hM] at hD
   subst hD
   clear hM
   have d2:=hpl.c2
   obtain ⟨k0,k1,z0,z1⟩:=HC.out wr hbw
   have HEN:=pEnd wr b t q.r (A 5) (A 6) (A 7) hpl.pr hpl.err (e1.all.errs).v1
   have hfe:=finish_err t q.r hpl.err
   have HQ:Hid (F=q/\PL wr L p b (.slice da M dc) dbs t z q/\dbs.length=k/\Below L W1 wr):=⟨hFq,hpl,hdb,hbw⟩
   have hpw:=hpl.up.1
   clear hfr hFq hpl hdb hbw e1 e2 e3
   by_cases hf0:(Rdr.finish t q.r).err=0
   ·rw [hf0,errV0] at HEN
    have HEH:Hid (Calls Tryz.prog 47 #[.pointer (some ⟨b,0,none⟩)] wr fun x w'=>x=.returned .nilIface/\w'=wr):=HEN
    have HF0:Hid ((Rdr.finish t q.r).err=0):=hf0
    clear HEN hf0 hfe
    go_wp2_with (go_at_call 47;refine HEH.out.mono ?_;rintro e w5 ⟨rfl,hw5⟩;rw [hw5];clear hw5)
    obtain ⟨X,hX⟩:∃ X,X=(wr.setCell ⟨w.heap.size,0,none⟩ (.int .i64 z)).setCell ⟨w.heap.size,1,none⟩ (.slice da M dc):=⟨_,rfl⟩
    rw [<- hX]
    obtain ⟨q0,q1',fX⟩:=two_set wr w.heap.size _ _ k0 k1 X hX
    refine bodyPost_ret (v:=.tuple #[.agg #[.int .i64 z,.slice da M dc],.nilIface]) (by simp [results,Tryz.results21,go_sem,q0,q1']) rfl ?_
    obtain ⟨y1,y2,y3,y4⟩:=HQ.out
    have hbx:Below w.heap.size w X:=(HB.out.trans (y4.mono (by omega))).trans (fX.below (by have:=HB.out.size;have:=y4.size;have:=HLE.out;omega) (fun k e=>by omega))
    rw [y1]
    exact ⟨fun h0=>absurd y2.err h0,fun _ h0=>absurd HF0.out h0,fun _ _=>⟨_,L,by omega,rfl,y2.film (by rw [<- y2.n1,y3];omega) fX (fun k e=>by omega)⟩,hbx⟩
   ·have h6:(Rdr.finish t q.r).err=6:=by rcases hfe with h|h;exact absurd h hf0;exact h
    rw [h6,errV6] at HEN
    obtain ⟨ea,hea⟩:∃ ea,ea=A 6:=⟨_,rfl⟩
    rw [<- hea] at HEN
    have HEH:Hid (Calls Tryz.prog 47 #[.pointer (some ⟨b,0,none⟩)] wr fun x w'=>x=.returned (.iface 278 (.pointer (some ea)))/\w'=wr):=HEN
    have HF0:Hid ((Rdr.finish t q.r).err=6/\ea=A 6):=⟨h6,hea⟩
    clear HEN hf0 hfe h6 hea
    go_wp2_with (go_at_call 47;refine HEH.out.mono ?_;rintro e w5 ⟨rfl,hw5⟩;rw [hw5];clear hw5)
    obtain ⟨X,hX⟩:∃ X,X=(wr.setCell ⟨w.heap.size,0,none⟩ (.int .i64 0)).setCell ⟨w.heap.size,1,none⟩ (.slice none 0 0):=⟨_,rfl⟩
    rw [<- hX]
    obtain ⟨q0,q1',fX⟩:=two_set wr w.heap.size _ _ k0 k1 X hX
    refine bodyPost_ret (v:=.tuple #[.agg #[.int .i64 0,.slice none 0 0],.iface 278 (.pointer (some ea))]) (by simp [results,Tryz.results21,go_sem,q0,q1']) rfl ?_
    obtain ⟨y1,y2,y3,y4⟩:=HQ.out
    obtain ⟨x1,x2⟩:=HF0.out
    have hbx:Below w.heap.size w X:=(HB.out.trans (y4.mono (by omega))).trans (fX.below (by have:=HB.out.size;have:=y4.size;have:=HLE.out;omega) (fun k e=>by omega))
    rw [y1]
    exact ⟨fun h0=>absurd y2.err h0,fun _ _=>by rw [x1,x2];rfl,fun _ h0=>absurd (x1.symm.trans h0) (by decide),hbx⟩
end
section
open Go.RowKit
open Flm (Px FS)
def ErrT (w:World):Prop:=w.cell? ⟨8,0,none⟩=some (.iface 220 (.agg #[.pointer (some ⟨10,62,none⟩)]))
theorem ErrT.below {w w':World} (h:ErrT w) (b:Below w.heap.size w w'):ErrT w':=(b.cell (p:=⟨8,0,none⟩) (World.block_lt_of_cell? w _ h)).trans h
set_option maxRecDepth 20000 in
theorem pPlace_plain (w:World) (a:Addr) (T:ErrT w) :
  Calls Tryz.prog 22 #[.iface 278 (.pointer (some a))] w fun e w'=>e=.returned (.agg #[.int .i64 0,.int .i64 0,.int .i64 0])/\Below w.heap.size w w':=by
 obtain ⟨W2,hW2⟩:∃ W2,W2=(w.alloc (.cells #[.int .i64 0,.int .i64 0,.int .i64 0] 33)).alloc (.cells #[.int .i64 0,.int .i64 0,.int .i64 0,.nilIface] 113):=⟨_,rfl⟩
 have hB:Below w.heap.size w W2:=by rw [hW2];exact ((Below.refl _ w).alloc (Nat.le_refl _) _).alloc (by simp) _
 have hp:W2.heap[w.heap.size]?=some (.cells #[.int .i64 0,.int .i64 0,.int .i64 0] 33 (0,0)):=by rw [hW2,Below.heap_alloc _ _ _ (by simp)];exact heap_alloc_last w _
 have HA:Hid (Calls Tryz.prog 48 #[.iface 278 (.pointer (some a)),.iface 115 (.pointer (some ⟨w.heap.size+1,0,none⟩))] W2 fun ev w'=>ev=.returned (.bool false)/\Below W2.heap.size W2 w'):=as_miss a _ W2 (T.below hB)
 have HW2:Hid (W2=(w.alloc (.cells #[.int .i64 0,.int .i64 0,.int .i64 0] 33)).alloc (.cells #[.int .i64 0,.int .i64 0,.int .i64 0,.nilIface] 113)):=hW2
 have HB:Hid (Below w.heap.size w W2):=hB
 have HC:Hid (∀ w3,Below W2.heap.size W2 w3->w3.heap[w.heap.size]?=some (.cells #[.int .i64 0,.int .i64 0,.int .i64 0] 33 (0,0))):=fun w3 b=>(b.block _ (heap_lt hp)).trans hp
 clear hW2 hB hp T
 go_enter Tryz.func22,Tryz.ntmps22
 go_wp2_with (first
  | (rw [<- HW2.out])
  | (go_at_call 48;refine HA.out.mono ?_;rintro e w3 ⟨rfl,b3⟩;have r3:=HC.out w3 b3;have k0:w3.cell? ⟨w.heap.size,0,none⟩=some (.int .i64 0):=cell_of_row _ _ 0 _ _ _ r3;have k1:w3.cell? ⟨w.heap.size,1,none⟩=some (.int .i64 0):=cell_of_row _ _ 1 _ _ _ r3;have k2:w3.cell? ⟨w.heap.size,2,none⟩=some (.int .i64 0):=cell_of_row _ _ 2 _ _ _ r3;have z0:=frozen_of_row _ _ 0 _ _ r3;have z1:=frozen_of_row _ _ 1 _ _ r3;have z2:=frozen_of_row _ _ 2 _ _ r3))
 obtain ⟨X,hX⟩:∃ X,X=((w3.setCell ⟨w.heap.size,0,none⟩ (.int .i64 0)).setCell ⟨w.heap.size,1,none⟩ (.int .i64 0)).setCell ⟨w.heap.size,2,none⟩ (.int .i64 0):=⟨_,rfl⟩
 rw [<- hX]
 obtain ⟨q0,q1,q2,fX⟩:=three_set w3 w.heap.size _ _ _ k0 k1 k2 X hX
 refine bodyPost_ret (v:=.agg #[.int .i64 0,.int .i64 0,.int .i64 0]) (by simp [results,Tryz.results22,go_sem,q0,q1,q2]) rfl ⟨rfl,?_⟩
 exact (HB.out.trans (b3.mono HB.out.size)).trans (fX.below (by have:=HB.out.size;have:=b3.size;omega) (fun k e=>by omega))
set_option maxRecDepth 20000 in
theorem pPlace_flt (w:World) (a:Addr) (f x y:Int) (T:ErrT w) :
  Calls Tryz.prog 22 #[.iface 113 (.agg #[.int .i64 f,.int .i64 x,.int .i64 y,.iface 278 (.pointer (some a))])] w fun e w'=>e=.returned (.agg #[.int .i64 f,.int .i64 x,.int .i64 y])/\Below w.heap.size w w':=by
 obtain ⟨fv,hfv⟩:∃ fv:Value,fv=.agg #[.int .i64 f,.int .i64 x,.int .i64 y,.iface 278 (.pointer (some a))]:=⟨_,rfl⟩
 rw [<- hfv]
 obtain ⟨W2,hW2⟩:∃ W2,W2=(w.alloc (.cells #[.int .i64 0,.int .i64 0,.int .i64 0] 33)).alloc (.cells #[.int .i64 0,.int .i64 0,.int .i64 0,.nilIface] 113):=⟨_,rfl⟩
 have hB:Below w.heap.size w W2:=by rw [hW2];exact ((Below.refl _ w).alloc (Nat.le_refl _) _).alloc (by simp) _
 have hp:W2.heap[w.heap.size]?=some (.cells #[.int .i64 0,.int .i64 0,.int .i64 0] 33 (0,0)):=by rw [hW2,Below.heap_alloc _ _ _ (by simp)];exact heap_alloc_last w _
 have hq:W2.heap[w.heap.size+1]?=some (.cells #[.int .i64 0,.int .i64 0,.int .i64 0,.nilIface] 113 (0,0)):=by
  have:=heap_alloc_last (w.alloc (.cells #[.int .i64 0,.int .i64 0,.int .i64 0] 33)) (.cells #[.int .i64 0,.int .i64 0,.int .i64 0,.nilIface] 113)
  rw [World.size_alloc] at this
  rw [hW2];exact this
 have HA:Hid (Calls Tryz.prog 48 #[.iface 113 fv,.iface 115 (.pointer (some ⟨w.heap.size+1,0,none⟩))] W2 fun ev w'=>ev=.returned (.bool true)/\w'.heap[w.heap.size+1]?=some (.cells #[.int .i64 f,.int .i64 x,.int .i64 y,.iface 278 (.pointer (some a))] 113 (0,0))/\Frm (fun k=>k=w.heap.size+1) W2 w'):=by rw [hfv];exact as_hit a f x y (w.heap.size+1) _ W2 (T.below hB) hq rfl
 have HW2:Hid (W2=(w.alloc (.cells #[.int .i64 0,.int .i64 0,.int .i64 0] 33)).alloc (.cells #[.int .i64 0,.int .i64 0,.int .i64 0,.nilIface] 113)):=hW2
 have HB:Hid (Below w.heap.size w W2):=hB
 have HC:Hid (∀ w3,Frm (fun k=>k=w.heap.size+1) W2 w3->w3.heap[w.heap.size]?=some (.cells #[.int .i64 0,.int .i64 0,.int .i64 0] 33 (0,0))):=fun w3 b=>(b.block _ (heap_lt hp) (by omega)).trans hp
 clear hW2 hB hp hq T hfv
 go_enter Tryz.func22,Tryz.ntmps22
 go_wp2_with (first
  | (rw [<- HW2.out])
  | (go_at_call 48;refine HA.out.mono ?_;rintro e w3 ⟨rfl,r4,b3⟩;have r3:=HC.out w3 b3;have k0:w3.cell? ⟨w.heap.size,0,none⟩=some (.int .i64 0):=cell_of_row _ _ 0 _ _ _ r3;have k1:w3.cell? ⟨w.heap.size,1,none⟩=some (.int .i64 0):=cell_of_row _ _ 1 _ _ _ r3;have k2:w3.cell? ⟨w.heap.size,2,none⟩=some (.int .i64 0):=cell_of_row _ _ 2 _ _ _ r3;have z0:=frozen_of_row _ _ 0 _ _ r3;have z1:=frozen_of_row _ _ 1 _ _ r3;have z2:=frozen_of_row _ _ 2 _ _ r3;have m0:w3.cell? ⟨w.heap.size+1,0,none⟩=some (.int .i64 f):=cell_of_row _ _ 0 _ _ _ r4;have m1:w3.cell? ⟨w.heap.size+1,1,none⟩=some (.int .i64 x):=cell_of_row _ _ 1 _ _ _ r4;have m2:w3.cell? ⟨w.heap.size+1,2,none⟩=some (.int .i64 y):=cell_of_row _ _ 2 _ _ _ r4))
 obtain ⟨X,hX⟩:∃ X,X=((w3.setCell ⟨w.heap.size,0,none⟩ (.int .i64 f)).setCell ⟨w.heap.size,1,none⟩ (.int .i64 x)).setCell ⟨w.heap.size,2,none⟩ (.int .i64 y):=⟨_,rfl⟩
 rw [<- hX]
 obtain ⟨q0,q1,q2,fX⟩:=three_set w3 w.heap.size _ _ _ k0 k1 k2 X hX
 refine bodyPost_ret (v:=.agg #[.int .i64 f,.int .i64 x,.int .i64 y]) (by simp [results,Tryz.results22,go_sem,q0,q1,q2]) rfl ⟨rfl,?_⟩
 exact (HB.out.trans (b3.below (by have:=HB.out.size;omega) (fun k e=>by omega))).trans (fX.below (by have:=HB.out.size;have:=b3.size;omega) (fun k e=>by omega))
end
def ErrIn (r:RS):Prop:=r.err=0 \/ r.err=2 \/ r.err=5 \/ r.err=8 \/ r.err=9 \/ r.err=10
namespace Rdr
theorem bitS_in {s:ByteArray} {r:RS} (h:ErrIn r) (k:Nat):ErrIn (bitS s r k):=by
 by_cases he:r.err=0
 ·rcases bitS_errs (s:=s) (k:=k) he with e|e
  ·exact .inl e
  ·exact .inr (.inr (.inl e))
 ·have:bitS s r k=r:=by unfold bitS;rw [if_neg he]
  rw [this];exact h
theorem fail_in {r:RS} (h:ErrIn r) {e:Int} (he:e=0 \/ e=2 \/ e=8 \/ e=9 \/ e=10):ErrIn (fail r e):=by
 by_cases h0:r.err=0
 ·have e0:(fail r e).err=e:=fail_zero h0
  unfold ErrIn
  rw [e0]
  rcases he with e|e|e|e|e <;> rw [e] <;> decide
 ·rw [fail_of h0];exact h
theorem run_in {s:ByteArray} {k:Nat}:∀ (f n:Nat) (r:RS),ErrIn r->ErrIn (run s k f n r).2
 | 0,_,_,h=>h
 | f+1,n,r,h=>by
  unfold run
  split
  ·split
   ·exact bitS_in h _
   ·refine run_in f (n+1) _ ?_
    split
    ·exact fail_in (bitS_in h _) (.inr (.inr (.inl rfl)))
    ·exact bitS_in h _
  ·exact h
theorem lows_in {s:ByteArray} {k:Nat}:∀ (f:Nat) (d u:Int) (r:RS),ErrIn r->ErrIn (lows s k f d u r).2.2
 | 0,_,_,_,h=>h
 | f+1,d,u,r,h=>by
  unfold lows
  split
  ·exact lows_in f _ _ _ (bitS_in h _)
  ·exact h
theorem number_in {s:ByteArray} {r:RS} (h:ErrIn r) (k:Nat):ErrIn (number s r k).2:=lows_in _ _ _ _ (run_in _ _ _ h)
end Rdr
namespace Flm
theorem back_err (c:Px):(back c).2=0 \/ (back c).2=2:=by
 unfold back
 split
 ·exact .inl rfl
 ·exact .inr rfl
theorem soft1_in {s:ByteArray} {z:Nat} {fs:FS} {i j:Nat} (h:ErrIn fs.r):ErrIn (soft1 s z fs i j).1.r:=by
 have h3:ErrIn (Rdr.number s (Rdr.number s (Rdr.number s fs.r 100).2 124).2 148).2:=Rdr.number_in (Rdr.number_in (Rdr.number_in h _) _) _
 unfold soft1
 dsimp only
 split
 ·exact h3
 ·refine Rdr.fail_in h3 ?_
  rcases back_err (expected (near z fs ((i:Int)-1) j).1 (near z fs i ((j:Int)-1)).1 (near z fs ((i:Int)-1) ((j:Int)-1)).1+Rdr.signed s fs.r 100,expected (near z fs ((i:Int)-1) j).2.1 (near z fs i ((j:Int)-1)).2.1 (near z fs ((i:Int)-1) ((j:Int)-1)).2.1+Rdr.signed s (Rdr.number s fs.r 100).2 124,expected (near z fs ((i:Int)-1) j).2.2 (near z fs i ((j:Int)-1)).2.2 (near z fs ((i:Int)-1) ((j:Int)-1)).2.2+Rdr.signed s (Rdr.number s (Rdr.number s fs.r 100).2 124).2 148) with e|e
  ·exact .inl e
  ·exact .inr (.inl e)
theorem soft_in {s:ByteArray} {z:Nat}:∀ (ps:List (Nat × Nat)) (fs:FS),ErrIn fs.r->ErrIn (soft s z ps fs).r
 | [],_,h=>h
 | (i,j) :: ps,fs,h=>by
  show ErrIn (if (soft1 s z fs i j).1.r.err=0 then soft s z ps (put (soft1 s z fs i j).1 (j*z+i) (soft1 s z fs i j).2) else (soft1 s z fs i j).1).r
  split
  ·exact soft_in ps _ (soft1_in h)
  ·exact soft1_in h
theorem shade_in {s:ByteArray} {r:RS} (h:ErrIn r):ErrIn (shade s r).2:=by
 unfold shade
 dsimp only
 split
 ·exact Rdr.fail_in (Rdr.number_in h _) (.inr (.inl rfl))
 ·exact Rdr.number_in h _
theorem colours_in {s:ByteArray}:∀ (n:Nat) (r:RS),ErrIn r->ErrIn (colours s n r).2
 | 0,_,h=>h
 | n+1,r,h=>by
  unfold colours
  split
  ·exact colours_in n _ (shade_in (shade_in (shade_in h)))
  ·exact h
theorem which_in {s:ByteArray}:∀ (f k:Nat) (r:RS),ErrIn r->ErrIn (which s f k r).2
 | 0,_,_,h=>h
 | f+1,k,r,h=>by
  unfold which
  split
  ·exact Rdr.bitS_in h _
  ·exact which_in f (k+1) _ (Rdr.bitS_in h _)
theorem fills_in {s:ByteArray} {z n:Nat} {l:List Px}:∀ (ps:List (Nat × Nat)) (fs:FS),ErrIn fs.r->ErrIn (fills s z n l ps fs).r
 | [],_,h=>h
 | (i,j) :: ps,fs,h=>by
  show ErrIn (if fs.r.err=0 then (if (which s n 0 fs.r).2.err=0 then fills s z n l ps (put { fs with r:=(which s n 0 fs.r).2 } (j*z+i) (l.getD (which s n 0 fs.r).1 (0,0,0))) else fills s z n l ps { fs with r:=(which s n 0 fs.r).2 }) else fs).r
  split
  ·split
   ·exact fills_in ps _ (which_in _ _ _ h)
   ·exact fills_in ps _ (which_in _ _ _ h)
  ·exact h
theorem few_in {s:ByteArray} {z x y n:Nat} {fs:FS} (h:ErrIn fs.r):ErrIn (few s z x y n fs).r:=by
 unfold few
 dsimp only
 refine fills_in _ _ (colours_in _ _ ?_)
 split
 ·exact Rdr.fail_in (Rdr.number_in h _) (.inr (.inr (.inl rfl)))
 ·exact Rdr.number_in h _
theorem copies_in' {s:ByteArray} {z x y n k f:Nat} {fs:FS} (h:ErrIn fs.r):ErrIn (copies s z x y n k f fs).r:=by
 have h2:ErrIn (Rdr.number s (Rdr.number s fs.r k).2 (k+24)).2:=Rdr.number_in (Rdr.number_in h _) _
 unfold copies
 dsimp only
 split
 ·split
  ·rw [moves_r];exact h2
  ·exact Rdr.fail_in h2 (.inr (.inr (.inr (.inl rfl))))
 ·exact h2
theorem block_in {s:ByteArray} {z x y n:Nat} {fs:FS} (h:ErrIn fs.r):ErrIn (block s z x y n fs).r:=by
 have h2:ErrIn (Rdr.bitS s (Rdr.bitS s fs.r 2) (3+(Rdr.bitV fs.r 2).toNat)):=Rdr.bitS_in (Rdr.bitS_in h _) _
 unfold block
 dsimp only
 split
 ·split
  ·split
   ·rw [seen_r];exact soft_in _ _ h2
   ·rw [seen_r];exact few_in h2
  ·split
   ·rw [seen_r];exact copies_in' h2
   ·split
    ·exact Rdr.fail_in h2 (.inr (.inr (.inr (.inr rfl))))
    ·rw [seen_r];exact copies_in' h2
 ·exact h2
theorem area_in {s:ByteArray} {z:Nat}:∀ (n x y side:Nat) (fs:FS),ErrIn fs.r->ErrIn (area s z n x y side fs).r
 | 0,x,y,side,fs,h=>by
  unfold area
  split
  ·exact block_in h
  ·exact h
 | n+1,x,y,side,fs,h=>by
  obtain ⟨k,hk⟩:∃ k,k=if side=16 then 0 else 1:=⟨_,rfl⟩
  have hb:ErrIn (Rdr.bitS s fs.r k):=Rdr.bitS_in h k
  unfold area
  dsimp only
  rw [<- hk]
  split
  ·split
   ·exact area_in n _ _ _ _ (area_in n _ _ _ _ (area_in n _ _ _ _ (area_in n _ _ _ _ hb)))
   ·split
    ·exact block_in hb
    ·exact hb
  ·exact h
theorem frames_in {s:ByteArray} {z:Nat}:∀ (n:Nat) (fs:FS),ErrIn fs.r->ErrIn (frames s z n fs).r
 | 0,_,h=>h
 | n+1,fs,h=>by
  unfold frames
  split
  ·exact frames_in n _ (area_in _ _ _ _ _ h)
  ·exact h
end Flm
end Go.Proofs.YtekfbphnoibnjaaGreatDoor
