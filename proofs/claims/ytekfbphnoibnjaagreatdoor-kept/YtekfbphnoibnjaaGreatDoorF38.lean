/-
  PDec FilmRun KpRun EncWalk KpKept Own
-/
import Derived.Test.YtekfbphnoibnjaaGreatDoorF37
set_option maxHeartbeats 4000000
namespace Go.Proofs.YtekfbphnoibnjaaGreatDoor
section
open Go.RowKit
open Flm (Px FS)
set_option maxRecDepth 20000 in
theorem pDec_long (w:World) (s:ByteArray) (hs:120000<s.size) :
  Calls Tryz.prog 12 #[.string s] w fun x w'=>x=.returned (noFilm 1)/\Below w.heap.size w w':=by
 have hs':(120000:Int)<(s.size:Int):=by omega
 go_enter Tryz.func12,Tryz.ntmps12
 go_wp2
 refine bodyPost_ret (v:=noFilm 1) ?_ rfl ⟨rfl,((Below.refl _ w).alloc (Nat.le_refl _) _).alloc (by simp) _⟩
 simp [results,Tryz.results12,go_sem,noFilm]
set_option maxRecDepth 20000 in
theorem pDec_bad (w:World) (s:ByteArray) (hs:s.size<=120000) (ty:TypeId) (ev:Value) (f x y k:Int)
  (hr:∀ wx,Below w.heap.size w wx->Calls Tryz.prog 21 #[.string s] wx fun e w'=>e=.returned (.tuple #[.agg #[.int .i64 0,.slice none 0 0],.iface ty ev])/\Below wx.heap.size wx w')
  (hp:∀ wx,Below w.heap.size w wx->Calls Tryz.prog 22 #[.iface ty ev] wx fun e w'=>e=.returned (.agg #[.int .i64 f,.int .i64 x,.int .i64 y])/\Below wx.heap.size wx w')
  (he:∀ wx,Below w.heap.size w wx->Calls Tryz.prog 23 #[.iface ty ev] wx fun e w'=>e=.returned (.int .i64 k)/\Below wx.heap.size wx w') :
  Calls Tryz.prog 12 #[.string s] w fun e w'=>e=.returned (.tuple #[.agg #[.int .i64 0,.slice none 0 0],.agg #[.int .i64 f,.int .i64 x,.int .i64 y],.int .i64 k])/\Below w.heap.size w w':=by
 have hs':¬ ((120000:Int)<(s.size:Int)):=by omega
 obtain ⟨W2,hW2⟩:∃ W2,W2=(w.alloc (.cells #[.int .i64 0,.slice none 0 0] 27)).alloc (.cells #[.int .i64 0,.int .i64 0,.int .i64 0] 33):=⟨_,rfl⟩
 have hB:Below w.heap.size w W2:=by rw [hW2];exact ((Below.refl _ w).alloc (Nat.le_refl _) _).alloc (by simp) _
 have h0:W2.heap[w.heap.size]?=some (.cells #[.int .i64 0,.slice none 0 0] 27 (0,0)):=by rw [hW2,Below.heap_alloc _ _ _ (by simp)];exact heap_alloc_last w _
 have h1:W2.heap[w.heap.size+1]?=some (.cells #[.int .i64 0,.int .i64 0,.int .i64 0] 33 (0,0)):=by
  have:=heap_alloc_last (w.alloc (.cells #[.int .i64 0,.slice none 0 0] 27)) (.cells #[.int .i64 0,.int .i64 0,.int .i64 0] 33)
  rw [World.size_alloc] at this
  rw [hW2];exact this
 have hsz:W2.heap.size=w.heap.size+2:=by rw [hW2];simp
 have HR:Hid (Calls Tryz.prog 21 #[.string s] W2 fun e w'=>e=.returned (.tuple #[.agg #[.int .i64 0,.slice none 0 0],.iface ty ev])/\Below W2.heap.size W2 w'):=hr W2 hB
 have HP:Hid (∀ wx,Below W2.heap.size W2 wx->Calls Tryz.prog 22 #[.iface ty ev] wx fun e w'=>e=.returned (.agg #[.int .i64 f,.int .i64 x,.int .i64 y])/\Below wx.heap.size wx w'):=fun wx b=>hp wx (hB.trans (b.mono hB.size))
 have HE:Hid (∀ wx,Below W2.heap.size W2 wx->Calls Tryz.prog 23 #[.iface ty ev] wx fun e w'=>e=.returned (.int .i64 k)/\Below wx.heap.size wx w'):=fun wx b=>he wx (hB.trans (b.mono hB.size))
 have HW2:Hid (W2=(w.alloc (.cells #[.int .i64 0,.slice none 0 0] 27)).alloc (.cells #[.int .i64 0,.int .i64 0,.int .i64 0] 33)):=hW2
 have HB:Hid (Below w.heap.size w W2):=hB
 have HC:Hid (∀ w3,Below W2.heap.size W2 w3->w3.heap[w.heap.size]?=some (.cells #[.int .i64 0,.slice none 0 0] 27 (0,0))/\w3.heap[w.heap.size+1]?=some (.cells #[.int .i64 0,.int .i64 0,.int .i64 0] 33 (0,0))):=fun w3 b=>⟨(b.block _ (heap_lt h0)).trans h0,(b.block _ (heap_lt h1)).trans h1⟩
 have HSZ:Hid (W2.heap.size=w.heap.size+2):=hsz
 clear hW2 hB h0 h1 hr hp he hsz
 go_enter Tryz.func12,Tryz.ntmps12
 go_wp2_with (first
  | (rw [<- HW2.out])
  | (go_at_call 21;refine HR.out.mono ?_;rintro e w3 ⟨rfl,b3⟩;have b4:=b3.trans ((Below.refl _ w3).alloc b3.size (.cells #[.int .i64 0,.slice none 0 0] 27)))
  | (go_at_call 22;refine (HP.out _ b4).mono ?_;rintro e w5 ⟨rfl,b5⟩;have b25:=b4.trans (b5.mono b4.size))
  | (go_at_call 23;refine (HE.out _ b25).mono ?_;rintro e w6 ⟨rfl,b6⟩;have b26:=b25.trans (b6.mono b25.size);obtain ⟨r0,r1⟩:=HC.out w6 b26;have k00:w6.cell? ⟨w.heap.size,0,none⟩=some (.int .i64 0):=cell_of_row _ _ 0 _ _ _ r0;have k01:w6.cell? ⟨w.heap.size,1,none⟩=some (.slice none 0 0):=cell_of_row _ _ 1 _ _ _ r0;have k10:w6.cell? ⟨w.heap.size+1,0,none⟩=some (.int .i64 0):=cell_of_row _ _ 0 _ _ _ r1;have k11:w6.cell? ⟨w.heap.size+1,1,none⟩=some (.int .i64 0):=cell_of_row _ _ 1 _ _ _ r1;have k12:w6.cell? ⟨w.heap.size+1,2,none⟩=some (.int .i64 0):=cell_of_row _ _ 2 _ _ _ r1;have z00:=frozen_of_row _ _ 0 _ _ r0;have z01:=frozen_of_row _ _ 1 _ _ r0;have z10:=frozen_of_row _ _ 0 _ _ r1;have z11:=frozen_of_row _ _ 1 _ _ r1;have z12:=frozen_of_row _ _ 2 _ _ r1))
 obtain ⟨X,hX⟩:∃ X,X=((((w6.setCell ⟨w.heap.size,0,none⟩ (.int .i64 0)).setCell ⟨w.heap.size,1,none⟩ (.slice none 0 0)).setCell ⟨w.heap.size+1,0,none⟩ (.int .i64 f)).setCell ⟨w.heap.size+1,1,none⟩ (.int .i64 x)).setCell ⟨w.heap.size+1,2,none⟩ (.int .i64 y):=⟨_,rfl⟩
 rw [<- hX]
 obtain ⟨q0,q1,q2,q3,q4,fX⟩:=five0 w6 w.heap.size (w.heap.size+1) (by omega) _ _ _ _ _ k00 k01 k10 k11 k12 X hX
 refine bodyPost_ret (v:=.tuple #[.agg #[.int .i64 0,.slice none 0 0],.agg #[.int .i64 f,.int .i64 x,.int .i64 y],.int .i64 k]) (by simp [results,Tryz.results12,go_sem,q0,q1,q2,q3,q4]) rfl ⟨rfl,?_⟩
 exact (HB.out.trans (b26.mono HB.out.size)).trans (fX.below (by have:=HB.out.size;have:=b26.size;omega) (fun k e=>by omega))
theorem FilmAt.frm {S:Nat->Prop} {w w':World} {B z:Nat} {Lv:Value} {frs:List (List Px)} (h:FilmAt w B Lv z frs) (f:Frm S w w') (hS:∀ k,S k->k<B):FilmAt w' B Lv z frs:=by
 obtain ⟨fbs,h1,h2,h3,h4,h5,h6⟩:=h
 refine ⟨fbs,f.owns h1 (fun k e hs=>?_),h2,fun i hi=>f.pixs (h3 i hi) (fun hs=>?_),h4,h5,h6⟩
 ·have:=(World.ownsRow.lt h1 k e).1
  have:=hS k hs
  omega
 ·have:=(h3 i hi).lt.1
  have:=hS _ hs
  omega
set_option maxRecDepth 20000 in
theorem pDec_good (w:World) (s:ByteArray) (hs:s.size<=120000) (z:Nat) (frs:List (List Px))
  (hr:∀ wx,Below w.heap.size w wx->Calls Tryz.prog 21 #[.string s] wx fun e w'=>(∃ Lv B,wx.heap.size<=B/\e=.returned (.tuple #[.agg #[.int .i64 z,Lv],.nilIface])/\FilmAt w' B Lv z frs)/\Below wx.heap.size wx w') :
  Calls Tryz.prog 12 #[.string s] w fun e w'=>(∃ Lv B,w.heap.size<=B/\e=.returned (.tuple #[.agg #[.int .i64 z,Lv],.agg #[.int .i64 0,.int .i64 0,.int .i64 0],.int .i64 0])/\FilmAt w' B Lv z frs)/\Below w.heap.size w w':=by
 have hs':¬ ((120000:Int)<(s.size:Int)):=by omega
 obtain ⟨W2,hW2⟩:∃ W2,W2=(w.alloc (.cells #[.int .i64 0,.slice none 0 0] 27)).alloc (.cells #[.int .i64 0,.int .i64 0,.int .i64 0] 33):=⟨_,rfl⟩
 have hB:Below w.heap.size w W2:=by rw [hW2];exact ((Below.refl _ w).alloc (Nat.le_refl _) _).alloc (by simp) _
 have h0:W2.heap[w.heap.size]?=some (.cells #[.int .i64 0,.slice none 0 0] 27 (0,0)):=by rw [hW2,Below.heap_alloc _ _ _ (by simp)];exact heap_alloc_last w _
 have h1:W2.heap[w.heap.size+1]?=some (.cells #[.int .i64 0,.int .i64 0,.int .i64 0] 33 (0,0)):=by
  have:=heap_alloc_last (w.alloc (.cells #[.int .i64 0,.slice none 0 0] 27)) (.cells #[.int .i64 0,.int .i64 0,.int .i64 0] 33)
  rw [World.size_alloc] at this
  rw [hW2];exact this
 have HSZ:Hid (W2.heap.size=w.heap.size+2):=by unfold Hid;rw [hW2];simp
 have HR:Hid (Calls Tryz.prog 21 #[.string s] W2 fun e w'=>(∃ Lv B,W2.heap.size<=B/\e=.returned (.tuple #[.agg #[.int .i64 z,Lv],.nilIface])/\FilmAt w' B Lv z frs)/\Below W2.heap.size W2 w'):=hr W2 hB
 have HW2:Hid (W2=(w.alloc (.cells #[.int .i64 0,.slice none 0 0] 27)).alloc (.cells #[.int .i64 0,.int .i64 0,.int .i64 0] 33)):=hW2
 have HB:Hid (Below w.heap.size w W2):=hB
 have HC:Hid (∀ w3,Below W2.heap.size W2 w3->w3.heap[w.heap.size]?=some (.cells #[.int .i64 0,.slice none 0 0] 27 (0,0))/\w3.heap[w.heap.size+1]?=some (.cells #[.int .i64 0,.int .i64 0,.int .i64 0] 33 (0,0))):=fun w3 b=>⟨(b.block _ (heap_lt h0)).trans h0,(b.block _ (heap_lt h1)).trans h1⟩
 have HFM:Hid (∀ w3 Lv B,FilmAt w3 B Lv z frs->∃ da dn dc,Lv=.slice da dn dc):=fun w3 Lv B h=>by
  obtain ⟨fbs,h1,_⟩:=h
  obtain ⟨a,c,e,_⟩:=owns_form h1
  exact ⟨a,_,c,e⟩
 clear hW2 hB h0 h1 hr
 go_enter Tryz.func12,Tryz.ntmps12
 go_wp2_with (first
  | (rw [<- HW2.out])
  | (go_at_call 21;refine HR.out.mono ?_;rintro e w3 ⟨⟨Lv,B,hBB,rfl,hfm⟩,b3⟩;obtain ⟨da,dn,dc,rfl⟩:=HFM.out w3 Lv B hfm;obtain ⟨r0,r1⟩:=HC.out w3 b3;have k00:w3.cell? ⟨w.heap.size,0,none⟩=some (.int .i64 0):=cell_of_row _ _ 0 _ _ _ r0;have k01:w3.cell? ⟨w.heap.size,1,none⟩=some (.slice none 0 0):=cell_of_row _ _ 1 _ _ _ r0;have k10:w3.cell? ⟨w.heap.size+1,0,none⟩=some (.int .i64 0):=cell_of_row _ _ 0 _ _ _ r1;have k11:w3.cell? ⟨w.heap.size+1,1,none⟩=some (.int .i64 0):=cell_of_row _ _ 1 _ _ _ r1;have k12:w3.cell? ⟨w.heap.size+1,2,none⟩=some (.int .i64 0):=cell_of_row _ _ 2 _ _ _ r1;have z00:=frozen_of_row _ _ 0 _ _ r0;have z01:=frozen_of_row _ _ 1 _ _ r0;have z10:=frozen_of_row _ _ 0 _ _ r1;have z11:=frozen_of_row _ _ 1 _ _ r1;have z12:=frozen_of_row _ _ 2 _ _ r1;have l0:w.heap.size<w3.heap.size:=heap_lt r0;have l1:w.heap.size+1<w3.heap.size:=heap_lt r1))
 obtain ⟨Y,hY⟩:∃ Y,Y=((((w3.setCell ⟨w.heap.size,0,none⟩ (.int .i64 z)).setCell ⟨w.heap.size,1,none⟩ (.slice da dn dc)).setCell ⟨w.heap.size+1,0,none⟩ (.int .i64 0)).setCell ⟨w.heap.size+1,1,none⟩ (.int .i64 0)).setCell ⟨w.heap.size+1,2,none⟩ (.int .i64 0):=⟨_,rfl⟩
 rw [<- hY]
 obtain ⟨q0,q1,q2,q3,q4,fY⟩:=five0 w3 w.heap.size (w.heap.size+1) (by omega) _ _ _ _ _ k00 k01 k10 k11 k12 Y hY
 obtain ⟨X,hX⟩:∃ X,X=Y.alloc (.cells #[.int .i64 z,.slice da dn dc] 27):=⟨_,rfl⟩
 rw [<- hX]
 have bX:Below Y.heap.size Y X:=by rw [hX];exact (Below.refl _ Y).alloc (Nat.le_refl _) _
 have fX:Frm (fun k=>k=w.heap.size \/ k=w.heap.size+1) w3 X:=fY.trans (Frm.of_below bX)
 have lY:w3.heap.size<=Y.heap.size:=fY.size
 have p0:=(bX.cell (p:=⟨w.heap.size,0,none⟩) (by show w.heap.size<_;omega)).trans q0
 have p1:=(bX.cell (p:=⟨w.heap.size,1,none⟩) (by show w.heap.size<_;omega)).trans q1
 have p2:=(bX.cell (p:=⟨w.heap.size+1,0,none⟩) (by show w.heap.size+1<_;omega)).trans q2
 have p3:=(bX.cell (p:=⟨w.heap.size+1,1,none⟩) (by show w.heap.size+1<_;omega)).trans q3
 have p4:=(bX.cell (p:=⟨w.heap.size+1,2,none⟩) (by show w.heap.size+1<_;omega)).trans q4
 refine bodyPost_ret (v:=.tuple #[.agg #[.int .i64 z,.slice da dn dc],.agg #[.int .i64 0,.int .i64 0,.int .i64 0],.int .i64 0]) (by simp [results,Tryz.results12,go_sem,p0,p1,p2,p3,p4]) rfl ?_
 have hsz:=HSZ.out
 refine ⟨⟨_,B,by omega,rfl,hfm.frm fX (fun k e=>by omega)⟩,?_⟩
 exact (HB.out.trans (b3.mono HB.out.size)).trans (fX.below (by have:=HB.out.size;have:=b3.size;omega) (fun k e=>by omega))
theorem SoftG.low {w wx:World} (h:SoftG w w.heap.size) (b:Below w.heap.size w wx):SoftG wx wx.heap.size:=h.of (b.block _ h.lt) (Nat.lt_of_lt_of_le h.lt b.size)
theorem pDec_plain (w:World) (s:ByteArray) (hs:s.size<=120000) (A:Nat->Addr) (E:ErrsA w A) (T:ErrT w) (x:Nat × Nat) (hx:x ∈ sntG)
  (hr:∀ wx,Below w.heap.size w wx->Calls Tryz.prog 21 #[.string s] wx fun e w'=>e=.returned (.tuple #[.agg #[.int .i64 0,.slice none 0 0],.iface 278 (.pointer (some (A x.1)))])/\Below wx.heap.size wx w') :
  Calls Tryz.prog 12 #[.string s] w fun e w'=>e=.returned (.tuple #[.agg #[.int .i64 0,.slice none 0 0],.agg #[.int .i64 0,.int .i64 0,.int .i64 0],.int .i64 x.1])/\Below w.heap.size w w':=by
 refine pDec_bad w s hs _ _ 0 0 0 x.1 hr (fun wx b=>pPlace_plain wx _ (T.below b)) (fun wx b=>(pErrnoA wx A (E.below b) x hx).mono ?_)
 rintro e w' ⟨rfl,rfl⟩
 exact ⟨rfl,Below.refl _ _⟩
theorem pDecode (w:World) (s:ByteArray) (A:Nat->Addr) (E:ErrsA w A) (SG:SoftG w w.heap.size) (T:ErrT w) :
  Calls Tryz.prog 12 #[.string s] w fun x w'=>DecAns w (Flm.decode s) x w':=by
 unfold Flm.decode
 by_cases hl:120000<s.size
 ·rw [if_pos hl]
  exact (pDec_long w s hl).mono fun x w' h=>⟨h.1,h.2⟩
 rw [if_neg hl]
 have hs:s.size<=120000:=by omega
 by_cases hh:HeadOk s
 ·rw [if_pos hh]
  have hh':=hh
  obtain ⟨h4,h0,h1,h2,h3⟩:=hh
  obtain ⟨t,ht⟩:∃ t,s.extract 4 s.size=t:=⟨_,rfl⟩
  dsimp only
  rw [ht]
  have hbd2:=Rdr.byteAt_bd s 2
  have hbd:=Rdr.byteAt_bd s 3
  obtain ⟨N,hN⟩:∃ N:Nat,N=(Rdr.byteAt s 3).toNat:=⟨_,rfl⟩
  obtain ⟨z,hz⟩:∃ z:Nat,z=(Rdr.byteAt s 2).toNat:=⟨_,rfl⟩
  rw [<- hN,<- hz]
  have hN3:Rdr.byteAt s 3=N:=by omega
  have hz2:Rdr.byteAt s 2=z:=by omega
  have hRH:∀ w0,Below w.heap.size w w0->∀ wx,Below w0.heap.size w0 wx->Calls Tryz.prog 44 #[.string s] wx fun e w'=>e=.returned (.tuple #[.int .i64 z,.int .i64 N,.nilIface])/\Below wx.heap.size wx w':=fun w0 b0 wx b=>by
   refine (pReadHead wx s A ((E.below b0).below b)).mono ?_
   rintro e w' ⟨e1,_,e2⟩
   refine ⟨?_,e2⟩
   rw [e1 hh',hz2,hN3]
  have hts:t.size<=maxLen:=by rw [<- ht,ByteArray.size_extract];unfold maxLen;omega
  by_cases he:(Rdr.start t ch0).err=0
  ·rw [if_pos he]
   obtain ⟨F,hF⟩:∃ F,F=Flm.frames t z N ⟨Rdr.start t ch0,[],[],0,0,0⟩:=⟨_,rfl⟩
   have HRD:∀ wx,Below w.heap.size w wx->Calls Tryz.prog 21 #[.string s] wx (ReadPost A wx t z F):=fun wx b=>by
    rw [hF]
    exact pRead_main wx s t h4 ht hts z N (by omega) (by omega) A (E.below b) (SG.low b) he (hRH wx b)
   rw [<- hF]
   unfold Flm.fin
   by_cases hFe:F.r.err=0
   ·rw [if_pos hFe]
    by_cases hfi:(Rdr.finish t F.r).err=0
    ·rw [if_pos hfi]
     refine (pDec_good w s hs z F.frs (fun wx b=>(HRD wx b).mono ?_)).mono ?_
     ·rintro e w' ⟨_,_,h3,h4⟩
      exact ⟨h3 hFe hfi,h4⟩
     ·rintro e w' ⟨h1,h2⟩
      exact ⟨h1,h2⟩
    ·rw [if_neg hfi]
     have h6:(Rdr.finish t F.r).err=6:=by rcases finish_err t F.r hFe with h|h;exact absurd h hfi;exact h
     refine (pDec_plain w s hs A E T (6,6) (by decide) (fun wx b=>(HRD wx b).mono ?_)).mono ?_
     ·rintro e w' ⟨_,h2,_,h4⟩
      refine ⟨?_,h4⟩
      rw [h2 hFe hfi,h6]
      rfl
     ·rintro e w' ⟨rfl,h2⟩
      rw [h6]
      exact ⟨rfl,h2⟩
   ·rw [if_neg hFe]
    have hin:ErrIn F.r:=by rw [hF];exact Flm.frames_in _ _ (.inl he)
    obtain ⟨k,hk⟩:∃ k:Nat,k=F.r.err.toNat:=⟨_,rfl⟩
    have hk2:k=2 \/ k=4 \/ k=5 \/ k=6 \/ k=7 \/ k=8 \/ k=9 \/ k=10:=by
     rcases hin with e|e|e|e|e|e
     ·exact absurd e hFe
     all_goals (rw [e] at hk;rw [hk];decide)
    have hkF:F.r.err=k:=by rcases hin with e|e|e|e|e|e <;> rw [e] at hk ⊢ <;> rw [hk] <;> rfl
    refine (pDec_bad w s hs 113 (.agg #[.int .i64 F.fr,.int .i64 F.x,.int .i64 F.y,.iface 278 (.pointer (some (A k)))]) F.fr F.x F.y k (fun wx b=>(HRD wx b).mono ?_) (fun wx b=>pPlace_flt wx _ _ _ _ (T.below b)) (fun wx b=>pErrnoF wx A (E.below b) _ _ _ k hk2)).mono ?_
    ·rintro e w' ⟨h1,_,_,h4⟩
     refine ⟨?_,h4⟩
     rw [h1 hFe,fltV_pos A _ hFe,<- hk]
     rfl
    ·rintro e w' ⟨rfl,h2⟩
     rw [hkF]
     exact ⟨rfl,h2⟩
  ·rw [if_neg he]
   rcases start_err t ch0 with e|e|e
   ·exact absurd e he
   ·refine (pDec_plain w s hs A E T (5,1) (by decide) (fun wx b=>pRead_start wx s t h4 ht z N (A 5) (hRH wx b) (fun wy b2=>(pNewReader wy t hts (A 5) (A 6) (A 7) ((E.below b).below b2).errs).mono ?_))).mono ?_
    ·rintro x w' ⟨pv,rfl,_,b3⟩
     exact ⟨⟨pv,by rw [e,errV5]⟩,b3⟩
    ·rintro x w' ⟨rfl,h2⟩
     rw [e]
     exact ⟨rfl,h2⟩
   ·refine (pDec_plain w s hs A E T (7,7) (by decide) (fun wx b=>pRead_start wx s t h4 ht z N (A 7) (hRH wx b) (fun wy b2=>(pNewReader wy t hts (A 5) (A 6) (A 7) ((E.below b).below b2).errs).mono ?_))).mono ?_
    ·rintro x w' ⟨pv,rfl,_,b3⟩
     exact ⟨⟨pv,by rw [e,errV7]⟩,b3⟩
    ·rintro x w' ⟨rfl,h2⟩
     rw [e]
     exact ⟨rfl,h2⟩
 ·rw [if_neg hh]
  refine (pDec_plain w s hs A E T (4,0) (by decide) (fun wx b=>pRead_head wx s (A 4) (fun wy b2=>(pReadHead wy s A ((E.below b).below b2)).mono ?_))).mono ?_
  ·rintro e w' ⟨_,e1,e2⟩
   exact ⟨e1 hh,e2⟩
  ·rintro e w' ⟨rfl,h2⟩
   exact ⟨rfl,h2⟩
end
section
open Go.RowKit
open Flm (Px)
structure Vars (w:World):Prop where
 e:∃ A,ErrsA w A
 s:SoftG w w.heap.size
 t:ErrT w
theorem Vars.below {w w':World} (h:Vars w) (b:Below w.heap.size w w'):Vars w':=⟨h.e.elim fun A e=>⟨A,e.below b⟩,h.s.low b,h.t.below b⟩
end
section
open Go.RowKit
open Flm (Px okPx)
theorem less_cut (S:ByteArray) (h:1<=S.size):Less S (S.extract 0 (S.size-1)):=by
 have hz:(S.extract 0 (S.size-1)).size=S.size-1:=by rw [ByteArray.size_extract];omega
 refine ⟨by omega,fun i hi=>?_⟩
 unfold Rdr.byteAt
 have e:(S.extract 0 (S.size-1)).data.toList.getD i 0=S.data.toList.getD i 0:=by
  have h1:(S.extract 0 (S.size-1)).data=S.data.extract 0 (S.size-1):=by simp
  rw [h1,List.getD_eq_getElem?_getD,List.getD_eq_getElem?_getD,Array.getElem?_toList,Array.getElem?_toList,Array.getElem?_extract,if_pos (by have:S.data.size=S.size:=rfl;omega),Nat.zero_add]
 rw [e]
theorem less_app (S:ByteArray) (b:UInt8):Less (S++⟨#[b]⟩) S:=by
 refine ⟨by rw [ByteArray.size_append];rfl,fun i hi=>?_⟩
 unfold Rdr.byteAt
 have e:(S++⟨#[b]⟩).data.toList.getD i 0=S.data.toList.getD i 0:=by
  have h1:(S++⟨#[b]⟩).data.toList=S.data.toList++[b]:=by simp
  rw [h1,List.getD_eq_getElem?_getD,List.getD_eq_getElem?_getD,List.getElem?_append_left (by simpa using hi)]
 rw [e]
theorem FrsIn.film {w:World} {fa:Option Addr} {z:Nat} {F:List (List Px)} {nbs cs:Nat->Nat} (h:FrsIn w fa F.length z F nbs cs) (hl:∀ j,j<F.length->(F.getD j []).length=z*z):FiIn w fa F :=
 h.imp id fun ⟨fb,off,e,hf⟩=>⟨fb,off,e,fun j hj=>⟨_,_,by rw [hl j hj];exact (hf j hj).1,.inr ⟨_,0,rfl,fun k hk=>by
  have:=(hf j hj).2.2 k (by rw [<- hl j hj];exact hk)
  simpa using this⟩⟩⟩
theorem encS_size {z:Nat} {F:List (List Px)} (h:Pk.FilmOk z F):8<=(encS z F.length F).size/\(encS z F.length F).size<=120000:=by
 have hm:=Pk.film_m h
 rw [encS_nums,strOfNums_size,List.length_append,Pack.digs_length]
 simp only [List.length_cons,List.length_nil]
 omega
theorem kDecs (w:World) (V:Vars w) {z:Nat} {F:List (List Px)} (hF:Pk.FilmOk z F):∃ x0 x1 x2 u0 u1 u2 y0 y1 y2:Int,(x0=0/\x1=0/\x2=0)/\(y0=0/\y1=0/\y2=0)/\(∀ wx,Below w.heap.size w wx->Calls Tryz.prog 12 #[.string (encS z F.length F)] wx (GoodAns x0 x1 x2 z F wx)) /\
  (∀ wx,Below w.heap.size w wx->Calls Tryz.prog 12 #[.string ((encS z F.length F).extract 0 ((encS z F.length F).size-1))] wx fun r w'=>r=.returned (.tuple #[.agg #[.int .i64 0,.slice none 0 0],.agg #[.int .i64 u0,.int .i64 u1,.int .i64 u2],.int .i64 5])/\Below wx.heap.size wx w') /\
  (∀ wx,Below w.heap.size w wx->Calls Tryz.prog 12 #[.string (encS z F.length F++⟨#[120]⟩)] wx fun r w'=>r=.returned (.tuple #[.agg #[.int .i64 0,.slice none 0 0],.agg #[.int .i64 y0,.int .i64 y1,.int .i64 y2],.int .i64 (if (encS z F.length F).size=120000 then 1 else 6)])/\Below wx.heap.size wx w'):=by
 obtain ⟨S,hS⟩:∃ S,S=encS z F.length F:=⟨_,rfl⟩
 have hd:=dec_encS hF
 have hz:=encS_size hF
 rw [<- hS] at hd hz ⊢
 have hd1:(Flm.decode S).1=some (z,F):=by rw [hd]
 have hP:∀ s wx,Below w.heap.size w wx->Calls Tryz.prog 12 #[.string s] wx fun x w'=>DecAns wx (Flm.decode s) x w':=fun s wx bx=>by
  obtain ⟨⟨A,e⟩,sg,t⟩:=V.below bx
  exact pDecode wx s A e sg t
 have N:∀ s,(Flm.decode s).1=none->∀ wx (x:Ending) (w':World),DecAns wx (Flm.decode s) x w'->x=.returned (.tuple #[.agg #[.int .i64 0,.slice none 0 0],.agg #[.int .i64 (Flm.decode s).2.1.1,.int .i64 (Flm.decode s).2.1.2.1,.int .i64 (Flm.decode s).2.1.2.2],.int .i64 (Flm.decode s).2.2])/\Below wx.heap.size wx w':=fun s hn wx x w' hx=>by
  obtain ⟨x1,x2⟩:=hx
  rw [hn] at x1
  exact ⟨x1,x2⟩
 have L1:=less_cut S (by omega)
 have l1:=L1.sz
 obtain ⟨n1,n2⟩:=decode_less L1 (by omega) hd1
 have L2:=less_app S 120
 have hsz2:(S++⟨#[120]⟩).size=S.size+1:=L2.sz
 have h3:Flm.decode (S++⟨#[120]⟩)=(none,(0,0,0),if S.size=120000 then 1 else 6):=by
  by_cases hm:S.size=120000
  ·rw [if_pos hm]
   unfold Flm.decode
   rw [if_pos (by omega)]
  ·rw [if_neg hm]
   exact decode_more L2 (by omega) (by omega) hd1
 refine ⟨0,0,0,(Flm.decode (S.extract 0 (S.size-1))).2.1.1,(Flm.decode (S.extract 0 (S.size-1))).2.1.2.1,(Flm.decode (S.extract 0 (S.size-1))).2.1.2.2,0,0,0,⟨rfl,rfl,rfl⟩,⟨rfl,rfl,rfl⟩,fun wx bx=>(hP S wx bx).mono fun x w' hx=>hx.good hd1,fun wx bx=>?_,fun wx bx=>?_⟩
 ·refine (hP _ wx bx).mono fun x w' hx=>?_
  have k:=N _ n1 wx x w' hx
  rw [n2] at k
  exact k
 ·refine (hP _ wx bx).mono fun x w' hx=>?_
  have k:=N _ (by rw [h3]) wx x w' hx
  rw [h3] at k
  exact k
end
section
open Go.RowKit
structure FB (W:World) (H:Nat) (z v:Value):Prop where
 c0:W.cell? ⟨H,0,none⟩=some z
 c1:W.cell? ⟨H,1,none⟩=some v
theorem FB.below {W W':World} {H:Nat} {z v:Value} (h:FB W H z v) (b:Below W.heap.size W W'):FB W' H z v:=⟨(b.cell (World.block_lt_of_cell? W _ h.c0)).trans h.c0,(b.cell (World.block_lt_of_cell? W _ h.c1)).trans h.c1⟩
theorem FB.cells {W:World} {H:Nat} {z v:Value} (h:FB W H z v):W.cell? ⟨H,0,none⟩=some z/\W.cell? ⟨H,1,none⟩=some v:=⟨h.c0,h.c1⟩
theorem fb_mk (w:World) (z v:Value):∃ W1 H,W1=w.alloc (.cells #[z,v] 27)/\H=w.heap.size/\Below w.heap.size w W1/\FB W1 H z v :=
 ⟨_,_,rfl,rfl,(Below.refl _ w).alloc (Nat.le_refl _) _,⟨cell_of_row _ _ 0 _ _ _ (heap_alloc_last w _),cell_of_row _ _ 1 _ _ _ (heap_alloc_last w _)⟩⟩
end
section
open Go.RowKit
open Flm (Px okPx)
structure KC (W:World) (z:Nat) (F:List (List Px)) (a:Option Addr) (n fc:Nat) (S:ByteArray) (x0 x1 x2 u0 u1 u2 y0 y1 y2 E:Int):Prop where
 enc:∀ wx,Below W.heap.size W wx->Calls Tryz.prog 11 #[.agg #[.int .i64 z,.slice a n fc]] wx fun x w'=>x=.returned (.tuple #[.string S,.int .i64 0])/\Below wx.heap.size wx w'
 d1:∀ wx,Below W.heap.size W wx->Calls Tryz.prog 12 #[.string S] wx (GoodAns x0 x1 x2 z F wx)
 d2:∀ wx,Below W.heap.size W wx->Calls Tryz.prog 12 #[.string (S.extract 0 (S.size-1))] wx fun r w'=>r=.returned (.tuple #[.agg #[.int .i64 0,.slice none 0 0],.agg #[.int .i64 u0,.int .i64 u1,.int .i64 u2],.int .i64 5])/\Below wx.heap.size wx w'
 d3:∀ wx,Below W.heap.size W wx->Calls Tryz.prog 12 #[.string (S++⟨#[120]⟩)] wx fun r w'=>r=.returned (.tuple #[.agg #[.int .i64 0,.slice none 0 0],.agg #[.int .i64 y0,.int .i64 y1,.int .i64 y2],.int .i64 E])/\Below wx.heap.size wx w'
 same:∀ wx v lo,Below W.heap.size W wx->FilmAt wx lo v z F->Calls Tryz.prog 13 #[.agg #[.int .i64 z,.slice a n fc],.agg #[.int .i64 z,v]] wx fun x w'=>x=.returned (.bool true)/\Below wx.heap.size wx w'
theorem kPrep (W:World) (V:Vars W) {z:Nat} {F:List (List Px)} {a:Option Addr} {fc:Nat} {nbs cs:Nat->Nat} (hF:Pk.FilmOk z F) (hfr:FrsIn W a F.length z F nbs cs):∃ (n:Nat) (S:ByteArray) (x0 x1 x2 u0 u1 u2 y0 y1 y2 E:Int),n=F.length/\(8<=S.size/\S.size<=120000)/\((x0=0/\x1=0/\x2=0)/\(y0=0/\y1=0/\y2=0)/\E=if S.size=120000 then 1 else 6)/\KC W z F a n fc S x0 x1 x2 u0 u1 u2 y0 y1 y2 E:=by
 obtain ⟨x0,x1,x2,u0,u1,u2,y0,y1,y2,hx,hy,h1,h2,h3⟩:=kDecs W V hF
 refine ⟨F.length,encS z F.length F,x0,x1,x2,u0,u1,u2,y0,y1,y2,_,rfl,encS_size hF,⟨hx,hy,rfl⟩,fun wx bx=>?_,h1,h2,h3,fun wx v lo bx hv=>kSame wx lo z fc a v F ((hfr.below bx).film hF.len) hF.len hv⟩
 exact pEncode wx a F.length fc z F nbs cs (hfr.below bx) hF.ok hF.iz hF.le8 (by have:=Pk.film_m hF;omega) (V.below bx).s
theorem placeIs (a b c:Int) (h:a=0/\b=0/\c=0) (w:World):Sem.run Tryz.prog (Op.equalIn 10000 33 (.agg #[.int .i64 a,.int .i64 b,.int .i64 c]) (.agg #[.int .i64 0,.int .i64 0,.int .i64 0])) w=.ok true w:=by
 obtain ⟨rfl,rfl,rfl⟩:=h
 exact placeEq 0 0 0 w
set_option maxRecDepth 20000 in
theorem kept_any (w:World) (c0 c1:Int) (s:ByteArray) (c3:Int) (a0:-9223372036854775808<=c0) (a1:c0<=9223372036854775807) (b0:-9223372036854775808<=c1) (b1:c1<=9223372036854775807) (d0:-9223372036854775808<=c3) (d1:c3<=9223372036854775807) (hs:s.size<=maxLen) (V:Vars w) :
  Calls Tryz.prog 7 #[.int .i64 c0,.int .i64 c1,.string s,.int .i64 c3] w fun x w'=>x=.returned (.bool true)/\Below w.heap.size w w':=by
 have HFM:=kFilm w c0 c1 s c3 a0 a1 b0 b1 d0 d1 hs
 have HV:Hid (Vars w):=V
 clear a0 a1 b0 b1 d0 d1 hs V
 have T0:Hid True:=trivial
 have T1:Hid True:=trivial
 have T2:Hid True:=trivial
 go_enter Tryz.func7,Tryz.ntmps7
 go_upto_region 2 with (first
  | (go_at_call 10;refine HFM.mono ?_;rintro e w1 ⟨⟨z,F,a,fc,nbs,cs,rfl,hF,hfr⟩,b1⟩;obtain ⟨n,S,x0,x1,x2,u0,u1,u2,y0,y1,y2,E,hn,hS,hE,K⟩:=kPrep w1 (HV.out.below b1) (fc:=fc) hF hfr;rw [<- hn];obtain ⟨W1,A1,hW1,hA1,hb1,f1⟩:=fb_mk w1 (.int .i64 z) (.slice a n fc);have HW1:Hid (W1=_/\A1=_):=⟨hW1,hA1⟩;clear hW1 hA1 hF hfr hn)
  | (rw [<- HW1.out.1,<- HW1.out.2]))
 have X1:Hid (FB W1 A1 (.int .i64 z) (.slice a n fc)):=f1
 have HB:Hid (Below w.heap.size w w1/\Below w1.heap.size w1 W1):=⟨b1,hb1⟩
 obtain ⟨f0,f2⟩:=f1.cells
 obtain ⟨s8,sM⟩:=hS
 have s8':¬ ((S.size:Int)<8):=by omega
 have sM':¬ ((S.size:Int) > 120000):=by omega
 have hpx:=placeIs x0 x1 x2 hE.1
 have hpy:=placeIs y0 y1 y2 hE.2.1
 have HE:Hid (E=if S.size=120000 then 1 else 6):=hE.2.2
 have HK:Hid (KC w1 z F a n fc S x0 x1 x2 u0 u1 u2 y0 y1 y2 E):=K
 clear K f1 b1 hb1 hE HFM
 go_upto_region 11 with (first
  | (go_at_call 11;refine (HK.out.enc W1 HB.out.2).mono ?_;rintro e w2 ⟨rfl,b2⟩;have X2:Hid (FB w2 A1 (.int .i64 z) (.slice a n fc)/\Below w1.heap.size w1 w2):=⟨X1.out.below b2,HB.out.2.trans (b2.mono HB.out.2.size)⟩;clear f0 f2 b2;obtain ⟨f0,f2⟩:=X2.out.1.cells)
  | (clear T0;go_at_call 12;refine (HK.out.d1 w2 X2.out.2).mono ?_;rintro r w3 ⟨a3,m3,q3,l3,hl3,rfl,hf3,b3⟩;obtain ⟨W3,A3,hW3,hA3,hbn3,hbb3,_,hx3⟩:=fpb_mk (Below.refl _ w2) b3 (.int .i64 z) (.slice a3 m3 q3) (.int .i64 x0) (.int .i64 x1) (.int .i64 x2);have HW3:Hid (W3=_/\A3=_):=⟨hW3,hA3⟩;have X3:Hid (FB W3 A1 (.int .i64 z) (.slice a n fc)/\Below w1.heap.size w1 W3/\FilmIn W3 l3 w3.heap.size (.slice a3 m3 q3) z F/\FPB W3 A3 (.int .i64 z) (.slice a3 m3 q3) (.int .i64 x0) (.int .i64 x1) (.int .i64 x2)):=⟨X2.out.1.below hbb3,X2.out.2.trans (hbb3.mono X2.out.2.size),hf3.below hbn3,hx3⟩;clear hW3 hA3 hbn3 hbb3 hf3 b3 hl3 hx3 f0 f2)
  | (rw [<- HW3.out.1,<- HW3.out.2];obtain ⟨f0,f2⟩:=X3.out.1.cells;obtain ⟨g0,g1,g2,g3,g4⟩:=X3.out.2.2.2.cells)
  | (go_at_call 13;refine (HK.out.same W3 _ _ X3.out.2.1 X3.out.2.2.1.at).mono ?_;rintro r w4 ⟨rfl,b4⟩;have X4:Hid (FPB w4 A3 (.int .i64 z) (.slice a3 m3 q3) (.int .i64 x0) (.int .i64 x1) (.int .i64 x2)/\Below w1.heap.size w1 w4):=⟨X3.out.2.2.2.below b4,X3.out.2.1.trans (b4.mono X3.out.2.1.size)⟩;clear b4 f0 f2 g0 g1 g2 g3 g4;obtain ⟨g0,g1,g2,g3,g4⟩:=X4.out.1.cells)
  | (clear T1;go_at_call 12;refine (HK.out.d2 w4 X4.out.2).mono ?_;rintro r w5 ⟨rfl,b5⟩;obtain ⟨W5,A5,hW5,hA5,hbn5,hbb5,_,hx5⟩:=fpb_mk (Below.refl _ w4) b5 (.int .i64 0) (.slice none 0 0) (.int .i64 u0) (.int .i64 u1) (.int .i64 u2);have HW5:Hid (W5=_/\A5=_):=⟨hW5,hA5⟩;have X5:Hid (Below w1.heap.size w1 W5):=X4.out.2.trans (hbb5.mono X4.out.2.size);clear hW5 hA5 hbn5 hbb5 b5 hx5 g0 g1 g2 g3 g4)
  | (rw [<- HW5.out.1,<- HW5.out.2])
  | (go_at_call 12;refine (HK.out.d3 W5 X5.out).mono ?_;rintro r w6 ⟨rfl,b6⟩;obtain ⟨W6,A6,hW6,hA6,hbn6,hbb6,_,hx6⟩:=fpb_mk (Below.refl _ W5) b6 (.int .i64 0) (.slice none 0 0) (.int .i64 y0) (.int .i64 y1) (.int .i64 y2);have HW6:Hid (W6=_/\A6=_):=⟨hW6,hA6⟩;have X6:Hid (FPB W6 A6 (.int .i64 0) (.slice none 0 0) (.int .i64 y0) (.int .i64 y1) (.int .i64 y2)/\Below w1.heap.size w1 W6):=⟨hx6,X5.out.trans (hbb6.mono X5.out.size)⟩;clear hW6 hA6 hbn6 hbb6 b6 hx6)
  | (rw [<- HW6.out.1,<- HW6.out.2];obtain ⟨k0,k1,k2,k3,k4⟩:=X6.out.1.cells))
 by_cases hm:S.size=120000
 ·have hE:E=1:=by rw [HE.out,if_pos hm]
  subst hE
  clear HE HK
  have hm':(S.size:Int)=120000:=by omega
  go_wp2
  go_ret
  exact ⟨rfl,HB.out.1.trans (X6.out.2.mono HB.out.1.size)⟩
 ·have hE:E=6:=by rw [HE.out,if_neg hm]
  subst hE
  clear HE HK
  have hm':¬ (S.size:Int)=120000:=by omega
  go_wp2
  go_ret
  exact ⟨rfl,HB.out.1.trans (X6.out.2.mono HB.out.1.size)⟩
end
section
open Go.ChangeShapes Go.WideShapes Go.ChangeAt Go.RowKit
theorem own:ownKnob Tryz.prog.godebug=none:=by kernel_rfl
theorem laidOut:laidOutB Tryz.prog=true:=by kernel_rfl
end
end Go.Proofs.YtekfbphnoibnjaaGreatDoor
