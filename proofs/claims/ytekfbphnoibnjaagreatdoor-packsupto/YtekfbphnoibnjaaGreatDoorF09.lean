/-
  An area is read by the document: its place, a bit, and either a block or four areas. The document's reading of a film's bytes: what is refused at once.
-/
import Derived.Test.YtekfbphnoibnjaaGreatDoorF08
import Derived.Test.YtekfbphnoibnjaaGreatDoorF02
namespace Go.Proofs.YtekfbphnoibnjaaGreatDoor
open Go.RowKit
open Flm (Px FS)
theorem ShAt.now_eq {w w' : World} {B p b g lg lc lc' rg z : Nat} {fbs : List Nat} {s : ByteArray} {fs fs' : FS} (h : ShAt w B p b g lg lc rg fbs s z fs) (h' : ShAt w' B p b g lg lc' rg fbs s z fs') : Flm.now fs' = Flm.now fs:=by
 unfold Flm.now; rw [<- h.n1,<- h'.n1]
theorem Flm.area_err {s : ByteArray} {z x y n side : Nat} {fs : FS} (he : fs.r.err ≠ 0) : Flm.area s z n x y side fs = fs:=by
 cases n <;> (unfold Flm.area; rw [if_neg he])
def AreaC (B p b g lg lc rg z : Nat) (fbs : List Nat) (s : ByteArray) (n side : Nat) (S : Int) : Prop :=
 ∀ (w : World) (fs : FS) (x y : Nat) (X Y : Int),ShAt w B p b g lg lc rg fbs s z fs -> X = x -> Y = y -> x + side <= z -> y + side <= z ->
  Calls Tryz.prog 104 #[.pointer (some ⟨p,0,none⟩),.int .i64 X,.int .i64 Y,.int .i64 S] w fun e w' => e = .returned (.tuple #[]) /\ ShAt w' B p b g lg lc rg fbs s z (Flm.area s z n x y side fs) /\ Frm (shS p b g rg (fbs.getD (Flm.now fs) 0)) w w'
set_option maxHeartbeats 2000000 in
set_option maxRecDepth 20000 in
theorem sh_area_off (w : World) (B p b g lg lc rg z : Nat) (fbs : List Nat) (s : ByteArray) (fs : FS) (h : ShAt w B p b g lg lc rg fbs s z fs) (X Y S : Int) (he : fs.r.err ≠ 0) :
  Calls Tryz.prog 104 #[.pointer (some ⟨p,0,none⟩),.int .i64 X,.int .i64 Y,.int .i64 S] w fun e w' => e = .returned (.tuple #[]) /\ w' = w:=by
 have i0:=h.c0
 have i5:=h.rd.c5
 have he' : (fs.r.err == 0) = false:=by simpa using he
 have he2 : (fs.r.err != 0) = true:=by simpa using he
 clear h
 go_enter Tryz.func104,Tryz.ntmps104
 go_wp2
 go_returns
 exact ⟨rfl,rfl⟩
set_option maxHeartbeats 2000000 in
set_option maxRecDepth 20000 in
theorem sh_area4 (B p b g lg lc rg z : Nat) (fbs : List Nat) (s : ByteArray) (hs : s.size <= maxLen) : AreaC B p b g lg lc rg z fbs s 0 4 4:=by
 intro w fs x y X Y h hX hY hx hy
 by_cases he : fs.r.err = 0
 ·subst hX hY
  have i0:=h.c0
  have i2:=h.c2
  have i4:=h.c4
  have i5:=h.c5
  have i6:=h.c6
  have e5:=h.rd.c5
  have f4:=h.fz 4
  have f5:=h.fz 5
  have f6:=h.fz 6
  have HAR : Hid (Flm.area s z 0 x y 4 fs = Flm.block s z x y 4 { fs with fr:=Flm.now fs,x:=x,y:=y }):=by unfold Hid Flm.area; rw [if_pos he]
  rw [he] at e5
  have hn2:=h.n2
  have hsub : ((Flm.now fs : Nat) : Int) = ((fs.frs.length : Nat) : Int) - 1:=by unfold Flm.now; omega
  have hpl0:=h.place ((Flm.now fs : Nat) : Int) x y
  have HBK:=sh_block _ B p b g lg lc rg z fbs s _ hpl0 hs x y 4 hx hy
  rw [show ((4 : Nat) : Int) = 4 from rfl] at HBK
  have HBH : Hid (Calls Tryz.prog 130 #[.pointer (some ⟨p,0,none⟩),.int .i64 x,.int .i64 y,.int .i64 4] (((w.setCell ⟨p,4,none⟩ (.int .i64 (((fs.frs.length : Nat) : Int) - 1))).setCell ⟨p,5,none⟩ (.int .i64 (x : Int))).setCell ⟨p,6,none⟩ (.int .i64 (y : Int))) fun e w' => e = .returned (.tuple #[]) /\ ShAt w' B p b g lg lc rg fbs s z (Flm.block s z x y 4 { fs with fr:=Flm.now fs,x:=x,y:=y }) /\ Frm (shS p b g rg (fbs.getD (Flm.now fs) 0)) (((w.setCell ⟨p,4,none⟩ (.int .i64 (((fs.frs.length : Nat) : Int) - 1))).setCell ⟨p,5,none⟩ (.int .i64 (x : Int))).setCell ⟨p,6,none⟩ (.int .i64 (y : Int))) w'):=by
   rw [<- hsub]; exact HBK
  have hx16 : x <= 16:=by rcases h.zz with e | e | e <;> omega
  have hy16 : y <= 16:=by rcases h.zz with e | e | e <;> omega
  clear HBK hpl0 hsub
  have hne : p ≠ b:=h.nes.1.1
  have H : Hid (ShAt w B p b g lg lc rg fbs s z fs):=h
  clear h he
  go_enter Tryz.func104,Tryz.ntmps104
  go_wp2_with (go_at_call 130; refine HBH.out.mono ?_; rintro e w1 ⟨rfl,h1,f1⟩)
  go_end0
  rw [HAR.out]
  exact ⟨rfl,h1,(Frm.setCell (p:=⟨p,6,none⟩) (Frm.setCell (p:=⟨p,5,none⟩) (Frm.setCell (p:=⟨p,4,none⟩) (Frm.refl _ w) (.inl (.inl rfl)) _) (.inl (.inl rfl)) _) (.inl (.inl rfl)) _).trans f1⟩
 ·refine (sh_area_off w B p b g lg lc rg z fbs s fs h X Y _ he).mono ?_
  rintro e w1 ⟨rfl,rfl⟩
  rw [Flm.area_err he]
  exact ⟨rfl,h,Frm.refl _ _⟩
theorem shS_place {p b g rg fb : Nat} (w : World) (u v t : Value) : Frm (shS p b g rg fb) w (((w.setCell ⟨p,4,none⟩ u).setCell ⟨p,5,none⟩ v).setCell ⟨p,6,none⟩ t) :=
 Frm.setCell (p:=⟨p,6,none⟩) (Frm.setCell (p:=⟨p,5,none⟩) (Frm.setCell (p:=⟨p,4,none⟩) (Frm.refl _ w) (.inl (.inl rfl)) _) (.inl (.inl rfl)) _) (.inl (.inl rfl)) _
set_option maxHeartbeats 4000000 in
set_option maxRecDepth 20000 in
theorem sh_area_cut (B p b g lg lc rg z : Nat) (fbs : List Nat) (s : ByteArray) (hs : s.size <= maxLen) (n side h2 : Nat) (S H2 K : Int) (k : Nat) (hcase : (side = 8 /\ S = 8 /\ h2 = 4 /\ H2 = 4 /\ k = 1 /\ K = 1) \/ (side = 16 /\ S = 16 /\ h2 = 8 /\ H2 = 8 /\ k = 0 /\ K = 0)) (IH : AreaC B p b g lg lc rg z fbs s n h2 H2) : AreaC B p b g lg lc rg z fbs s (n + 1) side S:=by
 intro w fs x y X Y h hX hY hx hy
 by_cases he : fs.r.err = 0
 ·subst hX hY
  have hk4 : k < 400:=by omega
  have hhs : side / 2 = h2:=by omega
  have hkk : (if side = 16 then 0 else 1) = k:=by rcases hcase with ⟨rfl,_,_,_,rfl,_⟩ | ⟨rfl,_,_,_,rfl,_⟩ <;> rfl
  have i0:=h.c0
  have i2:=h.c2
  have i4:=h.c4
  have i5:=h.c5
  have i6:=h.c6
  have e5:=h.rd.c5
  have f4:=h.fz 4
  have f5:=h.fz 5
  have f6:=h.fz 6
  rw [he] at e5
  have hn2:=h.n2
  have hne : p ≠ b:=h.nes.1.1
  have hnpg : Hid (¬ rdS b g p):=fun e => by rcases e with e | e; exact h.nes.1.1 e; exact h.nes.1.2.1 e
  have hsub : ((Flm.now fs : Nat) : Int) = ((fs.frs.length : Nat) : Int) - 1:=by unfold Flm.now; omega
  have hpl0:=h.place ((Flm.now fs : Nat) : Int) x y
  rw [hsub] at hpl0
  obtain ⟨fs1,hfs1⟩ : ∃ fs1 : FS,fs1 = { fs with fr:=Flm.now fs,x:=x,y:=y }:=⟨_,rfl⟩
  obtain ⟨w1,hw1⟩ : ∃ w1,w1 = (((w.setCell ⟨p,4,none⟩ (.int .i64 (((fs.frs.length : Nat) : Int) - 1))).setCell ⟨p,5,none⟩ (.int .i64 (x : Int))).setCell ⟨p,6,none⟩ (.int .i64 (y : Int))):=⟨_,rfl⟩
  rw [<- hw1] at hpl0
  have hpl : ShAt w1 B p b g lg lc rg fbs s z fs1:=by rw [hfs1,hsub]; exact hpl0
  have hf1 : Frm (shS p b g rg (fbs.getD (Flm.now fs) 0)) w w1:=by rw [hw1]; exact shS_place w _ _ _
  have hr1 : fs1.r = fs.r:=by rw [hfs1]
  have hnow1 : Flm.now fs1 = Flm.now fs:=by rw [hfs1]; rfl
  have hx16 : x + side <= 16:=by rcases h.zz with e | e | e <;> omega
  have hy16 : y + side <= 16:=by rcases h.zz with e | e | e <;> omega
  have HB:=rbit w1 B b g s fs1.r k hpl.rd hpl.ok hs hk4
  rw [hr1] at HB
  obtain ⟨g1,hg1⟩ : ∃ g1 : FS,g1 = { fs1 with r:=Rdr.bitS s fs.r k }:=⟨_,rfl⟩
  have hst2 : ∀ w2,RdAt w2 B b g s (Rdr.bitS s fs.r k) -> Frm (rdS b g) w1 w2 -> ShAt w2 B p b g lg lc rg fbs s z g1:=fun w2 a f => by
   rw [hg1]; exact hpl.reader a (by rw [<- hr1]; exact hpl.ok.bitS hk4) f
  have HST2 : Hid (∀ w2,RdAt w2 B b g s (Rdr.bitS s fs.r k) -> Frm (rdS b g) w1 w2 -> ShAt w2 B p b g lg lc rg fbs s z g1):=hst2
  have HNG : Hid (Flm.now g1 = Flm.now fs):=by rw [hg1]; exact hnow1
  have HRG : Hid (g1.r = Rdr.bitS s fs.r k):=by rw [hg1]; rfl
  have HF1 : Hid (Frm (shS p b g rg (fbs.getD (Flm.now fs) 0)) w w1):=hf1
  have HIH : Hid (AreaC B p b g lg lc rg z fbs s n h2 H2):=IH
  have HW1 : Hid (w1 = (((w.setCell ⟨p,4,none⟩ (.int .i64 (((fs.frs.length : Nat) : Int) - 1))).setCell ⟨p,5,none⟩ (.int .i64 (x : Int))).setCell ⟨p,6,none⟩ (.int .i64 (y : Int)))):=hw1
  have HK : Hid ((k : Int) = K):=by unfold Hid; omega
  have HAR : Hid (Flm.area s z (n + 1) x y side fs = if Rdr.bitV fs.r k = 1 then Flm.area s z n (x + h2) (y + h2) h2 (Flm.area s z n x (y + h2) h2 (Flm.area s z n (x + h2) y h2 (Flm.area s z n x y h2 g1))) else if g1.r.err = 0 then Flm.block s z x y side g1 else g1):=by
   unfold Hid
   rw [hg1,hfs1]
   conv => lhs; unfold Flm.area
   rw [if_pos he,hkk,hhs]
  have HBb : Hid (Calls Tryz.prog 101 #[.pointer (some ⟨b,0,none⟩),.int .i64 k] w1 fun x w' => x = .returned (.int .i64 (Rdr.bitV fs.r k)) /\ RdAt w' B b g s (Rdr.bitS s fs.r k) /\ Frm (rdS b g) w1 w'):=HB
  have hs0 : ∀ w2,Frm (rdS b g) w1 w2 -> w2.cell? ⟨p,0,none⟩ = some (.pointer (some ⟨b,0,none⟩)):=fun w2 f => f.cell hpl.c0 hnpg.out
  have HS0 : Hid (∀ w2,Frm (rdS b g) w1 w2 -> w2.cell? ⟨p,0,none⟩ = some (.pointer (some ⟨b,0,none⟩))):=hs0
  clear h he hpl hpl0 HB hf1 hfs1 hst2 IH hs0 hsub hnow1 hr1 hkk hhs
  rcases hcase with ⟨rfl,rfl,rfl,rfl,rfl,rfl⟩ | ⟨rfl,rfl,rfl,rfl,rfl,rfl⟩
  ·
   rcases Rdr.bitV_cases fs.r 1 with hv | hv
   ·rw [hv] at HBb
    rw [hv,if_neg (by decide)] at HAR
    have HBH : Hid (Calls Tryz.prog 101 #[.pointer (some ⟨b,0,none⟩),.int .i64 1] (((w.setCell ⟨p,4,none⟩ (.int .i64 (((fs.frs.length : Nat) : Int) - 1))).setCell ⟨p,5,none⟩ (.int .i64 (x : Int))).setCell ⟨p,6,none⟩ (.int .i64 (y : Int))) fun x w' => x = .returned (.int .i64 0) /\ RdAt w' B b g s (Rdr.bitS s fs.r 1) /\ Frm (rdS b g) w1 w'):=by
     rw [<- HW1.out]; exact HBb
    by_cases hge : g1.r.err = 0
    ·rw [if_pos hge] at HAR
     have HARH : Hid (Flm.area s z (n + 1) x y 8 fs = Flm.block s z x y 8 g1):=HAR
     have HGE : Hid ((Rdr.bitS s fs.r 1).err = 0):=by rw [<- HRG.out]; exact hge
     have HBK : Hid (∀ w2,ShAt w2 B p b g lg lc rg fbs s z g1 -> Calls Tryz.prog 130 #[.pointer (some ⟨p,0,none⟩),.int .i64 x,.int .i64 y,.int .i64 8] w2 fun e w' => e = .returned (.tuple #[]) /\ ShAt w' B p b g lg lc rg fbs s z (Flm.block s z x y 8 g1) /\ Frm (shS p b g rg (fbs.getD (Flm.now fs) 0)) w2 w'):=fun w2 a => by
      have:=sh_block w2 B p b g lg lc rg z fbs s g1 a hs x y 8 hx hy
      rw [HNG.out] at this
      exact this
     clear HBb HAR hv hge HIH hw1
     go_enter Tryz.func104,Tryz.ntmps104
     go_wp2_with (first
      | (go_at_call 101; refine HBH.out.mono ?_; rintro e w2 ⟨rfl,h2,f2⟩; have j0:=HS0.out w2 f2; have j5:=h2.c5; rw [HGE.out] at j5; have ST2 : Hid (ShAt w2 B p b g lg lc rg fbs s z g1):=HST2.out w2 h2 f2; have FR2 : Hid (Frm (shS p b g rg (fbs.getD (Flm.now fs) 0)) w w2):=HF1.out.trans (shS_rd f2); clear h2 f2)
      | (go_at_call 130; refine (HBK.out _ ST2.out).mono ?_; rintro e w3 ⟨rfl,h3,f3⟩))
     go_end0
     rw [HARH.out]
     exact ⟨rfl,h3,FR2.out.trans f3⟩
    ·rw [if_neg hge] at HAR
     have HARH : Hid (Flm.area s z (n + 1) x y 8 fs = g1):=HAR
     have hge2 : (Rdr.bitS s fs.r 1).err ≠ 0:=by rw [<- HRG.out]; exact hge
     obtain ⟨ee,hee⟩ : ∃ ee,ee = (Rdr.bitS s fs.r 1).err:=⟨_,rfl⟩
     have he1 : (ee == 0) = false:=by rw [hee]; simpa using hge2
     have he2 : (ee != 0) = true:=by rw [hee]; simpa using hge2
     have HGE : Hid (ee = (Rdr.bitS s fs.r 1).err):=hee
     clear HBb HAR hv hge hge2 HIH hw1 hee
     go_enter Tryz.func104,Tryz.ntmps104
     go_wp2_with (go_at_call 101; refine HBH.out.mono ?_; rintro e w2 ⟨rfl,h2,f2⟩; have j0:=HS0.out w2 f2; have j5:=h2.c5; rw [<- HGE.out] at j5; have ST2 : Hid (ShAt w2 B p b g lg lc rg fbs s z g1):=HST2.out w2 h2 f2; have FR2 : Hid (Frm (shS p b g rg (fbs.getD (Flm.now fs) 0)) w w2):=HF1.out.trans (shS_rd f2); clear h2 f2)
     go_end0
     rw [HARH.out]
     exact ⟨rfl,ST2.out,FR2.out⟩
   ·rw [hv] at HBb
    rw [hv,if_pos rfl] at HAR
    have HARH : Hid (Flm.area s z (n + 1) x y 8 fs = Flm.area s z n (x + 4) (y + 4) 4 (Flm.area s z n x (y + 4) 4 (Flm.area s z n (x + 4) y 4 (Flm.area s z n x y 4 g1)))):=HAR
    have HBH : Hid (Calls Tryz.prog 101 #[.pointer (some ⟨b,0,none⟩),.int .i64 1] (((w.setCell ⟨p,4,none⟩ (.int .i64 (((fs.frs.length : Nat) : Int) - 1))).setCell ⟨p,5,none⟩ (.int .i64 (x : Int))).setCell ⟨p,6,none⟩ (.int .i64 (y : Int))) fun x w' => x = .returned (.int .i64 1) /\ RdAt w' B b g s (Rdr.bitS s fs.r 1) /\ Frm (rdS b g) w1 w'):=by
     rw [<- HW1.out]; exact HBb
    have T1 : Hid True:=trivial
    have T2 : Hid True:=trivial
    have T3 : Hid True:=trivial
    have hxe : ((x + 4 : Nat) : Int) = (x : Int) + 4:=by omega
    have hye : ((y + 4 : Nat) : Int) = (y : Int) + 4:=by omega
    have HXE : Hid (((x + 4 : Nat) : Int) = (x : Int) + 4):=hxe
    have HYE : Hid (((y + 4 : Nat) : Int) = (y : Int) + 4):=hye
    clear HBb HAR hv hw1 hxe hye
    go_enter Tryz.func104,Tryz.ntmps104
    go_wp2_with (first
     | (go_at_call 101; refine HBH.out.mono ?_; rintro e w2 ⟨rfl,h2,f2⟩; have ST2 : Hid (ShAt w2 B p b g lg lc rg fbs s z g1):=HST2.out w2 h2 f2; have FR2 : Hid (Frm (shS p b g rg (fbs.getD (Flm.now fs) 0)) w w2):=HF1.out.trans (shS_rd f2); clear h2 f2)
     | (clear T1; go_at_call 104; refine (HIH.out _ _ x y _ _ ST2.out rfl rfl (by omega) (by omega)).mono ?_; rintro e w3 ⟨rfl,h3,f3⟩; have ST3 : Hid (ShAt w3 B p b g lg lc rg fbs s z (Flm.area s z n x y 4 g1)):=h3; have FR3 : Hid (Frm (shS p b g rg (fbs.getD (Flm.now fs) 0)) w w3):=FR2.out.trans (by rw [<- HNG.out]; exact f3); have NG3 : Hid (Flm.now (Flm.area s z n x y 4 g1) = Flm.now fs):=(ST2.out.now_eq h3).trans HNG.out; clear h3 f3)
     | (clear T2; go_at_call 104; refine (HIH.out _ _ (x + 4) y _ _ ST3.out HXE.out.symm rfl (by omega) (by omega)).mono ?_; rintro e w4 ⟨rfl,h4,f4⟩; have ST4 : Hid (ShAt w4 B p b g lg lc rg fbs s z (Flm.area s z n (x + 4) y 4 (Flm.area s z n x y 4 g1))):=h4; have FR4 : Hid (Frm (shS p b g rg (fbs.getD (Flm.now fs) 0)) w w4):=FR3.out.trans (by rw [<- NG3.out]; exact f4); have NG4 : Hid (Flm.now (Flm.area s z n (x + 4) y 4 (Flm.area s z n x y 4 g1)) = Flm.now fs):=(ST3.out.now_eq h4).trans NG3.out; clear h4 f4)
     | (clear T3; go_at_call 104; refine (HIH.out _ _ x (y + 4) _ _ ST4.out rfl HYE.out.symm (by omega) (by omega)).mono ?_; rintro e w5 ⟨rfl,h5,f5⟩; have ST5 : Hid (ShAt w5 B p b g lg lc rg fbs s z (Flm.area s z n x (y + 4) 4 (Flm.area s z n (x + 4) y 4 (Flm.area s z n x y 4 g1)))):=h5; have FR5 : Hid (Frm (shS p b g rg (fbs.getD (Flm.now fs) 0)) w w5):=FR4.out.trans (by rw [<- NG4.out]; exact f5); have NG5 : Hid (Flm.now (Flm.area s z n x (y + 4) 4 (Flm.area s z n (x + 4) y 4 (Flm.area s z n x y 4 g1))) = Flm.now fs):=(ST4.out.now_eq h5).trans NG4.out; clear h5 f5)
     | (go_at_call 104; refine (HIH.out _ _ (x + 4) (y + 4) _ _ ST5.out HXE.out.symm HYE.out.symm (by omega) (by omega)).mono ?_; rintro e w6 ⟨rfl,h6,f6⟩))
    go_returns
    rw [HARH.out]
    exact ⟨rfl,h6,FR5.out.trans (by rw [<- NG5.out]; exact f6)⟩
  ·
   rcases Rdr.bitV_cases fs.r 0 with hv | hv
   ·rw [hv] at HBb
    rw [hv,if_neg (by decide)] at HAR
    have HBH : Hid (Calls Tryz.prog 101 #[.pointer (some ⟨b,0,none⟩),.int .i64 0] (((w.setCell ⟨p,4,none⟩ (.int .i64 (((fs.frs.length : Nat) : Int) - 1))).setCell ⟨p,5,none⟩ (.int .i64 (x : Int))).setCell ⟨p,6,none⟩ (.int .i64 (y : Int))) fun x w' => x = .returned (.int .i64 0) /\ RdAt w' B b g s (Rdr.bitS s fs.r 0) /\ Frm (rdS b g) w1 w'):=by
     rw [<- HW1.out]; exact HBb
    by_cases hge : g1.r.err = 0
    ·rw [if_pos hge] at HAR
     have HARH : Hid (Flm.area s z (n + 1) x y 16 fs = Flm.block s z x y 16 g1):=HAR
     have HGE : Hid ((Rdr.bitS s fs.r 0).err = 0):=by rw [<- HRG.out]; exact hge
     have HBK : Hid (∀ w2,ShAt w2 B p b g lg lc rg fbs s z g1 -> Calls Tryz.prog 130 #[.pointer (some ⟨p,0,none⟩),.int .i64 x,.int .i64 y,.int .i64 16] w2 fun e w' => e = .returned (.tuple #[]) /\ ShAt w' B p b g lg lc rg fbs s z (Flm.block s z x y 16 g1) /\ Frm (shS p b g rg (fbs.getD (Flm.now fs) 0)) w2 w'):=fun w2 a => by
      have:=sh_block w2 B p b g lg lc rg z fbs s g1 a hs x y 16 hx hy
      rw [HNG.out] at this
      exact this
     clear HBb HAR hv hge HIH hw1
     go_enter Tryz.func104,Tryz.ntmps104
     go_wp2_with (first
      | (go_at_call 101; refine HBH.out.mono ?_; rintro e w2 ⟨rfl,h2,f2⟩; have j0:=HS0.out w2 f2; have j5:=h2.c5; rw [HGE.out] at j5; have ST2 : Hid (ShAt w2 B p b g lg lc rg fbs s z g1):=HST2.out w2 h2 f2; have FR2 : Hid (Frm (shS p b g rg (fbs.getD (Flm.now fs) 0)) w w2):=HF1.out.trans (shS_rd f2); clear h2 f2)
      | (go_at_call 130; refine (HBK.out _ ST2.out).mono ?_; rintro e w3 ⟨rfl,h3,f3⟩))
     go_end0
     rw [HARH.out]
     exact ⟨rfl,h3,FR2.out.trans f3⟩
    ·rw [if_neg hge] at HAR
     have HARH : Hid (Flm.area s z (n + 1) x y 16 fs = g1):=HAR
     have hge2 : (Rdr.bitS s fs.r 0).err ≠ 0:=by rw [<- HRG.out]; exact hge
     obtain ⟨ee,hee⟩ : ∃ ee,ee = (Rdr.bitS s fs.r 0).err:=⟨_,rfl⟩
     have he1 : (ee == 0) = false:=by rw [hee]; simpa using hge2
     have he2 : (ee != 0) = true:=by rw [hee]; simpa using hge2
     have HGE : Hid (ee = (Rdr.bitS s fs.r 0).err):=hee
     clear HBb HAR hv hge hge2 HIH hw1 hee
     go_enter Tryz.func104,Tryz.ntmps104
     go_wp2_with (go_at_call 101; refine HBH.out.mono ?_; rintro e w2 ⟨rfl,h2,f2⟩; have j0:=HS0.out w2 f2; have j5:=h2.c5; rw [<- HGE.out] at j5; have ST2 : Hid (ShAt w2 B p b g lg lc rg fbs s z g1):=HST2.out w2 h2 f2; have FR2 : Hid (Frm (shS p b g rg (fbs.getD (Flm.now fs) 0)) w w2):=HF1.out.trans (shS_rd f2); clear h2 f2)
     go_end0
     rw [HARH.out]
     exact ⟨rfl,ST2.out,FR2.out⟩
   ·rw [hv] at HBb
    rw [hv,if_pos rfl] at HAR
    have HARH : Hid (Flm.area s z (n + 1) x y 16 fs = Flm.area s z n (x + 8) (y + 8) 8 (Flm.area s z n x (y + 8) 8 (Flm.area s z n (x + 8) y 8 (Flm.area s z n x y 8 g1)))):=HAR
    have HBH : Hid (Calls Tryz.prog 101 #[.pointer (some ⟨b,0,none⟩),.int .i64 0] (((w.setCell ⟨p,4,none⟩ (.int .i64 (((fs.frs.length : Nat) : Int) - 1))).setCell ⟨p,5,none⟩ (.int .i64 (x : Int))).setCell ⟨p,6,none⟩ (.int .i64 (y : Int))) fun x w' => x = .returned (.int .i64 1) /\ RdAt w' B b g s (Rdr.bitS s fs.r 0) /\ Frm (rdS b g) w1 w'):=by
     rw [<- HW1.out]; exact HBb
    have T1 : Hid True:=trivial
    have T2 : Hid True:=trivial
    have T3 : Hid True:=trivial
    have hxe : ((x + 8 : Nat) : Int) = (x : Int) + 8:=by omega
    have hye : ((y + 8 : Nat) : Int) = (y : Int) + 8:=by omega
    have HXE : Hid (((x + 8 : Nat) : Int) = (x : Int) + 8):=hxe
    have HYE : Hid (((y + 8 : Nat) : Int) = (y : Int) + 8):=hye
    clear HBb HAR hv hw1 hxe hye
    go_enter Tryz.func104,Tryz.ntmps104
    go_wp2_with (first
     | (go_at_call 101; refine HBH.out.mono ?_; rintro e w2 ⟨rfl,h2,f2⟩; have ST2 : Hid (ShAt w2 B p b g lg lc rg fbs s z g1):=HST2.out w2 h2 f2; have FR2 : Hid (Frm (shS p b g rg (fbs.getD (Flm.now fs) 0)) w w2):=HF1.out.trans (shS_rd f2); clear h2 f2)
     | (clear T1; go_at_call 104; refine (HIH.out _ _ x y _ _ ST2.out rfl rfl (by omega) (by omega)).mono ?_; rintro e w3 ⟨rfl,h3,f3⟩; have ST3 : Hid (ShAt w3 B p b g lg lc rg fbs s z (Flm.area s z n x y 8 g1)):=h3; have FR3 : Hid (Frm (shS p b g rg (fbs.getD (Flm.now fs) 0)) w w3):=FR2.out.trans (by rw [<- HNG.out]; exact f3); have NG3 : Hid (Flm.now (Flm.area s z n x y 8 g1) = Flm.now fs):=(ST2.out.now_eq h3).trans HNG.out; clear h3 f3)
     | (clear T2; go_at_call 104; refine (HIH.out _ _ (x + 8) y _ _ ST3.out HXE.out.symm rfl (by omega) (by omega)).mono ?_; rintro e w4 ⟨rfl,h4,f4⟩; have ST4 : Hid (ShAt w4 B p b g lg lc rg fbs s z (Flm.area s z n (x + 8) y 8 (Flm.area s z n x y 8 g1))):=h4; have FR4 : Hid (Frm (shS p b g rg (fbs.getD (Flm.now fs) 0)) w w4):=FR3.out.trans (by rw [<- NG3.out]; exact f4); have NG4 : Hid (Flm.now (Flm.area s z n (x + 8) y 8 (Flm.area s z n x y 8 g1)) = Flm.now fs):=(ST3.out.now_eq h4).trans NG3.out; clear h4 f4)
     | (clear T3; go_at_call 104; refine (HIH.out _ _ x (y + 8) _ _ ST4.out rfl HYE.out.symm (by omega) (by omega)).mono ?_; rintro e w5 ⟨rfl,h5,f5⟩; have ST5 : Hid (ShAt w5 B p b g lg lc rg fbs s z (Flm.area s z n x (y + 8) 8 (Flm.area s z n (x + 8) y 8 (Flm.area s z n x y 8 g1)))):=h5; have FR5 : Hid (Frm (shS p b g rg (fbs.getD (Flm.now fs) 0)) w w5):=FR4.out.trans (by rw [<- NG4.out]; exact f5); have NG5 : Hid (Flm.now (Flm.area s z n x (y + 8) 8 (Flm.area s z n (x + 8) y 8 (Flm.area s z n x y 8 g1))) = Flm.now fs):=(ST4.out.now_eq h5).trans NG4.out; clear h5 f5)
     | (go_at_call 104; refine (HIH.out _ _ (x + 8) (y + 8) _ _ ST5.out HXE.out.symm HYE.out.symm (by omega) (by omega)).mono ?_; rintro e w6 ⟨rfl,h6,f6⟩))
    go_returns
    rw [HARH.out]
    exact ⟨rfl,h6,FR5.out.trans (by rw [<- NG5.out]; exact f6)⟩
 ·refine (sh_area_off w B p b g lg lc rg z fbs s fs h X Y _ he).mono ?_
  rintro e w1 ⟨rfl,rfl⟩
  rw [Flm.area_err he]
  exact ⟨rfl,h,Frm.refl _ _⟩
end Go.Proofs.YtekfbphnoibnjaaGreatDoor
namespace Go.Proofs.YtekfbphnoibnjaaGreatDoor
open Go.RowKit
open Flm (Px FS)
def HeadOk (s : ByteArray) : Prop:=4 <= s.size /\ Rdr.byteAt s 0 = 70 /\ Rdr.byteAt s 1 = 66 /\ (Rdr.byteAt s 2 = 4 \/ Rdr.byteAt s 2 = 8 \/ Rdr.byteAt s 2 = 16) /\ Rdr.byteAt s 3 <= 8
def noFilm (e : Int) : Value:=.tuple #[.agg #[.int .i64 0,.slice none 0 0],.agg #[.int .i64 0,.int .i64 0,.int .i64 0],.int .i64 e]
theorem below4 (w : World) (a b c d : Obj) : Below w.heap.size w ((((w.alloc a).alloc b).alloc c).alloc d).drew :=
 ((((((Below.refl _ w).alloc (Nat.le_refl _) _).alloc (by simp) _).alloc (by simp; omega) _).alloc (by simp; omega) _)).trans ⟨rfl,rfl,rfl,Nat.le_refl _,fun _ _ => rfl⟩
set_option maxHeartbeats 1000000 in
set_option maxRecDepth 20000 in
theorem dec_long (w : World) (s : ByteArray) (hs : 120000 < s.size) :
  Calls Tryz.prog 68 #[.string s] w fun x w' => x = .returned (noFilm 1) /\ Below w.heap.size w w':=by
 have hs' : (120000 : Int) < (s.size : Int):=by omega
 go_enter Tryz.func68,Tryz.ntmps68
 go_wp2
 go_region
 go_wp2
 refine bodyPost_ret (v:=noFilm 1) ?_ rfl ⟨rfl,below4 w _ _ _ _⟩
 simp [results,Tryz.results68,go_sem,noFilm]
set_option maxHeartbeats 1000000 in
set_option maxRecDepth 20000 in
theorem dec_h0 (w : World) (s : ByteArray) (hs : s.size <= 120000) (h4 : s.size < 4) :
  Calls Tryz.prog 68 #[.string s] w fun x w' => x = .returned (noFilm 4) /\ Below w.heap.size w w':=by
 have hs' : (s.size : Int) <= 120000:=by omega
 have h4' : (s.size : Int) < 4:=by omega
 go_enter Tryz.func68,Tryz.ntmps68
 go_wp2
 go_region
 go_wp2
 refine bodyPost_ret (v:=noFilm 4) ?_ rfl ⟨rfl,below4 w _ _ _ _⟩
 simp [results,Tryz.results68,go_sem,noFilm]
set_option maxHeartbeats 1000000 in
set_option maxRecDepth 20000 in
theorem dec_h1 (w : World) (s : ByteArray) (hs : s.size <= 120000) (h4 : 4 <= s.size) (h0 : ((s[0]'(by omega)).toNat : Int) ≠ 70) :
  Calls Tryz.prog 68 #[.string s] w fun x w' => x = .returned (noFilm 4) /\ Below w.heap.size w w':=by
 have hs' : (s.size : Int) <= 120000:=by omega
 have h4' : (4 : Int) <= (s.size : Int):=by omega
 have h0' : (((s[0]'(by omega)).toNat : Int) == 70) = false:=by simpa using h0
 go_enter Tryz.func68,Tryz.ntmps68
 go_wp2
 go_region
 go_wp2
 refine bodyPost_ret (v:=noFilm 4) ?_ rfl ⟨rfl,below4 w _ _ _ _⟩
 simp [results,Tryz.results68,go_sem,noFilm]
set_option maxHeartbeats 1000000 in
set_option maxRecDepth 20000 in
theorem dec_h2 (w : World) (s : ByteArray) (hs : s.size <= 120000) (h4 : 4 <= s.size) (h0 : ((s[0]'(by omega)).toNat : Int) = 70) (h1 : ((s[1]'(by omega)).toNat : Int) ≠ 66) :
  Calls Tryz.prog 68 #[.string s] w fun x w' => x = .returned (noFilm 4) /\ Below w.heap.size w w':=by
 have hs' : (s.size : Int) <= 120000:=by omega
 have h4' : (4 : Int) <= (s.size : Int):=by omega
 have h1' : (((s[1]'(by omega)).toNat : Int) == 66) = false:=by simpa using h1
 go_enter Tryz.func68,Tryz.ntmps68
 go_wp2
 go_region
 go_wp2
 refine bodyPost_ret (v:=noFilm 4) ?_ rfl ⟨rfl,below4 w _ _ _ _⟩
 simp [results,Tryz.results68,go_sem,noFilm]
set_option maxHeartbeats 1000000 in
set_option maxRecDepth 20000 in
theorem dec_h3 (w : World) (s : ByteArray) (hs : s.size <= 120000) (h4 : 4 <= s.size) (h0 : ((s[0]'(by omega)).toNat : Int) = 70) (h1 : ((s[1]'(by omega)).toNat : Int) = 66) (h2 : ((s[2]'(by omega)).toNat : Int) ≠ 4) (h28 : ((s[2]'(by omega)).toNat : Int) ≠ 8) (h216 : ((s[2]'(by omega)).toNat : Int) ≠ 16) :
  Calls Tryz.prog 68 #[.string s] w fun x w' => x = .returned (noFilm 4) /\ Below w.heap.size w w':=by
 have hs' : (s.size : Int) <= 120000:=by omega
 have h4' : (4 : Int) <= (s.size : Int):=by omega
 have h2' : (((s[2]'(by omega)).toNat : Int) == 4) = false:=by simpa using h2
 have h28' : (((s[2]'(by omega)).toNat : Int) == 8) = false:=by simpa using h28
 have h216' : (((s[2]'(by omega)).toNat : Int) == 16) = false:=by simpa using h216
 go_enter Tryz.func68,Tryz.ntmps68
 go_wp2
 go_region
 go_wp2
 refine bodyPost_ret (v:=noFilm 4) ?_ rfl ⟨rfl,below4 w _ _ _ _⟩
 simp [results,Tryz.results68,go_sem,noFilm]
set_option maxHeartbeats 1000000 in
set_option maxRecDepth 20000 in
theorem dec_h4_4 (w : World) (s : ByteArray) (hs : s.size <= 120000) (h4 : 4 <= s.size) (h0 : ((s[0]'(by omega)).toNat : Int) = 70) (h1 : ((s[1]'(by omega)).toNat : Int) = 66) (h2 : ((s[2]'(by omega)).toNat : Int) = 4) (h3 : 8 < ((s[3]'(by omega)).toNat : Int)) :
  Calls Tryz.prog 68 #[.string s] w fun x w' => x = .returned (noFilm 4) /\ Below w.heap.size w w':=by
 have hs' : (s.size : Int) <= 120000:=by omega
 have h4' : (4 : Int) <= (s.size : Int):=by omega
 go_enter Tryz.func68,Tryz.ntmps68
 go_wp2
 go_region
 go_wp2
 refine bodyPost_ret (v:=noFilm 4) ?_ rfl ⟨rfl,below4 w _ _ _ _⟩
 simp [results,Tryz.results68,go_sem,noFilm]
set_option maxHeartbeats 1000000 in
set_option maxRecDepth 20000 in
theorem dec_h4_8 (w : World) (s : ByteArray) (hs : s.size <= 120000) (h4 : 4 <= s.size) (h0 : ((s[0]'(by omega)).toNat : Int) = 70) (h1 : ((s[1]'(by omega)).toNat : Int) = 66) (h2 : ((s[2]'(by omega)).toNat : Int) = 8) (h3 : 8 < ((s[3]'(by omega)).toNat : Int)) :
  Calls Tryz.prog 68 #[.string s] w fun x w' => x = .returned (noFilm 4) /\ Below w.heap.size w w':=by
 have hs' : (s.size : Int) <= 120000:=by omega
 have h4' : (4 : Int) <= (s.size : Int):=by omega
 go_enter Tryz.func68,Tryz.ntmps68
 go_wp2
 go_region
 go_wp2
 refine bodyPost_ret (v:=noFilm 4) ?_ rfl ⟨rfl,below4 w _ _ _ _⟩
 simp [results,Tryz.results68,go_sem,noFilm]
set_option maxHeartbeats 1000000 in
set_option maxRecDepth 20000 in
theorem dec_h4_16 (w : World) (s : ByteArray) (hs : s.size <= 120000) (h4 : 4 <= s.size) (h0 : ((s[0]'(by omega)).toNat : Int) = 70) (h1 : ((s[1]'(by omega)).toNat : Int) = 66) (h2 : ((s[2]'(by omega)).toNat : Int) = 16) (h3 : 8 < ((s[3]'(by omega)).toNat : Int)) :
  Calls Tryz.prog 68 #[.string s] w fun x w' => x = .returned (noFilm 4) /\ Below w.heap.size w w':=by
 have hs' : (s.size : Int) <= 120000:=by omega
 have h4' : (4 : Int) <= (s.size : Int):=by omega
 go_enter Tryz.func68,Tryz.ntmps68
 go_wp2
 go_region
 go_wp2
 refine bodyPost_ret (v:=noFilm 4) ?_ rfl ⟨rfl,below4 w _ _ _ _⟩
 simp [results,Tryz.results68,go_sem,noFilm]
theorem dec_head (w : World) (s : ByteArray) (hs : s.size <= 120000) (hn : ¬ HeadOk s) :
  Calls Tryz.prog 68 #[.string s] w fun x w' => x = .returned (noFilm 4) /\ Below w.heap.size w w':=by
 by_cases h4 : 4 <= s.size
 ·have b0:=byteAt_get s 0 (by omega)
  have b1:=byteAt_get s 1 (by omega)
  have b2:=byteAt_get s 2 (by omega)
  have b3:=byteAt_get s 3 (by omega)
  by_cases h0 : ((s[0]'(by omega)).toNat : Int) = 70
  ·by_cases h1 : ((s[1]'(by omega)).toNat : Int) = 66
   ·by_cases h2 : ((s[2]'(by omega)).toNat : Int) = 4
    ·exact dec_h4_4 w s hs h4 h0 h1 h2 (by
      rcases Int.lt_or_le 8 ((s[3]'(by omega)).toNat : Int) with h | h
      ·exact h
      ·exact absurd ⟨h4,b0.trans h0,b1.trans h1,.inl (b2.trans h2),by rw [b3]; exact h⟩ hn)
    ·by_cases h28 : ((s[2]'(by omega)).toNat : Int) = 8
     ·exact dec_h4_8 w s hs h4 h0 h1 h28 (by
       rcases Int.lt_or_le 8 ((s[3]'(by omega)).toNat : Int) with h | h
       ·exact h
       ·exact absurd ⟨h4,b0.trans h0,b1.trans h1,.inr (.inl (b2.trans h28)),by rw [b3]; exact h⟩ hn)
     ·by_cases h216 : ((s[2]'(by omega)).toNat : Int) = 16
      ·exact dec_h4_16 w s hs h4 h0 h1 h216 (by
        rcases Int.lt_or_le 8 ((s[3]'(by omega)).toNat : Int) with h | h
        ·exact h
        ·exact absurd ⟨h4,b0.trans h0,b1.trans h1,.inr (.inr (b2.trans h216)),by rw [b3]; exact h⟩ hn)
      ·exact dec_h3 w s hs h4 h0 h1 h2 h28 h216
   ·exact dec_h2 w s hs h4 h0 h1
  ·exact dec_h1 w s hs h4 h0
 ·exact dec_h0 w s hs (by omega)
end Go.Proofs.YtekfbphnoibnjaaGreatDoor
