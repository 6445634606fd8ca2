/-
  PErrF
-/
import Derived.Test.YtekfbphnoibnjaaGreatDoorF33
set_option maxHeartbeats 4000000
namespace Go.Proofs.YtekfbphnoibnjaaGreatDoor
section
open Go.RowKit
theorem is_flt {w:World} {A:Nat->Addr} (E:ErrsA w A) (f x y:Int) (k j:Nat × Nat) (hk:k ∈ sntG) (hj:j ∈ sntG) (b:Bool) (hb:b=decide (k.1=j.1)) :
  Calls Tryz.prog 49 #[.iface 113 (.agg #[.int .i64 f,.int .i64 x,.int .i64 y,.iface 278 (.pointer (some (A k.1)))]),.iface 278 (.pointer (some (A j.1)))] w fun e w'=>e=.returned (.bool b)/\Below w.heap.size w w':=by
 subst hb
 by_cases h:k.1=j.1
 ·rw [decide_eq_true h,<- h]
  exact is_flt_same (A k.1) f x y w
 ·rw [decide_eq_false h]
  obtain ⟨c,t,hc⟩:=E.h k hk
  obtain ⟨c',t',hc'⟩:=E.h j hj
  exact is_flt_other _ _ c c' t t' f x y w (E.n k hk j hj h) hc hc'
theorem pErrnoF4 (w:World) (A:Nat->Addr) (E:ErrsA w A) (f x y:Int) :
  Calls Tryz.prog 23 #[.iface 113 (.agg #[.int .i64 f,.int .i64 x,.int .i64 y,.iface 278 (.pointer (some (A 4)))])] w fun e w'=>e=.returned (.int .i64 4)/\Below w.heap.size w w':=by
 obtain ⟨fv,hfv⟩:∃ fv:Value,fv=.agg #[.int .i64 f,.int .i64 x,.int .i64 y,.iface 278 (.pointer (some (A 4)))]:=⟨_,rfl⟩
 rw [<- hfv]
 have H0:Hid (∀ wx,Below w.heap.size w wx->wx.cell? ⟨0,0,none⟩=some (.iface 278 (.pointer (some (A 4))))/\Calls Tryz.prog 49 #[.iface 113 fv,.iface 278 (.pointer (some (A 4)))] wx fun e w'=>e=.returned (.bool true)/\Below wx.heap.size wx w'):=fun wx hb=>by
  have e:=E.below hb
  refine ⟨e.v (4,0) (by decide),?_⟩
  rw [hfv]
  exact is_flt e f x y (4,0) (4,0) (by decide) (by decide) _ (by decide)
 obtain ⟨v0,c0⟩:=H0.out w (Below.refl _ w)
 have C0:Hid (_/\True):=⟨c0,trivial⟩
 have T0:Hid True:=trivial
 clear c0 hfv E
 go_enter Tryz.func23,Tryz.ntmps23
 go_wp2_with (first
  | (clear T0;go_at_call 49;refine C0.out.1.mono ?_;rintro e w1 ⟨rfl,b1⟩;have hb1:Below w.heap.size w w1:=b1))
 go_ret
 exact ⟨rfl,hb1⟩
theorem pErrnoF5 (w:World) (A:Nat->Addr) (E:ErrsA w A) (f x y:Int) :
  Calls Tryz.prog 23 #[.iface 113 (.agg #[.int .i64 f,.int .i64 x,.int .i64 y,.iface 278 (.pointer (some (A 5)))])] w fun e w'=>e=.returned (.int .i64 5)/\Below w.heap.size w w':=by
 obtain ⟨fv,hfv⟩:∃ fv:Value,fv=.agg #[.int .i64 f,.int .i64 x,.int .i64 y,.iface 278 (.pointer (some (A 5)))]:=⟨_,rfl⟩
 rw [<- hfv]
 have H0:Hid (∀ wx,Below w.heap.size w wx->wx.cell? ⟨0,0,none⟩=some (.iface 278 (.pointer (some (A 4))))/\Calls Tryz.prog 49 #[.iface 113 fv,.iface 278 (.pointer (some (A 4)))] wx fun e w'=>e=.returned (.bool false)/\Below wx.heap.size wx w'):=fun wx hb=>by
  have e:=E.below hb
  refine ⟨e.v (4,0) (by decide),?_⟩
  rw [hfv]
  exact is_flt e f x y (5,1) (4,0) (by decide) (by decide) _ (by decide)
 have H1:Hid (∀ wx,Below w.heap.size w wx->wx.cell? ⟨1,0,none⟩=some (.iface 278 (.pointer (some (A 5))))/\Calls Tryz.prog 49 #[.iface 113 fv,.iface 278 (.pointer (some (A 5)))] wx fun e w'=>e=.returned (.bool true)/\Below wx.heap.size wx w'):=fun wx hb=>by
  have e:=E.below hb
  refine ⟨e.v (5,1) (by decide),?_⟩
  rw [hfv]
  exact is_flt e f x y (5,1) (5,1) (by decide) (by decide) _ (by decide)
 obtain ⟨v0,c0⟩:=H0.out w (Below.refl _ w)
 have C0:Hid (_/\True):=⟨c0,trivial⟩
 have T0:Hid True:=trivial
 have T1:Hid True:=trivial
 clear c0 hfv E
 go_enter Tryz.func23,Tryz.ntmps23
 go_wp2_with (first
  | (clear T0;go_at_call 49;refine C0.out.1.mono ?_;rintro e w1 ⟨rfl,b1⟩;have hb1:Below w.heap.size w w1:=b1;obtain ⟨v1,c1⟩:=H1.out w1 hb1;have C1:Hid (_/\True):=⟨c1,trivial⟩;clear c1)
  | (clear T1;go_at_call 49;refine C1.out.1.mono ?_;rintro e w2 ⟨rfl,b2⟩;have hb2:Below w.heap.size w w2:=hb1.trans (b2.mono hb1.size)))
 go_ret
 exact ⟨rfl,hb2⟩
theorem pErrnoF10 (w:World) (A:Nat->Addr) (E:ErrsA w A) (f x y:Int) :
  Calls Tryz.prog 23 #[.iface 113 (.agg #[.int .i64 f,.int .i64 x,.int .i64 y,.iface 278 (.pointer (some (A 10)))])] w fun e w'=>e=.returned (.int .i64 10)/\Below w.heap.size w w':=by
 obtain ⟨fv,hfv⟩:∃ fv:Value,fv=.agg #[.int .i64 f,.int .i64 x,.int .i64 y,.iface 278 (.pointer (some (A 10)))]:=⟨_,rfl⟩
 rw [<- hfv]
 have H0:Hid (∀ wx,Below w.heap.size w wx->wx.cell? ⟨0,0,none⟩=some (.iface 278 (.pointer (some (A 4))))/\Calls Tryz.prog 49 #[.iface 113 fv,.iface 278 (.pointer (some (A 4)))] wx fun e w'=>e=.returned (.bool false)/\Below wx.heap.size wx w'):=fun wx hb=>by
  have e:=E.below hb
  refine ⟨e.v (4,0) (by decide),?_⟩
  rw [hfv]
  exact is_flt e f x y (10,2) (4,0) (by decide) (by decide) _ (by decide)
 have H1:Hid (∀ wx,Below w.heap.size w wx->wx.cell? ⟨1,0,none⟩=some (.iface 278 (.pointer (some (A 5))))/\Calls Tryz.prog 49 #[.iface 113 fv,.iface 278 (.pointer (some (A 5)))] wx fun e w'=>e=.returned (.bool false)/\Below wx.heap.size wx w'):=fun wx hb=>by
  have e:=E.below hb
  refine ⟨e.v (5,1) (by decide),?_⟩
  rw [hfv]
  exact is_flt e f x y (10,2) (5,1) (by decide) (by decide) _ (by decide)
 have H2:Hid (∀ wx,Below w.heap.size w wx->wx.cell? ⟨2,0,none⟩=some (.iface 278 (.pointer (some (A 10))))/\Calls Tryz.prog 49 #[.iface 113 fv,.iface 278 (.pointer (some (A 10)))] wx fun e w'=>e=.returned (.bool true)/\Below wx.heap.size wx w'):=fun wx hb=>by
  have e:=E.below hb
  refine ⟨e.v (10,2) (by decide),?_⟩
  rw [hfv]
  exact is_flt e f x y (10,2) (10,2) (by decide) (by decide) _ (by decide)
 obtain ⟨v0,c0⟩:=H0.out w (Below.refl _ w)
 have C0:Hid (_/\True):=⟨c0,trivial⟩
 have T0:Hid True:=trivial
 have T1:Hid True:=trivial
 have T2:Hid True:=trivial
 clear c0 hfv E
 go_enter Tryz.func23,Tryz.ntmps23
 go_wp2_with (first
  | (clear T0;go_at_call 49;refine C0.out.1.mono ?_;rintro e w1 ⟨rfl,b1⟩;have hb1:Below w.heap.size w w1:=b1;obtain ⟨v1,c1⟩:=H1.out w1 hb1;have C1:Hid (_/\True):=⟨c1,trivial⟩;clear c1)
  | (clear T1;go_at_call 49;refine C1.out.1.mono ?_;rintro e w2 ⟨rfl,b2⟩;have hb2:Below w.heap.size w w2:=hb1.trans (b2.mono hb1.size);obtain ⟨v2,c2⟩:=H2.out w2 hb2;have C2:Hid (_/\True):=⟨c2,trivial⟩;clear c2)
  | (clear T2;go_at_call 49;refine C2.out.1.mono ?_;rintro e w3 ⟨rfl,b3⟩;have hb3:Below w.heap.size w w3:=hb2.trans (b3.mono hb2.size)))
 go_ret
 exact ⟨rfl,hb3⟩
theorem pErrnoF8 (w:World) (A:Nat->Addr) (E:ErrsA w A) (f x y:Int) :
  Calls Tryz.prog 23 #[.iface 113 (.agg #[.int .i64 f,.int .i64 x,.int .i64 y,.iface 278 (.pointer (some (A 8)))])] w fun e w'=>e=.returned (.int .i64 8)/\Below w.heap.size w w':=by
 obtain ⟨fv,hfv⟩:∃ fv:Value,fv=.agg #[.int .i64 f,.int .i64 x,.int .i64 y,.iface 278 (.pointer (some (A 8)))]:=⟨_,rfl⟩
 rw [<- hfv]
 have H0:Hid (∀ wx,Below w.heap.size w wx->wx.cell? ⟨0,0,none⟩=some (.iface 278 (.pointer (some (A 4))))/\Calls Tryz.prog 49 #[.iface 113 fv,.iface 278 (.pointer (some (A 4)))] wx fun e w'=>e=.returned (.bool false)/\Below wx.heap.size wx w'):=fun wx hb=>by
  have e:=E.below hb
  refine ⟨e.v (4,0) (by decide),?_⟩
  rw [hfv]
  exact is_flt e f x y (8,3) (4,0) (by decide) (by decide) _ (by decide)
 have H1:Hid (∀ wx,Below w.heap.size w wx->wx.cell? ⟨1,0,none⟩=some (.iface 278 (.pointer (some (A 5))))/\Calls Tryz.prog 49 #[.iface 113 fv,.iface 278 (.pointer (some (A 5)))] wx fun e w'=>e=.returned (.bool false)/\Below wx.heap.size wx w'):=fun wx hb=>by
  have e:=E.below hb
  refine ⟨e.v (5,1) (by decide),?_⟩
  rw [hfv]
  exact is_flt e f x y (8,3) (5,1) (by decide) (by decide) _ (by decide)
 have H2:Hid (∀ wx,Below w.heap.size w wx->wx.cell? ⟨2,0,none⟩=some (.iface 278 (.pointer (some (A 10))))/\Calls Tryz.prog 49 #[.iface 113 fv,.iface 278 (.pointer (some (A 10)))] wx fun e w'=>e=.returned (.bool false)/\Below wx.heap.size wx w'):=fun wx hb=>by
  have e:=E.below hb
  refine ⟨e.v (10,2) (by decide),?_⟩
  rw [hfv]
  exact is_flt e f x y (8,3) (10,2) (by decide) (by decide) _ (by decide)
 have H3:Hid (∀ wx,Below w.heap.size w wx->wx.cell? ⟨3,0,none⟩=some (.iface 278 (.pointer (some (A 8))))/\Calls Tryz.prog 49 #[.iface 113 fv,.iface 278 (.pointer (some (A 8)))] wx fun e w'=>e=.returned (.bool true)/\Below wx.heap.size wx w'):=fun wx hb=>by
  have e:=E.below hb
  refine ⟨e.v (8,3) (by decide),?_⟩
  rw [hfv]
  exact is_flt e f x y (8,3) (8,3) (by decide) (by decide) _ (by decide)
 obtain ⟨v0,c0⟩:=H0.out w (Below.refl _ w)
 have C0:Hid (_/\True):=⟨c0,trivial⟩
 have T0:Hid True:=trivial
 have T1:Hid True:=trivial
 have T2:Hid True:=trivial
 have T3:Hid True:=trivial
 clear c0 hfv E
 go_enter Tryz.func23,Tryz.ntmps23
 go_wp2_with (first
  | (clear T0;go_at_call 49;refine C0.out.1.mono ?_;rintro e w1 ⟨rfl,b1⟩;have hb1:Below w.heap.size w w1:=b1;obtain ⟨v1,c1⟩:=H1.out w1 hb1;have C1:Hid (_/\True):=⟨c1,trivial⟩;clear c1)
  | (clear T1;go_at_call 49;refine C1.out.1.mono ?_;rintro e w2 ⟨rfl,b2⟩;have hb2:Below w.heap.size w w2:=hb1.trans (b2.mono hb1.size);obtain ⟨v2,c2⟩:=H2.out w2 hb2;have C2:Hid (_/\True):=⟨c2,trivial⟩;clear c2)
  | (clear T2;go_at_call 49;refine C2.out.1.mono ?_;rintro e w3 ⟨rfl,b3⟩;have hb3:Below w.heap.size w w3:=hb2.trans (b3.mono hb2.size);obtain ⟨v3,c3⟩:=H3.out w3 hb3;have C3:Hid (_/\True):=⟨c3,trivial⟩;clear c3)
  | (clear T3;go_at_call 49;refine C3.out.1.mono ?_;rintro e w4 ⟨rfl,b4⟩;have hb4:Below w.heap.size w w4:=hb3.trans (b4.mono hb3.size)))
 go_ret
 exact ⟨rfl,hb4⟩
theorem pErrnoF9 (w:World) (A:Nat->Addr) (E:ErrsA w A) (f x y:Int) :
  Calls Tryz.prog 23 #[.iface 113 (.agg #[.int .i64 f,.int .i64 x,.int .i64 y,.iface 278 (.pointer (some (A 9)))])] w fun e w'=>e=.returned (.int .i64 9)/\Below w.heap.size w w':=by
 obtain ⟨fv,hfv⟩:∃ fv:Value,fv=.agg #[.int .i64 f,.int .i64 x,.int .i64 y,.iface 278 (.pointer (some (A 9)))]:=⟨_,rfl⟩
 rw [<- hfv]
 have H0:Hid (∀ wx,Below w.heap.size w wx->wx.cell? ⟨0,0,none⟩=some (.iface 278 (.pointer (some (A 4))))/\Calls Tryz.prog 49 #[.iface 113 fv,.iface 278 (.pointer (some (A 4)))] wx fun e w'=>e=.returned (.bool false)/\Below wx.heap.size wx w'):=fun wx hb=>by
  have e:=E.below hb
  refine ⟨e.v (4,0) (by decide),?_⟩
  rw [hfv]
  exact is_flt e f x y (9,4) (4,0) (by decide) (by decide) _ (by decide)
 have H1:Hid (∀ wx,Below w.heap.size w wx->wx.cell? ⟨1,0,none⟩=some (.iface 278 (.pointer (some (A 5))))/\Calls Tryz.prog 49 #[.iface 113 fv,.iface 278 (.pointer (some (A 5)))] wx fun e w'=>e=.returned (.bool false)/\Below wx.heap.size wx w'):=fun wx hb=>by
  have e:=E.below hb
  refine ⟨e.v (5,1) (by decide),?_⟩
  rw [hfv]
  exact is_flt e f x y (9,4) (5,1) (by decide) (by decide) _ (by decide)
 have H2:Hid (∀ wx,Below w.heap.size w wx->wx.cell? ⟨2,0,none⟩=some (.iface 278 (.pointer (some (A 10))))/\Calls Tryz.prog 49 #[.iface 113 fv,.iface 278 (.pointer (some (A 10)))] wx fun e w'=>e=.returned (.bool false)/\Below wx.heap.size wx w'):=fun wx hb=>by
  have e:=E.below hb
  refine ⟨e.v (10,2) (by decide),?_⟩
  rw [hfv]
  exact is_flt e f x y (9,4) (10,2) (by decide) (by decide) _ (by decide)
 have H3:Hid (∀ wx,Below w.heap.size w wx->wx.cell? ⟨3,0,none⟩=some (.iface 278 (.pointer (some (A 8))))/\Calls Tryz.prog 49 #[.iface 113 fv,.iface 278 (.pointer (some (A 8)))] wx fun e w'=>e=.returned (.bool false)/\Below wx.heap.size wx w'):=fun wx hb=>by
  have e:=E.below hb
  refine ⟨e.v (8,3) (by decide),?_⟩
  rw [hfv]
  exact is_flt e f x y (9,4) (8,3) (by decide) (by decide) _ (by decide)
 have H4:Hid (∀ wx,Below w.heap.size w wx->wx.cell? ⟨4,0,none⟩=some (.iface 278 (.pointer (some (A 9))))/\Calls Tryz.prog 49 #[.iface 113 fv,.iface 278 (.pointer (some (A 9)))] wx fun e w'=>e=.returned (.bool true)/\Below wx.heap.size wx w'):=fun wx hb=>by
  have e:=E.below hb
  refine ⟨e.v (9,4) (by decide),?_⟩
  rw [hfv]
  exact is_flt e f x y (9,4) (9,4) (by decide) (by decide) _ (by decide)
 obtain ⟨v0,c0⟩:=H0.out w (Below.refl _ w)
 have C0:Hid (_/\True):=⟨c0,trivial⟩
 have T0:Hid True:=trivial
 have T1:Hid True:=trivial
 have T2:Hid True:=trivial
 have T3:Hid True:=trivial
 have T4:Hid True:=trivial
 clear c0 hfv E
 go_enter Tryz.func23,Tryz.ntmps23
 go_wp2_with (first
  | (clear T0;go_at_call 49;refine C0.out.1.mono ?_;rintro e w1 ⟨rfl,b1⟩;have hb1:Below w.heap.size w w1:=b1;obtain ⟨v1,c1⟩:=H1.out w1 hb1;have C1:Hid (_/\True):=⟨c1,trivial⟩;clear c1)
  | (clear T1;go_at_call 49;refine C1.out.1.mono ?_;rintro e w2 ⟨rfl,b2⟩;have hb2:Below w.heap.size w w2:=hb1.trans (b2.mono hb1.size);obtain ⟨v2,c2⟩:=H2.out w2 hb2;have C2:Hid (_/\True):=⟨c2,trivial⟩;clear c2)
  | (clear T2;go_at_call 49;refine C2.out.1.mono ?_;rintro e w3 ⟨rfl,b3⟩;have hb3:Below w.heap.size w w3:=hb2.trans (b3.mono hb2.size);obtain ⟨v3,c3⟩:=H3.out w3 hb3;have C3:Hid (_/\True):=⟨c3,trivial⟩;clear c3)
  | (clear T3;go_at_call 49;refine C3.out.1.mono ?_;rintro e w4 ⟨rfl,b4⟩;have hb4:Below w.heap.size w w4:=hb3.trans (b4.mono hb3.size);obtain ⟨v4,c4⟩:=H4.out w4 hb4;have C4:Hid (_/\True):=⟨c4,trivial⟩;clear c4)
  | (clear T4;go_at_call 49;refine C4.out.1.mono ?_;rintro e w5 ⟨rfl,b5⟩;have hb5:Below w.heap.size w w5:=hb4.trans (b5.mono hb4.size)))
 go_ret
 exact ⟨rfl,hb5⟩
theorem pErrnoF2 (w:World) (A:Nat->Addr) (E:ErrsA w A) (f x y:Int) :
  Calls Tryz.prog 23 #[.iface 113 (.agg #[.int .i64 f,.int .i64 x,.int .i64 y,.iface 278 (.pointer (some (A 2)))])] w fun e w'=>e=.returned (.int .i64 2)/\Below w.heap.size w w':=by
 obtain ⟨fv,hfv⟩:∃ fv:Value,fv=.agg #[.int .i64 f,.int .i64 x,.int .i64 y,.iface 278 (.pointer (some (A 2)))]:=⟨_,rfl⟩
 rw [<- hfv]
 have H0:Hid (∀ wx,Below w.heap.size w wx->wx.cell? ⟨0,0,none⟩=some (.iface 278 (.pointer (some (A 4))))/\Calls Tryz.prog 49 #[.iface 113 fv,.iface 278 (.pointer (some (A 4)))] wx fun e w'=>e=.returned (.bool false)/\Below wx.heap.size wx w'):=fun wx hb=>by
  have e:=E.below hb
  refine ⟨e.v (4,0) (by decide),?_⟩
  rw [hfv]
  exact is_flt e f x y (2,5) (4,0) (by decide) (by decide) _ (by decide)
 have H1:Hid (∀ wx,Below w.heap.size w wx->wx.cell? ⟨1,0,none⟩=some (.iface 278 (.pointer (some (A 5))))/\Calls Tryz.prog 49 #[.iface 113 fv,.iface 278 (.pointer (some (A 5)))] wx fun e w'=>e=.returned (.bool false)/\Below wx.heap.size wx w'):=fun wx hb=>by
  have e:=E.below hb
  refine ⟨e.v (5,1) (by decide),?_⟩
  rw [hfv]
  exact is_flt e f x y (2,5) (5,1) (by decide) (by decide) _ (by decide)
 have H2:Hid (∀ wx,Below w.heap.size w wx->wx.cell? ⟨2,0,none⟩=some (.iface 278 (.pointer (some (A 10))))/\Calls Tryz.prog 49 #[.iface 113 fv,.iface 278 (.pointer (some (A 10)))] wx fun e w'=>e=.returned (.bool false)/\Below wx.heap.size wx w'):=fun wx hb=>by
  have e:=E.below hb
  refine ⟨e.v (10,2) (by decide),?_⟩
  rw [hfv]
  exact is_flt e f x y (2,5) (10,2) (by decide) (by decide) _ (by decide)
 have H3:Hid (∀ wx,Below w.heap.size w wx->wx.cell? ⟨3,0,none⟩=some (.iface 278 (.pointer (some (A 8))))/\Calls Tryz.prog 49 #[.iface 113 fv,.iface 278 (.pointer (some (A 8)))] wx fun e w'=>e=.returned (.bool false)/\Below wx.heap.size wx w'):=fun wx hb=>by
  have e:=E.below hb
  refine ⟨e.v (8,3) (by decide),?_⟩
  rw [hfv]
  exact is_flt e f x y (2,5) (8,3) (by decide) (by decide) _ (by decide)
 have H4:Hid (∀ wx,Below w.heap.size w wx->wx.cell? ⟨4,0,none⟩=some (.iface 278 (.pointer (some (A 9))))/\Calls Tryz.prog 49 #[.iface 113 fv,.iface 278 (.pointer (some (A 9)))] wx fun e w'=>e=.returned (.bool false)/\Below wx.heap.size wx w'):=fun wx hb=>by
  have e:=E.below hb
  refine ⟨e.v (9,4) (by decide),?_⟩
  rw [hfv]
  exact is_flt e f x y (2,5) (9,4) (by decide) (by decide) _ (by decide)
 have H5:Hid (∀ wx,Below w.heap.size w wx->wx.cell? ⟨5,0,none⟩=some (.iface 278 (.pointer (some (A 2))))/\Calls Tryz.prog 49 #[.iface 113 fv,.iface 278 (.pointer (some (A 2)))] wx fun e w'=>e=.returned (.bool true)/\Below wx.heap.size wx w'):=fun wx hb=>by
  have e:=E.below hb
  refine ⟨e.v (2,5) (by decide),?_⟩
  rw [hfv]
  exact is_flt e f x y (2,5) (2,5) (by decide) (by decide) _ (by decide)
 obtain ⟨v0,c0⟩:=H0.out w (Below.refl _ w)
 have C0:Hid (_/\True):=⟨c0,trivial⟩
 have T0:Hid True:=trivial
 have T1:Hid True:=trivial
 have T2:Hid True:=trivial
 have T3:Hid True:=trivial
 have T4:Hid True:=trivial
 have T5:Hid True:=trivial
 clear c0 hfv E
 go_enter Tryz.func23,Tryz.ntmps23
 go_wp2_with (first
  | (clear T0;go_at_call 49;refine C0.out.1.mono ?_;rintro e w1 ⟨rfl,b1⟩;have hb1:Below w.heap.size w w1:=b1;obtain ⟨v1,c1⟩:=H1.out w1 hb1;have C1:Hid (_/\True):=⟨c1,trivial⟩;clear c1)
  | (clear T1;go_at_call 49;refine C1.out.1.mono ?_;rintro e w2 ⟨rfl,b2⟩;have hb2:Below w.heap.size w w2:=hb1.trans (b2.mono hb1.size);obtain ⟨v2,c2⟩:=H2.out w2 hb2;have C2:Hid (_/\True):=⟨c2,trivial⟩;clear c2)
  | (clear T2;go_at_call 49;refine C2.out.1.mono ?_;rintro e w3 ⟨rfl,b3⟩;have hb3:Below w.heap.size w w3:=hb2.trans (b3.mono hb2.size);obtain ⟨v3,c3⟩:=H3.out w3 hb3;have C3:Hid (_/\True):=⟨c3,trivial⟩;clear c3)
  | (clear T3;go_at_call 49;refine C3.out.1.mono ?_;rintro e w4 ⟨rfl,b4⟩;have hb4:Below w.heap.size w w4:=hb3.trans (b4.mono hb3.size);obtain ⟨v4,c4⟩:=H4.out w4 hb4;have C4:Hid (_/\True):=⟨c4,trivial⟩;clear c4)
  | (clear T4;go_at_call 49;refine C4.out.1.mono ?_;rintro e w5 ⟨rfl,b5⟩;have hb5:Below w.heap.size w w5:=hb4.trans (b5.mono hb4.size);obtain ⟨v5,c5⟩:=H5.out w5 hb5;have C5:Hid (_/\True):=⟨c5,trivial⟩;clear c5)
  | (clear T5;go_at_call 49;refine C5.out.1.mono ?_;rintro e w6 ⟨rfl,b6⟩;have hb6:Below w.heap.size w w6:=hb5.trans (b6.mono hb5.size)))
 go_ret
 exact ⟨rfl,hb6⟩
theorem pErrnoF6 (w:World) (A:Nat->Addr) (E:ErrsA w A) (f x y:Int) :
  Calls Tryz.prog 23 #[.iface 113 (.agg #[.int .i64 f,.int .i64 x,.int .i64 y,.iface 278 (.pointer (some (A 6)))])] w fun e w'=>e=.returned (.int .i64 6)/\Below w.heap.size w w':=by
 obtain ⟨fv,hfv⟩:∃ fv:Value,fv=.agg #[.int .i64 f,.int .i64 x,.int .i64 y,.iface 278 (.pointer (some (A 6)))]:=⟨_,rfl⟩
 rw [<- hfv]
 have H0:Hid (∀ wx,Below w.heap.size w wx->wx.cell? ⟨0,0,none⟩=some (.iface 278 (.pointer (some (A 4))))/\Calls Tryz.prog 49 #[.iface 113 fv,.iface 278 (.pointer (some (A 4)))] wx fun e w'=>e=.returned (.bool false)/\Below wx.heap.size wx w'):=fun wx hb=>by
  have e:=E.below hb
  refine ⟨e.v (4,0) (by decide),?_⟩
  rw [hfv]
  exact is_flt e f x y (6,6) (4,0) (by decide) (by decide) _ (by decide)
 have H1:Hid (∀ wx,Below w.heap.size w wx->wx.cell? ⟨1,0,none⟩=some (.iface 278 (.pointer (some (A 5))))/\Calls Tryz.prog 49 #[.iface 113 fv,.iface 278 (.pointer (some (A 5)))] wx fun e w'=>e=.returned (.bool false)/\Below wx.heap.size wx w'):=fun wx hb=>by
  have e:=E.below hb
  refine ⟨e.v (5,1) (by decide),?_⟩
  rw [hfv]
  exact is_flt e f x y (6,6) (5,1) (by decide) (by decide) _ (by decide)
 have H2:Hid (∀ wx,Below w.heap.size w wx->wx.cell? ⟨2,0,none⟩=some (.iface 278 (.pointer (some (A 10))))/\Calls Tryz.prog 49 #[.iface 113 fv,.iface 278 (.pointer (some (A 10)))] wx fun e w'=>e=.returned (.bool false)/\Below wx.heap.size wx w'):=fun wx hb=>by
  have e:=E.below hb
  refine ⟨e.v (10,2) (by decide),?_⟩
  rw [hfv]
  exact is_flt e f x y (6,6) (10,2) (by decide) (by decide) _ (by decide)
 have H3:Hid (∀ wx,Below w.heap.size w wx->wx.cell? ⟨3,0,none⟩=some (.iface 278 (.pointer (some (A 8))))/\Calls Tryz.prog 49 #[.iface 113 fv,.iface 278 (.pointer (some (A 8)))] wx fun e w'=>e=.returned (.bool false)/\Below wx.heap.size wx w'):=fun wx hb=>by
  have e:=E.below hb
  refine ⟨e.v (8,3) (by decide),?_⟩
  rw [hfv]
  exact is_flt e f x y (6,6) (8,3) (by decide) (by decide) _ (by decide)
 have H4:Hid (∀ wx,Below w.heap.size w wx->wx.cell? ⟨4,0,none⟩=some (.iface 278 (.pointer (some (A 9))))/\Calls Tryz.prog 49 #[.iface 113 fv,.iface 278 (.pointer (some (A 9)))] wx fun e w'=>e=.returned (.bool false)/\Below wx.heap.size wx w'):=fun wx hb=>by
  have e:=E.below hb
  refine ⟨e.v (9,4) (by decide),?_⟩
  rw [hfv]
  exact is_flt e f x y (6,6) (9,4) (by decide) (by decide) _ (by decide)
 have H5:Hid (∀ wx,Below w.heap.size w wx->wx.cell? ⟨5,0,none⟩=some (.iface 278 (.pointer (some (A 2))))/\Calls Tryz.prog 49 #[.iface 113 fv,.iface 278 (.pointer (some (A 2)))] wx fun e w'=>e=.returned (.bool false)/\Below wx.heap.size wx w'):=fun wx hb=>by
  have e:=E.below hb
  refine ⟨e.v (2,5) (by decide),?_⟩
  rw [hfv]
  exact is_flt e f x y (6,6) (2,5) (by decide) (by decide) _ (by decide)
 have H6:Hid (∀ wx,Below w.heap.size w wx->wx.cell? ⟨6,0,none⟩=some (.iface 278 (.pointer (some (A 6))))/\Calls Tryz.prog 49 #[.iface 113 fv,.iface 278 (.pointer (some (A 6)))] wx fun e w'=>e=.returned (.bool true)/\Below wx.heap.size wx w'):=fun wx hb=>by
  have e:=E.below hb
  refine ⟨e.v (6,6) (by decide),?_⟩
  rw [hfv]
  exact is_flt e f x y (6,6) (6,6) (by decide) (by decide) _ (by decide)
 obtain ⟨v0,c0⟩:=H0.out w (Below.refl _ w)
 have C0:Hid (_/\True):=⟨c0,trivial⟩
 have T0:Hid True:=trivial
 have T1:Hid True:=trivial
 have T2:Hid True:=trivial
 have T3:Hid True:=trivial
 have T4:Hid True:=trivial
 have T5:Hid True:=trivial
 have T6:Hid True:=trivial
 clear c0 hfv E
 go_enter Tryz.func23,Tryz.ntmps23
 go_wp2_with (first
  | (clear T0;go_at_call 49;refine C0.out.1.mono ?_;rintro e w1 ⟨rfl,b1⟩;have hb1:Below w.heap.size w w1:=b1;obtain ⟨v1,c1⟩:=H1.out w1 hb1;have C1:Hid (_/\True):=⟨c1,trivial⟩;clear c1)
  | (clear T1;go_at_call 49;refine C1.out.1.mono ?_;rintro e w2 ⟨rfl,b2⟩;have hb2:Below w.heap.size w w2:=hb1.trans (b2.mono hb1.size);obtain ⟨v2,c2⟩:=H2.out w2 hb2;have C2:Hid (_/\True):=⟨c2,trivial⟩;clear c2)
  | (clear T2;go_at_call 49;refine C2.out.1.mono ?_;rintro e w3 ⟨rfl,b3⟩;have hb3:Below w.heap.size w w3:=hb2.trans (b3.mono hb2.size);obtain ⟨v3,c3⟩:=H3.out w3 hb3;have C3:Hid (_/\True):=⟨c3,trivial⟩;clear c3)
  | (clear T3;go_at_call 49;refine C3.out.1.mono ?_;rintro e w4 ⟨rfl,b4⟩;have hb4:Below w.heap.size w w4:=hb3.trans (b4.mono hb3.size);obtain ⟨v4,c4⟩:=H4.out w4 hb4;have C4:Hid (_/\True):=⟨c4,trivial⟩;clear c4)
  | (clear T4;go_at_call 49;refine C4.out.1.mono ?_;rintro e w5 ⟨rfl,b5⟩;have hb5:Below w.heap.size w w5:=hb4.trans (b5.mono hb4.size);obtain ⟨v5,c5⟩:=H5.out w5 hb5;have C5:Hid (_/\True):=⟨c5,trivial⟩;clear c5)
  | (clear T5;go_at_call 49;refine C5.out.1.mono ?_;rintro e w6 ⟨rfl,b6⟩;have hb6:Below w.heap.size w w6:=hb5.trans (b6.mono hb5.size);obtain ⟨v6,c6⟩:=H6.out w6 hb6;have C6:Hid (_/\True):=⟨c6,trivial⟩;clear c6)
  | (clear T6;go_at_call 49;refine C6.out.1.mono ?_;rintro e w7 ⟨rfl,b7⟩;have hb7:Below w.heap.size w w7:=hb6.trans (b7.mono hb6.size)))
 go_ret
 exact ⟨rfl,hb7⟩
theorem pErrnoF7 (w:World) (A:Nat->Addr) (E:ErrsA w A) (f x y:Int) :
  Calls Tryz.prog 23 #[.iface 113 (.agg #[.int .i64 f,.int .i64 x,.int .i64 y,.iface 278 (.pointer (some (A 7)))])] w fun e w'=>e=.returned (.int .i64 7)/\Below w.heap.size w w':=by
 obtain ⟨fv,hfv⟩:∃ fv:Value,fv=.agg #[.int .i64 f,.int .i64 x,.int .i64 y,.iface 278 (.pointer (some (A 7)))]:=⟨_,rfl⟩
 rw [<- hfv]
 have H0:Hid (∀ wx,Below w.heap.size w wx->wx.cell? ⟨0,0,none⟩=some (.iface 278 (.pointer (some (A 4))))/\Calls Tryz.prog 49 #[.iface 113 fv,.iface 278 (.pointer (some (A 4)))] wx fun e w'=>e=.returned (.bool false)/\Below wx.heap.size wx w'):=fun wx hb=>by
  have e:=E.below hb
  refine ⟨e.v (4,0) (by decide),?_⟩
  rw [hfv]
  exact is_flt e f x y (7,7) (4,0) (by decide) (by decide) _ (by decide)
 have H1:Hid (∀ wx,Below w.heap.size w wx->wx.cell? ⟨1,0,none⟩=some (.iface 278 (.pointer (some (A 5))))/\Calls Tryz.prog 49 #[.iface 113 fv,.iface 278 (.pointer (some (A 5)))] wx fun e w'=>e=.returned (.bool false)/\Below wx.heap.size wx w'):=fun wx hb=>by
  have e:=E.below hb
  refine ⟨e.v (5,1) (by decide),?_⟩
  rw [hfv]
  exact is_flt e f x y (7,7) (5,1) (by decide) (by decide) _ (by decide)
 have H2:Hid (∀ wx,Below w.heap.size w wx->wx.cell? ⟨2,0,none⟩=some (.iface 278 (.pointer (some (A 10))))/\Calls Tryz.prog 49 #[.iface 113 fv,.iface 278 (.pointer (some (A 10)))] wx fun e w'=>e=.returned (.bool false)/\Below wx.heap.size wx w'):=fun wx hb=>by
  have e:=E.below hb
  refine ⟨e.v (10,2) (by decide),?_⟩
  rw [hfv]
  exact is_flt e f x y (7,7) (10,2) (by decide) (by decide) _ (by decide)
 have H3:Hid (∀ wx,Below w.heap.size w wx->wx.cell? ⟨3,0,none⟩=some (.iface 278 (.pointer (some (A 8))))/\Calls Tryz.prog 49 #[.iface 113 fv,.iface 278 (.pointer (some (A 8)))] wx fun e w'=>e=.returned (.bool false)/\Below wx.heap.size wx w'):=fun wx hb=>by
  have e:=E.below hb
  refine ⟨e.v (8,3) (by decide),?_⟩
  rw [hfv]
  exact is_flt e f x y (7,7) (8,3) (by decide) (by decide) _ (by decide)
 have H4:Hid (∀ wx,Below w.heap.size w wx->wx.cell? ⟨4,0,none⟩=some (.iface 278 (.pointer (some (A 9))))/\Calls Tryz.prog 49 #[.iface 113 fv,.iface 278 (.pointer (some (A 9)))] wx fun e w'=>e=.returned (.bool false)/\Below wx.heap.size wx w'):=fun wx hb=>by
  have e:=E.below hb
  refine ⟨e.v (9,4) (by decide),?_⟩
  rw [hfv]
  exact is_flt e f x y (7,7) (9,4) (by decide) (by decide) _ (by decide)
 have H5:Hid (∀ wx,Below w.heap.size w wx->wx.cell? ⟨5,0,none⟩=some (.iface 278 (.pointer (some (A 2))))/\Calls Tryz.prog 49 #[.iface 113 fv,.iface 278 (.pointer (some (A 2)))] wx fun e w'=>e=.returned (.bool false)/\Below wx.heap.size wx w'):=fun wx hb=>by
  have e:=E.below hb
  refine ⟨e.v (2,5) (by decide),?_⟩
  rw [hfv]
  exact is_flt e f x y (7,7) (2,5) (by decide) (by decide) _ (by decide)
 have H6:Hid (∀ wx,Below w.heap.size w wx->wx.cell? ⟨6,0,none⟩=some (.iface 278 (.pointer (some (A 6))))/\Calls Tryz.prog 49 #[.iface 113 fv,.iface 278 (.pointer (some (A 6)))] wx fun e w'=>e=.returned (.bool false)/\Below wx.heap.size wx w'):=fun wx hb=>by
  have e:=E.below hb
  refine ⟨e.v (6,6) (by decide),?_⟩
  rw [hfv]
  exact is_flt e f x y (7,7) (6,6) (by decide) (by decide) _ (by decide)
 obtain ⟨v0,c0⟩:=H0.out w (Below.refl _ w)
 have C0:Hid (_/\True):=⟨c0,trivial⟩
 have T0:Hid True:=trivial
 have T1:Hid True:=trivial
 have T2:Hid True:=trivial
 have T3:Hid True:=trivial
 have T4:Hid True:=trivial
 have T5:Hid True:=trivial
 have T6:Hid True:=trivial
 clear c0 hfv E
 go_enter Tryz.func23,Tryz.ntmps23
 go_wp2_with (first
  | (clear T0;go_at_call 49;refine C0.out.1.mono ?_;rintro e w1 ⟨rfl,b1⟩;have hb1:Below w.heap.size w w1:=b1;obtain ⟨v1,c1⟩:=H1.out w1 hb1;have C1:Hid (_/\True):=⟨c1,trivial⟩;clear c1)
  | (clear T1;go_at_call 49;refine C1.out.1.mono ?_;rintro e w2 ⟨rfl,b2⟩;have hb2:Below w.heap.size w w2:=hb1.trans (b2.mono hb1.size);obtain ⟨v2,c2⟩:=H2.out w2 hb2;have C2:Hid (_/\True):=⟨c2,trivial⟩;clear c2)
  | (clear T2;go_at_call 49;refine C2.out.1.mono ?_;rintro e w3 ⟨rfl,b3⟩;have hb3:Below w.heap.size w w3:=hb2.trans (b3.mono hb2.size);obtain ⟨v3,c3⟩:=H3.out w3 hb3;have C3:Hid (_/\True):=⟨c3,trivial⟩;clear c3)
  | (clear T3;go_at_call 49;refine C3.out.1.mono ?_;rintro e w4 ⟨rfl,b4⟩;have hb4:Below w.heap.size w w4:=hb3.trans (b4.mono hb3.size);obtain ⟨v4,c4⟩:=H4.out w4 hb4;have C4:Hid (_/\True):=⟨c4,trivial⟩;clear c4)
  | (clear T4;go_at_call 49;refine C4.out.1.mono ?_;rintro e w5 ⟨rfl,b5⟩;have hb5:Below w.heap.size w w5:=hb4.trans (b5.mono hb4.size);obtain ⟨v5,c5⟩:=H5.out w5 hb5;have C5:Hid (_/\True):=⟨c5,trivial⟩;clear c5)
  | (clear T5;go_at_call 49;refine C5.out.1.mono ?_;rintro e w6 ⟨rfl,b6⟩;have hb6:Below w.heap.size w w6:=hb5.trans (b6.mono hb5.size);obtain ⟨v6,c6⟩:=H6.out w6 hb6;have C6:Hid (_/\True):=⟨c6,trivial⟩;clear c6)
  | (clear T6;go_at_call 49;refine C6.out.1.mono ?_;rintro e w7 ⟨rfl,b7⟩;have hb7:Below w.heap.size w w7:=hb6.trans (b7.mono hb6.size)))
 go_ret
 exact ⟨rfl,hb7⟩
theorem pErrnoF (w:World) (A:Nat->Addr) (E:ErrsA w A) (f x y:Int) (k:Nat) (hk:k=2 \/ k=4 \/ k=5 \/ k=6 \/ k=7 \/ k=8 \/ k=9 \/ k=10) :
  Calls Tryz.prog 23 #[.iface 113 (.agg #[.int .i64 f,.int .i64 x,.int .i64 y,.iface 278 (.pointer (some (A k)))])] w fun e w'=>e=.returned (.int .i64 k)/\Below w.heap.size w w':=by
 rcases hk with rfl|rfl|rfl|rfl|rfl|rfl|rfl|rfl
 ·exact pErrnoF2 w A E f x y
 ·exact pErrnoF4 w A E f x y
 ·exact pErrnoF5 w A E f x y
 ·exact pErrnoF6 w A E f x y
 ·exact pErrnoF7 w A E f x y
 ·exact pErrnoF8 w A E f x y
 ·exact pErrnoF9 w A E f x y
 ·exact pErrnoF10 w A E f x y
end
end Go.Proofs.YtekfbphnoibnjaaGreatDoor
