/-
  PExpA PExp PDr3
-/
import Derived.Test.YtekfbphnoibnjaaGreatDoorF08
set_option maxHeartbeats 4000000
namespace Go.Proofs.YtekfbphnoibnjaaGreatDoor
section
open Go.RowKit
open Flm (Px FS)
def ExpS (w:World) (nb z Z C:Nat) (wx:World):Prop:=Below w.heap.size w wx/\w.heap.size+1<wx.heap.size/\wx.heap[w.heap.size]?=some (.cells #[.int .i64 z,.slice (some ⟨nb,0,none⟩) Z C] 89 (0,0))/\wx.heap[w.heap.size+1]?=some (.cells #[.int .i64 0,.int .i64 0,.int .i64 0] 48 (0,0))
theorem ExpS.c0 {w wx:World} {nb z Z C:Nat} (h:ExpS w nb z Z C wx):wx.cell? ⟨w.heap.size,0,none⟩=some (.int .i64 z):=cell_of_row _ _ 0 _ _ _ h.2.2.1
theorem ExpS.c1 {w wx:World} {nb z Z C:Nat} (h:ExpS w nb z Z C wx):wx.cell? ⟨w.heap.size,1,none⟩=some (.slice (some ⟨nb,0,none⟩) Z C):=cell_of_row _ _ 1 _ _ _ h.2.2.1
theorem ExpS.below {w wx wy:World} {nb z Z C:Nat} (h:ExpS w nb z Z C wx) (b:Below wx.heap.size wx wy):ExpS w nb z Z C wy :=
 ⟨h.1.trans (b.mono h.1.size),Nat.lt_of_lt_of_le h.2.1 b.size,(b.block _ (by have:=h.2.1;omega)).trans h.2.2.1,(b.block _ h.2.1).trans h.2.2.2⟩
theorem ExpS.all {w wx:World} {nb z Z C:Nat} (h:ExpS w nb z Z C wx):(wx.cell? ⟨w.heap.size,0,none⟩=some (.int .i64 z)/\wx.cell? ⟨w.heap.size,1,none⟩=some (.slice (some ⟨nb,0,none⟩) Z C))/\ExpS w nb z Z C wx:=⟨⟨h.c0,h.c1⟩,h⟩
theorem ExpS.drew1 {w wx:World} {nb z Z C:Nat} (h:ExpS w nb z Z C wx):ExpS w nb z Z C wx.drew:=h.below ⟨rfl,rfl,rfl,Nat.le_refl _,fun _ _=>rfl⟩
theorem ExpS.st {w wx:World} {nb z Z C:Nat} (h:ExpS w nb z Z C wx) {b o:Nat} {v:Value} (hb:w.heap.size+1<b):ExpS w nb z Z C (wx.setCell ⟨b,o,none⟩ v) :=
 ⟨h.1.setCell (by show w.heap.size<=b;omega) _,by rw [World.size_setCell];exact h.2.1,(Below.heap_setCell wx ⟨b,o,none⟩ v _ (by show w.heap.size ≠ b;omega)).trans h.2.2.1,(Below.heap_setCell wx ⟨b,o,none⟩ v _ (by show w.heap.size+1 ≠ b;omega)).trans h.2.2.2⟩
structure EJ (w:World) (nb z Z C:Nat) (a7 a8 a9:Bool) (b7 b8 b9:Nat) (wx:World):Prop where
 ex:ExpS w nb z Z C wx
 h7:a7=true->Box3 wx b7 (0,0,0)/\w.heap.size+1<b7
 h8:a8=true->Box3 wx b8 (0,0,0)/\w.heap.size+1<b8
 h9:a9=true->Box3 wx b9 (0,0,0)/\w.heap.size+1<b9
 d78:a7=true->a8=true->b7 ≠ b8
 d79:a7=true->a9=true->b7 ≠ b9
 d89:a8=true->a9=true->b8 ≠ b9
theorem box3_below {wx wy:World} {b:Nat} {q:Px} (h:Box3 wx b q) (f:Below wx.heap.size wx wy):Box3 wy b q:=(f.block b h.lt).trans h
def zero3:Obj:=.cells #[.int .i64 0,.int .i64 0,.int .i64 0] 48
theorem EJ.below {w wx wy:World} {nb z Z C:Nat} {a7 a8 a9:Bool} {b7 b8 b9:Nat} (h:EJ w nb z Z C a7 a8 a9 b7 b8 b9 wx) (f:Below wx.heap.size wx wy):EJ w nb z Z C a7 a8 a9 b7 b8 b9 wy :=
 ⟨h.ex.below f,fun e=>⟨box3_below (h.h7 e).1 f,(h.h7 e).2⟩,fun e=>⟨box3_below (h.h8 e).1 f,(h.h8 e).2⟩,fun e=>⟨box3_below (h.h9 e).1 f,(h.h9 e).2⟩,h.d78,h.d79,h.d89⟩
theorem EJ.new7 {w wx:World} {nb z Z C:Nat} {a8 a9:Bool} {b7 b8 b9:Nat} (h:EJ w nb z Z C false a8 a9 b7 b8 b9 wx):EJ w nb z Z C true a8 a9 wx.heap.size b8 b9 (wx.alloc zero3):=by
 have f:Below wx.heap.size wx (wx.alloc zero3):=(Below.refl _ _).alloc (Nat.le_refl _) _
 have h':=h.below f
 exact ⟨h'.ex,fun _=>⟨Box3.new wx (0,0,0),h.ex.2.1⟩,h'.h8,h'.h9,fun _ e=>by have:=(h.h8 e).1.lt;omega,fun _ e=>by have:=(h.h9 e).1.lt;omega,h.d89⟩
theorem EJ.new8 {w wx:World} {nb z Z C:Nat} {a7 a9:Bool} {b7 b8 b9:Nat} (h:EJ w nb z Z C a7 false a9 b7 b8 b9 wx):EJ w nb z Z C a7 true a9 b7 wx.heap.size b9 (wx.alloc zero3):=by
 have f:Below wx.heap.size wx (wx.alloc zero3):=(Below.refl _ _).alloc (Nat.le_refl _) _
 have h':=h.below f
 exact ⟨h'.ex,h'.h7,fun _=>⟨Box3.new wx (0,0,0),h.ex.2.1⟩,h'.h9,fun e _=>by have:=(h.h7 e).1.lt;omega,h.d79,fun _ e=>by have:=(h.h9 e).1.lt;omega⟩
theorem EJ.new9 {w wx:World} {nb z Z C:Nat} {a7 a8:Bool} {b7 b8 b9:Nat} (h:EJ w nb z Z C a7 a8 false b7 b8 b9 wx):EJ w nb z Z C a7 a8 true b7 b8 wx.heap.size (wx.alloc zero3):=by
 have f:Below wx.heap.size wx (wx.alloc zero3):=(Below.refl _ _).alloc (Nat.le_refl _) _
 have h':=h.below f
 exact ⟨h'.ex,h'.h7,h'.h8,fun _=>⟨Box3.new wx (0,0,0),h.ex.2.1⟩,h.d78,fun e _=>by have:=(h.h7 e).1.lt;omega,fun e _=>by have:=(h.h8 e).1.lt;omega⟩
def tv (b:Bool) (v:Value):Value:=if b then v else undef
def ptr (b:Nat):Value:=.pointer (some ⟨b,0,none⟩)
def left6 (c1 c2 c3 a7 a8 a9:Bool):Nat:=(!c1).toNat+(!c2).toNat+(!c3).toNat+(!a7).toNat+(!a8).toNat+(!a9).toNat
def cellOk (rs:List Nat) (c1 c2 c3 a7 a8 a9:Bool):Bool:=!rs.isEmpty && rs.all fun j=>(j == 4 && !c1) || (j == 9 && c1 && !c2) || (j == 15 && c2 && !c3) || (j == 16 && !a7) || (j == 17 && !a8) || (j == 18 && !a9)
theorem cellOk_spec {rs:List Nat} {c1 c2 c3 a7 a8 a9:Bool} (h:cellOk rs c1 c2 c3 a7 a8 a9=true):rs ≠ []/\∀ j ∈ rs,(j=4/\c1=false) \/ (j=9/\c1=true/\c2=false) \/ (j=15/\c2=true/\c3=false) \/ (j=16/\a7=false) \/ (j=17/\a8=false) \/ (j=18/\a9=false):=by
 unfold cellOk at h
 rw [Bool.and_eq_true] at h
 refine ⟨fun e=>by rw [e] at h;exact absurd h.1 (by decide),fun j hj=>?_⟩
 have:=List.all_eq_true.1 h.2 j hj
 simp only [Bool.or_eq_true,Bool.and_eq_true,beq_iff_eq,Bool.not_eq_true'] at this
 rcases this with ((((⟨e,h⟩|⟨⟨e,h⟩,h'⟩)|⟨⟨e,h⟩,h'⟩)|⟨e,h⟩)|⟨e,h⟩)|⟨e,h⟩
 ·exact .inl ⟨e,h⟩
 ·exact .inr (.inl ⟨e,h,h'⟩)
 ·exact .inr (.inr (.inl ⟨e,h,h'⟩))
 ·exact .inr (.inr (.inr (.inl ⟨e,h⟩)))
 ·exact .inr (.inr (.inr (.inr (.inl ⟨e,h⟩))))
 ·exact .inr (.inr (.inr (.inr (.inr ⟨e,h⟩))))
section
variable {P:Program} {ops:Array Oper} {Q:Exit->Act->World->Prop} {S:World->Prop}
theorem exp_law {w:World} {nb z Z C:Nat} (T:Value->Value->Value->Value->Value->Value->Array Value) (F:Bool->Bool->Bool->Bool->Bool->Bool->Array Bool) {o4 o9 o15 o16 o17 o18:Oper} {fn:FuncId} {g1 g2 g3:Array Value} {v1 v2 v3:Value}
  (i4:ops[4]?=some o4) (i9:ops[9]?=some o9) (i15:ops[15]?=some o15) (i16:ops[16]?=some o16) (i17:ops[17]?=some o17) (i18:ops[18]?=some o18)
  (d4:o4.dst=some 16) (d9:o9.dst=some 21) (d15:o15.dst=some 27) (d16:o16.dst=some 7) (d17:o17.dst=some 8) (d18:o18.dst=some 9)
  (w4:∀ t,Region.wanted o4 t=true) (w9:∀ t,Region.wanted o9 t=true) (w15:∀ t,Region.wanted o15 t=true) (w16:∀ t,Region.wanted o16 t=true) (w17:∀ t,Region.wanted o17 t=true) (w18:∀ t,Region.wanted o18 t=true)
  (t4:∀ a b c d e f v,(T a b c d e f).setIfInBounds 16 v=T v b c d e f) (t9:∀ a b c d e f v,(T a b c d e f).setIfInBounds 21 v=T a v c d e f) (t15:∀ a b c d e f v,(T a b c d e f).setIfInBounds 27 v=T a b v d e f)
  (t16:∀ a b c d e f v,(T a b c d e f).setIfInBounds 7 v=T a b c v e f) (t17:∀ a b c d e f v,(T a b c d e f).setIfInBounds 8 v=T a b c d v f) (t18:∀ a b c d e f v,(T a b c d e f).setIfInBounds 9 v=T a b c d e v)
  (f4:∀ a b c d e f,(F a b c d e f).setIfInBounds 4 true=F true b c d e f) (f9:∀ a b c d e f,(F a b c d e f).setIfInBounds 9 true=F a true c d e f) (f15:∀ a b c d e f,(F a b c d e f).setIfInBounds 15 true=F a b true d e f)
  (f16:∀ a b c d e f,(F a b c d e f).setIfInBounds 16 true=F a b c true e f) (f17:∀ a b c d e f,(F a b c d e f).setIfInBounds 17 true=F a b c d true f) (f18:∀ a b c d e f,(F a b c d e f).setIfInBounds 18 true=F a b c d e true)
  (hr:∀ c1 c2 c3 a7 a8 a9:Bool,((!c2 || c1) && (!c3 || c2) && !(c3 && a7 && a8 && a9))=true->cellOk (Region.ready .any ops (F c1 c2 c3 a7 a8 a9)) c1 c2 c3 a7 a8 a9=true)
  (r4:∀ a b c d e f w,(execOp (Act.eval ⟨T a b c d e f,[]⟩) o4).run P w=.ok (.enter fn g1) w) (r9:∀ a b c d e f w,(execOp (Act.eval ⟨T a b c d e f,[]⟩) o9).run P w=.ok (.enter fn g2) w) (r15:∀ a b c d e f w,(execOp (Act.eval ⟨T a b c d e f,[]⟩) o15).run P w=.ok (.enter fn g3) w)
  (r16:∀ a b c d e f w,(execOp (Act.eval ⟨T a b c d e f,[]⟩) o16).run P w=.ok (.value (ptr w.heap.size)) (w.alloc zero3)) (r17:∀ a b c d e f w,(execOp (Act.eval ⟨T a b c d e f,[]⟩) o17).run P w=.ok (.value (ptr w.heap.size)) (w.alloc zero3)) (r18:∀ a b c d e f w,(execOp (Act.eval ⟨T a b c d e f,[]⟩) o18).run P w=.ok (.value (ptr w.heap.size)) (w.alloc zero3))
  (hc1:∀ wx,ExpS w nb z Z C wx->Calls P fn g1 wx fun e w'=>e=.returned v1/\Below wx.heap.size wx w') (hc2:∀ wx,ExpS w nb z Z C wx->Calls P fn g2 wx fun e w'=>e=.returned v2/\Below wx.heap.size wx w') (hc3:∀ wx,ExpS w nb z Z C wx->Calls P fn g3 wx fun e w'=>e=.returned v3/\Below wx.heap.size wx w')
  (hS:∀ wx,ExpS w nb z Z C wx->S wx)
  (hend:∀ b7 b8 b9 wx,EJ w nb z Z C true true true b7 b8 b9 wx->wpAnyH P .any ops Q S 3 (F true true true true true true) ⟨T v1 v2 v3 (ptr b7) (ptr b8) (ptr b9),[]⟩ wx) :
  ∀ (n:Nat) (c1 c2 c3 a7 a8 a9:Bool) (b7 b8 b9:Nat) (wx:World),left6 c1 c2 c3 a7 a8 a9=n->(c2=true->c1=true)->(c3=true->c2=true)->EJ w nb z Z C a7 a8 a9 b7 b8 b9 wx ->
   wpAnyH P .any ops Q S (n+3) (F c1 c2 c3 a7 a8 a9) ⟨T (tv c1 v1) (tv c2 v2) (tv c3 v3) (tv a7 (ptr b7)) (tv a8 (ptr b8)) (tv a9 (ptr b9)),[]⟩ wx
 | 0,c1,c2,c3,a7,a8,a9,b7,b8,b9,wx,hn,_,_,hj=>by
  have:c1=true/\c2=true/\c3=true/\a7=true/\a8=true/\a9=true:=by
   revert hn;cases c1 <;> cases c2 <;> cases c3 <;> cases a7 <;> cases a8 <;> cases a9 <;> decide
  obtain ⟨rfl,rfl,rfl,rfl,rfl,rfl⟩:=this
  exact hend b7 b8 b9 wx hj
 | n+1,c1,c2,c3,a7,a8,a9,b7,b8,b9,wx,hn,h21,h32,hj=>by
  have ih:=exp_law T F i4 i9 i15 i16 i17 i18 d4 d9 d15 d16 d17 d18 w4 w9 w15 w16 w17 w18 t4 t9 t15 t16 t17 t18 f4 f9 f15 f16 f17 f18 hr r4 r9 r15 r16 r17 r18 hc1 hc2 hc3 hS hend n
  have hrd:=cellOk_spec (hr c1 c2 c3 a7 a8 a9 (by revert hn h21 h32;cases c1 <;> cases c2 <;> cases c3 <;> cases a7 <;> cases a8 <;> cases a9 <;> simp [left6]))
  refine wpAnyH_all rfl hrd.1 ?_
  intro j hjr
  rcases hrd.2 j hjr with ⟨rfl,rfl⟩|⟨rfl,rfl,rfl⟩|⟨rfl,rfl,rfl⟩|⟨rfl,rfl⟩|⟨rfl,rfl⟩|⟨rfl,rfl⟩
  ·refine wpOp_enter i4 (w4 _) (r4 _ _ _ _ _ _ wx) ((hc1 wx hj.ex).mono ?_)
   rintro e w' ⟨rfl,hb⟩
   refine ⟨hS _ (hj.ex.below hb),?_⟩
   rw [put_at d4,t4,f4]
   exact ih true c2 c3 a7 a8 a9 b7 b8 b9 w' (by simp [left6] at hn ⊢;omega) (fun _=>rfl) h32 (hj.below hb)
  ·refine wpOp_enter i9 (w9 _) (r9 _ _ _ _ _ _ wx) ((hc2 wx hj.ex).mono ?_)
   rintro e w' ⟨rfl,hb⟩
   refine ⟨hS _ (hj.ex.below hb),?_⟩
   rw [put_at d9,t9,f9]
   exact ih true true c3 a7 a8 a9 b7 b8 b9 w' (by simp [left6] at hn ⊢;omega) (fun _=>rfl) (fun _=>rfl) (hj.below hb)
  ·obtain rfl:c1=true:=h21 rfl
   refine wpOp_enter i15 (w15 _) (r15 _ _ _ _ _ _ wx) ((hc3 wx hj.ex).mono ?_)
   rintro e w' ⟨rfl,hb⟩
   refine ⟨hS _ (hj.ex.below hb),?_⟩
   rw [put_at d15,t15,f15]
   exact ih true true true a7 a8 a9 b7 b8 b9 w' (by simp [left6] at hn ⊢;omega) (fun _=>rfl) (fun _=>rfl) (hj.below hb)
  ·refine wpOp_value i16 (w16 _) (r16 _ _ _ _ _ _ wx) ?_
   refine ⟨hS _ hj.new7.ex,?_⟩
   rw [put_at d16,t16,f16]
   exact ih c1 c2 c3 true a8 a9 wx.heap.size b8 b9 _ (by simp [left6] at hn ⊢;omega) h21 h32 hj.new7
  ·refine wpOp_value i17 (w17 _) (r17 _ _ _ _ _ _ wx) ?_
   refine ⟨hS _ hj.new8.ex,?_⟩
   rw [put_at d17,t17,f17]
   exact ih c1 c2 c3 a7 true a9 b7 wx.heap.size b9 _ (by simp [left6] at hn ⊢;omega) h21 h32 hj.new8
  ·refine wpOp_value i18 (w18 _) (r18 _ _ _ _ _ _ wx) ?_
   refine ⟨hS _ hj.new9.ex,?_⟩
   rw [put_at d18,t18,f18]
   exact ih c1 c2 c3 a7 a8 true b7 b8 wx.heap.size _ (by simp [left6] at hn ⊢;omega) h21 h32 hj.new9
end
end
section
open Go.RowKit
open Flm (Px FS)
def Flm.exp3 (z:Nat) (fs:FS) (x y:Nat) (k:Nat):Int:=Flm.expected (Flm.pick (Flm.near z fs ((x:Int)-1) y) k) (Flm.pick (Flm.near z fs x ((y:Int)-1)) k) (Flm.pick (Flm.near z fs ((x:Int)-1) ((y:Int)-1)) k)
def ExpN (w:World) (qa qb qd:Px) (l1 l2 l3:Value) (wx:World):Prop:=∃ b7 b8 b9,l1=.pointer (some ⟨b7,0,none⟩)/\l2=.pointer (some ⟨b8,0,none⟩)/\l3=.pointer (some ⟨b9,0,none⟩)/\Below w.heap.size w wx/\wx.heap[w.heap.size+1]?=some (.cells #[.int .i64 0,.int .i64 0,.int .i64 0] 48 (0,0))/\Box3 wx b7 qa/\Box3 wx b8 qb/\Box3 wx b9 qd/\w.heap.size+1<b7/\w.heap.size+1<b8/\w.heap.size+1<b9
theorem box3_store {wx:World} {b:Nat} {q q':Px} (h:Box3 wx b q):Box3 (((wx.setCell ⟨b,0,none⟩ (.int .i64 q'.1)).setCell ⟨b,1,none⟩ (.int .i64 q'.2.1)).setCell ⟨b,2,none⟩ (.int .i64 q'.2.2)) b q':=by
 have h1:=Go.heap_setCell_same wx b 0 _ _ (.int .i64 q'.1) h
 have h2:=Go.heap_setCell_same _ b 1 _ _ (.int .i64 q'.2.1) h1
 have h3:=Go.heap_setCell_same _ b 2 _ _ (.int .i64 q'.2.2) h2
 unfold Box3
 rw [h3]
 simp
theorem box3_other {wx:World} {b b':Nat} {q:Px} {u0 u1 u2:Value} (h:Box3 wx b q) (hn:b ≠ b'):Box3 (((wx.setCell ⟨b',0,none⟩ u0).setCell ⟨b',1,none⟩ u1).setCell ⟨b',2,none⟩ u2) b q:=by
 unfold Box3
 rw [Below.heap_setCell _ ⟨b',2,none⟩ _ b hn,Below.heap_setCell _ ⟨b',1,none⟩ _ b hn,Below.heap_setCell _ ⟨b',0,none⟩ _ b hn]
 exact h
theorem expS_store {w wx:World} {nb z Z C b:Nat} {u0 u1 u2:Value} (h:ExpS w nb z Z C wx) (hb:w.heap.size+1<b):ExpS w nb z Z C (((wx.setCell ⟨b,0,none⟩ u0).setCell ⟨b,1,none⟩ u1).setCell ⟨b,2,none⟩ u2):=((h.st hb).st hb).st hb
set_option maxRecDepth 20000 in
theorem pExpected {C:Nat} (w:World) (nb z:Nat) (ps:List Px) (hz:z*z<=256) (hz0:z<=16) (h:PixIn w nb (z*z) ps) (hp:∀ k,Flm.okPx (ps.getD k (0,0,0))) (fs:FS) (hps:ps=fs.frs.getD (Flm.now fs) []) (hpx:∀ i k,Flm.okPx (Flm.px fs i k)) (x y:Nat) (hx1:x<z) (hy1:y<z) :
  Calls Tryz.prog 133 #[.agg #[.int .i64 z,.slice (some ⟨nb,0,none⟩) (z*z) C],.int .i64 x,.int .i64 y] w fun e w'=>e=.returned (.agg #[.int .i64 (Flm.exp3 z fs x y 0),.int .i64 (Flm.exp3 z fs x y 1),.int .i64 (Flm.exp3 z fs x y 2)])/\Below w.heap.size w w':=by
 obtain ⟨Z,hZ⟩:∃ Z,Z=z*z:=⟨_,rfl⟩
 have HA:∀ wx (X Y:Int),X<z->Y<z->ExpS w nb z Z C wx->Calls Tryz.prog 132 #[.agg #[.int .i64 z,.slice (some ⟨nb,0,none⟩) Z C],.int .i64 X,.int .i64 Y] wx fun e w'=>e=.returned (.agg #[.int .i64 (Flm.near z fs X Y).1,.int .i64 (Flm.near z fs X Y).2.1,.int .i64 (Flm.near z fs X Y).2.2])/\Below wx.heap.size wx w':=fun wx X Y hX hY hb=>by
  rw [hZ]
  exact pTurned (C:=C) wx nb z ps hz (h.frm (Frm.of_below (S:=fun _=>False) hb.1) (fun e=>e)) hp fs hps X Y hX hY
 obtain ⟨qa,hqa⟩:∃ q,q=Flm.near z fs ((x:Int)-1) y:=⟨_,rfl⟩
 obtain ⟨qb,hqb⟩:∃ q,q=Flm.near z fs x ((y:Int)-1):=⟨_,rfl⟩
 obtain ⟨qd,hqd⟩:∃ q,q=Flm.near z fs ((x:Int)-1) ((y:Int)-1):=⟨_,rfl⟩
 have C1:Hid (∀ wx,ExpS w nb z Z C wx->Calls Tryz.prog 132 #[.agg #[.int .i64 z,.slice (some ⟨nb,0,none⟩) Z C],.int .i64 ((x:Int)-1),.int .i64 y] wx fun e w'=>e=.returned (.agg #[.int .i64 qa.1,.int .i64 qa.2.1,.int .i64 qa.2.2])/\Below wx.heap.size wx w'):=fun wx hb=>by rw [hqa];exact HA wx ((x:Int)-1) y (by omega) (by omega) hb
 have C2:Hid (∀ wx,ExpS w nb z Z C wx->Calls Tryz.prog 132 #[.agg #[.int .i64 z,.slice (some ⟨nb,0,none⟩) Z C],.int .i64 x,.int .i64 ((y:Int)-1)] wx fun e w'=>e=.returned (.agg #[.int .i64 qb.1,.int .i64 qb.2.1,.int .i64 qb.2.2])/\Below wx.heap.size wx w'):=fun wx hb=>by rw [hqb];exact HA wx x ((y:Int)-1) (by omega) (by omega) hb
 have C3:Hid (∀ wx,ExpS w nb z Z C wx->Calls Tryz.prog 132 #[.agg #[.int .i64 z,.slice (some ⟨nb,0,none⟩) Z C],.int .i64 ((x:Int)-1),.int .i64 ((y:Int)-1)] wx fun e w'=>e=.returned (.agg #[.int .i64 qd.1,.int .i64 qd.2.1,.int .i64 qd.2.2])/\Below wx.heap.size wx w'):=fun wx hb=>by rw [hqd];exact HA wx ((x:Int)-1) ((y:Int)-1) (by omega) (by omega) hb
 have HBD:Hid ((∀ k,-255<=Flm.pick qa k/\Flm.pick qa k<=255)/\(∀ k,-255<=Flm.pick qb k/\Flm.pick qb k<=255)):=by rw [hqa,hqb];exact ⟨fun k=>Flm.near_bd hpx _ _ k,fun k=>Flm.near_bd hpx _ _ k⟩
 have HEX:Hid (∀ k,Flm.exp3 z fs x y k=Flm.expected (Flm.pick qa k) (Flm.pick qb k) (Flm.pick qd k)):=fun k=>by rw [hqa,hqb,hqd];rfl
 rw [<- hZ]
 obtain ⟨W,hW⟩:∃ W,W=(w.alloc (.cells #[.int .i64 z,.slice (some ⟨nb,0,none⟩) Z C] 89)).alloc (.cells #[.int .i64 0,.int .i64 0,.int .i64 0] 48):=⟨_,rfl⟩
 have hS0:ExpS w nb z Z C W:=by
  have h1:=heap_alloc_last (w.alloc (.cells #[.int .i64 z,.slice (some ⟨nb,0,none⟩) Z C] 89)) (.cells #[.int .i64 0,.int .i64 0,.int .i64 0] 48)
  rw [World.size_alloc,<- hW] at h1
  refine ⟨by rw [hW];exact ((Below.refl _ _).alloc (Nat.le_refl _) _).alloc (by simp) _,by rw [hW];simp,?_,h1⟩
  rw [hW,Below.heap_alloc _ _ _ (by simp)]
  exact heap_alloc_last w _
 have HW:Hid (W=(w.alloc (.cells #[.int .i64 z,.slice (some ⟨nb,0,none⟩) Z C] 89)).alloc (.cells #[.int .i64 0,.int .i64 0,.int .i64 0] 48)):=hW
 have hwx:IntKind.i64.wrap ((x:Int)-1)=(x:Int)-1:=by rw [IntKind.wrap_i64];omega
 have hwy:IntKind.i64.wrap ((y:Int)-1)=(y:Int)-1:=by rw [IntKind.wrap_i64];omega
 clear h hp hps hpx hZ hz hW hqa hqb hqd HA
 go_enter Tryz.func133,Tryz.ntmps133
 go_upto_region 1 with fail
 rw [<- HW.out]
 go_cut [7,8,9] (fun l1 l2 l3 wx=>ExpN w qa qb qd l1 l2 l3 wx)
 case first =>
  have hmx:Tryz.prog.follows .mixedOrders=true:=by kernel_rfl
  refine wp_region_held (S:=fun w'=>w'.cell? ⟨w.heap.size,0,none⟩=some (.int .i64 z)/\w'.cell? ⟨w.heap.size,1,none⟩=some (.slice (some ⟨nb,0,none⟩) Z C)) hmx ?_
  have hS1:(W.drew.cell? ⟨w.heap.size,0,none⟩=some (.int .i64 z)/\W.drew.cell? ⟨w.heap.size,1,none⟩=some (.slice (some ⟨nb,0,none⟩) Z C)):=⟨hS0.c0,hS0.c1⟩
  show wpAnyH _ _ _ _ _ 22 #[false,false,false,false,false,false,false,false,false,false,false,false,false,false,false,false,false,false,false,false,false,false] _ W.drew
  refine tk_at 0 12 (.agg #[.int .i64 z,.slice (some ⟨nb,0,none⟩) Z C]) #[true,false,false,false,false,false,false,false,false,false,false,false,false,false,false,false,false,false,false,false,false,false] rfl rfl rfl (by kernel_rfl) (by rfl) (by rintro w ⟨t0,t1⟩;go_simp) (by assumption) ?_
  simp only [sIb,sCs,sCz]
  refine tk_at 1 13 (.int .i64 x) #[true,true,false,false,false,false,false,false,false,false,false,false,false,false,false,false,false,false,false,false,false,false] rfl rfl rfl (by kernel_rfl) (by rfl) (by rintro w ⟨t0,t1⟩;go_simp) (by assumption) ?_
  simp only [sIb,sCs,sCz]
  refine tk_at 2 14 (.int .i64 ((x:Int)-1)) #[true,true,true,false,false,false,false,false,false,false,false,false,false,false,false,false,false,false,false,false,false,false] rfl rfl rfl (by kernel_rfl) (by rfl) (by rintro w ⟨t0,t1⟩;go_simp) (by assumption) ?_
  simp only [sIb,sCs,sCz]
  refine tk_at 3 15 (.int .i64 y) #[true,true,true,true,false,false,false,false,false,false,false,false,false,false,false,false,false,false,false,false,false,false] rfl rfl rfl (by kernel_rfl) (by rfl) (by rintro w ⟨t0,t1⟩;go_simp) (by assumption) ?_
  simp only [sIb,sCs,sCz]
  refine tk_at 5 17 (.agg #[.int .i64 z,.slice (some ⟨nb,0,none⟩) Z C]) #[true,true,true,true,false,true,false,false,false,false,false,false,false,false,false,false,false,false,false,false,false,false] rfl rfl rfl (by kernel_rfl) (by rfl) (by rintro w ⟨t0,t1⟩;go_simp) (by assumption) ?_
  simp only [sIb,sCs,sCz]
  refine tk_at 6 18 (.int .i64 x) #[true,true,true,true,false,true,true,false,false,false,false,false,false,false,false,false,false,false,false,false,false,false] rfl rfl rfl (by kernel_rfl) (by rfl) (by rintro w ⟨t0,t1⟩;go_simp) (by assumption) ?_
  simp only [sIb,sCs,sCz]
  refine tk_at 7 19 (.int .i64 y) #[true,true,true,true,false,true,true,true,false,false,false,false,false,false,false,false,false,false,false,false,false,false] rfl rfl rfl (by kernel_rfl) (by rfl) (by rintro w ⟨t0,t1⟩;go_simp) (by assumption) ?_
  simp only [sIb,sCs,sCz]
  refine tk_at 8 20 (.int .i64 ((y:Int)-1)) #[true,true,true,true,false,true,true,true,true,false,false,false,false,false,false,false,false,false,false,false,false,false] rfl rfl rfl (by kernel_rfl) (by rfl) (by rintro w ⟨t0,t1⟩;go_simp) (by assumption) ?_
  simp only [sIb,sCs,sCz]
  refine tk_at 10 22 (.agg #[.int .i64 z,.slice (some ⟨nb,0,none⟩) Z C]) #[true,true,true,true,false,true,true,true,true,false,true,false,false,false,false,false,false,false,false,false,false,false] rfl rfl rfl (by kernel_rfl) (by rfl) (by rintro w ⟨t0,t1⟩;go_simp) (by assumption) ?_
  simp only [sIb,sCs,sCz]
  refine tk_at 11 23 (.int .i64 x) #[true,true,true,true,false,true,true,true,true,false,true,true,false,false,false,false,false,false,false,false,false,false] rfl rfl rfl (by kernel_rfl) (by rfl) (by rintro w ⟨t0,t1⟩;go_simp) (by assumption) ?_
  simp only [sIb,sCs,sCz]
  refine tk_at 12 24 (.int .i64 ((x:Int)-1)) #[true,true,true,true,false,true,true,true,true,false,true,true,true,false,false,false,false,false,false,false,false,false] rfl rfl rfl (by kernel_rfl) (by rfl) (by rintro w ⟨t0,t1⟩;go_simp) (by assumption) ?_
  simp only [sIb,sCs,sCz]
  refine tk_at 13 25 (.int .i64 y) #[true,true,true,true,false,true,true,true,true,false,true,true,true,true,false,false,false,false,false,false,false,false] rfl rfl rfl (by kernel_rfl) (by rfl) (by rintro w ⟨t0,t1⟩;go_simp) (by assumption) ?_
  simp only [sIb,sCs,sCz]
  refine tk_at 14 26 (.int .i64 ((y:Int)-1)) #[true,true,true,true,false,true,true,true,true,false,true,true,true,true,true,false,false,false,false,false,false,false] rfl rfl rfl (by kernel_rfl) (by rfl) (by rintro w ⟨t0,t1⟩;go_simp) (by assumption) ?_
  simp only [sIb,sCs,sCz]
  refine exp_law (w:=w) (nb:=nb) (z:=z) (Z:=Z) (C:=C) (fn:=132) (g1:=#[.agg #[.int .i64 z,.slice (some ⟨nb,0,none⟩) Z C],.int .i64 ((x:Int)-1),.int .i64 y]) (g2:=#[.agg #[.int .i64 z,.slice (some ⟨nb,0,none⟩) Z C],.int .i64 x,.int .i64 ((y:Int)-1)]) (g3:=#[.agg #[.int .i64 z,.slice (some ⟨nb,0,none⟩) Z C],.int .i64 ((x:Int)-1),.int .i64 ((y:Int)-1)]) (v1:=.agg #[.int .i64 qa.1,.int .i64 qa.2.1,.int .i64 qa.2.2]) (v2:=.agg #[.int .i64 qb.1,.int .i64 qb.2.1,.int .i64 qb.2.2]) (v3:=.agg #[.int .i64 qd.1,.int .i64 qd.2.1,.int .i64 qd.2.2]) (fun k16 k21 k27 k7 k8 k9=>#[.agg #[.int .i64 z,.slice (some ⟨nb,0,none⟩) Z C],.int .i64 x,.int .i64 y,.pointer (some ⟨w.heap.size,0,none⟩),undef,undef,.pointer (some ⟨w.heap.size+1,0,none⟩),k7,k8,k9,undef,undef,.agg #[.int .i64 z,.slice (some ⟨nb,0,none⟩) Z C],.int .i64 x,.int .i64 ((x:Int)-1),.int .i64 y,k16,.agg #[.int .i64 z,.slice (some ⟨nb,0,none⟩) Z C],.int .i64 x,.int .i64 y,.int .i64 ((y:Int)-1),k21,.agg #[.int .i64 z,.slice (some ⟨nb,0,none⟩) Z C],.int .i64 x,.int .i64 ((x:Int)-1),.int .i64 y,.int .i64 ((y:Int)-1),k27,undef,undef,undef,undef,undef,undef,undef,undef,undef,undef,undef,undef,undef,undef,undef,undef,undef]) (fun e1 e2 e3 e7 e8 e9=>#[true,true,true,true,e1,true,true,true,true,e2,true,true,true,true,true,e3,e7,e8,e9,false,false,false]) rfl rfl rfl rfl rfl rfl rfl rfl rfl rfl rfl rfl (fun _=>rfl) (fun _=>rfl) (fun _=>rfl) (fun _=>rfl) (fun _=>rfl) (fun _=>rfl)
   (fun _ _ _ _ _ _ _=>rfl) (fun _ _ _ _ _ _ _=>rfl) (fun _ _ _ _ _ _ _=>rfl) (fun _ _ _ _ _ _ _=>rfl) (fun _ _ _ _ _ _ _=>rfl) (fun _ _ _ _ _ _ _=>rfl)
   (fun _ _ _ _ _ _=>rfl) (fun _ _ _ _ _ _=>rfl) (fun _ _ _ _ _ _=>rfl) (fun _ _ _ _ _ _=>rfl) (fun _ _ _ _ _ _=>rfl) (fun _ _ _ _ _ _=>rfl)
   ?hr ?r4 ?r9 ?r15 ?r16 ?r17 ?r18 C1.out C2.out C3.out (fun wx hx=>⟨hx.c0,hx.c1⟩) ?hend 6 false false false false false false 0 0 0 W.drew rfl (fun h=>by cases h) (fun h=>by cases h) ⟨hS0.drew1,fun h=>(by cases h),fun h=>(by cases h),fun h=>(by cases h),fun h=>(by cases h),fun h=>(by cases h),fun h=>(by cases h)⟩
  case hr =>
   intro c1 c2 c3 a7 a8 a9
   cases c1 <;> cases c2 <;> cases c3 <;> cases a7 <;> cases a8 <;> cases a9 <;> first|(intro h;exact absurd h (by decide))|(intro _;kernel_rfl)
  case r4=>intro _ _ _ _ _ _ wq;go_simp
  case r9=>intro _ _ _ _ _ _ wq;go_simp
  case r15=>intro _ _ _ _ _ _ wq;go_simp
  case r16=>intro _ _ _ _ _ _ wq;go_simp;exact ⟨rfl,rfl⟩
  case r17=>intro _ _ _ _ _ _ wq;go_simp;exact ⟨rfl,rfl⟩
  case r18=>intro _ _ _ _ _ _ wq;go_simp;exact ⟨rfl,rfl⟩
  case hend =>
   intro b7 b8 b9 wx hj
   obtain ⟨x7,l7⟩:=hj.h7 rfl
   obtain ⟨x8,l8⟩:=hj.h8 rfl
   obtain ⟨x9,l9⟩:=hj.h9 rfl
   have n78:=hj.d78 rfl rfl
   have n79:=hj.d79 rfl rfl
   have n89:=hj.d89 rfl rfl
   have e1:=hj.ex
   clear hj
   obtain ⟨wy,hwy1⟩:∃ wy,wy=((wx.setCell ⟨b7,0,none⟩ (.int .i64 qa.1)).setCell ⟨b7,1,none⟩ (.int .i64 qa.2.1)).setCell ⟨b7,2,none⟩ (.int .i64 qa.2.2):=⟨_,rfl⟩
   have e2:ExpS w nb z Z C wy:=by rw [hwy1];exact expS_store e1 l7
   have y7:Box3 wy b7 qa:=by rw [hwy1];exact box3_store x7
   have y8:Box3 wy b8 (0,0,0):=by rw [hwy1];exact box3_other x8 (Ne.symm n78)
   have y9:Box3 wy b9 (0,0,0):=by rw [hwy1];exact box3_other x9 (Ne.symm n79)
   have c0:=x7.cell 0 (by decide)
   have c1:=x7.cell 1 (by decide)
   have c2:=x7.cell 2 (by decide)
   have z0:=x7.frozen 0
   have z1:=x7.frozen 1
   have z2:=x7.frozen 2
   refine store_at (i:=19) (w':=wy) #[true,true,true,true,true,true,true,true,true,true,true,true,true,true,true,true,true,true,true,true,false,false] (by kernel_rfl) rfl rfl rfl (by rfl) ?s1 ⟨e2.c0,e2.c1⟩ ?_
   case s1=>unfold ptr;rw [hwy1];go_simp
   clear c0 c1 c2 z0 z1 z2 hwy1 x7 x8 x9
   obtain ⟨wz,hwz1⟩:∃ wz,wz=((wy.setCell ⟨b8,0,none⟩ (.int .i64 qb.1)).setCell ⟨b8,1,none⟩ (.int .i64 qb.2.1)).setCell ⟨b8,2,none⟩ (.int .i64 qb.2.2):=⟨_,rfl⟩
   have e3:ExpS w nb z Z C wz:=by rw [hwz1];exact expS_store e2 l8
   have z7:Box3 wz b7 qa:=by rw [hwz1];exact box3_other y7 n78
   have z8:Box3 wz b8 qb:=by rw [hwz1];exact box3_store y8
   have z9:Box3 wz b9 (0,0,0):=by rw [hwz1];exact box3_other y9 (Ne.symm n89)
   have c0:=y8.cell 0 (by decide)
   have c1:=y8.cell 1 (by decide)
   have c2:=y8.cell 2 (by decide)
   have z0:=y8.frozen 0
   have z1:=y8.frozen 1
   have z2:=y8.frozen 2
   refine store_at (i:=20) (w':=wz) #[true,true,true,true,true,true,true,true,true,true,true,true,true,true,true,true,true,true,true,true,true,false] (by kernel_rfl) rfl rfl rfl (by rfl) ?s2 ⟨e3.c0,e3.c1⟩ ?_
   case s2=>unfold ptr;rw [hwz1];go_simp
   clear c0 c1 c2 z0 z1 z2 hwz1 y7 y8 y9
   obtain ⟨wv,hwv1⟩:∃ wv,wv=((wz.setCell ⟨b9,0,none⟩ (.int .i64 qd.1)).setCell ⟨b9,1,none⟩ (.int .i64 qd.2.1)).setCell ⟨b9,2,none⟩ (.int .i64 qd.2.2):=⟨_,rfl⟩
   have e4:ExpS w nb z Z C wv:=by rw [hwv1];exact expS_store e3 l9
   have v7:Box3 wv b7 qa:=by rw [hwv1];exact box3_other z7 n79
   have v8:Box3 wv b8 qb:=by rw [hwv1];exact box3_other z8 n89
   have v9:Box3 wv b9 qd:=by rw [hwv1];exact box3_store z9
   have c0:=z9.cell 0 (by decide)
   have c1:=z9.cell 1 (by decide)
   have c2:=z9.cell 2 (by decide)
   have z0:=z9.frozen 0
   have z1:=z9.frozen 1
   have z2:=z9.frozen 2
   refine store_at (i:=21) (w':=wv) #[true,true,true,true,true,true,true,true,true,true,true,true,true,true,true,true,true,true,true,true,true,true] (by kernel_rfl) rfl rfl rfl (by rfl) ?s3 ⟨e4.c0,e4.c1⟩ ?_
   case s3=>unfold ptr;rw [hwv1];go_simp
   refine wpAnyH_done (by kernel_rfl) ?_ _
   dsimp only
   unfold ptr
   go_wp2_with fail
   go_meet
   exact ⟨b7,b8,b9,rfl,rfl,rfl,e4.1,e4.2.2.2,v7,v8,v9,l7,l8,l9⟩
 case rest =>
  clear C1 C2 C3 hS0 HW
  obtain ⟨b7,b8,b9,rfl,rfl,rfl,hB,hR,x7,x8,x9,l7,l8,l9⟩:=hcut
  obtain ⟨W5,hW5⟩:∃ W5,W5=wc.alloc (.cells #[.int .i64 0,.int .i64 0,.int .i64 0] 48):=⟨_,rfl⟩
  have bb:Below wc.heap.size wc W5:=by rw [hW5];exact (Below.refl _ _).alloc (Nat.le_refl _) _
  have HW5:Hid (W5=wc.alloc (.cells #[.int .i64 0,.int .i64 0,.int .i64 0] 48)):=hW5
  obtain ⟨O,hO⟩:∃ O,O=wc.heap.size:=⟨_,rfl⟩
  have HO:Hid (O=wc.heap.size):=hO
  have x5:Box3 W5 O (part3 (Flm.exp3 z fs x y) 0):=by rw [hW5,hO];exact Box3.new wc (0,0,0)
  have K0:Hid (Box3 W5 b7 qa/\Box3 W5 b8 qb/\Box3 W5 b9 qd/\Box3 W5 O (part3 (Flm.exp3 z fs x y) 0)/\Box3 W5 (w.heap.size+1) (0,0,0)/\Below w.heap.size w W5):=⟨box3_below x7 bb,box3_below x8 bb,box3_below x9 bb,x5,box3_below hR bb,hB.trans (bb.mono hB.size)⟩
  have NO:Hid (b7 ≠ O/\b8 ≠ O/\b9 ≠ O/\w.heap.size+1 ≠ O):=by
   have:=x7.lt;have:=x8.lt;have:=x9.lt
   have h4:w.heap.size+1<wc.heap.size:=heap_lt0 hR
   refine ⟨by omega,by omega,by omega,by omega⟩
  have LO:w.heap.size<=O:=by rw [hO];exact hB.size
  clear x7 x8 x9 x5 hR hB bb hW5 hO
  go_wp2_with (first|(rw [<- HW5.out,<- HO.out])|(rw [<- HO.out]))
  go_loopw [28] (fun kv wr=>∃ k:Nat,k<=3/\kv=.int .i64 k/\Box3 wr b7 qa/\Box3 wr b8 qb/\Box3 wr b9 qd/\Box3 wr O (part3 (Flm.exp3 z fs x y) k)/\Box3 wr (w.heap.size+1) (0,0,0)/\Below w.heap.size w wr) (fun kv _=>3-(intOf kv).toNat)
  case atStart=>exact ⟨0,by omega,rfl,K0.out⟩
  case round =>
   obtain ⟨k,hk,rfl,hK⟩:=hrel
   obtain ⟨x7,x8,x9,xO,xR,hB⟩:=hK
   by_cases hk3:k<3
   ·have hk3':(k:Int)<3:=by omega
    have k7:=x7.cell k hk3
    have k8:=x8.cell k hk3
    have k9:=x9.cell k hk3
    have kO:=xO.cell k hk3
    have zO:=xO.frozen k
    obtain ⟨ak,hak⟩:∃ v,v=Flm.pick qa k:=⟨_,rfl⟩
    obtain ⟨bk,hbk⟩:∃ v,v=Flm.pick qb k:=⟨_,rfl⟩
    obtain ⟨dk,hdk⟩:∃ v,v=Flm.pick qd k:=⟨_,rfl⟩
    obtain ⟨bd0,bd1⟩:=HBD.out.1 k
    obtain ⟨bd2,bd3⟩:=HBD.out.2 k
    rw [<- hak] at k7 bd0 bd1
    rw [<- hbk] at k8 bd2 bd3
    rw [<- hdk] at k9
    have HEK:Hid (Flm.exp3 z fs x y k=Flm.expected ak bk dk):=by rw [hak,hbk,hdk];exact HEX.out k
    have HK:Hid (Box3 wr b7 qa/\Box3 wr b8 qb/\Box3 wr b9 qd/\Box3 wr O (part3 (Flm.exp3 z fs x y) k)/\Box3 wr (w.heap.size+1) (0,0,0)/\Below w.heap.size w wr):=⟨x7,x8,x9,xO,xR,hB⟩
    obtain ⟨u,hu⟩:∃ u,u=Flm.pick (part3 (Flm.exp3 z fs x y) k) k:=⟨_,rfl⟩
    rw [<- hu] at kO
    clear x7 x8 x9 xO xR hB hak hbk hdk hu
    go_wp2_with fail
    go_region_with (go_at_call 155;refine (pExpect _ ak bk dk (by omega) (by omega) (by omega) (by omega)).mono ?_;rintro e w2 ⟨rfl,hw⟩;rw [hw];clear hw)
    all_goals
     go_wp2
     go_roundw
     case rel =>
      obtain ⟨x7,x8,x9,xO,xR,hB⟩:=HK.out
      have fo:∀ (wx:World) (u:Value),Frm (fun t=>t=O) wx (wx.setCell ⟨O,k,none⟩ u):=fun wx u=>Frm.setCell (p:=⟨O,k,none⟩) (Frm.refl (fun t=>t=O) wx) (.inl rfl) u
      have fd:Frm (fun _=>False) wr wr.drew:=(Frm.refl _ _).drew
      obtain ⟨n7,n8,n9,nR⟩:=NO.out
      refine ⟨k+1,by omega,by go_num,?_,?_,?_,?_,?_,?_⟩
      ·exact (x7.frm fd (fun e=>e)).frm (fo _ _) n7
      ·exact (x8.frm fd (fun e=>e)).frm (fo _ _) n8
      ·exact (x9.frm fd (fun e=>e)).frm (fo _ _) n9
      ·have y4:Box3 wr.drew O (part3 (Flm.exp3 z fs x y) k):=xO.frm fd (fun e=>e)
       have:=y4.put hk3
       rw [HEK.out] at this
       exact this
      ·exact (xR.frm fd (fun e=>e)).frm (fo _ _) nR
      ·exact Below.setCell (below_drew hB) LO _
     case measure=>simp [intOf];omega
   ·have hk3':¬ ((k:Int)<3):=by omega
    have e3:k=3:=by omega
    rw [e3] at xO
    clear e3
    have v0:wr.cell? ⟨O,0,none⟩=some (.int .i64 (Flm.exp3 z fs x y 0)):=xO.cell 0 (by decide)
    have v1:wr.cell? ⟨O,1,none⟩=some (.int .i64 (Flm.exp3 z fs x y 1)):=xO.cell 1 (by decide)
    have v2:wr.cell? ⟨O,2,none⟩=some (.int .i64 (Flm.exp3 z fs x y 2)):=xO.cell 2 (by decide)
    obtain ⟨E0,hE0⟩:∃ E,E=Flm.exp3 z fs x y 0:=⟨_,rfl⟩
    obtain ⟨E1,hE1⟩:∃ E,E=Flm.exp3 z fs x y 1:=⟨_,rfl⟩
    obtain ⟨E2,hE2⟩:∃ E,E=Flm.exp3 z fs x y 2:=⟨_,rfl⟩
    rw [<- hE0] at v0
    rw [<- hE1] at v1
    rw [<- hE2] at v2
    have HEE:Hid (E0=Flm.exp3 z fs x y 0/\E1=Flm.exp3 z fs x y 1/\E2=Flm.exp3 z fs x y 2):=⟨hE0,hE1,hE2⟩
    have s0:=xR.cell 0 (by decide)
    have s1:=xR.cell 1 (by decide)
    have s2:=xR.cell 2 (by decide)
    have z0:=xR.frozen 0
    have z1:=xR.frozen 1
    have z2:=xR.frozen 2
    have HB:Hid (Below w.heap.size w wr):=hB
    obtain ⟨X,hX⟩:∃ X,X=((wr.setCell ⟨w.heap.size+1,0,none⟩ (.int .i64 E0)).setCell ⟨w.heap.size+1,1,none⟩ (.int .i64 E1)).setCell ⟨w.heap.size+1,2,none⟩ (.int .i64 E2):=⟨_,rfl⟩
    have HX:Hid (Below w.heap.size w X):=by unfold Hid;rw [hX];exact ((hB.setCell (p:=⟨w.heap.size+1,0,none⟩) (by show _<=w.heap.size+1;omega) _).setCell (p:=⟨w.heap.size+1,1,none⟩) (by show _<=w.heap.size+1;omega) _).setCell (p:=⟨w.heap.size+1,2,none⟩) (by show _<=w.heap.size+1;omega) _
    obtain ⟨q0,q1,q2,fX⟩:=three_set wr (w.heap.size+1) _ _ _ s0 s1 s2 X hX
    clear x7 x8 x9 xO xR hB hE0 hE1 hE2
    go_wp2_with fail
    rw [<- hX]
    refine bodyPost_ret (v:=.agg #[.int .i64 E0,.int .i64 E1,.int .i64 E2]) (by simp [results,Tryz.results133,go_sem,q0,q1,q2]) rfl ?_
    refine ⟨?_,HX.out⟩
    obtain ⟨e0,e1,e2⟩:=HEE.out
    rw [e0,e1,e2]
end
section
open Go.RowKit
def crsCells (r:Int) (ch:List Int):List Value:=.int .u32 r :: ch.map (Value.int .u32)
theorem crsCells_len {r:Int} {ch:List Int} (h:ch.length=400):(crsCells r ch).length=401:=by unfold crsCells;simp [h]
theorem Crs.range {w:World} {b:Nat} {r:Int} {ch:List Int} (h:Crs w b r ch):w.rangeAt b 0 (crsCells r ch):=by
 intro j v hv
 unfold crsCells at hv
 rw [Nat.zero_add]
 cases j with
 | zero =>
  have:Value.int .u32 r=v:=by simpa using hv
  rw [<- this];exact h.c2
 | succ j =>
  rw [List.getElem?_cons_succ,List.getElem?_map] at hv
  have hj:j<400:=by
   rcases Nat.lt_or_ge j 400 with h1|h1
   ·exact h1
   ·rw [List.getElem?_eq_none (by rw [h.ch.len];exact h1)] at hv;cases hv
  have hc:=h.ch.cell j hj
  rw [List.getD_eq_getElem?_getD] at hc
  rw [List.getElem?_eq_getElem (by rw [h.ch.len];exact hj)] at hc hv
  cases hv
  rw [Nat.add_comm j 1]
  exact hc
theorem crsCells_one (r:Int) (ch:List Int):∀ u ∈ crsCells r ch,u.oneCell'=true:=by
 intro u hu
 unfold crsCells at hu
 rcases List.mem_cons.1 hu with rfl|hu
 ·rfl
 ·obtain ⟨z,_,rfl⟩:=List.mem_map.1 hu
  rfl
theorem crsSize:(Tryz.prog.info? 147).map (·.size)=some 401:=by kernel_rfl
section
variable {P:Program} {ops:Array Oper} {Q:Exit->Act->World->Prop} {md:Region.Mode}
theorem take_mid {S:World->Prop} {i d:Nat} {oi:Oper} {fuel:Nat} {listed:Array Bool} (L:Array Bool) {a:Act} {w:World} (hi:ops[i]?=some oi) (hd:oi.dst=some d) (hL:listed.setIfInBounds i true=L)
  (hs:Region.noSelect ops=true) (hf:Region.free md ops listed i=true) (hr:(Region.ready md ops listed).contains i=true)
  (hQ:∀ c a w v,Q (.panic c) (a.put oi.dst v) w->Q (.panic c) a w) (hw:Region.wanted oi (yielded ops a.tmps)=true) (ty:TypeId) (x:Operand) (ho:oi.op=.load ty x) (b o:Nat) (hx:a.eval x=.pointer (some ⟨b,o,none⟩)) (cs:List Value) (ds:TypeDesc)
  (hc:∀ w,S w->w.rangeAt b o cs) (hu:P.underlying ty=some ds) (hd':ds.isRow=true) (hi':(P.info? ty).map (·.size)=some cs.length) (hS:S w)
  (h:wpAnyH P md ops Q S fuel L { tmps:=a.tmps.setIfInBounds d (.agg cs.toArray),defers:=a.defers } w):wpAnyH P md ops Q S (fuel+1) listed a w :=
 take_at L hi hd hL hs hf hr (fun c a w=>hQ c a w _) hw (fun w hw'=>by
  unfold execOp
  simp only [ho,hx,Instr.loadAt,Instr.sureAddr,Sem.run_bind,Sem.run_pure,Result.andThen_ok,run_loadVar_mid w b o ty cs ds (hc w hw') hu hd' hi']) hS h
end
theorem laid_course (w:World) (Z:Array Value) (ty:TypeId) (hZ:Z.size=403) {r:Int} {ch:List Int} (hl:ch.length=400) (m:Int) {C:Array Value} (hC:C=(laidAt Z 0 (crsCells r ch).toArray).setIfInBounds 401 (.int .i64 m)) :
  Crs (w.alloc (.cells C ty)) w.heap.size r ch/\(w.alloc (.cells C ty)).cell? ⟨w.heap.size,401,none⟩=some (.int .i64 m)/\(w.alloc (.cells C ty)).cell? ⟨w.heap.size,402,none⟩=Z[402]?/\∀ o,(w.alloc (.cells C ty)).frozen? ⟨w.heap.size,o,none⟩=false:=by
 have hcs:(crsCells r ch).toArray.size=401:=by simp [crsCells_len hl]
 have hla:=laidAt_size Z 0 (crsCells r ch).toArray
 have g:∀ j,(w.alloc (.cells C ty)).cell? ⟨w.heap.size,j,none⟩=C[j]?:=fun j=>cell_of_row _ _ j _ ty (0,0) (heap_alloc_last w _)
 have g1:∀ j,j<401->C[j]?=(crsCells r ch)[j]?:=fun j hj=>by
  rw [hC,Array.getElem?_setIfInBounds_ne (by omega),laidAt_get,if_pos ⟨by omega,by omega,by omega⟩]
  simp
 refine ⟨⟨?_,by simp,hl,fun k hk=>?_,fun k hk=>by simp⟩,?_,?_,fun o=>by simp⟩
 ·rw [g,g1 0 (by decide)];rfl
 ·rw [g,g1 (1+k) (by omega),Nat.add_comm 1 k]
  unfold crsCells
  rw [List.getElem?_cons_succ,List.getElem?_map,List.getD_eq_getElem?_getD,List.getElem?_eq_getElem (by omega)]
  rfl
 ·rw [g,hC,Array.getElem?_setIfInBounds_self_of_lt (by omega)]
 ·rw [g,hC,Array.getElem?_setIfInBounds_ne (by decide),laidAt_get,if_neg (by omega)]
set_option maxRecDepth 20000 in
theorem pNext (w:World) (b:Nat) (v:Value) (t:WS) (l:List (Nat × Int)) (h:DrAt w b v t l) :
  Calls Tryz.prog 111 #[.pointer (some ⟨b,0,none⟩)] w fun x w'=>x=.returned (.pointer (some ⟨w.heap.size,0,none⟩))/\DrAt w' w.heap.size (.slice none 0 0) t []/\Below w.heap.size w w':=by
 obtain ⟨hzero,hsize⟩:=zero_of_info drInfo
 have hmx:Tryz.prog.follows .mixedOrders=true:=by kernel_rfl
 obtain ⟨Z,hZ⟩:∃ Z,Z=(#[Value.int .u32 0]++Array.replicate 400 (.int .u32 0))++#[Value.int .i64 0,.slice none 0 0]:=⟨_,rfl⟩
 rw [<- hZ] at hzero
 have hY:(#[Value.int .u32 0]++Array.replicate 400 (Value.int .u32 0)).size=401:=by rw [Array.size_append,Array.size_replicate];rfl
 have hZs:Z.size=403:=by rw [hZ,Array.size_append,hY];rfl
 have hZ1:Z[402]?=some (.slice none 0 0):=by rw [hZ,Array.getElem?_append_right (by rw [hY];decide),hY];rfl
 have hZn:Z ≠ #[]:=fun e=>by rw [e] at hZs;exact absurd hZs (by decide)
 have hlen:t.ch.length=400:=h.crs.ch.len
 obtain ⟨E,hE⟩:∃ E,E=crsCells t.rng t.ch:=⟨_,rfl⟩
 have hEs:E.length=401:=by rw [hE];exact crsCells_len hlen
 have hrg:w.rangeAt b 0 E:=by rw [hE];exact h.crs.range
 have hsh:=h.sh
 have hup:=h.up
 have HE:Hid (E=crsCells t.rng t.ch):=hE
 clear hZ hsize hY hE h
 go_enter Tryz.func111,Tryz.ntmps111
 go_wp2_with fail
 refine region_calm (S:=fun w'=>w'.rangeAt b 0 E/\w'.cell? ⟨b,401,none⟩=some (.int .i64 t.m)) 11 #[false,false,false,false,false,false,false,false,false,false,false] rfl rfl hmx ?_
 have hS0:w.drew.rangeAt b 0 E/\w.drew.cell? ⟨b,401,none⟩=some (.int .i64 t.m):=⟨hrg,hsh⟩
 refine tk_at 0 3 (.pointer (some ⟨b,0,none⟩)) #[true,false,false,false,false,false,false,false,false,false,false] rfl rfl rfl (by kernel_rfl) (by rfl) (by rintro w ⟨t0,t1⟩;go_simp) (by assumption) ?_
 simp only [sIb,sCs,sCz]
 refine tk_at 1 4 (.pointer (some ⟨b,0,none⟩)) #[true,true,false,false,false,false,false,false,false,false,false] rfl rfl rfl (by kernel_rfl) (by rfl) (by rintro w ⟨t0,t1⟩;go_simp) (by assumption) ?_
 simp only [sIb,sCs,sCz]
 refine tk_at 2 5 (.pointer (some ⟨b,0,none⟩)) #[true,true,true,false,false,false,false,false,false,false,false] rfl rfl rfl (by kernel_rfl) (by rfl) (by rintro w ⟨t0,t1⟩;go_simp) (by assumption) ?_
 simp only [sIb,sCs,sCz]
 refine take_mid (i:=3) (d:=6) #[true,true,true,true,false,false,false,false,false,false,false] rfl rfl rfl (by kernel_rfl) (by kernel_rfl) (by kernel_rfl) (fun _ _ _ _ h=>h) (by rfl) 147 (.tmp 5) rfl b 0 rfl E _ (fun _ h=>h.1) Tryz.underlying147 rfl (by rw [hEs];exact crsSize) (by assumption) ?_
 simp only [sIb,sCs,sCz]
 refine tk_at 4 7 (.pointer (some ⟨b,0,none⟩)) #[true,true,true,true,true,false,false,false,false,false,false] rfl rfl rfl (by kernel_rfl) (by rfl) (by rintro w ⟨t0,t1⟩;go_simp) (by assumption) ?_
 simp only [sIb,sCs,sCz]
 refine tk_at 5 8 (.pointer (some ⟨b,0,none⟩)) #[true,true,true,true,true,true,false,false,false,false,false] rfl rfl rfl (by kernel_rfl) (by rfl) (by rintro w ⟨t0,t1⟩;go_simp) (by assumption) ?_
 simp only [sIb,sCs,sCz]
 refine tk_at 6 9 (.pointer (some ⟨b,401,none⟩)) #[true,true,true,true,true,true,true,false,false,false,false] rfl rfl rfl (by kernel_rfl) (by rfl) (by rintro w ⟨t0,t1⟩;go_simp) (by assumption) ?_
 simp only [sIb,sCs,sCz]
 refine tk_at 7 10 (.int .i64 t.m) #[true,true,true,true,true,true,true,true,false,false,false] rfl rfl rfl (by kernel_rfl) (by rfl) (by rintro w ⟨t0,t1⟩;go_simp) (by assumption) ?_
 simp only [sIb,sCs,sCz]
 obtain ⟨C,hC⟩:∃ C,C=(laidAt Z 0 E.toArray).setIfInBounds 401 (.int .i64 t.m):=⟨_,rfl⟩
 refine tk_at 8 11 (.agg C) #[true,true,true,true,true,true,true,true,true,false,false] rfl rfl rfl (by kernel_rfl) (by rfl) ?y8 (by assumption) ?r8
 case y8 =>
  have hl:List.foldl (fun (cs:Array Value) (x:Value × Nat)=>cs.setIfInBounds x.snd x.fst) Z E.zipIdx=laidAt Z 0 E.toArray:=by
   rw [laidAt_eq];simp only [Nat.zero_add]
  rintro w ⟨t0,t1⟩
  go_simp
  rw [if_neg (by rw [laidAt_size];omega)]
  rfl
 case r8 =>
 simp only [sIb,sCs,sCz]
 have hS1:(w.drew.alloc (.cells C 151)).rangeAt b 0 E/\(w.drew.alloc (.cells C 151)).cell? ⟨b,401,none⟩=some (.int .i64 t.m) :=
  ⟨fun j u hj=>(World.cell?_of_block (a:=⟨b,0+j,none⟩) (Below.heap_alloc w.drew _ b hup)).trans (hrg j u hj),(World.cell?_of_block (a:=⟨b,401,none⟩) (Below.heap_alloc w.drew _ b hup)).trans hsh⟩
 refine val_at (i:=9) (d:=12) (v:=.pointer (some ⟨w.heap.size,0,none⟩)) (w':=w.drew.alloc (.cells C 151)) #[true,true,true,true,true,true,true,true,true,true,false] (by kernel_rfl) rfl rfl rfl (by rfl) ?y9 hS1 ?r9
 case y9=>go_simp
 case r9 =>
 simp only [sIb,sCs,sCz]
 refine tk_at 10 2 (.pointer (some ⟨w.heap.size,0,none⟩)) #[true,true,true,true,true,true,true,true,true,true,true] rfl rfl rfl (by kernel_rfl) (by rfl) (by rintro w ⟨t0,t1⟩;go_simp) (by assumption) ?_
 simp only [sIb,sCs,sCz]
 refine wpAnyH_done (by kernel_rfl) ?_ _
 dsimp only [calmPost]
 go_wp2_with fail
 obtain ⟨d1,d2,d3,d4⟩:=laid_course w.drew Z 151 hZs (r:=t.rng) hlen t.m (C:=C) (by rw [hC,HE.out])
 go_ret
 exact ⟨rfl,⟨d1,d2,d3.trans hZ1,World.ownsRow_nil _ _ _ _,by simp [Value.ownBlock],fun o _=>d4 o,by simp⟩,(below_drew (Below.refl _ w)).alloc (Nat.le_refl _) _⟩
theorem lighter_drop (a b:WS):(if a.m=b.m then decide (b.rng<a.rng) else decide (a.m<b.m))=Pk.lighter a b:=rfl
set_option maxRecDepth 20000 in
theorem pLighter (w:World) (b c:Nat) (v u:Value) (t s:WS) (l m:List (Nat × Int)) (h:DrAt w b v t l) (k:DrAt w c u s m) :
  Calls Tryz.prog 80 #[.pointer (some ⟨b,0,none⟩),.pointer (some ⟨c,0,none⟩)] w fun x w'=>x=.returned (.bool (Pk.lighter t s))/\Below w.heap.size w w':=by
 have h1:=h.sh
 have h2:=h.crs.c2
 have k1:=k.sh
 have k2:=k.crs.c2
 rw [<- lighter_drop]
 clear h k
 by_cases e:t.m=s.m
 ·rw [if_pos e]
  rw [e] at h1
  go_enter Tryz.func80,Tryz.ntmps80
  go_wp2
  go_region
  all_goals
   go_wp2
   go_region
   all_goals
    go_wp2
    go_ret
    exact ⟨rfl,below_drew (below_drew (Below.refl _ w))⟩
 ·rw [if_neg e]
  go_enter Tryz.func80,Tryz.ntmps80
  go_wp2
  go_region
  all_goals
   go_wp2
   go_region
   all_goals
    go_wp2
    go_ret
    exact ⟨rfl,below_drew (below_drew (Below.refl _ w))⟩
end
end Go.Proofs.YtekfbphnoibnjaaGreatDoor
