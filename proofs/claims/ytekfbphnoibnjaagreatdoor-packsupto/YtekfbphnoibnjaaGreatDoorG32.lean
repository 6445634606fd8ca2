/-
  PAreaW PBegin PAreaEq PWrite
-/
import Derived.Test.YtekfbphnoibnjaaGreatDoorG31
set_option maxHeartbeats 4000000
namespace Go.Proofs.YtekfbphnoibnjaaGreatDoor
section
open Go.RowKit Go.Shelf
open Flm (Px FS okPx)
open Pk (better)
set_option maxRecDepth 100000 in
theorem quartIx (x y h i X Y:Nat) (hi:i<4) (hX:X=x+i % 2*h) (hY:Y=y+i / 2*h) (w:World):Sem.run Tryz.prog (Instr.index 208 (.agg #[.int .i64 x,.int .i64 y,.int .i64 h,.int .i64 ((x+h:Nat):Int),.int .i64 y,.int .i64 h,.int .i64 x,.int .i64 ((y+h:Nat):Int),.int .i64 h,.int .i64 ((x+h:Nat):Int),.int .i64 ((y+h:Nat):Int),.int .i64 h]) (.int .i64 i)) w=.ok (.agg #[.int .i64 X,.int .i64 Y,.int .i64 h]) w:=by
 subst hX hY
 rcases (by omega:i=0 \/ i=1 \/ i=2 \/ i=3) with rfl|rfl|rfl|rfl
 ·rw [show x+0 % 2*h=x by omega,show y+0 / 2*h=y by omega];first|kernel_rfl|rfl
 ·rw [show x+1 % 2*h=x+h by omega,show y+1 / 2*h=y by omega];first|kernel_rfl|rfl
 ·rw [show x+2 % 2*h=x by omega,show y+2 / 2*h=y+h by omega];first|kernel_rfl|rfl
 ·rw [show x+3 % 2*h=x+h by omega,show y+3 / 2*h=y+h by omega];first|kernel_rfl|rfl
theorem pQuartersW (w:World) (x y n h:Nat) (hx:x<=16) (hy:y<=16) (hn:n=2*h) (hh:h<=8) :
  Calls Tryz.prog 116 #[.agg #[.int .i64 x,.int .i64 y,.int .i64 n]] w fun e w'=>e=.returned (.agg #[.int .i64 x,.int .i64 y,.int .i64 h,.int .i64 ((x+h:Nat):Int),.int .i64 y,.int .i64 h,.int .i64 x,.int .i64 ((y+h:Nat):Int),.int .i64 h,.int .i64 ((x+h:Nat):Int),.int .i64 ((y+h:Nat):Int),.int .i64 h])/\Below w.heap.size w w':=by
 have h2:Int.tdiv ((n:Nat):Int) 2=(h:Int):=by
  rw [hn,Int.natCast_mul]
  exact Int.mul_tdiv_cancel_left _ (by decide)
 go_enter Tryz.func116,Tryz.ntmps116
 go_wp2
 refine bodyPost_ret (v:=.agg #[.int .i64 x,.int .i64 y,.int .i64 h,.int .i64 ((x:Int)+h),.int .i64 y,.int .i64 h,.int .i64 x,.int .i64 ((y:Int)+h),.int .i64 h,.int .i64 ((x:Int)+h),.int .i64 ((y:Int)+h),.int .i64 h]) (by simp [results,Tryz.results116,go_sem]) rfl ?_
 exact ⟨by simp,((Below.refl _ _).alloc (Nat.le_refl _) _).alloc (by simp) _⟩
structure RoomA (c:Nat) (t:WS):Prop where
 ok:Pack.Ok t
 m:t.m+lenB c+20000<=1000000
theorem RoomA.room {c:Nat} {t:WS} (h:RoomA c t) {n:Nat} (hn:n<=16):Room t [] (57*(n*n)+22):=⟨h.ok,by have:=nn_le hn;have:=h.m;omega,by have:=nn_le hn;simp only [List.length_nil];omega⟩
def AreaOk (z q nb C Lo:Nat) (mh mb:Value) (T:List Px) (T0:Option (List Px)) (c n:Nat):Prop:=∀ (w:World) (a:Nat) (va:Value) (t:WS) (la:List (Nat × Int)) (x y:Nat),FwG w Lo q z nb C mh mb T T0->DrAt w a va t la->x+n<=z->y+n<=z->RoomA c t ->
  Calls Tryz.prog 42 #[.pointer (some ⟨q,0,none⟩),.pointer (some ⟨a,0,none⟩),.agg #[.int .i64 x,.int .i64 y,.int .i64 n]] w (BlkPostW w t (areaB z T T0 c t x y n))
set_option maxRecDepth 100000 in
theorem pSplitW {z q nb C Lo:Nat} {mh mb:Value} {T:List Px} {T0:Option (List Px)} {c h:Nat} (ih:AreaOk z q nb C Lo mh mb T T0 c h) (hT:∀ p ∈ T,okPx p) (hz:z<=16) (hh:h=4*2 ^ c) (n:Nat) (hn:n=2*h)
  (w:World) (a:Nat) (va:Value) (t:WS) (la:List (Nat × Int)) (x y:Nat) (hf:FwG w Lo q z nb C mh mb T T0) (hdr:DrAt w a va t la) (hx:x+n<=z) (hy:y+n<=z) (ro:RoomA (c+1) t) :
  Calls Tryz.prog 79 #[.pointer (some ⟨q,0,none⟩),.pointer (some ⟨a,0,none⟩),.agg #[.int .i64 x,.int .i64 y,.int .i64 n]] w (BlkPostW w t (spl (fun s x y=>areaB z T T0 c s x y h) t (ctx1 n) x y h 4)):=by
 obtain ⟨H,hH⟩:∃ H,H=w.heap.size:=⟨_,rfl⟩
 obtain ⟨W1,hW1⟩:∃ W1,W1=w.alloc (.cells #[.int .i64 x,.int .i64 y,.int .i64 n] 100):=⟨_,rfl⟩
 have hB1:Below w.heap.size w W1:=by rw [hW1];exact (Below.refl _ w).alloc (Nat.le_refl _) _
 have x0:W1.heap[H]?=some (.cells #[.int .i64 x,.int .i64 y,.int .i64 n] 100):=by rw [hW1,hH];exact heap_alloc_last w _
 have h8:h<=8:=by omega
 obtain ⟨D,hD⟩:∃ D,D=W1.heap.size:=⟨_,rfl⟩
 obtain ⟨K,hK⟩:∃ K:Nat,K=(if n=16 then 0 else 1):=⟨_,rfl⟩
 have hK4:K<400:=by rw [hK];split <;> decide
 obtain ⟨Q,hQ⟩:∃ Q:Array Value,Q=#[.int .i64 x,.int .i64 y,.int .i64 h,.int .i64 ((x+h:Nat):Int),.int .i64 y,.int .i64 h,.int .i64 x,.int .i64 ((y+h:Nat):Int),.int .i64 h,.int .i64 ((x+h:Nat):Int),.int .i64 ((y+h:Nat):Int),.int .i64 h]:=⟨_,rfl⟩
 obtain ⟨S,hS⟩:∃ S:Nat->Pk.Bts,S=spl (fun s x y=>areaB z T T0 c s x y h) t (ctx1 n) x y h:=⟨_,rfl⟩
 rw [<- hS]
 have hSl:∀ i,i<=4->Pack.BitsOk (S i)/\(S i).length<=i*lenB c+1:=fun i hi=>by
  rw [hS]
  have:=spl_ok (A:=fun s x y=>areaB z T T0 c s x y h) (t:=t) (n:=n) (x:=x) (y:=y) (h:=h) (L:=lenB c) (fun s i hi=>by
   have h5:i % 2*h<=h:=by rcases (by omega:i % 2=0 \/ i % 2=1) with e|e <;> rw [e] <;> omega
   have h6:i / 2*h<=h:=by rcases (by omega:i / 2=0 \/ i / 2=1) with e|e <;> rw [e] <;> omega
   have:=area_ok (T0:=T0) hT hz c s (x+i % 2*h) (y+i / 2*h) h hh (by omega) (by omega)
   exact ⟨this.1,this.2.1⟩) i hi
  exact ⟨this.1,this.2.1⟩
 have hS0:S 0=[(K,1)]:=by rw [hS,hK];rfl
 have ar:∀ W,Below W1.heap.size W1 W->W.cell? ⟨H,0,none⟩=some (.int .i64 x)/\W.cell? ⟨H,1,none⟩=some (.int .i64 y)/\W.cell? ⟨H,2,none⟩=some (.int .i64 n):=fun W bW=>by
  have e0:W.heap[H]?=some (.cells #[.int .i64 x,.int .i64 y,.int .i64 n] 100):=(bW.block H (heap_lt0 x0)).trans x0
  exact ⟨cell_of_row _ _ 0 _ _ _ e0,cell_of_row _ _ 1 _ _ _ e0,cell_of_row _ _ 2 _ _ _ e0⟩
 have HSC:Hid (∀ w,Calls Tryz.prog 115 #[.int .i64 n] w fun e w'=>e=.returned (.int .i64 K)/\w'=w):=fun w=>by rw [hK];exact pSplitContextW w n
 have HQU:Hid (∀ w,Calls Tryz.prog 116 #[.agg #[.int .i64 x,.int .i64 y,.int .i64 n]] w fun e w'=>e=.returned (.agg Q)/\Below w.heap.size w w'):=fun w=>by rw [hQ];exact pQuartersW w x y n h (by omega) (by omega) hn h8
 have HNX:Hid (Calls Tryz.prog 111 #[.pointer (some ⟨a,0,none⟩)] W1 fun e w1=>e=.returned (.pointer (some ⟨D,0,none⟩))/\(w1.cell? ⟨H,0,none⟩=some (.int .i64 x)/\w1.cell? ⟨H,1,none⟩=some (.int .i64 y)/\w1.cell? ⟨H,2,none⟩=some (.int .i64 n)) /\
   Hid (Calls Tryz.prog 114 #[.pointer (some ⟨D,0,none⟩),.int .i64 K,.int .i64 1] w1 fun e w2=>e=.returned (.tuple #[])/\(w2.cell? ⟨H,0,none⟩=some (.int .i64 x)/\w2.cell? ⟨H,1,none⟩=some (.int .i64 y)/\w2.cell? ⟨H,2,none⟩=some (.int .i64 n)) /\
    Hid (Below W1.heap.size W1 w2/\∃ v,DrAt w2 D v (Pack.puts t (S 0)) (S 0)/\∀ k,v.ownBlock=some k->W1.heap.size<=k))):=by
  refine (pNext W1 a va t la (hdr.below hB1)).mono fun e w1 ⟨e1,d1,b1⟩=>?_
  rw [<- hD] at e1 d1
  refine ⟨e1,ar w1 b1,?_⟩
  have:=(PutAt.refl d1).step (k:=K) (x:=1) ((ro.room (n:=n) (by omega)).le (by simp)) (fun _ hq=>absurd hq (List.not_mem_nil)) hK4 (.inr rfl)
  rw [List.nil_append,<- hS0] at this
  refine this.mono fun e w2 ⟨e2,v2,d2,r2⟩=>?_
  rw [List.nil_append] at d2
  have b2:Below W1.heap.size W1 w2:=b1.trans (r2.frm.below b1.size (fun k e=>e.elim (fun e=>by omega) (fun e=>by simp [Value.ownBlock] at e)))
  exact ⟨e2,ar w2 b2,b2,v2,d2,fun k e=>(r2.loc k e).elim (fun e=>by simp [Value.ownBlock] at e) (fun e=>Nat.le_trans b1.size e)⟩
 have hx0:=ar W1 (Below.refl _ _)
 obtain ⟨y0,y1,y2⟩:=hx0
 have HW1:Hid (W1=w.alloc (.cells #[.int .i64 x,.int .i64 y,.int .i64 n] 100)/\H=w.heap.size/\Below w.heap.size w W1/\D=W1.heap.size):=⟨hW1,hH,hB1,hD⟩
 have HF:Hid (FwG W1 Lo q z nb C mh mb T T0/\RoomA (c+1) t/\n=2*h/\h=4*2 ^ c/\x+n<=z/\y+n<=z):=⟨hf.below hB1,ro,hn,hh,hx,hy⟩
 have HS:Hid (∀ i,i<=4->Pack.BitsOk (S i)/\(S i).length<=i*lenB c+1):=hSl
 have HSS:Hid (S=spl (fun s x y=>areaB z T T0 c s x y h) t (ctx1 n) x y h):=hS
 have HQ:Hid (Q=#[.int .i64 x,.int .i64 y,.int .i64 h,.int .i64 ((x+h:Nat):Int),.int .i64 y,.int .i64 h,.int .i64 x,.int .i64 ((y+h:Nat):Int),.int .i64 h,.int .i64 ((x+h:Nat):Int),.int .i64 ((y+h:Nat):Int),.int .i64 h]):=hQ
 have IH:Hid (AreaOk z q nb C Lo mh mb T T0 c h):=ih
 clear hW1 hB1 x0 hf hdr ro hn hh hx hy hH hD hK hS hSl hS0 ar ih hQ
 go_enter Tryz.func79,Tryz.ntmps79
 go_wp2_with (first
  | (rw [<- HW1.out.1,<- HW1.out.2.1])
  | (go_at_call 111;refine HNX.out.mono ?_;rintro e w1 ⟨rfl,⟨a0,a1,a2⟩,HPK⟩)
  | (go_at_call 115;refine (HSC.out _).mono ?_;rintro e w1' ⟨rfl,rfl⟩)
  | (go_at_call 114;refine HPK.out.mono ?_;rintro e w2 ⟨rfl,⟨b0,b1,b2⟩,HST⟩;clear a0 a1 a2)
  | (go_at_call 116;refine (HQU.out _).mono ?_;rintro e w3 ⟨rfl,HB3⟩;clear b0 b1 b2))
 go_loopw [19] (fun v19 wr=>∃ i:Nat,i<=4/\v19=.int .i64 i/\Below W1.heap.size W1 wr/\∃ v,DrAt wr D v (Pack.puts t (S i)) (S i)/\∀ k,v.ownBlock=some k->W1.heap.size<=k) (fun v19 _=>4-(intOf v19).toNat)
 case atStart =>
  obtain ⟨g1,v,g2,g3⟩:=HST.out
  exact ⟨0,by omega,rfl,g1.trans (HB3.mono g1.size),v,g2.below HB3,g3⟩
 case round =>
  clear HST HB3 HNX HPK
  obtain ⟨i,hi,rfl,hb,hst⟩:=hrel
  by_cases hlt:i<4
  ·have hlt':(i:Int)<4:=by omega
   obtain ⟨X,hX⟩:∃ X,X=x+i % 2*h:=⟨_,rfl⟩
   obtain ⟨Y,hY⟩:∃ Y,Y=y+i / 2*h:=⟨_,rfl⟩
   have hix:=fun w=>quartIx x y h i X Y hlt hX hY w
   rw [<- HQ.out] at hix
   have HAR:Hid (Calls Tryz.prog 42 #[.pointer (some ⟨q,0,none⟩),.pointer (some ⟨D,0,none⟩),.agg #[.int .i64 X,.int .i64 Y,.int .i64 h]] (wr.alloc (.cells #[.int .i64 X,.int .i64 Y,.int .i64 h] 100)) fun e w4=>∃ bb,e=.returned (.pointer (some ⟨bb,0,none⟩)) /\
     Hid (Calls Tryz.prog 41 #[.pointer (some ⟨D,0,none⟩),.pointer (some ⟨bb,0,none⟩)] w4 fun e w5=>e=.returned (.tuple #[])/\Hid (Below W1.heap.size W1 w5/\∃ v,DrAt w5 D v (Pack.puts t (S (i+1))) (S (i+1))/\∀ k,v.ownBlock=some k->W1.heap.size<=k))):=by
    obtain ⟨v,d1,l1⟩:=hst
    obtain ⟨f1,f2,f3,f4,f5,f6⟩:=HF.out
    have ba:Below wr.heap.size wr (wr.alloc (.cells #[.int .i64 X,.int .i64 Y,.int .i64 h] 100)):=(Below.refl _ wr).alloc (Nat.le_refl _) _
    have h5:i % 2*h<=h:=by rcases (by omega:i % 2=0 \/ i % 2=1) with e|e <;> rw [e] <;> omega
    have h6:i / 2*h<=h:=by rcases (by omega:i / 2=0 \/ i / 2=1) with e|e <;> rw [e] <;> omega
    obtain ⟨s1,s2⟩:=HS.out i hi
    obtain ⟨s3,s4⟩:=HS.out (i+1) hlt
    have s5:i*lenB c<=3*lenB c:=Nat.mul_le_mul_right _ (by omega)
    have hlb:lenB (c+1)=4*lenB c+1:=rfl
    have hm:=Pack.puts_m (S i) t
    have hro:RoomA c (Pack.puts t (S i)):=⟨Pack.puts_ok _ t f2.ok fun q hq=>(s1 q hq).1,by have:=f2.m;omega⟩
    have hSs:S (i+1)=S i++areaB z T T0 c (Pack.puts t (S i)) X Y h:=by rw [HSS.out,hX,hY];rfl
    have ha:=area_ok (T0:=T0) f1.fw.ok hz c (Pack.puts t (S i)) X Y h f4 (by omega) (by omega)
    refine (IH.out _ D v (Pack.puts t (S i)) (S i) X Y ((f1.below hb).below ba) (d1.below ba) (by omega) (by omega) hro).mono fun e w4 ⟨bb,vb,e1,d4,b4,l4,l5⟩=>⟨bb,e1,?_⟩
    have hDw:D<wr.heap.size:=d1.up
    rw [World.size_alloc] at l4 l5
    refine (pAppend w4 D bb v vb _ _ _ _ (d1.below (ba.trans (b4.mono ba.size))) d4 (by omega) (fun e=>by have:=l5 D e;omega) ha.2.2 (by have:=f2.m;omega) (by have:=ha.2.1;have:=f2.m;omega)).mono fun e w5 ⟨e5,v5,d5,r5⟩=>?_
    have b14:Below W1.heap.size W1 w4:=hb.trans ((ba.trans (b4.mono ba.size)).mono hb.size)
    have hD:=HW1.out.2.2.2
    refine ⟨e5,b14.trans (r5.frm.below b14.size (fun k e=>e.elim (fun e=>by omega) (fun e=>l1 k e))),v5,?_,fun k e=>(r5.loc k e).elim (fun e=>l1 k e) (fun e=>Nat.le_trans b14.size e)⟩
    rw [hSs,puts_app']
    exact d5
   clear hb hst hX hY
   go_wp2_with (first
    | (go_at_call 42;refine HAR.out.mono ?_;rintro e w4 ⟨bb,rfl,HAP⟩)
    | (go_at_call 41;refine HAP.out.mono ?_;rintro e w5 ⟨rfl,HN5⟩))
   go_roundw
   case rel=>exact ⟨i+1,hlt,by go_num,HN5.out⟩
   case measure=>simp [intOf];omega
  ·have hlt':¬ (i:Int)<4:=by omega
   have HE:Hid (i=4/\Below W1.heap.size W1 wr/\∃ v,DrAt wr D v (Pack.puts t (S i)) (S i)/\∀ k,v.ownBlock=some k->W1.heap.size<=k):=⟨by omega,hb,hst⟩
   clear hb hst
   go_wp2
   go_ret
   obtain ⟨e1,e2,v,e3,e4⟩:=HE.out
   rw [e1] at e3
   obtain ⟨_,_,hB1,hD⟩:=HW1.out
   exact ⟨D,v,rfl,e3,hB1.trans (e2.mono hB1.size),by have:=hB1.size;omega,fun k e=>Nat.le_trans hB1.size (e4 k e)⟩
set_option maxRecDepth 100000 in
theorem pAreaZ (z q nb C Lo:Nat) (mh mb:Value) (T:List Px) (T0:Option (List Px)):AreaOk z q nb C Lo mh mb T T0 0 4:=by
 intro w a va t la x y hf hdr hx hy ro
 obtain ⟨H,hH⟩:∃ H,H=w.heap.size:=⟨_,rfl⟩
 obtain ⟨W1,hW1⟩:∃ W1,W1=w.alloc (.cells #[.int .i64 x,.int .i64 y,.int .i64 ((4:Nat):Int)] 100):=⟨_,rfl⟩
 have hB1:Below w.heap.size w W1:=by rw [hW1];exact (Below.refl _ w).alloc (Nat.le_refl _) _
 have x0:W1.heap[H]?=some (.cells #[.int .i64 x,.int .i64 y,.int .i64 ((4:Nat):Int)] 100):=by rw [hW1,hH];exact heap_alloc_last w _
 have HBK:Hid (Calls Tryz.prog 77 #[.pointer (some ⟨q,0,none⟩),.pointer (some ⟨a,0,none⟩),.agg #[.int .i64 x,.int .i64 y,.int .i64 4]] W1 fun e w2=>∃ bb,e=.returned (.pointer (some ⟨bb,0,none⟩))/\w2.cell? ⟨H,2,none⟩=some (.int .i64 4)/\Hid (BlkPostW W1 t (bestL z T T0 t x y 4 4) (.returned (.pointer (some ⟨bb,0,none⟩))) w2)):=by
  refine (pBlockW W1 Lo q z nb C mh mb T T0 (hf.below hB1) a va t la (hdr.below hB1) x y 4 (.inl rfl) hx hy (ro.room (by decide))).mono fun e w2 ⟨bb,v,e1,e2,e3,e4,e5⟩=>⟨bb,e1,?_,bb,v,rfl,e2,e3,e4,e5⟩
  have:=cell_of_row _ _ 2 _ _ _ ((e3.block H (heap_lt0 x0)).trans x0)
  exact this
 have y0:W1.cell? ⟨H,0,none⟩=some (.int .i64 x):=cell_of_row _ _ 0 _ _ _ x0
 have y1:W1.cell? ⟨H,1,none⟩=some (.int .i64 y):=cell_of_row _ _ 1 _ _ _ x0
 have y2:W1.cell? ⟨H,2,none⟩=some (.int .i64 4):=cell_of_row _ _ 2 _ _ _ x0
 have HW1:Hid (W1=w.alloc (.cells #[.int .i64 x,.int .i64 y,.int .i64 4] 100)/\H=w.heap.size/\Below w.heap.size w W1):=⟨hW1,hH,hB1⟩
 clear hW1 hB1 x0 hf hdr ro hx hy hH
 show Calls Tryz.prog 42 #[.pointer (some ⟨q,0,none⟩),.pointer (some ⟨a,0,none⟩),.agg #[.int .i64 x,.int .i64 y,.int .i64 4]] w (BlkPostW w t (bestL z T T0 t x y 4 4))
 go_enter Tryz.func42,Tryz.ntmps42
 go_wp2_with (first
  | (rw [<- HW1.out.1,<- HW1.out.2.1])
  | (go_at_call 77;refine HBK.out.mono ?_;rintro e w2 ⟨bb,rfl,b2,HP⟩))
 go_ret
 obtain ⟨b',v,e1,e2,e3,e4,e5⟩:=HP.out
 injection e1 with e1
 injection e1 with e1
 injection e1 with e1
 injection e1 with e1
 subst e1
 have hB:=HW1.out.2.2
 exact ⟨bb,v,rfl,e2,hB.trans (e3.mono hB.size),Nat.le_trans hB.size e4,fun k e=>Nat.le_trans hB.size (e5 k e)⟩
set_option maxRecDepth 100000 in
theorem pAreaS {z q nb C Lo:Nat} {mh mb:Value} {T:List Px} {T0:Option (List Px)} {c h:Nat} (ih:AreaOk z q nb C Lo mh mb T T0 c h) (hT:∀ p ∈ T,okPx p) (hz:z<=16) (hh:h=4*2 ^ c) (n:Nat) (hn:n=2*h) (hn3:n=8 \/ n=16):AreaOk z q nb C Lo mh mb T T0 (c+1) n:=by
 intro w a va t la x y hf hdr hx hy ro
 obtain ⟨H,hH⟩:∃ H,H=w.heap.size:=⟨_,rfl⟩
 obtain ⟨W1,hW1⟩:∃ W1,W1=w.alloc (.cells #[.int .i64 x,.int .i64 y,.int .i64 n] 100):=⟨_,rfl⟩
 have hB1:Below w.heap.size w W1:=by rw [hW1];exact (Below.refl _ w).alloc (Nat.le_refl _) _
 have x0:W1.heap[H]?=some (.cells #[.int .i64 x,.int .i64 y,.int .i64 n] 100):=by rw [hW1,hH];exact heap_alloc_last w _
 have ar:∀ W,Below W1.heap.size W1 W->W.cell? ⟨H,0,none⟩=some (.int .i64 x)/\W.cell? ⟨H,1,none⟩=some (.int .i64 y)/\W.cell? ⟨H,2,none⟩=some (.int .i64 n):=fun W bW=>by
  have e0:W.heap[H]?=some (.cells #[.int .i64 x,.int .i64 y,.int .i64 n] 100):=(bW.block H (heap_lt0 x0)).trans x0
  exact ⟨cell_of_row _ _ 0 _ _ _ e0,cell_of_row _ _ 1 _ _ _ e0,cell_of_row _ _ 2 _ _ _ e0⟩
 obtain ⟨BL,hBL⟩:∃ BL,BL=bestL z T T0 t x y n 4:=⟨_,rfl⟩
 obtain ⟨SP,hSP⟩:∃ SP,SP=spl (fun s x y=>areaB z T T0 c s x y h) t (ctx1 n) x y h 4:=⟨_,rfl⟩
 obtain ⟨P,hP⟩:∃ P,P=Pk.plainB z T x y n:=⟨_,rfl⟩
 obtain ⟨LT,hLT⟩:∃ LT,LT=Pk.lighter (Pack.puts t SP) (Pack.puts t BL):=⟨_,rfl⟩
 have HRES:Hid (areaB z T T0 (c+1) t x y n=if P then BL else if LT then SP else BL):=by
  rw [Hid,hP,hLT,hSP,hBL]
  show (if Pk.plainB z T x y n then _ else better t _ (some (spl (fun s x y=>areaB z T T0 c s x y (n / 2)) t (ctx1 n) x y (n / 2) 4)))=_
  rw [show n / 2=h by omega]
  rfl
 have HBK:Hid (Calls Tryz.prog 77 #[.pointer (some ⟨q,0,none⟩),.pointer (some ⟨a,0,none⟩),.agg #[.int .i64 x,.int .i64 y,.int .i64 n]] W1 fun e w2=>∃ bb,e=.returned (.pointer (some ⟨bb,0,none⟩))/\(w2.cell? ⟨H,0,none⟩=some (.int .i64 x)/\w2.cell? ⟨H,1,none⟩=some (.int .i64 y)/\w2.cell? ⟨H,2,none⟩=some (.int .i64 n)) /\
   Hid (Calls Tryz.prog 78 #[.pointer (some ⟨q,0,none⟩),.agg #[.int .i64 x,.int .i64 y,.int .i64 n]] w2 fun e w3=>e=.returned (.bool P)/\(w3.cell? ⟨H,0,none⟩=some (.int .i64 x)/\w3.cell? ⟨H,1,none⟩=some (.int .i64 y)/\w3.cell? ⟨H,2,none⟩=some (.int .i64 n))/\Hid (BlkPostW W1 t BL (.returned (.pointer (some ⟨bb,0,none⟩))) w3) /\
    Hid (Calls Tryz.prog 79 #[.pointer (some ⟨q,0,none⟩),.pointer (some ⟨a,0,none⟩),.agg #[.int .i64 x,.int .i64 y,.int .i64 n]] w3 fun e w4=>∃ sb,e=.returned (.pointer (some ⟨sb,0,none⟩)) /\
     Hid (Calls Tryz.prog 80 #[.pointer (some ⟨sb,0,none⟩),.pointer (some ⟨bb,0,none⟩)] w4 fun e w5=>e=.returned (.bool LT)/\Hid (BlkPostW W1 t BL (.returned (.pointer (some ⟨bb,0,none⟩))) w5/\BlkPostW W1 t SP (.returned (.pointer (some ⟨sb,0,none⟩))) w5))))):=by
  refine (pBlockW W1 Lo q z nb C mh mb T T0 (hf.below hB1) a va t la (hdr.below hB1) x y n (.inr hn3) hx hy (ro.room (by omega))).mono fun e w2 ⟨bb,v,e1,e2,e3,e4,e5⟩=>⟨bb,e1,ar w2 e3,?_⟩
  rw [<- hBL] at e2
  rw [hP]
  refine (pIsPlain w2 q z nb C mh mb T ((hf.below hB1).below e3).fw x y n hx hy (by omega)).mono fun e w3 ⟨g1,g2⟩=>?_
  have b3:=e3.trans (g2.mono e3.size)
  refine ⟨g1,ar w3 b3,⟨bb,v,rfl,e2.below g2,b3,e4,e5⟩,?_⟩
  refine (pSplitW ih hT hz hh n hn w3 a va t la x y ((hf.below hB1).below b3) ((hdr.below hB1).below b3) hx hy ro).mono fun e w4 ⟨sb,sv,k1,k2,k3,k4,k5⟩=>⟨sb,k1,?_⟩
  rw [<- hSP] at k2
  have b4:=b3.trans (k3.mono b3.size)
  have d4:=(e2.below g2).below k3
  rw [hLT]
  refine (pLighter w4 sb bb sv v _ _ _ _ k2 d4).mono fun e w5 ⟨m1,m2⟩=>⟨m1,⟨bb,v,rfl,d4.below m2,b4.trans (m2.mono b4.size),e4,e5⟩,sb,sv,rfl,k2.below m2,b4.trans (m2.mono b4.size),Nat.le_trans b3.size k4,fun k e=>Nat.le_trans b3.size (k5 k e)⟩
 have UP:Hid (∀ p bb w',BlkPostW W1 t p (.returned (.pointer (some ⟨bb,0,none⟩))) w'->BlkPostW w t p (.returned (.pointer (some ⟨bb,0,none⟩))) w'):=fun p bb w' ⟨b',v,e1,e2,e3,e4,e5⟩=>⟨b',v,e1,e2,hB1.trans (e3.mono hB1.size),Nat.le_trans hB1.size e4,fun k e=>Nat.le_trans hB1.size (e5 k e)⟩
 obtain ⟨y0,y1,y2⟩:=ar W1 (Below.refl _ _)
 have hn4:(((n:Nat):Int) == 4)=false:=by simp;omega
 have hn4':¬ (((n:Nat):Int)=4):=by omega
 have HW1:Hid (W1=w.alloc (.cells #[.int .i64 x,.int .i64 y,.int .i64 n] 100)/\H=w.heap.size):=⟨hW1,hH⟩
 rw [HRES.out]
 clear hW1 hB1 x0 hf hdr ro hx hy hH ar hBL hSP hP hLT HRES ih hn hn3 hh hT
 cases P with
 | true =>
  go_enter Tryz.func42,Tryz.ntmps42
  go_wp2_with (first
   | (rw [<- HW1.out.1,<- HW1.out.2])
   | (go_at_call 77;refine HBK.out.mono ?_;rintro e w2 ⟨bb,rfl,⟨a0,a1,a2⟩,HIP⟩)
   | (go_at_call 78;refine HIP.out.mono ?_;rintro e w3 ⟨rfl,⟨b0,b1,b2⟩,HBP,HSL⟩))
  go_ret
  exact UP.out _ _ _ HBP.out
 | false =>
  cases LT with
  | true =>
   go_enter Tryz.func42,Tryz.ntmps42
   go_wp2_with (first
    | (rw [<- HW1.out.1,<- HW1.out.2])
    | (go_at_call 77;refine HBK.out.mono ?_;rintro e w2 ⟨bb,rfl,⟨a0,a1,a2⟩,HIP⟩)
    | (go_at_call 78;refine HIP.out.mono ?_;rintro e w3 ⟨rfl,⟨b0,b1,b2⟩,HBP,HSL⟩)
    | (go_at_call 79;refine HSL.out.mono ?_;rintro e w4 ⟨sb,rfl,HLI⟩)
    | (go_at_call 80;refine HLI.out.mono ?_;rintro e w5 ⟨rfl,HEND⟩))
   go_ret
   exact UP.out _ _ _ HEND.out.2
  | false =>
   go_enter Tryz.func42,Tryz.ntmps42
   go_wp2_with (first
    | (rw [<- HW1.out.1,<- HW1.out.2])
    | (go_at_call 77;refine HBK.out.mono ?_;rintro e w2 ⟨bb,rfl,⟨a0,a1,a2⟩,HIP⟩)
    | (go_at_call 78;refine HIP.out.mono ?_;rintro e w3 ⟨rfl,⟨b0,b1,b2⟩,HBP,HSL⟩)
    | (go_at_call 79;refine HSL.out.mono ?_;rintro e w4 ⟨sb,rfl,HLI⟩)
    | (go_at_call 80;refine HLI.out.mono ?_;rintro e w5 ⟨rfl,HEND⟩))
   go_ret
   exact UP.out _ _ _ HEND.out.1
theorem pAreaW {z q nb C Lo:Nat} {mh mb:Value} {T:List Px} {T0:Option (List Px)} (hT:∀ p ∈ T,okPx p) (hz:z<=16) (n:Nat) (hn:n=4 \/ n=8 \/ n=16):AreaOk z q nb C Lo mh mb T T0 (Flm.cuts n) n:=by
 have h4:=pAreaZ z q nb C Lo mh mb T T0
 have h8:=pAreaS h4 hT hz rfl 8 rfl (.inl rfl)
 have h16:=pAreaS h8 hT hz rfl 16 rfl (.inr rfl)
 rcases hn with rfl|rfl|rfl
 ·exact h4
 ·exact h8
 ·exact h16
end
section
open Go.RowKit Go.Shelf
open Flm (Px FS okPx)
structure WrAt (w:World) (q:Nat) (u0 u1 mh mb:Value):Prop where
 c0:w.cell? ⟨q,0,none⟩=some u0
 c1:w.cell? ⟨q,1,none⟩=some u1
 c2:w.cell? ⟨q,2,none⟩=some mh
 c3:w.cell? ⟨q,3,none⟩=some mb
 fz:∀ o,o<4->w.frozen? ⟨q,o,none⟩=false
theorem WrAt.frm {S:Nat->Prop} {w w':World} {q:Nat} {u0 u1 mh mb:Value} (h:WrAt w q u0 u1 mh mb) (f:Frm S w w') (hq:¬ S q):WrAt w' q u0 u1 mh mb :=
 ⟨f.cell h.c0 hq,f.cell h.c1 hq,f.cell h.c2 hq,f.cell h.c3 hq,fun o ho=>(World.frozen?_of_block (a:=⟨q,o,none⟩) (f.block q (World.block_lt_of_cell? w _ h.c0) hq)).trans (h.fz o ho)⟩
theorem WrAt.below {w w':World} {q:Nat} {u0 u1 mh mb:Value} (h:WrAt w q u0 u1 mh mb) (f:Below w.heap.size w w'):WrAt w' q u0 u1 mh mb:=h.frm (Frm.of_below (S:=fun _=>False) f) (fun e=>e)
theorem WrAt.up {w:World} {q:Nat} {u0 u1 mh mb:Value} (h:WrAt w q u0 u1 mh mb):q<w.heap.size:=World.block_lt_of_cell? w _ h.c0
theorem WrAt.set0 {w:World} {q:Nat} {u0 u1 mh mb:Value} (h:WrAt w q u0 u1 mh mb) (u:Value):WrAt (w.setCell ⟨q,0,none⟩ u) q u u1 mh mb :=
 ⟨World.cell?_setCell_same _ _ _ h.c0,(World.cell?_setCell_other _ _ _ _ (by simp)).trans h.c1,(World.cell?_setCell_other _ _ _ _ (by simp)).trans h.c2,(World.cell?_setCell_other _ _ _ _ (by simp)).trans h.c3,fun o ho=>by rw [World.frozen?_setCell];exact h.fz o ho⟩
theorem WrAt.set1 {w:World} {q:Nat} {u0 u1 mh mb:Value} (h:WrAt w q u0 u1 mh mb) (u:Value):WrAt (w.setCell ⟨q,1,none⟩ u) q u0 u mh mb :=
 ⟨(World.cell?_setCell_other _ _ _ _ (by simp)).trans h.c0,World.cell?_setCell_same _ _ _ h.c1,(World.cell?_setCell_other _ _ _ _ (by simp)).trans h.c2,(World.cell?_setCell_other _ _ _ _ (by simp)).trans h.c3,fun o ho=>by rw [World.frozen?_setCell];exact h.fz o ho⟩
theorem WrAt.set2 {w:World} {q:Nat} {u0 u1 mh mb:Value} (h:WrAt w q u0 u1 mh mb) (u:Value):WrAt (w.setCell ⟨q,2,none⟩ u) q u0 u1 u mb :=
 ⟨(World.cell?_setCell_other _ _ _ _ (by simp)).trans h.c0,(World.cell?_setCell_other _ _ _ _ (by simp)).trans h.c1,World.cell?_setCell_same _ _ _ h.c2,(World.cell?_setCell_other _ _ _ _ (by simp)).trans h.c3,fun o ho=>by rw [World.frozen?_setCell];exact h.fz o ho⟩
theorem WrAt.set3 {w:World} {q:Nat} {u0 u1 mh mb:Value} (h:WrAt w q u0 u1 mh mb) (u:Value):WrAt (w.setCell ⟨q,3,none⟩ u) q u0 u1 mh u :=
 ⟨(World.cell?_setCell_other _ _ _ _ (by simp)).trans h.c0,(World.cell?_setCell_other _ _ _ _ (by simp)).trans h.c1,(World.cell?_setCell_other _ _ _ _ (by simp)).trans h.c2,World.cell?_setCell_same _ _ _ h.c3,fun o ho=>by rw [World.frozen?_setCell];exact h.fz o ho⟩
def BegPost (w:World) (q z nb C:Nat) (mh:Value) (T:List Px) (e:Ending) (w':World):Prop:=e=.returned (.tuple #[])/\Frm (fun k=>k=q) w w'/\∃ m base top,WrAt w' q (.int .i64 z) (.slice (some ⟨nb,0,none⟩) (z*z) C) m mh/\Plc w' base top m z (some T)/\w.heap.size<=base/\q<base/\∃ o,m=.map o
set_option maxRecDepth 100000 in
theorem pBegin (w:World) (q z nb C:Nat) (u0 u1 mh mb:Value) (T:List Px) (h:WrAt w q u0 u1 mh mb) (hm:∃ o,mh=.map o) (hz:z=4 \/ z=8 \/ z=16) (hp:PixIn w nb (z*z) T) (hT:∀ p ∈ T,okPx p) (hqn:nb ≠ q) :
  Calls Tryz.prog 40 #[.pointer (some ⟨q,0,none⟩),.agg #[.int .i64 z,.slice (some ⟨nb,0,none⟩) (z*z) C]] w (BegPost w q z nb C mh T):=by
 obtain ⟨om,rfl⟩:=hm
 obtain ⟨Z,hZ⟩:∃ Z,Z=z*z:=⟨_,rfl⟩
 obtain ⟨H,hH⟩:∃ H,H=w.heap.size:=⟨_,rfl⟩
 obtain ⟨W1,hW1⟩:∃ W1,W1=w.alloc (.cells #[.int .i64 z,.slice (some ⟨nb,0,none⟩) Z C] 89):=⟨_,rfl⟩
 have hB1:Below w.heap.size w W1:=by rw [hW1];exact (Below.refl _ w).alloc (Nat.le_refl _) _
 have x0:W1.heap[H]?=some (.cells #[.int .i64 z,.slice (some ⟨nb,0,none⟩) Z C] 89):=by rw [hW1,hH];exact heap_alloc_last w _
 have h1:=h.below hB1
 have hqH:q<H:=by rw [hH];exact h.up
 obtain ⟨X3,hX3⟩:∃ X3,X3=((W1.setCell ⟨q,0,none⟩ (.int .i64 z)).setCell ⟨q,1,none⟩ (.slice (some ⟨nb,0,none⟩) Z C)).setCell ⟨q,3,none⟩ (.map om):=⟨_,rfl⟩
 have h3:WrAt X3 q (.int .i64 z) (.slice (some ⟨nb,0,none⟩) Z C) (.map om) (.map om):=by rw [hX3];exact ((h1.set0 _).set1 _).set3 _
 have f3:Frm (fun k=>k=q) W1 X3:=by
  rw [hX3]
  exact Frm.setCell (p:=⟨q,3,none⟩) (Frm.setCell (p:=⟨q,1,none⟩) (Frm.setCell (p:=⟨q,0,none⟩) (Frm.refl (fun k=>k=q) W1) (.inl rfl) _) (.inl rfl) _) (.inl rfl) _
 have hbx:X3.heap[H]?=some (.cells #[.int .i64 z,.slice (some ⟨nb,0,none⟩) Z C] 89):=(f3.block H (heap_lt0 x0) (by omega)).trans x0
 have HLK:Hid (Calls Tryz.prog 76 #[.agg #[.int .i64 z,.slice (some ⟨nb,0,none⟩) Z C]] X3 fun e w4=>∃ b,e=.returned (.map (some b))/\w4.cell? ⟨q,2,none⟩=some (.map om)/\w4.frozen? ⟨q,2,none⟩=false/\Hid (BegPost w q z nb C (.map om) T (.returned (.tuple #[])) (w4.setCell ⟨q,2,none⟩ (.map (some b))))):=by
  have hl:=pLookOver (C:=C) X3 nb z T hz ((hp.below hB1).frm f3 hqn) hT
  rw [<- hZ] at hl
  refine hl.mono fun e w4 he=>?_
  obtain ⟨m,e1,e2,e3⟩:=he.plc
  have e2':=e2
  obtain ⟨b,es,clock,hm,_⟩:=e2'
  subst hm
  have h4:=h3.below e3
  refine ⟨b,e1,h4.c2,h4.fz 2 (by decide),rfl,?_,.map (some b),_,_,by rw [<- hZ];exact h4.set2 _,e2.frm (S:=fun k=>k=q) ?_ (fun k h1 _ e=>?_),Nat.le_trans hB1.size f3.size,h3.up,_,rfl⟩
  ·exact Frm.setCell (p:=⟨q,2,none⟩) (((Frm.of_below hB1).trans f3).trans (Frm.of_below e3)) (.inl rfl) _
  ·exact Frm.setCell (p:=⟨q,2,none⟩) (Frm.refl (fun k=>k=q) w4) (.inl rfl) _
  ·have:=h3.up
   omega
 have c0:=h1.c0
 have c1:=h1.c1
 have c2:=h1.c2
 have c3:=h1.c3
 have z0:=h1.fz 0 (by decide)
 have z1:=h1.fz 1 (by decide)
 have z3:=h1.fz 3 (by decide)
 have k0:=cell_of_row _ _ 0 _ _ _ x0
 have k1:=cell_of_row _ _ 1 _ _ _ x0
 have k2:=cell_of_row _ _ 0 _ _ _ hbx
 have k3:=cell_of_row _ _ 1 _ _ _ hbx
 simp at k0 k1 k2 k3
 have HW:Hid (W1=w.alloc (.cells #[.int .i64 z,.slice (some ⟨nb,0,none⟩) Z C] 89)/\H=w.heap.size/\X3=((W1.setCell ⟨q,0,none⟩ (.int .i64 z)).setCell ⟨q,1,none⟩ (.slice (some ⟨nb,0,none⟩) Z C)).setCell ⟨q,3,none⟩ (.map om)):=⟨hW1,hH,hX3⟩
 have hqH2:H ≠ q:=by omega
 rw [<- hZ]
 clear hW1 hB1 x0 h h1 hX3 h3 f3 hbx hp hT hH hZ hz hqn
 have T1:Hid True:=trivial
 have T2:Hid True:=trivial
 go_enter Tryz.func40,Tryz.ntmps40
 go_wp2_with (first
  | (clear T1;rw [<- HW.out.1,<- HW.out.2.1])
  | (clear T2;rw [<- HW.out.2.2];clear c0 c1 c2 c3 z0 z1 z3 k0 k1)
  | (go_at_call 76;refine HLK.out.mono ?_;rintro e w4 ⟨b,rfl,d1,d2,HE⟩))
 go_end0
 exact HE.out
end
section
open Go.RowKit
open Flm (Px FS okPx)
open Pk (better areaL blockL filmL)
def prevT (F:List (List Px)) (f:Nat):Option (List Px):=if f=0 then none else some (F.getD (f-1) [])
theorem map_pre (o:Option Pk.Bts) (a b:Pk.Bts):o.map (fun l=>(a++b)++l)=o.map (fun l=>a++(b++l)):=by
 cases o with
 | none=>rfl
 | some l=>exact congrArg some (List.append_assoc a b l)
theorem best_block (z:Nat) (F:List (List Px)) (f:Nat) (t:WS) (x y n:Nat):bestL z (F.getD f []) (prevT F f) t x y n 4=blockL z F f t x y n:=by
 have e0:bestL z (F.getD f []) (prevT F f) t x y n 1=Pk.softC z (F.getD f []) x y n:=by
  show (Pk.hd n 0++Pk.kind 0 0)++_=_
  rw [List.append_assoc]
  rfl
 have e1:cand z (F.getD f []) (prevT F f) x y n 1=Pk.fewC z (F.getD f []) x y n:=by
  unfold cand
  rw [map_pre]
  show ((Pk.coloursL z (F.getD f []) x y n).map _).map _=_
  rw [Option.map_map]
  rfl
 have e2:cand z (F.getD f []) (prevT F f) x y n 2=Pk.copyC z (F.getD f []) x y n:=by
  unfold cand
  rw [map_pre]
  show ((Pk.nearL _ x y _).map _).map _=_
  rw [Option.map_map]
  rfl
 have e3:cand z (F.getD f []) (prevT F f) x y n 3=Pk.stillC z F f x y n:=by
  unfold cand
  rw [map_pre]
  show ((Pk.nearL (fun _=>true) x y (placesO z (prevT F f) n _)).map _).map _=_
  rw [Option.map_map]
  unfold Pk.stillC prevT
  by_cases hf:f=0
  ·rw [if_pos hf,if_pos hf];rfl
  ·rw [if_neg hf,if_neg hf];rfl
 unfold Pk.blockL
 rw [<- e0,<- e1,<- e2,<- e3]
 rfl
theorem areaB_L (z:Nat) (F:List (List Px)) (f:Nat):∀ (c:Nat) (t:WS) (x y n:Nat),areaB z (F.getD f []) (prevT F f) c t x y n=areaL z F f c t x y n
 | 0,t,x,y,n=>best_block z F f t x y n
 | c+1,t,x,y,n=>by
  have ih:(fun s x y=>areaB z (F.getD f []) (prevT F f) c s x y (n / 2))=fun s x y=>areaL z F f c s x y (n / 2):=by
   funext s x y
   exact areaB_L z F f c s x y (n / 2)
  unfold areaB Pk.areaL
  rw [best_block,ih]
  dsimp only
  simp only [spl,ctx1,show 0 % 2=0 from rfl,show 0 / 2=0 from rfl,show 1 % 2=1 from rfl,show 2 / 2=1 from rfl,Nat.zero_mul,Nat.one_mul,Nat.add_zero]
end
section
open Go.RowKit Go.Shelf
open Flm (Px FS okPx)
open Pk (filmL areaL)
def FrsIn (w:World) (fa:Option Addr) (N z:Nat) (F:List (List Px)) (nbs cs:Nat->Nat):Prop:=N=0 \/ ∃ fb off,fa=some ⟨fb,off,none⟩/\∀ j,j<N->w.cell? ⟨fb,off+j,none⟩=some (.slice (some ⟨nbs j,0,none⟩) (z*z) (cs j))/\PixIn w (nbs j) (z*z) (F.getD j [])
theorem film_ok {z:Nat} {F:List (List Px)} (hF:∀ f,∀ p ∈ F.getD f [],okPx p) (hz:z=4 \/ z=8 \/ z=16):∀ f,Pack.BitsOk (filmL z F f)/\(filmL z F f).length<=f*20805
 | 0=>⟨Pk.ok_nil,by rw [Nat.zero_mul];exact Nat.le_refl 0⟩
 | f+1=>by
  obtain ⟨h1,h2⟩:=film_ok hF hz f
  have h3:=area_ok (z:=z) (T0:=prevT F f) (hF f) (by omega) (Flm.cuts z) (Pack.puts Pack.init (filmL z F f)) 0 0 z (by rcases hz with rfl|rfl|rfl <;> rfl) (by omega) (by omega)
  rw [areaB_L] at h3
  have h4:lenB (Flm.cuts z)<=20805:=by rcases hz with rfl|rfl|rfl <;> decide
  refine ⟨Pk.ok_app h1 h3.1,?_⟩
  show (filmL z F f++_).length<=_
  rw [List.length_append,Nat.succ_mul]
  have:=h3.2.1
  omega
theorem conv2 (w:World) (a b:Int) :
  Sem.run Tryz.prog (convert 101 9 (.slice (some ⟨w.heap.size,0,none⟩) 2 2)) (w.alloc (.cells #[.int .u8 a,.int .u8 b] 5))=.ok (.string (strOfNums [a,b])) (w.alloc (.cells #[.int .u8 a,.int .u8 b] 5)):=by
 refine run_convert_bytes_arg _ 101 5 Tryz.underlying101 Tryz.underlying5 w.heap.size 0 2 2 [a,b] rfl ?_ 9 Tryz.underlying9
 intro i hi
 have h:=heap_alloc_last w (.cells #[.int .u8 a,.int .u8 b] 5)
 have c:=cell_of_row _ _ i _ _ _ h
 rw [Nat.zero_add,c]
 match i,hi with
 | 0,_=>rfl
 | 1,_=>rfl
theorem conv2b {w w':World} (g:Nat) (a b:Int) (h:w.heap[g]?=some (.cells #[.int .u8 a,.int .u8 b] 5 (0,0))) (f:Below w.heap.size w w') :
  Sem.run Tryz.prog (convert 101 9 (.slice (some ⟨g,0,none⟩) 2 2)) w'=.ok (.string (strOfNums [a,b])) w':=by
 refine run_convert_bytes_arg _ 101 5 Tryz.underlying101 Tryz.underlying5 g 0 2 2 [a,b] rfl ?_ 9 Tryz.underlying9
 intro i hi
 have c:=cell_of_row _ _ i _ _ _ ((f.block g (heap_lt0 h)).trans h)
 rw [Nat.zero_add,c]
 match i,hi with
 | 0,_=>rfl
 | 1,_=>rfl
structure WSt (w wr:World) (H A z:Nat) (F:List (List Px)) (j:Nat):Prop where
 bel:Below w.heap.size w wr
 wa:∃ u0 u1 mh mb,WrAt wr (H+1) u0 u1 mh mb/\(∃ o,mh=.map o)/\∃ base top,Plc wr base top mh z (prevT F j)/\H+1<base
 dr:∃ va,DrAt wr A va (Pack.puts Pack.init (filmL z F j)) (filmL z F j)/\∀ k,va.ownBlock=some k->H+1<k
 aq:H+1<A
set_option maxRecDepth 100000 in
theorem pWrite (w:World) (fa:Option Addr) (N fc z:Nat) (F:List (List Px)) (nbs cs:Nat->Nat) (h:FrsIn w fa N z F nbs cs) (hF:∀ f,∀ p ∈ F.getD f [],okPx p) (hz:z=4 \/ z=8 \/ z=16) (hN:N<=8) (hm:(Pack.fin (filmL z F N)).m<=150000) (SG:SoftG w w.heap.size) :
  Calls Tryz.prog 20 #[.agg #[.int .i64 z,.slice fa N fc]] w fun e w'=>e=.returned (.string ((⟨#[70,66]⟩:ByteArray)++strOfNums [(z:Int),(N:Int)]++endStr (Pack.fin (filmL z F N))))/\Below w.heap.size w w':=by
 have hmx:Tryz.prog.follows .mixedOrders=true:=by kernel_rfl
 obtain ⟨H,hH⟩:∃ H,H=w.heap.size:=⟨_,rfl⟩
 obtain ⟨W2,hW2⟩:∃ W2,W2=(w.alloc (.cells #[.int .i64 z,.slice fa N fc] 27)).alloc (.cells #[.int .i64 0,.slice none 0 0,.map none,.map none] 93):=⟨_,rfl⟩
 have hB2:Below w.heap.size w W2:=by rw [hW2];exact ((Below.refl _ w).alloc (Nat.le_refl _) _).alloc (by simp) _
 have hs2:W2.heap.size=H+2:=by rw [hW2,hH];simp
 have x0:W2.heap[H]?=some (.cells #[.int .i64 z,.slice fa N fc] 27):=by rw [hW2,hH];exact (Below.heap_alloc _ _ _ (by simp only [World.size_alloc];omega)).trans (heap_alloc_last w _)
 have x1:W2.heap[H+1]?=some (.cells #[.int .i64 0,.slice none 0 0,.map none,.map none] 93):=by
  have:=heap_alloc_last (w.alloc (.cells #[.int .i64 z,.slice fa N fc] 27)) (.cells #[.int .i64 0,.slice none 0 0,.map none,.map none] 93)
  rw [World.size_alloc] at this
  rw [hW2,hH];exact this
 have fb:∀ W,Below W2.heap.size W2 W->W.cell? ⟨H,0,none⟩=some (.int .i64 z)/\W.cell? ⟨H,1,none⟩=some (.slice fa N fc):=fun W bW=>by
  have e0:W.heap[H]?=some (.cells #[.int .i64 z,.slice fa N fc] 27):=(bW.block H (heap_lt0 x0)).trans x0
  exact ⟨cell_of_row _ _ 0 _ _ _ e0,cell_of_row _ _ 1 _ _ _ e0⟩
 have HND:Hid (Calls Tryz.prog 39 #[] W2 fun e w3=>∃ A,e=.returned (.pointer (some ⟨A,0,none⟩))/\w3.cell? ⟨H,1,none⟩=some (.slice fa N fc)/\Hid (WSt w w3 H A z F 0/\w3.heap[H]?=some (.cells #[.int .i64 z,.slice fa N fc] 27))):=by
  refine (pNewDraft W2).mono fun e w3 ⟨A,e1,e2,e3,e4⟩=>⟨A,e1,(fb w3 e4).2,⟨hB2.trans (e4.mono hB2.size),⟨.int .i64 0,.slice none 0 0,.map none,.map none,?_,⟨none,rfl⟩,H+1+1,0,rfl,Nat.lt_succ_self _⟩,⟨_,e3,fun k e=>by simp [Value.ownBlock] at e⟩,by omega⟩,(e4.block H (heap_lt0 x0)).trans x0⟩
  have e0:w3.heap[H+1]?=some (.cells #[.int .i64 0,.slice none 0 0,.map none,.map none] 93):=(e4.block _ (heap_lt0 x1)).trans x1
  exact ⟨cell_of_row _ _ 0 _ _ _ e0,cell_of_row _ _ 1 _ _ _ e0,cell_of_row _ _ 2 _ _ _ e0,cell_of_row _ _ 3 _ _ _ e0,fun o _=>frozen_of_row _ _ o _ _ e0⟩
 have HW2:Hid (W2=(w.alloc (.cells #[.int .i64 z,.slice fa N fc] 27)).alloc (.cells #[.int .i64 0,.slice none 0 0,.map none,.map none] 93)/\H=w.heap.size/\W2.heap.size=H+2):=⟨hW2,hH,hs2⟩
 have HFI:Hid (FrsIn w fa N z F nbs cs/\(∀ f,∀ p ∈ F.getD f [],okPx p)/\(z=4 \/ z=8 \/ z=16)/\SoftG w w.heap.size/\(Pack.fin (filmL z F N)).m<=150000):=⟨h,hF,hz,SG,hm⟩
 clear hW2 hB2 hs2 x0 x1 fb h hF hz SG hm hH
 go_enter Tryz.func20,Tryz.ntmps20
 go_wp2_with (first
  | (rw [<- HW2.out.1,<- HW2.out.2.1])
  | (go_at_call 39;refine HND.out.mono ?_;rintro e w3 ⟨A,rfl,d1,HST⟩))
 go_loopw [13] (fun v13 wr=>∃ j:Nat,j<=N/\v13=.int .i64 j/\WSt w wr H A z F j/\wr.heap[H]?=some (.cells #[.int .i64 z,.slice fa N fc] 27)) (fun v13 _=>N-(intOf v13).toNat)
 case atStart=>exact ⟨0,Nat.zero_le _,rfl,HST.out⟩
 case round =>
  clear HST HND d1
  obtain ⟨j,hj,rfl,hst,hfb⟩:=hrel
  by_cases hlt:j<N
  ·have hlt':(j:Int)<(N:Int):=by omega
   obtain ⟨f1,f2,f3,f4,f5⟩:=HFI.out
   obtain ⟨fbk,off,rfl,hfr⟩:=f1.resolve_left (by omega)
   obtain ⟨g1,g2⟩:=hfr j hlt
   obtain ⟨nb,hnb⟩:∃ nb,nb=nbs j:=⟨_,rfl⟩
   obtain ⟨C,hC⟩:∃ C,C=cs j:=⟨_,rfl⟩
   obtain ⟨Z,hZ⟩:∃ Z,Z=z*z:=⟨_,rfl⟩
   rw [<- hnb,<- hC,<- hZ] at g1
   rw [<- hnb] at g2
   have k1:wr.cell? ⟨fbk,off+j,none⟩=some (.slice (some ⟨nb,0,none⟩) Z C):=(hst.bel.cell (World.block_lt_of_cell? w _ g1)).trans g1
   have k2:wr.cell? ⟨H,0,none⟩=some (.int .i64 z):=cell_of_row _ _ 0 _ _ _ hfb
   have HBG:Hid (Calls Tryz.prog 40 #[.pointer (some ⟨H+1,0,none⟩),.agg #[.int .i64 z,.slice (some ⟨nb,0,none⟩) Z C]] wr fun e w1=>e=.returned (.tuple #[])/\w1.cell? ⟨H,0,none⟩=some (.int .i64 z) /\
     Hid (Calls Tryz.prog 42 #[.pointer (some ⟨H+1,0,none⟩),.pointer (some ⟨A,0,none⟩),.agg #[.int .i64 0,.int .i64 0,.int .i64 z]] w1 fun e w2=>∃ bb,e=.returned (.pointer (some ⟨bb,0,none⟩)) /\
      Hid (Calls Tryz.prog 41 #[.pointer (some ⟨A,0,none⟩),.pointer (some ⟨bb,0,none⟩)] w2 fun e w4=>e=.returned (.tuple #[])/\Hid (WSt w w4 H A z F (j+1)/\w4.heap[H]?=some (.cells #[.int .i64 z,.slice (some ⟨fbk,off,none⟩) N fc] 27))))):=by
    obtain ⟨bl,⟨u0,u1,mh,mb,wa,wm,base,top,pl,qb⟩,⟨va,dr,dl⟩,aq⟩:=hst
    have hHw:=HW2.out.2.1
    have hnw:nb<w.heap.size:=g2.1
    rw [hZ]
    refine (pBegin wr (H+1) z nb C u0 u1 mh mb (F.getD j []) wa wm f3 (g2.below bl) (f2 j) (by omega)).mono fun e w1 ⟨e1,fr,m,b1,t1,wa1,pl1,hb1,qb1,om⟩=>?_
    have hH1:w1.heap[H]?=some (.cells #[.int .i64 z,.slice (some ⟨fbk,off,none⟩) N fc] 27):=(fr.block H (heap_lt0 hfb) (by omega)).trans hfb
    refine ⟨e1,cell_of_row _ _ 0 _ _ _ hH1,?_⟩
    have bl1:Below w.heap.size w w1:=bl.trans (fr.below bl.size (fun k e=>by omega))
    have hgl:=f4.lt
    have fg:FwG w1 (H+1+1) (H+1) z nb C m mh (F.getD j []) (prevT F j):=by
     refine ⟨⟨wa1.c0,wa1.c1,wa1.c2,wa1.c3,(g2.below bl).frm fr (by omega),f3,f2 j⟩,⟨b1,t1,pl1⟩,⟨base,top,pl.frm fr (fun k h1 _ e=>by omega)⟩,f4.of (bl1.block _ hgl) (by omega),Nat.lt_succ_self _,by omega,Nat.succ_le_of_lt wa1.up⟩
    have dr1:DrAt w1 A va (Pack.puts Pack.init (filmL z F j)) (filmL z F j):=dr.frm fr (by omega) (fun k e e0=>by have:=dl k e;omega)
    obtain ⟨o1,o2⟩:=film_ok f2 f3 j
    obtain ⟨o3,o4⟩:=film_ok f2 f3 (j+1)
    have hjl:j*20805<=8*20805:=Nat.mul_le_mul_right _ (by omega)
    have hpm:=Pack.puts_m (filmL z F j) Pack.init
    have hlb:lenB (Flm.cuts z)<=20805:=by rcases f3 with rfl|rfl|rfl <;> decide
    have hi0:Pack.init.m=0:=rfl
    have hro:RoomA (Flm.cuts z) (Pack.puts Pack.init (filmL z F j)):=⟨Pack.puts_ok _ _ Pack.init_ok fun q hq=>(o1 q hq).1,by omega⟩
    have har:=pAreaW (f2 j) (by omega) z f3 w1 A va _ _ 0 0 fg dr1 (by omega) (by omega) hro
    have hao:=area_ok (z:=z) (T0:=prevT F j) (f2 j) (by omega) (Flm.cuts z) (Pack.puts Pack.init (filmL z F j)) 0 0 z (by rcases f3 with rfl|rfl|rfl <;> rfl) (by omega) (by omega)
    rw [areaB_L] at har hao
    refine har.mono fun e w2 ⟨bb,vb,e2,d2,b2,l2,l3⟩=>⟨bb,e2,?_⟩
    refine (pAppend w2 A bb va vb _ _ _ _ (dr1.below b2) d2 (by have:=dr1.up;omega) (fun e=>by have:=l3 A e;have:=dr1.up;omega) hao.2.2 (by omega) (by have:=hao.2.1;omega)).mono fun e w4 ⟨e4,v4,d4,r4⟩=>?_
    have bl2:Below w.heap.size w w2:=bl1.trans (b2.mono bl1.size)
    have hnq:∀ k,(k=A \/ va.ownBlock=some k)->H+1<k:=fun k e=>e.elim (fun e=>by omega) (fun e=>dl k e)
    refine ⟨e4,⟨bl2.trans (r4.frm.below bl2.size (fun k e=>by have:=hnq k e;omega)),⟨_,_,m,mh,(wa1.below b2).frm r4.frm (fun e=>by have:=hnq _ e;omega),om,b1,t1,?_,qb1⟩,⟨v4,?_,fun k e=>(r4.loc k e).elim (fun e=>dl k e) (fun e=>by have:=wa1.up;have:=b2.size;omega)⟩,aq⟩,?_⟩
    ·have hp:Plc w4 b1 t1 m z (some (F.getD j [])):=(pl1.below b2).frm r4.frm (fun k h1 _ e=>e.elim (fun e=>by have:=dr.up;omega) (fun e=>by have:=(World.ownsRow.lt dr.own k e).2;omega))
     unfold prevT
     rw [if_neg (Nat.succ_ne_zero j),Nat.add_sub_cancel]
     exact hp
    ·show DrAt w4 A v4 (Pack.puts Pack.init (filmL z F j++_)) (filmL z F j++_)
     rw [puts_app']
     exact d4
    ·exact (r4.frm.block H (Nat.lt_of_lt_of_le (heap_lt0 hH1) b2.size) (fun e=>by have:=hnq _ e;omega)).trans ((b2.block H (heap_lt0 hH1)).trans hH1)
   have hfrz:(0:Int)<=(j:Int):=by omega
   clear hst hfb hfr g1 g2 f1 f2 f3 f4 f5 hnb hC hZ
   go_wp2_with (first
    | (go_at_call 40;refine HBG.out.mono ?_;rintro e w1 ⟨rfl,d2,HAR⟩)
    | (go_at_call 42;refine HAR.out.mono ?_;rintro e w2 ⟨bb,rfl,HAP⟩)
    | (go_at_call 41;refine HAP.out.mono ?_;rintro e w4 ⟨rfl,HN4⟩))
   go_roundw
   case rel=>exact ⟨j+1,hlt,by go_num,HN4.out⟩
   case measure=>simp [intOf];omega
  ·have hlt':¬ (j:Int)<(N:Int):=by omega
   have hjN:j=N:=by omega
   obtain ⟨f1,f2,f3,f4,f5⟩:=HFI.out
   obtain ⟨S,hS⟩:∃ S,S=endStr (Pack.fin (filmL z F N)):=⟨_,rfl⟩
   have hpk:∀ wx,Below wr.heap.size wr wx->Calls Tryz.prog 43 #[.pointer (some ⟨A,0,none⟩)] wx fun e w'=>e=.returned (.string S)/\Below wx.heap.size wx w':=fun wx bx=>by
    obtain ⟨va,dr,_⟩:=hst.dr
    rw [hjN] at dr
    obtain ⟨o1,o2⟩:=film_ok f2 f3 N
    have:N*20805<=8*20805:=Nat.mul_le_mul_right _ hN
    rw [hS]
    exact pPack wx A va _ _ (dr.below bx) (by omega) o1 f5
   have hdw:Below wr.heap.size wr wr.drew:=⟨rfl,rfl,rfl,Nat.le_refl _,fun _ _=>rfl⟩
   have cel:∀ w',Below wr.heap.size wr w'->w'.cell? ⟨H,0,none⟩=some (.int .i64 z)/\w'.cell? ⟨H,1,none⟩=some (.slice fa N fc):=fun w' b=>by
    have e0:=(b.block H (heap_lt0 hfb)).trans hfb
    exact ⟨cell_of_row _ _ 0 _ _ _ e0,cell_of_row _ _ 1 _ _ _ e0⟩
   have HP1:Hid (Calls Tryz.prog 43 #[.pointer (some ⟨A,0,none⟩)] wr.drew fun e w'=>e=.returned (.string S)/\w'.cell? ⟨H,0,none⟩=some (.int .i64 z)/\w'.cell? ⟨H,1,none⟩=some (.slice fa N fc)/\Below wr.drew.heap.size wr.drew w'):=(hpk _ hdw).mono fun e w' he=>⟨he.1,(cel w' (hdw.trans he.2)).1,(cel w' (hdw.trans he.2)).2,he.2⟩
   have HP2:Hid (∀ o,Calls Tryz.prog 43 #[.pointer (some ⟨A,0,none⟩)] (wr.drew.alloc o) fun e w'=>e=.returned (.string S)/\w'.cell? ⟨H,0,none⟩=some (.int .i64 z)/\w'.cell? ⟨H,1,none⟩=some (.slice fa N fc)/\Below (wr.drew.alloc o).heap.size (wr.drew.alloc o) w'):=fun o=>(hpk _ (hdw.alloc (Nat.le_refl wr.heap.size) o)).mono fun e w' he=>⟨he.1,(cel w' ((hdw.alloc (Nat.le_refl wr.heap.size) o).trans (he.2.mono (hdw.alloc (Nat.le_refl wr.heap.size) o).size))).1,(cel w' ((hdw.alloc (Nat.le_refl wr.heap.size) o).trans (he.2.mono (hdw.alloc (Nat.le_refl wr.heap.size) o).size))).2,he.2⟩
   have k0:wr.cell? ⟨H,0,none⟩=some (.int .i64 z):=cell_of_row _ _ 0 _ _ _ hfb
   have k1:wr.cell? ⟨H,1,none⟩=some (.slice fa N fc):=cell_of_row _ _ 1 _ _ _ hfb
   have hz16:z<=16:=by omega
   have hw1:IntKind.u8.wrap (z:Int)=z:=by rw [IntKind.wrap_u8];omega
   have hw2:IntKind.u8.wrap (N:Int)=N:=by rw [IntKind.wrap_u8];omega
   have hcv:=fun V:World=>conv2 V z N
   have hcd:Sem.run Tryz.prog (convert 101 9 (.slice (some ⟨wr.heap.size,0,none⟩) 2 2)) (wr.alloc (.cells #[.int .u8 z,.int .u8 N] 5)).drew=.ok (.string (strOfNums [z,N])) (wr.alloc (.cells #[.int .u8 z,.int .u8 N] 5)).drew:=conv2b wr.heap.size z N (heap_alloc_last wr _) ⟨rfl,rfl,rfl,Nat.le_refl _,fun _ _=>rfl⟩
   have HCB:Hid (∀ wp,Below (wr.drew.alloc (.cells #[.int .u8 z,.int .u8 N] 5)).heap.size (wr.drew.alloc (.cells #[.int .u8 z,.int .u8 N] 5)) wp->Sem.run Tryz.prog (convert 101 9 (.slice (some ⟨wr.heap.size,0,none⟩) 2 2)) wp=.ok (.string (strOfNums [z,N])) wp):=fun wp bp=>conv2b wr.heap.size z N (heap_alloc_last wr.drew _) bp
   obtain ⟨T2,hT2⟩:∃ T2,T2=strOfNums [(z:Int),(N:Int)]:=⟨_,rfl⟩
   rw [<- hT2] at hcd HCB
   simp only [<- hT2] at hcv
   have hT2s:T2.size=2:=by rw [hT2,strOfNums_size];rfl
   have hSs:S.size<=150004:=by rw [hS];unfold endStr;rw [strOfNums_size,Pack.digs_length];omega
   have HT2:Hid (T2=strOfNums [(z:Int),(N:Int)]):=hT2
   clear hT2
   have HE:Hid (Below w.heap.size w wr/\S=endStr (Pack.fin (filmL z F N))):=⟨hst.bel,hS⟩
   have HF1:Hid (∀ wp,Below (wr.drew.alloc (.cells #[.int .u8 z,.int .u8 N] 5)).heap.size (wr.drew.alloc (.cells #[.int .u8 z,.int .u8 N] 5)) wp->Below w.heap.size w wp):=fun wp bp =>
    have b1:Below wr.heap.size wr (wr.drew.alloc (.cells #[.int .u8 z,.int .u8 N] 5)):=hdw.alloc (Nat.le_refl wr.heap.size) _
    hst.bel.trans ((b1.trans (bp.mono b1.size)).mono hst.bel.size)
   have HF2:Hid (∀ wp,Below wr.drew.heap.size wr.drew wp->∀ o,Below w.heap.size w (wp.alloc o)):=fun wp bp o =>
    have b1:Below wr.heap.size wr wp:=hdw.trans bp
    (hst.bel.trans (b1.mono hst.bel.size)).alloc (Nat.le_trans hst.bel.size b1.size) o
   clear hst hfb f1 f2 f3 f4 f5 hpk hdw hS hjN cel
   go_wp2_with fail
   go_region_with (go_at_call 43;first|(refine HP1.out.mono ?_;rintro e wp ⟨rfl,q0,q1,bp⟩)|(refine (HP2.out _).mono ?_;rintro e wp ⟨rfl,q0,q1,bp⟩;have hcb:=HCB.out wp bp))
   all_goals
    go_wp2
    go_ret
    refine ⟨by rw [<- HE.out.2,<- HT2.out];rfl,?_⟩
    first
     | exact HF1.out _ bp
     | exact HF2.out _ bp _
end
end Go.Proofs.YtekfbphnoibnjaaGreatDoor
