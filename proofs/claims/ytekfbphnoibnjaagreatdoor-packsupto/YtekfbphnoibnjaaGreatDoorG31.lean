/-
  PBlkW PAreaW0
-/
import Derived.Test.YtekfbphnoibnjaaGreatDoorG30
import Derived.Laws.EntriesVeiled
set_option maxHeartbeats 4000000
namespace Go.Proofs.YtekfbphnoibnjaaGreatDoor
section
open Go.RowKit Go.Shelf
open Flm (Px FS okPx)
open Pk (coloursL index fewl softl nearL copyl hd kind better)
structure FwG (w:World) (Lo q z nb C:Nat) (mh mb:Value) (T:List Px) (T0:Option (List Px)):Prop where
 fw:FwAt w q z nb C mh mb T
 ph:∃ base top,Plc w base top mh z (some T)
 pb:∃ base top,Plc w base top mb z T0
 sg:SoftG w Lo
 hq:q<Lo
 hnb:nb<Lo
 lo:Lo<=w.heap.size
theorem FwG.below {w w':World} {Lo q z nb C:Nat} {mh mb:Value} {T:List Px} {T0:Option (List Px)} (h:FwG w Lo q z nb C mh mb T T0) (f:Below w.heap.size w w'):FwG w' Lo q z nb C mh mb T T0 :=
 ⟨h.fw.below f,h.ph.elim fun a e=>e.elim fun b e=>⟨a,b,e.below f⟩,h.pb.elim fun a e=>e.elim fun b e=>⟨a,b,e.below f⟩,h.sg.below (f.mono h.lo),h.hq,h.hnb,Nat.le_trans h.lo f.size⟩
def wayC (z:Nat) (T:List Px) (T0:Option (List Px)) (x y n:Nat):Nat->Option Pk.Bts
 | 0=>some (softl z T x y n)
 | 1=>(coloursL z T x y n).map fun cs=>fewl cs (fun q=>index (Pk.pixT z T q) cs) x y n
 | 2=>(nearL (Pk.mayCopy x y n) x y (placesO z (some T) n (Pk.content z T n (x,y)))).map fun q=>copyl 260 ((q.1:Int)-x) ((q.2:Int)-y)
 | _=>(nearL (fun _=>true) x y (placesO z T0 n (Pk.content z T n (x,y)))).map fun q=>copyl 310 ((q.1:Int)-x) ((q.2:Int)-y)
def wayF:Nat->Nat
 | 0=>107
 | 1=>108
 | 2=>109
 | _=>110
theorem pWay {w:World} {Lo q z nb C:Nat} {mh mb:Value} {T:List Px} {T0:Option (List Px)} (h:FwG w Lo q z nb C mh mb T T0) (κ:Nat) (hκ:κ<4) (b:Nat) (v:Value) (t:WS) (l:List (Nat × Int)) (hdr:DrAt w b v t l) (hb:Lo<=b) (hv:∀ k,v.ownBlock=some k->Lo<=k)
  (x y n:Nat) (hn:n=4 \/ n=8 \/ n=16) (hx:x+n<=z) (hy:y+n<=z) (ro:Room t l (57*(n*n)+19)) :
  Calls Tryz.prog (wayF κ) #[.pointer (some ⟨q,0,none⟩),.pointer (some ⟨b,0,none⟩),.agg #[.int .i64 x,.int .i64 y,.int .i64 n]] w (WrPost w b v t l (wayC z T T0 x y n κ)):=by
 have h16:16<=n*n:=by rcases hn with rfl|rfl|rfl <;> decide
 have hq:=h.hq
 have hnb:=h.hnb
 have nq:∀ k,k<Lo->¬ (k=b \/ v.ownBlock=some k):=fun k hk e=>e.elim (fun e=>by omega) (fun e=>by have:=hv k e;omega)
 match κ,hκ with
 | 0,_ =>
  refine (pWSoft w Lo q z nb C mh mb T h.fw hq hnb h.sg b v t l hdr hb hv x y n hx hy ro).mono fun e w' he=>⟨he.1,he.2⟩
 | 1,_=>exact pFewW w q z nb C mh mb T h.fw b v t l hdr (nq q hq) (nq nb hnb) x y n hx hy (by omega) ro
 | 2,_ =>
  obtain ⟨ba,tp,hp⟩:=h.ph
  exact pCopiedW w q z nb C mh mb T h.fw ba tp hp b v t l hdr x y n hn hx hy (ro.le (by omega))
 | 3,_ =>
  obtain ⟨ba,tp,hp⟩:=h.pb
  exact pStillW w q z nb C mh mb T h.fw ba tp T0 hp b v t l hdr x y n hn hx hy (ro.le (by omega))
def cand (z:Nat) (T:List Px) (T0:Option (List Px)) (x y n κ:Nat):Option Pk.Bts:=(wayC z T T0 x y n κ).map fun l=>(hd n 0++kind (κ / 2) (κ % 2))++l
def bestL (z:Nat) (T:List Px) (T0:Option (List Px)) (t:WS) (x y n:Nat):Nat->Pk.Bts
 | 0=>[]
 | 1=>(hd n 0++kind 0 0)++softl z T x y n
 | κ+2=>better t (bestL z T T0 t x y n (κ+1)) (cand z T T0 x y n (κ+1))
set_option maxRecDepth 100000 in
theorem tabIx (κ:Nat) (hκ:κ<4) (w:World):Sem.run Tryz.prog (Instr.index 205 (.agg #[.func (.func 107) #[] #[],.func (.func 108) #[] #[],.func (.func 109) #[] #[],.func (.func 110) #[] #[]]) (.int .i64 κ)) w=.ok (.func (.func (wayF κ)) #[] #[]) w:=by
 rcases (by omega:κ=0 \/ κ=1 \/ κ=2 \/ κ=3) with rfl|rfl|rfl|rfl <;> first|kernel_rfl|rfl
theorem enter_run {P : Program} {f : FuncId} {fn : Func} (hf : P.funcs[f]? = some fn) (hn : decide (fn.name = "runtime.NumGoroutine") = false) (hb : fn.body.isNone = false) (args : Array Value) (w : World) : Sem.run P (callFunc f args) w = .ok (.enter f args) w := by
 have hn':=of_decide_eq_false hn
 have hb':¬ fn.body=none:=fun e=>by rw [e] at hb;cases hb
 simp [callFunc,hf,hn',hb',go_sem]
theorem wayCall (κ:Nat) (hκ:κ<4) (args:Array Value) (w:World):Sem.run Tryz.prog (callFunc (wayF κ) args) w=.ok (.enter (wayF κ) args) w:=by
 rcases (by omega:κ=0 \/ κ=1 \/ κ=2 \/ κ=3) with rfl|rfl|rfl|rfl
 ·exact enter_run Tryz.func107 (by kernel_rfl) (by kernel_rfl) args w
 ·exact enter_run Tryz.func108 (by kernel_rfl) (by kernel_rfl) args w
 ·exact enter_run Tryz.func109 (by kernel_rfl) (by kernel_rfl) args w
 ·exact enter_run Tryz.func110 (by kernel_rfl) (by kernel_rfl) args w
def BlkPostW (w:World) (t:WS) (p:Pk.Bts) (e:Ending) (w':World):Prop:=∃ b v,e=.returned (.pointer (some ⟨b,0,none⟩))/\DrAt w' b v (Pack.puts t p) p/\Below w.heap.size w w'/\w.heap.size<=b/\∀ k,v.ownBlock=some k->w.heap.size<=k
def Best (w wr:World) (t:WS) (κ:Nat) (p:Pk.Bts) (v8:Value):Prop:=(κ=0/\v8=.pointer none) \/ (0<κ/\∃ b v,v8=.pointer (some ⟨b,0,none⟩)/\DrAt wr b v (Pack.puts t p) p/\w.heap.size<=b/\∀ k,v.ownBlock=some k->w.heap.size<=k)
set_option maxRecDepth 100000 in
theorem pBlockW (w:World) (Lo q z nb C:Nat) (mh mb:Value) (T:List Px) (T0:Option (List Px)) (h:FwG w Lo q z nb C mh mb T T0) (a:Nat) (va:Value) (t:WS) (la:List (Nat × Int)) (hdr:DrAt w a va t la)
  (x y n:Nat) (hn:n=4 \/ n=8 \/ n=16) (hx:x+n<=z) (hy:y+n<=z) (ro:Room t [] (57*(n*n)+22)) :
  Calls Tryz.prog 77 #[.pointer (some ⟨q,0,none⟩),.pointer (some ⟨a,0,none⟩),.agg #[.int .i64 x,.int .i64 y,.int .i64 n]] w (BlkPostW w t (bestL z T T0 t x y n 4)):=by
 obtain ⟨H,hH⟩:∃ H,H=w.heap.size:=⟨_,rfl⟩
 obtain ⟨W2,hW2⟩:∃ W2,W2=(w.alloc (.cells #[.int .i64 x,.int .i64 y,.int .i64 n] 100)).alloc (.cells #[.func (.func 107) #[] #[],.func (.func 108) #[] #[],.func (.func 109) #[] #[],.func (.func 110) #[] #[]] 205):=⟨_,rfl⟩
 have hB2:Below w.heap.size w W2:=by rw [hW2];exact ((Below.refl _ w).alloc (Nat.le_refl _) _).alloc (by simp) _
 have x0:W2.heap[H]?=some (.cells #[.int .i64 x,.int .i64 y,.int .i64 n] 100):=by rw [hW2,hH];exact (Below.heap_alloc _ _ _ (by simp only [World.size_alloc];omega)).trans (heap_alloc_last w _)
 have x1:W2.heap[H+1]?=some (.cells #[.func (.func 107) #[] #[],.func (.func 108) #[] #[],.func (.func 109) #[] #[],.func (.func 110) #[] #[]] 205):=by
  have:=heap_alloc_last (w.alloc (.cells #[.int .i64 x,.int .i64 y,.int .i64 n] 100)) (.cells #[.func (.func 107) #[] #[],.func (.func 108) #[] #[],.func (.func 109) #[] #[],.func (.func 110) #[] #[]] 205)
  rw [World.size_alloc] at this
  rw [hW2,hH];exact this
 have y0:=cell_of_row _ _ 0 _ _ _ x1
 have y1:=cell_of_row _ _ 1 _ _ _ x1
 have y2:=cell_of_row _ _ 2 _ _ _ x1
 have y3:=cell_of_row _ _ 3 _ _ _ x1
 simp at y0 y1 y2 y3
 have HW2:Hid (W2=(w.alloc (.cells #[.int .i64 x,.int .i64 y,.int .i64 n] 100)).alloc (.cells #[.func (.func 107) #[] #[],.func (.func 108) #[] #[],.func (.func 109) #[] #[],.func (.func 110) #[] #[]] 205)/\H=w.heap.size/\Below w.heap.size w W2):=⟨hW2,hH,hB2⟩
 have HF:Hid (FwG W2 Lo q z nb C mh mb T T0/\DrAt W2 a va t la/\Room t [] (57*(n*n)+22)/\(n=4 \/ n=8 \/ n=16)/\Lo<=w.heap.size/\W2.heap[H]?=some (.cells #[.int .i64 x,.int .i64 y,.int .i64 n] 100)):=⟨h.below hB2,hdr.below hB2,ro,hn,h.lo,x0⟩
 have HXY:Hid (x+n<=z/\y+n<=z):=⟨hx,hy⟩
 clear hW2 hB2 x0 x1 h hdr ro hn hx hy hH
 go_enter Tryz.func77,Tryz.ntmps77
 go_wp2_with (rw [<- HW2.out.1,<- HW2.out.2.1])
 clear y0 y1 y2 y3
 go_loopw [8,14] (fun v8 v14 wr=>∃ κ:Nat,κ<=4/\v14=.int .i64 κ/\Below W2.heap.size W2 wr/\Best w wr t κ (bestL z T T0 t x y n κ) v8) (fun _ v14 _=>4-(intOf v14).toNat)
 case atStart=>exact ⟨0,by omega,rfl,Below.refl _ _,.inl ⟨rfl,rfl⟩⟩
 case round =>
  obtain ⟨κ,hκ,rfl,hb,hbest⟩:=hrel
  by_cases hlt:κ<4
  ·have hlt':(κ:Int)<4:=by omega
   have hix:=fun w=>tabIx κ hlt w
   obtain ⟨F,hF⟩:∃ F,F=wayF κ:=⟨_,rfl⟩
   have hcf:=fun args w=>wayCall κ hlt args w
   rw [<- hF] at hix hcf
   obtain ⟨c,hc⟩:∃ c,c=wayC z T T0 x y n κ:=⟨_,rfl⟩
   obtain ⟨hW,hHw,hB2⟩:=HW2.out
   obtain ⟨f1,f2,f3,f4,f5,f6⟩:=HF.out
   have hbw:Below w.heap.size w wr:=hB2.trans (hb.mono hB2.size)
   obtain ⟨D,hD⟩:∃ D,D=wr.heap.size:=⟨_,rfl⟩
   obtain ⟨p,hp⟩:∃ p,p=hd n 0++kind (κ / 2) (κ % 2):=⟨_,rfl⟩
   have hpl:p.length<=3:=by
    rw [hp,List.length_append]
    have:(hd n 0).length<=1:=by unfold Pk.hd;split <;> simp
    have:(kind (κ / 2) (κ % 2)).length=2:=rfl
    omega
   have hpo:Pack.BitsOk p:=by
    rw [hp]
    refine Pk.ok_app ?_ (Pk.ok_cons (by decide) (by omega) (Pk.ok_cons (by omega) (by omega) Pk.ok_nil))
    unfold Pk.hd
    split
    ·exact Pk.ok_nil
    ·exact Pk.ok_cons (by split <;> decide) (.inl rfl) Pk.ok_nil
   have ar:∀ W,Below wr.heap.size wr W->W.cell? ⟨H,0,none⟩=some (.int .i64 x)/\W.cell? ⟨H,1,none⟩=some (.int .i64 y)/\W.cell? ⟨H,2,none⟩=some (.int .i64 n):=fun W bW=>by
    have e0:W.heap[H]?=some (.cells #[.int .i64 x,.int .i64 y,.int .i64 n] 100):=(bW.block H (Nat.lt_of_lt_of_le (heap_lt0 f6) hb.size)).trans ((hb.block H (heap_lt0 f6)).trans f6)
    exact ⟨cell_of_row _ _ 0 _ _ _ e0,cell_of_row _ _ 1 _ _ _ e0,cell_of_row _ _ 2 _ _ _ e0⟩
   have HNX:Hid (Calls Tryz.prog 111 #[.pointer (some ⟨a,0,none⟩)] wr fun e w1=>e=.returned (.pointer (some ⟨D,0,none⟩))/\(w1.cell? ⟨H,0,none⟩=some (.int .i64 x)/\w1.cell? ⟨H,1,none⟩=some (.int .i64 y)/\w1.cell? ⟨H,2,none⟩=some (.int .i64 n)) /\
     Hid (Calls Tryz.prog 112 #[.pointer (some ⟨D,0,none⟩),.agg #[.int .i64 x,.int .i64 y,.int .i64 n],.int .i64 κ] w1 fun e w2=>e=.returned (.tuple #[])/\(w2.cell? ⟨H,0,none⟩=some (.int .i64 x)/\w2.cell? ⟨H,1,none⟩=some (.int .i64 y)/\w2.cell? ⟨H,2,none⟩=some (.int .i64 n)) /\
      Hid (Calls Tryz.prog F #[.pointer (some ⟨q,0,none⟩),.pointer (some ⟨D,0,none⟩),.agg #[.int .i64 x,.int .i64 y,.int .i64 n]] w2 fun e w3=>e=.returned (.bool c.isSome)/\Hid (Below wr.heap.size wr w3/\∃ v,DrAt w3 D v (Pack.puts t (p++c.getD [])) (p++c.getD [])/\∀ k,v.ownBlock=some k->wr.heap.size<=k)))):=by
    refine (pNext wr a va t la (f2.below hb)).mono fun e w1 ⟨e1,d1,b1⟩=>?_
    rw [<- hD] at e1 d1
    refine ⟨e1,ar w1 b1,?_⟩
    have hpk:=pPutKind w1 w1 D (.slice none 0 0) t [] [] x y n κ (PutAt.refl d1) (f3.le (by simp)) (fun _ hq=>absurd hq (List.not_mem_nil)) f4 hlt
    rw [List.nil_append,<- hp] at hpk
    refine hpk.mono fun e w2 ⟨e2,v2,d2,r2⟩=>?_
    rw [List.nil_append] at d2
    have b2:Below wr.heap.size wr w2:=b1.trans (r2.frm.below b1.size (fun k e=>e.elim (fun e=>by omega) (fun e=>by simp [Value.ownBlock] at e)))
    have l2:∀ k,v2.ownBlock=some k->wr.heap.size<=k:=fun k e=>(r2.loc k e).elim (fun e=>by simp [Value.ownBlock] at e) (fun e=>Nat.le_trans b1.size e)
    refine ⟨e2,ar w2 b2,?_⟩
    have hm:=Pack.puts_m p t
    have hLw:Lo<=wr.heap.size:=by have:=hbw.size;omega
    have hwy:=pWay ((f1.below hb).below b2) κ hlt D v2 (Pack.puts t p) p d2 (by omega) (fun k e=>Nat.le_trans hLw (l2 k e)) x y n f4 HXY.out.1 HXY.out.2 ⟨Pack.puts_ok p t f3.ok fun q hq=>(hpo q hq).1,by have:=f3.m;omega,by have:=f3.l;simp only [List.length_nil] at this;omega⟩
    rw [<- hF,<- hc] at hwy
    refine hwy.mono fun e w3 ⟨e3,v3,d3,r3⟩=>⟨e3,b2.trans (r3.frm.below b2.size (fun k e=>e.elim (fun e=>by omega) (fun e=>l2 k e))),v3,by rw [puts_app'];exact d3,fun k e=>(r3.loc k e).elim (fun e=>l2 k e) (fun e=>Nat.le_trans b2.size e)⟩
   have HST:Hid (Below W2.heap.size W2 wr/\Below w.heap.size w wr/\D=wr.heap.size/\p=hd n 0++kind (κ / 2) (κ % 2)/\c=wayC z T T0 x y n κ/\Best w wr t κ (bestL z T T0 t x y n κ) u8):=⟨hb,hbw,hD,hp,hc,hbest⟩
   have NEW:Hid (∀ w3,(Below wr.heap.size wr w3/\∃ v,DrAt w3 D v (Pack.puts t (p++c.getD [])) (p++c.getD [])/\∀ k,v.ownBlock=some k->wr.heap.size<=k)->bestL z T T0 t x y n (κ+1)=p++c.getD []->∀ w4,Below w3.heap.size w3 w4->Below W2.heap.size W2 w4/\Best w w4 t (κ+1) (bestL z T T0 t x y n (κ+1)) (.pointer (some ⟨D,0,none⟩))):=fun w3 ⟨g1,v,g2,g3⟩ hbl w4 b4=>by
    refine ⟨hb.trans ((g1.trans (b4.mono g1.size)).mono hb.size),.inr ⟨by omega,D,v,rfl,by rw [hbl];exact g2.below b4,by have:=hbw.size;omega,fun k e=>Nat.le_trans hbw.size (g3 k e)⟩⟩
   have OLD:Hid (∀ w3,Below wr.heap.size wr w3->0<κ->bestL z T T0 t x y n (κ+1)=bestL z T T0 t x y n κ->∀ w4,Below w3.heap.size w3 w4->Below W2.heap.size W2 w4/\Best w w4 t (κ+1) (bestL z T T0 t x y n (κ+1)) u8):=fun w3 g1 hk0 hbl w4 b4=>by
    have b5:=g1.trans (b4.mono g1.size)
    refine ⟨hb.trans (b5.mono hb.size),?_⟩
    rcases hbest with ⟨e,_⟩|⟨_,bb,vb,e1,e2,e3,e4⟩
    ·omega
    ·exact .inr ⟨by omega,bb,vb,e1,by rw [hbl];exact e2.below b5,e3,e4⟩
   clear hbest hb hbw hW hHw hB2 f1 f2 f3 f4 f5 f6 hF hp hpl hpo ar hD
   by_cases hk0:κ=0
   ·have hcs:c=some (softl z T x y n):=by rw [hc,hk0];rfl
    have hv8:u8=Value.pointer none:=by
     rcases HST.out.2.2.2.2.2 with ⟨_,e⟩|⟨e,_⟩
     ·exact e
     ·omega
    have HBL:Hid (bestL z T T0 t x y n (κ+1)=p++c.getD []):=by
     rw [Hid,hcs,HST.out.2.2.2.1,hk0];rfl
    have hsm:c.isSome=true:=by rw [hcs];rfl
    subst hv8
    rw [hsm] at HNX
    clear hc hcs hk0 HST hsm
    go_wp2_with (first
    | (go_at_call 111;refine HNX.out.mono ?_;rintro e w1 ⟨rfl,⟨a0,a1,a2⟩,HPK⟩)
    | (go_at_call 112;refine HPK.out.mono ?_;rintro e w2 ⟨rfl,⟨b0,b1,b2⟩,HWY⟩;clear a0 a1 a2)
    | (refine HWY.out.mono ?_;rintro e w3 ⟨rfl,HFN⟩))
    go_roundw
    case rel=>exact ⟨κ+1,hlt,by go_num,NEW.out w3 HFN.out HBL.out w3 (Below.refl _ _)⟩
    case measure=>simp [intOf];omega
   ·have hk1:0<κ:=by omega
    obtain ⟨j,hj⟩:∃ j,κ=j+1:=⟨κ-1,by omega⟩
    cases c with
    | none =>
     have HBL:Hid (bestL z T T0 t x y n (κ+1)=bestL z T T0 t x y n κ):=by
      rw [Hid,hj]
      show better t _ (cand z T T0 x y n (j+1))=_
      unfold cand
      rw [<- hj,<- hc]
      rfl
     clear hc hj HST
     go_wp2_with (first
     | (go_at_call 111;refine HNX.out.mono ?_;rintro e w1 ⟨rfl,⟨a0,a1,a2⟩,HPK⟩)
     | (go_at_call 112;refine HPK.out.mono ?_;rintro e w2 ⟨rfl,⟨b0,b1,b2⟩,HWY⟩;clear a0 a1 a2)
     | (refine HWY.out.mono ?_;rintro e w3 ⟨rfl,HFN⟩;clear HWY))
     go_roundw
     case rel=>exact ⟨κ+1,hlt,by go_num,OLD.out w3 HFN.out.1 hk1 HBL.out w3 (Below.refl _ _)⟩
     case measure=>simp [intOf];omega
    | some l =>
     obtain ⟨bb,vb,hv8,hdb⟩:∃ bb vb,u8=Value.pointer (some ⟨bb,0,none⟩)/\DrAt wr bb vb (Pack.puts t (bestL z T T0 t x y n κ)) (bestL z T T0 t x y n κ):=by
      rcases HST.out.2.2.2.2.2 with ⟨e,_⟩|⟨_,bb,vb,e1,e2,_⟩
      ·omega
      ·exact ⟨bb,vb,e1,e2⟩
     obtain ⟨LT,hLT⟩:∃ LT,LT=Pk.lighter (Pack.puts t (p++l)) (Pack.puts t (bestL z T T0 t x y n κ)):=⟨_,rfl⟩
     have HLT:Hid (∀ w3,(Below wr.heap.size wr w3/\∃ v,DrAt w3 D v (Pack.puts t (p++l)) (p++l)/\∀ k,v.ownBlock=some k->wr.heap.size<=k)->Calls Tryz.prog 80 #[.pointer (some ⟨D,0,none⟩),.pointer (some ⟨bb,0,none⟩)] w3 fun e w4=>e=.returned (.bool LT)/\Hid (Below w3.heap.size w3 w4)):=fun w3 ⟨g1,v,g2,_⟩=>by
      rw [hLT]
      exact pLighter w3 D bb v vb _ _ _ _ g2 (hdb.below g1)
     have hbl:bestL z T T0 t x y n (κ+1)=if LT then p++l else bestL z T T0 t x y n κ:=by
      rw [hLT,hj]
      show better t _ (cand z T T0 x y n (j+1))=_
      unfold cand
      rw [<- hj,<- hc,HST.out.2.2.2.1]
      rfl
     have HBL:Hid (bestL z T T0 t x y n (κ+1)=if LT then p++l else bestL z T T0 t x y n κ):=hbl
     clear hdb hLT hbl hc hj HST
     subst hv8
     cases LT with
     | true =>
      go_wp2_with (first
      | (go_at_call 111;refine HNX.out.mono ?_;rintro e w1 ⟨rfl,⟨a0,a1,a2⟩,HPK⟩)
      | (go_at_call 112;refine HPK.out.mono ?_;rintro e w2 ⟨rfl,⟨b0,b1,b2⟩,HWY⟩;clear a0 a1 a2)
      | (go_at_call 80;refine (HLT.out w3 HFN.out).mono ?_;rintro e w4 ⟨rfl,HB4⟩)
      | (refine HWY.out.mono ?_;rintro e w3 ⟨rfl,HFN⟩;clear HWY))
      go_roundw
      case rel=>exact ⟨κ+1,hlt,by go_num,NEW.out w3 HFN.out HBL.out w4 HB4.out⟩
      case measure=>simp [intOf];omega
     | false =>
      go_wp2_with (first
      | (go_at_call 111;refine HNX.out.mono ?_;rintro e w1 ⟨rfl,⟨a0,a1,a2⟩,HPK⟩)
      | (go_at_call 112;refine HPK.out.mono ?_;rintro e w2 ⟨rfl,⟨b0,b1,b2⟩,HWY⟩;clear a0 a1 a2)
      | (go_at_call 80;refine (HLT.out w3 HFN.out).mono ?_;rintro e w4 ⟨rfl,HB4⟩)
      | (refine HWY.out.mono ?_;rintro e w3 ⟨rfl,HFN⟩;clear HWY))
      go_roundw
      case rel=>exact ⟨κ+1,hlt,by go_num,OLD.out w3 HFN.out.1 hk1 HBL.out w4 HB4.out⟩
      case measure=>simp [intOf];omega
  ·have hlt':¬ (κ:Int)<4:=by omega
   have h4:κ=4:=by omega
   have HE:Hid (Below W2.heap.size W2 wr/\Best w wr t κ (bestL z T T0 t x y n κ) u8/\κ=4):=⟨hb,hbest,h4⟩
   clear hb hbest h4
   go_wp2
   obtain ⟨e1,e2,e3⟩:=HE.out
   rw [e3] at e2
   rcases e2 with ⟨e,_⟩|⟨_,bb,vb,g1,g2,g3,g4⟩
   ·omega
   ·subst g1
    go_ret
    exact ⟨bb,vb,rfl,g2,HW2.out.2.2.trans (e1.mono HW2.out.2.2.size),g3,g4⟩
end
section
open Go.RowKit
open Flm (Px FS okPx)
open Pk (coloursL index fewl softl nearL copyl hd kind better num choice col1)
theorem nn_le {n:Nat} (h:n<=16):n*n<=256:=Nat.mul_le_mul h h
theorem copyl_ok {k:Nat} {a b:Int} (hk:k+46<=400) (a0:-511<=a) (a1:a<=511) (b0:-511<=b) (b1:b<=511):Pack.BitsOk (copyl k a b)/\(copyl k a b).length<=38:=by
 obtain ⟨h1,h2⟩:=sgn_facts (k:=k) (n:=a) (by omega) a0 a1
 obtain ⟨h3,h4⟩:=sgn_facts (k:=k+24) (n:=b) (by omega) b0 b1
 unfold Pk.copyl
 exact ⟨Pk.ok_app h1 h3,by rw [List.length_append];omega⟩
theorem few_ok {cs:List Px} {ix:Nat × Nat->Nat} {x y n:Nat} (h4:cs.length<=4) (hc:∀ c ∈ cs,okPx c) (hi:∀ q ∈ Flm.spots x y n,ix q<=3):Pack.BitsOk (fewl cs ix x y n)/\(fewl cs ix x y n).length<=19+(228+4*(n*n)):=by
 have h1:=num8_len (m:=cs.length-1) (by omega) 200
 have h2:=Pk.flat_len cs (f:=col1) (m:=57) fun c h=>(col1_ok (hc c h)).2
 have h3:=Pk.flat_len (Flm.spots x y n) (f:=fun q=>choice (cs.length-1) (ix q)) (m:=4) fun q h=>(choice_ok (hi q h)).2
 rw [Flm.spots_len] at h3
 unfold Pk.fewl
 refine ⟨Pk.ok_app (Pk.num_ok (by omega) (by decide)) (Pk.ok_app (Pk.flat_ok _ fun c h=>(col1_ok (hc c h)).1) (Pk.flat_ok _ fun q h=>(choice_ok (hi q h)).1)),?_⟩
 rw [List.length_append,List.length_append]
 omega
theorem way_ok {z:Nat} {T:List Px} {T0:Option (List Px)} {x y n:Nat} (hT:∀ p ∈ T,okPx p) (hz:z<=16) (hn:4<=n) (hx:x+n<=z) (hy:y+n<=z) {κ:Nat} {l:Pk.Bts} (h:wayC z T T0 x y n κ=some l):Pack.BitsOk l/\l.length<=57*(n*n)+300:=by
 have hnn:=nn_le (show n<=16 by omega)
 have near:∀ (may:Nat × Nat->Bool) (k:Nat) (L:List (Nat × Nat)),k+46<=400->(∀ p ∈ L,p.1+n<=z/\p.2+n<=z)->(nearL may x y L).map (fun q=>copyl k ((q.1:Int)-x) ((q.2:Int)-y))=some l->Pack.BitsOk l/\l.length<=57*(n*n)+300:=fun may k L hk hL e=>by
  cases e1:nearL may x y L with
  | none=>rw [e1] at e;cases e
  | some q =>
   rw [e1] at e
   obtain rfl:=Option.some.inj e
   have:=hL q (Pk.near_some e1).1
   obtain ⟨h1,h2⟩:=copyl_ok (k:=k) (a:=(q.1:Int)-x) (b:=(q.2:Int)-y) hk (by omega) (by omega) (by omega) (by omega)
   exact ⟨h1,Nat.le_trans h2 (by omega)⟩
 match κ,h with
 | 0,h =>
  obtain rfl:=Option.some.inj h
  obtain ⟨h1,h2⟩:=Pk.softl_ok hT z x y n
  exact ⟨h1,by omega⟩
 | 1,h =>
  have h:(coloursL z T x y n).map (fun cs=>fewl cs (fun q=>index (Pk.pixT z T q) cs) x y n)=some l:=h
  cases e:coloursL z T x y n with
  | none=>rw [e] at h;cases h
  | some cs =>
   rw [e] at h
   obtain rfl:=Option.some.inj h
   obtain ⟨⟨c1,c2⟩,c3,c4⟩:=Pk.colours_facts hT (by omega) e
   obtain ⟨h1,h2⟩:=few_ok (ix:=fun q=>index (Pk.pixT z T q) cs) (x:=x) (y:=y) (n:=n) c2 c3 fun q hq=>by have:=(Pk.index_lt (c4 q hq)).1;omega
   exact ⟨h1,Nat.le_trans h2 (by omega)⟩
 | 2,h=>exact near _ 260 _ (by decide) (fun p hp=>placesO_mem (by omega) hp) h
 | κ+3,h=>exact near _ 310 _ (by decide) (fun p hp=>placesO_mem (by omega) hp) h
theorem kd_ok (n κ:Nat) (hκ:κ<4):Pack.BitsOk (hd n 0++kind (κ / 2) (κ % 2))/\(hd n 0++kind (κ / 2) (κ % 2)).length<=3/\0<(hd n 0++kind (κ / 2) (κ % 2)).length:=by
 have h1:(hd n 0).length<=1:=by unfold Pk.hd;split <;> simp
 have h2:(kind (κ / 2) (κ % 2)).length=2:=rfl
 refine ⟨Pk.ok_app ?_ (Pk.ok_cons (by decide) (by omega) (Pk.ok_cons (by omega) (by omega) Pk.ok_nil)),by rw [List.length_append];omega,by rw [List.length_append];omega⟩
 unfold Pk.hd
 split
 ·exact Pk.ok_nil
 ·exact Pk.ok_cons (by split <;> decide) (.inl rfl) Pk.ok_nil
theorem best_ok {z:Nat} {T:List Px} {T0:Option (List Px)} {t:WS} {x y n:Nat} (hT:∀ p ∈ T,okPx p) (hz:z<=16) (hn:4<=n) (hx:x+n<=z) (hy:y+n<=z):∀ κ,κ<4->Pack.BitsOk (bestL z T T0 t x y n (κ+1))/\(bestL z T T0 t x y n (κ+1)).length<=57*(n*n)+303/\0<(bestL z T T0 t x y n (κ+1)).length
 | 0,_=>by
  obtain ⟨h1,h2,h3⟩:=kd_ok n 0 (by decide)
  obtain ⟨h4,h5⟩:=Pk.softl_ok hT z x y n
  refine ⟨Pk.ok_app h1 h4,?_,?_⟩
  ·show ((hd n 0++kind (0 / 2) (0 % 2))++softl z T x y n).length<=_
   rw [List.length_append];omega
  ·show 0<((hd n 0++kind (0 / 2) (0 % 2))++softl z T x y n).length
   rw [List.length_append];omega
 | κ+1,hκ=>by
  have ih:=best_ok (T0:=T0) (t:=t) hT hz hn hx hy κ (by omega)
  show Pack.BitsOk (better t _ (cand z T T0 x y n (κ+1)))/\(better t _ (cand z T T0 x y n (κ+1))).length<=_/\0<(better t _ (cand z T T0 x y n (κ+1))).length
  rcases Pk.better_or t (bestL z T T0 t x y n (κ+1)) (cand z T T0 x y n (κ+1)) with e|⟨l,e1,e2⟩
  ·rw [e];exact ih
  ·rw [e2]
   unfold cand at e1
   cases e3:wayC z T T0 x y n (κ+1) with
   | none=>rw [e3] at e1;cases e1
   | some l' =>
    rw [e3] at e1
    obtain rfl:=Option.some.inj e1
    obtain ⟨h1,h2,h3⟩:=kd_ok n (κ+1) hκ
    obtain ⟨h4,h5⟩:=way_ok hT hz hn hx hy e3
    exact ⟨Pk.ok_app h1 h4,by rw [List.length_append];omega,by rw [List.length_append];omega⟩
def spl (A:WS->Nat->Nat->Pk.Bts) (t:WS) (d0:Pk.Bts) (x y h:Nat):Nat->Pk.Bts
 | 0=>d0
 | i+1=>spl A t d0 x y h i++A (Pack.puts t (spl A t d0 x y h i)) (x+i % 2*h) (y+i / 2*h)
def ctx1 (n:Nat):Pk.Bts:=[(if n=16 then 0 else 1,1)]
def areaB (z:Nat) (T:List Px) (T0:Option (List Px)):Nat->WS->Nat->Nat->Nat->Pk.Bts
 | 0,t,x,y,n=>bestL z T T0 t x y n 4
 | c+1,t,x,y,n=>if Pk.plainB z T x y n then bestL z T T0 t x y n 4 else better t (bestL z T T0 t x y n 4) (some (spl (fun s x y=>areaB z T T0 c s x y (n / 2)) t (ctx1 n) x y (n / 2) 4))
def lenB:Nat->Nat
 | 0=>1300
 | c+1=>4*lenB c+1
theorem lenB_ge (c:Nat):912*4 ^ c+388<=lenB c:=by
 induction c with
 | zero=>exact Nat.le_refl _
 | succ c ih=>show _<=4*lenB c+1;rw [Nat.pow_succ];omega
theorem sq_four (c:Nat):(4*2 ^ c)*(4*2 ^ c)=16*4 ^ c:=by
 have:4 ^ c=2 ^ c*2 ^ c:=by rw [<- Nat.mul_pow]
 rw [this,Nat.mul_mul_mul_comm]
theorem best_lenB {n c:Nat} (hn:n=4*2 ^ c):57*(n*n)+303<=lenB c:=by
 have h1:=lenB_ge c
 rw [hn,sq_four]
 omega
theorem spl_ok {A:WS->Nat->Nat->Pk.Bts} {t:WS} {n x y h L:Nat} (hA:∀ s i,i<4->Pack.BitsOk (A s (x+i % 2*h) (y+i / 2*h))/\(A s (x+i % 2*h) (y+i / 2*h)).length<=L):∀ i,i<=4->Pack.BitsOk (spl A t (ctx1 n) x y h i)/\(spl A t (ctx1 n) x y h i).length<=i*L+1/\0<(spl A t (ctx1 n) x y h i).length
 | 0,_=>⟨Pk.ok_cons (by split <;> decide) (.inr rfl) Pk.ok_nil,by simp [spl,ctx1],by simp [spl,ctx1]⟩
 | i+1,hi=>by
  obtain ⟨h1,h2,h3⟩:=spl_ok (t:=t) (n:=n) hA i (by omega)
  obtain ⟨h4,h5⟩:=hA (Pack.puts t (spl A t (ctx1 n) x y h i)) i (by omega)
  refine ⟨Pk.ok_app h1 h4,?_,?_⟩
  ·show (spl A t (ctx1 n) x y h i++_).length<=_
   rw [List.length_append,Nat.succ_mul];omega
  ·show 0<(spl A t (ctx1 n) x y h i++_).length
   rw [List.length_append];omega
theorem area_ok {z:Nat} {T:List Px} {T0:Option (List Px)} (hT:∀ p ∈ T,okPx p) (hz:z<=16):∀ (c:Nat) (t:WS) (x y n:Nat),n=4*2 ^ c->x+n<=z->y+n<=z->Pack.BitsOk (areaB z T T0 c t x y n)/\(areaB z T T0 c t x y n).length<=lenB c/\0<(areaB z T T0 c t x y n).length
 | 0,t,x,y,n,hn,hx,hy=>by
  have hb:=best_ok (T0:=T0) (t:=t) hT hz (n:=n) (by omega) hx hy 3 (by decide)
  exact ⟨hb.1,Nat.le_trans hb.2.1 (best_lenB hn),hb.2.2⟩
 | c+1,t,x,y,n,hn,hx,hy=>by
  have h2:n=2*(4*2 ^ c):=by rw [hn,Nat.pow_succ];omega
  obtain ⟨h,hh⟩:∃ h,h=4*2 ^ c:=⟨_,rfl⟩
  rw [<- hh] at h2
  have hp:0<2 ^ c:=Nat.two_pow_pos c
  have hb:=best_ok (T0:=T0) (t:=t) hT hz (n:=n) (by omega) hx hy 3 (by decide)
  have hle:(bestL z T T0 t x y n 4).length<=lenB (c+1):=Nat.le_trans hb.2.1 (best_lenB hn)
  unfold areaB
  split
  ·exact ⟨hb.1,hle,hb.2.2⟩
  ·have hd:n / 2=h:=by omega
   rw [hd]
   have hs:=spl_ok (A:=fun s x y=>areaB z T T0 c s x y h) (t:=t) (n:=n) (x:=x) (y:=y) (h:=h) (L:=lenB c) (fun s i hi=>by
    have h5:i % 2*h<=h:=by rcases (by omega:i % 2=0 \/ i % 2=1) with e|e <;> rw [e] <;> omega
    have h6:i / 2*h<=h:=by rcases (by omega:i / 2=0 \/ i / 2=1) with e|e <;> rw [e] <;> omega
    have:=area_ok (T0:=T0) hT hz c s (x+i % 2*h) (y+i / 2*h) h hh (by omega) (by omega)
    exact ⟨this.1,this.2.1⟩) 4 (Nat.le_refl _)
   rcases Pk.better_or t (bestL z T T0 t x y n 4) (some (spl (fun s x y=>areaB z T T0 c s x y h) t (ctx1 n) x y h 4)) with e|⟨l,e1,e2⟩
   ·rw [e];exact ⟨hb.1,hle,hb.2.2⟩
   ·rw [e2]
    obtain rfl:=Option.some.inj e1
    exact ⟨hs.1,hs.2.1,hs.2.2⟩
end
end Go.Proofs.YtekfbphnoibnjaaGreatDoor
