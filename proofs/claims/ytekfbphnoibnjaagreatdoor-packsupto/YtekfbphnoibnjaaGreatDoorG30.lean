/-
  PFewW PPut4
-/
import Derived.Test.YtekfbphnoibnjaaGreatDoorG29
set_option maxHeartbeats 4000000
namespace Go.Proofs.YtekfbphnoibnjaaGreatDoor
section
open Go.RowKit Go.Shelf
open Flm (Px FS okPx)
open Pk (coloursL index col1 choice fewl num)
attribute [local go_sem] Oper.semAt_some
def colP (c:Px):Nat->List (Nat × Int)
 | 0=>[]
 | k+1=>colP c k++num 224 (Flm.pick c k).toNat
theorem colP_all (c:Px):colP c 3=col1 c:=by
 unfold Pk.col1
 simp only [colP,List.nil_append,List.append_assoc]
 rfl
theorem pick_ok {c:Px} (h:okPx c) {k:Nat} (hk:k<3):0<=Flm.pick c k/\Flm.pick c k<=255:=by
 obtain ⟨h0,h1,h2⟩:=h
 rcases (by omega:k=0 \/ k=1 \/ k=2) with rfl|rfl|rfl
 ·exact h0
 ·exact h1
 ·exact h2
theorem colP_ok {c:Px} (h:okPx c):∀ k,k<=3->(colP c k).length<=19*k/\Pack.BitsOk (colP c k)
 | 0,_=>⟨Nat.le_refl _,Pk.ok_nil⟩
 | k+1,hk=>by
  obtain ⟨h1,h2⟩:=colP_ok h k (by omega)
  obtain ⟨h3,h4⟩:=pick_ok h (k:=k) (by omega)
  have h5:=num8_len (m:=(Flm.pick c k).toNat) (by omega) 224
  refine ⟨?_,Pk.ok_app h2 (Pk.num_ok (by omega) (by decide))⟩
  unfold colP
  rw [List.length_append]
  omega
set_option maxRecDepth 100000 in
theorem colIx (c0 c1 c2:Int) (k:Nat) (hk:k<3) (m:Int) (hm:m=Flm.pick (c0,c1,c2) k) (w:World):Sem.run Tryz.prog (Instr.index 50 (.agg #[.int .u8 c0,.int .u8 c1,.int .u8 c2]) (.int .i64 k)) w=.ok (.int .u8 m) w:=by
 subst hm
 rcases (by omega:k=0 \/ k=1 \/ k=2) with rfl|rfl|rfl <;> first|kernel_rfl|rfl
def FewJW (z:Nat) (T:List Px) (cs:List Px) (XG W:World) (b:Nat) (v:Value) (t:WS) (l pr:List (Nat × Int)) (G:Nat) {x y n:Nat} (pre:List (Pt x y n)):Prop:=PutAt XG W b v t l (pr++(pre.map (·.1)).flatMap fun q=>choice (cs.length-1) (index (Pk.pixT z T q) cs))/\W.heap[G]?=some (.cells #[.int .i64 x,.int .i64 y,.int .i64 n] 100 (0,0))
set_option maxRecDepth 100000 in
theorem pFewW (w:World) (q z nb C:Nat) (mh mb:Value) (T:List Px) (h:FwAt w q z nb C mh mb T) (b:Nat) (v:Value) (t:WS) (l:List (Nat × Int)) (hdr:DrAt w b v t l) (hqb:¬ (q=b \/ v.ownBlock=some q)) (hnb:¬ (nb=b \/ v.ownBlock=some nb))
  (x y n:Nat) (hx:x+n<=z) (hy:y+n<=z) (hn:4<=n) (ro:Room t l (57*(n*n)+19)) :
  Calls Tryz.prog 108 #[.pointer (some ⟨q,0,none⟩),.pointer (some ⟨b,0,none⟩),.agg #[.int .i64 x,.int .i64 y,.int .i64 n]] w (WrPost w b v t l ((coloursL z T x y n).map fun cs=>fewl cs (fun q=>index (Pk.pixT z T q) cs) x y n)):=by
 obtain ⟨Z,hZ⟩:∃ Z,Z=z*z:=⟨_,rfl⟩
 obtain ⟨hz16,hzz⟩:=h.z16
 obtain ⟨H,hH⟩:∃ H,H=w.heap.size:=⟨_,rfl⟩
 have hmx:Tryz.prog.follows .mixedOrders=true:=by kernel_rfl
 obtain ⟨W3,hW3⟩:∃ W3,W3=((w.alloc (.cells #[.pointer (some ⟨q,0,none⟩)] 87)).alloc (.cells #[.pointer (some ⟨b,0,none⟩)] 94)).alloc (.cells #[.int .i64 x,.int .i64 y,.int .i64 n] 100):=⟨_,rfl⟩
 have hB3:Below w.heap.size w W3:=by rw [hW3];exact below3 w _ _ _
 have hs3:W3.heap.size=H+3:=by rw [hW3,hH];simp
 have x0:W3.heap[H]?=some (.cells #[.pointer (some ⟨q,0,none⟩)] 87):=by
  rw [hW3,hH];exact (Below.heap_alloc _ _ _ (by simp only [World.size_alloc];omega)).trans ((Below.heap_alloc _ _ _ (by simp only [World.size_alloc];omega)).trans (heap_alloc_last w _))
 have x1:W3.heap[H+1]?=some (.cells #[.pointer (some ⟨b,0,none⟩)] 94):=by
  have:=heap_alloc_last (w.alloc (.cells #[.pointer (some ⟨q,0,none⟩)] 87)) (.cells #[.pointer (some ⟨b,0,none⟩)] 94)
  rw [World.size_alloc] at this
  rw [hW3,hH];exact (Below.heap_alloc _ _ _ (by simp only [World.size_alloc];omega)).trans this
 have x2:W3.heap[H+1+1]?=some (.cells #[.int .i64 x,.int .i64 y,.int .i64 n] 100):=by
  have:=heap_alloc_last ((w.alloc (.cells #[.pointer (some ⟨q,0,none⟩)] 87)).alloc (.cells #[.pointer (some ⟨b,0,none⟩)] 94)) (.cells #[.int .i64 x,.int .i64 y,.int .i64 n] 100)
  simp only [World.size_alloc] at this
  rw [hW3,hH];exact this
 have HCO:Hid (Calls Tryz.prog 135 #[.pointer (some ⟨q,0,none⟩),.agg #[.int .i64 x,.int .i64 y,.int .i64 n]] W3 (ColPost W3 (coloursL z T x y n))):=pColours W3 q z nb C mh mb T (h.below hB3) x y n hx hy (by omega)
 have r0:=cell_of_row _ _ 0 _ _ _ x0
 have a0:=cell_of_row _ _ 0 _ _ _ x2
 have a1:=cell_of_row _ _ 1 _ _ _ x2
 have a2:=cell_of_row _ _ 2 _ _ _ x2
 simp at r0 a0 a1 a2
 have HW3:Hid (W3=((w.alloc (.cells #[.pointer (some ⟨q,0,none⟩)] 87)).alloc (.cells #[.pointer (some ⟨b,0,none⟩)] 94)).alloc (.cells #[.int .i64 x,.int .i64 y,.int .i64 n] 100)):=hW3
 have HH:Hid (H=w.heap.size/\Below w.heap.size w W3/\W3.heap.size=H+3):=⟨hH,hB3,hs3⟩
 have HX:Hid (W3.heap[H]?=some (.cells #[.pointer (some ⟨q,0,none⟩)] 87)/\W3.heap[H+1]?=some (.cells #[.pointer (some ⟨b,0,none⟩)] 94)/\W3.heap[H+1+1]?=some (.cells #[.int .i64 x,.int .i64 y,.int .i64 n] 100)):=⟨x0,x1,x2⟩
 have HFW:Hid (FwAt w q z nb C mh mb T):=h
 have HZ:Hid (Z=z*z):=hZ
 have HDR:Hid (DrAt w b v t l/\Room t l (57*(n*n)+19)):=⟨hdr,ro⟩
 have HNQ:Hid (¬ (q=b \/ v.ownBlock=some q)/\¬ (nb=b \/ v.ownBlock=some nb)):=⟨hqb,hnb⟩
 clear hW3 x0 x1 x2 hB3 hs3 hZ h hH hdr ro hqb hnb
 refine (callsIn_wide (n:=5)).1 ?_
 refine callsIn_of_wp_marks Tryz.func108 rfl trivial ?_ rfl
 simp only [Tryz.ntmps108,List.size_toArray,List.length_cons,List.length_nil,Nat.reduceAdd,Nat.reduceSub,Array.replicate_succ,Array.replicate_zero,List.push_toArray,List.append_toArray,List.nil_append,List.cons_append]
 refine wpIn_wide.2 ?_
 cases hco:coloursL z T x y n with
 | none =>
  rw [hco] at HCO
  clear hco
  go_wp2_with (first
   | (rw [<- HW3.out,<- HH.out.1])
   | (go_at_call 135;refine HCO.out.mono ?_;rintro e wa ⟨ba,rfl⟩))
  refine retM_none (v:=.bool false) rfl (by simp [results,Tryz.results108,go_sem]) ⟨rfl,?_⟩
  have b1:Below w.heap.size w wa:=HH.out.2.1.trans (ba.mono HH.out.2.1.size)
  exact PutAt.below ((PutAt.refl HDR.out.1).below b1) ((Below.refl _ wa).alloc (Nat.le_refl _) _)
 | some cs =>
  obtain ⟨⟨cl0,cl4⟩,cok,cin⟩:=Pk.colours_facts HFW.out.ok (by omega) hco
  rw [hco] at HCO
  clear hco
  obtain ⟨M,hM⟩:∃ M,cs.length=M+1:=⟨cs.length-1,by omega⟩
  rw [hM] at cl4
  have HC2:Hid (Calls Tryz.prog 135 #[.pointer (some ⟨q,0,none⟩),.agg #[.int .i64 x,.int .i64 y,.int .i64 n]] W3 fun e w'=>∃ g,e=.returned (.tuple #[.slice (some ⟨g,0,none⟩) (M+1) (M+1),.bool true])/\Hid (ColsAt w' g cs/\W3.heap.size<=g/\Below W3.heap.size W3 w')):=HCO.out.mono fun e w' ⟨h1,g,h2,h3,h4⟩=>⟨g,by rw [h2,hM],h3,h4,h1⟩
  have HCS:Hid (cs.length=M+1/\(∀ c ∈ cs,okPx c)/\∀ q ∈ Flm.spots x y n,Pk.pixT z T q ∈ cs):=⟨hM,cok,cin⟩
  have hnn:16<=n*n:=Nat.mul_le_mul hn hn
  have HNN:Hid (16<=n*n):=hnn
  have HAL:Hid (∀ wa cg,(ColsAt wa cg cs/\W3.heap.size<=cg/\Below W3.heap.size W3 wa)->∃ wc K7,Hid (wc=(wa.alloc (.cells #[.slice (some ⟨cg,0,none⟩) (M+1) (M+1)] 58)).alloc (.cells #[.int .i64 M] 3))/\Hid (K7=wa.heap.size)/\wc.cell? ⟨H+1,0,none⟩=some (.pointer (some ⟨b,0,none⟩))/\wc.cell? ⟨K7+1,0,none⟩=some (.int .i64 M)/\wc.cell? ⟨K7,0,none⟩=some (.slice (some ⟨cg,0,none⟩) (M+1) (M+1)) /\
    Hid (∀ W,Frm (fun k=>k=b \/ v.ownBlock=some k) wc W->FwAt W q z nb C mh mb T/\W.cell? ⟨H,0,none⟩=some (.pointer (some ⟨q,0,none⟩))/\W.cell? ⟨H+1,0,none⟩=some (.pointer (some ⟨b,0,none⟩))/\W.heap[H+1+1]?=some (.cells #[.int .i64 x,.int .i64 y,.int .i64 n] 100)/\W.cell? ⟨K7,0,none⟩=some (.slice (some ⟨cg,0,none⟩) (M+1) (M+1))/\W.cell? ⟨K7+1,0,none⟩=some (.int .i64 M)/\ColsAt W cg cs) /\
    Hid (DrAt wc b v t l/\Below w.heap.size w wc)/\Hid (Calls Tryz.prog 136 #[.pointer (some ⟨b,0,none⟩),.int .i64 200,.int .i64 M] wc fun e w'=>e=.returned (.tuple #[])/\w'.cell? ⟨K7,0,none⟩=some (.slice (some ⟨cg,0,none⟩) (M+1) (M+1))/\Hid (PutAt wc w' b v t l (num 200 M)))):=by
   rintro wa cg ⟨g1,g2,g3⟩
   obtain ⟨K7,hK7⟩:∃ K7,K7=wa.heap.size:=⟨_,rfl⟩
   obtain ⟨wc,hwc⟩:∃ wc,wc=(wa.alloc (.cells #[.slice (some ⟨cg,0,none⟩) (M+1) (M+1)] 58)).alloc (.cells #[.int .i64 M] 3):=⟨_,rfl⟩
   obtain ⟨hH,hB3,hs3⟩:=HH.out
   obtain ⟨y0,y1,y2⟩:=HX.out
   have bc:Below wa.heap.size wa wc:=by rw [hwc];exact ((Below.refl _ wa).alloc (Nat.le_refl _) _).alloc (by simp) _
   have b3c:Below W3.heap.size W3 wc:=g3.trans (bc.mono g3.size)
   have b0:Below w.heap.size w wc:=hB3.trans (b3c.mono hB3.size)
   have up:∀ k o,W3.heap[k]?=some o->wc.heap[k]?=some o:=fun k o e=>(b3c.block k (heap_lt0 e)).trans e
   have z7:wc.heap[K7]?=some (.cells #[.slice (some ⟨cg,0,none⟩) (M+1) (M+1)] 58):=by
    rw [hwc,hK7];exact (Below.heap_alloc _ _ _ (by simp only [World.size_alloc];omega)).trans (heap_alloc_last wa _)
   have z9:wc.heap[K7+1]?=some (.cells #[.int .i64 M] 3):=by
    have:=heap_alloc_last (wa.alloc (.cells #[.slice (some ⟨cg,0,none⟩) (M+1) (M+1)] 58)) (.cells #[.int .i64 M] 3)
    rw [World.size_alloc] at this
    rw [hwc,hK7];exact this
   have hwaH:H+3<=wa.heap.size:=by have:=g3.size;omega
   have hbH:b<H:=by rw [hH];exact HDR.out.1.up
   have hvH:∀ k,v.ownBlock=some k->k<H:=fun k e=>by rw [hH];exact (World.ownsRow.lt HDR.out.1.own k e).2
   have far:∀ k,H<=k->¬ (k=b \/ v.ownBlock=some k):=fun k hk e=>e.elim (fun e=>by omega) (fun e=>by have:=hvH k e;omega)
   have HFR:Hid (∀ W,Frm (fun k=>k=b \/ v.ownBlock=some k) wc W->FwAt W q z nb C mh mb T/\W.cell? ⟨H,0,none⟩=some (.pointer (some ⟨q,0,none⟩))/\W.cell? ⟨H+1,0,none⟩=some (.pointer (some ⟨b,0,none⟩))/\W.heap[H+1+1]?=some (.cells #[.int .i64 x,.int .i64 y,.int .i64 n] 100)/\W.cell? ⟨K7,0,none⟩=some (.slice (some ⟨cg,0,none⟩) (M+1) (M+1))/\W.cell? ⟨K7+1,0,none⟩=some (.int .i64 M)/\ColsAt W cg cs):=fun W f=>by
    have bl:∀ k o,wc.heap[k]?=some o->H<=k->W.heap[k]?=some o:=fun k o e hk=>(f.block k (heap_lt0 e) (far k hk)).trans e
    exact ⟨(HFW.out.below b0).frm f HNQ.out.1 HNQ.out.2,cell_of_row _ _ 0 _ _ _ (bl H _ (up _ _ y0) (Nat.le_refl _)),cell_of_row _ _ 0 _ _ _ (bl (H+1) _ (up _ _ y1) (by omega)),bl _ _ (up _ _ y2) (by omega),cell_of_row _ _ 0 _ _ _ (bl K7 _ z7 (by omega)),cell_of_row _ _ 0 _ _ _ (bl (K7+1) _ z9 (by omega)),(g1.below bc).frm f (far cg (by omega))⟩
   have hd:=HDR.out.1.below b0
   refine ⟨wc,K7,hwc,hK7,cell_of_row _ _ 0 _ _ _ (up _ _ y1),cell_of_row _ _ 0 _ _ _ z9,cell_of_row _ _ 0 _ _ _ z7,HFR,⟨hd,b0⟩,?_⟩
   have:=pPutNumber wc wc b v t l [] 200 M (PutAt.refl hd) (HDR.out.2.le (by simp)) (fun _ hq=>absurd hq (List.not_mem_nil)) (by decide) (by omega)
   rw [List.nil_append] at this
   refine this.mono fun e w' he=>⟨he.1,?_,he.2⟩
   obtain ⟨v',p1,p2⟩:=he.2
   exact (HFR.out w' p2.frm).2.2.2.2.1
  have T1:Hid True:=trivial
  clear HCO hM cok cin cl0
  go_wp2_with (first
   | (clear T1;rw [<- HW3.out,<- HH.out.1])
   | (go_at_call 135;refine HC2.out.mono ?_;rintro e wa ⟨cg,rfl,HCA⟩;obtain ⟨wc,K7,HWC,HK7,e1,e2,e3,HFR,HDC,HPN⟩:=HAL.out wa cg HCA.out)
   | (rw [<- HWC.out,<- HK7.out];clear HWC HK7)
   | (go_at_call 136;refine HPN.out.mono ?_;rintro e wd ⟨rfl,d7,HPD⟩))
  clear r0 a0 a1 a2 e1 e2 e3 d7 HPN HAL HC2 HCA HX HW3
  have HLB:Hid (∀ j,j<=M+1->(num 200 M++(cs.take j).flatMap col1).length<=19+57*j/\Pack.BitsOk (num 200 M++(cs.take j).flatMap col1)):=fun j hj=>by
   have h1:=num8_len (m:=M) (by omega) 200
   have h2:=Pk.flat_len (cs.take j) (f:=col1) (m:=57) fun c hc=>(col1_ok (HCS.out.2.1 c (List.mem_of_mem_take hc))).2
   rw [List.length_take,HCS.out.1,Nat.min_eq_left hj] at h2
   refine ⟨by rw [List.length_append];omega,Pk.ok_app (Pk.num_ok (by omega) (by decide)) (Pk.flat_ok _ fun c hc=>(col1_ok (HCS.out.2.1 c (List.mem_of_mem_take hc))).1)⟩
  go_loopw [32] (fun v32 wr=>∃ j:Nat,j<=M+1/\v32=.int .i64 j/\PutAt wc wr b v t l (num 200 M++(cs.take j).flatMap col1)) (fun v32 _=>M+1-(intOf v32).toNat)
  case atStart=>exact ⟨0,Nat.zero_le _,rfl,by rw [List.take_zero,List.flatMap_nil,List.append_nil];exact HPD.out⟩
  case round =>
   clear HPD
   obtain ⟨j,hj,rfl,hp⟩:=hrel
   by_cases hlt:j<M+1
   ·have hlt':(j:Int)<(M:Int)+1:=by omega
    have hlt2:(j:Int)<((M+1:Nat):Int):=by omega
    obtain ⟨c,hc⟩:∃ c,cs[j]?=some c:=⟨cs[j]'(by have:=HCS.out.1;omega),List.getElem?_eq_getElem _⟩
    obtain ⟨c0,c1,c2⟩:=c
    have hco:=HCS.out.2.1 _ (List.mem_of_getElem? hc)
    obtain ⟨v1,p1,p2⟩:=hp
    obtain ⟨_,_,f3,_,_,_,f7⟩:=HFR.out wr p2.frm
    obtain ⟨g0,g1,g2⟩:=f7 j _ hc
    dsimp only at g0 g1 g2
    have HP:Hid (PutAt wc wr b v t l (num 200 M++(cs.take j).flatMap col1)):=⟨v1,p1,p2⟩
    obtain ⟨PJ,hPJ⟩:∃ PJ,PJ=num 200 M++(cs.take j).flatMap col1:=⟨_,rfl⟩
    have HPJ:Hid (PJ.length<=19+57*j/\Pack.BitsOk PJ/\num 200 M++(cs.take (j+1)).flatMap col1=PJ++col1 (c0,c1,c2)):=by
     obtain ⟨h1,h2⟩:=HLB.out j hj
     rw [<- hPJ] at h1 h2
     refine ⟨h1,h2,?_⟩
     rw [take_snoc hc,flatMap_snoc,<- List.append_assoc,<- hPJ]
    rw [<- hPJ] at HP
    have HCK:Hid (okPx (c0,c1,c2)):=hco
    clear p1 p2 f3 f7 hc hco hPJ
    go_wp2
    clear g0 g1 g2
    go_loopw [37] (fun v37 wq=>∃ k:Nat,k<=3/\v37=.int .i64 k/\PutAt wc wq b v t l (PJ++colP (c0,c1,c2) k)) (fun v37 _=>3-(intOf v37).toNat)
    case atStart=>exact ⟨0,by omega,rfl,by show PutAt _ _ _ _ _ _ (PJ++[]);rw [List.append_nil];exact HP.out.below ((Below.refl _ _).alloc (Nat.le_refl _) _)⟩
    case round =>
     obtain ⟨k,hk,rfl,hp⟩:=hrel
     obtain ⟨wq,hwq⟩:∃ wq,wq=wr:=⟨_,rfl⟩
     by_cases hk3:k<3
     ·have hk3':(k:Int)<3:=by omega
      obtain ⟨v2,p1,p2⟩:=hp
      have f3:=(HFR.out _ p2.frm).2.2.1
      obtain ⟨m,hm⟩:∃ m:Nat,(m:Int)=Flm.pick (c0,c1,c2) k:=⟨(Flm.pick (c0,c1,c2) k).toNat,by have:=pick_ok HCK.out hk3;omega⟩
      have hm255:m<=255:=by have:=pick_ok HCK.out hk3;omega
      have hix:=fun w=>colIx c0 c1 c2 k hk3 m hm w
      have hw1:IntKind.i64.wrap (m:Int)=m:=by rw [IntKind.wrap_i64];omega
      have hw2:wrap64 (m:Int)=m:=by unfold wrap64;omega
      have HCC:Hid (colP (c0,c1,c2) (k+1)=colP (c0,c1,c2) k++num 224 m):=by rw [Hid];show _++num 224 (Flm.pick (c0,c1,c2) k).toNat=_;rw [<- hm,Int.toNat_natCast]
      have HPN:=pPutNumber wc _ b v t l (PJ++colP (c0,c1,c2) k) 224 m ⟨v2,p1,p2⟩ (HDR.out.2.le (by
       have h1:=HPJ.out.1
       have h2:=(colP_ok HCK.out k hk).1
       have h3:=HNN.out
       rw [List.length_append]
       omega)) (Pk.ok_app HPJ.out.2.1 (colP_ok HCK.out k hk).2) (by decide) (Nat.le_trans hm255 (by decide))
      rw [List.append_assoc,<- HCC.out] at HPN
      clear hwq hm p1 p2
      go_wp2_with (go_at_call 136;refine HPN.mono ?_;rintro e we ⟨rfl,pe⟩)
      go_roundw
      case rel=>exact ⟨k+1,hk3,by go_num,pe⟩
      case measure=>simp [intOf];omega
     ·have hk3':¬ (k:Int)<3:=by omega
      have HK3:Hid (k=3/\PutAt wc wr b v t l (PJ++colP (c0,c1,c2) k)):=⟨by omega,hp⟩
      clear hp hwq
      go_wp2
      obtain ⟨h3,hp⟩:=HK3.out
      rw [h3,colP_all,<- HPJ.out.2.2] at hp
      exact ⟨⟨j+1,hlt,by go_num,hp⟩,by simp [intOf];omega⟩
   ·have hlt':¬ (j:Int)<(M:Int)+1:=by omega
    have hlt2:¬ (j:Int)<((M+1:Nat):Int):=by omega
    have HP:Hid (PutAt wc wr b v t l (num 200 M++cs.flatMap col1)):=by
     have:cs.take j=cs:=by rw [show j=cs.length by have:=HCS.out.1;omega];exact List.take_length
     rw [this] at hp
     exact hp
    obtain ⟨v1,p1,p2⟩:=hp
    have x2:=(HFR.out wr p2.frm).2.2.2.1
    have a0:=cell_of_row _ _ 0 _ _ _ x2
    have a1:=cell_of_row _ _ 1 _ _ _ x2
    have a2:=cell_of_row _ _ 2 _ _ _ x2
    simp at a0 a1 a2
    clear p1 p2 x2
    go_wp2_with (go_at_call 105;refine (pPoints _ _ _ _).mono ?_;rintro e wq ⟨rfl,rfl⟩)
    clear a0 a1 a2
    obtain ⟨G,hG⟩:∃ G,G=wr.heap.size:=⟨_,rfl⟩
    obtain ⟨XG,hXG⟩:∃ XG,XG=wr.alloc (.cells #[.int .i64 x,.int .i64 y,.int .i64 n] 100):=⟨_,rfl⟩
    have hit:XG.heap[G]?=some (.cells #[.int .i64 x,.int .i64 y,.int .i64 n] 100 (0,0)):=by rw [hXG,hG];exact heap_alloc_last wr _
    have hBG:Below wr.heap.size wr XG:=by rw [hXG];exact (Below.refl _ wr).alloc (Nat.le_refl _) _
    have hsG:XG.heap.size=G+1:=by rw [hXG,hG];simp
    obtain ⟨PR,hPR⟩:∃ PR,PR=num 200 M++cs.flatMap col1:=⟨_,rfl⟩
    have HI0:Hid (FewJW z T cs wc XG b v t l PR G ([]:List (Pt x y n))):=by
     unfold Hid FewJW
     rw [List.map_nil,List.flatMap_nil,List.append_nil,hPR]
     exact ⟨HP.out.below hBG,hit⟩
    have hwcG:wc.heap.size<=G:=by obtain ⟨_,_,q2⟩:=HP.out;rw [hG];exact q2.frm.size
    have HPR:Hid (PR.length<=19+57*(M+1)/\Pack.BitsOk PR/\PR=num 200 M++cs.flatMap col1):=by
     have:=HLB.out (M+1) (Nat.le_refl _)
     rw [show cs.take (M+1)=cs by rw [<- HCS.out.1];exact List.take_length,<- hPR] at this
     exact ⟨this.1,this.2,hPR⟩
    rw [<- hG,<- hXG]
    clear hG hXG hBG hPR HP HLB
    refine (wpIn_wide (n:=5)).1 ?_
    refine wpIn_rangeFunc_ownF rfl (by decide) (gf:=131) (lb:=#[.pointer (some ⟨G,0,none⟩)]) rfl trivial (enters_of Tryz.func131 (by kernel_rfl) rfl)
     (points_stops Fence.wide (5-1) trivial rfl (by decide) G x y n (by omega) (by omega) XG hit)
     (fun h1 h2=>h2.trans h1) (fun W l o o' hl _ _ _=>World.putObj_heap_other (by omega)) (Below.refl _ _) (fun _=>rfl)
     (fun pre W=>FewJW z T cs wc W b v t l PR G pre)
     (fun _ _ _=>False)
     ?own (fun _ _ _ _ _ hs _ _=>hs) HI0.out
     (fun pt=>{ tmps:=#[.pointer (some ⟨q,0,none⟩),.pointer (some ⟨b,0,none⟩),.agg #[.int .i64 x,.int .i64 y,.int .i64 n],.pointer (some ⟨H,0,none⟩),.pointer (some ⟨H+1,0,none⟩),.pointer (some ⟨H+1+1,0,none⟩),.bool false,.pointer (some ⟨K7,0,none⟩),.bool true,.pointer (some ⟨K7+1,0,none⟩),undef,u11,undef,u13,.int .i64 pt.1.1,.int .i64 pt.1.2,.tuple #[.slice (some ⟨cg,0,none⟩) (M+1) (M+1),.bool true],.pointer (some ⟨q,0,none⟩),.agg #[.int .i64 x,.int .i64 y,.int .i64 n],.tuple #[.slice (some ⟨cg,0,none⟩) (M+1) (M+1),.bool true],.slice (some ⟨cg,0,none⟩) (M+1) (M+1),.bool true,.bool true,.bool false,.slice (some ⟨cg,0,none⟩) (M+1) (M+1),.int .i64 ((M:Int)+1),.int .i64 M,.pointer (some ⟨b,0,none⟩),.int .i64 M,.tuple #[],.slice (some ⟨cg,0,none⟩) (M+1) (M+1),.int .i64 ((M:Int)+1),.int .i64 j,.bool false,u34,u35,u36,u37,u38,u39,u40,u41,u42,u43,u44,u45,.agg #[.int .i64 x,.int .i64 y,.int .i64 n],.func (.func 131) #[] #[.pointer (some ⟨G,0,none⟩)],.int .i64 pt.1.1,.int .i64 pt.1.2,undef,undef,undef,undef,undef,undef,undef,undef,undef,undef,undef,undef],defers:=[] }) ?assign ?body ?done ?stop
    case own =>
     rintro pre W W' row i1 hg hr
     obtain ⟨⟨v',j1,j2⟩,hWG⟩:=i1
     have hne:∀ k,(k=b \/ v'.ownBlock=some k)->¬ row=some k:=fun k hk e=>by
      obtain ⟨_,o,ho,hc⟩:=hr k e
      obtain ⟨cs,tt,fr,h1⟩:=j1.isCells k hk
      rw [ho] at h1
      cases h1
      cases hc
     have fg:Frm (fun k=>row=some k) W W':=(Frm.refl _ W).grown hg (fun k e=>.inl e)
     exact ⟨⟨v',j1.frm fg (hne b (.inl rfl)) (fun k e=>hne k (.inr e)),j2.frm.grown hg (fun k e=>.inr (by have:=(hr k e).1;omega)),j2.loc⟩,(fg.block G (heap_lt0 hWG) (fun e=>by have:=(hr G e).1;omega)).trans hWG⟩
    case assign =>
     intro l pt W K hK
     dsimp only [encPt]
     gi_wp2
     exact hK
    case body =>
     rintro lb pre ⟨⟨PX,PY⟩,⟨hpx1,hpx2⟩,hpy1,hpy2⟩ W i1 hlen
     dsimp only at hpx1 hpx2 hpy1 hpy2 ⊢
     obtain ⟨⟨v',j1,j2⟩,hWG⟩:=i1
     obtain ⟨r1,r2,r3,r4,r5,r6,r7⟩:=HFR.out W j2.frm
     obtain ⟨fl,hfl⟩:∃ fl,fl=(pre.map (·.1)).flatMap fun q=>choice (cs.length-1) (index (Pk.pixT z T q) cs):=⟨_,rfl⟩
     obtain ⟨g0,g1,g2,hg⟩:∃ g0 g1 g2,T.getD (PY*z+PX) (0,0,0)=(g0,g1,g2):=⟨_,_,_,rfl⟩
     have hcin:(g0,g1,g2) ∈ cs:=by
      have:=HCS.out.2.2 (PX,PY) (Pk.spots_mem.2 ⟨⟨hpx1,hpx2⟩,hpy1,hpy2⟩)
      rw [show Pk.pixT z T (PX,PY)=(g0,g1,g2) from hg] at this
      exact this
     obtain ⟨I,hI⟩:∃ I,I=index (g0,g1,g2) cs:=⟨_,rfl⟩
     have hI3:I<=3:=by have:=(Pk.index_lt hcin).1;have:=HCS.out.1;omega
     have hfo:fl.length<=4*pre.length/\Pack.BitsOk fl:=by
      have hq:∀ q ∈ pre.map (·.1),index (Pk.pixT z T q) cs<=3:=fun q hq=>by
       obtain ⟨p,_,rfl⟩:=List.mem_map.1 hq
       have:=(Pk.index_lt (HCS.out.2.2 p.1 (Pk.spots_mem.2 p.2))).1
       have:=HCS.out.1
       omega
      rw [hfl]
      refine ⟨?_,Pk.flat_ok _ fun q hq'=>(choice_ok (hq q hq')).1⟩
      have:=Pk.flat_len (pre.map (·.1)) (f:=fun q=>choice (cs.length-1) (index (Pk.pixT z T q) cs)) (m:=4) fun q hq'=>(choice_ok (hq q hq')).2
      rwa [List.length_map] at this
     have HNXT:Hid (PR++((pre++[⟨(PX,PY),⟨hpx1,hpx2⟩,hpy1,hpy2⟩]:List (Pt x y n)).map (·.1)).flatMap (fun q=>choice (cs.length-1) (index (Pk.pixT z T q) cs))=(PR++fl)++choice M I):=by
      unfold Hid
      rw [List.map_append,List.map_cons,List.map_nil,flatMap_snoc,<- hfl,<- List.append_assoc,HCS.out.1,Nat.add_sub_cancel,hI]
      show _++choice M (index (T.getD (PY*z+PX) (0,0,0)) cs)=_
      rw [hg]
     have HPW:Hid (PutAt wc W b v t l (PR++fl)):=by rw [Hid,hfl];exact ⟨v',j1,j2⟩
     have HA:Hid (∀ wx,Below W.heap.size W wx->Calls Tryz.prog 113 #[.agg #[.int .i64 z,.slice (some ⟨nb,0,none⟩) Z C],.int .i64 PX,.int .i64 PY] wx fun e w'=>e=.returned (.agg #[.int .u8 g0,.int .u8 g1,.int .u8 g2])/\Below wx.heap.size wx w'):=fun wx hb=>by
      have:=pAt (C:=C) wx nb z T hzz (r1.px.below hb) PX PY (by omega) (by omega)
      rw [hg] at this
      rw [HZ.out]
      exact this
     have HIX:Hid (∀ wx,Below W.heap.size W wx->Calls Tryz.prog 138 #[.slice (some ⟨cg,0,none⟩) (M+1) (M+1),.agg #[.int .u8 g0,.int .u8 g1,.int .u8 g2]] wx fun e w'=>e=.returned (.int .i64 I)/\Below wx.heap.size wx w'):=fun wx hb=>by
      rw [hI]
      exact pIndex wx cg (M+1) (M+1) cs (g0,g1,g2) HCS.out.1 (by omega) (r7.below hb) hcin
     have HDW:Hid (DrAt W b v' (Pack.puts t (PR++fl)) (l++(PR++fl))/\Wr b v wc W v'):=⟨by rw [hfl];exact j1,j2⟩
     have HPC:Hid (∀ wx,Below W.heap.size W wx->Calls Tryz.prog 137 #[.pointer (some ⟨b,0,none⟩),.int .i64 I,.int .i64 M] wx fun e w'=>e=.returned (.tuple #[])/\PutAt wx w' b v' (Pack.puts t (PR++fl)) (l++(PR++fl)) (choice M I)):=fun wx hb=>by
      have h1:=HPR.out.1
      have h2:=hfo.1
      have h3:=HNN.out
      have h4:=Pack.puts_m (PR++fl) t
      have h5:(PR++fl).length=PR.length+fl.length:=List.length_append
      have hro:=HDR.out.2
      have hok:=Pk.ok_app HPR.out.2.1 hfo.2
      have:=pPutChoice wx wx b v' (Pack.puts t (PR++fl)) (l++(PR++fl)) [] I M (PutAt.refl (HDW.out.1.below hb)) ⟨Pack.puts_ok _ t hro.ok fun q hq=>(hok q hq).1,by have:=hro.m;simp only [List.length_nil];omega,by have:=hro.l;rw [List.length_append];simp only [List.length_nil];omega⟩ (fun _ hq=>absurd hq (List.not_mem_nil)) hI3 (by omega)
      rw [List.nil_append] at this
      exact this
     have cc:∀ Y,Frm (fun k=>k=b \/ v.ownBlock=some k) wc Y->(Y.cell? ⟨H,0,none⟩=some (.pointer (some ⟨q,0,none⟩))/\Y.cell? ⟨H+1,0,none⟩=some (.pointer (some ⟨b,0,none⟩))/\Y.cell? ⟨q,0,none⟩=some (.int .i64 z)/\Y.cell? ⟨q,1,none⟩=some (.slice (some ⟨nb,0,none⟩) Z C)/\Y.cell? ⟨K7,0,none⟩=some (.slice (some ⟨cg,0,none⟩) (M+1) (M+1))/\Y.cell? ⟨K7+1,0,none⟩=some (.int .i64 M)):=fun Y f=>by
      obtain ⟨y1,y2,y3,_,y5,y6,_⟩:=HFR.out Y f
      have y7:=y1.c1
      rw [<- HZ.out] at y7
      exact ⟨y2,y3,y1.c0,y7,y5,y6⟩
     have hW0:Frm (fun k=>k=b \/ v.ownBlock=some k) wc W:=j2.frm
     have HKC:Hid (∀ k,(k=b \/ v'.ownBlock=some k)->∃ cs t fr,W.heap[k]?=some (.cells cs t fr)):=j1.isCells
     have HNG:Hid (¬ (G=b \/ v'.ownBlock=some G)/\W.heap[G]?=some (.cells #[.int .i64 x,.int .i64 y,.int .i64 n] 100 (0,0))):=by
      refine ⟨fun e=>?_,hWG⟩
      rcases e with e|e
      ·have:=HDR.out.1.up
       have:=HDC.out.2.size
       omega
      ·rcases j1.own.2 with ⟨e1,_⟩|⟨gg,cap,cur,e1,_,e2,_⟩
       ·rw [e1] at e;simp [Value.ownBlock] at e
       ·rw [e1] at e
        simp [Value.ownBlock] at e
        rw [e,hWG] at e2
        injection e2 with e2
        injection e2 with e3 e4
        exact absurd e4 (by decide)
     clear r1 r2 r3 r4 r5 r6 r7 hfl hg hcin hI hfo j1 j2 hlen hWG
     gi_wp2
     refine region_round_at (S:=fun w'=>w'.cell? ⟨H,0,none⟩=some (.pointer (some ⟨q,0,none⟩))/\w'.cell? ⟨H+1,0,none⟩=some (.pointer (some ⟨b,0,none⟩))/\w'.cell? ⟨q,0,none⟩=some (.int .i64 z)/\w'.cell? ⟨q,1,none⟩=some (.slice (some ⟨nb,0,none⟩) Z C)/\w'.cell? ⟨K7,0,none⟩=some (.slice (some ⟨cg,0,none⟩) (M+1) (M+1))/\w'.cell? ⟨K7+1,0,none⟩=some (.int .i64 M)) 12 #[false,false,false,false,false,false,false,false,false,false,false,false] rfl rfl hmx (by kernel_rfl) (fun ⟨_,_,h⟩=>h) ?_
     have hdw:Below W.heap.size W W.drew:=⟨rfl,rfl,rfl,Nat.le_refl _,fun _ _=>rfl⟩
     have hS0:(W.drew.cell? ⟨H,0,none⟩=some (.pointer (some ⟨q,0,none⟩))/\W.drew.cell? ⟨H+1,0,none⟩=some (.pointer (some ⟨b,0,none⟩))/\W.drew.cell? ⟨q,0,none⟩=some (.int .i64 z)/\W.drew.cell? ⟨q,1,none⟩=some (.slice (some ⟨nb,0,none⟩) Z C)/\W.drew.cell? ⟨K7,0,none⟩=some (.slice (some ⟨cg,0,none⟩) (M+1) (M+1))/\W.drew.cell? ⟨K7+1,0,none⟩=some (.int .i64 M)):=cc _ (hW0.trans (Frm.of_below hdw))
     refine tk_at 0 50 (.pointer (some ⟨b,0,none⟩)) #[true,false,false,false,false,false,false,false,false,false,false,false] rfl rfl rfl (by kernel_rfl) (by rfl) (by rintro w ⟨t0,t1,t2,t3,t4,t5⟩;go_simp) (by assumption) ?_
     simp only [sIb,sCs,sCz]
     refine tk_at 1 51 (.slice (some ⟨cg,0,none⟩) (M+1) (M+1)) #[true,true,false,false,false,false,false,false,false,false,false,false] rfl rfl rfl (by kernel_rfl) (by rfl) (by rintro w ⟨t0,t1,t2,t3,t4,t5⟩;go_simp) (by assumption) ?_
     simp only [sIb,sCs,sCz]
     refine tk_at 2 52 (.pointer (some ⟨q,0,none⟩)) #[true,true,true,false,false,false,false,false,false,false,false,false] rfl rfl rfl (by kernel_rfl) (by rfl) (by rintro w ⟨t0,t1,t2,t3,t4,t5⟩;go_simp) (by assumption) ?_
     simp only [sIb,sCs,sCz]
     refine tk_at 3 53 (.pointer (some ⟨q,0,none⟩)) #[true,true,true,true,false,false,false,false,false,false,false,false] rfl rfl rfl (by kernel_rfl) (by rfl) (by rintro w ⟨t0,t1,t2,t3,t4,t5⟩;go_simp) (by assumption) ?_
     simp only [sIb,sCs,sCz]
     refine tk_at 4 54 (.pointer (some ⟨q,0,none⟩)) #[true,true,true,true,true,false,false,false,false,false,false,false] rfl rfl rfl (by kernel_rfl) (by rfl) (by rintro w ⟨t0,t1,t2,t3,t4,t5⟩;go_simp) (by assumption) ?_
     simp only [sIb,sCs,sCz]
     refine tk_at 5 55 (.agg #[.int .i64 z,.slice (some ⟨nb,0,none⟩) Z C]) #[true,true,true,true,true,true,false,false,false,false,false,false] rfl rfl rfl (by kernel_rfl) (by rfl) (by rintro w ⟨t0,t1,t2,t3,t4,t5⟩;go_simp) (by assumption) ?_
     simp only [sIb,sCs,sCz]
     refine tk_at 6 56 (.int .i64 PX) #[true,true,true,true,true,true,true,false,false,false,false,false] rfl rfl rfl (by kernel_rfl) (by rfl) (by rintro w ⟨t0,t1,t2,t3,t4,t5⟩;go_simp) (by assumption) ?_
     simp only [sIb,sCs,sCz]
     refine tk_at 7 57 (.int .i64 PY) #[true,true,true,true,true,true,true,true,false,false,false,false] rfl rfl rfl (by kernel_rfl) (by rfl) (by rintro w ⟨t0,t1,t2,t3,t4,t5⟩;go_simp) (by assumption) ?_
     simp only [sIb,sCs,sCz]
     refine tk_at 10 60 (.int .i64 M) #[true,true,true,true,true,true,true,true,false,false,true,false] rfl rfl rfl (by kernel_rfl) (by rfl) (by rintro w ⟨t0,t1,t2,t3,t4,t5⟩;go_simp) (by assumption) ?_
     simp only [sIb,sCs,sCz]
     refine enter_at (i:=8) (d:=58) (f:=113) (args:=#[.agg #[.int .i64 z,.slice (some ⟨nb,0,none⟩) Z C],.int .i64 PX,.int .i64 PY]) #[true,true,true,true,true,true,true,true,true,false,true,false] (by kernel_rfl) rfl rfl rfl (by rfl) (by go_simp) (fun u w'=>u=.agg #[.int .u8 g0,.int .u8 g1,.int .u8 g2]/\Below W.heap.size W w') ((HA.out W.drew hdw).mono (fun e w' he=>⟨_,he.1,rfl,hdw.trans he.2⟩)) ?_
     rintro va wa ⟨rfl,ba⟩
     refine ⟨cc _ (hW0.trans (Frm.of_below ba)),?_⟩
     simp only [sIb,sCs,sCz]
     refine enter_at (i:=9) (d:=59) (f:=138) (args:=#[.slice (some ⟨cg,0,none⟩) (M+1) (M+1),.agg #[.int .u8 g0,.int .u8 g1,.int .u8 g2]]) #[true,true,true,true,true,true,true,true,true,true,true,false] (by kernel_rfl) rfl rfl rfl (by rfl) (by go_simp) (fun u w'=>u=.int .i64 I/\Below W.heap.size W w') ((HIX.out wa ba).mono (fun e w' he=>⟨_,he.1,rfl,ba.trans (he.2.mono ba.size)⟩)) ?_
     rintro vb wb ⟨rfl,bb⟩
     refine ⟨cc _ (hW0.trans (Frm.of_below bb)),?_⟩
     simp only [sIb,sCs,sCz]
     refine enter_at (i:=11) (d:=61) (f:=137) (args:=#[.pointer (some ⟨b,0,none⟩),.int .i64 I,.int .i64 M]) #[true,true,true,true,true,true,true,true,true,true,true,true] (by kernel_rfl) rfl rfl rfl (by rfl) (by go_simp) (fun u w'=>u=.tuple #[]/\PutAt wb w' b v' (Pack.puts t (PR++fl)) (l++(PR++fl)) (choice M I)) ((HPC.out wb bb).mono (fun e w' he=>⟨_,he.1,rfl,he.2⟩)) ?_
     rintro vc wz ⟨rfl,pz⟩
     have hpz:PutAt wc wz b v t l ((PR++fl)++choice M I):=by
      obtain ⟨v3,z3,z4⟩:=pz
      exact ⟨v3,by rw [puts_app',<- List.append_assoc];exact z3,(HDW.out.2.below bb).trans z4⟩
     refine ⟨by obtain ⟨_,_,a2⟩:=hpz;exact cc wz a2.frm,?_⟩
     simp only [sIb,sCs,sCz]
     refine wpAnyH_done (by kernel_rfl) ?_ _
     have HPZ:Hid (PutAt wc wz b v t l ((PR++fl)++choice M I)/\Below W.heap.size W wb/\PutAt wb wz b v' (Pack.puts t (PR++fl)) (l++(PR++fl)) (choice M I)):=⟨hpz,bb,pz⟩
     clear pz hpz bb ba hS0 cc hdw hW0
     gi_wp2
     obtain ⟨z1,z2,v3,z3,z4⟩:=HPZ.out
     have fW:Frm (fun k=>k=b \/ v'.ownBlock=some k) W wz:=(Frm.of_below z2).trans z4.frm
     have hGz:=fW.block G (heap_lt0 HNG.out.2) HNG.out.1
     refine ⟨keeps_cells fW HKC.out,hGz,?_,hGz.trans HNG.out.2⟩
     rw [HNXT.out]
     exact z1
    case done =>
     rintro D xs W hD hxs i1 hK
     have HP:Hid (PutAt w W b v t l (fewl cs (fun q=>index (Pk.pixT z T q) cs) x y n)):=by
      have i2:PutAt wc W b v t l (PR++(xs.map (·.1)).flatMap fun q=>choice (cs.length-1) (index (Pk.pixT z T q) cs)):=i1.1
      rw [hxs,HPR.out.2.2,List.append_assoc] at i2
      unfold Hid Pk.fewl
      rw [HCS.out.1,Nat.add_sub_cancel]
      rw [HCS.out.1,Nat.add_sub_cancel] at i2
      exact i2.from HDC.out.2
     have HK:Hid (W.heap[D]?=some (.deferred (some []))):=hK
     have hDG:w.heap.size<=D:=by have:=HDC.out.2.size;omega
     clear i1 hK hxs
     go_wp2_with fail
     have hg:=grownBy_putObj' W D (.deferred none)
     have fg:Frm (fun k=>k=D) W (W.putObj D (.deferred none)):=(Frm.refl _ W).grown hg (fun k e=>by cases e;exact .inl rfl)
     refine retM_mark (v:=.bool true) rfl HK.out (by simp [results,Tryz.results108,go_sem]) ⟨rfl,?_⟩
     obtain ⟨v',j1,j2⟩:=HP.out
     have hne:∀ k,(k=b \/ v'.ownBlock=some k)->¬ k=D:=fun k hk e=>by
      obtain ⟨cs,tt,fr,h1⟩:=j1.isCells k hk
      rw [e,HK.out] at h1
      cases h1
     refine ⟨v',j1.frm fg (hne b (.inl rfl)) (fun k e=>hne k (.inr e)),?_,j2.loc⟩
     exact ⟨fg.os.trans j2.frm.os,fg.tape.trans j2.frm.tape,fg.output.trans j2.frm.output,Nat.le_trans j2.frm.size fg.size,fun k hk hs=>(fg.block k (Nat.lt_of_lt_of_le hk j2.frm.size) (fun e=>by omega)).trans (j2.frm.block k hk hs)⟩
    case stop =>
     rintro D c pre W hD hpre hf hK
     exact hf.elim
end
section
open Go.RowKit
open Pk (hd kind)
set_option maxRecDepth 20000 in
theorem pPutKind (w wr:World) (b:Nat) (v:Value) (t:WS) (l p:List (Nat × Int)) (x y n κ:Nat) (h:PutAt w wr b v t l p) (ro:Room t l (p.length+3)) (op:Pack.BitsOk p) (hn:n=4 \/ n=8 \/ n=16) (hκ:κ<4) :
  Calls Tryz.prog 112 #[.pointer (some ⟨b,0,none⟩),.agg #[.int .i64 x,.int .i64 y,.int .i64 n],.int .i64 κ] wr fun e w'=>e=.returned (.tuple #[])/\PutAt w w' b v t l (p++(hd n 0++kind (κ / 2) (κ % 2))):=by
 obtain ⟨A,hA⟩:∃ A,A=κ / 2:=⟨_,rfl⟩
 obtain ⟨B,hB⟩:∃ B,B=κ % 2:=⟨_,rfl⟩
 obtain ⟨C,hC⟩:∃ C:List (Nat × Int),C=hd n 0++kind A B:=⟨_,rfl⟩
 rw [<- hA,<- hB,<- hC]
 have hA1:A<=1:=by omega
 have hB1:B<=1:=by omega
 have e1:Int.tdiv (κ:Int) 2=(A:Int):=by rw [Int.tdiv_eq_ediv_of_nonneg (by omega)];omega
 have e2:Int.tmod (κ:Int) 2=(B:Int):=by rw [Int.tmod_eq_emod_of_nonneg (by omega)];omega
 have e3:wrap64 (A:Int)=A:=by unfold wrap64;omega
 have e4:wrap64 (B:Int)=B:=by unfold wrap64;omega
 have e5:wrap64 (3+(A:Int))=((3+A:Nat):Int):=by unfold wrap64;omega
 have HC:Hid (C=hd n 0++kind A B):=hC
 have HK:Hid (Pack.BitsOk p/\Room t l (p.length+3)):=⟨op,ro⟩
 have HH:Hid (PutAt w (wr.alloc (.cells #[.int .i64 x,.int .i64 y,.int .i64 n] 100)) b v t l p):=h.below ((Below.refl _ _).alloc (Nat.le_refl _) _)
 clear h op ro hC hA hB
 by_cases h4:n=4
 ·subst h4
  go_enter Tryz.func112,Tryz.ntmps112
  go_wp2_with (first
   | (go_at_call 114;refine (HH.out.step (HK.out.2.le (by omega)) HK.out.1 (k:=2) (x:=A) (by decide) (by omega)).mono ?_;rintro e w2 ⟨rfl,h2⟩;clear HH)
   | (go_at_call 114;refine (h2.step (HK.out.2.le (by rw [List.length_append];simp)) (Pk.ok_app HK.out.1 (Pk.ok_cons (by decide) (by omega) Pk.ok_nil)) (k:=3+A) (x:=B) (by omega) (by omega)).mono ?_;rintro e w3 ⟨rfl,h3⟩))
  go_end0
  refine ⟨rfl,?_⟩
  rw [HC.out]
  rw [List.append_assoc] at h3
  exact h3
 ·have h4':(4:Int)<(n:Int):=by omega
  have hk:(if n=16 then 0 else 1)<400:=by split <;> decide
  obtain ⟨K,hK⟩:∃ K:Nat,K=(if n=16 then 0 else 1):=⟨_,rfl⟩
  rw [<- hK] at hk
  have HS:Hid (∀ w,Calls Tryz.prog 115 #[.int .i64 n] w fun e w'=>e=.returned (.int .i64 K)/\w'=w):=fun w=>by rw [hK];exact pSplitContextW w n
  have HKK:Hid (hd n 0=[(K,0)]):=by unfold Hid Pk.hd;rw [if_neg h4,hK]
  clear hK
  go_enter Tryz.func112,Tryz.ntmps112
  go_wp2_with (first
   | (go_at_call 115;refine (HS.out _).mono ?_;rintro e w1 ⟨rfl,rfl⟩)
   | (go_at_call 114;refine (HH.out.step (HK.out.2.le (by omega)) HK.out.1 (k:=K) (x:=0) hk (.inl rfl)).mono ?_;rintro e w2 ⟨rfl,h2⟩;clear HH)
   | (go_at_call 114;refine (h2.step (HK.out.2.le (by rw [List.length_append];simp)) (Pk.ok_app HK.out.1 (Pk.ok_cons hk (.inl rfl) Pk.ok_nil)) (k:=2) (x:=A) (by decide) (by omega)).mono ?_;rintro e w3 ⟨rfl,h3⟩;clear h2)
   | (go_at_call 114;refine (h3.step (HK.out.2.le (by rw [List.length_append,List.length_append];simp)) (Pk.ok_app (Pk.ok_app HK.out.1 (Pk.ok_cons hk (.inl rfl) Pk.ok_nil)) (Pk.ok_cons (by decide) (by omega) Pk.ok_nil)) (k:=3+A) (x:=B) (by omega) (by omega)).mono ?_;rintro e w4 ⟨rfl,h4⟩))
  go_end0
  refine ⟨rfl,?_⟩
  rw [HC.out,HKK.out]
  rw [List.append_assoc,List.append_assoc] at h4
  exact h4
end
end Go.Proofs.YtekfbphnoibnjaaGreatDoor
