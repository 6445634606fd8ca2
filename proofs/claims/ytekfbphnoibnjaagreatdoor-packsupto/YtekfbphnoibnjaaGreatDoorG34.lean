/-
  SameFilmIn Encoded LentFilm0 LentFilm
-/
import Derived.Test.YtekfbphnoibnjaaGreatDoorG33
import Derived.Test.YtekfbphnoibnjaaGreatDoorG14
set_option maxHeartbeats 4000000
namespace Go.Proofs.YtekfbphnoibnjaaGreatDoor
section
open Go.RowKit
open Flm (Px FS)
set_option maxRecDepth 100000 in
theorem sameFilm_in (w:World) (B z fc:Nat) (a:Option Addr) (Lb:Value) (frs:List (List Px)) (ha:FiIn w a frs) (hl:∀ j,j<frs.length->(frs.getD j []).length=z*z) (hb:FilmAt w B Lb z frs) :
  Calls Tryz.prog 31 #[.agg #[.int .i64 z,.slice a frs.length fc],.agg #[.int .i64 z,Lb]] w fun x w'=>x=.returned (.bool true)/\Below w.heap.size w w':=by
 obtain ⟨b,cb,rfl,rb⟩:=hb.row
 obtain ⟨n,hn⟩:∃ n,n=frs.length:=⟨_,rfl⟩
 have h8:n<=8:=by obtain ⟨_,_,_,_,_,_,_,h8,_⟩:=hb;omega
 obtain ⟨Z,hZ⟩:∃ Z,Z=z*z:=⟨_,rfl⟩
 have hZ8:0<Z/\Z<=256:=by obtain ⟨_,_,_,_,_,_,hz,_⟩:=hb;rw [hZ];rcases hz with e|e|e <;> subst e <;> decide
 rw [<- hn]
 obtain ⟨W,hW⟩:∃ W,W=(w.alloc (.cells #[.int .i64 z,.slice a n fc] 27)).alloc (.cells #[.int .i64 z,.slice b n cb] 27):=⟨_,rfl⟩
 have hB:Below w.heap.size w W:=by rw [hW];exact ((Below.refl _ w).alloc (Nat.le_refl _) _).alloc (by simp) _
 have h0:W.heap[w.heap.size]?=some (.cells #[.int .i64 z,.slice a n fc] 27 (0,0)):=by rw [hW,Below.heap_alloc _ _ _ (by simp)];exact heap_alloc_last w _
 have h1:W.heap[w.heap.size+1]?=some (.cells #[.int .i64 z,.slice b n cb] 27 (0,0)):=by
  have:=heap_alloc_last (w.alloc (.cells #[.int .i64 z,.slice a n fc] 27)) (.cells #[.int .i64 z,.slice b n cb] 27)
  rw [World.size_alloc] at this
  rw [hW];exact this
 have k00:W.cell? ⟨w.heap.size,0,none⟩=some (.int .i64 z):=cell_of_row _ _ 0 _ _ _ h0
 have k01:W.cell? ⟨w.heap.size,1,none⟩=some (.slice a n fc):=cell_of_row _ _ 1 _ _ _ h0
 have k10:W.cell? ⟨w.heap.size+1,0,none⟩=some (.int .i64 z):=cell_of_row _ _ 0 _ _ _ h1
 have k11:W.cell? ⟨w.heap.size+1,1,none⟩=some (.slice b n cb):=cell_of_row _ _ 1 _ _ _ h1
 have HW:Hid (W=(w.alloc (.cells #[.int .i64 z,.slice a n fc] 27)).alloc (.cells #[.int .i64 z,.slice b n cb] 27)):=hW
 have HB:Hid (Below w.heap.size w W):=hB
 have HR:Hid (∀ i,i<n->∃ ga go fa fo ca gb fb,a=some ⟨ga,go,none⟩/\b=some ⟨gb,0,none⟩/\W.cell? ⟨ga,go+i,none⟩=some (.slice (some ⟨fa,fo,none⟩) Z ca)/\W.cell? ⟨gb,i,none⟩=some (.slice (some ⟨fb,0,none⟩) Z Z)/\∀ k,k<Z->∃ p0 p1 p2:Int,(W.cell? ⟨fa,fo+k*3,none⟩=some (.int .u8 p0)/\W.cell? ⟨fa,fo+k*3+1,none⟩=some (.int .u8 p1)/\W.cell? ⟨fa,fo+k*3+2,none⟩=some (.int .u8 p2))/\(W.cell? ⟨fb,k*3,none⟩=some (.int .u8 p0)/\W.cell? ⟨fb,k*3+1,none⟩=some (.int .u8 p1)/\W.cell? ⟨fb,k*3+2,none⟩=some (.int .u8 p2))):=fun i hi=>by
  have L:∀ g t u,w.cell? ⟨g,t,none⟩=some u->W.cell? ⟨g,t,none⟩=some u:=fun g t u e=>(hB.cell (p:=⟨g,t,none⟩) (World.block_lt_of_cell? w _ e)).trans e
  obtain ⟨ga,go,ea,hf⟩:=ha.resolve_left (by omega)
  obtain ⟨a1,ca,c1,hp⟩:=hf i (by omega)
  have hli:=hl i (by omega)
  rw [hli,<- hZ] at c1
  obtain ⟨fa,fo,e1,p1⟩:=hp.resolve_left (by omega)
  obtain ⟨gb,fb,eb,c2,p2⟩:=rb i (by omega)
  rw [<- hZ] at c2 p2
  rw [e1] at c1
  refine ⟨ga,go,fa,fo,ca,gb,fb,ea,eb,L _ _ _ c1,L _ _ _ c2,fun k hk=>?_⟩
  obtain ⟨x0,x1,x2⟩:=p1 k (by omega)
  obtain ⟨y0,y1,y2⟩:=p2.cell k hk
  exact ⟨_,_,_,⟨L _ _ _ x0,L _ _ _ x1,L _ _ _ x2⟩,L _ _ _ y0,L _ _ _ y1,L _ _ _ y2⟩
 clear rb ha hb hl hW hB h0 h1 hn hZ
 go_enter Tryz.func31,Tryz.ntmps31
 go_wp2_with (rw [<- HW.out])
 go_loopw [5] (fun i wr=>∃ k:Nat,k<=n/\i=.int .i64 k/\∃ d,wr=W.drewN d) (fun i _=>n-(intOf i).toNat)
 case atStart=>exact ⟨0,by omega,rfl,0,rfl⟩
 case round =>
  obtain ⟨i,hi,rfl,d,rfl⟩:=hrel
  by_cases hlt:i<n
  ·have hlt':(i:Int)<(n:Int):=by omega
   obtain ⟨ga,go,fa,fo,ca,gb,fb,rfl,rfl,c1,c2,HP⟩:=HR.out i hlt
   have HPX:Hid (∀ k,k<Z->∃ p0 p1 p2:Int,(W.cell? ⟨fa,fo+k*3,none⟩=some (.int .u8 p0)/\W.cell? ⟨fa,fo+k*3+1,none⟩=some (.int .u8 p1)/\W.cell? ⟨fa,fo+k*3+2,none⟩=some (.int .u8 p2))/\(W.cell? ⟨fb,k*3,none⟩=some (.int .u8 p0)/\W.cell? ⟨fb,k*3+1,none⟩=some (.int .u8 p1)/\W.cell? ⟨fb,k*3+2,none⟩=some (.int .u8 p2))):=HP
   clear HP
   go_wp2
   go_region
   all_goals
    go_wp2
    go_loopw [6] (fun j wr=>∃ k:Nat,k<=Z/\j=.int .i64 k/\∃ d,wr=W.drewN d) (fun j _=>Z-(intOf j).toNat)
    case atStart=>exact ⟨0,by omega,rfl,_,rfl⟩
    case round =>
     obtain ⟨k,hk,rfl,d2,rfl⟩:=hrel
     by_cases hkz:k<Z
     ·have hkz':(k:Int)<(Z:Int):=by omega
      obtain ⟨p0,p1,p2,⟨x0,x1,x2⟩,y0,y1,y2⟩:=HPX.out k hkz
      have heq:=fun w=>eqPix w p0 p1 p2 p0 p1 p2
      go_wp2
      go_region
      all_goals
       go_wp2
       go_roundw
       case rel=>exact ⟨k+1,by omega,by go_num,_,rfl⟩
       case measure=>simp [intOf];omega
     ·have hkz':¬ ((k:Int)<(Z:Int)):=by omega
      go_wp2
      go_roundw
      case rel=>exact ⟨i+1,by omega,by go_num,_,rfl⟩
      case measure=>simp [intOf];omega
  ·have hlt':¬ (i:Int)<(n:Int):=by omega
   go_wp2
   go_ret
   exact ⟨rfl,below_drewN HB.out d⟩
end
section
open Go.RowKit
open Flm (Px okPx)
noncomputable def encR (z:Int) (F:List (List Px)):ByteArray × Int:=if rightB z F.length (lensF F)=true then (encS z.toNat F.length F,0) else (⟨#[]⟩,3)
theorem right_film {z:Int} {F:List (List Px)} (h:rightB z F.length (lensF F)=true) (ok:∀ j,∀ p ∈ F.getD j [],okPx p):∃ n:Nat,z=n/\Pk.FilmOk n F:=by
 unfold rightB at h
 rw [Bool.and_eq_true,Bool.and_eq_true,List.all_eq_true] at h
 obtain ⟨h1,h2,h3⟩:=h
 have hz:z=4 \/ z=8 \/ z=16:=of_decide_eq_true h1
 have h8:F.length<=8:=of_decide_eq_true h2
 refine ⟨z.toNat,by omega,⟨by unfold Pk.IsZ;omega,h8,fun f hf=>?_,ok⟩⟩
 have h4:((F.getD f []).length:Int)=z*z:=of_decide_eq_true (h3 f (List.mem_range.2 hf))
 rcases hz with rfl|rfl|rfl
 ·exact Int.ofNat_inj.1 h4
 ·exact Int.ofNat_inj.1 h4
 ·exact Int.ofNat_inj.1 h4
theorem enc_any (w:World) (z:Int) (fa:Option Addr) (fc:Nat) (F:List (List Px)) (h:FiIn w fa F) (hf:∀ n:Nat,(∀ j,j<F.length->(F.getD j []).length=n*n)->∃ nbs cs,FrsIn w fa F.length n F nbs cs) (ok:∀ j,∀ p ∈ F.getD j [],okPx p) (SG:SoftG w w.heap.size) :
  Calls Tryz.prog 11 #[.agg #[.int .i64 z,.slice fa F.length fc]] w fun e w'=>e=.returned (.tuple #[.string (encR z F).1,.int .i64 (encR z F).2])/\Below w.heap.size w w':=by
 unfold encR
 by_cases hr:rightB z F.length (lensF F)=true
 ·rw [if_pos hr]
  obtain ⟨n,rfl,hF⟩:=right_film hr ok
  obtain ⟨nbs,cs,hfr⟩:=hf n hF.len
  exact pEncode w fa F.length fc n F nbs cs hfr ok hF.iz hF.le8 (by have:=Pk.film_m hF;omega) SG
 ·rw [if_neg hr]
  exact pEncodeNo w z fa F.length fc (lensF F) h.rows (by simpa using hr)
theorem dec_encR (w:World) {n:Nat} {F:List (List Px)} (hF:Pk.FilmOk n F):Calls Tryz.prog 68 #[.string (encS n F.length F)] w (GoodAns 0 0 0 n F w) :=
 (refDecode w (encS n F.length F)).mono fun x w' hx=>hx.good (by rw [dec_encS hF])
theorem encoded_no (w:World) (z:Int) (fa:Option Addr) (fc:Nat) (F:List (List Px)) (h:FiIn w fa F) (hr:rightB z F.length (lensF F)=false) :
  Calls Tryz.prog 73 #[.agg #[.int .i64 z,.slice fa F.length fc],.string ⟨#[]⟩,.int .i64 3] w fun e w'=>e=.returned (.bool true)/\Below w.heap.size w w':=by
 obtain ⟨N,hN⟩:∃ N,N=F.length:=⟨_,rfl⟩
 rw [<- hN] at hr ⊢
 obtain ⟨W1,hW1⟩:∃ W1,W1=w.alloc (.cells #[.int .i64 z,.slice fa N fc] 27):=⟨_,rfl⟩
 obtain ⟨H,hH⟩:∃ H,H=w.heap.size:=⟨_,rfl⟩
 have hB1:Below w.heap.size w W1:=by rw [hW1];exact (Below.refl _ w).alloc (Nat.le_refl _) _
 have x0:W1.heap[H]?=some (.cells #[.int .i64 z,.slice fa N fc] 27):=by rw [hW1,hH];exact heap_alloc_last w _
 have k0:W1.cell? ⟨H,0,none⟩=some (.int .i64 z):=cell_of_row _ _ 0 _ _ _ x0
 have k1:W1.cell? ⟨H,1,none⟩=some (.slice fa N fc):=cell_of_row _ _ 1 _ _ _ x0
 have HC:Calls Tryz.prog 72 #[.agg #[.int .i64 z,.slice fa N fc]] W1 fun e w'=>e=.returned (.bool false)/\Below W1.heap.size W1 w':=by
  have k:=refRight W1 z fa N fc (lensF F) (by rw [hN];exact (h.below hB1).rows)
  rw [hr] at k
  exact k
 have HW:Hid (W1=w.alloc (.cells #[.int .i64 z,.slice fa N fc] 27)/\H=w.heap.size/\Below w.heap.size w W1):=⟨hW1,hH,hB1⟩
 clear hW1 hB1 hH x0 h hr hN
 go_enter Tryz.func73,Tryz.ntmps73
 go_wp2_with (first
  | (rw [<- HW.out.1,<- HW.out.2.1])
  | (go_at_call 72;refine HC.mono ?_;rintro e w2 ⟨rfl,b2⟩))
 go_ret
 exact ⟨rfl,HW.out.2.2.trans (b2.mono HW.out.2.2.size)⟩
theorem encoded_yes (w:World) (n:Nat) (fa:Option Addr) (fc:Nat) (F:List (List Px)) (h:FiIn w fa F) (hF:Pk.FilmOk n F) (hr:rightB n F.length (lensF F)=true) :
  Calls Tryz.prog 73 #[.agg #[.int .i64 n,.slice fa F.length fc],.string (encS n F.length F),.int .i64 0] w fun e w'=>e=.returned (.bool true)/\Below w.heap.size w w':=by
 obtain ⟨H,hH⟩:∃ H,H=w.heap.size:=⟨_,rfl⟩
 obtain ⟨W1,hW1⟩:∃ W1,W1=w.alloc (.cells #[.int .i64 n,.slice fa F.length fc] 27):=⟨_,rfl⟩
 have hB1:Below w.heap.size w W1:=by rw [hW1];exact (Below.refl _ w).alloc (Nat.le_refl _) _
 have xx0:W1.heap[H]?=some (.cells #[.int .i64 n,.slice fa F.length fc] 27):=by rw [hW1,hH];exact heap_alloc_last w _
 have h1:=h.below hB1
 have HC:Calls Tryz.prog 72 #[.agg #[.int .i64 n,.slice fa F.length fc]] W1 fun e w'=>e=.returned (.bool true)/\Below W1.heap.size W1 w':=by
  have k:=refRight W1 n fa F.length fc (lensF F) h1.rows
  rw [hr] at k
  exact k
 obtain ⟨S,hS⟩:∃ S,S=encS n F.length F:=⟨_,rfl⟩
 obtain ⟨x0,x1,x2,hD⟩:∃ x0 x1 x2,∀ wx,Calls Tryz.prog 68 #[.string S] wx (GoodAns x0 x1 x2 n F wx):=⟨0,0,0,fun wx=>by rw [hS];exact dec_encR wx hF⟩
 have HD:Hid (∀ wx,Calls Tryz.prog 68 #[.string S] wx (GoodAns x0 x1 x2 n F wx)):=hD
 have HSF:Hid (∀ wx (v:Value) (lo:Nat),Below W1.heap.size W1 wx->FilmAt wx lo v n F->Calls Tryz.prog 31 #[.agg #[.int .i64 n,.slice fa F.length fc],.agg #[.int .i64 n,v]] wx fun x w'=>x=.returned (.bool true)/\Below wx.heap.size wx w'):=fun wx v lo bx hv=>sameFilm_in wx lo n fc fa v F (h1.below bx) hF.len hv
 have HCL:Hid (∀ w2,Below W1.heap.size W1 w2->w2.cell? ⟨H,0,none⟩=some (.int .i64 n)/\w2.cell? ⟨H,1,none⟩=some (.slice fa F.length fc)):=fun w2 b2=>by
  have e0:=(b2.block H (heap_lt0 xx0)).trans xx0
  exact ⟨cell_of_row _ _ 0 _ _ _ e0,cell_of_row _ _ 1 _ _ _ e0⟩
 obtain ⟨k0,k1⟩:=HCL.out W1 (Below.refl _ _)
 rw [<- hS]
 obtain ⟨N,hN⟩:∃ N,N=F.length:=⟨_,rfl⟩
 rw [<- hN] at HC HSF HCL k1 hW1 ⊢
 have HW:Hid (W1=w.alloc (.cells #[.int .i64 n,.slice fa N fc] 27)/\H=w.heap.size/\Below w.heap.size w W1):=⟨hW1,hH,hB1⟩
 clear hW1 hB1 hH xx0 h h1 hr hF hS hN hD
 go_enter Tryz.func73,Tryz.ntmps73
 go_wp2_with (first
  | (rw [<- HW.out.1,<- HW.out.2.1])
  | (go_at_call 72;refine HC.mono ?_;rintro e w2 ⟨rfl,b2⟩;clear k0 k1;obtain ⟨k0,k1⟩:=HCL.out w2 b2)
  | (go_at_call 68;refine (HD.out w2).mono ?_;rintro r w3 ⟨a3,m3,c3,l3,hl3,rfl,hf3,b3⟩;obtain ⟨W3,A3,hW3,hA3,hbn3,hbb3,_,hx3⟩:=fpb_mk (Below.refl _ w2) b3 (.int .i64 n) (.slice a3 m3 c3) (.int .i64 x0) (.int .i64 x1) (.int .i64 x2);have HW3:Hid (W3=_/\A3=_):=⟨hW3,hA3⟩;clear hW3 hA3)
  | (rw [<- HW3.out.1,<- HW3.out.2];obtain ⟨d10,d11,d12,d13,d14⟩:=hx3.cells;have b4:=b2.trans (hbb3.mono b2.size);clear k0 k1;obtain ⟨k0,k1⟩:=HCL.out W3 b4)
  | (go_at_call 31;refine (HSF.out W3 _ _ b4 (hf3.below hbn3).at).mono ?_;rintro r w4 ⟨rfl,b5⟩))
 go_ret
 exact ⟨rfl,HW.out.2.2.trans ((b4.trans (b5.mono b4.size)).mono HW.out.2.2.size)⟩
theorem encoded_any (w:World) (z:Int) (fa:Option Addr) (fc:Nat) (F:List (List Px)) (h:FiIn w fa F) (ok:∀ j,∀ p ∈ F.getD j [],okPx p) :
  Calls Tryz.prog 73 #[.agg #[.int .i64 z,.slice fa F.length fc],.string (encR z F).1,.int .i64 (encR z F).2] w fun e w'=>e=.returned (.bool true)/\Below w.heap.size w w':=by
 unfold encR
 by_cases hr:rightB z F.length (lensF F)=true
 ·rw [if_pos hr]
  obtain ⟨n,rfl,hF⟩:=right_film hr ok
  exact encoded_yes w n fa fc F h hF hr
 ·rw [if_neg hr]
  exact encoded_no w z fa fc F h (by simpa using hr)
end
section
open Go.RowKit
open Flm (Px okPx)
theorem three_px:(Tryz.prog.info? 50).map (·.size)=some 3:=by kernel_rfl
theorem nilFrames (w:World) (a:Option Addr) (n c n' c':Nat):(binOp .eql 25 (.slice a n c) (.slice none n' c')).run Tryz.prog w=.ok (.bool a.isNone) w:=Lib.run_eql_slice_nil w _ _ a n c n' c' Tryz.underlying25
theorem owns_heap3 {w:World} {B g n:Nat} {xs:List Value} {e:TypeId} (h:w.ownsRow B e 3 (.slice (some ⟨g,0,none⟩) n n) n xs):w.heap[g]?=some (.cells xs.toArray e (0,0)):=by
 rcases h.2 with ⟨h',_⟩|⟨g',cap',cur,h',hb,hg,hnc,hcm,hcs,htake⟩
 ·simp at h'
 ·simp only [Value.slice.injEq,Option.some.injEq,Addr.mk.injEq,and_true,true_and] at h'
  obtain ⟨rfl,rfl⟩:=h'
  rw [List.take_of_length_le (by rw [Array.length_toList,hcs];exact Nat.le_refl _)] at htake
  rw [<- htake]
  exact hg
theorem heap_owns3 {w:World} {B g n:Nat} {xs:List Value} {e:TypeId} (h:w.heap[g]?=some (.cells xs.toArray e (0,0))) (hl:xs.length=n*3) (hb:B<=g) (hm:n<=maxLen):w.ownsRow B e 3 (.slice (some ⟨g,0,none⟩) n n) n xs :=
 ⟨hl,.inr ⟨g,n,xs.toArray,rfl,hb,h,Nat.le_refl _,hm,by simp [hl],by simp [List.take_of_length_le,hl]⟩⟩
def roomPx (ps:List Px) (k:Nat):List Px:=ps++(List.replicate k (7,7,7)++List.replicate (8-k) (0,0,0))
theorem roomPx_len (ps:List Px) (k:Nat) (h:k<=8):(roomPx ps k).length=ps.length+8:=by simp [roomPx];omega
theorem roomPx_full (ps:List Px):roomPx ps 8=padF ps:=by simp [roomPx,padF]
theorem roomPx_set (ps:List Px) (k:Nat) (h:k<8):(roomPx ps k).set (ps.length+k) (7,7,7)=roomPx ps (k+1):=by
 unfold roomPx
 rw [List.set_append_right _ _ (by omega),show ps.length+k-ps.length=k by omega,List.set_append_right _ _ (by simp),List.length_replicate,Nat.sub_self,show 8-k=(8-(k+1))+1 by omega,List.replicate_succ,List.set_cons_zero,List.replicate_succ' (n:=k)]
 simp
theorem pxCells_drop (n k:Nat):(pxCells (List.replicate (n+k) (0,0,0))).drop (n*3)=pxCells (List.replicate k (0,0,0)):=by
 rw [show List.replicate (n+k) ((0,0,0):Px)=List.replicate n (0,0,0)++List.replicate k (0,0,0) by simp,pxCells_app,List.drop_append_of_le_length (by rw [pxCells_len];simp),List.drop_of_length_le (by rw [pxCells_len];simp)]
 rfl
theorem splice_px (ps:List Px):splice (pxCells (List.replicate (ps.length+8) (0,0,0))) 0 (pxCells ps)=pxCells (roomPx ps 0):=by
 unfold splice roomPx
 rw [pxCells_len,Nat.zero_add,pxCells_drop,pxCells_app]
 simp
theorem pxs_pos {w1:World} {a:Addr} {ps:List Px} (hz:PxsIn w1 (some a) ps):∀ j v,(pxCells ps)[j]?=some v->w1.cell? (a.add j)=some v:=by
 intro j v hv
 have hj:j<ps.length*3:=by
  rcases Nat.lt_or_ge j (ps.length*3) with h'|h'
  ·exact h'
  ·rw [List.getElem?_eq_none (by rw [pxCells_len];exact h')] at hv;cases hv
 obtain ⟨g0,g1,g2⟩:=pxCells_get ps (j / 3) (by omega)
 rcases hz with h2|⟨b,off,ha,hc⟩
 ·omega
 ·injection ha with ha
  subst ha
  obtain ⟨c0,c1,c2⟩:=hc (j / 3) (by omega)
  rw [show (⟨b,off,none⟩:Addr).add j=⟨b,off+j,none⟩ by unfold Addr.add;split <;> simp_all]
  have h3:j=j / 3*3 \/ j=j / 3*3+1 \/ j=j / 3*3+2:=by omega
  rcases h3 with e|e|e
  ·rw [e,g0] at hv
   rw [<- hv,e]
   simpa using c0
  ·rw [e,g1] at hv
   rw [<- hv,show off+j=off+j / 3*3+1 by omega]
   exact c1
  ·rw [e,g2] at hv
   rw [<- hv,show off+j=off+j / 3*3+2 by omega]
   exact c2
theorem run_copy_none {P:Program} (w:World) (dT sT ty elem:TypeId) (d:Addr) (a:Option Addr) (dLen dCap sCap:Nat)
  (hu:P.underlying dT=some (.slice elem)) (hs:(P.info? elem).isSome=true) :
  (Builtin.copy_ #[dT,sT] ty #[.slice (some d) dLen dCap,.slice a 0 sCap]).run P w=.ok (goInt 0) w:=by
 cases hq:P.info? elem with
 | none=>simp [hq] at hs
 | some i =>
  cases a with
  | none=>simp [Builtin.copy_,run_underlying hu,Builtin.lenOf,Builtin.firstCells,sizeOf,typeInfo,hq,storeCells]
  | some ad =>
   have hl:=run_loadCells_list (P:=P) w ad [] (by simp)
   simp only [List.length_nil] at hl
   simp [Builtin.copy_,run_underlying hu,Builtin.lenOf,Builtin.firstCells,sizeOf,typeInfo,hq,storeCells,hl]
theorem wpList_copy_px {w:World} {ops:Array Oper} {rest:List Oper} {o:Oper} {a:Act} {Q:Exit->Act->World->Prop} (hgd:o.guard=none) (d s:Operand)
  (ho:o.op=.call { callee:=.builtin .copy,args:=#[d,s],argTypes:=#[58,58] }) (g n m c sCap:Nat) (sa:Option Addr) (hd:a.eval d=.slice (some ⟨g,0,none⟩) n m) (ps:List Px) (hs:a.eval s=.slice sa c sCap) (hc:c=ps.length) (hn:n=ps.length+8)
  (hg:w.heap[g]?=some (.cells (pxCells (List.replicate (ps.length+8) (0,0,0))).toArray 50 (0,0))) (hp:PxsIn w sa ps) (B:Nat) (w0:World) (hb:Below B w0 w) (hBg:B<=g)
  (h:∀ w',Hid (w'.heap[g]?=some (.cells (pxCells (roomPx ps 0)).toArray 50 (0,0)))->Below B w0 w'->wpList Tryz.prog ops Q rest (a.put o.dst (goInt ps.length)) w'):wpList Tryz.prog ops Q (o :: rest) a w:=by
 subst hc hn
 by_cases h0:ps.length=0
 ·refine wpList_plain hgd fun K hK=>?_
  have hrun:=run_copy_none (P:=Tryz.prog) w 58 58 o.type 50 ⟨g,0,none⟩ sa (ps.length+8) m sCap Tryz.underlying58 (by kernel_rfl)
  rw [h0] at hs
  unfold Oper.wp
  simp [execOp,ho,resolve,invoke,builtin,hd,hs,hrun,Result.andThen]
  have he:ps=[]:=List.length_eq_zero_iff.1 h0
  subst he
  exact hK _ _ (h w hg hb)
 ·obtain ⟨ad,rfl⟩:∃ ad,sa=some ad:=by
   rcases hp with h'|⟨b,off,e,_⟩
   ·exact absurd h' h0
   ·exact ⟨_,e⟩
  have hmin:Nat.min ps.length (ps.length+8)=ps.length:=Nat.min_eq_left (by omega)
  refine wpList_copy_sz hgd d s 58 58 ho 50 3 Tryz.underlying58 three_px g 0 (ps.length+8) m ad ps.length sCap hd hs (pxCells (List.replicate (ps.length+8) (0,0,0))) 50 hg (pxCells ps) (by rw [hmin,pxCells_len]) (pxs_pos hp) (by rw [pxCells_len,pxCells_len,List.length_replicate];omega) (oneCell_px ps) B w0 hb hBg fun w' H hb'=>?_
  rw [hmin]
  refine h w' ?_ hb'
  have k:=H.out
  rw [splice_px] at k
  exact k
end
section
open Go.RowKit
open Flm (Px okPx)
theorem lentFilm_nil (w:World) (z:Int) (n c:Nat) :
  Calls Tryz.prog 70 #[.agg #[.int .i64 z,.slice none n c]] w fun x w'=>x=.returned (.agg #[.int .i64 z,.slice none n c])/\Below w.heap.size w w':=by
 have qn:=nilFrames
 go_enter Tryz.func70,Tryz.ntmps70
 go_wp2
 refine bodyPost_ret (v:=.agg #[.int .i64 z,.slice none n c]) (by simp [results,Tryz.results70,go_sem]) rfl ?_
 exact ⟨rfl,((Below.refl _ w).alloc (Nat.le_refl _) _).alloc (by simp) _⟩
theorem made_nils (n:Nat):(madeCells #[Value.slice none 0 0] n).toList=List.replicate n (.slice none 0 0):=by
 apply List.ext_getElem?
 intro i
 by_cases h:i<n
 ·simp only [madeCells,Array.toList_map,List.getElem?_map,Array.toList_range,List.getElem?_range h,Option.map_some,List.getElem?_replicate]
  simp [h,Nat.mod_one]
 ·rw [List.getElem?_eq_none (by simp [size_madeCells];omega),List.getElem?_eq_none (by simp;omega)]
set_option maxRecDepth 20000 in
theorem lentFilm_some (w:World) (z:Int) (a:Addr) (N fc:Nat) (F:List (List Px)) (hN:F.length=N) (hz:FiIn w (some a) F) (hn:N<=1000000000) (hl:∀ j,(F.getD j []).length<=1000000000) :
  Calls Tryz.prog 70 #[.agg #[.int .i64 z,.slice (some a) N fc]] w fun x w'=>x=.returned (.agg #[.int .i64 z,.slice (some ⟨w.heap.size+2,0,none⟩) N (N+8)])/\(∃ b s,LentAt w' (w.heap.size+2) (w.heap.size+2) b s F N 8)/\Below w.heap.size w w':=by
 obtain ⟨i0,hi,hz0,hz1,hz2⟩:=info_parts infoPx
 obtain ⟨j0,hj0,hy0,hy1,hy2⟩:=info_parts infoRow
 have qn:=nilFrames
 obtain ⟨H,hH⟩:∃ H,H=w.heap.size:=⟨_,rfl⟩
 obtain ⟨W2,hW2⟩:∃ W2,W2=(w.alloc (.cells #[.int .i64 z,.slice (some a) N fc] 27)).alloc (.cells #[.int .i64 0,.slice none 0 0] 27):=⟨_,rfl⟩
 have hs2:W2.heap.size=H+2:=by rw [hW2,hH];simp
 have hB2:Below w.heap.size w W2:=by rw [hW2];exact ((Below.refl _ w).alloc (Nat.le_refl _) _).alloc (by simp) _
 have x0:W2.heap[H]?=some (.cells #[.int .i64 z,.slice (some a) N fc] 27):=by rw [hW2,hH,Below.heap_alloc _ _ _ (by simp)];exact heap_alloc_last w _
 have x1:W2.heap[H+1]?=some (.cells #[.int .i64 0,.slice none 0 0] 27):=by
  have k:=heap_alloc_last (w.alloc (.cells #[.int .i64 z,.slice (some a) N fc] 27)) (.cells #[.int .i64 0,.slice none 0 0] 27)
  rw [World.size_alloc,<- hH] at k
  rw [hW2];exact k
 have HCL:Hid (∀ w2,Below W2.heap.size W2 w2->(w2.cell? ⟨H,0,none⟩=some (.int .i64 z)/\w2.cell? ⟨H,1,none⟩=some (.slice (some a) N fc))/\w2.heap[H+1]?=some (.cells #[.int .i64 0,.slice none 0 0] 27)):=fun w2 b2=>by
  have e0:=(b2.block H (by omega)).trans x0
  exact ⟨⟨cell_of_row _ _ 0 _ _ _ e0,cell_of_row _ _ 1 _ _ _ e0⟩,(b2.block (H+1) (by omega)).trans x1⟩
 have HF:Hid (∀ w2,Below W2.heap.size W2 w2->FiIn w2 (some a) F):=fun w2 b2=>(hz.below hB2).below b2
 obtain ⟨⟨k0,k1⟩,_⟩:=HCL.out W2 (Below.refl _ _)
 have HW:Hid (W2=(w.alloc (.cells #[.int .i64 z,.slice (some a) N fc] 27)).alloc (.cells #[.int .i64 0,.slice none 0 0] 27)/\H=w.heap.size/\Below w.heap.size w W2):=⟨hW2,hH,hB2⟩
 have HS2:Hid (W2.heap.size=H+2):=hs2
 have HL:Hid ((∀ j,(F.getD j []).length<=1000000000)/\F.length=N):=⟨hl,hN⟩
 clear hW2 hH hB2 x0 x1 hz hs2 hl hN
 go_enter Tryz.func70,Tryz.ntmps70
 go_wp2_with (first
  | (rw [<- HW.out.1,<- HW.out.2.1])
  | (at_make;refine wpList_make_full _ rfl _ _ 25 rfl W2.heap.size 58 j0 (.slice none 0 0) 1 Tryz.underlying25 hj0 hy0 hy1 _ _ _ _ (N+8) rfl rfl (by omega) (by omega) (by rw [hy2];omega) (by unfold maxLen;omega) (Nat.le_refl _) ?_))
 intro w1 hown hgrow
 have L1:Hid (LentAt w1 W2.heap.size W2.heap.size (fun _=>0) (fun _=>0) F 0 0):=by
  refine ⟨?_,fun t ht=>absurd ht (Nat.not_lt_zero _),fun t ht=>absurd ht (Nat.not_lt_zero _),fun t ht=>absurd ht (Nat.not_lt_zero _),fun t _ ht=>absurd ht (Nat.not_lt_zero _),fun t ht=>absurd ht (Nat.not_lt_zero _),fun t _ ht=>absurd ht (Nat.not_lt_zero _)⟩
  have e:lentRow (fun _=>0) (fun _=>0) F 0 0=(madeCells #[Value.slice none 0 0] (N+8)).toList:=by
   rw [made_nils,<- HL.out.2];simp [lentRow]
  rw [e,HL.out.2]
  simpa using hown
 have B1:Hid (Below W2.heap.size W2 w1):=(Below.refl _ _).grown hgrow (Nat.le_refl _) (fun _ h=>by cases h)
 obtain ⟨R,hR⟩:∃ R,R=W2.heap.size:=⟨_,rfl⟩
 have HR:Hid (R=W2.heap.size):=hR
 rw [<- hR] at L1 ⊢
 clear hown hgrow k0 k1 hR
 go_wp2
 go_loopw [5] (fun v wr=>∃ (j:Nat) (b:Nat->Nat),j<=N/\v=.int .i64 j/\LentAt wr R R b (fun _=>0) F j 0/\Below W2.heap.size W2 wr) (fun v _=>N-(intOf v).toNat)
 case atStart=>exact ⟨0,_,Nat.zero_le _,rfl,L1.out,B1.out⟩
 case round =>
  obtain ⟨j,b,hj,rfl,hL,hB⟩:=hrel
  by_cases hlt:j<N
  ·have hlt':(j:Int)<(N:Int):=by omega
   obtain ⟨⟨k0,k1⟩,_⟩:=HCL.out wr hB
   obtain ⟨fb,off,ha,hf⟩:=(HF.out wr hB).resolve_left (by have:=HL.out.2;omega)
   injection ha with ha
   subst ha
   obtain ⟨fa,ca,kf,hp⟩:=hf j (by have:=HL.out.2;omega)
   obtain ⟨f,hfe⟩:∃ f,f=F.getD j []:=⟨_,rfl⟩
   obtain ⟨k,hke⟩:∃ k,k=f.length:=⟨_,rfl⟩
   have hk:k<=1000000000:=by rw [hke,hfe];exact HL.out.1 j
   rw [<- hfe,<- hke] at kf
   rw [<- hfe] at hp
   have hzw:R<=wr.heap.size:=by have:=hB.size;have:=HR.out;omega
   have HLW:Hid (LentAt wr R R b (fun _=>0) F j 0):=hL
   have HBW:Hid (Below W2.heap.size W2 wr):=hB
   have HP:Hid (PxsIn wr fa f):=hp
   have HK:Hid (f=F.getD j []/\k=f.length/\j<F.length):=⟨hfe,hke,by have:=HL.out.2;omega⟩
   obtain ⟨wo,hwo⟩:∃ wo,wo=wr:=⟨wr,rfl⟩
   subst hwo
   clear hL hB hf hp hfe hke
   go_wp2_with (at_make;refine wpList_make_full _ rfl _ _ 58 rfl R 50 i0 (.agg #[.int .u8 0,.int .u8 0,.int .u8 0]) 3 Tryz.underlying58 hi hz0 hz1 _ _ _ _ (k+8) rfl rfl (by omega) (by omega) (by rw [hz2];omega) (by unfold maxLen;omega) hzw ?_)
   intro w3 hown hgrow
   have b3:Below wo.heap.size wo w3:=(Below.refl _ _).grown hgrow (Nat.le_refl _) (fun _ h=>by cases h)
   have H3:Hid (w3.heap[wo.heap.size]?=some (.cells (pxCells (List.replicate (f.length+8) (0,0,0))).toArray 50 (0,0))):=by
    rw [Hid,<- HK.out.2.1,<- made_px (k+8)];exact owns_heap3 hown
   have P3:Hid (PxsIn w3 fa f):=HP.out.mono fun p u e=>(b3.cell (World.block_lt_of_cell? wo _ e)).trans e
   have B3:Hid (Below wo.heap.size wo w3):=b3
   have k1':=(b3.cell (World.block_lt_of_cell? wo _ k1)).trans k1
   have kf':=(b3.cell (World.block_lt_of_cell? wo _ kf)).trans kf
   clear hown hgrow b3
   go_wp2_with (refine wpList_copy_px rfl (.tmp 34) (.tmp 39) rfl wo.heap.size _ _ _ _ _ rfl f rfl HK.out.2.1 (by rw [HK.out.2.1]) H3.out P3.out wo.heap.size wo B3.out (Nat.le_refl _) ?_)
   intro w4 H4 B4
   have P4:Hid (Pixs w4 R wo.heap.size (k+8) (roomPx f 0)):=heap_owns3 H4.out (by rw [pxCells_len,roomPx_len _ _ (by decide),HK.out.2.1]) hzw (by unfold maxLen;omega)
   have B4':Hid (Below wo.heap.size wo w4):=B4
   clear H4 B4 H3 P3 B3 k1' kf' k1 kf k0
   go_wp2
   go_loopw [8] (fun v wx=>∃ t:Nat,t<=8/\v=.int .i64 ((k+t:Nat):Int)/\Pixs wx R wo.heap.size (k+8) (roomPx f t)/\Below wo.heap.size wo wx) (fun v _=>k+8-(intOf v).toNat)
   case atStart=>exact ⟨0,Nat.zero_le _,rfl,P4.out,B4'.out⟩
   case round =>
    obtain ⟨t,ht,rfl,hpx,hbx⟩:=hrel
    by_cases htk:t<8
    ·have hlt2:((k+t:Nat):Int)<(k:Int)+8:=by omega
     have hlt3:((k+t:Nat):Int)<((k+8:Nat):Int):=by omega
     obtain ⟨c0,c1,c2⟩:=hpx.cell (k+t) (by omega)
     have f0:=hpx.frozen ((k+t)*3)
     have f1:=hpx.frozen ((k+t)*3+1)
     have f2:=hpx.frozen ((k+t)*3+2)
     have HS:Hid (Pixs (((wr.setCell ⟨wo.heap.size,(k+t)*3,none⟩ (.int .u8 7)).setCell ⟨wo.heap.size,(k+t)*3+1,none⟩ (.int .u8 7)).setCell ⟨wo.heap.size,(k+t)*3+2,none⟩ (.int .u8 7)) R wo.heap.size (k+8) (roomPx f (t+1))):=by
      have hs:=hpx.store (k+t) (by omega) (7,7,7)
      rw [HK.out.2.1,roomPx_set f t htk,<- HK.out.2.1] at hs
      exact hs
     have HB:Hid (Below wo.heap.size wo wr):=hbx
     clear hpx hbx
     go_wp2
     go_roundw
     case rel=>exact ⟨t+1,by omega,by go_num,HS.out,((HB.out.setCell (p:=⟨wo.heap.size,(k+t)*3,none⟩) (Nat.le_refl _) _).setCell (p:=⟨wo.heap.size,(k+t)*3+1,none⟩) (Nat.le_refl _) _).setCell (p:=⟨wo.heap.size,(k+t)*3+2,none⟩) (Nat.le_refl _) _⟩
     case measure=>simp [intOf];omega
    ·obtain rfl:t=8:=by omega
     have hlt2:¬ ((k+8:Nat):Int)<(k:Int)+8:=by omega
     have hl1:=HLW.out.below hbx
     have hRo:R<wo.heap.size:=HLW.out.lt.2
     have c0:wr.cell? ⟨R,j,none⟩=some (.slice none 0 0):=by
      have e:=World.ownsRow.cellAt hl1.row j (by have:=HK.out.2.2;omega)
      rw [e]
      unfold lentRow
      have:=HK.out.2.2
      rw [List.getElem?_append_right (by simp),List.getElem?_append_right (by simp),List.getElem?_replicate,if_pos (by simp)]
     have f0:wr.frozen? ⟨R,j,none⟩=false:=World.ownsRow.frozenAt hl1.row j
     have HLN:Hid (LentAt (wr.setCell ⟨R,j,none⟩ (.slice (some ⟨wo.heap.size,0,none⟩) k (k+8))) R R (putN b j wo.heap.size) (fun _=>0) F (j+1) 0):=by
      rw [roomPx_full] at hpx
      have hk1:=HK.out.1
      have hk2:=HK.out.2.1
      unfold Hid
      rw [hk2,hk1] at hpx ⊢
      exact hl1.frame HK.out.2.2 hpx (by omega) (fun t ht=>by have:=(HLW.out.fr t ht).lt.2;omega)
     have HB:Hid (Below W2.heap.size W2 wr):=HBW.out.trans (hbx.mono HBW.out.size)
     clear hpx hbx hl1
     go_wp2
     exact ⟨⟨j+1,_,hlt,by go_num,HLN.out,HB.out.setCell (p:=⟨R,j,none⟩) (by have:=HR.out;show W2.heap.size<=R;omega) _⟩,by simp [intOf];omega⟩
  ·have hlt':¬ (j:Int)<(N:Int):=by omega
   obtain rfl:j=N:=by omega
   have L2:Hid (LentAt wr R R b (fun _=>0) F F.length 0):=by rw [HL.out.2];exact hL
   have B2:Hid (Below W2.heap.size W2 wr):=hB
   clear hL hB L1 B1
   go_wp2
   go_loopw [9] (fun v wx=>∃ (t:Nat) (s:Nat->Nat),t<=8/\v=.int .i64 ((j+t:Nat):Int)/\LentAt wx R R b s F F.length t/\Below W2.heap.size W2 wx) (fun v _=>j+8-(intOf v).toNat)
   case atStart=>exact ⟨0,_,Nat.zero_le _,rfl,L2.out,B2.out⟩
   case round =>
    obtain ⟨t,s,ht,rfl,hL,hB⟩:=hrel
    by_cases htk:t<8
    ·have hlt2:((j+t:Nat):Int)<(j:Int)+8:=by omega
     have hlt3:((j+t:Nat):Int)<((j+8:Nat):Int):=by omega
     have hRo:R<wr.heap.size:=hL.lt.2
     obtain ⟨A5,hA5⟩:∃ A5,A5=wr.heap.size:=⟨_,rfl⟩
     obtain ⟨W5,hW5⟩:∃ W5,W5=wr.alloc (.cells #[.int .u8 9,.int .u8 9,.int .u8 9] 50):=⟨_,rfl⟩
     have b5:Below wr.heap.size wr W5:=by rw [hW5];exact (Below.refl _ wr).alloc (Nat.le_refl _) _
     have h5:W5.heap[A5]?=some (.cells #[.int .u8 9,.int .u8 9,.int .u8 9] 50 (0,0)):=by rw [hW5,hA5];exact heap_alloc_last wr _
     have hl5:=hL.below b5
     have c0:W5.cell? ⟨R,j+t,none⟩=some (.slice none 0 0):=by
      have e:=World.ownsRow.cellAt hl5.row (j+t) (by have:=HL.out.2;omega)
      rw [e]
      unfold lentRow
      have:=HL.out.2
      rw [List.getElem?_append_right (by simp;omega),List.getElem?_append_right (by simp;omega),List.getElem?_replicate,if_pos (by simp;omega)]
     have f0:W5.frozen? ⟨R,j+t,none⟩=false:=World.ownsRow.frozenAt hl5.row (j+t)
     have HLN:Hid (LentAt (W5.setCell ⟨R,j+t,none⟩ (.slice (some ⟨A5,0,none⟩) 1 1)) R R b (putN s t A5) F F.length (t+1)):=by
      have k:=hl5.spare htk (v:=A5) ⟨cell_of_row _ _ 0 _ _ _ h5,cell_of_row _ _ 1 _ _ _ h5,cell_of_row _ _ 2 _ _ _ h5⟩ (by omega) (by omega) (fun u hu=>by have:=(hL.fr u hu).lt.2;omega)
      rw [HL.out.2] at k ⊢
      exact k
     have HB5:Hid (Below W2.heap.size W2 W5):=hB.trans (b5.mono hB.size)
     have HW5:Hid (W5=_/\A5=_):=⟨hW5,hA5⟩
     clear hL hB hl5 b5 h5 hW5 hA5
     go_wp2_with (rw [<- HW5.out.1,<- HW5.out.2])
     exact ⟨⟨t+1,_,htk,by go_num,HLN.out,HB5.out.setCell (p:=⟨R,j+t,none⟩) (by have:=HR.out;show W2.heap.size<=R;omega) _⟩,by simp [intOf];omega⟩
    ·obtain rfl:t=8:=by omega
     have hlt2:¬ ((j+8:Nat):Int)<(j:Int)+8:=by omega
     obtain ⟨⟨k0,k1⟩,x1⟩:=HCL.out wr hB
     have f0:wr.frozen? ⟨H+1,0,none⟩=false:=frozen_of_row _ _ 0 _ _ x1
     have f1:wr.frozen? ⟨H+1,1,none⟩=false:=frozen_of_row _ _ 1 _ _ x1
     have d0:wr.cell? ⟨H+1,0,none⟩=some (.int .i64 0):=cell_of_row _ _ 0 _ _ _ x1
     have d1:wr.cell? ⟨H+1,1,none⟩=some (.slice none 0 0):=cell_of_row _ _ 1 _ _ _ x1
     have L9:Hid (LentAt wr R R b s F F.length 8):=hL
     have B9:Hid (Below W2.heap.size W2 wr):=hB
     clear hL hB x1
     go_wp2
     go_region
     all_goals
      go_wp2
      obtain ⟨W9,hW9⟩:∃ W9,W9=((wr.setCell ⟨H+1,0,none⟩ (.int .i64 z)).setCell ⟨H+1,1,none⟩ (.slice (some ⟨R,0,none⟩) j (j+8))).drew:=⟨_,rfl⟩
      rw [<- hW9]
      have q0:W9.cell? ⟨H+1,0,none⟩=some (.int .i64 z):=by
       rw [hW9]
       exact cell_off (World.cell?_setCell_same _ _ _ d0) (.inr (by decide))
      have q1:W9.cell? ⟨H+1,1,none⟩=some (.slice (some ⟨R,0,none⟩) j (j+8)):=by
       rw [hW9]
       exact World.cell?_setCell_same _ _ _ (cell_off d1 (.inr (by decide)))
      have hR:=HR.out
      have hS:=HS2.out
      have hH:=HW.out.2.1
      refine bodyPost_ret (v:=.agg #[.int .i64 z,.slice (some ⟨R,0,none⟩) j (j+8)]) (by simp [results,Tryz.results70,go_sem,q0,q1]) rfl ?_
      have fr:Frm (fun k=>k=H+1) wr W9:=by
       rw [hW9]
       exact (((Frm.refl (fun k=>k=H+1) wr).setCell (p:=⟨H+1,0,none⟩) (.inl rfl) _).setCell (p:=⟨H+1,1,none⟩) (.inl rfl) _).drew
      have hl:=L9.out.frm fr (by omega) (fun t ht e=>by have:=(L9.out.fr t ht).lt.1;have e':b t=H+1:=e;omega) (fun t ht e=>by have:=(L9.out.sp t ht).1;have e':s t=H+1:=e;omega)
      have e2:R=w.heap.size+2:=by omega
      rw [e2] at hl
      rw [HL.out.2] at hl
      refine ⟨by rw [e2],⟨b,s,hl⟩,?_⟩
      rw [hW9]
      exact (((HW.out.2.2.trans (B9.out.mono HW.out.2.2.size)).setCell (p:=⟨H+1,0,none⟩) (by show w.heap.size<=H+1;omega) _).setCell (p:=⟨H+1,1,none⟩) (by show w.heap.size<=H+1;omega) _).drew
end
end Go.Proofs.YtekfbphnoibnjaaGreatDoor
