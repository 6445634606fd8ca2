/-
  PIsFilm PEnc PkFilm EncDec RefRight RefRightZ FiIn
-/
import Derived.Test.YtekfbphnoibnjaaGreatDoorG32
import Derived.Test.YtekfbphnoibnjaaGreatDoorG13
set_option maxHeartbeats 4000000
namespace Go.Proofs.YtekfbphnoibnjaaGreatDoor
section
open Go.RowKit Go.Shelf
def RowsIn (w:World) (fa:Option Addr) (N:Nat) (ls:Nat->Nat):Prop:=N=0 \/ ∃ fb off,fa=some ⟨fb,off,none⟩/\∀ j,j<N->∃ a c,w.cell? ⟨fb,off+j,none⟩=some (.slice a (ls j) c)
def sizeB (z:Int):Bool:=decide (z=4 \/ z=8 \/ z=16)
def rightB (z:Int) (N:Nat) (ls:Nat->Nat):Bool:=sizeB z && (decide (N<=8) && (List.range N).all fun j=>decide ((ls j:Int)=z*z))
theorem pIsSizeW (w:World) (z:Int):Calls Tryz.prog 38 #[.int .i64 z] w fun e w'=>e=.returned (.bool (sizeB z))/\w'=w:=by
 unfold sizeB
 by_cases h4:z=4
 ·subst h4
  go_enter Tryz.func38,Tryz.ntmps38
  go_wp2
  go_ret
  exact ⟨by simp,rfl⟩
 ·by_cases h8:z=8
  ·subst h8
   go_enter Tryz.func38,Tryz.ntmps38
   go_wp2
   go_ret
   exact ⟨by simp,rfl⟩
  ·have e4:(z == 4)=false:=by simpa using h4
   have e8:(z == 8)=false:=by simpa using h8
   by_cases h16:z=16
   ·subst h16
    go_enter Tryz.func38,Tryz.ntmps38
    go_wp2
    go_ret
    exact ⟨by simp,rfl⟩
   ·have e16:(z == 16)=false:=by simpa using h16
    have hd:decide (z=4 \/ z=8 \/ z=16)=false:=by simp [h4,h8,h16]
    rw [hd]
    go_enter Tryz.func38,Tryz.ntmps38
    go_wp2
    go_ret
    exact ⟨by simp,rfl⟩
theorem pIsFilm (w:World) (z:Int) (fa:Option Addr) (N fc:Nat) (ls:Nat->Nat) (h:RowsIn w fa N ls) :
  Calls Tryz.prog 19 #[.agg #[.int .i64 z,.slice fa N fc]] w fun e w'=>e=.returned (.bool (rightB z N ls))/\Below w.heap.size w w':=by
 obtain ⟨H,hH⟩:∃ H,H=w.heap.size:=⟨_,rfl⟩
 obtain ⟨W1,hW1⟩:∃ W1,W1=w.alloc (.cells #[.int .i64 z,.slice fa N fc] 27):=⟨_,rfl⟩
 have hB1:Below w.heap.size w W1:=by rw [hW1];exact (Below.refl _ w).alloc (Nat.le_refl _) _
 have x0:W1.heap[H]?=some (.cells #[.int .i64 z,.slice fa N fc] 27):=by rw [hW1,hH];exact heap_alloc_last w _
 have k0:W1.cell? ⟨H,0,none⟩=some (.int .i64 z):=cell_of_row _ _ 0 _ _ _ x0
 have k1:W1.cell? ⟨H,1,none⟩=some (.slice fa N fc):=cell_of_row _ _ 1 _ _ _ x0
 have HIS:=fun w=>pIsSizeW w z
 obtain ⟨B,hB⟩:∃ B,B=sizeB z:=⟨_,rfl⟩
 rw [<- hB] at HIS
 have HW:Hid (W1=w.alloc (.cells #[.int .i64 z,.slice fa N fc] 27)/\H=w.heap.size/\Below w.heap.size w W1):=⟨hW1,hH,hB1⟩
 have HR:Hid (RowsIn w fa N ls):=h
 clear hW1 hB1 hH x0 h
 cases B with
 | false =>
  have hr:rightB z N ls=false:=by unfold rightB;rw [<- hB];rfl
  rw [hr]
  clear hr hB
  go_enter Tryz.func19,Tryz.ntmps19
  go_wp2_with (first
   | (rw [<- HW.out.1,<- HW.out.2.1])
   | (go_at_call 38;refine (HIS _).mono ?_;rintro e w1 ⟨rfl,rfl⟩))
  go_ret
  exact ⟨rfl,HW.out.2.2⟩
 | true =>
  by_cases hN:N<=8
  ·have hN':¬ ((N:Int) > 8):=by omega
   have hzz:z=4 \/ z=8 \/ z=16:=by unfold sizeB at hB;exact of_decide_eq_true hB.symm
   have hw:wrap64 (z*z)=z*z:=by rcases hzz with rfl|rfl|rfl <;> (unfold wrap64;decide)
   have hr:rightB z N ls=(List.range N).all fun j=>decide ((ls j:Int)=z*z):=by unfold rightB;rw [<- hB];simp [hN]
   rw [hr]
   obtain ⟨ZZ,hZZ⟩:∃ ZZ,ZZ=z*z:=⟨_,rfl⟩
   rw [<- hZZ] at hw
   rw [show wrap64 ZZ=wrap64 (z*z) by rw [hZZ]] at hw
   rw [show (fun j=>decide ((ls j:Int)=z*z))=fun j=>decide ((ls j:Int)=ZZ) by rw [hZZ]]
   clear hr hB hzz hZZ
   go_enter Tryz.func19,Tryz.ntmps19
   go_wp2_with (first
    | (rw [<- HW.out.1,<- HW.out.2.1])
    | (go_at_call 38;refine (HIS _).mono ?_;rintro e w1 ⟨rfl,rfl⟩))
   go_loopw [18] (fun v18 wr=>∃ j:Nat,j<=N/\v18=.int .i64 j/\wr=w1/\∀ i,i<j->(ls i:Int)=ZZ) (fun v18 _=>N-(intOf v18).toNat)
   case atStart=>exact ⟨0,Nat.zero_le _,rfl,rfl,fun i hi=>absurd hi (Nat.not_lt_zero _)⟩
   case round =>
    obtain ⟨j,hj,rfl,rfl,hall⟩:=hrel
    by_cases hlt:j<N
    ·have hlt':(j:Int)<(N:Int):=by omega
     obtain ⟨fb,off,rfl,hf⟩:=HR.out.resolve_left (by omega)
     obtain ⟨a,c,hc⟩:=hf j hlt
     have kc:=(HW.out.2.2.cell (World.block_lt_of_cell? w _ hc)).trans hc
     obtain ⟨m,hm⟩:∃ m,m=ls j:=⟨_,rfl⟩
     rw [<- hm] at kc
     have HA:Hid ((∀ i,i<j->(ls i:Int)=ZZ)/\m=ls j):=⟨hall,hm⟩
     clear hall hf hc hm
     by_cases he:(m:Int)=ZZ
     ·have he2:((m:Int) == ZZ)=true:=by simpa using he
      have HM:Hid ((m:Int)=ZZ):=he
      clear he
      go_wp2
      refine ⟨⟨j+1,hlt,by go_num,trivial,fun i hi=>?_⟩,by simp [intOf];omega⟩
      by_cases hij:i<j
      ·exact HA.out.1 i hij
      ·have:i=j:=by omega
       rw [this,<- HA.out.2]
       exact HM.out
     ·have he2:((m:Int) == ZZ)=false:=by simpa using he
      have HF:Hid ((List.range N).all (fun j=>decide ((ls j:Int)=ZZ))=false):=by
       rw [Hid,List.all_eq_false]
       exact ⟨j,List.mem_range.2 hlt,by rw [<- HA.out.2];simpa using he⟩
      clear he
      go_wp2
      go_ret
      exact ⟨congrArg (fun b=>Ending.returned (Value.bool b)) HF.out.symm,HW.out.2.2⟩
    ·have hlt':¬ (j:Int)<(N:Int):=by omega
     have HA:Hid ((List.range N).all (fun j=>decide ((ls j:Int)=ZZ))=true):=by
      rw [Hid,List.all_eq_true]
      intro i hi
      exact decide_eq_true (hall i (by have:=List.mem_range.1 hi;omega))
     clear hall
     go_wp2
     go_ret
     exact ⟨congrArg (fun b=>Ending.returned (Value.bool b)) HA.out.symm,HW.out.2.2⟩
  ·have hN':(N:Int) > 8:=by omega
   have hr:rightB z N ls=false:=by unfold rightB;simp [hN]
   rw [hr]
   clear hr hB
   go_enter Tryz.func19,Tryz.ntmps19
   go_wp2_with (first
    | (rw [<- HW.out.1,<- HW.out.2.1])
    | (go_at_call 38;refine (HIS _).mono ?_;rintro e w1 ⟨rfl,rfl⟩))
   go_ret
   exact ⟨rfl,HW.out.2.2⟩
end
section
open Go.RowKit Go.Shelf
open Flm (Px FS okPx)
open Pk (filmL)
def encS (z N:Nat) (F:List (List Px)):ByteArray:=(⟨#[70,66]⟩:ByteArray)++strOfNums [(z:Int),(N:Int)]++endStr (Pack.fin (filmL z F N))
theorem pEncodeNo (w:World) (z:Int) (fa:Option Addr) (N fc:Nat) (ls:Nat->Nat) (h:RowsIn w fa N ls) (hr:rightB z N ls=false) :
  Calls Tryz.prog 11 #[.agg #[.int .i64 z,.slice fa N fc]] w fun e w'=>e=.returned (.tuple #[.string ⟨#[]⟩,.int .i64 3])/\Below w.heap.size w w':=by
 have b1:Below w.heap.size w (w.alloc (.cells #[.int .i64 z,.slice fa N fc] 27)):=(Below.refl _ w).alloc (Nat.le_refl _) _
 have h1:RowsIn (w.alloc (.cells #[.int .i64 z,.slice fa N fc] 27)) fa N ls:=h.imp id fun ⟨fb,off,e,hf⟩=>⟨fb,off,e,fun j hj=>(hf j hj).elim fun a ha=>ha.elim fun c hc=>⟨a,c,(b1.cell (World.block_lt_of_cell? w _ hc)).trans hc⟩⟩
 have HC:=pIsFilm _ z fa N fc ls h1
 rw [hr] at HC
 have HB:Hid (Below w.heap.size w (w.alloc (.cells #[.int .i64 z,.slice fa N fc] 27))):=b1
 clear h h1 hr b1
 go_enter Tryz.func11,Tryz.ntmps11
 go_wp2_with (go_at_call 19;refine HC.mono ?_;rintro e w2 ⟨rfl,b2⟩)
 refine bodyPost_ret (v:=.tuple #[.string ⟨#[]⟩,.int .i64 3]) (by simp [results,Tryz.results11,go_sem]) rfl ?_
 exact ⟨rfl,HB.out.trans (b2.mono HB.out.size)⟩
theorem pEncode (w:World) (fa:Option Addr) (N fc z:Nat) (F:List (List Px)) (nbs cs:Nat->Nat) (h:FrsIn w fa N z F nbs cs) (hF:∀ f,∀ p ∈ F.getD f [],okPx p) (hz:z=4 \/ z=8 \/ z=16) (hN:N<=8) (hm:(Pack.fin (filmL z F N)).m<=150000) (SG:SoftG w w.heap.size) :
  Calls Tryz.prog 11 #[.agg #[.int .i64 z,.slice fa N fc]] w fun e w'=>e=.returned (.tuple #[.string (encS z N F),.int .i64 0])/\Below w.heap.size w w':=by
 obtain ⟨H,hH⟩:∃ H,H=w.heap.size:=⟨_,rfl⟩
 obtain ⟨W1,hW1⟩:∃ W1,W1=w.alloc (.cells #[.int .i64 z,.slice fa N fc] 27):=⟨_,rfl⟩
 have b1:Below w.heap.size w W1:=by rw [hW1];exact (Below.refl _ w).alloc (Nat.le_refl _) _
 have x0:W1.heap[H]?=some (.cells #[.int .i64 z,.slice fa N fc] 27):=by rw [hW1,hH];exact heap_alloc_last w _
 have hr:rightB z N (fun _=>z*z)=true:=by
  unfold rightB sizeB
  rw [Bool.and_eq_true,Bool.and_eq_true,List.all_eq_true]
  exact ⟨decide_eq_true (by omega),decide_eq_true hN,fun j _=>decide_eq_true (Int.natCast_mul z z)⟩
 have h1:RowsIn W1 fa N (fun _=>z*z):=h.imp id fun ⟨fb,off,e,hf⟩=>⟨fb,off,e,fun j hj=>⟨_,_,(b1.cell (World.block_lt_of_cell? w _ (hf j hj).1)).trans (hf j hj).1⟩⟩
 have HC:=pIsFilm W1 z fa N fc _ h1
 rw [hr] at HC
 have HWR:Hid (∀ w2,Below W1.heap.size W1 w2->Calls Tryz.prog 20 #[.agg #[.int .i64 z,.slice fa N fc]] w2 fun e w'=>e=.returned (.string (encS z N F))/\Below w2.heap.size w2 w'):=fun w2 b2=>by
  have b3:=b1.trans (b2.mono b1.size)
  have h2:FrsIn w2 fa N z F nbs cs:=h.imp id fun ⟨fb,off,e,hf⟩=>⟨fb,off,e,fun j hj=>⟨(b3.cell (World.block_lt_of_cell? w _ (hf j hj).1)).trans (hf j hj).1,(hf j hj).2.below b3⟩⟩
  exact pWrite w2 fa N fc z F nbs cs h2 hF hz hN hm (SG.of (b3.block _ SG.lt) (Nat.lt_of_lt_of_le SG.lt b3.size))
 have HCL:Hid (∀ w2,Below W1.heap.size W1 w2->w2.cell? ⟨H,0,none⟩=some (.int .i64 z)/\w2.cell? ⟨H,1,none⟩=some (.slice fa N fc)):=fun w2 b2=>by
  have e0:=(b2.block H (heap_lt0 x0)).trans x0
  exact ⟨cell_of_row _ _ 0 _ _ _ e0,cell_of_row _ _ 1 _ _ _ e0⟩
 obtain ⟨k0,k1⟩:=HCL.out W1 (Below.refl _ _)
 obtain ⟨S,hS⟩:∃ S,S=encS z N F:=⟨_,rfl⟩
 rw [<- hS] at HWR ⊢
 have HW:Hid (W1=w.alloc (.cells #[.int .i64 z,.slice fa N fc] 27)/\H=w.heap.size/\Below w.heap.size w W1):=⟨hW1,hH,b1⟩
 clear hW1 hH b1 x0 hr h1 h SG hF hz hm hS
 go_enter Tryz.func11,Tryz.ntmps11
 go_wp2_with (first
  | (rw [<- HW.out.1,<- HW.out.2.1])
  | (go_at_call 19;refine HC.mono ?_;rintro e w2 ⟨rfl,b2⟩;obtain ⟨q0,q1⟩:=HCL.out w2 b2)
  | (go_at_call 20;refine (HWR.out w2 b2).mono ?_;rintro e w3 ⟨rfl,b3⟩))
 refine bodyPost_ret (v:=.tuple #[.string S,.int .i64 0]) (by simp [results,Tryz.results11,go_sem]) rfl ?_
 exact ⟨rfl,HW.out.2.2.trans ((b2.trans (b3.mono b2.size)).mono HW.out.2.2.size)⟩
end
namespace Pk
open Flm (Px FS px now near turn back okPx spots put)
def IsZ (z:Nat):Prop:=z=4 \/ z=8 \/ z=16
theorem rank4:∀ x<4,∀ y<4,rank x y<16:=by decide +kernel
theorem rank8:∀ x<8,∀ y<8,rank x y<64:=by decide +kernel
theorem rank_z {z:Nat} (hz:IsZ z) {x y:Nat} (hx:x<z) (hy:y<z):rank x y<z*z:=by
 rcases hz with rfl|rfl|rfl
 ·exact rank4 x hx y hy
 ·exact rank8 x hx y hy
 ·exact rank_lt hx hy
theorem al0 {z:Nat} (hz:IsZ z):Al z 0 0 z:=⟨hz,Nat.zero_mod _,Nat.zero_mod _,by omega,by omega,by rcases hz with rfl|rfl|rfl <;> decide⟩
def Whole (z:Nat) (F:List (List Px)) (f:Nat) (l:Bts):Prop:=Pack.BitsOk l/\∀ (S:ByteArray) (rest:Bts) (fs:FS) (m:Nat),Rd S (l++rest) fs.r->fs.frs=[] ->
  ∃ gs,Flm.frames S z (f+m) fs=Flm.frames S z m gs/\Rd S rest gs.r/\gs.frs=F.take f
theorem whole_nil (z:Nat) (F:List (List Px)):Whole z F 0 []:=⟨ok_nil,fun S rest fs m h he=>⟨fs,by rw [Nat.zero_add],h,by rw [he,List.take_zero]⟩⟩
theorem whole_snoc {z:Nat} {F:List (List Px)} {f:Nat} {l a:Bts} (hz:IsZ z) (hf:f<F.length) (hl:(F.getD f []).length=z*z) (h:Whole z F f l) (ha:Tells z F f 0 0 z a):Whole z F (f+1) (l++a):=by
 refine ⟨ok_app h.1 ha.1,fun S rest fs m hr he=>?_⟩
 rw [List.append_assoc] at hr
 obtain ⟨gs,e1,r1,f1⟩:=h.2 S (a++rest) fs (1+m) hr he
 have hlen:gs.frs.length=f:=by rw [f1,List.length_take];omega
 obtain ⟨r2,g2⟩:=ha.2 S rest { gs with frs:=gs.frs++[List.replicate (z*z) (0,0,0)],rd:=List.replicate (z*z) false } r1 (by
  refine ⟨by rw [List.length_append,hlen];rfl,fun g hg=>?_,?_,List.length_replicate,fun x y _ _ h0=>?_,fun x y _ _ h0=>?_⟩
  ·show (gs.frs++_).getD g []=F.getD g []
   rw [List.getD_eq_getElem?_getD,List.getElem?_append_left (by omega),f1,List.getElem?_take_of_lt hg,<- List.getD_eq_getElem?_getD]
  ·show ((gs.frs++_).getD f []).length=z*z
   rw [List.getD_eq_getElem?_getD,List.getElem?_append_right (by omega),hlen,Nat.sub_self]
   exact List.length_replicate
  ·exact absurd h0 (by rw [show rank 0 0=0 from rfl];omega)
  ·rcases h0 with h0|h0
   ·exact absurd h0 (by rw [show rank 0 0=0 from rfl];omega)
   ·exact absurd h0 id)
 rw [show rank 0 0+z*z=z*z by rw [show rank 0 0=0 from rfl];omega] at g2
 refine ⟨_,?_,r2,?_⟩
 ·rw [show f+1+m=f+(1+m) by omega,e1,show 1+m=m+1 by omega]
  show (if gs.r.err=0 then _ else _)=_
  rw [if_pos r1.err]
 ·apply List.ext_getElem
  ·rw [g2.len,List.length_take];omega
  ·intro i h1 h2
   rw [g2.len] at h1
   have hi:i<F.length:=by omega
   rw [List.getElem_take]
   have key:(Flm.area S z (Flm.cuts z) 0 0 z { gs with frs:=gs.frs++[List.replicate (z*z) (0,0,0)],rd:=List.replicate (z*z) false }).frs.getD i []=F.getD i []:=by
    rcases Nat.lt_or_ge i f with hif|hif
    ·exact g2.old i hif
    ·obtain rfl:i=f:=by omega
     apply List.ext_getElem
     ·rw [g2.cl,hl]
     ·intro k k1 k2
      rw [g2.cl] at k1
      have hz0:0<z:=by rcases hz with rfl|rfl|rfl <;> decide
      have hx:k % z<z:=Nat.mod_lt _ hz0
      have hy:k / z<z:=Nat.div_lt_of_lt_mul k1
      have hk:=g2.agr (k % z) (k / z) hx hy (.inl (rank_z hz hx hy))
      rw [show k / z*z+k % z=k by rw [Nat.mul_comm];exact Nat.div_add_mod k z] at hk
      unfold px at hk
      rw [List.getD_eq_getElem?_getD,List.getD_eq_getElem?_getD (l:=F.getD i []),List.getElem?_eq_getElem (by rw [g2.cl];exact k1),List.getElem?_eq_getElem k2] at hk
      exact hk
   rw [List.getD_eq_getElem?_getD,List.getD_eq_getElem?_getD,List.getElem?_eq_getElem (by rw [g2.len];exact h1),List.getElem?_eq_getElem hi] at key
   exact key
theorem decode_told {s:ByteArray} {z:Nat} {F:List (List Px)} {l:Bts} (hz:IsZ z) (hF:F.length<=8) (h:Whole z F F.length l) (hs:4<=s.size) (b0:Rdr.byteAt s 0=70) (b1:Rdr.byteAt s 1=66) (b2:Rdr.byteAt s 2=z) (b3:Rdr.byteAt s 3=F.length)
  (hS:Pack.BytesOf (s.extract 4 s.size) (Pack.fin l).n (Pack.fin l).m) (hm:(Pack.fin l).m<=119992):Flm.decode s=(some (z,F),(0,0,0),0):=by
 have hsz:(s.extract 4 s.size).size=s.size-4:=by rw [ByteArray.size_extract];omega
 have hsz2:=hS.size
 have hst:=Rd.start h.1 hS
 unfold Flm.decode
 rw [if_neg (by omega),if_pos (by exact ⟨hs,b0,b1,by rw [b2];rcases hz with rfl|rfl|rfl <;> decide,by rw [b3];omega⟩)]
 dsimp only
 rw [b2,b3,if_pos hst.err,show ((z:Nat):Int).toNat=z by omega,show ((F.length:Nat):Int).toNat=F.length by omega]
 obtain ⟨gs,e1,r1,f1⟩:=h.2 (s.extract 4 s.size) [] ⟨Rdr.start (s.extract 4 s.size) ch0,[],[],0,0,0⟩ 0 (by rw [List.append_nil];exact hst) rfl
 rw [Nat.add_zero] at e1
 have e2:Flm.frames (s.extract 4 s.size) z 0 gs=gs:=rfl
 rw [e1,e2]
 unfold Flm.fin
 have hf:Rdr.finish (s.extract 4 s.size) gs.r=gs.r:=by
  unfold Rdr.finish
  rw [if_neg]
  rintro ⟨_,hp⟩
  rw [r1.done] at hp
  omega
 rw [if_pos r1.err,hf,if_pos r1.err,f1,List.take_length]
theorem puts_app:∀ (l r:Bts) (t:WS),Pack.puts t (l++r)=Pack.puts (Pack.puts t l) r
 | [],_,_=>rfl
 | (_,_) :: l,r,_=>puts_app l r _
structure FilmOk (z:Nat) (F:List (List Px)):Prop where
 iz:IsZ z
 le8:F.length<=8
 len:∀ f,f<F.length->(F.getD f []).length=z*z
 ok:∀ f,∀ p ∈ F.getD f [],okPx p
theorem film_whole {z:Nat} {F:List (List Px)} (h:FilmOk z F):∀ f,f<=F.length->Whole z F f (filmL z F f)/\(Pack.puts Pack.init (filmL z F f)).m<=f*(57*(z*z)+3)
 | 0,_=>⟨whole_nil z F,by rw [Nat.zero_mul];exact Nat.le_refl 0⟩
 | f+1,hf=>by
  obtain ⟨h1,h2⟩:=film_whole h f (by omega)
  obtain ⟨a1,a2⟩:=area_facts (h.ok f) (Flm.cuts z) (Pack.puts Pack.init (filmL z F f)) 0 0 z (al0 h.iz) rfl
  refine ⟨whole_snoc h.iz (by omega) (h.len f (by omega)) h1 a1,?_⟩
  unfold filmL
  rw [puts_app,Nat.succ_mul]
  omega
theorem film_m {z:Nat} {F:List (List Px)} (h:FilmOk z F):(Pack.fin (filmL z F F.length)).m<=119992:=by
 have h1:=(film_whole h F.length (Nat.le_refl _)).2
 have h2:=h.le8
 have h3:z*z<=256:=by rcases h.iz with rfl|rfl|rfl <;> decide
 have h4:F.length*(57*(z*z)+3)<=8*(57*256+3):=Nat.mul_le_mul h2 (by omega)
 unfold Pack.fin
 omega
theorem decode_film {s:ByteArray} {z:Nat} {F:List (List Px)} (h:FilmOk z F) (hs:4<=s.size) (b0:Rdr.byteAt s 0=70) (b1:Rdr.byteAt s 1=66) (b2:Rdr.byteAt s 2=z) (b3:Rdr.byteAt s 3=F.length)
  (hS:Pack.BytesOf (s.extract 4 s.size) (Pack.fin (filmL z F F.length)).n (Pack.fin (filmL z F F.length)).m):Flm.decode s=(some (z,F),(0,0,0),0) :=
 decode_told h.iz h.le8 (film_whole h F.length (Nat.le_refl _)).1 hs b0 b1 b2 b3 hS (film_m h)
end Pk
section
open Go.RowKit
open Flm (Px)
open Pk (filmL FilmOk)
theorem FrsIn.below {w w':World} {fa:Option Addr} {N z:Nat} {F:List (List Px)} {nbs cs:Nat->Nat} (h:FrsIn w fa N z F nbs cs) (b:Below w.heap.size w w'):FrsIn w' fa N z F nbs cs :=
 h.imp id fun ⟨fb,off,e,hf⟩=>⟨fb,off,e,fun j hj=>⟨(b.cell (World.block_lt_of_cell? w _ (hf j hj).1)).trans (hf j hj).1,(hf j hj).2.below b⟩⟩
theorem encS_nums (z N:Nat) (F:List (List Px)):encS z N F=strOfNums ([70,66,(z:Int),(N:Int)]++Pack.digs ((Pack.fin (filmL z F N)).m+4) (Pack.fin (filmL z F N)).n):=by
 have e:(⟨#[70,66]⟩:ByteArray)=strOfNums [70,66]:=rfl
 unfold encS endStr
 rw [e,strOfNums_app,strOfNums_app]
 rfl
theorem encS_tail (z N:Nat) (F:List (List Px)):(encS z N F).extract 4 (encS z N F).size=endStr (Pack.fin (filmL z F N)):=by
 unfold encS
 rw [ByteArray.size_append]
 exact ByteArray.extract_append_eq_right (by rw [ByteArray.size_append,strOfNums_size];rfl) rfl
theorem dec_encS {z:Nat} {F:List (List Px)} (h:FilmOk z F):Flm.decode (encS z F.length F)=(some (z,F),(0,0,0),0):=by
 have h8:=h.le8
 have hz:z<=16:=by rcases h.iz with e|e|e <;> omega
 have hb:∀ x ∈ [70,66,(z:Int),(F.length:Int)]++Pack.digs ((Pack.fin (filmL z F F.length)).m+4) (Pack.fin (filmL z F F.length)).n,0<=x/\x<=255:=fun x hx=>by
  rcases List.mem_append.1 hx with hx|hx
  ·simp only [List.mem_cons,List.not_mem_nil,or_false] at hx
   rcases hx with rfl|rfl|rfl|rfl <;> omega
  ·exact Pack.digs_bd _ _ x hx
 refine Pk.decode_film h ?_ ?_ ?_ ?_ ?_ ?_
 ·rw [encS_nums,strOfNums_size];simp
 ·rw [encS_nums,byteAt_str _ 0 (by simp) hb];rfl
 ·rw [encS_nums,byteAt_str _ 1 (by simp) hb];rfl
 ·rw [encS_nums,byteAt_str _ 2 (by simp) hb];rfl
 ·rw [encS_nums,byteAt_str _ 3 (by simp) hb];rfl
 ·rw [encS_tail];exact endStr_bytes _
end
section
open Go.RowKit Go.Shelf
theorem refRightNo (w:World) (z:Int) (fa:Option Addr) (N fc:Nat) (ls:Nat->Nat) (h:sizeB z=false) :
  Calls Tryz.prog 72 #[.agg #[.int .i64 z,.slice fa N fc]] w fun e w'=>e=.returned (.bool (rightB z N ls))/\Below w.heap.size w w':=by
 have hr:rightB z N ls=false:=by unfold rightB;rw [h];rfl
 rw [hr]
 have h3:¬ (z=4 \/ z=8 \/ z=16):=of_decide_eq_false h
 have h4:¬ z=4:=fun e=>h3 (.inl e)
 have h8:¬ z=8:=fun e=>h3 (.inr (.inl e))
 have h16:¬ z=16:=fun e=>h3 (.inr (.inr e))
 have e4:(z == 4)=false:=by simpa using h4
 have e8:(z == 8)=false:=by simpa using h8
 have e16:(z == 16)=false:=by simpa using h16
 have HB:Hid (Below w.heap.size w (w.alloc (.cells #[.int .i64 z,.slice fa N fc] 27))):=(Below.refl _ w).alloc (Nat.le_refl _) _
 clear hr h h3
 go_enter Tryz.func72,Tryz.ntmps72
 go_wp2
 go_ret
 exact ⟨rfl,HB.out⟩
end
section
open Go.RowKit Go.Shelf
theorem refRight4b (w:World) (fa:Option Addr) (N fc:Nat) (ls:Nat->Nat) (hN:¬ N<=8) :
  Calls Tryz.prog 72 #[.agg #[.int .i64 4,.slice fa N fc]] w fun e w'=>e=.returned (.bool (rightB 4 N ls))/\Below w.heap.size w w':=by
 have hN':(N:Int) > 8:=by omega
 have hr:rightB 4 N ls=false:=by unfold rightB;simp [hN]
 rw [hr]
 have HB:Hid (Below w.heap.size w (w.alloc (.cells #[.int .i64 4,.slice fa N fc] 27))):=(Below.refl _ w).alloc (Nat.le_refl _) _
 clear hr
 go_enter Tryz.func72,Tryz.ntmps72
 go_wp2
 go_ret
 exact ⟨rfl,HB.out⟩
theorem refRight4 (w:World) (fa:Option Addr) (N fc:Nat) (ls:Nat->Nat) (h:RowsIn w fa N ls) (hN:N<=8) :
  Calls Tryz.prog 72 #[.agg #[.int .i64 4,.slice fa N fc]] w fun e w'=>e=.returned (.bool (rightB 4 N ls))/\Below w.heap.size w w':=by
 have hN':¬ ((N:Int) > 8):=by omega
 have hr:rightB 4 N ls=(List.range N).all fun j=>decide ((ls j:Int)=16):=by unfold rightB;simp [sizeB,hN]
 rw [hr]
 obtain ⟨H,hH⟩:∃ H,H=w.heap.size:=⟨_,rfl⟩
 obtain ⟨W1,hW1⟩:∃ W1,W1=w.alloc (.cells #[.int .i64 4,.slice fa N fc] 27):=⟨_,rfl⟩
 have hB1:Below w.heap.size w W1:=by rw [hW1];exact (Below.refl _ w).alloc (Nat.le_refl _) _
 have x0:W1.heap[H]?=some (.cells #[.int .i64 4,.slice fa N fc] 27):=by rw [hW1,hH];exact heap_alloc_last w _
 have k0:W1.cell? ⟨H,0,none⟩=some (.int .i64 4):=cell_of_row _ _ 0 _ _ _ x0
 have k1:W1.cell? ⟨H,1,none⟩=some (.slice fa N fc):=cell_of_row _ _ 1 _ _ _ x0
 have HW:Hid (W1=w.alloc (.cells #[.int .i64 4,.slice fa N fc] 27)/\H=w.heap.size/\Below w.heap.size w W1):=⟨hW1,hH,hB1⟩
 have HR:Hid (RowsIn w fa N ls):=h
 clear hW1 hB1 hH x0 h hr
 go_enter Tryz.func72,Tryz.ntmps72
 go_wp2_with (rw [<- HW.out.1,<- HW.out.2.1])
 go_loopw [3] (fun v wr=>∃ j:Nat,j<=N/\v=.int .i64 j/\(∃ d,wr=W1.drewN d)/\∀ i,i<j->(ls i:Int)=16) (fun v _=>N-(intOf v).toNat)
 case atStart=>exact ⟨0,Nat.zero_le _,rfl,⟨0,rfl⟩,fun i hi=>absurd hi (Nat.not_lt_zero _)⟩
 case round =>
  obtain ⟨j,hj,rfl,⟨d,rfl⟩,hall⟩:=hrel
  by_cases hlt:j<N
  ·have hlt':(j:Int)<(N:Int):=by omega
   obtain ⟨fb,off,rfl,hf⟩:=HR.out.resolve_left (by omega)
   obtain ⟨a,c,hc⟩:=hf j hlt
   have kc:=(HW.out.2.2.cell (World.block_lt_of_cell? w _ hc)).trans hc
   obtain ⟨m,hm⟩:∃ m,m=ls j:=⟨_,rfl⟩
   rw [<- hm] at kc
   have HA:Hid ((∀ i,i<j->(ls i:Int)=16)/\m=ls j):=⟨hall,hm⟩
   clear hall hf hc hm
   by_cases he:(m:Int)=16
   ·have he2:((m:Int) == 16)=true:=by simpa using he
    have HM:Hid ((m:Int)=16):=he
    clear he
    go_wp2
    go_region
    all_goals
     go_wp2
     go_roundw
     case rel =>
      refine ⟨j+1,hlt,by go_num,⟨_,rfl⟩,fun i hi=>?_⟩
      by_cases hij:i<j
      ·exact HA.out.1 i hij
      ·have:i=j:=by omega
       rw [this,<- HA.out.2]
       exact HM.out
     case measure=>simp [intOf];omega
   ·have he2:((m:Int) == 16)=false:=by simpa using he
    have HF:Hid ((List.range N).all (fun j=>decide ((ls j:Int)=16))=false):=by
     rw [Hid,List.all_eq_false]
     exact ⟨j,List.mem_range.2 hlt,by rw [<- HA.out.2];simpa using he⟩
    clear he
    go_wp2
    go_region
    all_goals
     go_wp2
     go_ret
     exact ⟨congrArg (fun b=>Ending.returned (Value.bool b)) HF.out.symm,below_drewN HW.out.2.2 _⟩
  ·have hlt':¬ (j:Int)<(N:Int):=by omega
   have HA:Hid ((List.range N).all (fun j=>decide ((ls j:Int)=16))=true):=by
    rw [Hid,List.all_eq_true]
    intro i hi
    exact decide_eq_true (hall i (by have:=List.mem_range.1 hi;omega))
   clear hall
   go_wp2
   go_ret
   exact ⟨congrArg (fun b=>Ending.returned (Value.bool b)) HA.out.symm,below_drewN HW.out.2.2 _⟩
theorem refRight8b (w:World) (fa:Option Addr) (N fc:Nat) (ls:Nat->Nat) (hN:¬ N<=8) :
  Calls Tryz.prog 72 #[.agg #[.int .i64 8,.slice fa N fc]] w fun e w'=>e=.returned (.bool (rightB 8 N ls))/\Below w.heap.size w w':=by
 have hN':(N:Int) > 8:=by omega
 have hr:rightB 8 N ls=false:=by unfold rightB;simp [hN]
 rw [hr]
 have HB:Hid (Below w.heap.size w (w.alloc (.cells #[.int .i64 8,.slice fa N fc] 27))):=(Below.refl _ w).alloc (Nat.le_refl _) _
 clear hr
 go_enter Tryz.func72,Tryz.ntmps72
 go_wp2
 go_ret
 exact ⟨rfl,HB.out⟩
theorem refRight8 (w:World) (fa:Option Addr) (N fc:Nat) (ls:Nat->Nat) (h:RowsIn w fa N ls) (hN:N<=8) :
  Calls Tryz.prog 72 #[.agg #[.int .i64 8,.slice fa N fc]] w fun e w'=>e=.returned (.bool (rightB 8 N ls))/\Below w.heap.size w w':=by
 have hN':¬ ((N:Int) > 8):=by omega
 have hr:rightB 8 N ls=(List.range N).all fun j=>decide ((ls j:Int)=64):=by unfold rightB;simp [sizeB,hN]
 rw [hr]
 obtain ⟨H,hH⟩:∃ H,H=w.heap.size:=⟨_,rfl⟩
 obtain ⟨W1,hW1⟩:∃ W1,W1=w.alloc (.cells #[.int .i64 8,.slice fa N fc] 27):=⟨_,rfl⟩
 have hB1:Below w.heap.size w W1:=by rw [hW1];exact (Below.refl _ w).alloc (Nat.le_refl _) _
 have x0:W1.heap[H]?=some (.cells #[.int .i64 8,.slice fa N fc] 27):=by rw [hW1,hH];exact heap_alloc_last w _
 have k0:W1.cell? ⟨H,0,none⟩=some (.int .i64 8):=cell_of_row _ _ 0 _ _ _ x0
 have k1:W1.cell? ⟨H,1,none⟩=some (.slice fa N fc):=cell_of_row _ _ 1 _ _ _ x0
 have HW:Hid (W1=w.alloc (.cells #[.int .i64 8,.slice fa N fc] 27)/\H=w.heap.size/\Below w.heap.size w W1):=⟨hW1,hH,hB1⟩
 have HR:Hid (RowsIn w fa N ls):=h
 clear hW1 hB1 hH x0 h hr
 go_enter Tryz.func72,Tryz.ntmps72
 go_wp2_with (rw [<- HW.out.1,<- HW.out.2.1])
 go_loopw [3] (fun v wr=>∃ j:Nat,j<=N/\v=.int .i64 j/\(∃ d,wr=W1.drewN d)/\∀ i,i<j->(ls i:Int)=64) (fun v _=>N-(intOf v).toNat)
 case atStart=>exact ⟨0,Nat.zero_le _,rfl,⟨0,rfl⟩,fun i hi=>absurd hi (Nat.not_lt_zero _)⟩
 case round =>
  obtain ⟨j,hj,rfl,⟨d,rfl⟩,hall⟩:=hrel
  by_cases hlt:j<N
  ·have hlt':(j:Int)<(N:Int):=by omega
   obtain ⟨fb,off,rfl,hf⟩:=HR.out.resolve_left (by omega)
   obtain ⟨a,c,hc⟩:=hf j hlt
   have kc:=(HW.out.2.2.cell (World.block_lt_of_cell? w _ hc)).trans hc
   obtain ⟨m,hm⟩:∃ m,m=ls j:=⟨_,rfl⟩
   rw [<- hm] at kc
   have HA:Hid ((∀ i,i<j->(ls i:Int)=64)/\m=ls j):=⟨hall,hm⟩
   clear hall hf hc hm
   by_cases he:(m:Int)=64
   ·have he2:((m:Int) == 64)=true:=by simpa using he
    have HM:Hid ((m:Int)=64):=he
    clear he
    go_wp2
    go_region
    all_goals
     go_wp2
     go_roundw
     case rel =>
      refine ⟨j+1,hlt,by go_num,⟨_,rfl⟩,fun i hi=>?_⟩
      by_cases hij:i<j
      ·exact HA.out.1 i hij
      ·have:i=j:=by omega
       rw [this,<- HA.out.2]
       exact HM.out
     case measure=>simp [intOf];omega
   ·have he2:((m:Int) == 64)=false:=by simpa using he
    have HF:Hid ((List.range N).all (fun j=>decide ((ls j:Int)=64))=false):=by
     rw [Hid,List.all_eq_false]
     exact ⟨j,List.mem_range.2 hlt,by rw [<- HA.out.2];simpa using he⟩
    clear he
    go_wp2
    go_region
    all_goals
     go_wp2
     go_ret
     exact ⟨congrArg (fun b=>Ending.returned (Value.bool b)) HF.out.symm,below_drewN HW.out.2.2 _⟩
  ·have hlt':¬ (j:Int)<(N:Int):=by omega
   have HA:Hid ((List.range N).all (fun j=>decide ((ls j:Int)=64))=true):=by
    rw [Hid,List.all_eq_true]
    intro i hi
    exact decide_eq_true (hall i (by have:=List.mem_range.1 hi;omega))
   clear hall
   go_wp2
   go_ret
   exact ⟨congrArg (fun b=>Ending.returned (Value.bool b)) HA.out.symm,below_drewN HW.out.2.2 _⟩
theorem refRight16b (w:World) (fa:Option Addr) (N fc:Nat) (ls:Nat->Nat) (hN:¬ N<=8) :
  Calls Tryz.prog 72 #[.agg #[.int .i64 16,.slice fa N fc]] w fun e w'=>e=.returned (.bool (rightB 16 N ls))/\Below w.heap.size w w':=by
 have hN':(N:Int) > 8:=by omega
 have hr:rightB 16 N ls=false:=by unfold rightB;simp [hN]
 rw [hr]
 have HB:Hid (Below w.heap.size w (w.alloc (.cells #[.int .i64 16,.slice fa N fc] 27))):=(Below.refl _ w).alloc (Nat.le_refl _) _
 clear hr
 go_enter Tryz.func72,Tryz.ntmps72
 go_wp2
 go_ret
 exact ⟨rfl,HB.out⟩
theorem refRight16 (w:World) (fa:Option Addr) (N fc:Nat) (ls:Nat->Nat) (h:RowsIn w fa N ls) (hN:N<=8) :
  Calls Tryz.prog 72 #[.agg #[.int .i64 16,.slice fa N fc]] w fun e w'=>e=.returned (.bool (rightB 16 N ls))/\Below w.heap.size w w':=by
 have hN':¬ ((N:Int) > 8):=by omega
 have hr:rightB 16 N ls=(List.range N).all fun j=>decide ((ls j:Int)=256):=by unfold rightB;simp [sizeB,hN]
 rw [hr]
 obtain ⟨H,hH⟩:∃ H,H=w.heap.size:=⟨_,rfl⟩
 obtain ⟨W1,hW1⟩:∃ W1,W1=w.alloc (.cells #[.int .i64 16,.slice fa N fc] 27):=⟨_,rfl⟩
 have hB1:Below w.heap.size w W1:=by rw [hW1];exact (Below.refl _ w).alloc (Nat.le_refl _) _
 have x0:W1.heap[H]?=some (.cells #[.int .i64 16,.slice fa N fc] 27):=by rw [hW1,hH];exact heap_alloc_last w _
 have k0:W1.cell? ⟨H,0,none⟩=some (.int .i64 16):=cell_of_row _ _ 0 _ _ _ x0
 have k1:W1.cell? ⟨H,1,none⟩=some (.slice fa N fc):=cell_of_row _ _ 1 _ _ _ x0
 have HW:Hid (W1=w.alloc (.cells #[.int .i64 16,.slice fa N fc] 27)/\H=w.heap.size/\Below w.heap.size w W1):=⟨hW1,hH,hB1⟩
 have HR:Hid (RowsIn w fa N ls):=h
 clear hW1 hB1 hH x0 h hr
 go_enter Tryz.func72,Tryz.ntmps72
 go_wp2_with (rw [<- HW.out.1,<- HW.out.2.1])
 go_loopw [3] (fun v wr=>∃ j:Nat,j<=N/\v=.int .i64 j/\(∃ d,wr=W1.drewN d)/\∀ i,i<j->(ls i:Int)=256) (fun v _=>N-(intOf v).toNat)
 case atStart=>exact ⟨0,Nat.zero_le _,rfl,⟨0,rfl⟩,fun i hi=>absurd hi (Nat.not_lt_zero _)⟩
 case round =>
  obtain ⟨j,hj,rfl,⟨d,rfl⟩,hall⟩:=hrel
  by_cases hlt:j<N
  ·have hlt':(j:Int)<(N:Int):=by omega
   obtain ⟨fb,off,rfl,hf⟩:=HR.out.resolve_left (by omega)
   obtain ⟨a,c,hc⟩:=hf j hlt
   have kc:=(HW.out.2.2.cell (World.block_lt_of_cell? w _ hc)).trans hc
   obtain ⟨m,hm⟩:∃ m,m=ls j:=⟨_,rfl⟩
   rw [<- hm] at kc
   have HA:Hid ((∀ i,i<j->(ls i:Int)=256)/\m=ls j):=⟨hall,hm⟩
   clear hall hf hc hm
   by_cases he:(m:Int)=256
   ·have he2:((m:Int) == 256)=true:=by simpa using he
    have HM:Hid ((m:Int)=256):=he
    clear he
    go_wp2
    go_region
    all_goals
     go_wp2
     go_roundw
     case rel =>
      refine ⟨j+1,hlt,by go_num,⟨_,rfl⟩,fun i hi=>?_⟩
      by_cases hij:i<j
      ·exact HA.out.1 i hij
      ·have:i=j:=by omega
       rw [this,<- HA.out.2]
       exact HM.out
     case measure=>simp [intOf];omega
   ·have he2:((m:Int) == 256)=false:=by simpa using he
    have HF:Hid ((List.range N).all (fun j=>decide ((ls j:Int)=256))=false):=by
     rw [Hid,List.all_eq_false]
     exact ⟨j,List.mem_range.2 hlt,by rw [<- HA.out.2];simpa using he⟩
    clear he
    go_wp2
    go_region
    all_goals
     go_wp2
     go_ret
     exact ⟨congrArg (fun b=>Ending.returned (Value.bool b)) HF.out.symm,below_drewN HW.out.2.2 _⟩
  ·have hlt':¬ (j:Int)<(N:Int):=by omega
   have HA:Hid ((List.range N).all (fun j=>decide ((ls j:Int)=256))=true):=by
    rw [Hid,List.all_eq_true]
    intro i hi
    exact decide_eq_true (hall i (by have:=List.mem_range.1 hi;omega))
   clear hall
   go_wp2
   go_ret
   exact ⟨congrArg (fun b=>Ending.returned (Value.bool b)) HA.out.symm,below_drewN HW.out.2.2 _⟩
theorem refRight (w:World) (z:Int) (fa:Option Addr) (N fc:Nat) (ls:Nat->Nat) (h:RowsIn w fa N ls) :
  Calls Tryz.prog 72 #[.agg #[.int .i64 z,.slice fa N fc]] w fun e w'=>e=.returned (.bool (rightB z N ls))/\Below w.heap.size w w':=by
 cases hz:sizeB z with
 | false=>exact refRightNo w z fa N fc ls hz
 | true =>
  have hzz:z=4 \/ z=8 \/ z=16:=of_decide_eq_true hz
  by_cases hN:N<=8
  ·rcases hzz with rfl|rfl|rfl
   ·exact refRight4 w fa N fc ls h hN
   ·exact refRight8 w fa N fc ls h hN
   ·exact refRight16 w fa N fc ls h hN
  ·rcases hzz with rfl|rfl|rfl
   ·exact refRight4b w fa N fc ls hN
   ·exact refRight8b w fa N fc ls hN
   ·exact refRight16b w fa N fc ls hN
end
section
open Go.RowKit
open Flm (Px okPx)
def PxsIn (w:World) (a:Option Addr) (ps:List Px):Prop:=ps.length=0 \/ ∃ b off,a=some ⟨b,off,none⟩/\∀ k,k<ps.length->w.cell? ⟨b,off+k*3,none⟩=some (.int .u8 (ps.getD k (0,0,0)).1)/\w.cell? ⟨b,off+k*3+1,none⟩=some (.int .u8 (ps.getD k (0,0,0)).2.1)/\w.cell? ⟨b,off+k*3+2,none⟩=some (.int .u8 (ps.getD k (0,0,0)).2.2)
def FiIn (w:World) (fa:Option Addr) (F:List (List Px)):Prop:=F.length=0 \/ ∃ fb off,fa=some ⟨fb,off,none⟩/\∀ j,j<F.length->∃ a c,w.cell? ⟨fb,off+j,none⟩=some (.slice a (F.getD j []).length c)/\PxsIn w a (F.getD j [])
def lensF (F:List (List Px)):Nat->Nat:=fun j=>(F.getD j []).length
theorem PxsIn.mono {w w':World} {a:Option Addr} {ps:List Px} (h:PxsIn w a ps) (hc:∀ p v,w.cell? p=some v->w'.cell? p=some v):PxsIn w' a ps :=
 h.imp id fun ⟨b,off,e,hk⟩=>⟨b,off,e,fun k h1=>⟨hc _ _ (hk k h1).1,hc _ _ (hk k h1).2.1,hc _ _ (hk k h1).2.2⟩⟩
theorem FiIn.mono {w w':World} {fa:Option Addr} {F:List (List Px)} (h:FiIn w fa F) (hc:∀ p v,w.cell? p=some v->w'.cell? p=some v):FiIn w' fa F :=
 h.imp id fun ⟨fb,off,e,hk⟩=>⟨fb,off,e,fun j h1=>(hk j h1).elim fun a ha=>ha.elim fun c hac=>⟨a,c,hc _ _ hac.1,hac.2.mono hc⟩⟩
theorem FiIn.below {w w':World} {fa:Option Addr} {F:List (List Px)} (h:FiIn w fa F) (b:Below w.heap.size w w'):FiIn w' fa F :=
 h.mono fun p _ e=>(b.cell (World.block_lt_of_cell? w p e)).trans e
theorem FiIn.rows {w:World} {fa:Option Addr} {F:List (List Px)} (h:FiIn w fa F):RowsIn w fa F.length (lensF F) :=
 h.imp id fun ⟨fb,off,e,hk⟩=>⟨fb,off,e,fun j h1=>(hk j h1).elim fun a ha=>ha.elim fun c hac=>⟨a,c,hac.1⟩⟩
def lentRow (b s:Nat->Nat) (F:List (List Px)) (i j:Nat):List Value :=
 ((List.range i).map fun t=>Value.slice (some ⟨b t,0,none⟩) (F.getD t []).length ((F.getD t []).length+8))++(((List.range j).map fun t=>Value.slice (some ⟨s t,0,none⟩) 1 1)++List.replicate (F.length-i+(8-j)) (.slice none 0 0))
def putN (b:Nat->Nat) (i v t:Nat):Nat:=if t=i then v else b t
theorem putN_same (b:Nat->Nat) (i v:Nat):putN b i v i=v:=if_pos rfl
theorem putN_ne (b:Nat->Nat) {i t:Nat} (v:Nat) (h:t ≠ i):putN b i v t=b t:=if_neg h
theorem range_app {α:Type} (f:Nat->Nat->α) (b:Nat->Nat) (v i:Nat):(List.range (i+1)).map (fun t=>f t (putN b i v t))=(List.range i).map (fun t=>f t (b t))++[f i v]:=by
 have e:(List.range i).map (fun t=>f t (putN b i v t))=(List.range i).map (fun t=>f t (b t)):=List.map_congr_left fun t ht=>by
  have:=List.mem_range.1 ht
  rw [putN_ne b v (by omega)]
 rw [List.range_succ,List.map_append,List.map_singleton,putN_same,e]
theorem lentRow_frame (b s:Nat->Nat) (F:List (List Px)) (i v:Nat) (hi:i<F.length):(lentRow b s F i 0).set i (.slice (some ⟨v,0,none⟩) (F.getD i []).length ((F.getD i []).length+8))=lentRow (putN b i v) s F (i+1) 0:=by
 have e1:(List.range (i+1)).map (fun t=>Value.slice (some ⟨putN b i v t,0,none⟩) (F.getD t []).length ((F.getD t []).length+8))=(List.range i).map (fun t=>Value.slice (some ⟨b t,0,none⟩) (F.getD t []).length ((F.getD t []).length+8))++[Value.slice (some ⟨v,0,none⟩) (F.getD i []).length ((F.getD i []).length+8)]:=range_app (fun t n=>Value.slice (some ⟨n,0,none⟩) (F.getD t []).length ((F.getD t []).length+8)) b v i
 have e2:F.length-i+(8-0)=(F.length-(i+1)+(8-0))+1:=by omega
 unfold lentRow
 rw [e1,e2,List.set_append_right _ _ (by simp),List.length_map,List.length_range,Nat.sub_self i,List.replicate_succ]
 simp
theorem lentRow_spare (b s:Nat->Nat) (F:List (List Px)) (j v:Nat) (hj:j<8):(lentRow b s F F.length j).set (F.length+j) (.slice (some ⟨v,0,none⟩) 1 1)=lentRow b (putN s j v) F F.length (j+1):=by
 have e1:(List.range (j+1)).map (fun t=>Value.slice (some ⟨putN s j v t,0,none⟩) 1 1)=(List.range j).map (fun t=>Value.slice (some ⟨s t,0,none⟩) 1 1)++[Value.slice (some ⟨v,0,none⟩) 1 1]:=range_app (fun _ n=>Value.slice (some ⟨n,0,none⟩) 1 1) s v j
 have e2:F.length-F.length+(8-j)=(F.length-F.length+(8-(j+1)))+1:=by omega
 unfold lentRow
 rw [e1,e2,List.set_append_right _ _ (by simp),List.length_map,List.length_range,show F.length+j-F.length=j by omega,List.set_append_right _ _ (by simp),List.length_map,List.length_range,Nat.sub_self j,List.replicate_succ]
 simp
theorem lentRow_get (b s:Nat->Nat) (F:List (List Px)) (i j t:Nat) (h:t<i):(lentRow b s F i j)[t]?=some (.slice (some ⟨b t,0,none⟩) (F.getD t []).length ((F.getD t []).length+8)):=by
 unfold lentRow
 rw [List.getElem?_append_left (by simpa using h),List.getElem?_map,List.getElem?_range h];rfl
theorem lentRow_room (b s:Nat->Nat) (F:List (List Px)) (i j t:Nat) (h:t<j):(lentRow b s F i j)[i+t]?=some (.slice (some ⟨s t,0,none⟩) 1 1):=by
 unfold lentRow
 rw [List.getElem?_append_right (by simp),List.length_map,List.length_range,Nat.add_sub_cancel_left,List.getElem?_append_left (by simpa using h),List.getElem?_map,List.getElem?_range h];rfl
def Nine (w:World) (k:Nat):Prop:=w.cell? ⟨k,0,none⟩=some (.int .u8 9)/\w.cell? ⟨k,1,none⟩=some (.int .u8 9)/\w.cell? ⟨k,2,none⟩=some (.int .u8 9)
def padF (f:List Px):List Px:=f++List.replicate 8 (7,7,7)
structure LentAt (w:World) (B R:Nat) (b s:Nat->Nat) (F:List (List Px)) (i j:Nat):Prop where
 row:w.ownsRow B 58 1 (.slice (some ⟨R,0,none⟩) (F.length+8) (F.length+8)) (F.length+8) (lentRow b s F i j)
 fr:∀ t,t<i->Pixs w B (b t) ((F.getD t []).length+8) (padF (F.getD t []))
 sp:∀ t,t<j->B<=s t/\Nine w (s t)
 bR:∀ t,t<i->b t ≠ R
 bb:∀ t u,t<i->u<i->b t=b u->t=u
 sR:∀ t,t<j->s t ≠ R
 sb:∀ t u,t<j->u<i->s t ≠ b u
theorem Nine.lt {w:World} {k:Nat} (h:Nine w k):k<w.heap.size:=World.block_lt_of_cell? w _ h.1
theorem Nine.frm {S:Nat->Prop} {w w':World} {k:Nat} (h:Nine w k) (f:Frm S w w') (hn:¬ S k):Nine w' k:=⟨f.cell h.1 hn,f.cell h.2.1 hn,f.cell h.2.2 hn⟩
theorem LentAt.lt {w:World} {B R:Nat} {b s:Nat->Nat} {F:List (List Px)} {i j:Nat} (h:LentAt w B R b s F i j):B<=R/\R<w.heap.size:=World.ownsRow.lt h.row R rfl
theorem LentAt.frm {S:Nat->Prop} {w w':World} {B R:Nat} {b s:Nat->Nat} {F:List (List Px)} {i j:Nat} (h:LentAt w B R b s F i j) (f:Frm S w w') (nR:¬ S R) (nb:∀ t,t<i->¬ S (b t)) (ns:∀ t,t<j->¬ S (s t)):LentAt w' B R b s F i j :=
 ⟨f.owns h.row (fun k e=>by simp [Value.ownBlock] at e;subst e;exact nR),fun t ht=>f.pixs (h.fr t ht) (nb t ht),fun t ht=>⟨(h.sp t ht).1,(h.sp t ht).2.frm f (ns t ht)⟩,h.bR,h.bb,h.sR,h.sb⟩
theorem LentAt.below {w w':World} {B R:Nat} {b s:Nat->Nat} {F:List (List Px)} {i j:Nat} (h:LentAt w B R b s F i j) (f:Below w.heap.size w w'):LentAt w' B R b s F i j :=
 h.frm (Frm.of_below (S:=fun _=>False) f) (fun e=>e) (fun _ _ e=>e) (fun _ _ e=>e)
theorem LentAt.frame {w:World} {B R:Nat} {b s:Nat->Nat} {F:List (List Px)} {i:Nat} (h:LentAt w B R b s F i 0) (hi:i<F.length) {v:Nat} (hv:Pixs w B v ((F.getD i []).length+8) (padF (F.getD i []))) (vR:v ≠ R) (vb:∀ t,t<i->b t ≠ v) :
  LentAt (w.setCell ⟨R,i,none⟩ (.slice (some ⟨v,0,none⟩) (F.getD i []).length ((F.getD i []).length+8))) B R (putN b i v) s F (i+1) 0:=by
 have f:Frm (fun k=>k=R) w (w.setCell ⟨R,i,none⟩ (.slice (some ⟨v,0,none⟩) (F.getD i []).length ((F.getD i []).length+8))):=(Frm.refl (fun k=>k=R) w).setCell (p:=⟨R,i,none⟩) (.inl (show R=R from rfl)) _
 refine ⟨?_,fun t ht=>?_,fun t ht=>absurd ht (Nat.not_lt_zero _),fun t ht=>?_,fun t u ht hu=>?_,fun t ht=>absurd ht (Nat.not_lt_zero _),fun t _ ht=>absurd ht (Nat.not_lt_zero _)⟩
 ·have:=(World.ownsRow.stored h.row i (.slice (some ⟨v,0,none⟩) (F.getD i []).length ((F.getD i []).length+8))).1
  rw [lentRow_frame b s F i v hi] at this
  exact this
 ·by_cases e:t=i
  ·subst e
   rw [putN_same]
   exact f.pixs hv vR
  ·rw [putN_ne b v e]
   exact f.pixs (h.fr t (by omega)) (h.bR t (by omega))
 ·by_cases e:t=i
  ·rw [e,putN_same];exact vR
  ·rw [putN_ne b v e];exact h.bR t (by omega)
 ·by_cases e:t=i
  ·by_cases e':u=i
   ·intro _;omega
   ·rw [e,putN_same,putN_ne b v e'];intro k;exact absurd k.symm (vb u (by omega))
  ·by_cases e':u=i
   ·rw [putN_ne b v e,e',putN_same];intro k;exact absurd k (vb t (by omega))
   ·rw [putN_ne b v e,putN_ne b v e'];exact h.bb t u (by omega) (by omega)
theorem LentAt.spare {w:World} {B R:Nat} {b s:Nat->Nat} {F:List (List Px)} {j:Nat} (h:LentAt w B R b s F F.length j) (hj:j<8) {v:Nat} (hv:Nine w v) (hB:B<=v) (vR:v ≠ R) (vb:∀ t,t<F.length->v ≠ b t) :
  LentAt (w.setCell ⟨R,F.length+j,none⟩ (.slice (some ⟨v,0,none⟩) 1 1)) B R b (putN s j v) F F.length (j+1):=by
 have f:Frm (fun k=>k=R) w (w.setCell ⟨R,F.length+j,none⟩ (.slice (some ⟨v,0,none⟩) 1 1)):=(Frm.refl (fun k=>k=R) w).setCell (p:=⟨R,F.length+j,none⟩) (.inl (show R=R from rfl)) _
 refine ⟨?_,fun t ht=>f.pixs (h.fr t ht) (h.bR t ht),fun t ht=>?_,h.bR,h.bb,fun t ht=>?_,fun t u ht hu=>?_⟩
 ·have:=(World.ownsRow.stored h.row (F.length+j) (.slice (some ⟨v,0,none⟩) 1 1)).1
  rw [lentRow_spare b s F j v hj] at this
  exact this
 ·by_cases e:t=j
  ·rw [e,putN_same];exact ⟨hB,hv.frm f vR⟩
  ·rw [putN_ne s v e];exact ⟨(h.sp t (by omega)).1,(h.sp t (by omega)).2.frm f (h.sR t (by omega))⟩
 ·by_cases e:t=j
  ·rw [e,putN_same];exact vR
  ·rw [putN_ne s v e];exact h.sR t (by omega)
 ·by_cases e:t=j
  ·rw [e,putN_same];exact vb u hu
  ·rw [putN_ne s v e];exact h.sb t u (by omega) hu
theorem LentAt.cellAt {w:World} {B R:Nat} {b s:Nat->Nat} {F:List (List Px)} {i j:Nat} (h:LentAt w B R b s F i j) (hi:i<=F.length) (t:Nat) (ht:t<i):w.cell? ⟨R,t,none⟩=some (.slice (some ⟨b t,0,none⟩) (F.getD t []).length ((F.getD t []).length+8)) :=
 (World.ownsRow.cellAt h.row t (by omega)).trans (lentRow_get b s F i j t ht)
theorem LentAt.roomAt {w:World} {B R:Nat} {b s:Nat->Nat} {F:List (List Px)} {j:Nat} (h:LentAt w B R b s F F.length j) (hj:j<=8) (t:Nat) (ht:t<j):w.cell? ⟨R,F.length+t,none⟩=some (.slice (some ⟨s t,0,none⟩) 1 1) :=
 (World.ownsRow.cellAt h.row (F.length+t) (by omega)).trans (lentRow_room b s F F.length j t ht)
theorem padF_get (f:List Px) (k:Nat) (h:k<f.length):(padF f).getD k (0,0,0)=f.getD k (0,0,0):=by
 unfold padF
 rw [List.getD_eq_getElem?_getD,List.getElem?_append_left h,List.getD_eq_getElem?_getD]
theorem padF_room (f:List Px) (k:Nat) (h:k<8):(padF f).getD (f.length+k) (0,0,0)=(7,7,7):=by
 unfold padF
 rw [List.getD_eq_getElem?_getD,List.getElem?_append_right (by omega),Nat.add_sub_cancel_left,List.getElem?_replicate,if_pos h];rfl
theorem LentAt.film {w:World} {B R:Nat} {b s:Nat->Nat} {F:List (List Px)} (h:LentAt w B R b s F F.length 8):FiIn w (some ⟨R,0,none⟩) F:=by
 refine .inr ⟨R,0,rfl,fun j hj=>⟨_,_,by rw [Nat.zero_add];exact h.cellAt (Nat.le_refl _) j hj,.inr ⟨b j,0,rfl,fun k hk=>?_⟩⟩⟩
 have:=(h.fr j hj).cell k (by omega)
 rw [padF_get _ _ hk] at this
 simpa using this
theorem LentAt.frs {w:World} {B R:Nat} {b s:Nat->Nat} {F:List (List Px)} (h:LentAt w B R b s F F.length 8) {z:Nat} (hl:∀ j,j<F.length->(F.getD j []).length=z*z):FrsIn w (some ⟨R,0,none⟩) F.length z F b (fun _=>z*z+8):=by
 refine .inr ⟨R,0,rfl,fun j hj=>⟨?_,?_⟩⟩
 ·rw [Nat.zero_add,h.cellAt (Nat.le_refl _) j hj,hl j hj]
 ·have k:=h.fr j hj
  refine ⟨k.lt.2,fun t ht=>?_⟩
  have:=k.cell t (by rw [hl j hj];omega)
  rw [padF_get _ _ (by rw [hl j hj];exact ht)] at this
  exact this
end
end Go.Proofs.YtekfbphnoibnjaaGreatDoor
