/-
  KpDec PEnc EncDec PApp Decodes Decodes2 LRd LBit
-/
import Derived.Test.YtekfbphnoibnjaaGreatDoorF22
set_option maxHeartbeats 4000000
namespace Go.Proofs.YtekfbphnoibnjaaGreatDoor
section
open Flm (Px FS)
theorem byteAt_extract (s:ByteArray) (i:Nat) (h:4+i<s.size):Rdr.byteAt (s.extract 4 s.size) i=Rdr.byteAt s (4+i):=by
 unfold Rdr.byteAt
 have e:(s.extract 4 s.size).data.toList.getD i 0=s.data.toList.getD (4+i) 0:=by
  have h1:(s.extract 4 s.size).data=s.data.extract 4 s.size:=by simp
  rw [h1,List.getD_eq_getElem?_getD,List.getD_eq_getElem?_getD,Array.getElem?_toList,Array.getElem?_toList,Array.getElem?_extract]
  rw [if_pos (by have:s.data.size=s.size:=rfl;omega)]
 rw [e]
theorem Less.tail {s s':ByteArray} (L:Less s s') (h:4<=s'.size):Less (s.extract 4 s.size) (s'.extract 4 s'.size):=by
 have hs:=L.sz
 have e1:(s.extract 4 s.size).size=s.size-4:=by rw [ByteArray.size_extract];omega
 have e2:(s'.extract 4 s'.size).size=s'.size-4:=by rw [ByteArray.size_extract];omega
 refine ⟨by omega,fun i hi=>?_⟩
 rw [byteAt_extract s' i (by omega),byteAt_extract s i (by omega),L.eq _ (by omega)]
theorem Less.head {s s':ByteArray} (L:Less s s') (h:4<=s'.size):HeadOk s' ↔ HeadOk s:=by
 have hs:=L.sz
 have b:∀ i,i<4->Rdr.byteAt s' i=Rdr.byteAt s i:=fun i hi=>L.eq i (by omega)
 unfold HeadOk
 rw [b 0 (by decide),b 1 (by decide),b 2 (by decide),b 3 (by decide)]
 constructor
 ·rintro ⟨_,k⟩;exact ⟨by omega,k⟩
 ·rintro ⟨_,k⟩;exact ⟨h,k⟩
theorem fin_some {t:ByteArray} {z:Nat} {F:FS} {x:Nat × List (List Px)} (h:(Flm.fin t z F).1=some x):F.r.err=0/\t.size<=F.r.pos:=by
 unfold Flm.fin at h
 by_cases h1:F.r.err=0
 ·rw [if_pos h1] at h
  refine ⟨h1,?_⟩
  by_cases h2:(Rdr.finish t F.r).err=0
  ·unfold Rdr.finish at h2
   by_cases h3:F.r.err=0/\F.r.pos<t.size
   ·rw [if_pos h3] at h2
    exact absurd (show (6:Int)=0 from h2) (by decide)
   ·rcases Nat.lt_or_ge F.r.pos t.size with h'|h'
    ·exact absurd ⟨h1,h'⟩ h3
    ·exact h'
  ·rw [if_neg h2] at h;cases h
 ·rw [if_neg h1] at h;cases h
theorem decode_less {s s':ByteArray} (L:Less s s') (h5:4<=s'.size) {x:Nat × List (List Px)} (hd:(Flm.decode s).1=some x):(Flm.decode s').1=none/\(Flm.decode s').2.2=5:=by
 have hs:=L.sz
 unfold Flm.decode at hd ⊢
 by_cases hl:120000<s.size
 ·rw [if_pos hl] at hd;cases hd
 ·rw [if_neg hl] at hd
  rw [if_neg (by omega)]
  by_cases hh:HeadOk s
  ·rw [if_pos hh] at hd
   rw [if_pos ((L.head h5).2 hh),L.eq 2 (by omega),L.eq 3 (by omega)]
   dsimp only at hd ⊢
   by_cases h1:(Rdr.start (s.extract 4 s.size) ch0).err=0
   ·rw [if_pos h1] at hd
    obtain ⟨k1,k2⟩:=fin_some hd
    have LT:=L.tail h5
    have hz:=LT.sz
    rcases Rdr.start_al LT ch0 with a|⟨a,p⟩
    ·have a':(Rdr.start (s'.extract 4 s'.size) ch0).err=5:=a
     rw [if_neg (by omega)]
     exact ⟨rfl,a'⟩
    ·have a':Rdr.start (s'.extract 4 s'.size) ch0=Rdr.start (s.extract 4 s.size) ch0:=a
     rw [a',if_pos h1]
     rcases Flm.frames_al LT (z:=(Rdr.byteAt s 2).toNat) (Rdr.byteAt s 3).toNat ⟨Rdr.start (s.extract 4 s.size) ch0,[],[],0,0,0⟩ ⟨Rdr.start (s.extract 4 s.size) ch0,[],[],0,0,0⟩ (.inr ⟨rfl,p⟩) with b|⟨b,q⟩
     ·unfold Flm.fin
      rw [if_neg (by omega)]
      exact ⟨rfl,b⟩
     ·omega
   ·rw [if_neg h1] at hd;cases hd
  ·rw [if_neg hh] at hd;cases hd
theorem decode_more {s s':ByteArray} (L:Less s s') (h5:4<=s'.size) (hl:s.size<=120000) {x:Nat × List (List Px)} (hd:(Flm.decode s').1=some x):Flm.decode s=(none,(0,0,0),6):=by
 have hs:=L.sz
 unfold Flm.decode at hd ⊢
 rw [if_neg (by omega)] at hd ⊢
 by_cases hh:HeadOk s'
 ·rw [if_pos hh] at hd
  rw [if_pos ((L.head h5).1 hh)]
  rw [L.eq 2 (by omega),L.eq 3 (by omega)] at hd
  dsimp only at hd ⊢
  by_cases h1:(Rdr.start (s'.extract 4 s'.size) ch0).err=0
  ·rw [if_pos h1] at hd
   obtain ⟨k1,k2⟩:=fin_some hd
   have LT:=L.tail h5
   have hz:=LT.sz
   rcases Rdr.start_al LT ch0 with a|⟨a,p⟩
   ·have a':(Rdr.start (s'.extract 4 s'.size) ch0).err=5:=a
    omega
   ·have a':Rdr.start (s'.extract 4 s'.size) ch0=Rdr.start (s.extract 4 s.size) ch0:=a
    rw [a'] at h1 k1 k2
    rw [if_pos h1]
    rcases Flm.frames_al LT (z:=(Rdr.byteAt s 2).toNat) (Rdr.byteAt s 3).toNat ⟨Rdr.start (s.extract 4 s.size) ch0,[],[],0,0,0⟩ ⟨Rdr.start (s.extract 4 s.size) ch0,[],[],0,0,0⟩ (.inr ⟨rfl,p⟩) with b|⟨b,q⟩
    ·omega
    ·rw [b] at k1
     unfold Flm.fin
     have hf:(Rdr.finish (s.extract 4 s.size) (Flm.frames (s.extract 4 s.size) (Rdr.byteAt s 2).toNat (Rdr.byteAt s 3).toNat ⟨Rdr.start (s.extract 4 s.size) ch0,[],[],0,0,0⟩).r).err=6:=by
      unfold Rdr.finish
      rw [if_pos ⟨k1,by omega⟩]
     rw [if_pos k1,if_neg (by omega),hf]
  ·rw [if_neg h1] at hd;cases hd
 ·rw [if_neg hh] at hd;cases hd
end
section
open Go.RowKit Go.Shelf
open Flm (Px FS okPx)
open Pk (filmL)
def encS (z N:Nat) (F:List (List Px)):ByteArray:=(⟨#[70,66]⟩:ByteArray)++strOfNums [(z:Int),(N:Int)]++endStr (Pack.fin (filmL z F N))
theorem pEncode (w:World) (fa:Option Addr) (N fc z:Nat) (F:List (List Px)) (nbs cs:Nat->Nat) (h:FrsIn w fa N z F nbs cs) (hF:∀ f,∀ p ∈ F.getD f [],okPx p) (hz:z=4 \/ z=8 \/ z=16) (hN:N<=8) (hm:(Pack.fin (filmL z F N)).m<=150000) (SG:SoftG w w.heap.size) :
  Calls Tryz.prog 11 #[.agg #[.int .i64 z,.slice fa N fc]] w fun e w'=>e=.returned (.tuple #[.string (encS z N F),.int .i64 0])/\Below w.heap.size w w':=by
 obtain ⟨H,hH⟩:∃ H,H=w.heap.size:=⟨_,rfl⟩
 obtain ⟨W1,hW1⟩:∃ W1,W1=w.alloc (.cells #[.int .i64 z,.slice fa N fc] 27):=⟨_,rfl⟩
 have b1:Below w.heap.size w W1:=by rw [hW1];exact (Below.refl _ w).alloc (Nat.le_refl _) _
 have x0:W1.heap[H]?=some (.cells #[.int .i64 z,.slice fa N fc] 27):=by rw [hW1,hH];exact heap_alloc_last w _
 have hr:rightB z N (fun _=>z*z)=true:=by
  unfold rightB sizeB
  rw [Bool.and_eq_true,Bool.and_eq_true,List.all_eq_true]
  exact ⟨decide_eq_true (by omega),decide_eq_true hN,fun j _=>decide_eq_true (Int.natCast_mul z z)⟩
 have h1:RowsIn W1 fa N (fun _=>z*z):=h.imp id fun ⟨fb,off,e,hf⟩=>⟨fb,off,e,fun j hj=>⟨_,_,(b1.cell (World.block_lt_of_cell? w _ (hf j hj).1)).trans (hf j hj).1⟩⟩
 have HC:=pIsFilm W1 z fa N fc _ h1
 rw [hr] at HC
 have HWR:Hid (∀ w2,Below W1.heap.size W1 w2->Calls Tryz.prog 20 #[.agg #[.int .i64 z,.slice fa N fc]] w2 fun e w'=>e=.returned (.string (encS z N F))/\Below w2.heap.size w2 w'):=fun w2 b2=>by
  have b3:=b1.trans (b2.mono b1.size)
  have h2:FrsIn w2 fa N z F nbs cs:=h.imp id fun ⟨fb,off,e,hf⟩=>⟨fb,off,e,fun j hj=>⟨(b3.cell (World.block_lt_of_cell? w _ (hf j hj).1)).trans (hf j hj).1,(hf j hj).2.below b3⟩⟩
  exact pWrite w2 fa N fc z F nbs cs h2 hF hz hN hm (SG.of (b3.block _ SG.lt) (Nat.lt_of_lt_of_le SG.lt b3.size))
 have HCL:Hid (∀ w2,Below W1.heap.size W1 w2->w2.cell? ⟨H,0,none⟩=some (.int .i64 z)/\w2.cell? ⟨H,1,none⟩=some (.slice fa N fc)):=fun w2 b2=>by
  have e0:=(b2.block H (heap_lt0 x0)).trans x0
  exact ⟨cell_of_row _ _ 0 _ _ _ e0,cell_of_row _ _ 1 _ _ _ e0⟩
 obtain ⟨k0,k1⟩:=HCL.out W1 (Below.refl _ _)
 obtain ⟨S,hS⟩:∃ S,S=encS z N F:=⟨_,rfl⟩
 rw [<- hS] at HWR ⊢
 have HW:Hid (W1=w.alloc (.cells #[.int .i64 z,.slice fa N fc] 27)/\H=w.heap.size/\Below w.heap.size w W1):=⟨hW1,hH,b1⟩
 clear hW1 hH b1 x0 hr h1 h SG hF hz hm hS
 go_enter Tryz.func11,Tryz.ntmps11
 go_wp2_with (first
  | (rw [<- HW.out.1,<- HW.out.2.1])
  | (go_at_call 19;refine HC.mono ?_;rintro e w2 ⟨rfl,b2⟩;obtain ⟨q0,q1⟩:=HCL.out w2 b2)
  | (go_at_call 20;refine (HWR.out w2 b2).mono ?_;rintro e w3 ⟨rfl,b3⟩))
 refine bodyPost_ret (v:=.tuple #[.string S,.int .i64 0]) (by simp [results,Tryz.results11,go_sem]) rfl ?_
 exact ⟨rfl,HW.out.2.2.trans ((b2.trans (b3.mono b2.size)).mono HW.out.2.2.size)⟩
end
section
open Go.RowKit
open Flm (Px)
open Pk (filmL FilmOk)
theorem FrsIn.below {w w':World} {fa:Option Addr} {N z:Nat} {F:List (List Px)} {nbs cs:Nat->Nat} (h:FrsIn w fa N z F nbs cs) (b:Below w.heap.size w w'):FrsIn w' fa N z F nbs cs :=
 h.imp id fun ⟨fb,off,e,hf⟩=>⟨fb,off,e,fun j hj=>⟨(b.cell (World.block_lt_of_cell? w _ (hf j hj).1)).trans (hf j hj).1,(hf j hj).2.below b⟩⟩
theorem encS_nums (z N:Nat) (F:List (List Px)):encS z N F=strOfNums ([70,66,(z:Int),(N:Int)]++Pack.digs ((Pack.fin (filmL z F N)).m+4) (Pack.fin (filmL z F N)).n):=by
 have e:(⟨#[70,66]⟩:ByteArray)=strOfNums [70,66]:=rfl
 unfold encS endStr
 rw [e,strOfNums_app,strOfNums_app]
 rfl
theorem encS_tail (z N:Nat) (F:List (List Px)):(encS z N F).extract 4 (encS z N F).size=endStr (Pack.fin (filmL z F N)):=by
 unfold encS
 rw [ByteArray.size_append]
 exact ByteArray.extract_append_eq_right (by rw [ByteArray.size_append,strOfNums_size];rfl) rfl
theorem dec_encS {z:Nat} {F:List (List Px)} (h:FilmOk z F):Flm.decode (encS z F.length F)=(some (z,F),(0,0,0),0):=by
 have h8:=h.le8
 have hz:z<=16:=by rcases h.iz with e|e|e <;> omega
 have hb:∀ x ∈ [70,66,(z:Int),(F.length:Int)]++Pack.digs ((Pack.fin (filmL z F F.length)).m+4) (Pack.fin (filmL z F F.length)).n,0<=x/\x<=255:=fun x hx=>by
  rcases List.mem_append.1 hx with hx|hx
  ·simp only [List.mem_cons,List.not_mem_nil,or_false] at hx
   rcases hx with rfl|rfl|rfl|rfl <;> omega
  ·exact Pack.digs_bd _ _ x hx
 refine Pk.decode_film h ?_ ?_ ?_ ?_ ?_ ?_
 ·rw [encS_nums,strOfNums_size];simp
 ·rw [encS_nums,byteAt_str _ 0 (by simp) hb];rfl
 ·rw [encS_nums,byteAt_str _ 1 (by simp) hb];rfl
 ·rw [encS_nums,byteAt_str _ 2 (by simp) hb];rfl
 ·rw [encS_nums,byteAt_str _ 3 (by simp) hb];rfl
 ·rw [encS_tail];exact endStr_bytes _
end
section
open Go.RowKit
theorem append_run {P:Program} {o:Oper} {ev:Operand->Value} {w w':World} (s x:Operand) (t:TypeId) (ho:o.op=.call { callee:=.builtin .append,args:=#[s,x],argTypes:=#[t,t] }) {v vx v':Value} (hs:ev s=v) (hx:ev x=vx) (hrun:(Builtin.append_ #[t,t] o.type #[v,vx]).run P w=.ok v' w'):(execOp ev o).run P w=.ok (.value v') w':=by
 unfold execOp
 simp only [ho,resolve,invoke,builtin,Sem.run_bind,Sem.run_pure,Result.andThen_ok,List.map_toArray,List.map_cons,List.map_nil,hs,hx,hrun]
end
section
open Go.RowKit
open Flm (Px FS)
set_option maxRecDepth 20000 in
theorem placeEqD (d:Nat) (w:World) (a b c:Int) :
  Sem.run Tryz.prog (Op.equalIn (d+1+1) 33 (.agg #[.int .i64 a,.int .i64 b,.int .i64 c]) (.agg #[.int .i64 a,.int .i64 b,.int .i64 c])) w=.ok true w:=by
 have hi:=fun x=>run_equalIn_int w d 3 .i64 .i64 x x Tryz.underlying3
 have h0:=fun (x:Value) (i:Nat) (xs:Array Value) (hv:xs[i]?=some x)=>part1 (P:=Tryz.prog) Tryz.underlying3 w xs i x hv
 rw [Op.equalIn]
 simp only [Sem.run_bind,run_underlying Tryz.underlying33,Result.andThen_ok]
 simp [h0 (.int .i64 a) 0 #[.int .i64 a,.int .i64 b,.int .i64 c] rfl,h0 (.int .i64 b) 1 #[.int .i64 a,.int .i64 b,.int .i64 c] rfl,h0 (.int .i64 c) 2 #[.int .i64 a,.int .i64 b,.int .i64 c] rfl,hi]
theorem placeEq (a b c:Int) (w:World):Sem.run Tryz.prog (Op.equalIn 10000 33 (.agg #[.int .i64 a,.int .i64 b,.int .i64 c]) (.agg #[.int .i64 a,.int .i64 b,.int .i64 c])) w=.ok true w:=placeEqD 9998 w a b c
structure FPB (W:World) (H:Nat) (z v x0 x1 x2:Value):Prop where
 b0:W.heap[H]?=some (.cells #[z,v] 27 (0,0))
 b1:W.heap[H+1]?=some (.cells #[x0,x1,x2] 33 (0,0))
theorem FPB.below {W W':World} {H:Nat} {z v x0 x1 x2:Value} (h:FPB W H z v x0 x1 x2) (b:Below W.heap.size W W'):FPB W' H z v x0 x1 x2:=⟨(b.block _ (heap_lt0 h.b0)).trans h.b0,(b.block _ (heap_lt0 h.b1)).trans h.b1⟩
theorem FPB.cells {W:World} {H:Nat} {z v x0 x1 x2:Value} (h:FPB W H z v x0 x1 x2):W.cell? ⟨H,0,none⟩=some z/\W.cell? ⟨H,1,none⟩=some v/\W.cell? ⟨H+1,0,none⟩=some x0/\W.cell? ⟨H+1,1,none⟩=some x1/\W.cell? ⟨H+1,2,none⟩=some x2 :=
 ⟨cell_of_row _ _ 0 _ _ _ h.b0,cell_of_row _ _ 1 _ _ _ h.b0,cell_of_row _ _ 0 _ _ _ h.b1,cell_of_row _ _ 1 _ _ _ h.b1,cell_of_row _ _ 2 _ _ _ h.b1⟩
theorem fpb_mk {w0 w w1:World} (b0:Below w0.heap.size w0 w) (b1:Below w.heap.size w w1) (z v x0 x1 x2:Value):∃ W1 H,W1=(w1.alloc (.cells #[z,v] 27)).alloc (.cells #[x0,x1,x2] 33)/\H=w1.heap.size/\Below w1.heap.size w1 W1/\Below w.heap.size w W1/\Below w0.heap.size w0 W1/\FPB W1 H z v x0 x1 x2:=by
 have hn:Below w1.heap.size w1 ((w1.alloc (.cells #[z,v] 27)).alloc (.cells #[x0,x1,x2] 33)):=((Below.refl _ w1).alloc (Nat.le_refl _) _).alloc (by simp) _
 have h2:=heap_alloc_last (w1.alloc (.cells #[z,v] 27)) (.cells #[x0,x1,x2] 33)
 rw [World.size_alloc] at h2
 exact ⟨_,_,rfl,rfl,hn,b1.trans (hn.mono b1.size),(b0.trans (b1.mono b0.size)).trans (hn.mono (Nat.le_trans b0.size b1.size)),(Below.heap_alloc _ _ _ (by simp)).trans (heap_alloc_last w1 _),h2⟩
end
section
open Go.RowKit
open Flm (Px FS)
def FilmIn (w:World) (lo hi:Nat) (Lv:Value) (z:Nat) (frs:List (List Px)):Prop :=
 ∃ fbs:List Nat,(w.ownsRow lo 58 1 Lv frs.length (rowVals (z*z) fbs)/\fbs.length=frs.length/\(∀ i,i<frs.length->Pixs w lo (fbs.getD i 0) (z*z) (frs.getD i []))/\fbs.Nodup/\(∀ k,Lv.ownBlock=some k->k ∉ fbs)/\(z=4 \/ z=8 \/ z=16)/\frs.length<=8/\(∀ i k,Flm.okPx ((frs.getD i []).getD k (0,0,0))))/\(∀ k,k ∈ fbs->k<hi)/\∀ k,Lv.ownBlock=some k->k<hi
theorem FilmIn.at {w:World} {lo hi:Nat} {Lv:Value} {z:Nat} {frs:List (List Px)} (h:FilmIn w lo hi Lv z frs):FilmAt w lo Lv z frs:=h.elim fun fbs h=>⟨fbs,h.1⟩
theorem FilmAt.toIn {w:World} {lo:Nat} {Lv:Value} {z:Nat} {frs:List (List Px)} (h:FilmAt w lo Lv z frs):FilmIn w lo w.heap.size Lv z frs:=by
 obtain ⟨fbs,h1,h2,h3,h4⟩:=h
 refine ⟨fbs,⟨h1,h2,h3,h4⟩,fun k hk=>?_,fun k e=>(World.ownsRow.lt h1 k e).2⟩
 obtain ⟨i,hi,rfl⟩:=List.getElem_of_mem hk
 have:=(h3 i (by omega)).lt.2
 rw [List.getD_eq_getElem?_getD,List.getElem?_eq_getElem hi] at this
 exact this
theorem FilmIn.frm {S:Nat->Prop} {w w':World} {lo hi:Nat} {Lv:Value} {z:Nat} {frs:List (List Px)} (h:FilmIn w lo hi Lv z frs) (f:Frm S w w') (hS:∀ k,S k->k<lo \/ hi<=k):FilmIn w' lo hi Lv z frs:=by
 obtain ⟨fbs,⟨h1,h2,h3,h4⟩,h5,h6⟩:=h
 refine ⟨fbs,⟨f.owns h1 (fun k e hs=>?_),h2,fun i hi=>f.pixs (h3 i hi) (fun hs=>?_),h4⟩,h5,h6⟩
 ·have:=(World.ownsRow.lt h1 k e).1
  have:=h6 k e
  have:=hS k hs
  omega
 ·have:=(h3 i hi).lt.1
  have:=h5 (fbs.getD i 0) (by rw [List.getD_eq_getElem?_getD,List.getElem?_eq_getElem (by omega)];exact List.getElem_mem _)
  have:=hS _ hs
  omega
theorem FilmIn.below {w w':World} {lo hi:Nat} {Lv:Value} {z:Nat} {frs:List (List Px)} (h:FilmIn w lo hi Lv z frs) (b:Below w.heap.size w w'):FilmIn w' lo hi Lv z frs:=h.frm (Frm.of_below (S:=fun _=>False) b) (fun _ e=>e.elim)
theorem FilmIn.slice {w:World} {lo hi:Nat} {Lv:Value} {z:Nat} {frs:List (List Px)} (h:FilmIn w lo hi Lv z frs):∃ a n c,Lv=.slice a n c:=by
 obtain ⟨a,c,e,_⟩:=h.at.row
 exact ⟨a,_,c,e⟩
def GoodAns (x0 x1 x2:Int) (z:Nat) (frs:List (List Px)) (wx:World) (r:Ending) (w':World):Prop :=
 ∃ a n c lo,wx.heap.size<=lo/\r=.returned (.tuple #[.agg #[.int .i64 z,.slice a n c],.agg #[.int .i64 x0,.int .i64 x1,.int .i64 x2],.int .i64 0])/\FilmIn w' lo w'.heap.size (.slice a n c) z frs/\Below wx.heap.size wx w'
theorem DecAns.good {wx w':World} {d:Option (Nat × List (List Px)) × Px × Int} {r:Ending} {z:Nat} {frs:List (List Px)} (h:DecAns wx d r w') (hd:d.1=some (z,frs)):GoodAns 0 0 0 z frs wx r w':=by
 obtain ⟨h1,h2⟩:=h
 rw [hd] at h1
 obtain ⟨Lv,B,hB,rfl,hf⟩:=h1
 obtain ⟨a,n,c,rfl⟩:=hf.toIn.slice
 exact ⟨a,n,c,B,hB,rfl,hf.toIn,h2⟩
theorem FPB.frm {S:Nat->Prop} {W W':World} {H:Nat} {z v x0 x1 x2:Value} (h:FPB W H z v x0 x1 x2) (f:Frm S W W') (h0:¬ S H) (h1:¬ S (H+1)):FPB W' H z v x0 x1 x2:=⟨(f.block _ (heap_lt0 h.b0) h0).trans h.b0,(f.block _ (heap_lt0 h.b1) h1).trans h.b1⟩
theorem HB5 {w W3 w4 w5:World} (hb3:Below w.heap.size w W3) (b4:Below W3.heap.size W3 w4) (b5:Below w4.heap.size w4 w5):Below w.heap.size w w5:=(hb3.trans (b4.mono hb3.size)).trans (b5.mono (Nat.le_trans hb3.size b4.size))
theorem HB6 {S:Nat->Prop} {B:Nat} {w W3 w4 w5 w6:World} (hB:B<=w.heap.size) (hb3:Below w.heap.size w W3) (b4:Below W3.heap.size W3 w4) (b5:Below w4.heap.size w4 w5) (f:Frm S w5 w6):B<=w6.heap.size:=Nat.le_trans hB (Nat.le_trans (HB5 hb3 b4 b5).size f.size)
end
section
open Go.RowKit
structure PR (w:World) (b:Nat) (s:ByteArray) (r:RS):Prop where
 c0:w.cell? ⟨b,0,none⟩=some (.string (s.extract r.pos s.size))
 c1:w.cell? ⟨b,1,none⟩=some (.int .u32 r.rng)
 c2:w.cell? ⟨b,2,none⟩=some (.int .u32 r.code)
 fz:∀ o,o<3->w.frozen? ⟨b,o,none⟩=false
 ch:ChAt w b 3 r.ch
theorem PR.put0 {w:World} {b:Nat} {s:ByteArray} {r:RS} (h:PR w b s r) (n:Nat):PR (w.setCell ⟨b,0,none⟩ (.string (s.extract n s.size))) b s { r with pos:=n } :=
 ⟨World.cell?_setCell_same _ _ _ h.c0,cell_off h.c1 (.inr (by decide)),cell_off h.c2 (.inr (by decide)),fun o ho=>by rw [World.frozen?_setCell];exact h.fz o ho,h.ch.off (.inr (.inl (by decide)))⟩
theorem PR.put1 {w:World} {b:Nat} {s:ByteArray} {r:RS} (h:PR w b s r) (n:Int):PR (w.setCell ⟨b,1,none⟩ (.int .u32 n)) b s { r with rng:=n } :=
 ⟨cell_off h.c0 (.inr (by decide)),World.cell?_setCell_same _ _ _ h.c1,cell_off h.c2 (.inr (by decide)),fun o ho=>by rw [World.frozen?_setCell];exact h.fz o ho,h.ch.off (.inr (.inl (by decide)))⟩
theorem PR.put2 {w:World} {b:Nat} {s:ByteArray} {r:RS} (h:PR w b s r) (n:Int):PR (w.setCell ⟨b,2,none⟩ (.int .u32 n)) b s { r with code:=n } :=
 ⟨cell_off h.c0 (.inr (by decide)),cell_off h.c1 (.inr (by decide)),World.cell?_setCell_same _ _ _ h.c2,fun o ho=>by rw [World.frozen?_setCell];exact h.fz o ho,h.ch.off (.inr (.inl (by decide)))⟩
theorem PR.putC {w:World} {b:Nat} {s:ByteArray} {r:RS} (h:PR w b s r) (k:Nat) (v:Int):PR (w.setCell ⟨b,3+k,none⟩ (.int .u32 v)) b s { r with ch:=r.ch.set k v } :=
 ⟨cell_off h.c0 (.inr (by omega)),cell_off h.c1 (.inr (by omega)),cell_off h.c2 (.inr (by omega)),fun o ho=>by rw [World.frozen?_setCell];exact h.fz o ho,h.ch.set k v⟩
theorem PR.on {w w':World} {b:Nat} {s:ByteArray} {r:RS} (h:PR w b s r) (hb:w'.heap[b]?=w.heap[b]?):PR w' b s r:=by
 have hc:∀ o,w'.cell? ⟨b,o,none⟩=w.cell? ⟨b,o,none⟩:=fun o=>World.cell?_of_block (a:=⟨b,o,none⟩) hb
 exact ⟨(hc 0).trans h.c0,(hc 1).trans h.c1,(hc 2).trans h.c2,fun o ho=>(World.frozen?_of_block (a:=⟨b,o,none⟩) hb).trans (h.fz o ho),h.ch.on hb⟩
theorem PR.drewN {w:World} {b:Nat} {s:ByteArray} {r:RS} (h:PR w b s r) (n:Nat):PR (w.drewN n) b s r:=h.on rfl
theorem PR.drew {w:World} {b:Nat} {s:ByteArray} {r:RS} (h:PR w b s r):PR w.drew b s r:=h.on rfl
theorem rest_size (s:ByteArray) (i:Nat):(s.extract i s.size).size=s.size-i:=by simp
theorem rest_next (s:ByteArray) (i:Nat):(s.extract i s.size).extract 1 (s.extract i s.size).size=s.extract (i+1) s.size:=by
 rw [rest_size,ByteArray.extract_extract]
 congr 1;omega
theorem rest_end (s:ByteArray) (i:Nat) (h:s.size<=i):s.extract i s.size=ByteArray.mk #[]:=by
 apply ByteArray.ext
 simp
 omega
theorem isEmpty_pos (t:ByteArray) (h:0<t.size):t.toList.isEmpty=false:=by
 rw [ByteArray.toList_eq]
 cases hl:t.data.toList with
 | nil =>
  have:t.data.size=0:=by rw [<- Array.length_toList,hl];rfl
  have h':0<t.data.size:=h
  omega
 | cons=>rfl
theorem head_eq (t s:ByteArray) (i:Nat) (hi:i<s.size) (h0:0<t.size) (e:t=s.extract i s.size):t[0]=s[i]:=by
 subst e
 simp [ByteArray.getElem_extract]
theorem or_shift (C:Int) (x:UInt8) (c0:0<=C) (c1:C<16777216):bits BinOp.or IntKind.u32 (C*256) ((x.toNat:Int) % 4294967296)=256*C+x.toNat:=by
 have hx:=x.toNat_lt
 obtain ⟨c,rfl⟩:=Int.eq_ofNat_of_zero_le c0
 rw [show ((x.toNat:Int) % 4294967296)=((x.toNat:Nat):Int) by omega,show ((c:Int)*256)=((c*256:Nat):Int) by simp]
 rw [u32_or_nat (c*256) x.toNat (by omega) (by omega)]
 have h:=Nat.two_pow_add_eq_or_of_lt (i:=8) (b:=x.toNat) (by omega) c
 rw [show c*256=2 ^ 8*c by omega,<- h]
 omega
def oneS (b:Nat):Nat->Prop:=fun k=>k=b
set_option maxRecDepth 20000 in
theorem shift_end (w:World) (b:Nat) (s:ByteArray) (r:RS) (a0:Addr) (h:PR w b s r) (hp:s.size<=r.pos) (he:w.cell? ⟨1,0,none⟩=some (.iface 278 (.pointer (some a0)))) :
  Calls Tryz.prog 85 #[.pointer (some ⟨b,0,none⟩)] w fun x w'=>x=.returned (.iface 278 (.pointer (some a0)))/\w'=w:=by
 have i0:=h.c0
 rw [rest_end s r.pos hp] at i0
 have hem:(ByteArray.mk #[]).toList.isEmpty=true:=by rw [ByteArray.toList_eq];rfl
 clear h
 go_enter Tryz.func85,Tryz.ntmps85
 go_wp2
 go_ret
 exact ⟨rfl,rfl⟩
set_option maxRecDepth 20000 in
theorem shift_next (w:World) (b:Nat) (s:ByteArray) (r:RS) (h:PR w b s r) (hp:r.pos<s.size) (hs:s.size<=maxLen) (c0:0<=r.code) (c1:r.code<16777216) :
  Calls Tryz.prog 85 #[.pointer (some ⟨b,0,none⟩)] w fun x w'=>x=.returned .nilIface/\PR w' b s { r with pos:=r.pos+1,code:=256*r.code+Rdr.octB s r }/\Frm (oneS b) w w':=by
 have i0:=h.c0
 have i2:=h.c2
 have f0:=h.fz 0 (by decide)
 have f2:=h.fz 2 (by decide)
 obtain ⟨t,ht⟩:∃ t,t=s.extract r.pos s.size:=⟨_,rfl⟩
 have hts:t.size=s.size-r.pos:=by rw [ht,rest_size]
 have ht0:0<t.size:=by omega
 have hem:=isEmpty_pos t ht0
 have htl:t.size<=maxLen:=by omega
 unfold maxLen at htl
 rw [<- ht] at i0
 obtain ⟨C,hC⟩:∃ C,C=r.code:=⟨_,rfl⟩
 rw [<- hC] at i2 c0 c1
 have HT:Hid (t=s.extract r.pos s.size):=ht
 have HH:Hid (PR w b s r):=h
 have HC:Hid (C=r.code):=hC
 clear h ht hC hts
 go_enter Tryz.func85,Tryz.ntmps85
 go_wp2
 go_region
 have hor:=or_shift C (t[0]) c0 c1
 rw [hor]
 go_wp2
 go_ret
 have e1:t.extract 1 t.size=s.extract (r.pos+1) s.size:=by rw [HT.out];exact rest_next s r.pos
 have e2:(256:Int)*C+((t[0]).toNat:Int)=256*r.code+Rdr.octB s r:=by
  rw [HC.out]
  unfold Rdr.octB
  rw [if_pos hp,byteAt_get s _ hp]
  rw [head_eq t s r.pos hp ht0 HT.out]
 rw [e1,e2]
 exact ⟨rfl,((HH.out.put2 _).put0 (r.pos+1)).drew,(((Frm.refl (oneS b) w).setCell (.inl (show oneS b b from rfl)) _).setCell (.inl (show oneS b b from rfl)) _).drew⟩
def sntG:List (Nat × Nat):=[(5,1),(7,7),(6,6),(8,3),(4,0),(2,5),(9,4),(10,2)]
structure ErrsA (w:World) (A:Nat->Addr):Prop where
 v:∀ x ∈ sntG,w.cell? ⟨x.2,0,none⟩=some (.iface 278 (.pointer (some (A x.1))))
 h:∀ x ∈ sntG,∃ c t,w.heap[(A x.1).block]?=some (.cells c t (0,0))
 n:∀ x ∈ sntG,∀ y ∈ sntG,x.1 ≠ y.1->A x.1 ≠ A y.1
theorem heap_lt {w:World} {k:Nat} {o:Obj} (h:w.heap[k]?=some o):k<w.heap.size:=by
 rcases Nat.lt_or_ge k w.heap.size with h'|h'
 ·exact h'
 ·rw [Array.getElem?_eq_none h'] at h;cases h
theorem ErrsA.below {w w':World} {A:Nat->Addr} (h:ErrsA w A) (f:Below w.heap.size w w'):ErrsA w' A :=
 ⟨fun x hx=>(f.cell (World.block_lt_of_cell? w _ (h.v x hx))).trans (h.v x hx),fun x hx=>by
  obtain ⟨c,t,e⟩:=h.h x hx
  exact ⟨c,t,(f.block _ (heap_lt e)).trans e⟩,h.n⟩
structure Errs (w:World) (a0 a1 a2:Addr):Prop where
 v0:w.cell? ⟨1,0,none⟩=some (.iface 278 (.pointer (some a0)))
 v1:w.cell? ⟨6,0,none⟩=some (.iface 278 (.pointer (some a1)))
 v2:w.cell? ⟨7,0,none⟩=some (.iface 278 (.pointer (some a2)))
 oth:∃ A,ErrsA w A/\A 5=a0/\A 6=a1/\A 7=a2
theorem ErrsA.errs {w:World} {A:Nat->Addr} (h:ErrsA w A):Errs w (A 5) (A 6) (A 7) :=
 ⟨h.v (5,1) (by decide),h.v (6,6) (by decide),h.v (7,7) (by decide),A,h,rfl,rfl,rfl⟩
theorem Errs.below {w w':World} {a0 a1 a2:Addr} (h:Errs w a0 a1 a2) (f:Below w.heap.size w w'):Errs w' a0 a1 a2:=by
 obtain ⟨A,hA,rfl,rfl,rfl⟩:=h.oth
 exact (hA.below f).errs
def errV (a0 a1 a2:Addr) (e:Int):Value:=if e=0 then .nilIface else .iface 278 (.pointer (some (if e=5 then a0 else if e=6 then a1 else a2)))
theorem four_stay (s:ByteArray) (r:RS) (n:Nat) (h:(Rdr.four s r n).err=5):∀ m,(Rdr.four s r (n+m)).err=5
 | 0=>h
 | m+1=>by
  show (Rdr.four s r ((n+m)+1)).err=5
  rw [Rdr.four_succ]
  show (Rdr.octS s (Rdr.four s r (n+m))).err=5
  have:=four_stay s r n h m
  unfold Rdr.octS
  split
  ·exact this
  ·show (if (Rdr.four s r (n+m)).err=0 then 5 else (Rdr.four s r (n+m)).err)=5
   rw [this];rfl
set_option maxRecDepth 20000 in
theorem pNewReader (w:World) (s:ByteArray) (hs:s.size<=maxLen) (a0 a1 a2:Addr) (E:Errs w a0 a1 a2) :
  Calls Tryz.prog 45 #[.string s] w fun x w'=>∃ p,x=.returned (.tuple #[p,errV a0 a1 a2 (Rdr.start s ch0).err])/\((Rdr.start s ch0).err=0->∃ b,p=.pointer (some ⟨b,0,none⟩)/\w.heap.size<=b/\b<w'.heap.size/\PR w' b s (Rdr.start s ch0))/\Below w.heap.size w w':=by
 have HE:Hid (Errs w a0 a1 a2):=E
 clear E
 obtain ⟨hzero,hsize⟩:=zero_of_info rdInfo
 obtain ⟨Z,hZ⟩:∃ Z,Z=#[Value.string (ByteArray.mk #[]),.int .u32 0,.int .u32 0]++Array.replicate 400 (.int .u32 0):=⟨_,rfl⟩
 rw [<- hZ] at hzero
 have hZs:Z.size=403:=by rw [hZ,Array.size_append,Array.size_replicate];rfl
 have hZ2:Z[2]?=some (.int .u32 0):=by rw [hZ,Array.getElem?_append_left (by simp)];rfl
 have hZn:Z ≠ #[]:=fun e=>by rw [e] at hZs;exact absurd hZs (by decide)
 have hcs:chEven.size=400:=evens_size 400
 clear hZ hsize
 go_enter Tryz.func45,Tryz.ntmps45
 go_wp2_with (go_at_call 84;refine (newChances _).mono ?_;rintro e w1 ⟨rfl,hb⟩)
 obtain ⟨C,hC⟩:∃ C,C=Array.foldl (fun cs x=>cs.setIfInBounds (3+x.snd) x.fst) ((Z.setIfInBounds 0 (Value.string s)).setIfInBounds 1 (Value.int IntKind.u32 4294967295)) chEven.zipIdx 0 400:=⟨_,rfl⟩
 rw [<- hC]
 have hC':C=laidAt ((Z.setIfInBounds 0 (Value.string s)).setIfInBounds 1 (Value.int IntKind.u32 4294967295)) 3 chEven:=by
  rw [hC];unfold laidAt;rw [hcs]
 have HR:PR (w1.alloc (.cells C 162)) w1.heap.size s (Rdr.r0 ch0):=by
  rw [hC']
  refine ⟨?_,?_,?_,fun o _=>by simp,chAt_laid w1 _ _ (by simp [hZs])⟩
  ·rw [cell_laid w1 _ _ 0 (by decide)]
   rw [Array.getElem?_setIfInBounds_ne (by decide),Array.getElem?_setIfInBounds_self_of_lt (by omega)]
   congr 2
   apply ByteArray.ext
   simp [Rdr.r0]
  ·rw [cell_laid w1 _ _ 1 (by decide),Array.getElem?_setIfInBounds_self_of_lt (by simp;omega)];rfl
  ·rw [cell_laid w1 _ _ 2 (by decide),Array.getElem?_setIfInBounds_ne (by decide),Array.getElem?_setIfInBounds_ne (by decide),hZ2];rfl
 have HB:Below w.heap.size w (w1.alloc (.cells C 162)):=hb.alloc hb.size _
 have hlo:=hb.size
 have hup:w1.heap.size<(w1.alloc (.cells C 162)).heap.size:=by simp
 obtain ⟨b,hbb⟩:∃ b,b=w1.heap.size:=⟨_,rfl⟩
 rw [<- hbb] at HR hlo hup ⊢
 clear hbb hb hC hC' hZ2 hZn hzero hZs hcs
 go_loopw [10] (fun i wr=>∃ k:Nat,k<=4/\i=.int .i64 k/\PR wr b s (Rdr.four s (Rdr.r0 ch0) k)/\(Rdr.four s (Rdr.r0 ch0) k).err=0/\Below w.heap.size w wr/\b<wr.heap.size) (fun i _=>4-(intOf i).toNat)
 case atStart=>exact ⟨0,by omega,rfl,HR,rfl,HB,hup⟩
 case round =>
  clear HR HB
  obtain ⟨k,hk,rfl,hr,he0,hbr,hbu⟩:=hrel
  have HE0:Hid ((Rdr.four s (Rdr.r0 ch0) k).err=0):=he0
  clear he0
  obtain ⟨h1,h2,h3,h4,h5,h6⟩:=Rdr.four_facts s ch0 k
  by_cases hlt:k<4
  ·have hlt':(k:Int)<4:=by omega
   have hcode:(Rdr.four s (Rdr.r0 ch0) k).code<16777216:=by
    rcases (by omega:k=0 \/ k=1 \/ k=2 \/ k=3) with rfl|rfl|rfl|rfl <;> omega
   have hsucc:Hid (Rdr.four s (Rdr.r0 ch0) (k+1)={ Rdr.octS s (Rdr.four s (Rdr.r0 ch0) k) with code:=256*(Rdr.four s (Rdr.r0 ch0) k).code+Rdr.octB s (Rdr.four s (Rdr.r0 ch0) k) }):=Rdr.four_succ _ _ _
   have hst:Hid (∀ e,(Rdr.four s (Rdr.r0 ch0) (k+1)).err=5->(Rdr.start s ch0).err=e->e=5):=by
    intro e h5 hs'
    have h4':=four_stay s (Rdr.r0 ch0) (k+1) h5 (4-(k+1))
    rw [show k+1+(4-(k+1))=4 by omega] at h4'
    rw [Rdr.start_eq,if_neg (fun h=>by rw [h4'] at h;exact absurd h.1 (by decide))] at hs'
    rw [<- hs',h4']
   obtain ⟨q,hq⟩:∃ q,q=Rdr.four s (Rdr.r0 ch0) k:=⟨_,rfl⟩
   rw [<- hq] at hr h1 h5 hcode hsucc HE0
   clear hq h2 h3 h4 h6
   by_cases hp:q.pos<s.size
   ·go_wp2_with (go_at_call 85;refine (shift_next _ b s q hr hp hs h5 hcode).mono ?_;rintro x w2 ⟨rfl,g1,g2⟩)
    go_roundw
    case rel =>
     have e1:Rdr.four s (Rdr.r0 ch0) (k+1)={ q with pos:=q.pos+1,code:=256*q.code+Rdr.octB s q }:=by
      rw [hsucc.out];unfold Rdr.octS;rw [if_pos hp]
     exact ⟨k+1,by omega,by go_num,by rw [e1];exact g1,by rw [e1];exact HE0.out,hbr.trans (g2.below hbr.size (fun j hj=>by rw [show j=b from hj];exact hlo)),Nat.lt_of_lt_of_le hbu g2.size⟩
    case measure=>simp [intOf];omega
   ·have e5:(Rdr.start s ch0).err=5:=by
     refine hst.out _ ?_ rfl
     rw [hsucc.out]
     show (Rdr.octS s q).err=5
     unfold Rdr.octS
     rw [if_neg hp]
     show (if q.err=0 then 5 else q.err)=5
     rw [if_pos HE0.out]
    have HE5:Hid ((Rdr.start s ch0).err=5):=e5
    clear e5
    have hv0:=(HE.out.below hbr).v0
    go_wp2_with (go_at_call 85;refine (shift_end _ b s q a0 hr (by omega) hv0).mono ?_;rintro x w2 ⟨rfl,rfl⟩)
    go_ret2
    exact ⟨_,by rw [HE5.out];rfl,fun h=>absurd (HE5.out.symm.trans h) (by decide),hbr⟩
  ·obtain rfl:k=4:=by omega
   have i2:=hr.c2
   by_cases hc:4294967295<=(Rdr.four s (Rdr.r0 ch0) 4).code
   ·have e7:(Rdr.start s ch0).err=7:=by
     rw [Rdr.start_eq,if_pos ⟨HE0.out,hc⟩]
     unfold Rdr.fail
     show (if (Rdr.four s (Rdr.r0 ch0) 4).err=0 then 7 else (Rdr.four s (Rdr.r0 ch0) 4).err)=7
     rw [if_pos HE0.out]
    have HE7:Hid ((Rdr.start s ch0).err=7):=e7
    clear e7
    have hv2:=(HE.out.below hbr).v2
    go_wp2
    go_quiet (fail)
    go_wp2
    go_ret2
    exact ⟨_,by rw [HE7.out];rfl,fun h=>absurd (HE7.out.symm.trans h) (by decide),below_drewN hbr _⟩
   ·have es:Rdr.start s ch0=Rdr.four s (Rdr.r0 ch0) 4:=by rw [Rdr.start_eq,if_neg (fun e=>hc e.2)]
    have HES:Hid (Rdr.start s ch0=Rdr.four s (Rdr.r0 ch0) 4):=es
    clear es
    go_wp2
    go_ret2
    exact ⟨_,by rw [HES.out,HE0.out];rfl,fun _=>⟨b,rfl,hlo,hbu,by rw [HES.out];exact hr⟩,hbr⟩
end
section
open Go.RowKit
def spanOf (w:World) (b:Nat):Nat:=(intOf ((w.cell? ⟨b,1,none⟩).getD undef)).toNat
theorem spanOf_eq {w:World} {b:Nat} {s:ByteArray} {r:RS} (h:PR w b s r):spanOf w b=r.rng.toNat:=by
 unfold spanOf;rw [h.c1];rfl
theorem octS_nil {s:ByteArray} {r:RS} (hp:r.pos<s.size):Rdr.octS s r={ r with pos:=r.pos+1 }:=by unfold Rdr.octS;rw [if_pos hp]
theorem pull_err {s:ByteArray} {r:RS} (he:r.err=0) (hp:¬ r.pos<s.size):(Rdr.pull s r).err=5:=by
 unfold Rdr.pull
 show (Rdr.octS s r).err=5
 unfold Rdr.octS
 rw [if_neg hp]
 show (if r.err=0 then 5 else r.err)=5
 rw [if_pos he]
theorem pull_ok {s:ByteArray} {r:RS} (he:r.err=0) (hp:r.pos<s.size):(Rdr.pull s r).err=0:=by
 unfold Rdr.pull
 show (Rdr.octS s r).err=0
 rw [octS_nil hp];exact he
def bitEnd (a0 a1 a2:Addr) (w0:World) (b:Nat) (s:ByteArray) (v:Int) (q:RS) (x:Ending) (w':World):Prop :=
 x=.returned (.tuple #[.int .i64 (if (Rdr.norm s q).err=0 then v else 0),errV a0 a1 a2 (Rdr.norm s q).err])/\((Rdr.norm s q).err=0->PR w' b s (Rdr.norm s q))/\Frm (oneS b) w0 w'
set_option maxRecDepth 20000 in
theorem pBit_zero (w:World) (b:Nat) (s:ByteArray) (pos:Nat) (R C:Int) (ch:List Int) (k:Nat) (c:Int) (a0 a1 a2:Addr) (h:PR w b s ⟨pos,R,C,ch,0⟩) (hs:s.size<=maxLen) (hp:pos<=s.size) (hE:b ≠ 1) (hv:w.cell? ⟨1,0,none⟩=some (.iface 278 (.pointer (some a0))))
  (hk:k<400) (hc:ch.getD k 0=c) (c0:31<=c) (c1:c<=4065) (R0:16777216<=R) (R1:R<=4294967295) (C0:0<=C) (C1:C<R / 4096*c) (m0:126976<=R / 4096*c) (m1:R / 4096*c+126976<=R) :
  Calls Tryz.prog 129 #[.pointer (some ⟨b,0,none⟩),.int .i64 k] w fun x w'=>bitEnd a0 a1 a2 w b s 0 ⟨pos,R / 4096*c,C,ch.set k (c+(4096-c) / 32),0⟩ x w':=by
 obtain ⟨q,hq⟩:∃ q:RS,q=⟨pos,R / 4096*c,C,ch.set k (c+(4096-c) / 32),0⟩:=⟨_,rfl⟩
 have HQ:∀ n:Nat,Hid (PR ((((w.drewN n).setCell ⟨b,1,none⟩ (.int .u32 (R / 4096*c))).setCell ⟨b,3+k,none⟩ (.int .u32 (c+(4096-c) / 32))).drew) b s q/\Frm (oneS b) w ((((w.drewN n).setCell ⟨b,1,none⟩ (.int .u32 (R / 4096*c))).setCell ⟨b,3+k,none⟩ (.int .u32 (c+(4096-c) / 32))).drew)):=fun n=>by
  rw [hq];exact ⟨(((h.drewN n).put1 (R / 4096*c)).putC k _).drew,((((Frm.refl (oneS b) w).drewN n).setCell (.inl (show oneS b b from rfl)) (.int .u32 (R / 4096*c))).setCell (.inl (show oneS b b from rfl)) _).drew⟩
 have HE:Hid (q.err=0):=by rw [hq];rfl
 have q0:126976<=q.rng:=by rw [hq];exact m0
 have q1:q.rng<=4294967295:=by rw [hq];show R / 4096*c<=4294967295;omega
 have q2:0<=q.code:=by rw [hq];exact C0
 have q3:q.code<q.rng:=by rw [hq];exact C1
 have q4:q.pos<=s.size:=by rw [hq];exact hp
 have hck:=h.ch.cell k hk
 rw [show (RS.ch ⟨pos,R,C,ch,0⟩)=ch from rfl,hc] at hck
 have hfk:=h.ch.fz k hk
 have hckn:∀ n:Nat,(w.drewN n).cell? ⟨b,3+k,none⟩=some (.int .u32 c):=fun n=>hck
 have hfkn:∀ n:Nat,(w.drewN n).frozen? ⟨b,3+k,none⟩=false:=fun n=>hfk
 have i1:=h.c1
 have i2:=h.c2
 have f1:=h.fz 1 (by decide)
 have f2:=h.fz 2 (by decide)
 have HH:Hid (q=⟨pos,R / 4096*c,C,ch.set k (c+(4096-c) / 32),0⟩):=hq
 have hk':(k:Int)<400:=by omega
 clear hq h
 go_enter Tryz.func129,Tryz.ntmps129
 go_wp2
 go_quiet ((go_at_call 143;exact Calls.quiet_of_same (chCut _ b 3 k R c hk (by simpa using hck) (by omega) (by omega) (by omega) (by omega))))
 go_wp2_with (go_at_call 144;refine (chLearn0 _ b 3 k c hk (by first|exact cell_off (hckn _) (.inr (by omega))|exact cell_off (cell_off (hckn _) (.inr (by omega))) (.inr (by omega))) (by simp only [World.frozen?_setCell];exact hfkn _) c0 c1).mono ?_;rintro e w1 ⟨rfl,rfl⟩)
 have HQn:=HQ nq
 clear HQ hck hfk hckn hfkn i1 i2 f1 f2 m0 m1
 go_loopw [8] (fun _ wr=>(PR wr b s q \/ (q.rng<16777216/\q.pos<s.size/\PR wr b s (Rdr.pull s q)))/\Frm (oneS b) w wr) (fun _ wr=>16777216-spanOf wr b)
 case atStart=>exact ⟨.inl HQn.out.1,HQn.out.2⟩
 case round =>
  obtain ⟨hor,hfr⟩:=hrel
  clear HQn
  rcases hor with hq|⟨hlow,hpp,hq⟩
  ·have i1:=hq.c1
   by_cases hlow:q.rng<16777216
   ·have HN:Hid (Rdr.norm s q=Rdr.pull s q):=by unfold Hid Rdr.norm;rw [if_pos hlow]
    by_cases hpp:q.pos<s.size
    ·go_wp2_with (go_at_call 85;refine (shift_next _ b s q hq hpp hs q2 (by omega)).mono ?_;rintro x w1 ⟨rfl,h1,f1⟩;have j1:=h1.c1;have e1:=h1.fz 1 (by decide))
     have HP:PR (w1.setCell ⟨b,1,none⟩ (.int .u32 (256*q.rng))) b s (Rdr.pull s q):=by
      have:=h1.put1 (256*q.rng)
      unfold Rdr.pull
      rw [octS_nil hpp]
      exact this
     have m1:=spanOf_eq hq
     have m2:=spanOf_eq HP
     rw [Int.mul_comm q.rng 256]
     go_roundw
     case rel=>exact ⟨.inr ⟨hlow,hpp,HP⟩,(hfr.trans f1).setCell (.inl (show oneS b b from rfl)) _⟩
     case measure =>
      rw [m1,m2]
      show 16777216-(256*q.rng).toNat<16777216-q.rng.toNat
      omega
    ·have hvv:=hfr.cell hv (fun h=>hE h.symm)
     have hpe:Hid ((Rdr.pull s q).err=5):=pull_err HE.out hpp
     go_wp2_with (go_at_call 85;refine (shift_end _ b s q a0 hq (by omega) hvv).mono ?_;rintro x w1 ⟨rfl,rfl⟩)
     go_ret2
     rw [<- HH.out]
     refine ⟨?_,fun h=>absurd (by rw [HN.out,hpe.out] at h;exact h) (by decide),hfr⟩
     rw [HN.out,hpe.out];rfl
   ·have HN:Hid (Rdr.norm s q=q):=by unfold Hid Rdr.norm;rw [if_neg hlow]
    go_wp2
    go_ret2
    rw [<- HH.out]
    refine ⟨?_,fun _=>by rw [HN.out];exact hq,hfr⟩
    rw [HN.out,HE.out];rfl
  ·have HN:Hid (Rdr.norm s q=Rdr.pull s q):=by unfold Hid Rdr.norm;rw [if_pos hlow]
   have hpe:Hid ((Rdr.pull s q).err=0):=pull_ok HE.out hpp
   have i1:=hq.c1
   have hr:¬ (Rdr.pull s q).rng<16777216:=by show ¬ 256*q.rng<16777216;omega
   go_wp2
   go_ret2
   rw [<- HH.out]
   refine ⟨?_,fun _=>by rw [HN.out];exact hq,hfr⟩
   rw [HN.out,hpe.out];rfl
set_option maxRecDepth 20000 in
theorem pBit_one (w:World) (b:Nat) (s:ByteArray) (pos:Nat) (R C:Int) (ch:List Int) (k:Nat) (c:Int) (a0 a1 a2:Addr) (h:PR w b s ⟨pos,R,C,ch,0⟩) (hs:s.size<=maxLen) (hp:pos<=s.size) (hE:b ≠ 1) (hv:w.cell? ⟨1,0,none⟩=some (.iface 278 (.pointer (some a0))))
  (hk:k<400) (hc:ch.getD k 0=c) (c0:31<=c) (c1:c<=4065) (R0:16777216<=R) (R1:R<=4294967295) (C1:R / 4096*c<=C) (C2:C<R) (m0:126976<=R / 4096*c) (m1:R / 4096*c+126976<=R) :
  Calls Tryz.prog 129 #[.pointer (some ⟨b,0,none⟩),.int .i64 k] w fun x w'=>bitEnd a0 a1 a2 w b s 1 ⟨pos,R-R / 4096*c,C-R / 4096*c,ch.set k (c-c / 32),0⟩ x w':=by
 obtain ⟨q,hq⟩:∃ q:RS,q=⟨pos,R-R / 4096*c,C-R / 4096*c,ch.set k (c-c / 32),0⟩:=⟨_,rfl⟩
 have HQ:∀ n:Nat,Hid (PR (((((w.drewN n).setCell ⟨b,2,none⟩ (.int .u32 (C-R / 4096*c))).setCell ⟨b,1,none⟩ (.int .u32 (R-R / 4096*c))).setCell ⟨b,3+k,none⟩ (.int .u32 (c-c / 32))).drew) b s q/\Frm (oneS b) w (((((w.drewN n).setCell ⟨b,2,none⟩ (.int .u32 (C-R / 4096*c))).setCell ⟨b,1,none⟩ (.int .u32 (R-R / 4096*c))).setCell ⟨b,3+k,none⟩ (.int .u32 (c-c / 32))).drew)):=fun n=>by
  rw [hq];exact ⟨((((h.drewN n).put2 (C-R / 4096*c)).put1 (R-R / 4096*c)).putC k _).drew,(((((Frm.refl (oneS b) w).drewN n).setCell (.inl (show oneS b b from rfl)) (.int .u32 (C-R / 4096*c))).setCell (.inl (show oneS b b from rfl)) (.int .u32 (R-R / 4096*c))).setCell (.inl (show oneS b b from rfl)) _).drew⟩
 have HE:Hid (q.err=0):=by rw [hq];rfl
 have q0:126976<=q.rng:=by rw [hq];show 126976<=R-R / 4096*c;omega
 have q1:q.rng<=4294967295:=by rw [hq];show R-R / 4096*c<=4294967295;omega
 have q2:0<=q.code:=by rw [hq];show 0<=C-R / 4096*c;omega
 have q3:q.code<q.rng:=by rw [hq];show C-R / 4096*c<R-R / 4096*c;omega
 have q4:q.pos<=s.size:=by rw [hq];exact hp
 have hck:=h.ch.cell k hk
 rw [show (RS.ch ⟨pos,R,C,ch,0⟩)=ch from rfl,hc] at hck
 have hfk:=h.ch.fz k hk
 have hckn:∀ n:Nat,(w.drewN n).cell? ⟨b,3+k,none⟩=some (.int .u32 c):=fun n=>hck
 have hfkn:∀ n:Nat,(w.drewN n).frozen? ⟨b,3+k,none⟩=false:=fun n=>hfk
 have i1:=h.c1
 have i2:=h.c2
 have f1:=h.fz 1 (by decide)
 have f2:=h.fz 2 (by decide)
 have HH:Hid (q=⟨pos,R-R / 4096*c,C-R / 4096*c,ch.set k (c-c / 32),0⟩):=hq
 have hk':(k:Int)<400:=by omega
 clear hq h
 go_enter Tryz.func129,Tryz.ntmps129
 go_wp2
 go_quiet ((go_at_call 143;exact Calls.quiet_of_same (chCut _ b 3 k R c hk (by simpa using hck) (by omega) (by omega) (by omega) (by omega))))
 go_wp2_with (go_at_call 144;refine (chLearn1 _ b 3 k c hk (by first|exact cell_off (hckn _) (.inr (by omega))|exact cell_off (cell_off (hckn _) (.inr (by omega))) (.inr (by omega))) (by simp only [World.frozen?_setCell];exact hfkn _) c0 c1).mono ?_;rintro e w1 ⟨rfl,rfl⟩)
 have HQn:=HQ nq
 clear HQ hck hfk hckn hfkn i1 i2 f1 f2 m0 m1
 go_loopw [8] (fun _ wr=>(PR wr b s q \/ (q.rng<16777216/\q.pos<s.size/\PR wr b s (Rdr.pull s q)))/\Frm (oneS b) w wr) (fun _ wr=>16777216-spanOf wr b)
 case atStart=>exact ⟨.inl HQn.out.1,HQn.out.2⟩
 case round =>
  obtain ⟨hor,hfr⟩:=hrel
  clear HQn
  rcases hor with hq|⟨hlow,hpp,hq⟩
  ·have i1:=hq.c1
   by_cases hlow:q.rng<16777216
   ·have HN:Hid (Rdr.norm s q=Rdr.pull s q):=by unfold Hid Rdr.norm;rw [if_pos hlow]
    by_cases hpp:q.pos<s.size
    ·go_wp2_with (go_at_call 85;refine (shift_next _ b s q hq hpp hs q2 (by omega)).mono ?_;rintro x w1 ⟨rfl,h1,f1⟩;have j1:=h1.c1;have e1:=h1.fz 1 (by decide))
     have HP:PR (w1.setCell ⟨b,1,none⟩ (.int .u32 (256*q.rng))) b s (Rdr.pull s q):=by
      have:=h1.put1 (256*q.rng)
      unfold Rdr.pull
      rw [octS_nil hpp]
      exact this
     have m1:=spanOf_eq hq
     have m2:=spanOf_eq HP
     rw [Int.mul_comm q.rng 256]
     go_roundw
     case rel=>exact ⟨.inr ⟨hlow,hpp,HP⟩,(hfr.trans f1).setCell (.inl (show oneS b b from rfl)) _⟩
     case measure =>
      rw [m1,m2]
      show 16777216-(256*q.rng).toNat<16777216-q.rng.toNat
      omega
    ·have hvv:=hfr.cell hv (fun h=>hE h.symm)
     have hpe:Hid ((Rdr.pull s q).err=5):=pull_err HE.out hpp
     go_wp2_with (go_at_call 85;refine (shift_end _ b s q a0 hq (by omega) hvv).mono ?_;rintro x w1 ⟨rfl,rfl⟩)
     go_ret2
     rw [<- HH.out]
     refine ⟨?_,fun h=>absurd (by rw [HN.out,hpe.out] at h;exact h) (by decide),hfr⟩
     rw [HN.out,hpe.out];rfl
   ·have HN:Hid (Rdr.norm s q=q):=by unfold Hid Rdr.norm;rw [if_neg hlow]
    go_wp2
    go_ret2
    rw [<- HH.out]
    refine ⟨?_,fun _=>by rw [HN.out];exact hq,hfr⟩
    rw [HN.out,HE.out];rfl
  ·have HN:Hid (Rdr.norm s q=Rdr.pull s q):=by unfold Hid Rdr.norm;rw [if_pos hlow]
   have hpe:Hid ((Rdr.pull s q).err=0):=pull_ok HE.out hpp
   have i1:=hq.c1
   have hr:¬ (Rdr.pull s q).rng<16777216:=by show ¬ 256*q.rng<16777216;omega
   go_wp2
   go_ret2
   rw [<- HH.out]
   refine ⟨?_,fun _=>by rw [HN.out];exact hq,hfr⟩
   rw [HN.out,hpe.out];rfl
theorem bitS_err {s:ByteArray} {r:RS} {k:Nat} (he:r.err=0):Rdr.bitS s r k=Rdr.norm s (if r.code<Rdr.cut r k then Rdr.zero r k else Rdr.one r k):=by
 unfold Rdr.bitS
 rw [if_pos he]
 split <;> rfl
theorem pBit (w:World) (b:Nat) (s:ByteArray) (r:RS) (k:Nat) (a0 a1 a2:Addr) (h:PR w b s r) (ok:Rdr.Ok s r) (he:r.err=0) (hs:s.size<=maxLen) (hk:k<400) (hE:b ≠ 1) (hv:w.cell? ⟨1,0,none⟩=some (.iface 278 (.pointer (some a0)))) :
  Calls Tryz.prog 129 #[.pointer (some ⟨b,0,none⟩),.int .i64 k] w fun x w'=>x=.returned (.tuple #[.int .i64 (if (Rdr.bitS s r k).err=0 then Rdr.bitV r k else 0),errV a0 a1 a2 (Rdr.bitS s r k).err])/\((Rdr.bitS s r k).err=0->PR w' b s (Rdr.bitS s r k))/\Frm (oneS b) w w':=by
 obtain ⟨pos,R,C,ch,e⟩:=r
 obtain rfl:e=0:=he
 obtain ⟨g0,g1⟩:=ok.rng rfl
 obtain ⟨c0,c1⟩:=ok.code rfl
 have hb:=ok.ch.2 k hk
 have hc:=Rdr.cut_bd (r:=⟨pos,R,C,ch,0⟩) hk ok.ch g0 g1
 rw [bitS_err rfl]
 by_cases hlt:C<R / 4096*ch.getD k 0
 ·have hcut:(RS.code ⟨pos,R,C,ch,0⟩)<Rdr.cut ⟨pos,R,C,ch,0⟩ k:=hlt
  have e1:Rdr.bitV ⟨pos,R,C,ch,0⟩ k=0:=by unfold Rdr.bitV;rw [if_pos rfl,if_pos hcut]
  rw [if_pos hcut,e1]
  exact pBit_zero w b s pos R C ch k _ a0 a1 a2 h hs ok.pos hE hv hk rfl hb.1 hb.2 g0 g1 c0 hlt hc.1 hc.2
 ·have hcut:¬ (RS.code ⟨pos,R,C,ch,0⟩)<Rdr.cut ⟨pos,R,C,ch,0⟩ k:=hlt
  have e1:Rdr.bitV ⟨pos,R,C,ch,0⟩ k=1:=by unfold Rdr.bitV;rw [if_pos rfl,if_neg hcut]
  rw [if_neg hcut,e1]
  exact pBit_one w b s pos R C ch k _ a0 a1 a2 h hs ok.pos hE hv hk rfl hb.1 hb.2 g0 g1 (Int.not_lt.1 hlt) c1 hc.1 hc.2
theorem pEnd (w:World) (b:Nat) (s:ByteArray) (r:RS) (a0 a1 a2:Addr) (h:PR w b s r) (he:r.err=0) (hv:w.cell? ⟨6,0,none⟩=some (.iface 278 (.pointer (some a1)))) :
  Calls Tryz.prog 47 #[.pointer (some ⟨b,0,none⟩)] w fun x w'=>x=.returned (errV a0 a1 a2 (Rdr.finish s r).err)/\w'=w:=by
 have i0:=h.c0
 by_cases hl:r.pos<s.size
 ·have e6:Hid ((Rdr.finish s r).err=6):=by unfold Hid Rdr.finish;rw [if_pos ⟨he,hl⟩]
  obtain ⟨t,ht⟩:∃ t,t=s.extract r.pos s.size:=⟨_,rfl⟩
  have hem:t.toList.isEmpty=false:=isEmpty_pos t (by rw [ht,rest_size];omega)
  rw [<- ht] at i0
  clear ht h he
  go_enter Tryz.func47,Tryz.ntmps47
  go_wp2
  go_ret
  exact ⟨by rw [e6.out];rfl,rfl⟩
 ·have e0:Hid ((Rdr.finish s r).err=0):=by unfold Hid Rdr.finish;rw [if_neg (fun h=>hl h.2)];exact he
  rw [rest_end s r.pos (by omega)] at i0
  have hem:(ByteArray.mk #[]).toList.isEmpty=true:=by rw [ByteArray.toList_eq];rfl
  clear h he
  go_enter Tryz.func47,Tryz.ntmps47
  go_wp2
  go_ret
  exact ⟨by rw [e0.out];rfl,rfl⟩
end
end Go.Proofs.YtekfbphnoibnjaaGreatDoor
