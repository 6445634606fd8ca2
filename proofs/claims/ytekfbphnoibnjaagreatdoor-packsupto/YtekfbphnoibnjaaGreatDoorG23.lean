/-
  LEnd PDr5 PWSoft
-/
import Derived.Test.YtekfbphnoibnjaaGreatDoorG22
set_option maxHeartbeats 4000000
namespace Go.Proofs.YtekfbphnoibnjaaGreatDoor
section
open Go.RowKit
theorem octs_conv {w:World} {B:Nat} {v:Value} {zs:List Int} (h:Octs w B v zs):Sem.run Tryz.prog (convert 101 9 v) w=.ok (.string (strOfNums zs)) w:=by
 unfold Octs at h
 rcases h.2 with ⟨rfl,h0⟩|⟨g,cap,cur,rfl,_⟩
 ·have:zs=[]:=List.eq_nil_of_length_eq_zero h0
  subst this
  exact run_convert_bytes_nil w 101 5 Tryz.underlying101 Tryz.underlying5 0 0 9 Tryz.underlying9
 ·refine run_convert_bytes_arg w 101 5 Tryz.underlying101 Tryz.underlying5 g 0 zs.length cap zs rfl (fun i hi=>?_) 9 Tryz.underlying9
  rw [Nat.zero_add,World.ownsRow.cellAt h i (by omega),octs_get _ _ hi]
theorem conv4d (w:World) (a b c d:Int) :
  Sem.run Tryz.prog (convert 101 9 (.slice (some ⟨w.heap.size,0,none⟩) 4 4)) (w.alloc (.cells #[.int .u8 a,.int .u8 b,.int .u8 c,.int .u8 d] 5)).drew
   = .ok (.string (strOfNums [a,b,c,d])) (w.alloc (.cells #[.int .u8 a,.int .u8 b,.int .u8 c,.int .u8 d] 5)).drew:=by
 refine run_convert_bytes_arg _ 101 5 Tryz.underlying101 Tryz.underlying5 w.heap.size 0 4 4 [a,b,c,d] rfl ?_ 9 Tryz.underlying9
 intro i hi
 show (w.alloc (.cells #[.int .u8 a,.int .u8 b,.int .u8 c,.int .u8 d] 5)).cell? _=_
 rw [cell_of_row _ _ _ _ _ _ (heap_alloc_last w _)]
 match i,hi with
 | 0,_=>rfl
 | 1,_=>rfl
 | 2,_=>rfl
 | 3,_=>rfl
def endStr (t:WS):ByteArray:=strOfNums (Pack.digs (t.m+4) t.n)
theorem strOfNums_app (xs ys:List Int):strOfNums xs++strOfNums ys=strOfNums (xs++ys):=by
 apply ByteArray.ext
 simp [strOfNums]
theorem byteAt_str (zs:List Int) (i:Nat) (hi:i<zs.length) (hb:∀ z ∈ zs,0<=z/\z<=255):Rdr.byteAt (strOfNums zs) i=zs.getD i 0:=by
 unfold Rdr.byteAt
 rw [strOfNums_data,List.getD_eq_getElem?_getD,List.getElem?_map,List.getElem?_eq_getElem hi,List.getD_eq_getElem?_getD,List.getElem?_eq_getElem hi]
 have:=hb zs[i] (List.getElem_mem hi)
 show ((UInt8.ofNat zs[i].toNat).toNat:Int)=zs[i]
 rw [UInt8.toNat_ofNat']
 omega
theorem endStr_bytes (t:WS):Pack.BytesOf (endStr t) t.n t.m:=by
 refine ⟨by unfold endStr;rw [strOfNums_size,Pack.digs_length],fun i hi=>?_⟩
 unfold endStr
 rw [byteAt_str _ _ (by rw [Pack.digs_length];exact hi) (Pack.digs_bd _ _),Pack.digs_get _ _ _ hi,show t.m+4-1-i=t.m+3-i by omega]
theorem endStr_eq (t:WS) (L:Int) (hL:L=t.n % 4294967296):strOfNums (Pack.digs t.m (t.n / 4294967296))++strOfNums [L / 16777216 % 256,L / 65536 % 256,L / 256 % 256,L % 256]=endStr t:=by
 rw [strOfNums_app]
 unfold endStr
 congr 1
 show _=(((Pack.digs t.m (t.n / 256 / 256 / 256 / 256)++[_])++[_])++[_])++[_]
 rw [show t.n / 256 / 256 / 256 / 256=t.n / 4294967296 by omega]
 simp only [List.append_assoc,List.cons_append,List.nil_append]
 congr 1
 simp only [List.cons.injEq,and_true]
 omega
set_option maxRecDepth 20000 in
theorem pLEnd (w:World) (B b:Nat) (v:Value) (t:WS) (h:PW w B b v t) (hm:t.m<=200000) :
  Calls Tryz.prog 83 #[.pointer (some ⟨b,0,none⟩)] w fun e w'=>e=.returned (.string (endStr t))/\Below w.heap.size w w':=by
 have i0:=h.c0
 have i1:=h.c1
 obtain ⟨L,hL⟩:∃ L,L=t.n % 4294967296:=⟨_,rfl⟩
 rw [<- hL] at i1
 have L0:0<=L:=by omega
 have L1:L<=4294967295:=by omega
 have HL:Hid (L=t.n % 4294967296):=hL
 obtain ⟨zs,hzs⟩:∃ zs,zs=Pack.digs t.m (t.n / 4294967296):=⟨_,rfl⟩
 have ho:=h.own
 rw [<- hzs] at ho
 have hzl:zs.length<=200000:=by rw [hzs,Pack.digs_length];exact hm
 have HZ:Hid (zs=Pack.digs t.m (t.n / 4294967296)):=hzs
 have F0:=octs_conv (w:=w) ho
 have F1:Sem.run Tryz.prog (convert 101 9 v) w.drew=.ok (.string (strOfNums zs)) w.drew:=octs_conv (B:=B) (show Octs w.drew B v zs from ho)
 have F2:∀ a b c d:Int,Sem.run Tryz.prog (convert 101 9 v) (w.alloc (.cells #[.int .u8 a,.int .u8 b,.int .u8 c,.int .u8 d] 5)).drew=.ok (.string (strOfNums zs)) (w.alloc (.cells #[.int .u8 a,.int .u8 b,.int .u8 c,.int .u8 d] 5)).drew:=fun a b c d=>octs_conv (B:=B) (show Octs (w.alloc _).drew B v zs from by unfold Octs at ho ⊢;exact (ho.alloc _).drew)
 have F3:=conv4d w
 have hsz:(strOfNums zs).size=zs.length:=strOfNums_size zs
 have hsz4:∀ a b c d:Int,(strOfNums [a,b,c,d]).size=4:=fun a b c d=>strOfNums_size _
 have hbup:=h.up
 have i0a:∀ x y z u:Int,(w.alloc (.cells #[.int .u8 x,.int .u8 y,.int .u8 z,.int .u8 u] 5)).drew.cell? ⟨b,401,none⟩=some v:=fun x y z u=>(cell_alloc_drew hbup).trans i0
 have hlim:¬ 9223372036854775807<zs.length+4:=by omega
 clear hL hzs h
 go_enter Tryz.func83,Tryz.ntmps83
 go_wp2
 go_region
 have he:strOfNums zs++strOfNums [L / 16777216,L / 65536 % 256,L / 256 % 256,L % 256]=endStr t:=by
  rw [HZ.out,<- endStr_eq t L HL.out,show L / 16777216 % 256=L / 16777216 by omega]
 have HEE:Hid (strOfNums zs++strOfNums [L / 16777216,L / 65536 % 256,L / 256 % 256,L % 256]=endStr t):=he
 clear he F0 F1 F2 F3 i0a
 go_wp2
 go_ret
 exact ⟨by rw [<- HEE.out];rfl,below_drew ((Below.refl _ w).alloc (Nat.le_refl _) _)⟩
end
section
open Go.RowKit
theorem puts_app':∀ (l r:List (Nat × Int)) (t:WS),Pack.puts t (l++r)=Pack.puts (Pack.puts t l) r
 | [],_,_=>rfl
 | (_,_) :: l,r,_=>puts_app' l r _
theorem puts_take (l:List (Nat × Int)) (j:Nat) (h:j<l.length):Pack.fin (l.take (j+1))=Pack.put (Pack.fin (l.take j)) (l.getD j (0,0)).1 (l.getD j (0,0)).2:=by
 unfold Pack.fin
 rw [List.take_add_one,List.getElem?_eq_getElem h]
 have e:l.getD j (0,0)=l[j]:=by rw [List.getD_eq_getElem?_getD,List.getElem?_eq_getElem h];rfl
 rw [e]
 exact Pack.puts_snoc _ _ _ _
set_option maxRecDepth 20000 in
theorem pPack (w:World) (b:Nat) (v:Value) (t:WS) (l:List (Nat × Int)) (h:DrAt w b v t l) (hl:l.length<=1000000) (ho:Pack.BitsOk l) (hm:(Pack.fin l).m<=150000) :
  Calls Tryz.prog 43 #[.pointer (some ⟨b,0,none⟩)] w fun e w'=>e=.returned (.string (endStr (Pack.fin l)))/\Below w.heap.size w w':=by
 have i1:=h.bits
 have hup:=h.up
 obtain ⟨a,cap,rfl,hc⟩:∃ a cap,v=.slice a l.length cap/\(l.length=0 \/ ∃ g,a=some ⟨g,0,none⟩/\g<w.heap.size/\∀ i,i<l.length->w.cell? ⟨g,i*2,none⟩=some (.int .u16 (l.getD i (0,0)).1)/\w.cell? ⟨g,i*2+1,none⟩=some (.int .u8 (l.getD i (0,0)).2)):=by
  have hw:=h.own
  rcases hw.2 with ⟨rfl,h0⟩|⟨g,cap,cur,rfl,hb,hg,hr⟩
  ·exact ⟨none,0,by rw [h0],.inl h0⟩
  ·refine ⟨_,cap,rfl,.inr ⟨g,rfl,(World.ownsRow.lt hw g rfl).2,fun i hi=>?_⟩⟩
   have h1:=World.ownsRow.cellAt hw (i*2) (by omega)
   have h2:=World.ownsRow.cellAt hw (i*2+1) (by omega)
   obtain ⟨k1,k2⟩:=stepCells_get l i hi
   exact ⟨by rw [h1,k1],by rw [h2,k2]⟩
 have hmj:∀ j,(Pack.fin (l.take j)).m<=200000:=fun j=>by
  have h1:=Pack.puts_in (l.drop j) (Pack.fin (l.take j)) (Pack.puts_ok _ _ Pack.init_ok fun p hp=>(ho p (List.mem_of_mem_take hp)).1) (fun p hp=>(ho p (List.mem_of_mem_drop hp)).1)
  have e:Pack.puts (Pack.fin (l.take j)) (l.drop j)=Pack.fin l:=by
   unfold Pack.fin
   rw [<- puts_app',List.take_append_drop]
  rw [e] at h1
  obtain ⟨d,h2,_⟩:=h1
  omega
 have HO:Hid (Pack.BitsOk l):=ho
 have HC:Hid (l.length=0 \/ ∃ g,a=some ⟨g,0,none⟩/\g<w.heap.size/\∀ i,i<l.length->w.cell? ⟨g,i*2,none⟩=some (.int .u16 (l.getD i (0,0)).1)/\w.cell? ⟨g,i*2+1,none⟩=some (.int .u8 (l.getD i (0,0)).2)):=hc
 have HM:Hid (∀ j,(Pack.fin (l.take j)).m<=200000):=hmj
 clear hc ho h hm hmj
 go_enter Tryz.func43,Tryz.ntmps43
 go_wp2_with (go_at_call 81;refine (pNewWriter _).mono ?_;rintro e w1 ⟨b1,rfl,hb1,hp1,hbw1⟩;have i2:=(hbw1.cell (p:=⟨b,402,none⟩) hup).trans i1)
 go_loopw [12] (fun i wr=>∃ j:Nat,∃ v':Value,j<=l.length/\i=.int .i64 j/\PW wr w.heap.size b1 v' (Pack.fin (l.take j))/\vLo w.heap.size v'/\Below w.heap.size w wr) (fun i _=>l.length-(intOf i).toNat)
 case atStart=>exact ⟨0,_,Nat.zero_le _,rfl,hp1,fun j hj=>by simp [Value.ownBlock] at hj,hbw1⟩
 case round =>
  clear hp1 hbw1 i2
  obtain ⟨j,v',hjk,rfl,hp,hvl,hbr⟩:=hrel
  have hmj:=HM.out j
  by_cases hlt:j<l.length
  ·have hlt':(j:Int)<(l.length:Int):=by omega
   obtain ⟨g,rfl,hg,hc⟩:∃ g,a=some ⟨g,0,none⟩/\g<w.heap.size/\∀ i,i<l.length->w.cell? ⟨g,i*2,none⟩=some (.int .u16 (l.getD i (0,0)).1)/\w.cell? ⟨g,i*2+1,none⟩=some (.int .u8 (l.getD i (0,0)).2):=by
    rcases HC.out with h2|h2
    ·omega
    ·exact h2
   obtain ⟨k,x,hkx⟩:∃ k x,l.getD j (0,0)=(k,x):=⟨_,_,rfl⟩
   have hmem:(k,x) ∈ l:=by
    rw [<- hkx,List.getD_eq_getElem?_getD,List.getElem?_eq_getElem hlt]
    exact List.getElem_mem hlt
   obtain ⟨hk,hx⟩:=HO.out _ hmem
   have d1:=(hbr.cell (p:=⟨g,j*2,none⟩) hg).trans (hc j hlt).1
   have d2:=(hbr.cell (p:=⟨g,j*2+1,none⟩) hg).trans (hc j hlt).2
   rw [hkx] at d1 d2
   have HS:Hid (Pack.fin (l.take (j+1))=Pack.put (Pack.fin (l.take j)) k x):=by
    unfold Hid
    rw [puts_take l j hlt,hkx]
   have okj:Pack.Ok (Pack.fin (l.take j)):=Pack.puts_ok _ _ Pack.init_ok (fun p hp=>(HO.out p (List.mem_of_mem_take hp)).1)
   obtain ⟨T,hT⟩:∃ T,T=Pack.fin (l.take j):=⟨_,rfl⟩
   rw [<- hT] at hp okj hmj HS
   dsimp only at hk hx d1 d2
   have w1:wrap64 (k:Int)=k:=by unfold wrap64;omega
   have w2:wrap64 x=x:=by unfold wrap64;omega
   clear hc hkx hT hmem
   have hpa:PW (wr.alloc (.cells #[.int .u16 (k:Int),.int .u8 x] 159)) w.heap.size b1 v' T:=by
    have hbk:=Below.heap_alloc wr (.cells #[.int .u16 (k:Int),.int .u8 x] 159) b1 hp.up
    have hcc:∀ o,(wr.alloc (.cells #[.int .u16 (k:Int),.int .u8 x] 159)).cell? ⟨b1,o,none⟩=wr.cell? ⟨b1,o,none⟩:=fun o=>World.cell?_of_block (a:=⟨b1,o,none⟩) hbk
    exact ⟨(hcc 401).trans hp.c0,by have:=hp.own;unfold Octs at this ⊢;exact this.alloc _,hp.ne,(hcc 402).trans hp.c1,(hcc 0).trans hp.c2,fun o ho=>(World.frozen?_of_block (a:=⟨b1,o,none⟩) hbk).trans (hp.fz o ho),hp.ch.on hbk,by simp;have:=hp.up;omega⟩
   have hsz2:=hbr.size
   go_wp2_with (go_at_call 82;refine (pPut _ w.heap.size b1 v' T k x hpa okj hmj hk hx hb1 (by simp;omega) hvl).mono ?_;rintro e w3 ⟨rfl,v3,hp3,hvl3,hb3⟩)
   go_roundw
   case rel=>exact ⟨j+1,v3,by omega,by go_num,by rw [HS.out];exact hp3,hvl3,(hbr.alloc hsz2 _).trans (hb3.mono (by simp))⟩
   case measure=>simp [intOf];omega
  ·obtain rfl:j=l.length:=by omega
   have hlt':¬ ((l.length:Int)<(l.length:Int)):=by omega
   rw [List.take_of_length_le (Nat.le_refl _)] at hp hmj
   have hsz2:=hbr.size
   go_wp2_with (go_at_call 83;refine (pLEnd _ w.heap.size b1 v' _ hp hmj).mono ?_;rintro e w3 ⟨rfl,hb3⟩)
   go_ret
   exact ⟨rfl,hbr.trans (hb3.mono hsz2)⟩
end
section
open Go.RowKit Go.Shelf
open Flm (Px FS)
attribute [local go_sem] Oper.semAt_some
theorem PutAt.trans {w W W':World} {b:Nat} {v:Value} {t:WS} {l p q:List (Nat × Int)} (h:PutAt w W b v t l p) (k:∀ v',DrAt W b v' (Pack.puts t p) (l++p)->PutAt W W' b v' (Pack.puts t p) (l++p) q):PutAt w W' b v t l (p++q):=by
 obtain ⟨v',h1,h2⟩:=h
 obtain ⟨v'',k1,k2⟩:=k v' h1
 exact ⟨v'',by rw [puts_app',<- List.append_assoc];exact k1,h2.trans k2⟩
theorem PutAt.from {w X W:World} {b:Nat} {v:Value} {t:WS} {l p:List (Nat × Int)} (h:PutAt X W b v t l p) (f:Below w.heap.size w X):PutAt w W b v t l p:=by
 obtain ⟨v',h1,h2⟩:=h
 exact ⟨v',h1,(Frm.of_below f).trans h2.frm,fun k e=>(h2.loc k e).imp id fun e=>Nat.le_trans f.size e⟩
theorem keeps_cells {S:Nat->Prop} {W W':World} (f:Frm S W W') (hS:∀ k,S k->∃ cs t fr,W.heap[k]?=some (.cells cs t fr)):KeepsOthers W W':=by
 refine ⟨f.size,fun k o hk ho=>?_⟩
 by_cases hs:S k
 ·obtain ⟨cs,t,fr,h1⟩:=hS k hs
  rw [hk] at h1
  cases h1
  cases ho
 ·exact (f.block k (heap_lt0 hk) hs).trans hk
theorem DrAt.isCells {W:World} {b:Nat} {v:Value} {t:WS} {l:List (Nat × Int)} (h:DrAt W b v t l):∀ k,(k=b \/ v.ownBlock=some k)->∃ cs t fr,W.heap[k]?=some (.cells cs t fr):=by
 rintro k (rfl|e)
 ·obtain ⟨o',h1,h2⟩:=cells_of_cell h.sh
  cases o' with
  | cells cs t fr=>exact ⟨cs,t,fr,h1⟩
  | _=>cases h2
 ·rcases h.own.2 with ⟨rfl,_⟩|⟨g,cap,cur,rfl,_,hg,_⟩
  ·simp [Value.ownBlock] at e
  ·simp [Value.ownBlock] at e
   subst e
   exact ⟨_,_,_,hg⟩
def fsOf (T:List Px):FS:=⟨⟨0,0,0,[],0⟩,[T],[],0,0,0⟩
theorem near_of {z:Nat} {T:List Px} {x y:Int} (hx:x<z):Flm.near z (fsOf T) x y=Pk.nearT z T x y:=by
 unfold Flm.near Pk.nearT
 by_cases h:x<0 \/ y<0
 ·rw [if_pos h,if_pos (by omega)]
 ·rw [if_neg h,if_neg (by omega)]
  rfl
theorem px_of {T:List Px} (h:∀ p ∈ T,Flm.okPx p) (i k:Nat):Flm.okPx (Flm.px (fsOf T) i k):=by
 unfold Flm.px fsOf
 cases i with
 | zero=>exact Pk.getD_ok h k
 | succ i=>exact Pk.okP0
theorem exp_of {z:Nat} {T:List Px} {x y:Nat} (hx:x<z) (k:Nat):Flm.exp3 z (fsOf T) x y k=Flm.pick (Pk.expT z T x y) k:=by
 unfold Flm.exp3
 rw [near_of (by omega),near_of (by omega),near_of (by omega)]
 unfold Pk.expT Flm.pick
 dsimp only
 split
 ·rfl
 ·split <;> rfl
def softP (c e:Px):Nat->List (Nat × Int)
 | 0=>[]
 | k+1=>softP c e k++Pk.sgn (100+24*k) (Flm.pick c k-Flm.pick e k)
theorem softP_all (z:Nat) (T:List Px) (X Y:Nat):softP (Pk.turnT z T X Y) (Pk.expT z T X Y) 3=Pk.soft1l z T (X,Y):=by
 unfold Pk.soft1l
 simp only [softP,List.nil_append,List.append_assoc]
 rfl
theorem softP_ok {c e:Px} (h:∀ k,k<3->-511<=Flm.pick c k-Flm.pick e k/\Flm.pick c k-Flm.pick e k<=511):∀ k,k<=3->(softP c e k).length<=19*k/\Pack.BitsOk (softP c e k)
 | 0,_=>⟨Nat.le_refl _,Pk.ok_nil⟩
 | k+1,hk=>by
  obtain ⟨h1,h2⟩:=softP_ok h k (by omega)
  obtain ⟨h3,h4⟩:=h k (by omega)
  have h5:=Pk.sgn_len (k:=100+24*k) h3 h4
  refine ⟨?_,Pk.ok_app h2 (Pk.sgn_ok h3 h4 (by omega))⟩
  unfold softP
  rw [List.length_append]
  omega
def WSoftJ (z:Nat) (T:List Px) (XG W:World) (b:Nat) (v:Value) (t:WS) (l:List (Nat × Int)) {x y n:Nat} (pre:List (Pt x y n)):Prop:=PutAt XG W b v t l ((pre.map (·.1)).flatMap (Pk.soft1l z T))
set_option maxRecDepth 100000 in
theorem pWSoft (w:World) (Lo q z nb C:Nat) (mh mb:Value) (T:List Px) (h:FwAt w q z nb C mh mb T) (hq:q<Lo) (hnb:nb<Lo) (SG:SoftG w Lo) (b:Nat) (v:Value) (t:WS) (l:List (Nat × Int)) (hdr:DrAt w b v t l) (hb:Lo<=b) (hv:∀ k,v.ownBlock=some k->Lo<=k)
  (x y n:Nat) (hx:x+n<=z) (hy:y+n<=z) (ro:Room t l (57*(n*n)+19)) :
  Calls Tryz.prog 107 #[.pointer (some ⟨q,0,none⟩),.pointer (some ⟨b,0,none⟩),.agg #[.int .i64 x,.int .i64 y,.int .i64 n]] w fun e w'=>e=.returned (.bool true)/\PutAt w w' b v t l (Pk.softl z T x y n):=by
 obtain ⟨Z,hZ⟩:∃ Z,Z=z*z:=⟨_,rfl⟩
 obtain ⟨hz16,hzz⟩:=h.z16
 obtain ⟨H,hH⟩:∃ H,H=w.heap.size:=⟨_,rfl⟩
 have hmx:Tryz.prog.follows .mixedOrders=true:=by kernel_rfl
 obtain ⟨W3,hW3⟩:∃ W3,W3=((w.alloc (.cells #[.pointer (some ⟨q,0,none⟩)] 87)).alloc (.cells #[.pointer (some ⟨b,0,none⟩)] 94)).alloc (.cells #[.int .i64 x,.int .i64 y,.int .i64 n] 100):=⟨_,rfl⟩
 have hB3:Below w.heap.size w W3:=by rw [hW3];exact below3 w _ _ _
 have hs3:W3.heap.size=H+3:=by rw [hW3,hH];simp
 have hx0:W3.heap[H]?=some (.cells #[.pointer (some ⟨q,0,none⟩)] 87):=by
  rw [hW3,hH];exact (Below.heap_alloc _ _ _ (by simp only [World.size_alloc];omega)).trans ((Below.heap_alloc _ _ _ (by simp only [World.size_alloc];omega)).trans (heap_alloc_last w _))
 have hx1:W3.heap[H+1]?=some (.cells #[.pointer (some ⟨b,0,none⟩)] 94):=by
  have:=heap_alloc_last (w.alloc (.cells #[.pointer (some ⟨q,0,none⟩)] 87)) (.cells #[.pointer (some ⟨b,0,none⟩)] 94)
  rw [World.size_alloc] at this
  rw [hW3,hH];exact (Below.heap_alloc _ _ _ (by simp only [World.size_alloc];omega)).trans this
 have hx2:W3.heap[H+1+1]?=some (.cells #[.int .i64 x,.int .i64 y,.int .i64 n] 100):=by
  have:=heap_alloc_last ((w.alloc (.cells #[.pointer (some ⟨q,0,none⟩)] 87)).alloc (.cells #[.pointer (some ⟨b,0,none⟩)] 94)) (.cells #[.int .i64 x,.int .i64 y,.int .i64 n] 100)
  simp only [World.size_alloc] at this
  rw [hW3,hH];exact this
 obtain ⟨G,hG⟩:∃ G,G=W3.heap.size:=⟨_,rfl⟩
 obtain ⟨XG,hXG⟩:∃ XG,XG=W3.alloc (.cells #[.int .i64 x,.int .i64 y,.int .i64 n] 100):=⟨_,rfl⟩
 have hit:XG.heap[G]?=some (.cells #[.int .i64 x,.int .i64 y,.int .i64 n] 100 (0,0)):=by rw [hXG,hG];exact heap_alloc_last W3 _
 have hBG:Below W3.heap.size W3 XG:=by rw [hXG];exact (Below.refl _ W3).alloc (Nat.le_refl _) _
 have hB:Below w.heap.size w XG:=hB3.trans (hBG.mono hB3.size)
 have hsG:XG.heap.size=G+1:=by rw [hXG,hG];simp
 have hGH:G=H+3:=by rw [hG,hs3]
 have r0:=cell_of_row _ _ 0 _ _ _ hx2
 have r1:=cell_of_row _ _ 1 _ _ _ hx2
 have r2:=cell_of_row _ _ 2 _ _ _ hx2
 simp at r0 r1 r2
 have hbH:b<H:=by rw [hH];exact hdr.up
 have hvH:∀ k,v.ownBlock=some k->k<H:=fun k e=>by rw [hH];exact (World.ownsRow.lt hdr.own k e).2
 have hqH:q<H:=by omega
 have HR:Hid (∀ W b' ,(∀ k,v.ownBlock=some k->Lo<=k)->Frm (fun k=>k=b \/ v.ownBlock=some k) XG W->b'=b->FwAt W q z nb C mh mb T/\SoftG W Lo/\W.cell? ⟨H,0,none⟩=some (.pointer (some ⟨q,0,none⟩))/\W.cell? ⟨H+1,0,none⟩=some (.pointer (some ⟨b,0,none⟩))/\W.heap[G]?=some (.cells #[.int .i64 x,.int .i64 y,.int .i64 n] 100 (0,0))/\G+1<=W.heap.size):=fun W b' _ f _=>by
  have hS:∀ k,k<Lo->¬ (k=b \/ v.ownBlock=some k):=fun k hk e=>e.elim (fun e=>by omega) (fun e=>by have:=hv k e;omega)
  have hS2:∀ k,H<=k->¬ (k=b \/ v.ownBlock=some k):=fun k hk e=>e.elim (fun e=>by omega) (fun e=>by have:=hvH k e;omega)
  refine ⟨(h.below hB).frm f (hS q hq) (hS nb hnb),?_,?_,?_,?_,?_⟩
  ·have hgl:9<XG.heap.size:=by have:=SG.lt;have:=hdr.up;have:=hB.size;omega
   exact (SG.below (hB.mono (by have:=hdr.up;omega))).of (f.block _ hgl (hS _ SG.lt)) SG.lt
  ·exact f.cell ((hBG.cell (p:=⟨H,0,none⟩) (by rw [hs3];show H<H+3;omega)).trans (cell_of_row _ _ 0 _ _ _ hx0)) (hS2 H (Nat.le_refl _))
  ·exact f.cell ((hBG.cell (p:=⟨H+1,0,none⟩) (by rw [hs3];show H+1<H+3;omega)).trans (cell_of_row _ _ 0 _ _ _ hx1)) (hS2 (H+1) (by omega))
  ·exact (f.block G (by omega) (hS2 G (by omega))).trans hit
  ·have:=f.size;omega
 have HW3:Hid (W3=((w.alloc (.cells #[.pointer (some ⟨q,0,none⟩)] 87)).alloc (.cells #[.pointer (some ⟨b,0,none⟩)] 94)).alloc (.cells #[.int .i64 x,.int .i64 y,.int .i64 n] 100)):=hW3
 have HXG:Hid (XG=W3.alloc (.cells #[.int .i64 x,.int .i64 y,.int .i64 n] 100)):=hXG
 have HH:Hid (H=w.heap.size/\G=W3.heap.size/\Below w.heap.size w XG):=⟨hH,hG,hB⟩
 have HI0:Hid (WSoftJ z T XG XG b v t l ([]:List (Pt x y n))):=PutAt.refl (hdr.below hB)
 have HZ:Hid (Z=z*z):=hZ
 have HV:Hid ((∀ k,v.ownBlock=some k->Lo<=k)/\∀ k,v.ownBlock=some k->k<H):=⟨hv,hvH⟩
 have HRO:Hid (Room t l (57*(n*n)+19)):=ro
 have HOK:Hid (∀ p ∈ T,Flm.okPx p):=h.ok
 have hLoH:Lo<=H:=by omega
 have HGH:Hid (G=H+3):=hGH
 clear hW3 hx0 hx1 hx2 hB3 hZ h hH hs3 hG hXG hBG hB hdr SG hv hvH ro hGH
 refine (callsIn_wide (n:=5)).1 ?_
 refine callsIn_of_wp_marks Tryz.func107 rfl trivial ?_ rfl
 simp only [Tryz.ntmps107,List.size_toArray,List.length_cons,List.length_nil,Nat.reduceAdd,Nat.reduceSub,Array.replicate_succ,Array.replicate_zero,List.push_toArray,List.append_toArray,List.nil_append,List.cons_append]
 refine wpIn_wide.2 ?_
 go_wp2_with (first
  | (rw [<- HW3.out,<- HH.out.1])
  | (go_at_call 105;refine (pPoints _ _ _ _).mono ?_;rintro e wq ⟨rfl,rfl⟩))
 clear r0 r1 r2
 rw [<- HH.out.2.1,<- HXG.out]
 refine (wpIn_wide (n:=5)).1 ?_
 refine wpIn_rangeFunc_ownF rfl (by decide) (gf:=131) (lb:=#[.pointer (some ⟨G,0,none⟩)]) rfl trivial (enters_of Tryz.func131 (by kernel_rfl) rfl)
  (points_stops Fence.wide (5-1) trivial rfl (by decide) G x y n (by omega) (by omega) XG hit)
  (fun h1 h2=>h2.trans h1) (fun W l o o' hl _ _ _=>World.putObj_heap_other (by omega)) (Below.refl _ _) (fun _=>rfl)
  (fun pre W=>WSoftJ z T XG W b v t l pre)
  (fun _ _ _=>False)
  ?own (fun _ _ _ _ _ hs _ _=>hs) HI0.out
  (fun pt=>{ tmps:=#[.pointer (some ⟨q,0,none⟩),.pointer (some ⟨b,0,none⟩),.agg #[.int .i64 x,.int .i64 y,.int .i64 n],.pointer (some ⟨H,0,none⟩),.pointer (some ⟨H+1,0,none⟩),.pointer (some ⟨H+1+1,0,none⟩),.bool false,.int .i64 pt.1.1,.int .i64 pt.1.2,undef,undef,undef,undef,.agg #[.int .i64 x,.int .i64 y,.int .i64 n],.func (.func 131) #[] #[.pointer (some ⟨G,0,none⟩)],.int .i64 pt.1.1,.int .i64 pt.1.2,undef,undef,undef,undef,undef,undef,undef,undef,undef,undef,undef,undef,undef,undef,undef,undef,undef,undef,undef,undef,undef,undef,undef,undef,undef,undef,undef,undef,undef,undef],defers:=[] }) ?assign ?body ?done ?stop
 case own =>
  rintro pre W W' row i1 hg hr
  obtain ⟨v',j1,j2⟩:=i1
  have hne:∀ k,(k=b \/ v'.ownBlock=some k)->¬ row=some k:=fun k hk e=>by
   obtain ⟨_,o,ho,hc⟩:=hr k e
   obtain ⟨cs,tt,fr,h1⟩:=j1.isCells k hk
   rw [ho] at h1
   cases h1
   cases hc
  have fg:Frm (fun k=>row=some k) W W':=(Frm.refl _ W).grown hg (fun k e=>.inl e)
  exact ⟨v',j1.frm fg (hne b (.inl rfl)) (fun k e=>hne k (.inr e)),j2.frm.grown hg (fun k e=>.inr (hr k e).1),j2.loc⟩
 case assign =>
  intro l pt W K hK
  dsimp only [encPt]
  gi_wp2
  exact hK
 case body =>
  rintro lb pre ⟨⟨PX,PY⟩,⟨hpx1,hpx2⟩,hpy1,hpy2⟩ W i1 hlen
  dsimp only at hpx1 hpx2 hpy1 hpy2 ⊢
  obtain ⟨v',j1,j2⟩:=i1
  obtain ⟨r1,r2,r3,r4,r5,r6⟩:=HR.out W b HV.out.1 j2.frm rfl
  obtain ⟨fl,hfl⟩:∃ fl,fl=(pre.map (·.1)).flatMap (Pk.soft1l z T):=⟨_,rfl⟩
  rw [<- hfl] at j1
  have hflo:Pack.BitsOk fl:=by rw [hfl];exact Pk.flat_ok _ fun q _=>(Pk.soft1l_ok HOK.out z q).1
  have hfll:fl.length<=57*pre.length:=by
   rw [hfl]
   have:=Pk.flat_len (pre.map (·.1)) (f:=Pk.soft1l z T) (m:=57) fun q _=>(Pk.soft1l_ok HOK.out z q).2
   rwa [List.length_map] at this
  obtain ⟨c,hc⟩:∃ c,c=Pk.turnT z T PX PY:=⟨_,rfl⟩
  obtain ⟨e,he⟩:∃ e,e=Pk.expT z T PX PY:=⟨_,rfl⟩
  have HCB:Hid (∀ k,k<3->-511<=Flm.pick c k-Flm.pick e k/\Flm.pick c k-Flm.pick e k<=511):=fun k hk=>by
   have h1:=Flm.turn_bd (Pk.getD_ok HOK.out (PY*z+PX)) k
   have h2:=Pk.expT_bds HOK.out z PX PY
   rw [hc,he]
   show -511<=Flm.pick (Flm.turn (T.getD (PY*z+PX) (0,0,0))) k-_/\Flm.pick (Flm.turn (T.getD (PY*z+PX) (0,0,0))) k-_<=511
   rcases (by omega:k=0 \/ k=1 \/ k=2) with rfl|rfl|rfl
   ·have:Flm.pick (Pk.expT z T PX PY) 0=(Pk.expT z T PX PY).1:=rfl
    omega
   ·have:Flm.pick (Pk.expT z T PX PY) 1=(Pk.expT z T PX PY).2.1:=rfl
    omega
   ·have:Flm.pick (Pk.expT z T PX PY) 2=(Pk.expT z T PX PY).2.2:=rfl
    omega
  have HTU:Hid (∀ wx,Below W.heap.size W wx->Calls Tryz.prog 132 #[.agg #[.int .i64 z,.slice (some ⟨nb,0,none⟩) Z C],.int .i64 PX,.int .i64 PY] wx fun r w'=>r=.returned (.agg #[.int .i64 c.1,.int .i64 c.2.1,.int .i64 c.2.2])/\Below wx.heap.size wx w'):=fun wx hb=>by
   have:=pTurned (C:=C) wx nb z T hzz (r1.px.below hb) (fun k=>Pk.getD_ok HOK.out k) (fsOf T) rfl PX PY (by omega) (by omega)
   rw [near_of (by omega),show Pk.nearT z T PX PY=c by rw [hc];unfold Pk.nearT;rw [if_neg (by omega)];rfl] at this
   rw [HZ.out]
   exact this
  have HEX:Hid (∀ wx,Below W.heap.size W wx->Calls Tryz.prog 133 #[.agg #[.int .i64 z,.slice (some ⟨nb,0,none⟩) Z C],.int .i64 PX,.int .i64 PY] wx fun r w'=>r=.returned (.agg #[.int .i64 e.1,.int .i64 e.2.1,.int .i64 e.2.2])/\Below wx.heap.size wx w'):=fun wx hb=>by
   have:=pExpected (C:=C) wx nb z T hzz hz16 (r1.px.below hb) (fun k=>Pk.getD_ok HOK.out k) (fsOf T) rfl (fun i k=>px_of HOK.out i k) PX PY (by omega) (by omega)
   rw [exp_of (by omega),exp_of (by omega),exp_of (by omega),<- he] at this
   rw [HZ.out]
   exact this
  have HST:Hid (softP c e 3=Pk.soft1l z T (PX,PY)):=by unfold Hid;rw [hc,he];exact softP_all z T PX PY
  have k00:=r3
  have d0:=r1.c0
  have d1:=r1.c1
  rw [<- HZ.out] at d1
  have HJ:Hid (DrAt W b v' (Pack.puts t fl) (l++fl)/\Wr b v XG W v'/\SoftG W Lo/\W.cell? ⟨H+1,0,none⟩=some (.pointer (some ⟨b,0,none⟩))/\W.heap[G]?=some (.cells #[.int .i64 x,.int .i64 y,.int .i64 n] 100 (0,0))/\fl=(pre.map (·.1)).flatMap (Pk.soft1l z T)):=⟨j1,j2,r2,r4,r5,hfl⟩
  have HFL:Hid (Pack.BitsOk fl/\fl.length<=57*pre.length):=⟨hflo,hfll⟩
  clear j1 j2 r1 r2 r3 r4 r5 hfl hflo hfll hc he
  gi_wp2
  refine region_round_at (S:=fun w'=>w'.cell? ⟨H,0,none⟩=some (.pointer (some ⟨q,0,none⟩))/\w'.cell? ⟨q,0,none⟩=some (.int .i64 z)/\w'.cell? ⟨q,1,none⟩=some (.slice (some ⟨nb,0,none⟩) Z C)/\Below W.heap.size W w') 18 #[false,false,false,false,false,false,false,false,false,false,false,false,false,false,false,false,false,false] rfl rfl hmx (by kernel_rfl) (fun ⟨_,_,h⟩=>h) ?_
  have hS0:(W.drew.cell? ⟨H,0,none⟩=some (.pointer (some ⟨q,0,none⟩))/\W.drew.cell? ⟨q,0,none⟩=some (.int .i64 z)/\W.drew.cell? ⟨q,1,none⟩=some (.slice (some ⟨nb,0,none⟩) Z C)/\Below W.heap.size W W.drew):=⟨k00,d0,d1,⟨rfl,rfl,rfl,Nat.le_refl _,fun _ _=>rfl⟩⟩
  refine tk_at 0 17 (.pointer (some ⟨q,0,none⟩)) #[true,false,false,false,false,false,false,false,false,false,false,false,false,false,false,false,false,false] rfl rfl rfl (by kernel_rfl) (by rfl) (by rintro w ⟨t0,t1,t2,t3⟩;go_simp) (by assumption) ?_
  simp only [sIb,sCs,sCz]
  refine tk_at 1 18 (.pointer (some ⟨q,0,none⟩)) #[true,true,false,false,false,false,false,false,false,false,false,false,false,false,false,false,false,false] rfl rfl rfl (by kernel_rfl) (by rfl) (by rintro w ⟨t0,t1,t2,t3⟩;go_simp) (by assumption) ?_
  simp only [sIb,sCs,sCz]
  refine tk_at 2 19 (.pointer (some ⟨q,0,none⟩)) #[true,true,true,false,false,false,false,false,false,false,false,false,false,false,false,false,false,false] rfl rfl rfl (by kernel_rfl) (by rfl) (by rintro w ⟨t0,t1,t2,t3⟩;go_simp) (by assumption) ?_
  simp only [sIb,sCs,sCz]
  refine tk_at 3 20 (.agg #[.int .i64 z,.slice (some ⟨nb,0,none⟩) Z C]) #[true,true,true,true,false,false,false,false,false,false,false,false,false,false,false,false,false,false] rfl rfl rfl (by kernel_rfl) (by rfl) (by rintro w ⟨t0,t1,t2,t3⟩;go_simp) (by assumption) ?_
  simp only [sIb,sCs,sCz]
  refine tk_at 4 21 (.int .i64 PX) #[true,true,true,true,true,false,false,false,false,false,false,false,false,false,false,false,false,false] rfl rfl rfl (by kernel_rfl) (by rfl) (by rintro w ⟨t0,t1,t2,t3⟩;go_simp) (by assumption) ?_
  simp only [sIb,sCs,sCz]
  refine tk_at 5 22 (.int .i64 PY) #[true,true,true,true,true,true,false,false,false,false,false,false,false,false,false,false,false,false] rfl rfl rfl (by kernel_rfl) (by rfl) (by rintro w ⟨t0,t1,t2,t3⟩;go_simp) (by assumption) ?_
  simp only [sIb,sCs,sCz]
  refine tk_at 7 24 (.pointer (some ⟨q,0,none⟩)) #[true,true,true,true,true,true,false,true,false,false,false,false,false,false,false,false,false,false] rfl rfl rfl (by kernel_rfl) (by rfl) (by rintro w ⟨t0,t1,t2,t3⟩;go_simp) (by assumption) ?_
  simp only [sIb,sCs,sCz]
  refine tk_at 8 25 (.pointer (some ⟨q,0,none⟩)) #[true,true,true,true,true,true,false,true,true,false,false,false,false,false,false,false,false,false] rfl rfl rfl (by kernel_rfl) (by rfl) (by rintro w ⟨t0,t1,t2,t3⟩;go_simp) (by assumption) ?_
  simp only [sIb,sCs,sCz]
  refine tk_at 9 26 (.pointer (some ⟨q,0,none⟩)) #[true,true,true,true,true,true,false,true,true,true,false,false,false,false,false,false,false,false] rfl rfl rfl (by kernel_rfl) (by rfl) (by rintro w ⟨t0,t1,t2,t3⟩;go_simp) (by assumption) ?_
  simp only [sIb,sCs,sCz]
  refine tk_at 10 27 (.agg #[.int .i64 z,.slice (some ⟨nb,0,none⟩) Z C]) #[true,true,true,true,true,true,false,true,true,true,true,false,false,false,false,false,false,false] rfl rfl rfl (by kernel_rfl) (by rfl) (by rintro w ⟨t0,t1,t2,t3⟩;go_simp) (by assumption) ?_
  simp only [sIb,sCs,sCz]
  refine tk_at 11 28 (.int .i64 PX) #[true,true,true,true,true,true,false,true,true,true,true,true,false,false,false,false,false,false] rfl rfl rfl (by kernel_rfl) (by rfl) (by rintro w ⟨t0,t1,t2,t3⟩;go_simp) (by assumption) ?_
  simp only [sIb,sCs,sCz]
  refine tk_at 12 29 (.int .i64 PY) #[true,true,true,true,true,true,false,true,true,true,true,true,true,false,false,false,false,false] rfl rfl rfl (by kernel_rfl) (by rfl) (by rintro w ⟨t0,t1,t2,t3⟩;go_simp) (by assumption) ?_
  simp only [sIb,sCs,sCz]
  refine any_law (k:=4) (m:=2) (fun σ=>#[.pointer (some ⟨q,0,none⟩),.pointer (some ⟨b,0,none⟩),.agg #[.int .i64 x,.int .i64 y,.int .i64 n],.pointer (some ⟨H,0,none⟩),.pointer (some ⟨H+1,0,none⟩),.pointer (some ⟨H+1+1,0,none⟩),.bool false,.int .i64 PX,.int .i64 PY,σ 2,σ 3,undef,undef,.agg #[.int .i64 x,.int .i64 y,.int .i64 n],.func (.func 131) #[] #[.pointer (some ⟨G,0,none⟩)],.int .i64 PX,.int .i64 PY,.pointer (some ⟨q,0,none⟩),.pointer (some ⟨q,0,none⟩),.pointer (some ⟨q,0,none⟩),.agg #[.int .i64 z,.slice (some ⟨nb,0,none⟩) Z C],.int .i64 PX,.int .i64 PY,σ 0,.pointer (some ⟨q,0,none⟩),.pointer (some ⟨q,0,none⟩),.pointer (some ⟨q,0,none⟩),.agg #[.int .i64 z,.slice (some ⟨nb,0,none⟩) Z C],.int .i64 PX,.int .i64 PY,σ 1,undef,undef,undef,undef,undef,undef,undef,undef,undef,undef,undef,undef,undef,undef,undef,undef]) (fun δ=>#[true,true,true,true,true,true,δ 0,true,true,true,true,true,true,δ 1,δ 2,δ 3,false,false]) (fun i=>match i with|0=>6|1=>13|2=>14|_=>15) (fun i=>match i with|0=>23|1=>30|2=>9|_=>10)
   (fun i=>match i with|0=>.call 132 #[.agg #[.int .i64 z,.slice (some ⟨nb,0,none⟩) Z C],.int .i64 PX,.int .i64 PY] (.agg #[.int .i64 c.1,.int .i64 c.2.1,.int .i64 c.2.2])|1=>.call 133 #[.agg #[.int .i64 z,.slice (some ⟨nb,0,none⟩) Z C],.int .i64 PX,.int .i64 PY] (.agg #[.int .i64 e.1,.int .i64 e.2.1,.int .i64 e.2.2])|2=>.box (.cells #[.int .i64 0,.int .i64 0,.int .i64 0] 48)|_=>.box (.cells #[.int .i64 0,.int .i64 0,.int .i64 0] 48)) (fun δ=>!δ 1 || δ 0) W.heap.size ?hop ?hT ?hF ?hr ?hc ?hS ?hH ?hend 4 (fun _=>false) (fun _=>undef) _ rfl rfl hS0 ⟨fun i _ e=>absurd e (by decide),fun i j _ _ _ e=>absurd e (by decide)⟩
  case hop =>
   intro i hi
   rcases (by omega:i=0 \/ i=1 \/ i=2 \/ i=3) with rfl|rfl|rfl|rfl
   ·exact ⟨_,rfl,rfl,fun _=>rfl,fun σ w=>by show _=_;go_simp⟩
   ·exact ⟨_,rfl,rfl,fun _=>rfl,fun σ w=>by show _=_;go_simp⟩
   ·exact ⟨_,rfl,rfl,fun _=>rfl,fun σ w=>by show _=_;go_simp⟩
   ·exact ⟨_,rfl,rfl,fun _=>rfl,fun σ w=>by show _=_;go_simp⟩
  case hT =>
   intro σ i v hi
   rcases (by omega:i=0 \/ i=1 \/ i=2 \/ i=3) with rfl|rfl|rfl|rfl <;> rfl
  case hF =>
   intro δ i hi
   rcases (by omega:i=0 \/ i=1 \/ i=2 \/ i=3) with rfl|rfl|rfl|rfl <;> rfl
  case hr =>
   intro δ hv hex
   cases h0:δ 0 <;> cases h1:δ 1 <;> cases h2:δ 2 <;> cases h3:δ 3
   ·exact ⟨[6,14,15],by kernel_rfl,by simp [rdy,h0,h1,h2,h3,List.range_succ,updB]⟩
   ·exact ⟨[6,14],by kernel_rfl,by simp [rdy,h0,h1,h2,h3,List.range_succ,updB]⟩
   ·exact ⟨[6,15],by kernel_rfl,by simp [rdy,h0,h1,h2,h3,List.range_succ,updB]⟩
   ·exact ⟨[6],by kernel_rfl,by simp [rdy,h0,h1,h2,h3,List.range_succ,updB]⟩
   ·simp [h0,h1] at hv
   ·simp [h0,h1] at hv
   ·simp [h0,h1] at hv
   ·simp [h0,h1] at hv
   ·exact ⟨[13,14,15],by kernel_rfl,by simp [rdy,h0,h1,h2,h3,List.range_succ,updB]⟩
   ·exact ⟨[13,14],by kernel_rfl,by simp [rdy,h0,h1,h2,h3,List.range_succ,updB]⟩
   ·exact ⟨[13,15],by kernel_rfl,by simp [rdy,h0,h1,h2,h3,List.range_succ,updB]⟩
   ·exact ⟨[13],by kernel_rfl,by simp [rdy,h0,h1,h2,h3,List.range_succ,updB]⟩
   ·exact ⟨[14,15],by kernel_rfl,by simp [rdy,h0,h1,h2,h3,List.range_succ,updB]⟩
   ·exact ⟨[14],by kernel_rfl,by simp [rdy,h0,h1,h2,h3,List.range_succ,updB]⟩
   ·exact ⟨[15],by kernel_rfl,by simp [rdy,h0,h1,h2,h3,List.range_succ,updB]⟩
   ·obtain ⟨i,hi,e⟩:=hex
    rcases (by omega:i=0 \/ i=1 \/ i=2 \/ i=3) with rfl|rfl|rfl|rfl
    ·rw [h0] at e;cases e
    ·rw [h1] at e;cases e
    ·rw [h2] at e;cases e
    ·rw [h3] at e;cases e
  case hc =>
   intro i hi
   rcases (by omega:i=0 \/ i=1 \/ i=2 \/ i=3) with rfl|rfl|rfl|rfl
   ·exact fun wx hs=>HTU.out wx hs.2.2.2
   ·exact fun wx hs=>HEX.out wx hs.2.2.2
   ·exact trivial
   ·exact trivial
  case hS =>
   rintro wx wy ⟨s0,s1,s2,s3⟩ hb
   have cc:∀ (a:Addr) (v:Value),wx.cell? a=some v->wy.cell? a=some v:=fun a v e=>(hb.cell (World.block_lt_of_cell? wx _ e)).trans e
   exact ⟨cc _ _ s0,cc _ _ s1,cc _ _ s2,s3.trans (hb.mono s3.size)⟩
  case hH =>
   rintro wx ⟨_,_,_,s3⟩
   exact s3.size
  case hend =>
   rintro δ σ wx hδ hs hu
   have h0:=hδ 0 (by decide)
   have h1:=hδ 1 (by decide)
   have h2:=hδ 2 (by decide)
   have h3:=hδ 3 (by decide)
   have e0:σ 0=.agg #[.int .i64 c.1,.int .i64 c.2.1,.int .i64 c.2.2]:=hu.all 0 (by decide) h0
   have e1:σ 1=.agg #[.int .i64 e.1,.int .i64 e.2.1,.int .i64 e.2.2]:=hu.all 1 (by decide) h1
   obtain ⟨b9,e2,hb9,hH9⟩:∃ b9,σ 2=.pointer (some ⟨b9,0,none⟩)/\wx.heap[b9]?=some (.cells #[.int .i64 0,.int .i64 0,.int .i64 0] 48)/\W.heap.size<=b9:=hu.all 2 (by decide) h2
   obtain ⟨b10,e3,hb10,hH10⟩:∃ b10,σ 3=.pointer (some ⟨b10,0,none⟩)/\wx.heap[b10]?=some (.cells #[.int .i64 0,.int .i64 0,.int .i64 0] 48)/\W.heap.size<=b10:=hu.all 3 (by decide) h3
   have hne:b9 ≠ b10:=fun e=>hu.apart 2 3 (by decide) (by decide) (by decide) h2 h3 trivial trivial (by rw [e2,e3,e])
   rw [h0,h1,h2,h3,e0,e1,e2,e3]
   clear hu hδ h0 h1 h2 h3 e0 e1 e2 e3
   have x9:Box3 wx b9 (0,0,0):=hb9
   have x10:Box3 wx b10 (0,0,0):=hb10
   obtain ⟨s0,s1,s2,s3⟩:=hs
   obtain ⟨X1,hX1⟩:∃ X1,X1=((wx.setCell ⟨b9,0,none⟩ (.int .i64 c.1)).setCell ⟨b9,1,none⟩ (.int .i64 c.2.1)).setCell ⟨b9,2,none⟩ (.int .i64 c.2.2):=⟨_,rfl⟩
   have y9:Box3 X1 b9 c:=by rw [hX1];exact box3_store x9
   have y10:Box3 X1 b10 (0,0,0):=by rw [hX1];exact box3_other x10 (Ne.symm hne)
   have k90:=x9.cell 0 (by decide)
   have k91:=x9.cell 1 (by decide)
   have k92:=x9.cell 2 (by decide)
   have z90:=x9.frozen 0
   have z91:=x9.frozen 1
   have z92:=x9.frozen 2
   have fX1:Frm (fun k=>k=b9) wx X1:=by rw [hX1];exact (((Frm.refl (fun k=>k=b9) wx).setCell (p:=⟨b9,0,none⟩) (.inl rfl) _).setCell (p:=⟨b9,1,none⟩) (.inl rfl) _).setCell (p:=⟨b9,2,none⟩) (.inl rfl) _
   have hBX1:Below W.heap.size W X1:=s3.trans (fX1.below s3.size (fun k e=>by rw [e];exact hH9))
   have cW:∀ Y,Below W.heap.size W Y->∀ (a:Addr) (u:Value),W.cell? a=some u->Y.cell? a=some u:=fun Y hb a u e=>(hb.cell (World.block_lt_of_cell? W _ e)).trans e
   have hS1:(X1.cell? ⟨H,0,none⟩=some (.pointer (some ⟨q,0,none⟩))/\X1.cell? ⟨q,0,none⟩=some (.int .i64 z)/\X1.cell? ⟨q,1,none⟩=some (.slice (some ⟨nb,0,none⟩) Z C)/\Below W.heap.size W X1):=⟨cW _ hBX1 _ _ k00,cW _ hBX1 _ _ d0,cW _ hBX1 _ _ d1,hBX1⟩
   refine store_at (i:=16) (w':=X1) #[true,true,true,true,true,true,true,true,true,true,true,true,true,true,true,true,true,false] (by kernel_rfl) rfl rfl rfl (by rfl) ?y16 hS1 ?r16
   case y16 =>
    rw [hX1]
    clear hX1
    simp only [Flm.pick] at k90 k91 k92
    go_simp
   case r16 =>
   obtain ⟨X2,hX2⟩:∃ X2,X2=((X1.setCell ⟨b10,0,none⟩ (.int .i64 e.1)).setCell ⟨b10,1,none⟩ (.int .i64 e.2.1)).setCell ⟨b10,2,none⟩ (.int .i64 e.2.2):=⟨_,rfl⟩
   have u9:Box3 X2 b9 c:=by rw [hX2];exact box3_other y9 hne
   have u10:Box3 X2 b10 e:=by rw [hX2];exact box3_store y10
   have m90:=y10.cell 0 (by decide)
   have m91:=y10.cell 1 (by decide)
   have m92:=y10.cell 2 (by decide)
   have n90:=y10.frozen 0
   have n91:=y10.frozen 1
   have n92:=y10.frozen 2
   have fX2:Frm (fun k=>k=b10) X1 X2:=by rw [hX2];exact (((Frm.refl (fun k=>k=b10) X1).setCell (p:=⟨b10,0,none⟩) (.inl rfl) _).setCell (p:=⟨b10,1,none⟩) (.inl rfl) _).setCell (p:=⟨b10,2,none⟩) (.inl rfl) _
   have hBX2:Below W.heap.size W X2:=hBX1.trans (fX2.below hBX1.size (fun k e=>by rw [e];exact hH10))
   have hS2:(X2.cell? ⟨H,0,none⟩=some (.pointer (some ⟨q,0,none⟩))/\X2.cell? ⟨q,0,none⟩=some (.int .i64 z)/\X2.cell? ⟨q,1,none⟩=some (.slice (some ⟨nb,0,none⟩) Z C)/\Below W.heap.size W X2):=⟨cW _ hBX2 _ _ k00,cW _ hBX2 _ _ d0,cW _ hBX2 _ _ d1,hBX2⟩
   refine store_at (i:=17) (w':=X2) #[true,true,true,true,true,true,true,true,true,true,true,true,true,true,true,true,true,true] (by kernel_rfl) rfl rfl rfl (by rfl) ?y17 hS2 ?r17
   case y17 =>
    rw [hX2]
    clear hX2 hX1
    simp only [Flm.pick] at m90 m91 m92
    go_simp
   case r17 =>
   refine wpAnyH_done (by kernel_rfl) ?_ _
   obtain ⟨q1,q2,q3,q4,q5,q6⟩:=HJ.out
   have g0:=cW _ hBX2 _ _ q3.v.1
   have g1:=cW _ hBX2 _ _ q3.v.2.1
   have g2:=cW _ hBX2 _ _ q3.v.2.2
   have g9:9<X2.heap.size:=World.block_lt_of_cell? _ _ g0
   have HX:Hid (Below W.heap.size W X2/\Box3 X2 b9 c/\Box3 X2 b10 e):=⟨hBX2,u9,u10⟩
   clear x9 x10 hb9 hb10 s0 s1 s2 s3 hX1 y9 y10 k90 k91 k92 z90 z91 z92 fX1 hBX1 cW hS1 hX2 u9 u10 m90 m91 m92 n90 n91 n92 fX2 hBX2 hS2 q1 q2 q3 q4 q5 q6 hS0 k00 d0 d1
   gi_wp2
   clear g0 g1 g2 g9
   gi_loopw [32] (fun kv wr=>∃ k:Nat,k<=3/\kv=.int .i64 k/\PutAt X2 wr b v' (Pack.puts t fl) (l++fl) (softP c e k)) (fun kv _=>3-(intOf kv).toNat)
   case atStart=>exact ⟨0,by omega,rfl,PutAt.refl (HJ.out.1.below HX.out.1)⟩
   case round =>
    obtain ⟨k,hk,rfl,hp⟩:=hrel
    obtain ⟨v'',p1,p2⟩:=hp
    obtain ⟨q1,q2,q3,q4,q5,q6⟩:=HJ.out
    have hbW:b<W.heap.size:=q1.up
    have hvW:∀ i,v'.ownBlock=some i->i<W.heap.size:=fun i e=>(World.ownsRow.lt q1.own i e).2
    have far:∀ i,W.heap.size<=i->¬ (i=b \/ v'.ownBlock=some i):=fun i hi e=>e.elim (fun e=>by omega) (fun e=>by have:=hvW i e;omega)
    have hH1:¬ (H+1=b \/ v'.ownBlock=some (H+1)):=fun e=>e.elim (fun e=>by omega) (fun e=>(q2.loc _ e).elim (fun e=>by have:=HV.out.2 _ e;omega) (fun e=>by have:=HGH.out;have:=hsG;omega))
    by_cases hk3:k<3
    ·have hk3':(k:Int)<3:=by omega
     obtain ⟨kc,hkc⟩:∃ kc,kc=100+24*k:=⟨_,rfl⟩
     have hix:=softIx k kc hk3 hkc
     obtain ⟨ck,hck⟩:∃ ck,ck=Flm.pick c k:=⟨_,rfl⟩
     obtain ⟨ek,hek⟩:∃ ek,ek=Flm.pick e k:=⟨_,rfl⟩
     have hcb:=HCB.out k hk3
     rw [<- hck,<- hek] at hcb
     have cc:∀ Y,Frm (fun i=>i=b \/ v'.ownBlock=some i) X2 Y->Y.cell? ⟨H+1,0,none⟩=some (.pointer (some ⟨b,0,none⟩))/\Y.cell? ⟨b9,k,none⟩=some (.int .i64 ck)/\Y.cell? ⟨b10,k,none⟩=some (.int .i64 ek):=fun Y f =>
      ⟨f.cell ((HX.out.1.cell (p:=⟨H+1,0,none⟩) (World.block_lt_of_cell? W _ q4)).trans q4) hH1,f.cell (by rw [hck];exact HX.out.2.1.cell k hk3) (far b9 hH9),f.cell (by rw [hek];exact HX.out.2.2.cell k hk3) (far b10 hH10)⟩
     have hw1:IntKind.i64.wrap (ck-ek)=ck-ek:=by rw [IntKind.wrap_i64];omega
     have HSP:Hid (softP c e (k+1)=softP c e k++Pk.sgn kc (ck-ek)):=by unfold Hid;rw [hkc,hck,hek];rfl
     have hlenP:(softP c e k).length<=19*k/\Pack.BitsOk (softP c e k):=softP_ok HCB.out k (by omega)
     have HPS:Hid (Calls Tryz.prog 134 #[.pointer (some ⟨b,0,none⟩),.int .i64 kc,.int .i64 (ck-ek)] wr.drew fun r w'=>r=.returned (.tuple #[])/\PutAt X2 w' b v' (Pack.puts t fl) (l++fl) (softP c e (k+1))):=by
      unfold Hid
      rw [HSP.out]
      have hro:=HRO.out
      have h1:=Pack.puts_m fl t
      have h2:=HFL.out.2
      have h3:57*pre.length+57<=57*(n*n):=by omega
      refine pPutSigned X2 wr.drew b v' _ _ _ kc (ck-ek) (PutAt.below ⟨v'',p1,p2⟩ ⟨rfl,rfl,rfl,Nat.le_refl _,fun _ _=>rfl⟩) ⟨Pack.puts_ok fl t hro.ok fun q hq=>(HFL.out.1 q hq).1,by have:=hro.m;omega,by rw [List.length_append];have:=hro.l;omega⟩ hlenP.2 (by omega) hcb.1 hcb.2
     obtain ⟨w1,w2,w3⟩:=cc wr p2.frm
     clear hck hek hkc q1 q2 q3 q4 q5 q6 hlenP
     gi_wp2
     refine region_round_at (S:=fun w'=>w'.cell? ⟨H+1,0,none⟩=some (.pointer (some ⟨b,0,none⟩))/\w'.cell? ⟨b9,k,none⟩=some (.int .i64 ck)/\w'.cell? ⟨b10,k,none⟩=some (.int .i64 ek)) 10 #[false,false,false,false,false,false,false,false,false,false] rfl rfl hmx (by kernel_rfl) (fun ⟨_,_,h⟩=>h) ?_
     have hS0:(wr.drew.cell? ⟨H+1,0,none⟩=some (.pointer (some ⟨b,0,none⟩))/\wr.drew.cell? ⟨b9,k,none⟩=some (.int .i64 ck)/\wr.drew.cell? ⟨b10,k,none⟩=some (.int .i64 ek)):=⟨w1,w2,w3⟩
     refine tk_at 0 36 (.pointer (some ⟨b,0,none⟩)) #[true,false,false,false,false,false,false,false,false,false] rfl rfl rfl (by kernel_rfl) (by rfl) (by rintro w ⟨t0,t1,t2⟩;go_simp) (by assumption) ?_
     simp only [sIb,sCs,sCz]
     refine tk_at 1 37 (.int .i64 kc) #[true,true,false,false,false,false,false,false,false,false] rfl rfl rfl (by kernel_rfl) (by rfl) (by rintro w ⟨t0,t1,t2⟩;go_simp) (by assumption) ?_
     simp only [sIb,sCs,sCz]
     refine tk_at 2 38 (.int .i64 k) #[true,true,true,false,false,false,false,false,false,false] rfl rfl rfl (by kernel_rfl) (by rfl) (by rintro w ⟨t0,t1,t2⟩;go_simp) (by assumption) ?_
     simp only [sIb,sCs,sCz]
     refine tk_at 3 39 (.pointer (some ⟨b9,k,none⟩)) #[true,true,true,true,false,false,false,false,false,false] rfl rfl rfl (by kernel_rfl) (by rfl) (by rintro w ⟨t0,t1,t2⟩;go_simp) (by assumption) ?_
     simp only [sIb,sCs,sCz]
     refine tk_at 4 40 (.int .i64 ck) #[true,true,true,true,true,false,false,false,false,false] rfl rfl rfl (by kernel_rfl) (by rfl) (by rintro w ⟨t0,t1,t2⟩;go_simp) (by assumption) ?_
     simp only [sIb,sCs,sCz]
     refine tk_at 5 41 (.int .i64 k) #[true,true,true,true,true,true,false,false,false,false] rfl rfl rfl (by kernel_rfl) (by rfl) (by rintro w ⟨t0,t1,t2⟩;go_simp) (by assumption) ?_
     simp only [sIb,sCs,sCz]
     refine tk_at 6 42 (.pointer (some ⟨b10,k,none⟩)) #[true,true,true,true,true,true,true,false,false,false] rfl rfl rfl (by kernel_rfl) (by rfl) (by rintro w ⟨t0,t1,t2⟩;go_simp) (by assumption) ?_
     simp only [sIb,sCs,sCz]
     refine tk_at 7 43 (.int .i64 ek) #[true,true,true,true,true,true,true,true,false,false] rfl rfl rfl (by kernel_rfl) (by rfl) (by rintro w ⟨t0,t1,t2⟩;go_simp) (by assumption) ?_
     simp only [sIb,sCs,sCz]
     refine tk_at 8 44 (.int .i64 (ck-ek)) #[true,true,true,true,true,true,true,true,true,false] rfl rfl rfl (by kernel_rfl) (by rfl) (by rintro w ⟨t0,t1,t2⟩;go_simp) (by assumption) ?_
     simp only [sIb,sCs,sCz]
     refine enter_at (i:=9) (d:=45) (f:=134) (args:=#[.pointer (some ⟨b,0,none⟩),.int .i64 kc,.int .i64 (ck-ek)]) #[true,true,true,true,true,true,true,true,true,true] (by kernel_rfl) rfl rfl rfl (by rfl) (by go_simp) (fun u w'=>u=.tuple #[]/\PutAt X2 w' b v' (Pack.puts t fl) (l++fl) (softP c e (k+1))) (HPS.out.mono (fun r w' he=>⟨_,he.1,rfl,he.2⟩)) ?_
     rintro va wa ⟨rfl,ha⟩
     refine ⟨by obtain ⟨_,_,a2⟩:=ha;exact cc wa a2.frm,?_⟩
     simp only [sIb,sCs,sCz]
     refine wpAnyH_done (by kernel_rfl) ?_ _
     have HA:Hid (PutAt X2 wa b v' (Pack.puts t fl) (l++fl) (softP c e (k+1))):=ha
     clear ha hS0 w1 w2 w3 cc
     gi_wp2
     exact ⟨⟨k+1,by omega,by go_num,HA.out⟩,by simp [intOf];omega⟩
    ·have hk3':¬ ((k:Int)<3):=by omega
     obtain rfl:k=3:=by omega
     have HE:Hid (PutAt W wr b v' (Pack.puts t fl) (l++fl) (Pk.soft1l z T (PX,PY))):=by
      unfold Hid
      rw [<- HST.out]
      exact PutAt.from ⟨v'',p1,p2⟩ HX.out.1
     clear p1 p2 q1 q2 q3 q4 q5 q6
     gi_wp2
     obtain ⟨q1,q2,q3,q4,q5,q6⟩:=HJ.out
     obtain ⟨u1,m1,m2⟩:=HE.out
     refine ⟨keeps_cells m2.frm q1.isCells,m2.frm.block G (heap_lt0 q5) (fun e=>e.elim (fun e=>by have:=HGH.out;omega) (fun e=>(q2.loc _ e).elim (fun e=>by have:=HV.out.2 _ e;have:=HGH.out;omega) (fun e=>by omega))),u1,?_,q2.trans m2⟩
     rw [List.map_append,List.flatMap_append,<- q6,puts_app',<- List.append_assoc]
     simpa using m1
 case done =>
  rintro D xs W hD hxs i1 hK
  have HP:Hid (PutAt w W b v t l (Pk.softl z T x y n)):=by
   have i2:PutAt XG W b v t l ((xs.map (·.1)).flatMap (Pk.soft1l z T)):=i1
   rw [hxs] at i2
   exact i2.from HH.out.2.2
  have HK:Hid (W.heap[D]?=some (.deferred (some []))):=hK
  clear i1 hK hxs
  go_wp2_with fail
  have hg:=grownBy_putObj' W D (.deferred none)
  have fg:Frm (fun k=>k=D) W (W.putObj D (.deferred none)):=(Frm.refl _ W).grown hg (fun k e=>by cases e;exact .inl rfl)
  refine retM_mark (v:=.bool true) rfl HK.out (by simp [results,Tryz.results107,go_sem]) ⟨rfl,?_⟩
  obtain ⟨v',j1,j2⟩:=HP.out
  have hne:∀ k,(k=b \/ v'.ownBlock=some k)->¬ k=D:=fun k hk e=>by
   obtain ⟨cs,tt,fr,h1⟩:=j1.isCells k hk
   rw [e,HK.out] at h1
   cases h1
  refine ⟨v',j1.frm fg (hne b (.inl rfl)) (fun k e=>hne k (.inr e)),?_,j2.loc⟩
  refine ⟨fg.os.trans j2.frm.os,fg.tape.trans j2.frm.tape,fg.output.trans j2.frm.output,Nat.le_trans j2.frm.size fg.size,fun k hk hs=>(fg.block k (Nat.lt_of_lt_of_le hk j2.frm.size) (fun e=>by have:=HH.out.1;have:=HH.out.2.2.size;omega)).trans (j2.frm.block k hk hs)⟩
 case stop =>
  rintro D c pre W hD hpre hf hK
  exact hf.elim
end
end Go.Proofs.YtekfbphnoibnjaaGreatDoor
