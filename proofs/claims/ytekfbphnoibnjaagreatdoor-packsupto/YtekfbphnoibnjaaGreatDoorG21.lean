/-
  LPut PDr PDr2 PPut PPut2 PSoftG PExp1 PExpA
-/
import Derived.Test.YtekfbphnoibnjaaGreatDoorG20
import Derived.Lib.BitFns
import Derived.Lib.Small
import Derived.Lib.Walk
import Derived.Test.YtekfbphnoibnjaaGreatDoorG19
set_option maxHeartbeats 4000000
namespace Go.Proofs.YtekfbphnoibnjaaGreatDoor
section
open Go.RowKit
def vLo (B:Nat) (v:Value):Prop:=∀ k,v.ownBlock=some k->B<=k
theorem PW.crs {w:World} {B b:Nat} {v:Value} {t:WS} (h:PW w B b v t):Crs w b t.rng t.ch:=⟨h.c2,h.fz 0 (by decide),h.ch⟩
theorem PW.part {w w':World} {B b:Nat} {v:Value} {t:WS} (h:PW w B b v t) {r:Int} {ch:List Int} (hc:Crs w' b r ch) (hp:Part b w w'):PW w' B b v { t with rng:=r,ch:=ch } :=
 ⟨(hp.cell 401 (by decide)).trans h.c0,by have:=h.own;unfold Octs at this ⊢;exact hp.frm.owns this (fun k hk e=>h.ne (by rw [hk,e])),h.ne,(hp.cell 402 (by decide)).trans h.c1,hc.c2,fun o ho=>(hp.fz o).trans (h.fz o ho),hc.ch,Nat.lt_of_lt_of_le h.up hp.frm.size⟩
theorem put_done {wr w5:World} {B b gg cap:Nat} {v:Value} {q:WS} {L:Int} (h:PW wr B b v q) (ho:w5.ownsRow B 5 1 (.slice (some ⟨gg,0,none⟩) (q.m+1) cap) (q.m+1) (octs (Pack.digs q.m (q.n / 4294967296))++[.int .u8 (L / 16777216 % 256)]))
  (hb:w5.heap[b]?=wr.heap[b]?) (hz:wr.heap.size<=w5.heap.size) (hat:v.ownBlock=some gg \/ gg=wr.heap.size+1) (hL:L=q.n % 4294967296) (hbup:b<wr.heap.size) :
  PW ((w5.setCell ⟨b,401,none⟩ (.slice (some ⟨gg,0,none⟩) (q.m+1) cap)).setCell ⟨b,402,none⟩ (.int .u32 (L*256 % 4294967296))) B b (.slice (some ⟨gg,0,none⟩) (q.m+1) cap) { q with n:=256*q.n,m:=q.m+1 }:=by
 have hg:gg ≠ b:=by
  rcases hat with h'|h'
  ·exact fun e=>h.ne (by rw [h',e])
  ·omega
 rw [show L*256 % 4294967296=256*q.n % 4294967296 by omega]
 have hne:(Value.slice (some ⟨gg,0,none⟩) (q.m+1) cap).ownBlock ≠ some b:=by simp [Value.ownBlock];exact hg
 have hc:∀ o,w5.cell? ⟨b,o,none⟩=wr.cell? ⟨b,o,none⟩:=fun o=>World.cell?_of_block (a:=⟨b,o,none⟩) hb
 have ho':Octs w5 B (.slice (some ⟨gg,0,none⟩) (q.m+1) cap) (Pack.digs (q.m+1) (256*q.n / 4294967296)):=by
  unfold Octs
  rw [Pack.digs_length,Pack.digs,<- octs_snoc]
  rw [show 256*q.n / 4294967296 / 256=q.n / 4294967296 by omega,show 256*q.n / 4294967296 % 256=L / 16777216 % 256 by omega]
  exact ho
 refine ⟨cell_off (World.cell?_setCell_same _ _ _ ((hc 401).trans h.c0)) (.inr (by decide)),(ho'.set b 401 _ hne).set b 402 _ hne,hne,?_,?_,fun o hlt=>?_,?_,?_⟩
 ·exact World.cell?_setCell_same _ _ _ (cell_off ((hc 402).trans h.c1) (.inr (by decide)))
 ·exact cell_off (cell_off ((hc 0).trans h.c2) (.inr (by decide))) (.inr (by decide))
 ·simp only [World.frozen?_setCell]
  exact (World.frozen?_of_block (a:=⟨b,o,none⟩) hb).trans (h.fz o hlt)
 ·exact ((h.ch.on hb).off (.inr (.inr (by decide)))).off (.inr (.inr (by decide)))
 ·simp only [World.size_setCell];exact Nat.lt_of_lt_of_le h.up hz
theorem put_parts (t:WS) (k:Nat) (x:Int) (hx:x=0 \/ x=1):Pack.put t k x=if Pack.shifts t k x=1 then { t with n:=256*(t.n+Pack.rise t k x),m:=t.m+1,rng:=(Pack.put t k x).rng,ch:=(Pack.put t k x).ch } else { t with n:=t.n+Pack.rise t k x,rng:=(Pack.put t k x).rng,ch:=(Pack.put t k x).ch }:=by
 have hn:(Pack.half t k x).n=t.n+Pack.rise t k x:=by
  unfold Pack.half Pack.rise
  rcases hx with rfl|rfl
  ·simp [Pack.zero]
  ·simp [Pack.one]
 have hm:=Pack.half_m t k x
 rw [Pack.put_eq]
 unfold Pack.norm Pack.shifts
 by_cases h:(Pack.half t k x).rng<16777216
 ·rw [if_pos h,if_pos h,if_pos rfl]
  unfold Pack.pull
  rw [hn,hm]
 ·rw [if_neg h,if_neg h,if_neg (by decide),<- hn,<- hm]
theorem shifts_or (t:WS) (k:Nat) (x:Int):Pack.shifts t k x=0 \/ Pack.shifts t k x=1:=by unfold Pack.shifts;split <;> simp
set_option maxRecDepth 20000 in
theorem pPut (w:World) (B b:Nat) (v:Value) (t:WS) (k:Nat) (x:Int) (h:PW w B b v t) (ok:Pack.Ok t) (hm:t.m<=200000) (hk:k<400) (hx:x=0 \/ x=1) (hbB:B<=b) (hBw:B<=w.heap.size) (hvB:vLo B v) :
  Calls Tryz.prog 82 #[.pointer (some ⟨b,0,none⟩),.int .i64 k,.int .i64 x] w fun e w'=>e=.returned (.tuple #[])/\∃ v',PW w' B b v' (Pack.put t k x)/\vLo B v'/\Below B w w':=by
 obtain ⟨Rs,hRs⟩:∃ Rs,Rs=Pack.rise t k x:=⟨_,rfl⟩
 obtain ⟨Sh,hSh⟩:∃ Sh,Sh=Pack.shifts t k x:=⟨_,rfl⟩
 obtain ⟨P,hP⟩:∃ P,P=Pack.put t k x:=⟨_,rfl⟩
 have HT:=pTake w b t k x h.crs ok hk hx
 have HPP:Hid (P=if Sh=1 then { t with n:=256*(t.n+Rs),m:=t.m+1,rng:=P.rng,ch:=P.ch } else { t with n:=t.n+Rs,rng:=P.rng,ch:=P.ch }):=by
  unfold Hid;rw [hP,hSh,hRs];exact put_parts t k x hx
 have hcb:=Pack.cut_bd ok hk
 have r1:=ok.r1
 have n0:=ok.n0
 have Rb:0<=Rs/\Rs<=4294967295:=by rw [hRs];unfold Pack.rise;split <;> omega
 have Sb:=shifts_or t k x
 rw [<- hSh] at Sb
 rw [<- hRs,<- hSh,<- hP] at HT
 rw [<- hP]
 have HTT:Hid (Calls Tryz.prog 117 #[.pointer (some ⟨b,0,none⟩),.int .i64 k,.int .i64 x] w fun e w'=>e=.returned (.tuple #[.int .u32 Rs,.int .i64 Sh])/\Crs w' b P.rng P.ch/\Part b w w'):=HT
 have HH:Hid (PW w B b v t):=h
 have hup:=h.up
 clear HT hRs hSh hP hcb ok h
 go_enter Tryz.func82,Tryz.ntmps82
 go_wp2_with (first
  | (go_at_call 117;refine HTT.out.mono ?_;rintro e w1 ⟨rfl,hc1,hp1⟩)
  | (go_at_call 118;refine (pRaise _ B b v { t with rng:=P.rng,ch:=P.ch } Rs (by show t.m<=1000000;omega) (HH.out.part hc1 hp1) Rb.1 Rb.2).mono ?_;rintro e w2 ⟨rfl,hp2,hf2⟩))
 obtain ⟨q,hq⟩:∃ q:WS,q={ t with n:=t.n+Rs,rng:=P.rng,ch:=P.ch }:=⟨_,rfl⟩
 have hq0:0<=q.n:=by rw [hq];show 0<=t.n+Rs;omega
 have hqm:q.m<=200000:=by rw [hq];exact hm
 have HQ:Hid (P=if Sh=1 then { q with n:=256*q.n,m:=q.m+1 } else q):=by rw [hq];exact HPP.out
 have hb2:Below B w w2:=(hp1.frm.below hBw (fun j e=>by rw [e];exact hbB)).trans (hf2.below (Nat.le_trans hBw hp1.frm.size) (fun j hj=>by rcases hj with rfl|hj;exact hbB;exact hvB j hj))
 have hpq:PW w2 B b v q:=by rw [hq];exact hp2
 have HPQ:Hid (PW w2 B b v q/\Below B w w2):=⟨hpq,hb2⟩
 clear hc1 hp1 hp2 hf2 hb2 hpq hq HPP
 go_loopw [21] (fun iv wr=>(iv=.int .i64 0/\wr=w2) \/ (iv=.int .i64 1/\Sh=1/\(∃ v',PW wr B b v' { q with n:=256*q.n,m:=q.m+1 }/\vLo B v')/\Below B w wr)) (fun iv _=>1-(intOf iv).toNat)
 case atStart=>exact .inl ⟨rfl,rfl⟩
 case round =>
  rcases hrel with ⟨rfl,rfl⟩|⟨rfl,hS1,⟨v',hp,hvl⟩,hbr⟩
  ·rcases Sb with hS|hS
   ·subst hS
    go_wp2
    go_end0
    refine ⟨rfl,v,?_,hvB,HPQ.out.2⟩
    rw [HQ.out,if_neg (by decide)]
    exact HPQ.out.1
   ·subst hS
    have hp:=HPQ.out.1
    have hbr:=HPQ.out.2
    have i0:=hp.c0
    have i1:=hp.c1
    have f0:=hp.fz 401 (by decide)
    have f1:=hp.fz 402 (by decide)
    obtain ⟨k0,hi',hy0,hy1,hy2⟩:=info_parts infoU8
    have hpo:=hp.own
    unfold Octs at hpo
    rw [Pack.digs_length] at hpo
    obtain ⟨L,hL⟩:∃ L,L=q.n % 4294967296:=⟨_,rfl⟩
    rw [<- hL] at i1
    have L0:0<=L:=by omega
    have L1:L<=4294967295:=by omega
    have HL:Hid (L=q.n % 4294967296):=hL
    clear hL
    have hbup:=hp.up
    have hne:=hp.ne
    have hBr:B<=wr.heap.size:=by have:=hbr.size;omega
    have HBR:Hid (Below B w wr):=hbr
    clear hp hbr
    go_wp2
    go_region_law ((refine step_append_lies _ (by rfl) _ _ _ (by rfl) B 5 k0 _ 1 1 Tryz.underlying101 hi' hy0 hy1 hy2 rfl (by omega) v q.m (octs (Pack.digs q.m (q.n / 4294967296))) (by rfl) ((hpo.alloc _).drew) ⟨wr.heap.size,0,none⟩ 1 1 [.int .u8 (L / 16777216 % 256)] (by rfl) (by rfl) (World.news_of_block (cs:=#[.int .u8 (L / 16777216 % 256)]) (t:=5) (fr:=(0,0)) (heap_alloc_new wr _)) (by simp [Value.oneCell']) (by omega) (by unfold maxLen;omega) (by omega) (by simp;omega) (wr.heap.size+1) (by simp) ?_;intro gg cap w5 hown5 hgrow hat hlt5;have sf5:w5.frozen? ⟨b,401,none⟩=false:=((hgrow.frozen_far ⟨b,401,none⟩ (by simp;omega) (Ne.symm hne)).trans (frozen_alloc_drew hbup)).trans f0;have sc5:w5.cell? ⟨b,401,none⟩=some v:=((hgrow.cell_far ⟨b,401,none⟩ (by simp;omega) (Ne.symm hne)).trans (cell_alloc_drew hbup)).trans i0))
    all_goals
     have hsz5:=hgrow.size
     have hblk:w5.heap[b]?=wr.heap[b]?:=(hgrow.block b (by simp;omega) (Ne.symm hne)).trans (Below.heap_alloc wr _ b hbup)
     have sc1:w5.cell? ⟨b,402,none⟩=some (.int .u32 L):=(World.cell?_of_block (a:=⟨b,402,none⟩) hblk).trans i1
     have sf1:w5.frozen? ⟨b,402,none⟩=false:=(World.frozen?_of_block (a:=⟨b,402,none⟩) hblk).trans f1
     have HGH:Hid ((wr.alloc (Obj.cells #[Value.int IntKind.u8 (IntKind.u8.wrap (L / 16777216))] 5)).drew.grownBy w5 v.ownBlock):=hgrow
     clear hgrow
     go_wp2
     go_roundw
     case rel =>
      refine .inr ⟨rfl,trivial,⟨_,put_done HPQ.out.1 hown5 hblk (by simp at hsz5;omega) hat HL.out hbup,fun j hj=>by injection hj with hj;exact hj ▸ (World.ownsRow.lt hown5 gg rfl).1⟩,?_⟩
      exact (((HBR.out.alloc hBr _).trans (below_drew (Below.refl B _))).grown HGH.out (by simp;omega) (fun j e=>hvB j e)).setCell hbB _ |>.setCell hbB _
     case measure=>simp [intOf]
  ·subst hS1
   go_wp2
   go_end0
   refine ⟨rfl,v',?_,hvl,hbr⟩
   rw [HQ.out,if_pos trivial]
   exact hp
end
section
open Go.RowKit
def stepCells (l:List (Nat × Int)):List Value:=l.flatMap fun p=>[.int .u16 p.1,.int .u8 p.2]
theorem stepCells_len (l:List (Nat × Int)):(stepCells l).length=l.length*2:=by
 induction l with
 | nil=>rfl
 | cons b bs ih=>simp [stepCells] at ih ⊢;omega
theorem stepCells_app (l r:List (Nat × Int)):stepCells (l++r)=stepCells l++stepCells r:=by simp [stepCells]
theorem stepCells_get (l:List (Nat × Int)) (i:Nat) (h:i<l.length):(stepCells l)[i*2]?=some (.int .u16 (l.getD i (0,0)).1)/\(stepCells l)[i*2+1]?=some (.int .u8 (l.getD i (0,0)).2):=by
 induction l generalizing i with
 | nil=>simp at h
 | cons b bs ih =>
  have e:stepCells (b :: bs)=.int .u16 b.1 :: .int .u8 b.2 :: stepCells bs:=by simp [stepCells]
  rw [e]
  cases i with
  | zero=>simp
  | succ i =>
   have:=ih i (by simpa using h)
   rw [show (i+1)*2=i*2+1+1 by omega]
   simpa using this
theorem oneCell_steps (l:List (Nat × Int)):∀ u ∈ stepCells l,u.oneCell'=true:=by
 intro u hu
 unfold stepCells at hu
 obtain ⟨b,_,hb⟩:=List.mem_flatMap.1 hu
 simp at hb
 rcases hb with rfl|rfl <;> rfl
theorem infoStep:(Tryz.prog.info? 159).map (fun i=>(i.zero,i.size,i.bytes))=some (some (.agg #[.int .u16 0,.int .u8 0]),2,4):=by kernel_rfl
theorem drInfo:(Tryz.prog.info? 151).map (fun i=>(i.zero,i.size))=some (some (.agg ((#[.int .u32 0]++Array.replicate 400 (.int .u32 0))++#[.int .i64 0,.slice none 0 0])),403):=by kernel_rfl
structure DrAt (w:World) (b:Nat) (v:Value) (t:WS) (l:List (Nat × Int)):Prop where
 crs:Crs w b t.rng t.ch
 sh:w.cell? ⟨b,401,none⟩=some (.int .i64 t.m)
 bits:w.cell? ⟨b,402,none⟩=some v
 own:w.ownsRow 0 159 2 v l.length (stepCells l)
 ne:v.ownBlock ≠ some b
 fz:∀ o,o<403->w.frozen? ⟨b,o,none⟩=false
 up:b<w.heap.size
theorem Crs.on {w w':World} {b:Nat} {r:Int} {ch:List Int} (h:Crs w b r ch) (hb:w'.heap[b]?=w.heap[b]?):Crs w' b r ch :=
 ⟨(World.cell?_of_block (a:=⟨b,0,none⟩) hb).trans h.c2,(World.frozen?_of_block (a:=⟨b,0,none⟩) hb).trans h.f2,h.ch.on hb⟩
theorem DrAt.frm {S:Nat->Prop} {w w':World} {b:Nat} {v:Value} {t:WS} {l:List (Nat × Int)} (h:DrAt w b v t l) (f:Frm S w w') (hb:¬ S b) (hv:∀ k,v.ownBlock=some k->¬ S k):DrAt w' b v t l:=by
 have e:=f.block b h.up hb
 refine ⟨h.crs.on e,(World.cell?_of_block (a:=⟨b,401,none⟩) e).trans h.sh,(World.cell?_of_block (a:=⟨b,402,none⟩) e).trans h.bits,?_,h.ne,fun o ho=>(World.frozen?_of_block (a:=⟨b,o,none⟩) e).trans (h.fz o ho),Nat.lt_of_lt_of_le h.up f.size⟩
 exact f.owns h.own hv
theorem DrAt.below {w w':World} {b:Nat} {v:Value} {t:WS} {l:List (Nat × Int)} (h:DrAt w b v t l) (f:Below w.heap.size w w'):DrAt w' b v t l :=
 h.frm (Frm.of_below (S:=fun _=>False) f) (fun e=>e) (fun _ _ e=>e)
structure Wr (b:Nat) (v:Value) (w w':World) (v':Value):Prop where
 frm:Frm (fun k=>k=b \/ v.ownBlock=some k) w w'
 loc:∀ k,v'.ownBlock=some k->v.ownBlock=some k \/ w.heap.size<=k
theorem Wr.refl (b:Nat) (v:Value) (w:World):Wr b v w w v:=⟨Frm.refl _ _,fun _ e=>.inl e⟩
theorem Wr.trans {b:Nat} {v v' v'':Value} {w w' w'':World} (h:Wr b v w w' v') (k:Wr b v' w' w'' v''):Wr b v w w'' v'':=by
 refine ⟨⟨k.frm.os.trans h.frm.os,k.frm.tape.trans h.frm.tape,k.frm.output.trans h.frm.output,Nat.le_trans h.frm.size k.frm.size,fun i hi hn=>(k.frm.block i (Nat.lt_of_lt_of_le hi h.frm.size) fun e=>?_).trans (h.frm.block i hi hn)⟩,fun i e=>?_⟩
 ·rcases e with e|e
  ·exact hn (.inl e)
  ·rcases h.loc i e with e|e
   ·exact hn (.inr e)
   ·omega
 ·rcases k.loc i e with e|e
  ·exact h.loc i e
  ·exact .inr (Nat.le_trans h.frm.size e)
theorem Wr.below {b:Nat} {v v':Value} {w w' w'':World} (h:Wr b v w w' v') (k:Below w'.heap.size w' w''):Wr b v w w'' v':=⟨h.frm.trans (Frm.of_below k),h.loc⟩
set_option maxRecDepth 20000 in
theorem pNewDraft (w:World) :
  Calls Tryz.prog 39 #[] w fun x w'=>∃ b,x=.returned (.pointer (some ⟨b,0,none⟩))/\w.heap.size<=b/\DrAt w' b (.slice none 0 0) Pack.init []/\Below w.heap.size w w':=by
 obtain ⟨hzero,hsize⟩:=zero_of_info drInfo
 obtain ⟨Z,hZ⟩:∃ Z,Z=(#[Value.int .u32 0]++Array.replicate 400 (.int .u32 0))++#[Value.int .i64 0,.slice none 0 0]:=⟨_,rfl⟩
 rw [<- hZ] at hzero
 have hY:(#[Value.int .u32 0]++Array.replicate 400 (Value.int .u32 0)).size=401:=by rw [Array.size_append,Array.size_replicate];rfl
 have hZs:Z.size=403:=by rw [hZ,Array.size_append,hY];rfl
 have hZ0:Z[401]?=some (.int .i64 0):=by rw [hZ,Array.getElem?_append_right (by rw [hY];exact Nat.le_refl _),hY];rfl
 have hZ1:Z[402]?=some (.slice none 0 0):=by rw [hZ,Array.getElem?_append_right (by rw [hY];decide),hY];rfl
 have hZn:Z ≠ #[]:=fun e=>by rw [e] at hZs;exact absurd hZs (by decide)
 obtain ⟨E,hE⟩:∃ E,E=crsEven:=⟨_,rfl⟩
 have hNC:=fun w=>pNewCourse w
 rw [<- hE] at hNC
 have hcs:E.size=401:=by rw [hE];exact crsEven_size
 have HE:Hid (E=crsEven):=hE
 clear hZ hsize hY hE
 go_enter Tryz.func39,Tryz.ntmps39
 go_wp2_with (go_at_call 75;refine (hNC _).mono ?_;rintro e w1 ⟨rfl,hb⟩)
 obtain ⟨C,hC⟩:∃ C,C=Array.foldl (fun cs x=>cs.setIfInBounds x.snd x.fst) Z E.zipIdx 0 401:=⟨_,rfl⟩
 rw [<- hC]
 have hC':C=laidAt Z 0 crsEven:=by
  rw [hC,<- HE.out];unfold laidAt;rw [hcs];simp only [Nat.zero_add]
 have HR:DrAt (w1.alloc (.cells C 151)) w1.heap.size (.slice none 0 0) Pack.init []:=by
  rw [hC']
  refine ⟨⟨crs_laid0 w1 _ _ hZs,by simp,crs_laid w1 _ _ hZs⟩,?_,?_,World.ownsRow_nil _ _ _ _,by simp [Value.ownBlock],fun o _=>by simp,by simp⟩
  ·rw [crs_laid2 w1 _ _ 401 (by decide),hZ0];rfl
  ·rw [crs_laid2 w1 _ _ 402 (by decide),hZ1]
 go_ret
 exact ⟨_,rfl,hb.size,HR,hb.alloc hb.size _⟩
end
section
open Go.RowKit
theorem u16_id {k:Nat} (h:k<400):IntKind.u16.wrap (k:Int)=k:=by rw [IntKind.wrap_u16];omega
theorem u8_id {x:Int} (h:x=0 \/ x=1):IntKind.u8.wrap x=x:=by rw [IntKind.wrap_u8];omega
theorem put_m (t:WS) (k:Nat) (x:Int) (hx:x=0 \/ x=1):((Pack.put t k x).m:Int)=t.m+Pack.shifts t k x:=by
 rw [put_parts t k x hx]
 rcases shifts_or t k x with e|e
 ·rw [e,if_neg (by decide)];simp
 ·rw [e,if_pos rfl];simp
theorem Crs.far {w:World} {b:Nat} {r:Int} {ch:List Int} (h:Crs w b r ch) {o:Nat} (ho:401<=o) (u:Value):Crs (w.setCell ⟨b,o,none⟩ u) b r ch :=
 ⟨cell_off h.c2 (.inr (by omega)),(World.frozen?_setCell _ _ _ _).trans h.f2,h.ch.off (.inr (.inr (by omega)))⟩
theorem news_after (w:World) (p:Addr) (u:Value) (cs:Array Value) (t:TypeId):∀ j x,cs.toList[j]?=some x->((w.setCell p u).alloc (.cells cs t)).cell? ((⟨w.heap.size,0,none⟩:Addr).add j)=some x:=by
 have h:=heap_alloc_last (w.setCell p u) (.cells cs t)
 rw [World.size_setCell] at h
 exact World.news_of_block h
set_option maxRecDepth 20000 in
theorem pDPut (w:World) (b:Nat) (v:Value) (t:WS) (l:List (Nat × Int)) (k:Nat) (x:Int) (h:DrAt w b v t l) (ok:Pack.Ok t) (hm:t.m<=1000000) (hl:l.length<=1000000) (hk:k<400) (hx:x=0 \/ x=1) :
  Calls Tryz.prog 114 #[.pointer (some ⟨b,0,none⟩),.int .i64 k,.int .i64 x] w fun e w'=>e=.returned (.tuple #[])/\∃ v',DrAt w' b v' (Pack.put t k x) (l++[(k,x)])/\Wr b v w w' v':=by
 obtain ⟨Rs,hRs⟩:∃ Rs,Rs=Pack.rise t k x:=⟨_,rfl⟩
 obtain ⟨Sh,hSh⟩:∃ Sh,Sh=Pack.shifts t k x:=⟨_,rfl⟩
 obtain ⟨P,hP⟩:∃ P,P=Pack.put t k x:=⟨_,rfl⟩
 have HT:=pTake w b t k x h.crs ok hk hx
 have hPm:(P.m:Int)=t.m+Sh:=by rw [hP,hSh];exact put_m t k x hx
 have Sb:=shifts_or t k x
 rw [<- hSh] at Sb
 rw [<- hRs,<- hSh,<- hP] at HT
 rw [<- hP]
 have HTT:Hid (Calls Tryz.prog 117 #[.pointer (some ⟨b,0,none⟩),.int .i64 k,.int .i64 x] w fun e w'=>e=.returned (.tuple #[.int .u32 Rs,.int .i64 Sh])/\Crs w' b P.rng P.ch/\Part b w w'):=HT
 have HH:Hid (DrAt w b v t l):=h
 have hup:=h.up
 have hne:=h.ne
 have wM:wrap64 ((t.m:Int)+Sh)=t.m+Sh:=by unfold wrap64;omega
 have w16:=u16_id hk
 have w8:=u8_id hx
 obtain ⟨k0,hi',hy0,hy1,hy2⟩:=info_parts infoStep
 clear HT hRs hSh hP ok h
 go_enter Tryz.func114,Tryz.ntmps114
 go_wp2_with (first
  | (go_at_call 117;refine HTT.out.mono ?_;rintro e w1 ⟨rfl,hc1,hp1⟩;have i0:=(hp1.cell 401 (by decide)).trans HH.out.sh;have i1:=(hp1.cell 402 (by decide)).trans HH.out.bits;have f0:=(hp1.fz 401).trans (HH.out.fz 401 (by decide));have f1:=(hp1.fz 402).trans (HH.out.fz 402 (by decide)))
  | (at_builtin;refine wpList_append_lies _ rfl (.tmp 29) (.tmp 35) 149 rfl 0 159 k0 _ 2 4 Tryz.underlying149 hi' hy0 hy1 hy2 rfl (by omega) v l.length (stepCells l) rfl (((hp1.frm.owns HH.out.own (fun j e e2=>hne (e2 ▸ e))).kept (grown_setCell w1 b 401 _) (.inr hne)).alloc _) ⟨w1.heap.size,0,none⟩ 1 1 [.int .u16 k,.int .u8 x] rfl rfl (news_after w1 ⟨b,401,none⟩ _ #[.int .u16 k,.int .u8 x] 159) (oneCell_steps [(k,x)]) (by omega) (by unfold maxLen;omega) (by omega) (Nat.zero_le _) (w1.heap.size+1) (by simp) ?_;intro gg cap w5 hown5 hgrow hat hlt5;have hup1:=Nat.lt_of_lt_of_le hup hp1.frm.size;have hblk:w5.heap[b]?=(w1.setCell ⟨b,401,none⟩ (.int .i64 (t.m+Sh))).heap[b]?:=(hgrow.block b (by simp;omega) (Ne.symm hne)).trans (Below.heap_alloc _ _ b (by simp;exact hup1));have sc5:w5.cell? ⟨b,402,none⟩=some v:=(World.cell?_of_block (a:=⟨b,402,none⟩) hblk).trans (cell_off i1 (.inr (by decide)));have sf5:w5.frozen? ⟨b,402,none⟩=false:=(World.frozen?_of_block (a:=⟨b,402,none⟩) hblk).trans ((World.frozen?_setCell _ _ _ _).trans f1);have HG:Hid (World.grownBy _ w5 v.ownBlock):=hgrow;clear hgrow))
 go_end0
 have hgg:gg ≠ b:=by
  rcases hat with e|e
  ·exact fun e2=>hne (e2 ▸ e)
  ·omega
 have hsz:=HG.out.size
 have hps:=hp1.frm.size
 simp only [World.size_alloc,World.size_setCell] at hsz
 refine ⟨rfl,.slice (some ⟨gg,0,none⟩) (l.length+1) cap,⟨((hc1.far (o:=401) (Nat.le_refl _) _).on hblk).far (by decide) _,?_,World.cell?_setCell_same _ _ _ sc5,?_,?_,fun o ho=>?_,?_⟩,?_,?_⟩
 ·rw [hPm]
  exact cell_off ((World.cell?_of_block (a:=⟨b,401,none⟩) hblk).trans (World.cell?_setCell_same _ _ _ i0)) (.inr (by decide))
 ·rw [stepCells_app,List.length_append]
  exact hown5.kept (grown_setCell w5 b 402 _) (.inr (by simp [Value.ownBlock];exact hgg))
 ·simp [Value.ownBlock];exact hgg
 ·rw [World.frozen?_setCell,World.frozen?_of_block (a:=⟨b,o,none⟩) hblk,World.frozen?_setCell]
  exact (hp1.fz o).trans (HH.out.fz o ho)
 ·rw [World.size_setCell];omega
 ·refine Frm.setCell ?_ (.inl (.inl rfl)) _
  have f1:Frm (fun k=>k=b \/ v.ownBlock=some k) w w1:=hp1.frm.mono fun _ _ e=>.inl e
  exact ((f1.setCell (.inl (.inl rfl)) _).alloc _).grown HG.out fun j e=>.inl (.inr e)
 ·intro j e
  simp [Value.ownBlock] at e
  subst e
  rcases hat with e|e
  ·exact .inl e
  ·exact .inr (by omega)
end
section
open Go.RowKit
def PutAt (w w':World) (b:Nat) (v:Value) (t:WS) (l p:List (Nat × Int)):Prop:=∃ v',DrAt w' b v' (Pack.puts t p) (l++p)/\Wr b v w w' v'
structure Room (t:WS) (l:List (Nat × Int)) (n:Nat):Prop where
 ok:Pack.Ok t
 m:t.m+n<=1000000
 l:l.length+n<=1000000
theorem Room.le {t:WS} {l:List (Nat × Int)} {n k:Nat} (h:Room t l n) (hk:k<=n):Room t l k:=⟨h.ok,by have:=h.m;omega,by have:=h.l;omega⟩
theorem PutAt.refl {w:World} {b:Nat} {v:Value} {t:WS} {l:List (Nat × Int)} (h:DrAt w b v t l):PutAt w w b v t l []:=⟨v,by rw [List.append_nil];exact h,Wr.refl _ _ _⟩
theorem PutAt.below {w w' w'':World} {b:Nat} {v:Value} {t:WS} {l p:List (Nat × Int)} (h:PutAt w w' b v t l p) (k:Below w'.heap.size w' w''):PutAt w w'' b v t l p:=by
 obtain ⟨v',h1,h2⟩:=h
 exact ⟨v',h1.below k,h2.below k⟩
theorem PutAt.step {w wr:World} {b:Nat} {v:Value} {t:WS} {l p:List (Nat × Int)} (h:PutAt w wr b v t l p) (ro:Room t l (p.length+1)) (op:Pack.BitsOk p) {k:Nat} {x:Int} (hk:k<400) (hx:x=0 \/ x=1) :
  Calls Tryz.prog 114 #[.pointer (some ⟨b,0,none⟩),.int .i64 k,.int .i64 x] wr fun e w'=>e=.returned (.tuple #[])/\PutAt w w' b v t l (p++[(k,x)]):=by
 obtain ⟨v',hd,hw⟩:=h
 have h1:=Pack.puts_m p t
 have h2:=ro.m
 have h3:=ro.l
 refine (pDPut wr b v' _ _ k x hd (Pack.puts_ok p t ro.ok fun q hq=>(op q hq).1) (by omega) (by rw [List.length_append];omega) hk hx).mono ?_
 rintro e w' ⟨rfl,v'',d,r⟩
 exact ⟨rfl,v'',by rw [Pack.puts_snoc,<- List.append_assoc];exact d,hw.trans r⟩
theorem tab_size:Lib.len8tab.size=256:=by kernel_rfl
set_option maxRecDepth 100000 in
theorem tab_fin:∀ n:Fin 256,(Lib.len8tab[n.val]'(by rw [tab_size];exact n.isLt)).toNat=Lib.bitLen n.val:=by decide +kernel
theorem tab_at (n:Nat) (h:n<Lib.len8tab.size):(Lib.len8tab[n]'h).toNat=Lib.bitLen n:=tab_fin ⟨n,by rw [tab_size] at h;exact h⟩
theorem bitLen_small (n:Nat) (h:n<256):Lib.bitLen n<=8:=Lib.bitLen_le8 ⟨n,h⟩
set_option maxRecDepth 100000 in
theorem pLen64 (w:World) (x:Int) (h0:0<=x) (h1:x<1024) :
  Calls Tryz.prog 187 #[.int .u64 x] w fun e w'=>e=.returned (.int .i64 (Lib.bitLen x.toNat))/\w'=w:=by
 by_cases h:x<256
 ·go_enter Tryz.func187,Tryz.ntmps187
  go_wp2
  go_ret
  refine ⟨congrArg Ending.returned (congrArg (Value.int IntKind.i64) ?_),rfl⟩
  have l:=bitLen_small x.toNat (by omega)
  rw [tab_at]
  unfold wrap64
  omega
 ·have hsz:0<=x / 256/\x / 256<(Lib.len8tab.size:Int):=by rw [tab_size];omega
  go_enter Tryz.func187,Tryz.ntmps187
  go_wp2
  go_ret
  refine ⟨congrArg Ending.returned (congrArg (Value.int IntKind.i64) ?_),rfl⟩
  have l:=bitLen_small (x.toNat / 256) (by omega)
  have s:=Lib.bitLen_shift8 x.toNat (by omega) (by omega)
  rw [tab_at,show (x / 256).toNat=x.toNat / 256 by omega]
  unfold wrap64
  omega
end
section
open Go.RowKit
open Pk (num sgn dig fold ones lowb)
set_option maxRecDepth 100000 in
theorem bitLen_fin:∀ n:Fin 1024,Lib.bitLen n.val=if n.val=0 then 0 else Nat.log2 n.val+1:=by decide +kernel
theorem bitLen_dig {m:Nat} (h:m<=1022):Lib.bitLen (m+1)=dig m+1:=by
 have:=bitLen_fin ⟨m+1,by omega⟩
 rw [if_neg (by simp)] at this
 exact this
set_option maxRecDepth 20000 in
theorem pLen (w:World) (x:Int) (h0:0<=x) (h1:x<1024) :
  Calls Tryz.prog 180 #[.int .u64 x] w fun e w'=>e=.returned (.int .i64 (Lib.bitLen x.toNat))/\w'=w:=by
 go_enter Tryz.func180,Tryz.ntmps180
 go_wp2_with (go_at_call 187;refine (pLen64 _ x h0 h1).mono ?_;rintro e w' ⟨rfl,rfl⟩)
 go_ret
 exact ⟨rfl,rfl⟩
set_option maxRecDepth 20000 in
theorem pDigits (w:World) (m:Nat) (hm:m<=1022) :
  Calls Tryz.prog 162 #[.int .i64 m] w fun e w'=>e=.returned (.int .i64 (dig m))/\w'=w:=by
 have w1:wrap64 ((m:Int)+1)=m+1:=by unfold wrap64;omega
 have w2:IntKind.u64.wrap ((m:Int)+1)=m+1:=by rw [IntKind.wrap_u64];omega
 have hb:=bitLen_dig hm
 have hd:=Pk.dig_le hm
 have w3:wrap64 ((Lib.bitLen ((m:Int)+1).toNat:Int)-1)=dig m:=by
  rw [show ((m:Int)+1).toNat=m+1 by omega,hb];unfold wrap64;omega
 go_enter Tryz.func162,Tryz.ntmps162
 go_wp2_with (go_at_call 180;refine (pLen _ ((m:Int)+1) (by omega) (by omega)).mono ?_;rintro e w' ⟨rfl,rfl⟩)
 go_ret
 exact ⟨rfl,rfl⟩
theorem fold_int {n:Int}:(fold n:Int)=if n<0 then -2*n-1 else 2*n:=by unfold Pk.fold;split <;> omega
set_option maxRecDepth 20000 in
theorem pFold (w:World) (n:Int) (h0:-511<=n) (h1:n<=511) :
  Calls Tryz.prog 156 #[.int .i64 n] w fun e w'=>e=.returned (.int .i64 (fold n))/\w'=w:=by
 rw [fold_int]
 by_cases h:n<0
 ·rw [if_pos h]
  have e1:wrap64 (-2*n)=-2*n:=by unfold wrap64;omega
  have e2:wrap64 (-2*n-1)=-2*n-1:=by unfold wrap64;omega
  go_enter Tryz.func156,Tryz.ntmps156
  go_wp2
  go_ret
  refine ⟨?_,rfl⟩
  first|rfl|(congr 2;omega)
 ·rw [if_neg h]
  have e1:wrap64 (2*n)=2*n:=by unfold wrap64;omega
  go_enter Tryz.func156,Tryz.ntmps156
  go_wp2
  go_ret
  refine ⟨?_,rfl⟩
  first|rfl|(congr 2;omega)
set_option maxRecDepth 20000 in
theorem pSignedBits (w:World) (n:Int) (h0:-511<=n) (h1:n<=511) :
  Calls Tryz.prog 164 #[.int .i64 n] w fun e w'=>e=.returned (.int .i64 ((2*dig (fold n)+1:Nat):Int))/\w'=w:=by
 have hf:=Pk.fold_le h0 h1
 have hd:=Pk.dig_le hf
 have e1:wrap64 (2*(dig (fold n):Int))=2*dig (fold n):=by unfold wrap64;omega
 have e2:wrap64 (2*(dig (fold n):Int)+1)=2*dig (fold n)+1:=by unfold wrap64;omega
 go_enter Tryz.func164,Tryz.ntmps164
 go_wp2_with (first
  | (go_at_call 156;refine (pFold _ n h0 h1).mono ?_;rintro e w' ⟨rfl,rfl⟩)
  | (go_at_call 162;refine (pDigits _ (fold n) hf).mono ?_;rintro e w' ⟨rfl,rfl⟩))
 go_ret
 exact ⟨by congr 2,rfl⟩
theorem ones_snoc (k:Nat):∀ n i,ones k i (n+1)=ones k i n++[(k+(i+n),1)]
 | 0,_=>rfl
 | n+1,i=>by
  show (k+i,1) :: ones k (i+1) (n+1)=(k+i,1) :: (ones k (i+1) n++[(k+(i+(n+1)),1)])
  rw [ones_snoc k n (i+1),show i+1+n=i+(n+1) by omega]
theorem ok_left {l r s:List (Nat × Int)} (h:Pack.BitsOk s) (e:l++r=s):Pack.BitsOk l:=fun p hp=>h p (by rw [<- e];exact List.mem_append_left _ hp)
theorem and_fin:∀ n:Fin 1024,bits BinOp.and IntKind.i64 ((n.val:Nat):Int) 1=((n.val % 2:Nat):Int):=by decide +kernel
theorem and_one {m r:Nat} (hm:m<=1022):bits BinOp.and IntKind.i64 (((m:Int)+1) / 2 ^ r) 1=(((m+1) / 2 ^ r % 2:Nat):Int):=by
 have h1:(m+1) / 2 ^ r<=m+1:=Nat.div_le_self _ _
 have h2:=and_fin ⟨(m+1) / 2 ^ r,by omega⟩
 have e:((m:Int)+1) / 2 ^ r=(((m+1) / 2 ^ r:Nat):Int):=by
  rw [Int.natCast_ediv,Int.natCast_pow];rfl
 rw [e]
 exact h2
set_option maxRecDepth 20000 in
theorem pPutNumber (w wr:World) (b:Nat) (v:Value) (t:WS) (l p:List (Nat × Int)) (k m:Nat) (h:PutAt w wr b v t l p) (ro:Room t l (p.length+19)) (op:Pack.BitsOk p) (hk:k+22<=400) (hm:m<=1022) :
  Calls Tryz.prog 136 #[.pointer (some ⟨b,0,none⟩),.int .i64 k,.int .i64 m] wr fun e w'=>e=.returned (.tuple #[])/\PutAt w w' b v t l (p++num k m):=by
 have hd:=Pk.dig_le hm
 have hok:=Pk.num_ok hm hk
 have hlen:=Pk.num_len k m
 obtain ⟨D,hD⟩:∃ D,D=dig m:=⟨_,rfl⟩
 rw [<- hD] at hd hlen
 have hnum:num k m=ones k 0 D++(k+D,0) :: lowb (k+12+D) (m+1) D:=by rw [hD];rfl
 have HD:Hid (∀ w,Calls Tryz.prog 162 #[.int .i64 m] w fun e w'=>e=.returned (.int .i64 D)/\w'=w):=fun w=>by rw [hD];exact pDigits w m hm
 have HH:Hid (PutAt w wr b v t l p):=h
 have HK:Hid (Pack.BitsOk p/\Room t l (p.length+19)):=⟨op,ro⟩
 clear h hD op ro
 go_enter Tryz.func136,Tryz.ntmps136
 go_wp2_with (go_at_call 162;refine (HD.out _).mono ?_;rintro e w' ⟨rfl,rfl⟩)
 go_loopw [12] (fun i wy=>∃ j:Nat,j<=D/\i=.int .i64 j/\PutAt w wy b v t l (p++ones k 0 j)) (fun i _=>D-(intOf i).toNat)
 case atStart=>exact ⟨0,Nat.zero_le _,rfl,by show PutAt _ _ _ _ _ _ (p++[]);rw [List.append_nil];exact HH.out⟩
 case round =>
  obtain ⟨j,hj,rfl,hp⟩:=hrel
  by_cases hlt:j<D
  ·have hlt':(j:Int)<(D:Int):=by omega
   have e1:wrap64 ((k:Int)+(j:Int))=((k+j:Nat):Int):=by unfold wrap64;omega
   have ho:Pack.BitsOk (p++ones k 0 j):=Pk.ok_app HK.out.1 (Pk.ones_ok k j 0 (by omega))
   have HP:Hid (PutAt w wr b v t l (p++ones k 0 j)):=hp
   clear hp
   go_wp2_with (go_at_call 114;refine (HP.out.step (HK.out.2.le (by rw [List.length_append,Pk.ones_len];omega)) ho (k:=k+j) (x:=1) (by omega) (.inr rfl)).mono ?_;rintro e w2 ⟨rfl,h2⟩)
   go_roundw
   case rel=>exact ⟨j+1,by omega,by go_num,by rw [ones_snoc,<- List.append_assoc,Nat.zero_add];exact h2⟩
   case measure=>simp [intOf];omega
  ·obtain rfl:j=D:=by omega
   have hlt':¬ (j:Int)<(j:Int):=by omega
   have e1:wrap64 ((k:Int)+(j:Int))=((k+j:Nat):Int):=by unfold wrap64;omega
   have e2:wrap64 ((j:Int)-1)=(j:Int)-1:=by unfold wrap64;omega
   have ho:Pack.BitsOk (p++ones k 0 j):=Pk.ok_app HK.out.1 (Pk.ones_ok k j 0 (by omega))
   have HP:Hid (PutAt w wr b v t l (p++ones k 0 j)):=hp
   clear hp
   go_wp2_with (go_at_call 114;refine (HP.out.step (HK.out.2.le (by rw [List.length_append,Pk.ones_len];omega)) ho (k:=k+j) (x:=0) (by omega) (.inl rfl)).mono ?_;rintro e w2 ⟨rfl,h2⟩)
   have HP2:Hid (PutAt w w2 b v t l (p++(ones k 0 j++[(k+j,0)]))):=by unfold Hid;rw [<- List.append_assoc];exact h2
   clear h2
   go_loopw [8] (fun i wy=>∃ r:Nat,∃ q:List (Nat × Int),r<=j/\i=.int .i64 ((r:Int)-1)/\q++lowb (k+12+j) (m+1) r=num k m/\PutAt w wy b v t l (p++q)) (fun i _=>(intOf i+1).toNat)
   case atStart=>exact ⟨j,_,Nat.le_refl _,rfl,by rw [hnum,List.append_assoc];rfl,HP2.out⟩
   case round =>
    obtain ⟨r,q,hr,rfl,hq,hp⟩:=hrel
    have HP3:Hid (PutAt w wr b v t l (p++q)/\q++lowb (k+12+j) (m+1) r=num k m):=⟨hp,hq⟩
    have hql:q.length+r=2*j+1:=by have:=congrArg List.length hq;rw [List.length_append,Pk.lowb_len,hlen] at this;exact this
    have hqo:Pack.BitsOk q:=ok_left hok hq
    clear hp hq
    cases r with
    | zero =>
     go_wp2
     go_end0
     refine ⟨rfl,?_⟩
     have:=HP3.out.2
     rw [<- this]
     exact (by show PutAt _ _ _ _ _ _ (p++(q++[]));rw [List.append_nil];exact HP3.out.1)
    | succ r =>
     have g0:(0:Int)<=((r+1:Nat):Int)-1:=by omega
     have e3:wrap64 ((k:Int)+12)=(k:Int)+12:=by unfold wrap64;omega
     have e4:wrap64 ((k:Int)+12+(j:Int))=((k+12+j:Nat):Int):=by unfold wrap64;omega
     have e5:wrap64 ((m:Int)+1)=(m:Int)+1:=by unfold wrap64;omega
     have e6:((r+1:Nat):Int)-1=(r:Int):=by omega
     have e7:=and_one (m:=m) (r:=r) hm
     obtain ⟨X,hX⟩:∃ X:Int,X=(((m+1) / 2 ^ r % 2:Nat):Int):=⟨_,rfl⟩
     have hX01:X=0 \/ X=1:=by omega
     rw [<- hX] at e7
     have HX:Hid (X=(((m+1) / 2 ^ r % 2:Nat):Int)):=hX
     clear hX
     have e8:wrap64 ((r:Int)-1)=(r:Int)-1:=by unfold wrap64;omega
     rw [e6] at g0 ⊢
     go_wp2_with (go_at_call 114;refine (HP3.out.1.step (HK.out.2.le (by rw [List.length_append];omega)) (Pk.ok_app HK.out.1 hqo) (k:=k+12+j) (x:=X) (by omega) hX01).mono ?_;rintro e w2 ⟨rfl,h2⟩)
     go_roundw
     case rel=>exact ⟨r,q++[(k+12+j,X)],by omega,by go_num,by rw [List.append_assoc,HX.out];exact HP3.out.2,by rw [<- List.append_assoc];exact h2⟩
     case measure=>simp [intOf]
set_option maxRecDepth 20000 in
theorem pPutSigned (w wr:World) (b:Nat) (v:Value) (t:WS) (l p:List (Nat × Int)) (k:Nat) (n:Int) (h:PutAt w wr b v t l p) (ro:Room t l (p.length+19)) (op:Pack.BitsOk p) (hk:k+22<=400) (h0:-511<=n) (h1:n<=511) :
  Calls Tryz.prog 134 #[.pointer (some ⟨b,0,none⟩),.int .i64 k,.int .i64 n] wr fun e w'=>e=.returned (.tuple #[])/\PutAt w w' b v t l (p++sgn k n):=by
 have HC:=fun wy (hw:wy=wr)=>pPutNumber w wy b v t l p k (fold n) (hw ▸ h) ro op hk (Pk.fold_le h0 h1)
 go_enter Tryz.func134,Tryz.ntmps134
 go_wp2_with (first
  | (go_at_call 156;refine (pFold _ n h0 h1).mono ?_;rintro e w' ⟨rfl,rfl⟩)
  | (go_at_call 136;refine (HC _ rfl).mono ?_;rintro e w2 ⟨rfl,h2⟩))
 go_end0
 exact ⟨rfl,h2⟩
end
section
open Go.RowKit
structure SoftG (w:World) (L:Nat):Prop where
 v:w.cell? ⟨9,0,none⟩=some (.int .i64 100)/\w.cell? ⟨9,1,none⟩=some (.int .i64 124)/\w.cell? ⟨9,2,none⟩=some (.int .i64 148)
 lt:9<L
theorem SoftG.of {w wx:World} {L L':Nat} (h:SoftG w L) (hb:wx.heap[9]?=w.heap[9]?) (hl:9<L'):SoftG wx L' :=
 have hc:∀ o,wx.cell? ⟨9,o,none⟩=w.cell? ⟨9,o,none⟩:=fun o=>World.cell?_of_block (a:=⟨9,o,none⟩) hb
 ⟨⟨(hc 0).trans h.v.1,(hc 1).trans h.v.2.1,(hc 2).trans h.v.2.2⟩,hl⟩
theorem SoftG.below {w w':World} {L:Nat} (h:SoftG w L) (f:Below L w w'):SoftG w' L:=h.of (f.block _ h.lt) h.lt
theorem softIx (k kc:Nat) (hk:k<3) (hc:kc=100+24*k) (w:World):Sem.run Tryz.prog (Instr.index 48 (.agg #[.int .i64 100,.int .i64 124,.int .i64 148]) (.int .i64 k)) w=.ok (.int .i64 kc) w:=by
 subst hc
 rcases (by omega:k=0 \/ k=1 \/ k=2) with rfl|rfl|rfl <;> kernel_rfl
end
section
open Go.RowKit
theorem pExpect (w:World) (a b d:Int) (a0:-1000000<=a) (a1:a<=1000000) (b0:-1000000<=b) (b1:b<=1000000) :
  Calls Tryz.prog 155 #[.int .i64 a,.int .i64 b,.int .i64 d] w fun x w'=>x=.returned (.int .i64 (Flm.expected a b d))/\w'=w:=by
 obtain ⟨E,hE⟩:∃ E,E=Flm.expected a b d:=⟨_,rfl⟩
 have HE:Hid (E=Flm.expected a b d):=hE
 rw [<- hE]
 clear hE
 go_enter Tryz.func155,Tryz.ntmps155
 go_wp2
 all_goals
  go_ret
  refine ⟨?_,rfl⟩
  rw [HE.out]
  refine congrArg (fun t=>Ending.returned (Value.int IntKind.i64 t)) ?_
  unfold Flm.expected
  dsimp only
  (repeat' split at *) <;> omega
end
section
open Go.RowKit
open Flm (Px FS)
def ExpS (w:World) (nb z Z C:Nat) (wx:World):Prop:=Below w.heap.size w wx/\w.heap.size+1<wx.heap.size/\wx.heap[w.heap.size]?=some (.cells #[.int .i64 z,.slice (some ⟨nb,0,none⟩) Z C] 89 (0,0))/\wx.heap[w.heap.size+1]?=some (.cells #[.int .i64 0,.int .i64 0,.int .i64 0] 48 (0,0))
theorem ExpS.c0 {w wx:World} {nb z Z C:Nat} (h:ExpS w nb z Z C wx):wx.cell? ⟨w.heap.size,0,none⟩=some (.int .i64 z):=cell_of_row _ _ 0 _ _ _ h.2.2.1
theorem ExpS.c1 {w wx:World} {nb z Z C:Nat} (h:ExpS w nb z Z C wx):wx.cell? ⟨w.heap.size,1,none⟩=some (.slice (some ⟨nb,0,none⟩) Z C):=cell_of_row _ _ 1 _ _ _ h.2.2.1
theorem ExpS.below {w wx wy:World} {nb z Z C:Nat} (h:ExpS w nb z Z C wx) (b:Below wx.heap.size wx wy):ExpS w nb z Z C wy :=
 ⟨h.1.trans (b.mono h.1.size),Nat.lt_of_lt_of_le h.2.1 b.size,(b.block _ (by have:=h.2.1;omega)).trans h.2.2.1,(b.block _ h.2.1).trans h.2.2.2⟩
theorem ExpS.all {w wx:World} {nb z Z C:Nat} (h:ExpS w nb z Z C wx):(wx.cell? ⟨w.heap.size,0,none⟩=some (.int .i64 z)/\wx.cell? ⟨w.heap.size,1,none⟩=some (.slice (some ⟨nb,0,none⟩) Z C))/\ExpS w nb z Z C wx:=⟨⟨h.c0,h.c1⟩,h⟩
theorem ExpS.drew1 {w wx:World} {nb z Z C:Nat} (h:ExpS w nb z Z C wx):ExpS w nb z Z C wx.drew:=h.below ⟨rfl,rfl,rfl,Nat.le_refl _,fun _ _=>rfl⟩
theorem ExpS.st {w wx:World} {nb z Z C:Nat} (h:ExpS w nb z Z C wx) {b o:Nat} {v:Value} (hb:w.heap.size+1<b):ExpS w nb z Z C (wx.setCell ⟨b,o,none⟩ v) :=
 ⟨h.1.setCell (by show w.heap.size<=b;omega) _,by rw [World.size_setCell];exact h.2.1,(Below.heap_setCell wx ⟨b,o,none⟩ v _ (by show w.heap.size ≠ b;omega)).trans h.2.2.1,(Below.heap_setCell wx ⟨b,o,none⟩ v _ (by show w.heap.size+1 ≠ b;omega)).trans h.2.2.2⟩
structure EJ (w:World) (nb z Z C:Nat) (a7 a8 a9:Bool) (b7 b8 b9:Nat) (wx:World):Prop where
 ex:ExpS w nb z Z C wx
 h7:a7=true->Box3 wx b7 (0,0,0)/\w.heap.size+1<b7
 h8:a8=true->Box3 wx b8 (0,0,0)/\w.heap.size+1<b8
 h9:a9=true->Box3 wx b9 (0,0,0)/\w.heap.size+1<b9
 d78:a7=true->a8=true->b7 ≠ b8
 d79:a7=true->a9=true->b7 ≠ b9
 d89:a8=true->a9=true->b8 ≠ b9
theorem box3_below {wx wy:World} {b:Nat} {q:Px} (h:Box3 wx b q) (f:Below wx.heap.size wx wy):Box3 wy b q:=(f.block b h.lt).trans h
def zero3:Obj:=.cells #[.int .i64 0,.int .i64 0,.int .i64 0] 48
theorem EJ.below {w wx wy:World} {nb z Z C:Nat} {a7 a8 a9:Bool} {b7 b8 b9:Nat} (h:EJ w nb z Z C a7 a8 a9 b7 b8 b9 wx) (f:Below wx.heap.size wx wy):EJ w nb z Z C a7 a8 a9 b7 b8 b9 wy :=
 ⟨h.ex.below f,fun e=>⟨box3_below (h.h7 e).1 f,(h.h7 e).2⟩,fun e=>⟨box3_below (h.h8 e).1 f,(h.h8 e).2⟩,fun e=>⟨box3_below (h.h9 e).1 f,(h.h9 e).2⟩,h.d78,h.d79,h.d89⟩
theorem EJ.new7 {w wx:World} {nb z Z C:Nat} {a8 a9:Bool} {b7 b8 b9:Nat} (h:EJ w nb z Z C false a8 a9 b7 b8 b9 wx):EJ w nb z Z C true a8 a9 wx.heap.size b8 b9 (wx.alloc zero3):=by
 have f:Below wx.heap.size wx (wx.alloc zero3):=(Below.refl _ _).alloc (Nat.le_refl _) _
 have h':=h.below f
 exact ⟨h'.ex,fun _=>⟨Box3.new wx (0,0,0),h.ex.2.1⟩,h'.h8,h'.h9,fun _ e=>by have:=(h.h8 e).1.lt;omega,fun _ e=>by have:=(h.h9 e).1.lt;omega,h.d89⟩
theorem EJ.new8 {w wx:World} {nb z Z C:Nat} {a7 a9:Bool} {b7 b8 b9:Nat} (h:EJ w nb z Z C a7 false a9 b7 b8 b9 wx):EJ w nb z Z C a7 true a9 b7 wx.heap.size b9 (wx.alloc zero3):=by
 have f:Below wx.heap.size wx (wx.alloc zero3):=(Below.refl _ _).alloc (Nat.le_refl _) _
 have h':=h.below f
 exact ⟨h'.ex,h'.h7,fun _=>⟨Box3.new wx (0,0,0),h.ex.2.1⟩,h'.h9,fun e _=>by have:=(h.h7 e).1.lt;omega,h.d79,fun _ e=>by have:=(h.h9 e).1.lt;omega⟩
theorem EJ.new9 {w wx:World} {nb z Z C:Nat} {a7 a8:Bool} {b7 b8 b9:Nat} (h:EJ w nb z Z C a7 a8 false b7 b8 b9 wx):EJ w nb z Z C a7 a8 true b7 b8 wx.heap.size (wx.alloc zero3):=by
 have f:Below wx.heap.size wx (wx.alloc zero3):=(Below.refl _ _).alloc (Nat.le_refl _) _
 have h':=h.below f
 exact ⟨h'.ex,h'.h7,h'.h8,fun _=>⟨Box3.new wx (0,0,0),h.ex.2.1⟩,h.d78,fun e _=>by have:=(h.h7 e).1.lt;omega,fun e _=>by have:=(h.h8 e).1.lt;omega⟩
def tv (b:Bool) (v:Value):Value:=if b then v else undef
def ptr (b:Nat):Value:=.pointer (some ⟨b,0,none⟩)
def left6 (c1 c2 c3 a7 a8 a9:Bool):Nat:=(!c1).toNat+(!c2).toNat+(!c3).toNat+(!a7).toNat+(!a8).toNat+(!a9).toNat
def cellOk (rs:List Nat) (c1 c2 c3 a7 a8 a9:Bool):Bool:=!rs.isEmpty && rs.all fun j=>(j == 4 && !c1) || (j == 9 && c1 && !c2) || (j == 15 && c2 && !c3) || (j == 16 && !a7) || (j == 17 && !a8) || (j == 18 && !a9)
theorem cellOk_spec {rs:List Nat} {c1 c2 c3 a7 a8 a9:Bool} (h:cellOk rs c1 c2 c3 a7 a8 a9=true):rs ≠ []/\∀ j ∈ rs,(j=4/\c1=false) \/ (j=9/\c1=true/\c2=false) \/ (j=15/\c2=true/\c3=false) \/ (j=16/\a7=false) \/ (j=17/\a8=false) \/ (j=18/\a9=false):=by
 unfold cellOk at h
 rw [Bool.and_eq_true] at h
 refine ⟨fun e=>by rw [e] at h;exact absurd h.1 (by decide),fun j hj=>?_⟩
 have:=List.all_eq_true.1 h.2 j hj
 simp only [Bool.or_eq_true,Bool.and_eq_true,beq_iff_eq,Bool.not_eq_true'] at this
 rcases this with ((((⟨e,h⟩|⟨⟨e,h⟩,h'⟩)|⟨⟨e,h⟩,h'⟩)|⟨e,h⟩)|⟨e,h⟩)|⟨e,h⟩
 ·exact .inl ⟨e,h⟩
 ·exact .inr (.inl ⟨e,h,h'⟩)
 ·exact .inr (.inr (.inl ⟨e,h,h'⟩))
 ·exact .inr (.inr (.inr (.inl ⟨e,h⟩)))
 ·exact .inr (.inr (.inr (.inr (.inl ⟨e,h⟩))))
 ·exact .inr (.inr (.inr (.inr (.inr ⟨e,h⟩))))
section
variable {P:Program} {ops:Array Oper} {Q:Exit->Act->World->Prop} {S:World->Prop}
theorem exp_law {w:World} {nb z Z C:Nat} (T:Value->Value->Value->Value->Value->Value->Array Value) (F:Bool->Bool->Bool->Bool->Bool->Bool->Array Bool) {o4 o9 o15 o16 o17 o18:Oper} {fn:FuncId} {g1 g2 g3:Array Value} {v1 v2 v3:Value}
  (i4:ops[4]?=some o4) (i9:ops[9]?=some o9) (i15:ops[15]?=some o15) (i16:ops[16]?=some o16) (i17:ops[17]?=some o17) (i18:ops[18]?=some o18)
  (d4:o4.dst=some 16) (d9:o9.dst=some 21) (d15:o15.dst=some 27) (d16:o16.dst=some 7) (d17:o17.dst=some 8) (d18:o18.dst=some 9)
  (w4:∀ t,Region.wanted o4 t=true) (w9:∀ t,Region.wanted o9 t=true) (w15:∀ t,Region.wanted o15 t=true) (w16:∀ t,Region.wanted o16 t=true) (w17:∀ t,Region.wanted o17 t=true) (w18:∀ t,Region.wanted o18 t=true)
  (t4:∀ a b c d e f v,(T a b c d e f).setIfInBounds 16 v=T v b c d e f) (t9:∀ a b c d e f v,(T a b c d e f).setIfInBounds 21 v=T a v c d e f) (t15:∀ a b c d e f v,(T a b c d e f).setIfInBounds 27 v=T a b v d e f)
  (t16:∀ a b c d e f v,(T a b c d e f).setIfInBounds 7 v=T a b c v e f) (t17:∀ a b c d e f v,(T a b c d e f).setIfInBounds 8 v=T a b c d v f) (t18:∀ a b c d e f v,(T a b c d e f).setIfInBounds 9 v=T a b c d e v)
  (f4:∀ a b c d e f,(F a b c d e f).setIfInBounds 4 true=F true b c d e f) (f9:∀ a b c d e f,(F a b c d e f).setIfInBounds 9 true=F a true c d e f) (f15:∀ a b c d e f,(F a b c d e f).setIfInBounds 15 true=F a b true d e f)
  (f16:∀ a b c d e f,(F a b c d e f).setIfInBounds 16 true=F a b c true e f) (f17:∀ a b c d e f,(F a b c d e f).setIfInBounds 17 true=F a b c d true f) (f18:∀ a b c d e f,(F a b c d e f).setIfInBounds 18 true=F a b c d e true)
  (hr:∀ c1 c2 c3 a7 a8 a9:Bool,((!c2 || c1) && (!c3 || c2) && !(c3 && a7 && a8 && a9))=true->cellOk (Region.ready .any ops (F c1 c2 c3 a7 a8 a9)) c1 c2 c3 a7 a8 a9=true)
  (r4:∀ a b c d e f w,(execOp (Act.eval ⟨T a b c d e f,[]⟩) o4).run P w=.ok (.enter fn g1) w) (r9:∀ a b c d e f w,(execOp (Act.eval ⟨T a b c d e f,[]⟩) o9).run P w=.ok (.enter fn g2) w) (r15:∀ a b c d e f w,(execOp (Act.eval ⟨T a b c d e f,[]⟩) o15).run P w=.ok (.enter fn g3) w)
  (r16:∀ a b c d e f w,(execOp (Act.eval ⟨T a b c d e f,[]⟩) o16).run P w=.ok (.value (ptr w.heap.size)) (w.alloc zero3)) (r17:∀ a b c d e f w,(execOp (Act.eval ⟨T a b c d e f,[]⟩) o17).run P w=.ok (.value (ptr w.heap.size)) (w.alloc zero3)) (r18:∀ a b c d e f w,(execOp (Act.eval ⟨T a b c d e f,[]⟩) o18).run P w=.ok (.value (ptr w.heap.size)) (w.alloc zero3))
  (hc1:∀ wx,ExpS w nb z Z C wx->Calls P fn g1 wx fun e w'=>e=.returned v1/\Below wx.heap.size wx w') (hc2:∀ wx,ExpS w nb z Z C wx->Calls P fn g2 wx fun e w'=>e=.returned v2/\Below wx.heap.size wx w') (hc3:∀ wx,ExpS w nb z Z C wx->Calls P fn g3 wx fun e w'=>e=.returned v3/\Below wx.heap.size wx w')
  (hS:∀ wx,ExpS w nb z Z C wx->S wx)
  (hend:∀ b7 b8 b9 wx,EJ w nb z Z C true true true b7 b8 b9 wx->wpAnyH P .any ops Q S 3 (F true true true true true true) ⟨T v1 v2 v3 (ptr b7) (ptr b8) (ptr b9),[]⟩ wx) :
  ∀ (n:Nat) (c1 c2 c3 a7 a8 a9:Bool) (b7 b8 b9:Nat) (wx:World),left6 c1 c2 c3 a7 a8 a9=n->(c2=true->c1=true)->(c3=true->c2=true)->EJ w nb z Z C a7 a8 a9 b7 b8 b9 wx ->
   wpAnyH P .any ops Q S (n+3) (F c1 c2 c3 a7 a8 a9) ⟨T (tv c1 v1) (tv c2 v2) (tv c3 v3) (tv a7 (ptr b7)) (tv a8 (ptr b8)) (tv a9 (ptr b9)),[]⟩ wx
 | 0,c1,c2,c3,a7,a8,a9,b7,b8,b9,wx,hn,_,_,hj=>by
  have:c1=true/\c2=true/\c3=true/\a7=true/\a8=true/\a9=true:=by
   revert hn;cases c1 <;> cases c2 <;> cases c3 <;> cases a7 <;> cases a8 <;> cases a9 <;> decide
  obtain ⟨rfl,rfl,rfl,rfl,rfl,rfl⟩:=this
  exact hend b7 b8 b9 wx hj
 | n+1,c1,c2,c3,a7,a8,a9,b7,b8,b9,wx,hn,h21,h32,hj=>by
  have ih:=exp_law T F i4 i9 i15 i16 i17 i18 d4 d9 d15 d16 d17 d18 w4 w9 w15 w16 w17 w18 t4 t9 t15 t16 t17 t18 f4 f9 f15 f16 f17 f18 hr r4 r9 r15 r16 r17 r18 hc1 hc2 hc3 hS hend n
  have hrd:=cellOk_spec (hr c1 c2 c3 a7 a8 a9 (by revert hn h21 h32;cases c1 <;> cases c2 <;> cases c3 <;> cases a7 <;> cases a8 <;> cases a9 <;> simp [left6]))
  refine wpAnyH_all rfl hrd.1 ?_
  intro j hjr
  rcases hrd.2 j hjr with ⟨rfl,rfl⟩|⟨rfl,rfl,rfl⟩|⟨rfl,rfl,rfl⟩|⟨rfl,rfl⟩|⟨rfl,rfl⟩|⟨rfl,rfl⟩
  ·refine wpOp_enter i4 (w4 _) (r4 _ _ _ _ _ _ wx) ((hc1 wx hj.ex).mono ?_)
   rintro e w' ⟨rfl,hb⟩
   refine ⟨hS _ (hj.ex.below hb),?_⟩
   rw [put_at d4,t4,f4]
   exact ih true c2 c3 a7 a8 a9 b7 b8 b9 w' (by simp [left6] at hn ⊢;omega) (fun _=>rfl) h32 (hj.below hb)
  ·refine wpOp_enter i9 (w9 _) (r9 _ _ _ _ _ _ wx) ((hc2 wx hj.ex).mono ?_)
   rintro e w' ⟨rfl,hb⟩
   refine ⟨hS _ (hj.ex.below hb),?_⟩
   rw [put_at d9,t9,f9]
   exact ih true true c3 a7 a8 a9 b7 b8 b9 w' (by simp [left6] at hn ⊢;omega) (fun _=>rfl) (fun _=>rfl) (hj.below hb)
  ·obtain rfl:c1=true:=h21 rfl
   refine wpOp_enter i15 (w15 _) (r15 _ _ _ _ _ _ wx) ((hc3 wx hj.ex).mono ?_)
   rintro e w' ⟨rfl,hb⟩
   refine ⟨hS _ (hj.ex.below hb),?_⟩
   rw [put_at d15,t15,f15]
   exact ih true true true a7 a8 a9 b7 b8 b9 w' (by simp [left6] at hn ⊢;omega) (fun _=>rfl) (fun _=>rfl) (hj.below hb)
  ·refine wpOp_value i16 (w16 _) (r16 _ _ _ _ _ _ wx) ?_
   refine ⟨hS _ hj.new7.ex,?_⟩
   rw [put_at d16,t16,f16]
   exact ih c1 c2 c3 true a8 a9 wx.heap.size b8 b9 _ (by simp [left6] at hn ⊢;omega) h21 h32 hj.new7
  ·refine wpOp_value i17 (w17 _) (r17 _ _ _ _ _ _ wx) ?_
   refine ⟨hS _ hj.new8.ex,?_⟩
   rw [put_at d17,t17,f17]
   exact ih c1 c2 c3 a7 true a9 b7 wx.heap.size b9 _ (by simp [left6] at hn ⊢;omega) h21 h32 hj.new8
  ·refine wpOp_value i18 (w18 _) (r18 _ _ _ _ _ _ wx) ?_
   refine ⟨hS _ hj.new9.ex,?_⟩
   rw [put_at d18,t18,f18]
   exact ih c1 c2 c3 a7 a8 true b7 b8 wx.heap.size _ (by simp [left6] at hn ⊢;omega) h21 h32 hj.new9
end
end
end Go.Proofs.YtekfbphnoibnjaaGreatDoor
