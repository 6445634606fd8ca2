/-
  PBlk
-/
import Derived.Test.YtekfbphnoibnjaaGreatDoorF30
import Derived.Test.YtekfbphnoibnjaaGreatDoorF31
set_option maxHeartbeats 4000000
namespace Go.Proofs.YtekfbphnoibnjaaGreatDoor
section
open Go.RowKit Go.Shelf
open Flm (Px FS)
attribute [local go_sem] Oper.semAt_some
namespace Flm
noncomputable def kindF (s:ByteArray) (z x y n:Nat) (K:Int) (g:FS):FS:=if K=0 then soft s z (spots x y n) g else if K=1 then few s z x y n g else if K=2 then copies s z x y n 260 (now g) g else stillF s z x y n g
theorem kindR_eq (s:ByteArray) (r:RS):kindR s r=Rdr.bitS s (Rdr.bitS s r 2) (3+(Rdr.bitV r 2).toNat):=by
 unfold kindR
 split
 ·rfl
 ·rename_i h
  generalize Rdr.bitS s r 2=q at h
  unfold Rdr.bitS
  rw [if_neg h]
theorem kindV_cases (s:ByteArray) (r:RS):(kindV s r=0/\Rdr.bitV r 2=0/\Rdr.bitV (Rdr.bitS s r 2) (3+(Rdr.bitV r 2).toNat)=0) \/ (kindV s r=1/\Rdr.bitV r 2=0/\Rdr.bitV (Rdr.bitS s r 2) (3+(Rdr.bitV r 2).toNat) ≠ 0) \/ (kindV s r=2/\Rdr.bitV r 2 ≠ 0/\Rdr.bitV (Rdr.bitS s r 2) (3+(Rdr.bitV r 2).toNat)=0) \/ (kindV s r=3/\Rdr.bitV r 2 ≠ 0/\Rdr.bitV (Rdr.bitS s r 2) (3+(Rdr.bitV r 2).toNat) ≠ 0):=by
 unfold kindV
 rcases Rdr.bitV_cases r 2 with h1|h1 <;> rcases Rdr.bitV_cases (Rdr.bitS s r 2) (3+(Rdr.bitV r 2).toNat) with h2|h2 <;> rw [h1,<- h1,h2] <;> simp [h1]
theorem block_kind {s:ByteArray} {z x y n:Nat} {fs:FS} (h:(kindR s fs.r).err ≠ 0):block s z x y n fs={ fs with r:=kindR s fs.r }:=by
 rw [kindR_eq] at h ⊢
 unfold block
 dsimp only
 rw [if_neg h]
theorem block_good {s:ByteArray} {z x y n:Nat} {fs:FS} (h:(kindR s fs.r).err=0) (h2:(kindF s z x y n (kindV s fs.r) { fs with r:=kindR s fs.r }).r.err=0):block s z x y n fs=seen z (spots x y n) (kindF s z x y n (kindV s fs.r) { fs with r:=kindR s fs.r }):=by
 have hk:=kindV_cases s fs.r
 rw [kindR_eq] at h h2 ⊢
 unfold block
 dsimp only
 rw [if_pos h]
 rcases hk with ⟨k,a,b⟩|⟨k,a,b⟩|⟨k,a,b⟩|⟨k,a,b⟩
 ·rw [if_pos a,if_pos b,k];rfl
 ·rw [if_pos a,if_neg b,k];rfl
 ·rw [if_neg a,if_pos b,k];rfl
 ·rw [k] at h2
  rw [if_neg a,if_neg b,k]
  have e:kindF s z x y n 3 { fs with r:=Rdr.bitS s (Rdr.bitS s fs.r 2) (3+(Rdr.bitV fs.r 2).toNat) }=stillF s z x y n { fs with r:=Rdr.bitS s (Rdr.bitS s fs.r 2) (3+(Rdr.bitV fs.r 2).toNat) }:=rfl
  rw [e] at h2 ⊢
  unfold stillF at h2 ⊢
  split
  ·rename_i h0
   rw [if_pos h0] at h2
   exact absurd h2 (Rdr.fail_err (by decide))
  ·rfl
theorem block_bad {s:ByteArray} {z x y n:Nat} {fs:FS} (h:(kindR s fs.r).err=0) (_h2:(kindF s z x y n (kindV s fs.r) { fs with r:=kindR s fs.r }).r.err ≠ 0):(block s z x y n fs).r=(kindF s z x y n (kindV s fs.r) { fs with r:=kindR s fs.r }).r:=by
 have hk:=kindV_cases s fs.r
 rw [kindR_eq] at h ⊢
 unfold block
 dsimp only
 rw [if_pos h]
 rcases hk with ⟨k,a,b⟩|⟨k,a,b⟩|⟨k,a,b⟩|⟨k,a,b⟩
 ·rw [if_pos a,if_pos b,k,seen_r];rfl
 ·rw [if_pos a,if_neg b,k,seen_r];rfl
 ·rw [if_neg a,if_pos b,k,seen_r];rfl
 ·rw [if_neg a,if_neg b,k]
  have e:kindF s z x y n 3 { fs with r:=Rdr.bitS s (Rdr.bitS s fs.r 2) (3+(Rdr.bitV fs.r 2).toNat) }=stillF s z x y n { fs with r:=Rdr.bitS s (Rdr.bitS s fs.r 2) (3+(Rdr.bitV fs.r 2).toNat) }:=rfl
  rw [e]
  unfold stillF
  split
  ·rfl
  ·rw [seen_r]
end Flm
def blkT (b nb rg:Nat):Nat->Prop:=fun k=>k=b \/ k=nb \/ k=rg
def BlockPost (A:Nat->Addr) (w:World) (L p b nb rg:Nat) (Dv:Value) (dbs:List Nat) (s:ByteArray) (z:Nat) (fs':FS) (e:Ending) (w':World):Prop :=
 e=.returned (errA A fs'.r.err)/\(fs'.r.err=0->PAt w' L p b nb rg Dv dbs s z fs')/\Frm (blkT b nb rg) w w'
theorem frm_blk_t {b nb rg:Nat} {w w':World} (f:Frm (blkS b nb) w w'):Frm (blkT b nb rg) w w':=f.mono (fun _ _ e=>e.elim .inl (fun e=>.inr (.inl e)))
theorem frm_one_t {b nb rg:Nat} {w w':World} (f:Frm (oneS b) w w'):Frm (blkT b nb rg) w w':=f.mono (fun _ _ e=>.inl e)
theorem frm_rg_t {b nb rg:Nat} {w w':World} (f:Frm (fun k=>k=rg) w w'):Frm (blkT b nb rg) w w':=f.mono (fun _ _ e=>.inr (.inr e))
structure TBox (W:World) (H p x y n:Nat):Prop where
 b0:W.heap[H]?=some (.cells #[.pointer (some ⟨p,0,none⟩)] 107 (0,0))
 b1:W.heap[H+1]?=some (.cells #[.int .i64 x,.int .i64 y,.int .i64 n] 100 (0,0))
 b2:W.heap[H+1+1]?=some (.cells #[.func (.func 147) #[] #[],.func (.func 148) #[] #[],.func (.func 149) #[] #[],.func (.func 150) #[] #[]] 251 (0,0))
theorem TBox.frm {S:Nat->Prop} {W W':World} {H p x y n:Nat} (h:TBox W H p x y n) (f:Frm S W W') (hS:∀ k,S k->k<H \/ H+3<=k):TBox W' H p x y n :=
 ⟨(f.block _ (heap_lt h.b0) (fun e=>by have:=hS _ e;omega)).trans h.b0,(f.block _ (heap_lt h.b1) (fun e=>by have:=hS _ e;omega)).trans h.b1,(f.block _ (heap_lt h.b2) (fun e=>by have:=hS _ e;omega)).trans h.b2⟩
theorem tbox_new (w:World) (p x y n:Nat):TBox (((w.alloc (.cells #[.pointer (some ⟨p,0,none⟩)] 107)).alloc (.cells #[.int .i64 x,.int .i64 y,.int .i64 n] 100)).alloc (.cells #[.func (.func 147) #[] #[],.func (.func 148) #[] #[],.func (.func 149) #[] #[],.func (.func 150) #[] #[]] 251)) w.heap.size p x y n:=by
 have h2:=heap_alloc_last ((w.alloc (.cells #[.pointer (some ⟨p,0,none⟩)] 107)).alloc (.cells #[.int .i64 x,.int .i64 y,.int .i64 n] 100)) (.cells #[.func (.func 147) #[] #[],.func (.func 148) #[] #[],.func (.func 149) #[] #[],.func (.func 150) #[] #[]] 251)
 have h1:=heap_alloc_last (w.alloc (.cells #[.pointer (some ⟨p,0,none⟩)] 107)) (.cells #[.int .i64 x,.int .i64 y,.int .i64 n] 100)
 simp only [World.size_alloc] at h1 h2
 refine ⟨?_,(Below.heap_alloc _ _ _ (by simp only [World.size_alloc];omega)).trans h1,h2⟩
 exact (Below.heap_alloc _ _ _ (by simp only [World.size_alloc];omega)).trans ((Below.heap_alloc _ _ _ (by simp only [World.size_alloc];omega)).trans (heap_alloc_last w _))
def SeenJ (w W:World) (L p b nb rg:Nat) (Dv:Value) (dbs:List Nat) (s:ByteArray) (z:Nat) (fs:FS) (H T x y n:Nat) (pre:List (Pt x y n)):Prop :=
 PAt W L p b nb rg Dv dbs s z ((pre.map (·.1)).foldl (fun fs p=>{ fs with rd:=fs.rd.set (p.2*z+p.1) true }) fs)/\TBox W H p x y n/\W.heap[T]?=some (.cells #[.int .i64 x,.int .i64 y,.int .i64 n] 100 (0,0))/\Frm (blkT b nb rg) w W
set_option maxRecDepth 100000 in
theorem pBlock_a (w:World) (p b x y n:Nat) (ea:Addr)
  (hk:∀ wx,Below w.heap.size w wx->Calls Tryz.prog 151 #[.pointer (some ⟨p,0,none⟩)] wx fun e w'=>(∃ V:Int,e=.returned (.tuple #[.int .i64 V,.iface 278 (.pointer (some ea))]))/\Frm (oneS b) wx w') :
  Calls Tryz.prog 121 #[.pointer (some ⟨p,0,none⟩),.agg #[.int .i64 x,.int .i64 y,.int .i64 n]] w fun e w'=>e=.returned (.iface 278 (.pointer (some ea)))/\Frm (oneS b) w w':=by
 obtain ⟨H,hH⟩:∃ H,H=w.heap.size:=⟨_,rfl⟩
 obtain ⟨W3,hW3⟩:∃ W3,W3=((w.alloc (.cells #[.pointer (some ⟨p,0,none⟩)] 107)).alloc (.cells #[.int .i64 x,.int .i64 y,.int .i64 n] 100)).alloc (.cells #[.func (.func 147) #[] #[],.func (.func 148) #[] #[],.func (.func 149) #[] #[],.func (.func 150) #[] #[]] 251):=⟨_,rfl⟩
 have hB3:Below w.heap.size w W3:=by rw [hW3];exact below3 w _ _ _
 have hF3:TBox W3 H p x y n:=by rw [hW3,hH];exact tbox_new w p x y n
 have hs3:W3.heap.size=H+3:=by rw [hW3,hH];simp
 have HW3:Hid (W3=((w.alloc (.cells #[.pointer (some ⟨p,0,none⟩)] 107)).alloc (.cells #[.int .i64 x,.int .i64 y,.int .i64 n] 100)).alloc (.cells #[.func (.func 147) #[] #[],.func (.func 148) #[] #[],.func (.func 149) #[] #[],.func (.func 150) #[] #[]] 251)):=hW3
 have HH:Hid (H=w.heap.size):=hH
 have k00:=cell_of_row _ _ 0 _ _ _ hF3.b0
 simp at k00
 have HK:Hid (Calls Tryz.prog 151 #[.pointer (some ⟨p,0,none⟩)] W3 fun e w'=>(∃ V:Int,e=.returned (.tuple #[.int .i64 V,.iface 278 (.pointer (some ea))]))/\Frm (oneS b) W3 w'):=hk W3 hB3
 have HF:Hid (Frm (oneS b) w W3):=Frm.of_below hB3
 clear hk hW3 hB3 hF3 hH
 refine (callsIn_wide (n:=5)).1 ?_
 refine callsIn_of_wp_marks Tryz.func121 rfl trivial ?_ rfl
 simp only [Tryz.ntmps121,List.size_toArray,List.length_cons,List.length_nil,Nat.reduceAdd,Nat.reduceSub,Array.replicate_succ,Array.replicate_zero,List.push_toArray,List.append_toArray,List.nil_append,List.cons_append]
 refine wpIn_wide.2 ?_
 go_wp2_with (first
  | (rw [<- HW3.out,<- HH.out])
  | (go_at_call 151;refine HK.out.mono ?_;rintro e w1 ⟨⟨V,rfl⟩,f1⟩))
 exact retM_none (v:=.iface 278 (.pointer (some ea))) rfl (by simp [results,Tryz.results121,go_sem]) ⟨rfl,HF.out.trans f1⟩
set_option maxRecDepth 100000 in
theorem pBlock0 (w:World) (L p b nb rg:Nat) (Dv:Value) (dbs:List Nat) (s:ByteArray) (z:Nat) (fs:FS) (A:Nat->Addr) (h:PAt w L p b nb rg Dv dbs s z fs) (x y n:Nat) (hx:x+n<=z) (hy:y+n<=z) (g1 g2:FS)
  (hk:∀ wx,Below w.heap.size w wx->Calls Tryz.prog 151 #[.pointer (some ⟨p,0,none⟩)] wx fun e w'=>e=.returned (.tuple #[.int .i64 0,.nilIface])/\PAt w' L p b nb rg Dv dbs s z g1/\Frm (oneS b) wx w')
  (hf:∀ wx,PAt wx L p b nb rg Dv dbs s z g1->Frm (oneS b) w wx->Calls Tryz.prog 147 #[.pointer (some ⟨p,0,none⟩),.agg #[.int .i64 x,.int .i64 y,.int .i64 n]] wx (BlkPost A wx L p b nb rg Dv dbs s z g2)) :
  Calls Tryz.prog 121 #[.pointer (some ⟨p,0,none⟩),.agg #[.int .i64 x,.int .i64 y,.int .i64 n]] w fun e w'=>e=.returned (errA A g2.r.err)/\(g2.r.err=0->PAt w' L p b nb rg Dv dbs s z (Flm.seen z (Flm.spots x y n) g2))/\Frm (blkT b nb rg) w w':=by
 rw [Flm.seen_fold]
 obtain ⟨Z,hZ⟩:∃ Z,Z=z*z:=⟨_,rfl⟩
 have HZ:Hid (Z=z*z):=hZ
 have hz16:=h.z16
 obtain ⟨H,hH⟩:∃ H,H=w.heap.size:=⟨_,rfl⟩
 obtain ⟨W3,hW3⟩:∃ W3,W3=((w.alloc (.cells #[.pointer (some ⟨p,0,none⟩)] 107)).alloc (.cells #[.int .i64 x,.int .i64 y,.int .i64 n] 100)).alloc (.cells #[.func (.func 147) #[] #[],.func (.func 148) #[] #[],.func (.func 149) #[] #[],.func (.func 150) #[] #[]] 251):=⟨_,rfl⟩
 have hB3:Below w.heap.size w W3:=by rw [hW3];exact below3 w _ _ _
 have hF3:TBox W3 H p x y n:=by rw [hW3,hH];exact tbox_new w p x y n
 have hs3:W3.heap.size=H+3:=by rw [hW3,hH];simp
 have HW3:Hid (W3=((w.alloc (.cells #[.pointer (some ⟨p,0,none⟩)] 107)).alloc (.cells #[.int .i64 x,.int .i64 y,.int .i64 n] 100)).alloc (.cells #[.func (.func 147) #[] #[],.func (.func 148) #[] #[],.func (.func 149) #[] #[],.func (.func 150) #[] #[]] 251)):=hW3
 have HH:Hid (H=w.heap.size):=hH
 have k00:=cell_of_row _ _ 0 _ _ _ hF3.b0
 simp at k00
 have hlt:∀ k,paB p b nb rg Dv dbs k->k<H:=by rw [hH];exact h.lt
 have hbH:b<H:=hlt b (.inr (.inl rfl))
 have hnbH:nb<H:=hlt nb (.inr (.inr (.inr (.inl rfl))))
 have hrgH:rg<H:=hlt rg (.inr (.inr (.inl rfl)))
 have hpH:p<H:=hlt p (.inl rfl)
 have hmx:Tryz.prog.follows .mixedOrders=true:=by kernel_rfl
 have HLT:Hid (∀ k,paB p b nb rg Dv dbs k->k<H):=hlt
 have HK:Hid (Calls Tryz.prog 151 #[.pointer (some ⟨p,0,none⟩)] W3 fun e w'=>e=.returned (.tuple #[.int .i64 0,.nilIface])/\PAt w' L p b nb rg Dv dbs s z g1/\Frm (oneS b) W3 w'):=hk W3 hB3
 have HF:Hid (Frm (oneS b) w W3):=Frm.of_below hB3
 have HC:Hid (∀ w1,Frm (oneS b) W3 w1->TBox w1 H p x y n):=fun w1 f=>hF3.frm f (fun k e=>by have e':k=b:=e;omega)
 have HFN:Hid (∀ wx,PAt wx L p b nb rg Dv dbs s z g1->Frm (oneS b) w wx->Calls Tryz.prog 147 #[.pointer (some ⟨p,0,none⟩),.agg #[.int .i64 x,.int .i64 y,.int .i64 n]] wx (BlkPost A wx L p b nb rg Dv dbs s z g2)):=hf
 clear hk hf h hW3 hB3 hF3 hH hlt hZ
 refine (callsIn_wide (n:=5)).1 ?_
 refine callsIn_of_wp_marks Tryz.func121 rfl trivial ?_ rfl
 simp only [Tryz.ntmps121,List.size_toArray,List.length_cons,List.length_nil,Nat.reduceAdd,Nat.reduceSub,Array.replicate_succ,Array.replicate_zero,List.push_toArray,List.append_toArray,List.nil_append,List.cons_append]
 refine wpIn_wide.2 ?_
 go_wp2_with (first
  | (rw [<- HW3.out,<- HH.out])
  | (go_at_call 151;refine HK.out.mono ?_;rintro e w1 ⟨rfl,h1,f1⟩))
 have hc1:=HC.out w1 f1
 clear k00
 have k00:=cell_of_row _ _ 0 _ _ _ hc1.b0
 have k10:=cell_of_row _ _ 0 _ _ _ hc1.b1
 have k11:=cell_of_row _ _ 1 _ _ _ hc1.b1
 have k12:=cell_of_row _ _ 2 _ _ _ hc1.b1
 have k2:=cell_of_row _ _ 0 _ _ _ hc1.b2
 simp at k00 k10 k11 k12 k2
 have fd1:Frm (oneS b) w1 w1.drew:=(Frm.refl _ _).drew
 have HCF:Hid (Calls Tryz.prog 147 #[.pointer (some ⟨p,0,none⟩),.agg #[.int .i64 x,.int .i64 y,.int .i64 n]] w1.drew (BlkPost A w1.drew L p b nb rg Dv dbs s z g2)):=HFN.out w1.drew (h1.frm (Frm.refl (fun _=>False) w1).drew (fun _ _ e=>e)) ((HF.out.trans f1).trans fd1)
 have HI1:Hid (TBox w1 H p x y n/\Frm (oneS b) w w1):=⟨hc1,HF.out.trans f1⟩
 clear h1 f1 hc1 HFN
 have hHs:H+3<=w1.heap.size:=heap_lt HI1.out.1.b2
 by_cases hg2:g2.r.err=0
 ·refine region_calm (S:=fun w'=>w'.cell? ⟨H,0,none⟩=some (.pointer (some ⟨p,0,none⟩))/\w'.cell? ⟨H+1,0,none⟩=some (.int .i64 x)/\w'.cell? ⟨H+1,1,none⟩=some (.int .i64 y)/\w'.cell? ⟨H+1,2,none⟩=some (.int .i64 n)/\w'.cell? ⟨H+1+1,0,none⟩=some (.func (.func 147) #[] #[])) 7 #[false,false,false,false,false,false,false] rfl rfl hmx ?_
  have hS0:(w1.drew.cell? ⟨H,0,none⟩=some (.pointer (some ⟨p,0,none⟩))/\w1.drew.cell? ⟨H+1,0,none⟩=some (.int .i64 x)/\w1.drew.cell? ⟨H+1,1,none⟩=some (.int .i64 y)/\w1.drew.cell? ⟨H+1,2,none⟩=some (.int .i64 n)/\w1.drew.cell? ⟨H+1+1,0,none⟩=some (.func (.func 147) #[] #[])):=⟨k00,k10,k11,k12,k2⟩
  refine tk_at 0 20 (.int .i64 0) #[true,false,false,false,false,false,false] rfl rfl rfl (by kernel_rfl) (by rfl) (by rintro w ⟨t0,t1,t2,t3,t4⟩;go_simp) (by assumption) ?_
  simp only [sIb,sCs,sCz]
  refine tk_at 1 21 (.pointer (some ⟨H+1+1,0,none⟩)) #[true,true,false,false,false,false,false] rfl rfl rfl (by kernel_rfl) (by rfl) (by rintro w ⟨t0,t1,t2,t3,t4⟩;go_simp) (by assumption) ?_
  simp only [sIb,sCs,sCz]
  refine tk_at 2 22 (.func (.func 147) #[] #[]) #[true,true,true,false,false,false,false] rfl rfl rfl (by kernel_rfl) (by rfl) (by rintro w ⟨t0,t1,t2,t3,t4⟩;go_simp) (by assumption) ?_
  simp only [sIb,sCs,sCz]
  refine tk_at 3 23 (.pointer (some ⟨p,0,none⟩)) #[true,true,true,true,false,false,false] rfl rfl rfl (by kernel_rfl) (by rfl) (by rintro w ⟨t0,t1,t2,t3,t4⟩;go_simp) (by assumption) ?_
  simp only [sIb,sCs,sCz]
  refine tk_at 4 24 (.agg #[.int .i64 x,.int .i64 y,.int .i64 n]) #[true,true,true,true,true,false,false] rfl rfl rfl (by kernel_rfl) (by rfl) (by rintro w ⟨t0,t1,t2,t3,t4⟩;go_simp) (by assumption) ?_
  simp only [sIb,sCs,sCz]
  refine enter_at (i:=5) (d:=25) (f:=147) (args:=#[.pointer (some ⟨p,0,none⟩),.agg #[.int .i64 x,.int .i64 y,.int .i64 n]]) #[true,true,true,true,true,true,false] (by kernel_rfl) rfl rfl rfl (by rfl) (by go_simp) (fun v' w'=>v'=.nilIface/\PAt w' L p b nb rg Dv dbs s z g2/\Frm (blkS b nb) w1 w') (HCF.out.mono (fun e w' he=>⟨.nilIface,by rw [he.1,hg2];rfl,rfl,he.2.1 hg2,((Frm.refl (blkS b nb) w1).drew).trans he.2.2⟩)) ?_
  rintro va wa ⟨rfl,ha,fa⟩
  have hN0:¬ blkS b nb H:=by rintro (e|e) <;> omega
  have hN1:¬ blkS b nb (H+1):=by rintro (e|e) <;> omega
  have hN2:¬ blkS b nb (H+1+1):=by rintro (e|e) <;> omega
  have hSA:(wa.cell? ⟨H,0,none⟩=some (.pointer (some ⟨p,0,none⟩))/\wa.cell? ⟨H+1,0,none⟩=some (.int .i64 x)/\wa.cell? ⟨H+1,1,none⟩=some (.int .i64 y)/\wa.cell? ⟨H+1,2,none⟩=some (.int .i64 n)/\wa.cell? ⟨H+1+1,0,none⟩=some (.func (.func 147) #[] #[])):=⟨fa.cell k00 hN0,fa.cell k10 hN1,fa.cell k11 hN1,fa.cell k12 hN1,fa.cell k2 hN2⟩
  refine ⟨hSA,?_⟩
  simp only [sIb,sCs,sCz]
  refine tk_at 6 8 (.nilIface) #[true,true,true,true,true,true,true] rfl rfl rfl (by kernel_rfl) (by rfl) (by rintro w ⟨t0,t1,t2,t3,t4⟩;go_simp) (by assumption) ?_
  simp only [sIb,sCs,sCz]
  refine wpAnyH_done (by kernel_rfl) ?_ _
  dsimp only [calmPost]
  have hca:TBox wa H p x y n:=HI1.out.1.frm fa (fun k e=>by rcases e with e|e <;> omega)
  clear k00 k10 k11 k12 k2 hS0 hSA
  have k10:=cell_of_row _ _ 0 _ _ _ hca.b1
  have k11:=cell_of_row _ _ 1 _ _ _ hca.b1
  have k12:=cell_of_row _ _ 2 _ _ _ hca.b1
  simp at k10 k11 k12
  obtain ⟨T,hT⟩:∃ T,T=wa.heap.size:=⟨_,rfl⟩
  have HT:Hid (T=wa.heap.size):=hT
  have hTH:H+3<=T:=by rw [hT];exact heap_lt hca.b2
  obtain ⟨W7,hW7⟩:∃ W7,W7=wa.alloc (.cells #[.int .i64 x,.int .i64 y,.int .i64 n] 100):=⟨_,rfl⟩
  have HW7:Hid (W7=wa.alloc (.cells #[.int .i64 x,.int .i64 y,.int .i64 n] 100)):=hW7
  have hB7:Below wa.heap.size wa W7:=by rw [hW7];exact (Below.refl _ wa).alloc (Nat.le_refl _) _
  have hs7:W7.heap.size=T+1:=by rw [hW7,hT];simp
  have hit:W7.heap[T]?=some (.cells #[.int .i64 x,.int .i64 y,.int .i64 n] 100 (0,0)):=by rw [hW7,hT];exact heap_alloc_last wa _
  have HI0:Hid (SeenJ w W7 L p b nb rg Dv dbs s z g2 H T x y n []):=⟨ha.below hB7,hca.frm (Frm.of_below (S:=fun _=>False) hB7) (fun _ e=>e.elim),hit,((frm_one_t HI1.out.2).trans (frm_blk_t fa)).trans (Frm.of_below hB7)⟩
  clear ha fa hca hW7 hB7 hT HI1 HCF HK
  go_wp2_with (go_at_call 105;refine (pPoints _ _ _ _).mono ?_;rintro e wq ⟨rfl,rfl⟩)
  clear k10 k11 k12
  rw [<- HT.out,<- HW7.out]
  refine (wpIn_wide (n:=5)).1 ?_
  refine wpIn_rangeFunc_ownF rfl (by decide) (gf:=131) (lb:=#[.pointer (some ⟨T,0,none⟩)]) rfl trivial (enters_of Tryz.func131 (by kernel_rfl) rfl)
   (points_stops Fence.wide (5-1) trivial rfl (by decide) T x y n (by omega) (by omega) W7 hit)
   (fun h1 h2=>h2.trans h1) (fun W l o o' hl _ _ _=>World.putObj_heap_other (by omega)) (Below.refl _ _) (fun _=>rfl)
   (fun pre W=>SeenJ w W L p b nb rg Dv dbs s z g2 H T x y n pre)
   (fun _ _ _=>False)
   ?own (fun _ _ _ _ _ hs _ _=>hs) HI0.out
   (fun pt=>{ tmps:=#[.pointer (some ⟨p,0,none⟩),.agg #[.int .i64 x,.int .i64 y,.int .i64 n],.pointer (some ⟨H,0,none⟩),.pointer (some ⟨H+1,0,none⟩),.nilIface,.pointer (some ⟨H+1+1,0,none⟩),.int .i64 0,.nilIface,.nilIface,.int .i64 pt.1.1,.int .i64 pt.1.2,.agg #[.func (.func 147) #[] #[],.func (.func 148) #[] #[],.func (.func 149) #[] #[],.func (.func 150) #[] #[]],.tuple #[.int .i64 0,.nilIface],.pointer (some ⟨p,0,none⟩),.tuple #[.int .i64 0,.nilIface],.int .i64 0,.nilIface,.nilIface,.bool false,undef,.int .i64 0,.pointer (some ⟨H+1+1,0,none⟩),.func (.func 147) #[] #[],.pointer (some ⟨p,0,none⟩),.agg #[.int .i64 x,.int .i64 y,.int .i64 n],.nilIface,.nilIface,.bool false,undef,.agg #[.int .i64 x,.int .i64 y,.int .i64 n],.func (.func 131) #[] #[.pointer (some ⟨T,0,none⟩)],.int .i64 pt.1.1,.int .i64 pt.1.2,undef,undef,undef,undef,undef,undef,undef,undef,undef,undef,undef,undef,undef],defers:=[] }) ?assign ?body ?done ?stop
  case own =>
   rintro pre W W' row ⟨i1,i2,i3,i4⟩ hg hr
   have hr':∀ r,row=some r->T+1<=r:=fun r e=>by have:=(hr r e).1;omega
   have fg:Frm (fun k=>row=some k) W W':=(Frm.refl _ W).grown hg (fun k e=>.inl e)
   refine ⟨i1.grown (B:=H) HLT.out hg (fun r e=>by have:=hr' r e;omega),i2.frm fg (fun k e=>by have:=hr' k e;omega),(fg.block _ (heap_lt i3) (fun e=>by have:=hr' _ e;omega)).trans i3,?_⟩
   exact i4.grown hg (fun k e=>.inr (by have:=hr' k e;have:=HH.out;omega))
  case assign =>
   intro l pt W K hK
   dsimp only [encPt]
   gi_wp2
   exact hK
  case body =>
   rintro l pre ⟨⟨PX,PY⟩,⟨hpx1,hpx2⟩,hpy1,hpy2⟩ W ⟨i1,i2,i3,i4⟩ hlen
   dsimp only at hpx1 hpx2 hpy1 hpy2 ⊢
   obtain ⟨K,hK⟩:∃ K,K=PY*z+PX:=⟨_,rfl⟩
   have hKz:K<z*z:=by rw [hK];exact spot_lt (by omega) (by omega)
   have hKZ:K<Z:=by rw [HZ.out];exact hKz
   have hzz:=i1.zzle
   have d1:=i1.c1
   have d5:=i1.c5
   rw [<- HZ.out] at d5
   have dk:=i1.read.cell K hKz
   have dz:=i1.read.frozen K
   have k00:=cell_of_row _ _ 0 _ _ _ i2.b0
   simp at k00
   have hw0:(PY:Int)*z+PX=(K:Int):=by rw [hK];simp
   have hwb:(PY:Int)*z<=256/\0<=(PY:Int)*z:=⟨by omega,by rw [<- Int.natCast_mul];omega⟩
   have hw1:IntKind.i64.wrap ((PY:Int)*z)=(PY:Int)*z:=by rw [IntKind.wrap_i64];omega
   have hw2:IntKind.i64.wrap ((PY:Int)*z+PX)=(K:Int):=by rw [IntKind.wrap_i64];omega
   have hKZ':(K:Int)<(Z:Int):=by omega
   have HI:Hid (SeenJ w W L p b nb rg Dv dbs s z g2 H T x y n pre):=⟨i1,i2,i3,i4⟩
   have HKE:Hid (K=PY*z+PX):=hK
   have hne:¬ H=rg:=by omega
   have hpr:¬ p=rg:=i1.nes.1.2.1
   clear i1 i2 i3 i4 hK hwb hw0
   gi_wp2
   refine region_round_at (S:=fun w'=>w'.cell? ⟨H,0,none⟩=some (.pointer (some ⟨p,0,none⟩))/\w'.cell? ⟨p,1,none⟩=some (.int .i64 z)/\w'.cell? ⟨p,5,none⟩=some (.slice (some ⟨rg,0,none⟩) Z Z)) 14 #[false,false,false,false,false,false,false,false,false,false,false,false,false,false] rfl rfl hmx (by kernel_rfl) (fun ⟨_,_,h⟩=>h) ?_
   have hS0:(W.drew.cell? ⟨H,0,none⟩=some (.pointer (some ⟨p,0,none⟩))/\W.drew.cell? ⟨p,1,none⟩=some (.int .i64 z)/\W.drew.cell? ⟨p,5,none⟩=some (.slice (some ⟨rg,0,none⟩) Z Z)):=⟨k00,d1,d5⟩
   refine tk_at 0 33 (.pointer (some ⟨p,0,none⟩)) #[true,false,false,false,false,false,false,false,false,false,false,false,false,false] rfl rfl rfl (by kernel_rfl) (by rfl) (by rintro w ⟨t0,t1,t5⟩;go_simp) (by assumption) ?_
   simp only [sIb,sCs,sCz]
   refine tk_at 1 34 (.pointer (some ⟨p,0,none⟩)) #[true,true,false,false,false,false,false,false,false,false,false,false,false,false] rfl rfl rfl (by kernel_rfl) (by rfl) (by rintro w ⟨t0,t1,t5⟩;go_simp) (by assumption) ?_
   simp only [sIb,sCs,sCz]
   refine tk_at 2 35 (.pointer (some ⟨p,5,none⟩)) #[true,true,true,false,false,false,false,false,false,false,false,false,false,false] rfl rfl rfl (by kernel_rfl) (by rfl) (by rintro w ⟨t0,t1,t5⟩;go_simp) (by assumption) ?_
   simp only [sIb,sCs,sCz]
   refine tk_at 3 36 (.slice (some ⟨rg,0,none⟩) Z Z) #[true,true,true,true,false,false,false,false,false,false,false,false,false,false] rfl rfl rfl (by kernel_rfl) (by rfl) (by rintro w ⟨t0,t1,t5⟩;go_simp) (by assumption) ?_
   simp only [sIb,sCs,sCz]
   refine tk_at 4 37 (.int .i64 PY) #[true,true,true,true,true,false,false,false,false,false,false,false,false,false] rfl rfl rfl (by kernel_rfl) (by rfl) (by rintro w ⟨t0,t1,t5⟩;go_simp) (by assumption) ?_
   simp only [sIb,sCs,sCz]
   refine tk_at 5 38 (.pointer (some ⟨p,0,none⟩)) #[true,true,true,true,true,true,false,false,false,false,false,false,false,false] rfl rfl rfl (by kernel_rfl) (by rfl) (by rintro w ⟨t0,t1,t5⟩;go_simp) (by assumption) ?_
   simp only [sIb,sCs,sCz]
   refine tk_at 6 39 (.pointer (some ⟨p,0,none⟩)) #[true,true,true,true,true,true,true,false,false,false,false,false,false,false] rfl rfl rfl (by kernel_rfl) (by rfl) (by rintro w ⟨t0,t1,t5⟩;go_simp) (by assumption) ?_
   simp only [sIb,sCs,sCz]
   refine tk_at 7 40 (.pointer (some ⟨p,1,none⟩)) #[true,true,true,true,true,true,true,true,false,false,false,false,false,false] rfl rfl rfl (by kernel_rfl) (by rfl) (by rintro w ⟨t0,t1,t5⟩;go_simp) (by assumption) ?_
   simp only [sIb,sCs,sCz]
   refine tk_at 8 41 (.int .i64 z) #[true,true,true,true,true,true,true,true,true,false,false,false,false,false] rfl rfl rfl (by kernel_rfl) (by rfl) (by rintro w ⟨t0,t1,t5⟩;go_simp) (by assumption) ?_
   simp only [sIb,sCs,sCz]
   refine tk_at 9 42 (.int .i64 ((PY:Int)*z)) #[true,true,true,true,true,true,true,true,true,true,false,false,false,false] rfl rfl rfl (by kernel_rfl) (by rfl) (by rintro w ⟨t0,t1,t5⟩;go_simp) (by assumption) ?_
   simp only [sIb,sCs,sCz]
   refine tk_at 10 43 (.int .i64 PX) #[true,true,true,true,true,true,true,true,true,true,true,false,false,false] rfl rfl rfl (by kernel_rfl) (by rfl) (by rintro w ⟨t0,t1,t5⟩;go_simp) (by assumption) ?_
   simp only [sIb,sCs,sCz]
   refine tk_at 11 44 (.int .i64 K) #[true,true,true,true,true,true,true,true,true,true,true,true,false,false] rfl rfl rfl (by kernel_rfl) (by rfl) (by rintro w ⟨t0,t1,t5⟩;go_simp) (by assumption) ?_
   simp only [sIb,sCs,sCz]
   refine tk_at 12 45 (.pointer (some ⟨rg,K,none⟩)) #[true,true,true,true,true,true,true,true,true,true,true,true,true,false] rfl rfl rfl (by kernel_rfl) (by rfl) (by rintro w ⟨t0,t1,t5⟩;go_simp) (by assumption) ?_
   simp only [sIb,sCs,sCz]
   obtain ⟨X,hX⟩:∃ X,X=W.drew.setCell ⟨rg,K,none⟩ (.bool true):=⟨_,rfl⟩
   have fX:Frm (fun k=>k=rg) W X:=by rw [hX];exact Frm.setCell (p:=⟨rg,K,none⟩) ((Frm.refl (fun k=>k=rg) W).drew) (.inl rfl) _
   have dkd:W.drew.cell? ⟨rg,K,none⟩=some _:=dk
   have dzd:W.drew.frozen? ⟨rg,K,none⟩=false:=dz
   refine store_at (i:=13) (w':=X) #[true,true,true,true,true,true,true,true,true,true,true,true,true,true] (by kernel_rfl) rfl rfl rfl (by rfl) ?sg ⟨fX.cell k00 hne,fX.cell d1 hpr,fX.cell d5 hpr⟩ ?_
   case sg=>rw [hX];go_simp
   refine wpAnyH_done (by kernel_rfl) ?_ _
   obtain ⟨j1,j2,j3,j4⟩:=HI.out
   have hTr:¬ T=rg:=by omega
   refine ⟨keeps_frm fX (fun k e=>by rw [e];exact ⟨_,j1.read.cell 0 (by rcases j1.zz with e|e|e <;> subst e <;> decide)⟩),fX.block _ (heap_lt j3) hTr,?_,j2.frm fX (fun k e=>by omega),(fX.block _ (heap_lt j3) hTr).trans j3,j4.trans (frm_rg_t fX)⟩
   rw [List.map_append,List.foldl_append,List.map_cons,List.map_nil,List.foldl_cons,List.foldl_nil]
   dsimp only
   rw [<- HKE.out,hX]
   exact (j1.frm (Frm.refl (fun _=>False) W).drew (fun _ _ e=>e)).see K
  case done =>
   rintro D ys W hD hys ⟨i1,i2,i3,i4⟩ hK
   have hDs:T+1<=D:=by omega
   rw [hys] at i1
   have HI:Hid (PAt W L p b nb rg Dv dbs s z ((Flm.spots x y n).foldl (fun fs p=>{ fs with rd:=fs.rd.set (p.2*z+p.1) true }) g2)/\Frm (blkT b nb rg) w W/\W.heap[D]?=some (.deferred (some []))):=⟨i1,i4,hK⟩
   clear i1 i2 i3 i4 hK
   go_wp2_with fail
   obtain ⟨ha,fa,hKa⟩:=HI.out
   have hg:=grownBy_putObj' W D (.deferred none)
   have fg:Frm (fun k=>k=D) W (W.putObj D (.deferred none)):=(Frm.refl _ W).grown hg (fun k e=>by cases e;exact .inl rfl)
   refine retM_mark (v:=.nilIface) rfl hKa (by simp [results,Tryz.results121,go_sem]) ?_
   exact ⟨by rw [hg2];rfl,fun _=>ha.frm fg (fun k hk e=>by have:=HLT.out k hk;omega),frm_new fa (G:=D) fg (by have:=HH.out;omega)⟩
  case stop =>
   rintro D c pre W _ _ hh _
   exact hh.elim
 ·obtain ⟨ea,hea⟩:∃ ea,ea=A g2.r.err.toNat:=⟨_,rfl⟩
  refine region_calm (S:=fun w'=>w'.cell? ⟨H,0,none⟩=some (.pointer (some ⟨p,0,none⟩))/\w'.cell? ⟨H+1,0,none⟩=some (.int .i64 x)/\w'.cell? ⟨H+1,1,none⟩=some (.int .i64 y)/\w'.cell? ⟨H+1,2,none⟩=some (.int .i64 n)/\w'.cell? ⟨H+1+1,0,none⟩=some (.func (.func 147) #[] #[])) 7 #[false,false,false,false,false,false,false] rfl rfl hmx ?_
  have hS0:(w1.drew.cell? ⟨H,0,none⟩=some (.pointer (some ⟨p,0,none⟩))/\w1.drew.cell? ⟨H+1,0,none⟩=some (.int .i64 x)/\w1.drew.cell? ⟨H+1,1,none⟩=some (.int .i64 y)/\w1.drew.cell? ⟨H+1,2,none⟩=some (.int .i64 n)/\w1.drew.cell? ⟨H+1+1,0,none⟩=some (.func (.func 147) #[] #[])):=⟨k00,k10,k11,k12,k2⟩
  refine tk_at 0 20 (.int .i64 0) #[true,false,false,false,false,false,false] rfl rfl rfl (by kernel_rfl) (by rfl) (by rintro w ⟨t0,t1,t2,t3,t4⟩;go_simp) (by assumption) ?_
  simp only [sIb,sCs,sCz]
  refine tk_at 1 21 (.pointer (some ⟨H+1+1,0,none⟩)) #[true,true,false,false,false,false,false] rfl rfl rfl (by kernel_rfl) (by rfl) (by rintro w ⟨t0,t1,t2,t3,t4⟩;go_simp) (by assumption) ?_
  simp only [sIb,sCs,sCz]
  refine tk_at 2 22 (.func (.func 147) #[] #[]) #[true,true,true,false,false,false,false] rfl rfl rfl (by kernel_rfl) (by rfl) (by rintro w ⟨t0,t1,t2,t3,t4⟩;go_simp) (by assumption) ?_
  simp only [sIb,sCs,sCz]
  refine tk_at 3 23 (.pointer (some ⟨p,0,none⟩)) #[true,true,true,true,false,false,false] rfl rfl rfl (by kernel_rfl) (by rfl) (by rintro w ⟨t0,t1,t2,t3,t4⟩;go_simp) (by assumption) ?_
  simp only [sIb,sCs,sCz]
  refine tk_at 4 24 (.agg #[.int .i64 x,.int .i64 y,.int .i64 n]) #[true,true,true,true,true,false,false] rfl rfl rfl (by kernel_rfl) (by rfl) (by rintro w ⟨t0,t1,t2,t3,t4⟩;go_simp) (by assumption) ?_
  simp only [sIb,sCs,sCz]
  refine enter_at (i:=5) (d:=25) (f:=147) (args:=#[.pointer (some ⟨p,0,none⟩),.agg #[.int .i64 x,.int .i64 y,.int .i64 n]]) #[true,true,true,true,true,true,false] (by kernel_rfl) rfl rfl rfl (by rfl) (by go_simp) (fun v' w'=>v'=.iface 278 (.pointer (some ea))/\Frm (blkS b nb) w1 w') (HCF.out.mono (fun e w' he=>⟨.iface 278 (.pointer (some ea)),by rw [he.1,errA_pos A hg2,hea],rfl,((Frm.refl (blkS b nb) w1).drew).trans he.2.2⟩)) ?_
  rintro va wa ⟨rfl,fa⟩
  have hN0:¬ blkS b nb H:=by rintro (e|e) <;> omega
  have hN1:¬ blkS b nb (H+1):=by rintro (e|e) <;> omega
  have hN2:¬ blkS b nb (H+1+1):=by rintro (e|e) <;> omega
  have hSA:(wa.cell? ⟨H,0,none⟩=some (.pointer (some ⟨p,0,none⟩))/\wa.cell? ⟨H+1,0,none⟩=some (.int .i64 x)/\wa.cell? ⟨H+1,1,none⟩=some (.int .i64 y)/\wa.cell? ⟨H+1,2,none⟩=some (.int .i64 n)/\wa.cell? ⟨H+1+1,0,none⟩=some (.func (.func 147) #[] #[])):=⟨fa.cell k00 hN0,fa.cell k10 hN1,fa.cell k11 hN1,fa.cell k12 hN1,fa.cell k2 hN2⟩
  refine ⟨hSA,?_⟩
  simp only [sIb,sCs,sCz]
  refine tk_at 6 8 (.iface 278 (.pointer (some ea))) #[true,true,true,true,true,true,true] rfl rfl rfl (by kernel_rfl) (by rfl) (by rintro w ⟨t0,t1,t2,t3,t4⟩;go_simp) (by assumption) ?_
  simp only [sIb,sCs,sCz]
  refine wpAnyH_done (by kernel_rfl) ?_ _
  dsimp only [calmPost]
  clear k00 k10 k11 k12 k2 hS0 hSA
  go_wp2_with fail
  refine retM_none (v:=.iface 278 (.pointer (some ea))) rfl (by simp [results,Tryz.results121,go_sem]) ?_
  exact ⟨by rw [errA_pos A hg2,hea],fun he=>absurd he hg2,(frm_one_t HI1.out.2).trans (frm_blk_t fa)⟩
set_option maxRecDepth 100000 in
theorem pBlock1 (w:World) (L p b nb rg:Nat) (Dv:Value) (dbs:List Nat) (s:ByteArray) (z:Nat) (fs:FS) (A:Nat->Addr) (h:PAt w L p b nb rg Dv dbs s z fs) (x y n:Nat) (hx:x+n<=z) (hy:y+n<=z) (g1 g2:FS)
  (hk:∀ wx,Below w.heap.size w wx->Calls Tryz.prog 151 #[.pointer (some ⟨p,0,none⟩)] wx fun e w'=>e=.returned (.tuple #[.int .i64 1,.nilIface])/\PAt w' L p b nb rg Dv dbs s z g1/\Frm (oneS b) wx w')
  (hf:∀ wx,PAt wx L p b nb rg Dv dbs s z g1->Frm (oneS b) w wx->Calls Tryz.prog 148 #[.pointer (some ⟨p,0,none⟩),.agg #[.int .i64 x,.int .i64 y,.int .i64 n]] wx (BlkPost A wx L p b nb rg Dv dbs s z g2)) :
  Calls Tryz.prog 121 #[.pointer (some ⟨p,0,none⟩),.agg #[.int .i64 x,.int .i64 y,.int .i64 n]] w fun e w'=>e=.returned (errA A g2.r.err)/\(g2.r.err=0->PAt w' L p b nb rg Dv dbs s z (Flm.seen z (Flm.spots x y n) g2))/\Frm (blkT b nb rg) w w':=by
 rw [Flm.seen_fold]
 obtain ⟨Z,hZ⟩:∃ Z,Z=z*z:=⟨_,rfl⟩
 have HZ:Hid (Z=z*z):=hZ
 have hz16:=h.z16
 obtain ⟨H,hH⟩:∃ H,H=w.heap.size:=⟨_,rfl⟩
 obtain ⟨W3,hW3⟩:∃ W3,W3=((w.alloc (.cells #[.pointer (some ⟨p,0,none⟩)] 107)).alloc (.cells #[.int .i64 x,.int .i64 y,.int .i64 n] 100)).alloc (.cells #[.func (.func 147) #[] #[],.func (.func 148) #[] #[],.func (.func 149) #[] #[],.func (.func 150) #[] #[]] 251):=⟨_,rfl⟩
 have hB3:Below w.heap.size w W3:=by rw [hW3];exact below3 w _ _ _
 have hF3:TBox W3 H p x y n:=by rw [hW3,hH];exact tbox_new w p x y n
 have hs3:W3.heap.size=H+3:=by rw [hW3,hH];simp
 have HW3:Hid (W3=((w.alloc (.cells #[.pointer (some ⟨p,0,none⟩)] 107)).alloc (.cells #[.int .i64 x,.int .i64 y,.int .i64 n] 100)).alloc (.cells #[.func (.func 147) #[] #[],.func (.func 148) #[] #[],.func (.func 149) #[] #[],.func (.func 150) #[] #[]] 251)):=hW3
 have HH:Hid (H=w.heap.size):=hH
 have k00:=cell_of_row _ _ 0 _ _ _ hF3.b0
 simp at k00
 have hlt:∀ k,paB p b nb rg Dv dbs k->k<H:=by rw [hH];exact h.lt
 have hbH:b<H:=hlt b (.inr (.inl rfl))
 have hnbH:nb<H:=hlt nb (.inr (.inr (.inr (.inl rfl))))
 have hrgH:rg<H:=hlt rg (.inr (.inr (.inl rfl)))
 have hpH:p<H:=hlt p (.inl rfl)
 have hmx:Tryz.prog.follows .mixedOrders=true:=by kernel_rfl
 have HLT:Hid (∀ k,paB p b nb rg Dv dbs k->k<H):=hlt
 have HK:Hid (Calls Tryz.prog 151 #[.pointer (some ⟨p,0,none⟩)] W3 fun e w'=>e=.returned (.tuple #[.int .i64 1,.nilIface])/\PAt w' L p b nb rg Dv dbs s z g1/\Frm (oneS b) W3 w'):=hk W3 hB3
 have HF:Hid (Frm (oneS b) w W3):=Frm.of_below hB3
 have HC:Hid (∀ w1,Frm (oneS b) W3 w1->TBox w1 H p x y n):=fun w1 f=>hF3.frm f (fun k e=>by have e':k=b:=e;omega)
 have HFN:Hid (∀ wx,PAt wx L p b nb rg Dv dbs s z g1->Frm (oneS b) w wx->Calls Tryz.prog 148 #[.pointer (some ⟨p,0,none⟩),.agg #[.int .i64 x,.int .i64 y,.int .i64 n]] wx (BlkPost A wx L p b nb rg Dv dbs s z g2)):=hf
 clear hk hf h hW3 hB3 hF3 hH hlt hZ
 refine (callsIn_wide (n:=5)).1 ?_
 refine callsIn_of_wp_marks Tryz.func121 rfl trivial ?_ rfl
 simp only [Tryz.ntmps121,List.size_toArray,List.length_cons,List.length_nil,Nat.reduceAdd,Nat.reduceSub,Array.replicate_succ,Array.replicate_zero,List.push_toArray,List.append_toArray,List.nil_append,List.cons_append]
 refine wpIn_wide.2 ?_
 go_wp2_with (first
  | (rw [<- HW3.out,<- HH.out])
  | (go_at_call 151;refine HK.out.mono ?_;rintro e w1 ⟨rfl,h1,f1⟩))
 have hc1:=HC.out w1 f1
 clear k00
 have k00:=cell_of_row _ _ 0 _ _ _ hc1.b0
 have k10:=cell_of_row _ _ 0 _ _ _ hc1.b1
 have k11:=cell_of_row _ _ 1 _ _ _ hc1.b1
 have k12:=cell_of_row _ _ 2 _ _ _ hc1.b1
 have k2:=cell_of_row _ _ 1 _ _ _ hc1.b2
 simp at k00 k10 k11 k12 k2
 have fd1:Frm (oneS b) w1 w1.drew:=(Frm.refl _ _).drew
 have HCF:Hid (Calls Tryz.prog 148 #[.pointer (some ⟨p,0,none⟩),.agg #[.int .i64 x,.int .i64 y,.int .i64 n]] w1.drew (BlkPost A w1.drew L p b nb rg Dv dbs s z g2)):=HFN.out w1.drew (h1.frm (Frm.refl (fun _=>False) w1).drew (fun _ _ e=>e)) ((HF.out.trans f1).trans fd1)
 have HI1:Hid (TBox w1 H p x y n/\Frm (oneS b) w w1):=⟨hc1,HF.out.trans f1⟩
 clear h1 f1 hc1 HFN
 have hHs:H+3<=w1.heap.size:=heap_lt HI1.out.1.b2
 by_cases hg2:g2.r.err=0
 ·refine region_calm (S:=fun w'=>w'.cell? ⟨H,0,none⟩=some (.pointer (some ⟨p,0,none⟩))/\w'.cell? ⟨H+1,0,none⟩=some (.int .i64 x)/\w'.cell? ⟨H+1,1,none⟩=some (.int .i64 y)/\w'.cell? ⟨H+1,2,none⟩=some (.int .i64 n)/\w'.cell? ⟨H+1+1,1,none⟩=some (.func (.func 148) #[] #[])) 7 #[false,false,false,false,false,false,false] rfl rfl hmx ?_
  have hS0:(w1.drew.cell? ⟨H,0,none⟩=some (.pointer (some ⟨p,0,none⟩))/\w1.drew.cell? ⟨H+1,0,none⟩=some (.int .i64 x)/\w1.drew.cell? ⟨H+1,1,none⟩=some (.int .i64 y)/\w1.drew.cell? ⟨H+1,2,none⟩=some (.int .i64 n)/\w1.drew.cell? ⟨H+1+1,1,none⟩=some (.func (.func 148) #[] #[])):=⟨k00,k10,k11,k12,k2⟩
  refine tk_at 0 20 (.int .i64 1) #[true,false,false,false,false,false,false] rfl rfl rfl (by kernel_rfl) (by rfl) (by rintro w ⟨t0,t1,t2,t3,t4⟩;go_simp) (by assumption) ?_
  simp only [sIb,sCs,sCz]
  refine tk_at 1 21 (.pointer (some ⟨H+1+1,1,none⟩)) #[true,true,false,false,false,false,false] rfl rfl rfl (by kernel_rfl) (by rfl) (by rintro w ⟨t0,t1,t2,t3,t4⟩;go_simp) (by assumption) ?_
  simp only [sIb,sCs,sCz]
  refine tk_at 2 22 (.func (.func 148) #[] #[]) #[true,true,true,false,false,false,false] rfl rfl rfl (by kernel_rfl) (by rfl) (by rintro w ⟨t0,t1,t2,t3,t4⟩;go_simp) (by assumption) ?_
  simp only [sIb,sCs,sCz]
  refine tk_at 3 23 (.pointer (some ⟨p,0,none⟩)) #[true,true,true,true,false,false,false] rfl rfl rfl (by kernel_rfl) (by rfl) (by rintro w ⟨t0,t1,t2,t3,t4⟩;go_simp) (by assumption) ?_
  simp only [sIb,sCs,sCz]
  refine tk_at 4 24 (.agg #[.int .i64 x,.int .i64 y,.int .i64 n]) #[true,true,true,true,true,false,false] rfl rfl rfl (by kernel_rfl) (by rfl) (by rintro w ⟨t0,t1,t2,t3,t4⟩;go_simp) (by assumption) ?_
  simp only [sIb,sCs,sCz]
  refine enter_at (i:=5) (d:=25) (f:=148) (args:=#[.pointer (some ⟨p,0,none⟩),.agg #[.int .i64 x,.int .i64 y,.int .i64 n]]) #[true,true,true,true,true,true,false] (by kernel_rfl) rfl rfl rfl (by rfl) (by go_simp) (fun v' w'=>v'=.nilIface/\PAt w' L p b nb rg Dv dbs s z g2/\Frm (blkS b nb) w1 w') (HCF.out.mono (fun e w' he=>⟨.nilIface,by rw [he.1,hg2];rfl,rfl,he.2.1 hg2,((Frm.refl (blkS b nb) w1).drew).trans he.2.2⟩)) ?_
  rintro va wa ⟨rfl,ha,fa⟩
  have hN0:¬ blkS b nb H:=by rintro (e|e) <;> omega
  have hN1:¬ blkS b nb (H+1):=by rintro (e|e) <;> omega
  have hN2:¬ blkS b nb (H+1+1):=by rintro (e|e) <;> omega
  have hSA:(wa.cell? ⟨H,0,none⟩=some (.pointer (some ⟨p,0,none⟩))/\wa.cell? ⟨H+1,0,none⟩=some (.int .i64 x)/\wa.cell? ⟨H+1,1,none⟩=some (.int .i64 y)/\wa.cell? ⟨H+1,2,none⟩=some (.int .i64 n)/\wa.cell? ⟨H+1+1,1,none⟩=some (.func (.func 148) #[] #[])):=⟨fa.cell k00 hN0,fa.cell k10 hN1,fa.cell k11 hN1,fa.cell k12 hN1,fa.cell k2 hN2⟩
  refine ⟨hSA,?_⟩
  simp only [sIb,sCs,sCz]
  refine tk_at 6 8 (.nilIface) #[true,true,true,true,true,true,true] rfl rfl rfl (by kernel_rfl) (by rfl) (by rintro w ⟨t0,t1,t2,t3,t4⟩;go_simp) (by assumption) ?_
  simp only [sIb,sCs,sCz]
  refine wpAnyH_done (by kernel_rfl) ?_ _
  dsimp only [calmPost]
  have hca:TBox wa H p x y n:=HI1.out.1.frm fa (fun k e=>by rcases e with e|e <;> omega)
  clear k00 k10 k11 k12 k2 hS0 hSA
  have k10:=cell_of_row _ _ 0 _ _ _ hca.b1
  have k11:=cell_of_row _ _ 1 _ _ _ hca.b1
  have k12:=cell_of_row _ _ 2 _ _ _ hca.b1
  simp at k10 k11 k12
  obtain ⟨T,hT⟩:∃ T,T=wa.heap.size:=⟨_,rfl⟩
  have HT:Hid (T=wa.heap.size):=hT
  have hTH:H+3<=T:=by rw [hT];exact heap_lt hca.b2
  obtain ⟨W7,hW7⟩:∃ W7,W7=wa.alloc (.cells #[.int .i64 x,.int .i64 y,.int .i64 n] 100):=⟨_,rfl⟩
  have HW7:Hid (W7=wa.alloc (.cells #[.int .i64 x,.int .i64 y,.int .i64 n] 100)):=hW7
  have hB7:Below wa.heap.size wa W7:=by rw [hW7];exact (Below.refl _ wa).alloc (Nat.le_refl _) _
  have hs7:W7.heap.size=T+1:=by rw [hW7,hT];simp
  have hit:W7.heap[T]?=some (.cells #[.int .i64 x,.int .i64 y,.int .i64 n] 100 (0,0)):=by rw [hW7,hT];exact heap_alloc_last wa _
  have HI0:Hid (SeenJ w W7 L p b nb rg Dv dbs s z g2 H T x y n []):=⟨ha.below hB7,hca.frm (Frm.of_below (S:=fun _=>False) hB7) (fun _ e=>e.elim),hit,((frm_one_t HI1.out.2).trans (frm_blk_t fa)).trans (Frm.of_below hB7)⟩
  clear ha fa hca hW7 hB7 hT HI1 HCF HK
  go_wp2_with (go_at_call 105;refine (pPoints _ _ _ _).mono ?_;rintro e wq ⟨rfl,rfl⟩)
  clear k10 k11 k12
  rw [<- HT.out,<- HW7.out]
  refine (wpIn_wide (n:=5)).1 ?_
  refine wpIn_rangeFunc_ownF rfl (by decide) (gf:=131) (lb:=#[.pointer (some ⟨T,0,none⟩)]) rfl trivial (enters_of Tryz.func131 (by kernel_rfl) rfl)
   (points_stops Fence.wide (5-1) trivial rfl (by decide) T x y n (by omega) (by omega) W7 hit)
   (fun h1 h2=>h2.trans h1) (fun W l o o' hl _ _ _=>World.putObj_heap_other (by omega)) (Below.refl _ _) (fun _=>rfl)
   (fun pre W=>SeenJ w W L p b nb rg Dv dbs s z g2 H T x y n pre)
   (fun _ _ _=>False)
   ?own (fun _ _ _ _ _ hs _ _=>hs) HI0.out
   (fun pt=>{ tmps:=#[.pointer (some ⟨p,0,none⟩),.agg #[.int .i64 x,.int .i64 y,.int .i64 n],.pointer (some ⟨H,0,none⟩),.pointer (some ⟨H+1,0,none⟩),.nilIface,.pointer (some ⟨H+1+1,0,none⟩),.int .i64 1,.nilIface,.nilIface,.int .i64 pt.1.1,.int .i64 pt.1.2,.agg #[.func (.func 147) #[] #[],.func (.func 148) #[] #[],.func (.func 149) #[] #[],.func (.func 150) #[] #[]],.tuple #[.int .i64 1,.nilIface],.pointer (some ⟨p,0,none⟩),.tuple #[.int .i64 1,.nilIface],.int .i64 1,.nilIface,.nilIface,.bool false,undef,.int .i64 1,.pointer (some ⟨H+1+1,1,none⟩),.func (.func 148) #[] #[],.pointer (some ⟨p,0,none⟩),.agg #[.int .i64 x,.int .i64 y,.int .i64 n],.nilIface,.nilIface,.bool false,undef,.agg #[.int .i64 x,.int .i64 y,.int .i64 n],.func (.func 131) #[] #[.pointer (some ⟨T,0,none⟩)],.int .i64 pt.1.1,.int .i64 pt.1.2,undef,undef,undef,undef,undef,undef,undef,undef,undef,undef,undef,undef,undef],defers:=[] }) ?assign ?body ?done ?stop
  case own =>
   rintro pre W W' row ⟨i1,i2,i3,i4⟩ hg hr
   have hr':∀ r,row=some r->T+1<=r:=fun r e=>by have:=(hr r e).1;omega
   have fg:Frm (fun k=>row=some k) W W':=(Frm.refl _ W).grown hg (fun k e=>.inl e)
   refine ⟨i1.grown (B:=H) HLT.out hg (fun r e=>by have:=hr' r e;omega),i2.frm fg (fun k e=>by have:=hr' k e;omega),(fg.block _ (heap_lt i3) (fun e=>by have:=hr' _ e;omega)).trans i3,?_⟩
   exact i4.grown hg (fun k e=>.inr (by have:=hr' k e;have:=HH.out;omega))
  case assign =>
   intro l pt W K hK
   dsimp only [encPt]
   gi_wp2
   exact hK
  case body =>
   rintro l pre ⟨⟨PX,PY⟩,⟨hpx1,hpx2⟩,hpy1,hpy2⟩ W ⟨i1,i2,i3,i4⟩ hlen
   dsimp only at hpx1 hpx2 hpy1 hpy2 ⊢
   obtain ⟨K,hK⟩:∃ K,K=PY*z+PX:=⟨_,rfl⟩
   have hKz:K<z*z:=by rw [hK];exact spot_lt (by omega) (by omega)
   have hKZ:K<Z:=by rw [HZ.out];exact hKz
   have hzz:=i1.zzle
   have d1:=i1.c1
   have d5:=i1.c5
   rw [<- HZ.out] at d5
   have dk:=i1.read.cell K hKz
   have dz:=i1.read.frozen K
   have k00:=cell_of_row _ _ 0 _ _ _ i2.b0
   simp at k00
   have hw0:(PY:Int)*z+PX=(K:Int):=by rw [hK];simp
   have hwb:(PY:Int)*z<=256/\0<=(PY:Int)*z:=⟨by omega,by rw [<- Int.natCast_mul];omega⟩
   have hw1:IntKind.i64.wrap ((PY:Int)*z)=(PY:Int)*z:=by rw [IntKind.wrap_i64];omega
   have hw2:IntKind.i64.wrap ((PY:Int)*z+PX)=(K:Int):=by rw [IntKind.wrap_i64];omega
   have hKZ':(K:Int)<(Z:Int):=by omega
   have HI:Hid (SeenJ w W L p b nb rg Dv dbs s z g2 H T x y n pre):=⟨i1,i2,i3,i4⟩
   have HKE:Hid (K=PY*z+PX):=hK
   have hne:¬ H=rg:=by omega
   have hpr:¬ p=rg:=i1.nes.1.2.1
   clear i1 i2 i3 i4 hK hwb hw0
   gi_wp2
   refine region_round_at (S:=fun w'=>w'.cell? ⟨H,0,none⟩=some (.pointer (some ⟨p,0,none⟩))/\w'.cell? ⟨p,1,none⟩=some (.int .i64 z)/\w'.cell? ⟨p,5,none⟩=some (.slice (some ⟨rg,0,none⟩) Z Z)) 14 #[false,false,false,false,false,false,false,false,false,false,false,false,false,false] rfl rfl hmx (by kernel_rfl) (fun ⟨_,_,h⟩=>h) ?_
   have hS0:(W.drew.cell? ⟨H,0,none⟩=some (.pointer (some ⟨p,0,none⟩))/\W.drew.cell? ⟨p,1,none⟩=some (.int .i64 z)/\W.drew.cell? ⟨p,5,none⟩=some (.slice (some ⟨rg,0,none⟩) Z Z)):=⟨k00,d1,d5⟩
   refine tk_at 0 33 (.pointer (some ⟨p,0,none⟩)) #[true,false,false,false,false,false,false,false,false,false,false,false,false,false] rfl rfl rfl (by kernel_rfl) (by rfl) (by rintro w ⟨t0,t1,t5⟩;go_simp) (by assumption) ?_
   simp only [sIb,sCs,sCz]
   refine tk_at 1 34 (.pointer (some ⟨p,0,none⟩)) #[true,true,false,false,false,false,false,false,false,false,false,false,false,false] rfl rfl rfl (by kernel_rfl) (by rfl) (by rintro w ⟨t0,t1,t5⟩;go_simp) (by assumption) ?_
   simp only [sIb,sCs,sCz]
   refine tk_at 2 35 (.pointer (some ⟨p,5,none⟩)) #[true,true,true,false,false,false,false,false,false,false,false,false,false,false] rfl rfl rfl (by kernel_rfl) (by rfl) (by rintro w ⟨t0,t1,t5⟩;go_simp) (by assumption) ?_
   simp only [sIb,sCs,sCz]
   refine tk_at 3 36 (.slice (some ⟨rg,0,none⟩) Z Z) #[true,true,true,true,false,false,false,false,false,false,false,false,false,false] rfl rfl rfl (by kernel_rfl) (by rfl) (by rintro w ⟨t0,t1,t5⟩;go_simp) (by assumption) ?_
   simp only [sIb,sCs,sCz]
   refine tk_at 4 37 (.int .i64 PY) #[true,true,true,true,true,false,false,false,false,false,false,false,false,false] rfl rfl rfl (by kernel_rfl) (by rfl) (by rintro w ⟨t0,t1,t5⟩;go_simp) (by assumption) ?_
   simp only [sIb,sCs,sCz]
   refine tk_at 5 38 (.pointer (some ⟨p,0,none⟩)) #[true,true,true,true,true,true,false,false,false,false,false,false,false,false] rfl rfl rfl (by kernel_rfl) (by rfl) (by rintro w ⟨t0,t1,t5⟩;go_simp) (by assumption) ?_
   simp only [sIb,sCs,sCz]
   refine tk_at 6 39 (.pointer (some ⟨p,0,none⟩)) #[true,true,true,true,true,true,true,false,false,false,false,false,false,false] rfl rfl rfl (by kernel_rfl) (by rfl) (by rintro w ⟨t0,t1,t5⟩;go_simp) (by assumption) ?_
   simp only [sIb,sCs,sCz]
   refine tk_at 7 40 (.pointer (some ⟨p,1,none⟩)) #[true,true,true,true,true,true,true,true,false,false,false,false,false,false] rfl rfl rfl (by kernel_rfl) (by rfl) (by rintro w ⟨t0,t1,t5⟩;go_simp) (by assumption) ?_
   simp only [sIb,sCs,sCz]
   refine tk_at 8 41 (.int .i64 z) #[true,true,true,true,true,true,true,true,true,false,false,false,false,false] rfl rfl rfl (by kernel_rfl) (by rfl) (by rintro w ⟨t0,t1,t5⟩;go_simp) (by assumption) ?_
   simp only [sIb,sCs,sCz]
   refine tk_at 9 42 (.int .i64 ((PY:Int)*z)) #[true,true,true,true,true,true,true,true,true,true,false,false,false,false] rfl rfl rfl (by kernel_rfl) (by rfl) (by rintro w ⟨t0,t1,t5⟩;go_simp) (by assumption) ?_
   simp only [sIb,sCs,sCz]
   refine tk_at 10 43 (.int .i64 PX) #[true,true,true,true,true,true,true,true,true,true,true,false,false,false] rfl rfl rfl (by kernel_rfl) (by rfl) (by rintro w ⟨t0,t1,t5⟩;go_simp) (by assumption) ?_
   simp only [sIb,sCs,sCz]
   refine tk_at 11 44 (.int .i64 K) #[true,true,true,true,true,true,true,true,true,true,true,true,false,false] rfl rfl rfl (by kernel_rfl) (by rfl) (by rintro w ⟨t0,t1,t5⟩;go_simp) (by assumption) ?_
   simp only [sIb,sCs,sCz]
   refine tk_at 12 45 (.pointer (some ⟨rg,K,none⟩)) #[true,true,true,true,true,true,true,true,true,true,true,true,true,false] rfl rfl rfl (by kernel_rfl) (by rfl) (by rintro w ⟨t0,t1,t5⟩;go_simp) (by assumption) ?_
   simp only [sIb,sCs,sCz]
   obtain ⟨X,hX⟩:∃ X,X=W.drew.setCell ⟨rg,K,none⟩ (.bool true):=⟨_,rfl⟩
   have fX:Frm (fun k=>k=rg) W X:=by rw [hX];exact Frm.setCell (p:=⟨rg,K,none⟩) ((Frm.refl (fun k=>k=rg) W).drew) (.inl rfl) _
   have dkd:W.drew.cell? ⟨rg,K,none⟩=some _:=dk
   have dzd:W.drew.frozen? ⟨rg,K,none⟩=false:=dz
   refine store_at (i:=13) (w':=X) #[true,true,true,true,true,true,true,true,true,true,true,true,true,true] (by kernel_rfl) rfl rfl rfl (by rfl) ?sg ⟨fX.cell k00 hne,fX.cell d1 hpr,fX.cell d5 hpr⟩ ?_
   case sg=>rw [hX];go_simp
   refine wpAnyH_done (by kernel_rfl) ?_ _
   obtain ⟨j1,j2,j3,j4⟩:=HI.out
   have hTr:¬ T=rg:=by omega
   refine ⟨keeps_frm fX (fun k e=>by rw [e];exact ⟨_,j1.read.cell 0 (by rcases j1.zz with e|e|e <;> subst e <;> decide)⟩),fX.block _ (heap_lt j3) hTr,?_,j2.frm fX (fun k e=>by omega),(fX.block _ (heap_lt j3) hTr).trans j3,j4.trans (frm_rg_t fX)⟩
   rw [List.map_append,List.foldl_append,List.map_cons,List.map_nil,List.foldl_cons,List.foldl_nil]
   dsimp only
   rw [<- HKE.out,hX]
   exact (j1.frm (Frm.refl (fun _=>False) W).drew (fun _ _ e=>e)).see K
  case done =>
   rintro D ys W hD hys ⟨i1,i2,i3,i4⟩ hK
   have hDs:T+1<=D:=by omega
   rw [hys] at i1
   have HI:Hid (PAt W L p b nb rg Dv dbs s z ((Flm.spots x y n).foldl (fun fs p=>{ fs with rd:=fs.rd.set (p.2*z+p.1) true }) g2)/\Frm (blkT b nb rg) w W/\W.heap[D]?=some (.deferred (some []))):=⟨i1,i4,hK⟩
   clear i1 i2 i3 i4 hK
   go_wp2_with fail
   obtain ⟨ha,fa,hKa⟩:=HI.out
   have hg:=grownBy_putObj' W D (.deferred none)
   have fg:Frm (fun k=>k=D) W (W.putObj D (.deferred none)):=(Frm.refl _ W).grown hg (fun k e=>by cases e;exact .inl rfl)
   refine retM_mark (v:=.nilIface) rfl hKa (by simp [results,Tryz.results121,go_sem]) ?_
   exact ⟨by rw [hg2];rfl,fun _=>ha.frm fg (fun k hk e=>by have:=HLT.out k hk;omega),frm_new fa (G:=D) fg (by have:=HH.out;omega)⟩
  case stop =>
   rintro D c pre W _ _ hh _
   exact hh.elim
 ·obtain ⟨ea,hea⟩:∃ ea,ea=A g2.r.err.toNat:=⟨_,rfl⟩
  refine region_calm (S:=fun w'=>w'.cell? ⟨H,0,none⟩=some (.pointer (some ⟨p,0,none⟩))/\w'.cell? ⟨H+1,0,none⟩=some (.int .i64 x)/\w'.cell? ⟨H+1,1,none⟩=some (.int .i64 y)/\w'.cell? ⟨H+1,2,none⟩=some (.int .i64 n)/\w'.cell? ⟨H+1+1,1,none⟩=some (.func (.func 148) #[] #[])) 7 #[false,false,false,false,false,false,false] rfl rfl hmx ?_
  have hS0:(w1.drew.cell? ⟨H,0,none⟩=some (.pointer (some ⟨p,0,none⟩))/\w1.drew.cell? ⟨H+1,0,none⟩=some (.int .i64 x)/\w1.drew.cell? ⟨H+1,1,none⟩=some (.int .i64 y)/\w1.drew.cell? ⟨H+1,2,none⟩=some (.int .i64 n)/\w1.drew.cell? ⟨H+1+1,1,none⟩=some (.func (.func 148) #[] #[])):=⟨k00,k10,k11,k12,k2⟩
  refine tk_at 0 20 (.int .i64 1) #[true,false,false,false,false,false,false] rfl rfl rfl (by kernel_rfl) (by rfl) (by rintro w ⟨t0,t1,t2,t3,t4⟩;go_simp) (by assumption) ?_
  simp only [sIb,sCs,sCz]
  refine tk_at 1 21 (.pointer (some ⟨H+1+1,1,none⟩)) #[true,true,false,false,false,false,false] rfl rfl rfl (by kernel_rfl) (by rfl) (by rintro w ⟨t0,t1,t2,t3,t4⟩;go_simp) (by assumption) ?_
  simp only [sIb,sCs,sCz]
  refine tk_at 2 22 (.func (.func 148) #[] #[]) #[true,true,true,false,false,false,false] rfl rfl rfl (by kernel_rfl) (by rfl) (by rintro w ⟨t0,t1,t2,t3,t4⟩;go_simp) (by assumption) ?_
  simp only [sIb,sCs,sCz]
  refine tk_at 3 23 (.pointer (some ⟨p,0,none⟩)) #[true,true,true,true,false,false,false] rfl rfl rfl (by kernel_rfl) (by rfl) (by rintro w ⟨t0,t1,t2,t3,t4⟩;go_simp) (by assumption) ?_
  simp only [sIb,sCs,sCz]
  refine tk_at 4 24 (.agg #[.int .i64 x,.int .i64 y,.int .i64 n]) #[true,true,true,true,true,false,false] rfl rfl rfl (by kernel_rfl) (by rfl) (by rintro w ⟨t0,t1,t2,t3,t4⟩;go_simp) (by assumption) ?_
  simp only [sIb,sCs,sCz]
  refine enter_at (i:=5) (d:=25) (f:=148) (args:=#[.pointer (some ⟨p,0,none⟩),.agg #[.int .i64 x,.int .i64 y,.int .i64 n]]) #[true,true,true,true,true,true,false] (by kernel_rfl) rfl rfl rfl (by rfl) (by go_simp) (fun v' w'=>v'=.iface 278 (.pointer (some ea))/\Frm (blkS b nb) w1 w') (HCF.out.mono (fun e w' he=>⟨.iface 278 (.pointer (some ea)),by rw [he.1,errA_pos A hg2,hea],rfl,((Frm.refl (blkS b nb) w1).drew).trans he.2.2⟩)) ?_
  rintro va wa ⟨rfl,fa⟩
  have hN0:¬ blkS b nb H:=by rintro (e|e) <;> omega
  have hN1:¬ blkS b nb (H+1):=by rintro (e|e) <;> omega
  have hN2:¬ blkS b nb (H+1+1):=by rintro (e|e) <;> omega
  have hSA:(wa.cell? ⟨H,0,none⟩=some (.pointer (some ⟨p,0,none⟩))/\wa.cell? ⟨H+1,0,none⟩=some (.int .i64 x)/\wa.cell? ⟨H+1,1,none⟩=some (.int .i64 y)/\wa.cell? ⟨H+1,2,none⟩=some (.int .i64 n)/\wa.cell? ⟨H+1+1,1,none⟩=some (.func (.func 148) #[] #[])):=⟨fa.cell k00 hN0,fa.cell k10 hN1,fa.cell k11 hN1,fa.cell k12 hN1,fa.cell k2 hN2⟩
  refine ⟨hSA,?_⟩
  simp only [sIb,sCs,sCz]
  refine tk_at 6 8 (.iface 278 (.pointer (some ea))) #[true,true,true,true,true,true,true] rfl rfl rfl (by kernel_rfl) (by rfl) (by rintro w ⟨t0,t1,t2,t3,t4⟩;go_simp) (by assumption) ?_
  simp only [sIb,sCs,sCz]
  refine wpAnyH_done (by kernel_rfl) ?_ _
  dsimp only [calmPost]
  clear k00 k10 k11 k12 k2 hS0 hSA
  go_wp2_with fail
  refine retM_none (v:=.iface 278 (.pointer (some ea))) rfl (by simp [results,Tryz.results121,go_sem]) ?_
  exact ⟨by rw [errA_pos A hg2,hea],fun he=>absurd he hg2,(frm_one_t HI1.out.2).trans (frm_blk_t fa)⟩
set_option maxRecDepth 100000 in
theorem pBlock2 (w:World) (L p b nb rg:Nat) (Dv:Value) (dbs:List Nat) (s:ByteArray) (z:Nat) (fs:FS) (A:Nat->Addr) (h:PAt w L p b nb rg Dv dbs s z fs) (x y n:Nat) (hx:x+n<=z) (hy:y+n<=z) (g1 g2:FS)
  (hk:∀ wx,Below w.heap.size w wx->Calls Tryz.prog 151 #[.pointer (some ⟨p,0,none⟩)] wx fun e w'=>e=.returned (.tuple #[.int .i64 2,.nilIface])/\PAt w' L p b nb rg Dv dbs s z g1/\Frm (oneS b) wx w')
  (hf:∀ wx,PAt wx L p b nb rg Dv dbs s z g1->Frm (oneS b) w wx->Calls Tryz.prog 149 #[.pointer (some ⟨p,0,none⟩),.agg #[.int .i64 x,.int .i64 y,.int .i64 n]] wx (BlkPost A wx L p b nb rg Dv dbs s z g2)) :
  Calls Tryz.prog 121 #[.pointer (some ⟨p,0,none⟩),.agg #[.int .i64 x,.int .i64 y,.int .i64 n]] w fun e w'=>e=.returned (errA A g2.r.err)/\(g2.r.err=0->PAt w' L p b nb rg Dv dbs s z (Flm.seen z (Flm.spots x y n) g2))/\Frm (blkT b nb rg) w w':=by
 rw [Flm.seen_fold]
 obtain ⟨Z,hZ⟩:∃ Z,Z=z*z:=⟨_,rfl⟩
 have HZ:Hid (Z=z*z):=hZ
 have hz16:=h.z16
 obtain ⟨H,hH⟩:∃ H,H=w.heap.size:=⟨_,rfl⟩
 obtain ⟨W3,hW3⟩:∃ W3,W3=((w.alloc (.cells #[.pointer (some ⟨p,0,none⟩)] 107)).alloc (.cells #[.int .i64 x,.int .i64 y,.int .i64 n] 100)).alloc (.cells #[.func (.func 147) #[] #[],.func (.func 148) #[] #[],.func (.func 149) #[] #[],.func (.func 150) #[] #[]] 251):=⟨_,rfl⟩
 have hB3:Below w.heap.size w W3:=by rw [hW3];exact below3 w _ _ _
 have hF3:TBox W3 H p x y n:=by rw [hW3,hH];exact tbox_new w p x y n
 have hs3:W3.heap.size=H+3:=by rw [hW3,hH];simp
 have HW3:Hid (W3=((w.alloc (.cells #[.pointer (some ⟨p,0,none⟩)] 107)).alloc (.cells #[.int .i64 x,.int .i64 y,.int .i64 n] 100)).alloc (.cells #[.func (.func 147) #[] #[],.func (.func 148) #[] #[],.func (.func 149) #[] #[],.func (.func 150) #[] #[]] 251)):=hW3
 have HH:Hid (H=w.heap.size):=hH
 have k00:=cell_of_row _ _ 0 _ _ _ hF3.b0
 simp at k00
 have hlt:∀ k,paB p b nb rg Dv dbs k->k<H:=by rw [hH];exact h.lt
 have hbH:b<H:=hlt b (.inr (.inl rfl))
 have hnbH:nb<H:=hlt nb (.inr (.inr (.inr (.inl rfl))))
 have hrgH:rg<H:=hlt rg (.inr (.inr (.inl rfl)))
 have hpH:p<H:=hlt p (.inl rfl)
 have hmx:Tryz.prog.follows .mixedOrders=true:=by kernel_rfl
 have HLT:Hid (∀ k,paB p b nb rg Dv dbs k->k<H):=hlt
 have HK:Hid (Calls Tryz.prog 151 #[.pointer (some ⟨p,0,none⟩)] W3 fun e w'=>e=.returned (.tuple #[.int .i64 2,.nilIface])/\PAt w' L p b nb rg Dv dbs s z g1/\Frm (oneS b) W3 w'):=hk W3 hB3
 have HF:Hid (Frm (oneS b) w W3):=Frm.of_below hB3
 have HC:Hid (∀ w1,Frm (oneS b) W3 w1->TBox w1 H p x y n):=fun w1 f=>hF3.frm f (fun k e=>by have e':k=b:=e;omega)
 have HFN:Hid (∀ wx,PAt wx L p b nb rg Dv dbs s z g1->Frm (oneS b) w wx->Calls Tryz.prog 149 #[.pointer (some ⟨p,0,none⟩),.agg #[.int .i64 x,.int .i64 y,.int .i64 n]] wx (BlkPost A wx L p b nb rg Dv dbs s z g2)):=hf
 clear hk hf h hW3 hB3 hF3 hH hlt hZ
 refine (callsIn_wide (n:=5)).1 ?_
 refine callsIn_of_wp_marks Tryz.func121 rfl trivial ?_ rfl
 simp only [Tryz.ntmps121,List.size_toArray,List.length_cons,List.length_nil,Nat.reduceAdd,Nat.reduceSub,Array.replicate_succ,Array.replicate_zero,List.push_toArray,List.append_toArray,List.nil_append,List.cons_append]
 refine wpIn_wide.2 ?_
 go_wp2_with (first
  | (rw [<- HW3.out,<- HH.out])
  | (go_at_call 151;refine HK.out.mono ?_;rintro e w1 ⟨rfl,h1,f1⟩))
 have hc1:=HC.out w1 f1
 clear k00
 have k00:=cell_of_row _ _ 0 _ _ _ hc1.b0
 have k10:=cell_of_row _ _ 0 _ _ _ hc1.b1
 have k11:=cell_of_row _ _ 1 _ _ _ hc1.b1
 have k12:=cell_of_row _ _ 2 _ _ _ hc1.b1
 have k2:=cell_of_row _ _ 2 _ _ _ hc1.b2
 simp at k00 k10 k11 k12 k2
 have fd1:Frm (oneS b) w1 w1.drew:=(Frm.refl _ _).drew
 have HCF:Hid (Calls Tryz.prog 149 #[.pointer (some ⟨p,0,none⟩),.agg #[.int .i64 x,.int .i64 y,.int .i64 n]] w1.drew (BlkPost A w1.drew L p b nb rg Dv dbs s z g2)):=HFN.out w1.drew (h1.frm (Frm.refl (fun _=>False) w1).drew (fun _ _ e=>e)) ((HF.out.trans f1).trans fd1)
 have HI1:Hid (TBox w1 H p x y n/\Frm (oneS b) w w1):=⟨hc1,HF.out.trans f1⟩
 clear h1 f1 hc1 HFN
 have hHs:H+3<=w1.heap.size:=heap_lt HI1.out.1.b2
 by_cases hg2:g2.r.err=0
 ·refine region_calm (S:=fun w'=>w'.cell? ⟨H,0,none⟩=some (.pointer (some ⟨p,0,none⟩))/\w'.cell? ⟨H+1,0,none⟩=some (.int .i64 x)/\w'.cell? ⟨H+1,1,none⟩=some (.int .i64 y)/\w'.cell? ⟨H+1,2,none⟩=some (.int .i64 n)/\w'.cell? ⟨H+1+1,2,none⟩=some (.func (.func 149) #[] #[])) 7 #[false,false,false,false,false,false,false] rfl rfl hmx ?_
  have hS0:(w1.drew.cell? ⟨H,0,none⟩=some (.pointer (some ⟨p,0,none⟩))/\w1.drew.cell? ⟨H+1,0,none⟩=some (.int .i64 x)/\w1.drew.cell? ⟨H+1,1,none⟩=some (.int .i64 y)/\w1.drew.cell? ⟨H+1,2,none⟩=some (.int .i64 n)/\w1.drew.cell? ⟨H+1+1,2,none⟩=some (.func (.func 149) #[] #[])):=⟨k00,k10,k11,k12,k2⟩
  refine tk_at 0 20 (.int .i64 2) #[true,false,false,false,false,false,false] rfl rfl rfl (by kernel_rfl) (by rfl) (by rintro w ⟨t0,t1,t2,t3,t4⟩;go_simp) (by assumption) ?_
  simp only [sIb,sCs,sCz]
  refine tk_at 1 21 (.pointer (some ⟨H+1+1,2,none⟩)) #[true,true,false,false,false,false,false] rfl rfl rfl (by kernel_rfl) (by rfl) (by rintro w ⟨t0,t1,t2,t3,t4⟩;go_simp) (by assumption) ?_
  simp only [sIb,sCs,sCz]
  refine tk_at 2 22 (.func (.func 149) #[] #[]) #[true,true,true,false,false,false,false] rfl rfl rfl (by kernel_rfl) (by rfl) (by rintro w ⟨t0,t1,t2,t3,t4⟩;go_simp) (by assumption) ?_
  simp only [sIb,sCs,sCz]
  refine tk_at 3 23 (.pointer (some ⟨p,0,none⟩)) #[true,true,true,true,false,false,false] rfl rfl rfl (by kernel_rfl) (by rfl) (by rintro w ⟨t0,t1,t2,t3,t4⟩;go_simp) (by assumption) ?_
  simp only [sIb,sCs,sCz]
  refine tk_at 4 24 (.agg #[.int .i64 x,.int .i64 y,.int .i64 n]) #[true,true,true,true,true,false,false] rfl rfl rfl (by kernel_rfl) (by rfl) (by rintro w ⟨t0,t1,t2,t3,t4⟩;go_simp) (by assumption) ?_
  simp only [sIb,sCs,sCz]
  refine enter_at (i:=5) (d:=25) (f:=149) (args:=#[.pointer (some ⟨p,0,none⟩),.agg #[.int .i64 x,.int .i64 y,.int .i64 n]]) #[true,true,true,true,true,true,false] (by kernel_rfl) rfl rfl rfl (by rfl) (by go_simp) (fun v' w'=>v'=.nilIface/\PAt w' L p b nb rg Dv dbs s z g2/\Frm (blkS b nb) w1 w') (HCF.out.mono (fun e w' he=>⟨.nilIface,by rw [he.1,hg2];rfl,rfl,he.2.1 hg2,((Frm.refl (blkS b nb) w1).drew).trans he.2.2⟩)) ?_
  rintro va wa ⟨rfl,ha,fa⟩
  have hN0:¬ blkS b nb H:=by rintro (e|e) <;> omega
  have hN1:¬ blkS b nb (H+1):=by rintro (e|e) <;> omega
  have hN2:¬ blkS b nb (H+1+1):=by rintro (e|e) <;> omega
  have hSA:(wa.cell? ⟨H,0,none⟩=some (.pointer (some ⟨p,0,none⟩))/\wa.cell? ⟨H+1,0,none⟩=some (.int .i64 x)/\wa.cell? ⟨H+1,1,none⟩=some (.int .i64 y)/\wa.cell? ⟨H+1,2,none⟩=some (.int .i64 n)/\wa.cell? ⟨H+1+1,2,none⟩=some (.func (.func 149) #[] #[])):=⟨fa.cell k00 hN0,fa.cell k10 hN1,fa.cell k11 hN1,fa.cell k12 hN1,fa.cell k2 hN2⟩
  refine ⟨hSA,?_⟩
  simp only [sIb,sCs,sCz]
  refine tk_at 6 8 (.nilIface) #[true,true,true,true,true,true,true] rfl rfl rfl (by kernel_rfl) (by rfl) (by rintro w ⟨t0,t1,t2,t3,t4⟩;go_simp) (by assumption) ?_
  simp only [sIb,sCs,sCz]
  refine wpAnyH_done (by kernel_rfl) ?_ _
  dsimp only [calmPost]
  have hca:TBox wa H p x y n:=HI1.out.1.frm fa (fun k e=>by rcases e with e|e <;> omega)
  clear k00 k10 k11 k12 k2 hS0 hSA
  have k10:=cell_of_row _ _ 0 _ _ _ hca.b1
  have k11:=cell_of_row _ _ 1 _ _ _ hca.b1
  have k12:=cell_of_row _ _ 2 _ _ _ hca.b1
  simp at k10 k11 k12
  obtain ⟨T,hT⟩:∃ T,T=wa.heap.size:=⟨_,rfl⟩
  have HT:Hid (T=wa.heap.size):=hT
  have hTH:H+3<=T:=by rw [hT];exact heap_lt hca.b2
  obtain ⟨W7,hW7⟩:∃ W7,W7=wa.alloc (.cells #[.int .i64 x,.int .i64 y,.int .i64 n] 100):=⟨_,rfl⟩
  have HW7:Hid (W7=wa.alloc (.cells #[.int .i64 x,.int .i64 y,.int .i64 n] 100)):=hW7
  have hB7:Below wa.heap.size wa W7:=by rw [hW7];exact (Below.refl _ wa).alloc (Nat.le_refl _) _
  have hs7:W7.heap.size=T+1:=by rw [hW7,hT];simp
  have hit:W7.heap[T]?=some (.cells #[.int .i64 x,.int .i64 y,.int .i64 n] 100 (0,0)):=by rw [hW7,hT];exact heap_alloc_last wa _
  have HI0:Hid (SeenJ w W7 L p b nb rg Dv dbs s z g2 H T x y n []):=⟨ha.below hB7,hca.frm (Frm.of_below (S:=fun _=>False) hB7) (fun _ e=>e.elim),hit,((frm_one_t HI1.out.2).trans (frm_blk_t fa)).trans (Frm.of_below hB7)⟩
  clear ha fa hca hW7 hB7 hT HI1 HCF HK
  go_wp2_with (go_at_call 105;refine (pPoints _ _ _ _).mono ?_;rintro e wq ⟨rfl,rfl⟩)
  clear k10 k11 k12
  rw [<- HT.out,<- HW7.out]
  refine (wpIn_wide (n:=5)).1 ?_
  refine wpIn_rangeFunc_ownF rfl (by decide) (gf:=131) (lb:=#[.pointer (some ⟨T,0,none⟩)]) rfl trivial (enters_of Tryz.func131 (by kernel_rfl) rfl)
   (points_stops Fence.wide (5-1) trivial rfl (by decide) T x y n (by omega) (by omega) W7 hit)
   (fun h1 h2=>h2.trans h1) (fun W l o o' hl _ _ _=>World.putObj_heap_other (by omega)) (Below.refl _ _) (fun _=>rfl)
   (fun pre W=>SeenJ w W L p b nb rg Dv dbs s z g2 H T x y n pre)
   (fun _ _ _=>False)
   ?own (fun _ _ _ _ _ hs _ _=>hs) HI0.out
   (fun pt=>{ tmps:=#[.pointer (some ⟨p,0,none⟩),.agg #[.int .i64 x,.int .i64 y,.int .i64 n],.pointer (some ⟨H,0,none⟩),.pointer (some ⟨H+1,0,none⟩),.nilIface,.pointer (some ⟨H+1+1,0,none⟩),.int .i64 2,.nilIface,.nilIface,.int .i64 pt.1.1,.int .i64 pt.1.2,.agg #[.func (.func 147) #[] #[],.func (.func 148) #[] #[],.func (.func 149) #[] #[],.func (.func 150) #[] #[]],.tuple #[.int .i64 2,.nilIface],.pointer (some ⟨p,0,none⟩),.tuple #[.int .i64 2,.nilIface],.int .i64 2,.nilIface,.nilIface,.bool false,undef,.int .i64 2,.pointer (some ⟨H+1+1,2,none⟩),.func (.func 149) #[] #[],.pointer (some ⟨p,0,none⟩),.agg #[.int .i64 x,.int .i64 y,.int .i64 n],.nilIface,.nilIface,.bool false,undef,.agg #[.int .i64 x,.int .i64 y,.int .i64 n],.func (.func 131) #[] #[.pointer (some ⟨T,0,none⟩)],.int .i64 pt.1.1,.int .i64 pt.1.2,undef,undef,undef,undef,undef,undef,undef,undef,undef,undef,undef,undef,undef],defers:=[] }) ?assign ?body ?done ?stop
  case own =>
   rintro pre W W' row ⟨i1,i2,i3,i4⟩ hg hr
   have hr':∀ r,row=some r->T+1<=r:=fun r e=>by have:=(hr r e).1;omega
   have fg:Frm (fun k=>row=some k) W W':=(Frm.refl _ W).grown hg (fun k e=>.inl e)
   refine ⟨i1.grown (B:=H) HLT.out hg (fun r e=>by have:=hr' r e;omega),i2.frm fg (fun k e=>by have:=hr' k e;omega),(fg.block _ (heap_lt i3) (fun e=>by have:=hr' _ e;omega)).trans i3,?_⟩
   exact i4.grown hg (fun k e=>.inr (by have:=hr' k e;have:=HH.out;omega))
  case assign =>
   intro l pt W K hK
   dsimp only [encPt]
   gi_wp2
   exact hK
  case body =>
   rintro l pre ⟨⟨PX,PY⟩,⟨hpx1,hpx2⟩,hpy1,hpy2⟩ W ⟨i1,i2,i3,i4⟩ hlen
   dsimp only at hpx1 hpx2 hpy1 hpy2 ⊢
   obtain ⟨K,hK⟩:∃ K,K=PY*z+PX:=⟨_,rfl⟩
   have hKz:K<z*z:=by rw [hK];exact spot_lt (by omega) (by omega)
   have hKZ:K<Z:=by rw [HZ.out];exact hKz
   have hzz:=i1.zzle
   have d1:=i1.c1
   have d5:=i1.c5
   rw [<- HZ.out] at d5
   have dk:=i1.read.cell K hKz
   have dz:=i1.read.frozen K
   have k00:=cell_of_row _ _ 0 _ _ _ i2.b0
   simp at k00
   have hw0:(PY:Int)*z+PX=(K:Int):=by rw [hK];simp
   have hwb:(PY:Int)*z<=256/\0<=(PY:Int)*z:=⟨by omega,by rw [<- Int.natCast_mul];omega⟩
   have hw1:IntKind.i64.wrap ((PY:Int)*z)=(PY:Int)*z:=by rw [IntKind.wrap_i64];omega
   have hw2:IntKind.i64.wrap ((PY:Int)*z+PX)=(K:Int):=by rw [IntKind.wrap_i64];omega
   have hKZ':(K:Int)<(Z:Int):=by omega
   have HI:Hid (SeenJ w W L p b nb rg Dv dbs s z g2 H T x y n pre):=⟨i1,i2,i3,i4⟩
   have HKE:Hid (K=PY*z+PX):=hK
   have hne:¬ H=rg:=by omega
   have hpr:¬ p=rg:=i1.nes.1.2.1
   clear i1 i2 i3 i4 hK hwb hw0
   gi_wp2
   refine region_round_at (S:=fun w'=>w'.cell? ⟨H,0,none⟩=some (.pointer (some ⟨p,0,none⟩))/\w'.cell? ⟨p,1,none⟩=some (.int .i64 z)/\w'.cell? ⟨p,5,none⟩=some (.slice (some ⟨rg,0,none⟩) Z Z)) 14 #[false,false,false,false,false,false,false,false,false,false,false,false,false,false] rfl rfl hmx (by kernel_rfl) (fun ⟨_,_,h⟩=>h) ?_
   have hS0:(W.drew.cell? ⟨H,0,none⟩=some (.pointer (some ⟨p,0,none⟩))/\W.drew.cell? ⟨p,1,none⟩=some (.int .i64 z)/\W.drew.cell? ⟨p,5,none⟩=some (.slice (some ⟨rg,0,none⟩) Z Z)):=⟨k00,d1,d5⟩
   refine tk_at 0 33 (.pointer (some ⟨p,0,none⟩)) #[true,false,false,false,false,false,false,false,false,false,false,false,false,false] rfl rfl rfl (by kernel_rfl) (by rfl) (by rintro w ⟨t0,t1,t5⟩;go_simp) (by assumption) ?_
   simp only [sIb,sCs,sCz]
   refine tk_at 1 34 (.pointer (some ⟨p,0,none⟩)) #[true,true,false,false,false,false,false,false,false,false,false,false,false,false] rfl rfl rfl (by kernel_rfl) (by rfl) (by rintro w ⟨t0,t1,t5⟩;go_simp) (by assumption) ?_
   simp only [sIb,sCs,sCz]
   refine tk_at 2 35 (.pointer (some ⟨p,5,none⟩)) #[true,true,true,false,false,false,false,false,false,false,false,false,false,false] rfl rfl rfl (by kernel_rfl) (by rfl) (by rintro w ⟨t0,t1,t5⟩;go_simp) (by assumption) ?_
   simp only [sIb,sCs,sCz]
   refine tk_at 3 36 (.slice (some ⟨rg,0,none⟩) Z Z) #[true,true,true,true,false,false,false,false,false,false,false,false,false,false] rfl rfl rfl (by kernel_rfl) (by rfl) (by rintro w ⟨t0,t1,t5⟩;go_simp) (by assumption) ?_
   simp only [sIb,sCs,sCz]
   refine tk_at 4 37 (.int .i64 PY) #[true,true,true,true,true,false,false,false,false,false,false,false,false,false] rfl rfl rfl (by kernel_rfl) (by rfl) (by rintro w ⟨t0,t1,t5⟩;go_simp) (by assumption) ?_
   simp only [sIb,sCs,sCz]
   refine tk_at 5 38 (.pointer (some ⟨p,0,none⟩)) #[true,true,true,true,true,true,false,false,false,false,false,false,false,false] rfl rfl rfl (by kernel_rfl) (by rfl) (by rintro w ⟨t0,t1,t5⟩;go_simp) (by assumption) ?_
   simp only [sIb,sCs,sCz]
   refine tk_at 6 39 (.pointer (some ⟨p,0,none⟩)) #[true,true,true,true,true,true,true,false,false,false,false,false,false,false] rfl rfl rfl (by kernel_rfl) (by rfl) (by rintro w ⟨t0,t1,t5⟩;go_simp) (by assumption) ?_
   simp only [sIb,sCs,sCz]
   refine tk_at 7 40 (.pointer (some ⟨p,1,none⟩)) #[true,true,true,true,true,true,true,true,false,false,false,false,false,false] rfl rfl rfl (by kernel_rfl) (by rfl) (by rintro w ⟨t0,t1,t5⟩;go_simp) (by assumption) ?_
   simp only [sIb,sCs,sCz]
   refine tk_at 8 41 (.int .i64 z) #[true,true,true,true,true,true,true,true,true,false,false,false,false,false] rfl rfl rfl (by kernel_rfl) (by rfl) (by rintro w ⟨t0,t1,t5⟩;go_simp) (by assumption) ?_
   simp only [sIb,sCs,sCz]
   refine tk_at 9 42 (.int .i64 ((PY:Int)*z)) #[true,true,true,true,true,true,true,true,true,true,false,false,false,false] rfl rfl rfl (by kernel_rfl) (by rfl) (by rintro w ⟨t0,t1,t5⟩;go_simp) (by assumption) ?_
   simp only [sIb,sCs,sCz]
   refine tk_at 10 43 (.int .i64 PX) #[true,true,true,true,true,true,true,true,true,true,true,false,false,false] rfl rfl rfl (by kernel_rfl) (by rfl) (by rintro w ⟨t0,t1,t5⟩;go_simp) (by assumption) ?_
   simp only [sIb,sCs,sCz]
   refine tk_at 11 44 (.int .i64 K) #[true,true,true,true,true,true,true,true,true,true,true,true,false,false] rfl rfl rfl (by kernel_rfl) (by rfl) (by rintro w ⟨t0,t1,t5⟩;go_simp) (by assumption) ?_
   simp only [sIb,sCs,sCz]
   refine tk_at 12 45 (.pointer (some ⟨rg,K,none⟩)) #[true,true,true,true,true,true,true,true,true,true,true,true,true,false] rfl rfl rfl (by kernel_rfl) (by rfl) (by rintro w ⟨t0,t1,t5⟩;go_simp) (by assumption) ?_
   simp only [sIb,sCs,sCz]
   obtain ⟨X,hX⟩:∃ X,X=W.drew.setCell ⟨rg,K,none⟩ (.bool true):=⟨_,rfl⟩
   have fX:Frm (fun k=>k=rg) W X:=by rw [hX];exact Frm.setCell (p:=⟨rg,K,none⟩) ((Frm.refl (fun k=>k=rg) W).drew) (.inl rfl) _
   have dkd:W.drew.cell? ⟨rg,K,none⟩=some _:=dk
   have dzd:W.drew.frozen? ⟨rg,K,none⟩=false:=dz
   refine store_at (i:=13) (w':=X) #[true,true,true,true,true,true,true,true,true,true,true,true,true,true] (by kernel_rfl) rfl rfl rfl (by rfl) ?sg ⟨fX.cell k00 hne,fX.cell d1 hpr,fX.cell d5 hpr⟩ ?_
   case sg=>rw [hX];go_simp
   refine wpAnyH_done (by kernel_rfl) ?_ _
   obtain ⟨j1,j2,j3,j4⟩:=HI.out
   have hTr:¬ T=rg:=by omega
   refine ⟨keeps_frm fX (fun k e=>by rw [e];exact ⟨_,j1.read.cell 0 (by rcases j1.zz with e|e|e <;> subst e <;> decide)⟩),fX.block _ (heap_lt j3) hTr,?_,j2.frm fX (fun k e=>by omega),(fX.block _ (heap_lt j3) hTr).trans j3,j4.trans (frm_rg_t fX)⟩
   rw [List.map_append,List.foldl_append,List.map_cons,List.map_nil,List.foldl_cons,List.foldl_nil]
   dsimp only
   rw [<- HKE.out,hX]
   exact (j1.frm (Frm.refl (fun _=>False) W).drew (fun _ _ e=>e)).see K
  case done =>
   rintro D ys W hD hys ⟨i1,i2,i3,i4⟩ hK
   have hDs:T+1<=D:=by omega
   rw [hys] at i1
   have HI:Hid (PAt W L p b nb rg Dv dbs s z ((Flm.spots x y n).foldl (fun fs p=>{ fs with rd:=fs.rd.set (p.2*z+p.1) true }) g2)/\Frm (blkT b nb rg) w W/\W.heap[D]?=some (.deferred (some []))):=⟨i1,i4,hK⟩
   clear i1 i2 i3 i4 hK
   go_wp2_with fail
   obtain ⟨ha,fa,hKa⟩:=HI.out
   have hg:=grownBy_putObj' W D (.deferred none)
   have fg:Frm (fun k=>k=D) W (W.putObj D (.deferred none)):=(Frm.refl _ W).grown hg (fun k e=>by cases e;exact .inl rfl)
   refine retM_mark (v:=.nilIface) rfl hKa (by simp [results,Tryz.results121,go_sem]) ?_
   exact ⟨by rw [hg2];rfl,fun _=>ha.frm fg (fun k hk e=>by have:=HLT.out k hk;omega),frm_new fa (G:=D) fg (by have:=HH.out;omega)⟩
  case stop =>
   rintro D c pre W _ _ hh _
   exact hh.elim
 ·obtain ⟨ea,hea⟩:∃ ea,ea=A g2.r.err.toNat:=⟨_,rfl⟩
  refine region_calm (S:=fun w'=>w'.cell? ⟨H,0,none⟩=some (.pointer (some ⟨p,0,none⟩))/\w'.cell? ⟨H+1,0,none⟩=some (.int .i64 x)/\w'.cell? ⟨H+1,1,none⟩=some (.int .i64 y)/\w'.cell? ⟨H+1,2,none⟩=some (.int .i64 n)/\w'.cell? ⟨H+1+1,2,none⟩=some (.func (.func 149) #[] #[])) 7 #[false,false,false,false,false,false,false] rfl rfl hmx ?_
  have hS0:(w1.drew.cell? ⟨H,0,none⟩=some (.pointer (some ⟨p,0,none⟩))/\w1.drew.cell? ⟨H+1,0,none⟩=some (.int .i64 x)/\w1.drew.cell? ⟨H+1,1,none⟩=some (.int .i64 y)/\w1.drew.cell? ⟨H+1,2,none⟩=some (.int .i64 n)/\w1.drew.cell? ⟨H+1+1,2,none⟩=some (.func (.func 149) #[] #[])):=⟨k00,k10,k11,k12,k2⟩
  refine tk_at 0 20 (.int .i64 2) #[true,false,false,false,false,false,false] rfl rfl rfl (by kernel_rfl) (by rfl) (by rintro w ⟨t0,t1,t2,t3,t4⟩;go_simp) (by assumption) ?_
  simp only [sIb,sCs,sCz]
  refine tk_at 1 21 (.pointer (some ⟨H+1+1,2,none⟩)) #[true,true,false,false,false,false,false] rfl rfl rfl (by kernel_rfl) (by rfl) (by rintro w ⟨t0,t1,t2,t3,t4⟩;go_simp) (by assumption) ?_
  simp only [sIb,sCs,sCz]
  refine tk_at 2 22 (.func (.func 149) #[] #[]) #[true,true,true,false,false,false,false] rfl rfl rfl (by kernel_rfl) (by rfl) (by rintro w ⟨t0,t1,t2,t3,t4⟩;go_simp) (by assumption) ?_
  simp only [sIb,sCs,sCz]
  refine tk_at 3 23 (.pointer (some ⟨p,0,none⟩)) #[true,true,true,true,false,false,false] rfl rfl rfl (by kernel_rfl) (by rfl) (by rintro w ⟨t0,t1,t2,t3,t4⟩;go_simp) (by assumption) ?_
  simp only [sIb,sCs,sCz]
  refine tk_at 4 24 (.agg #[.int .i64 x,.int .i64 y,.int .i64 n]) #[true,true,true,true,true,false,false] rfl rfl rfl (by kernel_rfl) (by rfl) (by rintro w ⟨t0,t1,t2,t3,t4⟩;go_simp) (by assumption) ?_
  simp only [sIb,sCs,sCz]
  refine enter_at (i:=5) (d:=25) (f:=149) (args:=#[.pointer (some ⟨p,0,none⟩),.agg #[.int .i64 x,.int .i64 y,.int .i64 n]]) #[true,true,true,true,true,true,false] (by kernel_rfl) rfl rfl rfl (by rfl) (by go_simp) (fun v' w'=>v'=.iface 278 (.pointer (some ea))/\Frm (blkS b nb) w1 w') (HCF.out.mono (fun e w' he=>⟨.iface 278 (.pointer (some ea)),by rw [he.1,errA_pos A hg2,hea],rfl,((Frm.refl (blkS b nb) w1).drew).trans he.2.2⟩)) ?_
  rintro va wa ⟨rfl,fa⟩
  have hN0:¬ blkS b nb H:=by rintro (e|e) <;> omega
  have hN1:¬ blkS b nb (H+1):=by rintro (e|e) <;> omega
  have hN2:¬ blkS b nb (H+1+1):=by rintro (e|e) <;> omega
  have hSA:(wa.cell? ⟨H,0,none⟩=some (.pointer (some ⟨p,0,none⟩))/\wa.cell? ⟨H+1,0,none⟩=some (.int .i64 x)/\wa.cell? ⟨H+1,1,none⟩=some (.int .i64 y)/\wa.cell? ⟨H+1,2,none⟩=some (.int .i64 n)/\wa.cell? ⟨H+1+1,2,none⟩=some (.func (.func 149) #[] #[])):=⟨fa.cell k00 hN0,fa.cell k10 hN1,fa.cell k11 hN1,fa.cell k12 hN1,fa.cell k2 hN2⟩
  refine ⟨hSA,?_⟩
  simp only [sIb,sCs,sCz]
  refine tk_at 6 8 (.iface 278 (.pointer (some ea))) #[true,true,true,true,true,true,true] rfl rfl rfl (by kernel_rfl) (by rfl) (by rintro w ⟨t0,t1,t2,t3,t4⟩;go_simp) (by assumption) ?_
  simp only [sIb,sCs,sCz]
  refine wpAnyH_done (by kernel_rfl) ?_ _
  dsimp only [calmPost]
  clear k00 k10 k11 k12 k2 hS0 hSA
  go_wp2_with fail
  refine retM_none (v:=.iface 278 (.pointer (some ea))) rfl (by simp [results,Tryz.results121,go_sem]) ?_
  exact ⟨by rw [errA_pos A hg2,hea],fun he=>absurd he hg2,(frm_one_t HI1.out.2).trans (frm_blk_t fa)⟩
set_option maxRecDepth 100000 in
theorem pBlock3 (w:World) (L p b nb rg:Nat) (Dv:Value) (dbs:List Nat) (s:ByteArray) (z:Nat) (fs:FS) (A:Nat->Addr) (h:PAt w L p b nb rg Dv dbs s z fs) (x y n:Nat) (hx:x+n<=z) (hy:y+n<=z) (g1 g2:FS)
  (hk:∀ wx,Below w.heap.size w wx->Calls Tryz.prog 151 #[.pointer (some ⟨p,0,none⟩)] wx fun e w'=>e=.returned (.tuple #[.int .i64 3,.nilIface])/\PAt w' L p b nb rg Dv dbs s z g1/\Frm (oneS b) wx w')
  (hf:∀ wx,PAt wx L p b nb rg Dv dbs s z g1->Frm (oneS b) w wx->Calls Tryz.prog 150 #[.pointer (some ⟨p,0,none⟩),.agg #[.int .i64 x,.int .i64 y,.int .i64 n]] wx (BlkPost A wx L p b nb rg Dv dbs s z g2)) :
  Calls Tryz.prog 121 #[.pointer (some ⟨p,0,none⟩),.agg #[.int .i64 x,.int .i64 y,.int .i64 n]] w fun e w'=>e=.returned (errA A g2.r.err)/\(g2.r.err=0->PAt w' L p b nb rg Dv dbs s z (Flm.seen z (Flm.spots x y n) g2))/\Frm (blkT b nb rg) w w':=by
 rw [Flm.seen_fold]
 obtain ⟨Z,hZ⟩:∃ Z,Z=z*z:=⟨_,rfl⟩
 have HZ:Hid (Z=z*z):=hZ
 have hz16:=h.z16
 obtain ⟨H,hH⟩:∃ H,H=w.heap.size:=⟨_,rfl⟩
 obtain ⟨W3,hW3⟩:∃ W3,W3=((w.alloc (.cells #[.pointer (some ⟨p,0,none⟩)] 107)).alloc (.cells #[.int .i64 x,.int .i64 y,.int .i64 n] 100)).alloc (.cells #[.func (.func 147) #[] #[],.func (.func 148) #[] #[],.func (.func 149) #[] #[],.func (.func 150) #[] #[]] 251):=⟨_,rfl⟩
 have hB3:Below w.heap.size w W3:=by rw [hW3];exact below3 w _ _ _
 have hF3:TBox W3 H p x y n:=by rw [hW3,hH];exact tbox_new w p x y n
 have hs3:W3.heap.size=H+3:=by rw [hW3,hH];simp
 have HW3:Hid (W3=((w.alloc (.cells #[.pointer (some ⟨p,0,none⟩)] 107)).alloc (.cells #[.int .i64 x,.int .i64 y,.int .i64 n] 100)).alloc (.cells #[.func (.func 147) #[] #[],.func (.func 148) #[] #[],.func (.func 149) #[] #[],.func (.func 150) #[] #[]] 251)):=hW3
 have HH:Hid (H=w.heap.size):=hH
 have k00:=cell_of_row _ _ 0 _ _ _ hF3.b0
 simp at k00
 have hlt:∀ k,paB p b nb rg Dv dbs k->k<H:=by rw [hH];exact h.lt
 have hbH:b<H:=hlt b (.inr (.inl rfl))
 have hnbH:nb<H:=hlt nb (.inr (.inr (.inr (.inl rfl))))
 have hrgH:rg<H:=hlt rg (.inr (.inr (.inl rfl)))
 have hpH:p<H:=hlt p (.inl rfl)
 have hmx:Tryz.prog.follows .mixedOrders=true:=by kernel_rfl
 have HLT:Hid (∀ k,paB p b nb rg Dv dbs k->k<H):=hlt
 have HK:Hid (Calls Tryz.prog 151 #[.pointer (some ⟨p,0,none⟩)] W3 fun e w'=>e=.returned (.tuple #[.int .i64 3,.nilIface])/\PAt w' L p b nb rg Dv dbs s z g1/\Frm (oneS b) W3 w'):=hk W3 hB3
 have HF:Hid (Frm (oneS b) w W3):=Frm.of_below hB3
 have HC:Hid (∀ w1,Frm (oneS b) W3 w1->TBox w1 H p x y n):=fun w1 f=>hF3.frm f (fun k e=>by have e':k=b:=e;omega)
 have HFN:Hid (∀ wx,PAt wx L p b nb rg Dv dbs s z g1->Frm (oneS b) w wx->Calls Tryz.prog 150 #[.pointer (some ⟨p,0,none⟩),.agg #[.int .i64 x,.int .i64 y,.int .i64 n]] wx (BlkPost A wx L p b nb rg Dv dbs s z g2)):=hf
 clear hk hf h hW3 hB3 hF3 hH hlt hZ
 refine (callsIn_wide (n:=5)).1 ?_
 refine callsIn_of_wp_marks Tryz.func121 rfl trivial ?_ rfl
 simp only [Tryz.ntmps121,List.size_toArray,List.length_cons,List.length_nil,Nat.reduceAdd,Nat.reduceSub,Array.replicate_succ,Array.replicate_zero,List.push_toArray,List.append_toArray,List.nil_append,List.cons_append]
 refine wpIn_wide.2 ?_
 go_wp2_with (first
  | (rw [<- HW3.out,<- HH.out])
  | (go_at_call 151;refine HK.out.mono ?_;rintro e w1 ⟨rfl,h1,f1⟩))
 have hc1:=HC.out w1 f1
 clear k00
 have k00:=cell_of_row _ _ 0 _ _ _ hc1.b0
 have k10:=cell_of_row _ _ 0 _ _ _ hc1.b1
 have k11:=cell_of_row _ _ 1 _ _ _ hc1.b1
 have k12:=cell_of_row _ _ 2 _ _ _ hc1.b1
 have k2:=cell_of_row _ _ 3 _ _ _ hc1.b2
 simp at k00 k10 k11 k12 k2
 have fd1:Frm (oneS b) w1 w1.drew:=(Frm.refl _ _).drew
 have HCF:Hid (Calls Tryz.prog 150 #[.pointer (some ⟨p,0,none⟩),.agg #[.int .i64 x,.int .i64 y,.int .i64 n]] w1.drew (BlkPost A w1.drew L p b nb rg Dv dbs s z g2)):=HFN.out w1.drew (h1.frm (Frm.refl (fun _=>False) w1).drew (fun _ _ e=>e)) ((HF.out.trans f1).trans fd1)
 have HI1:Hid (TBox w1 H p x y n/\Frm (oneS b) w w1):=⟨hc1,HF.out.trans f1⟩
 clear h1 f1 hc1 HFN
 have hHs:H+3<=w1.heap.size:=heap_lt HI1.out.1.b2
 by_cases hg2:g2.r.err=0
 ·refine region_calm (S:=fun w'=>w'.cell? ⟨H,0,none⟩=some (.pointer (some ⟨p,0,none⟩))/\w'.cell? ⟨H+1,0,none⟩=some (.int .i64 x)/\w'.cell? ⟨H+1,1,none⟩=some (.int .i64 y)/\w'.cell? ⟨H+1,2,none⟩=some (.int .i64 n)/\w'.cell? ⟨H+1+1,3,none⟩=some (.func (.func 150) #[] #[])) 7 #[false,false,false,false,false,false,false] rfl rfl hmx ?_
  have hS0:(w1.drew.cell? ⟨H,0,none⟩=some (.pointer (some ⟨p,0,none⟩))/\w1.drew.cell? ⟨H+1,0,none⟩=some (.int .i64 x)/\w1.drew.cell? ⟨H+1,1,none⟩=some (.int .i64 y)/\w1.drew.cell? ⟨H+1,2,none⟩=some (.int .i64 n)/\w1.drew.cell? ⟨H+1+1,3,none⟩=some (.func (.func 150) #[] #[])):=⟨k00,k10,k11,k12,k2⟩
  refine tk_at 0 20 (.int .i64 3) #[true,false,false,false,false,false,false] rfl rfl rfl (by kernel_rfl) (by rfl) (by rintro w ⟨t0,t1,t2,t3,t4⟩;go_simp) (by assumption) ?_
  simp only [sIb,sCs,sCz]
  refine tk_at 1 21 (.pointer (some ⟨H+1+1,3,none⟩)) #[true,true,false,false,false,false,false] rfl rfl rfl (by kernel_rfl) (by rfl) (by rintro w ⟨t0,t1,t2,t3,t4⟩;go_simp) (by assumption) ?_
  simp only [sIb,sCs,sCz]
  refine tk_at 2 22 (.func (.func 150) #[] #[]) #[true,true,true,false,false,false,false] rfl rfl rfl (by kernel_rfl) (by rfl) (by rintro w ⟨t0,t1,t2,t3,t4⟩;go_simp) (by assumption) ?_
  simp only [sIb,sCs,sCz]
  refine tk_at 3 23 (.pointer (some ⟨p,0,none⟩)) #[true,true,true,true,false,false,false] rfl rfl rfl (by kernel_rfl) (by rfl) (by rintro w ⟨t0,t1,t2,t3,t4⟩;go_simp) (by assumption) ?_
  simp only [sIb,sCs,sCz]
  refine tk_at 4 24 (.agg #[.int .i64 x,.int .i64 y,.int .i64 n]) #[true,true,true,true,true,false,false] rfl rfl rfl (by kernel_rfl) (by rfl) (by rintro w ⟨t0,t1,t2,t3,t4⟩;go_simp) (by assumption) ?_
  simp only [sIb,sCs,sCz]
  refine enter_at (i:=5) (d:=25) (f:=150) (args:=#[.pointer (some ⟨p,0,none⟩),.agg #[.int .i64 x,.int .i64 y,.int .i64 n]]) #[true,true,true,true,true,true,false] (by kernel_rfl) rfl rfl rfl (by rfl) (by go_simp) (fun v' w'=>v'=.nilIface/\PAt w' L p b nb rg Dv dbs s z g2/\Frm (blkS b nb) w1 w') (HCF.out.mono (fun e w' he=>⟨.nilIface,by rw [he.1,hg2];rfl,rfl,he.2.1 hg2,((Frm.refl (blkS b nb) w1).drew).trans he.2.2⟩)) ?_
  rintro va wa ⟨rfl,ha,fa⟩
  have hN0:¬ blkS b nb H:=by rintro (e|e) <;> omega
  have hN1:¬ blkS b nb (H+1):=by rintro (e|e) <;> omega
  have hN2:¬ blkS b nb (H+1+1):=by rintro (e|e) <;> omega
  have hSA:(wa.cell? ⟨H,0,none⟩=some (.pointer (some ⟨p,0,none⟩))/\wa.cell? ⟨H+1,0,none⟩=some (.int .i64 x)/\wa.cell? ⟨H+1,1,none⟩=some (.int .i64 y)/\wa.cell? ⟨H+1,2,none⟩=some (.int .i64 n)/\wa.cell? ⟨H+1+1,3,none⟩=some (.func (.func 150) #[] #[])):=⟨fa.cell k00 hN0,fa.cell k10 hN1,fa.cell k11 hN1,fa.cell k12 hN1,fa.cell k2 hN2⟩
  refine ⟨hSA,?_⟩
  simp only [sIb,sCs,sCz]
  refine tk_at 6 8 (.nilIface) #[true,true,true,true,true,true,true] rfl rfl rfl (by kernel_rfl) (by rfl) (by rintro w ⟨t0,t1,t2,t3,t4⟩;go_simp) (by assumption) ?_
  simp only [sIb,sCs,sCz]
  refine wpAnyH_done (by kernel_rfl) ?_ _
  dsimp only [calmPost]
  have hca:TBox wa H p x y n:=HI1.out.1.frm fa (fun k e=>by rcases e with e|e <;> omega)
  clear k00 k10 k11 k12 k2 hS0 hSA
  have k10:=cell_of_row _ _ 0 _ _ _ hca.b1
  have k11:=cell_of_row _ _ 1 _ _ _ hca.b1
  have k12:=cell_of_row _ _ 2 _ _ _ hca.b1
  simp at k10 k11 k12
  obtain ⟨T,hT⟩:∃ T,T=wa.heap.size:=⟨_,rfl⟩
  have HT:Hid (T=wa.heap.size):=hT
  have hTH:H+3<=T:=by rw [hT];exact heap_lt hca.b2
  obtain ⟨W7,hW7⟩:∃ W7,W7=wa.alloc (.cells #[.int .i64 x,.int .i64 y,.int .i64 n] 100):=⟨_,rfl⟩
  have HW7:Hid (W7=wa.alloc (.cells #[.int .i64 x,.int .i64 y,.int .i64 n] 100)):=hW7
  have hB7:Below wa.heap.size wa W7:=by rw [hW7];exact (Below.refl _ wa).alloc (Nat.le_refl _) _
  have hs7:W7.heap.size=T+1:=by rw [hW7,hT];simp
  have hit:W7.heap[T]?=some (.cells #[.int .i64 x,.int .i64 y,.int .i64 n] 100 (0,0)):=by rw [hW7,hT];exact heap_alloc_last wa _
  have HI0:Hid (SeenJ w W7 L p b nb rg Dv dbs s z g2 H T x y n []):=⟨ha.below hB7,hca.frm (Frm.of_below (S:=fun _=>False) hB7) (fun _ e=>e.elim),hit,((frm_one_t HI1.out.2).trans (frm_blk_t fa)).trans (Frm.of_below hB7)⟩
  clear ha fa hca hW7 hB7 hT HI1 HCF HK
  go_wp2_with (go_at_call 105;refine (pPoints _ _ _ _).mono ?_;rintro e wq ⟨rfl,rfl⟩)
  clear k10 k11 k12
  rw [<- HT.out,<- HW7.out]
  refine (wpIn_wide (n:=5)).1 ?_
  refine wpIn_rangeFunc_ownF rfl (by decide) (gf:=131) (lb:=#[.pointer (some ⟨T,0,none⟩)]) rfl trivial (enters_of Tryz.func131 (by kernel_rfl) rfl)
   (points_stops Fence.wide (5-1) trivial rfl (by decide) T x y n (by omega) (by omega) W7 hit)
   (fun h1 h2=>h2.trans h1) (fun W l o o' hl _ _ _=>World.putObj_heap_other (by omega)) (Below.refl _ _) (fun _=>rfl)
   (fun pre W=>SeenJ w W L p b nb rg Dv dbs s z g2 H T x y n pre)
   (fun _ _ _=>False)
   ?own (fun _ _ _ _ _ hs _ _=>hs) HI0.out
   (fun pt=>{ tmps:=#[.pointer (some ⟨p,0,none⟩),.agg #[.int .i64 x,.int .i64 y,.int .i64 n],.pointer (some ⟨H,0,none⟩),.pointer (some ⟨H+1,0,none⟩),.nilIface,.pointer (some ⟨H+1+1,0,none⟩),.int .i64 3,.nilIface,.nilIface,.int .i64 pt.1.1,.int .i64 pt.1.2,.agg #[.func (.func 147) #[] #[],.func (.func 148) #[] #[],.func (.func 149) #[] #[],.func (.func 150) #[] #[]],.tuple #[.int .i64 3,.nilIface],.pointer (some ⟨p,0,none⟩),.tuple #[.int .i64 3,.nilIface],.int .i64 3,.nilIface,.nilIface,.bool false,undef,.int .i64 3,.pointer (some ⟨H+1+1,3,none⟩),.func (.func 150) #[] #[],.pointer (some ⟨p,0,none⟩),.agg #[.int .i64 x,.int .i64 y,.int .i64 n],.nilIface,.nilIface,.bool false,undef,.agg #[.int .i64 x,.int .i64 y,.int .i64 n],.func (.func 131) #[] #[.pointer (some ⟨T,0,none⟩)],.int .i64 pt.1.1,.int .i64 pt.1.2,undef,undef,undef,undef,undef,undef,undef,undef,undef,undef,undef,undef,undef],defers:=[] }) ?assign ?body ?done ?stop
  case own =>
   rintro pre W W' row ⟨i1,i2,i3,i4⟩ hg hr
   have hr':∀ r,row=some r->T+1<=r:=fun r e=>by have:=(hr r e).1;omega
   have fg:Frm (fun k=>row=some k) W W':=(Frm.refl _ W).grown hg (fun k e=>.inl e)
   refine ⟨i1.grown (B:=H) HLT.out hg (fun r e=>by have:=hr' r e;omega),i2.frm fg (fun k e=>by have:=hr' k e;omega),(fg.block _ (heap_lt i3) (fun e=>by have:=hr' _ e;omega)).trans i3,?_⟩
   exact i4.grown hg (fun k e=>.inr (by have:=hr' k e;have:=HH.out;omega))
  case assign =>
   intro l pt W K hK
   dsimp only [encPt]
   gi_wp2
   exact hK
  case body =>
   rintro l pre ⟨⟨PX,PY⟩,⟨hpx1,hpx2⟩,hpy1,hpy2⟩ W ⟨i1,i2,i3,i4⟩ hlen
   dsimp only at hpx1 hpx2 hpy1 hpy2 ⊢
   obtain ⟨K,hK⟩:∃ K,K=PY*z+PX:=⟨_,rfl⟩
   have hKz:K<z*z:=by rw [hK];exact spot_lt (by omega) (by omega)
   have hKZ:K<Z:=by rw [HZ.out];exact hKz
   have hzz:=i1.zzle
   have d1:=i1.c1
   have d5:=i1.c5
   rw [<- HZ.out] at d5
   have dk:=i1.read.cell K hKz
   have dz:=i1.read.frozen K
   have k00:=cell_of_row _ _ 0 _ _ _ i2.b0
   simp at k00
   have hw0:(PY:Int)*z+PX=(K:Int):=by rw [hK];simp
   have hwb:(PY:Int)*z<=256/\0<=(PY:Int)*z:=⟨by omega,by rw [<- Int.natCast_mul];omega⟩
   have hw1:IntKind.i64.wrap ((PY:Int)*z)=(PY:Int)*z:=by rw [IntKind.wrap_i64];omega
   have hw2:IntKind.i64.wrap ((PY:Int)*z+PX)=(K:Int):=by rw [IntKind.wrap_i64];omega
   have hKZ':(K:Int)<(Z:Int):=by omega
   have HI:Hid (SeenJ w W L p b nb rg Dv dbs s z g2 H T x y n pre):=⟨i1,i2,i3,i4⟩
   have HKE:Hid (K=PY*z+PX):=hK
   have hne:¬ H=rg:=by omega
   have hpr:¬ p=rg:=i1.nes.1.2.1
   clear i1 i2 i3 i4 hK hwb hw0
   gi_wp2
   refine region_round_at (S:=fun w'=>w'.cell? ⟨H,0,none⟩=some (.pointer (some ⟨p,0,none⟩))/\w'.cell? ⟨p,1,none⟩=some (.int .i64 z)/\w'.cell? ⟨p,5,none⟩=some (.slice (some ⟨rg,0,none⟩) Z Z)) 14 #[false,false,false,false,false,false,false,false,false,false,false,false,false,false] rfl rfl hmx (by kernel_rfl) (fun ⟨_,_,h⟩=>h) ?_
   have hS0:(W.drew.cell? ⟨H,0,none⟩=some (.pointer (some ⟨p,0,none⟩))/\W.drew.cell? ⟨p,1,none⟩=some (.int .i64 z)/\W.drew.cell? ⟨p,5,none⟩=some (.slice (some ⟨rg,0,none⟩) Z Z)):=⟨k00,d1,d5⟩
   refine tk_at 0 33 (.pointer (some ⟨p,0,none⟩)) #[true,false,false,false,false,false,false,false,false,false,false,false,false,false] rfl rfl rfl (by kernel_rfl) (by rfl) (by rintro w ⟨t0,t1,t5⟩;go_simp) (by assumption) ?_
   simp only [sIb,sCs,sCz]
   refine tk_at 1 34 (.pointer (some ⟨p,0,none⟩)) #[true,true,false,false,false,false,false,false,false,false,false,false,false,false] rfl rfl rfl (by kernel_rfl) (by rfl) (by rintro w ⟨t0,t1,t5⟩;go_simp) (by assumption) ?_
   simp only [sIb,sCs,sCz]
   refine tk_at 2 35 (.pointer (some ⟨p,5,none⟩)) #[true,true,true,false,false,false,false,false,false,false,false,false,false,false] rfl rfl rfl (by kernel_rfl) (by rfl) (by rintro w ⟨t0,t1,t5⟩;go_simp) (by assumption) ?_
   simp only [sIb,sCs,sCz]
   refine tk_at 3 36 (.slice (some ⟨rg,0,none⟩) Z Z) #[true,true,true,true,false,false,false,false,false,false,false,false,false,false] rfl rfl rfl (by kernel_rfl) (by rfl) (by rintro w ⟨t0,t1,t5⟩;go_simp) (by assumption) ?_
   simp only [sIb,sCs,sCz]
   refine tk_at 4 37 (.int .i64 PY) #[true,true,true,true,true,false,false,false,false,false,false,false,false,false] rfl rfl rfl (by kernel_rfl) (by rfl) (by rintro w ⟨t0,t1,t5⟩;go_simp) (by assumption) ?_
   simp only [sIb,sCs,sCz]
   refine tk_at 5 38 (.pointer (some ⟨p,0,none⟩)) #[true,true,true,true,true,true,false,false,false,false,false,false,false,false] rfl rfl rfl (by kernel_rfl) (by rfl) (by rintro w ⟨t0,t1,t5⟩;go_simp) (by assumption) ?_
   simp only [sIb,sCs,sCz]
   refine tk_at 6 39 (.pointer (some ⟨p,0,none⟩)) #[true,true,true,true,true,true,true,false,false,false,false,false,false,false] rfl rfl rfl (by kernel_rfl) (by rfl) (by rintro w ⟨t0,t1,t5⟩;go_simp) (by assumption) ?_
   simp only [sIb,sCs,sCz]
   refine tk_at 7 40 (.pointer (some ⟨p,1,none⟩)) #[true,true,true,true,true,true,true,true,false,false,false,false,false,false] rfl rfl rfl (by kernel_rfl) (by rfl) (by rintro w ⟨t0,t1,t5⟩;go_simp) (by assumption) ?_
   simp only [sIb,sCs,sCz]
   refine tk_at 8 41 (.int .i64 z) #[true,true,true,true,true,true,true,true,true,false,false,false,false,false] rfl rfl rfl (by kernel_rfl) (by rfl) (by rintro w ⟨t0,t1,t5⟩;go_simp) (by assumption) ?_
   simp only [sIb,sCs,sCz]
   refine tk_at 9 42 (.int .i64 ((PY:Int)*z)) #[true,true,true,true,true,true,true,true,true,true,false,false,false,false] rfl rfl rfl (by kernel_rfl) (by rfl) (by rintro w ⟨t0,t1,t5⟩;go_simp) (by assumption) ?_
   simp only [sIb,sCs,sCz]
   refine tk_at 10 43 (.int .i64 PX) #[true,true,true,true,true,true,true,true,true,true,true,false,false,false] rfl rfl rfl (by kernel_rfl) (by rfl) (by rintro w ⟨t0,t1,t5⟩;go_simp) (by assumption) ?_
   simp only [sIb,sCs,sCz]
   refine tk_at 11 44 (.int .i64 K) #[true,true,true,true,true,true,true,true,true,true,true,true,false,false] rfl rfl rfl (by kernel_rfl) (by rfl) (by rintro w ⟨t0,t1,t5⟩;go_simp) (by assumption) ?_
   simp only [sIb,sCs,sCz]
   refine tk_at 12 45 (.pointer (some ⟨rg,K,none⟩)) #[true,true,true,true,true,true,true,true,true,true,true,true,true,false] rfl rfl rfl (by kernel_rfl) (by rfl) (by rintro w ⟨t0,t1,t5⟩;go_simp) (by assumption) ?_
   simp only [sIb,sCs,sCz]
   obtain ⟨X,hX⟩:∃ X,X=W.drew.setCell ⟨rg,K,none⟩ (.bool true):=⟨_,rfl⟩
   have fX:Frm (fun k=>k=rg) W X:=by rw [hX];exact Frm.setCell (p:=⟨rg,K,none⟩) ((Frm.refl (fun k=>k=rg) W).drew) (.inl rfl) _
   have dkd:W.drew.cell? ⟨rg,K,none⟩=some _:=dk
   have dzd:W.drew.frozen? ⟨rg,K,none⟩=false:=dz
   refine store_at (i:=13) (w':=X) #[true,true,true,true,true,true,true,true,true,true,true,true,true,true] (by kernel_rfl) rfl rfl rfl (by rfl) ?sg ⟨fX.cell k00 hne,fX.cell d1 hpr,fX.cell d5 hpr⟩ ?_
   case sg=>rw [hX];go_simp
   refine wpAnyH_done (by kernel_rfl) ?_ _
   obtain ⟨j1,j2,j3,j4⟩:=HI.out
   have hTr:¬ T=rg:=by omega
   refine ⟨keeps_frm fX (fun k e=>by rw [e];exact ⟨_,j1.read.cell 0 (by rcases j1.zz with e|e|e <;> subst e <;> decide)⟩),fX.block _ (heap_lt j3) hTr,?_,j2.frm fX (fun k e=>by omega),(fX.block _ (heap_lt j3) hTr).trans j3,j4.trans (frm_rg_t fX)⟩
   rw [List.map_append,List.foldl_append,List.map_cons,List.map_nil,List.foldl_cons,List.foldl_nil]
   dsimp only
   rw [<- HKE.out,hX]
   exact (j1.frm (Frm.refl (fun _=>False) W).drew (fun _ _ e=>e)).see K
  case done =>
   rintro D ys W hD hys ⟨i1,i2,i3,i4⟩ hK
   have hDs:T+1<=D:=by omega
   rw [hys] at i1
   have HI:Hid (PAt W L p b nb rg Dv dbs s z ((Flm.spots x y n).foldl (fun fs p=>{ fs with rd:=fs.rd.set (p.2*z+p.1) true }) g2)/\Frm (blkT b nb rg) w W/\W.heap[D]?=some (.deferred (some []))):=⟨i1,i4,hK⟩
   clear i1 i2 i3 i4 hK
   go_wp2_with fail
   obtain ⟨ha,fa,hKa⟩:=HI.out
   have hg:=grownBy_putObj' W D (.deferred none)
   have fg:Frm (fun k=>k=D) W (W.putObj D (.deferred none)):=(Frm.refl _ W).grown hg (fun k e=>by cases e;exact .inl rfl)
   refine retM_mark (v:=.nilIface) rfl hKa (by simp [results,Tryz.results121,go_sem]) ?_
   exact ⟨by rw [hg2];rfl,fun _=>ha.frm fg (fun k hk e=>by have:=HLT.out k hk;omega),frm_new fa (G:=D) fg (by have:=HH.out;omega)⟩
  case stop =>
   rintro D c pre W _ _ hh _
   exact hh.elim
 ·obtain ⟨ea,hea⟩:∃ ea,ea=A g2.r.err.toNat:=⟨_,rfl⟩
  refine region_calm (S:=fun w'=>w'.cell? ⟨H,0,none⟩=some (.pointer (some ⟨p,0,none⟩))/\w'.cell? ⟨H+1,0,none⟩=some (.int .i64 x)/\w'.cell? ⟨H+1,1,none⟩=some (.int .i64 y)/\w'.cell? ⟨H+1,2,none⟩=some (.int .i64 n)/\w'.cell? ⟨H+1+1,3,none⟩=some (.func (.func 150) #[] #[])) 7 #[false,false,false,false,false,false,false] rfl rfl hmx ?_
  have hS0:(w1.drew.cell? ⟨H,0,none⟩=some (.pointer (some ⟨p,0,none⟩))/\w1.drew.cell? ⟨H+1,0,none⟩=some (.int .i64 x)/\w1.drew.cell? ⟨H+1,1,none⟩=some (.int .i64 y)/\w1.drew.cell? ⟨H+1,2,none⟩=some (.int .i64 n)/\w1.drew.cell? ⟨H+1+1,3,none⟩=some (.func (.func 150) #[] #[])):=⟨k00,k10,k11,k12,k2⟩
  refine tk_at 0 20 (.int .i64 3) #[true,false,false,false,false,false,false] rfl rfl rfl (by kernel_rfl) (by rfl) (by rintro w ⟨t0,t1,t2,t3,t4⟩;go_simp) (by assumption) ?_
  simp only [sIb,sCs,sCz]
  refine tk_at 1 21 (.pointer (some ⟨H+1+1,3,none⟩)) #[true,true,false,false,false,false,false] rfl rfl rfl (by kernel_rfl) (by rfl) (by rintro w ⟨t0,t1,t2,t3,t4⟩;go_simp) (by assumption) ?_
  simp only [sIb,sCs,sCz]
  refine tk_at 2 22 (.func (.func 150) #[] #[]) #[true,true,true,false,false,false,false] rfl rfl rfl (by kernel_rfl) (by rfl) (by rintro w ⟨t0,t1,t2,t3,t4⟩;go_simp) (by assumption) ?_
  simp only [sIb,sCs,sCz]
  refine tk_at 3 23 (.pointer (some ⟨p,0,none⟩)) #[true,true,true,true,false,false,false] rfl rfl rfl (by kernel_rfl) (by rfl) (by rintro w ⟨t0,t1,t2,t3,t4⟩;go_simp) (by assumption) ?_
  simp only [sIb,sCs,sCz]
  refine tk_at 4 24 (.agg #[.int .i64 x,.int .i64 y,.int .i64 n]) #[true,true,true,true,true,false,false] rfl rfl rfl (by kernel_rfl) (by rfl) (by rintro w ⟨t0,t1,t2,t3,t4⟩;go_simp) (by assumption) ?_
  simp only [sIb,sCs,sCz]
  refine enter_at (i:=5) (d:=25) (f:=150) (args:=#[.pointer (some ⟨p,0,none⟩),.agg #[.int .i64 x,.int .i64 y,.int .i64 n]]) #[true,true,true,true,true,true,false] (by kernel_rfl) rfl rfl rfl (by rfl) (by go_simp) (fun v' w'=>v'=.iface 278 (.pointer (some ea))/\Frm (blkS b nb) w1 w') (HCF.out.mono (fun e w' he=>⟨.iface 278 (.pointer (some ea)),by rw [he.1,errA_pos A hg2,hea],rfl,((Frm.refl (blkS b nb) w1).drew).trans he.2.2⟩)) ?_
  rintro va wa ⟨rfl,fa⟩
  have hN0:¬ blkS b nb H:=by rintro (e|e) <;> omega
  have hN1:¬ blkS b nb (H+1):=by rintro (e|e) <;> omega
  have hN2:¬ blkS b nb (H+1+1):=by rintro (e|e) <;> omega
  have hSA:(wa.cell? ⟨H,0,none⟩=some (.pointer (some ⟨p,0,none⟩))/\wa.cell? ⟨H+1,0,none⟩=some (.int .i64 x)/\wa.cell? ⟨H+1,1,none⟩=some (.int .i64 y)/\wa.cell? ⟨H+1,2,none⟩=some (.int .i64 n)/\wa.cell? ⟨H+1+1,3,none⟩=some (.func (.func 150) #[] #[])):=⟨fa.cell k00 hN0,fa.cell k10 hN1,fa.cell k11 hN1,fa.cell k12 hN1,fa.cell k2 hN2⟩
  refine ⟨hSA,?_⟩
  simp only [sIb,sCs,sCz]
  refine tk_at 6 8 (.iface 278 (.pointer (some ea))) #[true,true,true,true,true,true,true] rfl rfl rfl (by kernel_rfl) (by rfl) (by rintro w ⟨t0,t1,t2,t3,t4⟩;go_simp) (by assumption) ?_
  simp only [sIb,sCs,sCz]
  refine wpAnyH_done (by kernel_rfl) ?_ _
  dsimp only [calmPost]
  clear k00 k10 k11 k12 k2 hS0 hSA
  go_wp2_with fail
  refine retM_none (v:=.iface 278 (.pointer (some ea))) rfl (by simp [results,Tryz.results121,go_sem]) ?_
  exact ⟨by rw [errA_pos A hg2,hea],fun he=>absurd he hg2,(frm_one_t HI1.out.2).trans (frm_blk_t fa)⟩
theorem pBlock (w:World) (L p b nb rg:Nat) (Dv:Value) (dbs:List Nat) (s:ByteArray) (z:Nat) (fs:FS) (A:Nat->Addr) (h:PAt w L p b nb rg Dv dbs s z fs) (hs:s.size<=maxLen) (E:ErrsL w A L) (SG:SoftG w L) (hLw:L<=w.heap.size) (x y n:Nat) (hn:0<n) (hx:x+n<=z) (hy:y+n<=z) :
  Calls Tryz.prog 121 #[.pointer (some ⟨p,0,none⟩),.agg #[.int .i64 x,.int .i64 y,.int .i64 n]] w (BlockPost A w L p b nb rg Dv dbs s z (Flm.block s z x y n fs)):=by
 have HK:=fun wx (hb:Below w.heap.size w wx)=>pKind wx L p b nb rg Dv dbs s z fs A (h.below hb) hs (E.below (hb.mono hLw)) (by have:=hb.size;omega)
 by_cases e1:(Flm.kindR s fs.r).err=0
 ·have HE:∀ wx,Frm (oneS b) w wx->ErrsL wx A L/\SoftG wx L/\L<=wx.heap.size:=fun wx f=>by
   have hb:=f.below hLw (fun k e=>by rw [show k=b from e];exact h.lo.2)
   exact ⟨E.below hb,SG.below hb,by have:=f.size;omega⟩
  obtain ⟨g2,hg2⟩:∃ g2,g2=Flm.kindF s z x y n (Flm.kindV s fs.r) { fs with r:=Flm.kindR s fs.r }:=⟨_,rfl⟩
  have HP:∀ e w',(e=.returned (errA A g2.r.err)/\(g2.r.err=0->PAt w' L p b nb rg Dv dbs s z (Flm.seen z (Flm.spots x y n) g2))/\Frm (blkT b nb rg) w w')->BlockPost A w L p b nb rg Dv dbs s z (Flm.block s z x y n fs) e w':=by
   rintro e w' ⟨rfl,hp,f⟩
   by_cases e2:g2.r.err=0
   ·have e3:=e2
    rw [hg2] at e3
    rw [Flm.block_good e1 e3,<- hg2]
    exact ⟨by rw [Flm.seen_r],fun _=>hp e2,f⟩
   ·have e3:=e2
    rw [hg2] at e3
    have e4:(Flm.block s z x y n fs).r.err=g2.r.err:=by rw [Flm.block_bad e1 e3,<- hg2]
    exact ⟨by rw [e4],fun he=>absurd (e4 ▸ he) e2,f⟩
  have HKV:∀ v:Int,Flm.kindV s fs.r=v->∀ wx,Below w.heap.size w wx->Calls Tryz.prog 151 #[.pointer (some ⟨p,0,none⟩)] wx fun e w'=>e=.returned (.tuple #[.int .i64 v,.nilIface])/\PAt w' L p b nb rg Dv dbs s z { fs with r:=Flm.kindR s fs.r }/\Frm (oneS b) wx w':=fun v hv wx hb=>(HK wx hb).mono (by
   rintro e w' ⟨⟨v',rfl,h2⟩,hg,f⟩
   refine ⟨?_,hg e1,f⟩
   rw [h2 e1,hv,e1];rfl)
  rcases Flm.kindV_cases s fs.r with ⟨k,_⟩|⟨k,_⟩|⟨k,_⟩|⟨k,_⟩
  ·rw [k] at hg2
   refine (pBlock0 w L p b nb rg Dv dbs s z fs A h x y n hx hy _ g2 (HKV 0 k) (fun wx hp f=>?_)).mono HP
   obtain ⟨e2,e3,e4⟩:=HE wx f
   rw [hg2]
   exact pSoft wx L p b nb rg Dv dbs s z _ A hp hs e2 e3 e4 x y n hx hy
  ·rw [k] at hg2
   refine (pBlock1 w L p b nb rg Dv dbs s z fs A h x y n hx hy _ g2 (HKV 1 k) (fun wx hp f=>?_)).mono HP
   obtain ⟨e2,e3,e4⟩:=HE wx f
   rw [hg2]
   exact pFew wx L p b nb rg Dv dbs s z _ A hp hs e2 e4 x y n hx hy
  ·rw [k] at hg2
   refine (pBlock2 w L p b nb rg Dv dbs s z fs A h x y n hx hy _ g2 (HKV 2 k) (fun wx hp f=>?_)).mono HP
   obtain ⟨e2,e3,e4⟩:=HE wx f
   rw [hg2]
   exact pCopied wx L p b nb rg Dv dbs s z _ A hp hs e2 e4 x y n hn hx hy
  ·rw [k] at hg2
   refine (pBlock3 w L p b nb rg Dv dbs s z fs A h x y n hx hy _ g2 (HKV 3 k) (fun wx hp f=>?_)).mono HP
   obtain ⟨e2,e3,e4⟩:=HE wx f
   rw [hg2]
   exact pStill wx L p b nb rg Dv dbs s z _ A hp hs e2 e4 x y n hn hx hy
 ·rw [Flm.block_kind e1]
  refine (pBlock_a w p b x y n (A (Flm.kindR s fs.r).err.toNat) (fun wx hb=>(HK wx hb).mono ?_)).mono ?_
  ·rintro e w' ⟨⟨v,rfl,_⟩,_,f⟩
   exact ⟨⟨v,by rw [errA_pos A e1]⟩,f⟩
  ·rintro e w' ⟨rfl,f⟩
   exact ⟨by rw [errA_pos A e1],fun he=>absurd he e1,frm_one_t f⟩
end
end Go.Proofs.YtekfbphnoibnjaaGreatDoor
