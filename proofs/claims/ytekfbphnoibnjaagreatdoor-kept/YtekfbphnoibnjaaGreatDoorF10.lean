/-
  PDr4 LEnd PDr5
-/
import Derived.Test.YtekfbphnoibnjaaGreatDoorF09
set_option maxHeartbeats 4000000
namespace Go.Proofs.YtekfbphnoibnjaaGreatDoor
section
open Go.RowKit
theorem Frm.setCells {S:Nat->Prop} {a:World} {b:Nat} (hb:S b \/ a.heap.size<=b):∀ (vs:List Value) (o:Nat) {w:World},Frm S a w->Frm S a (w.setCells b o vs)
 | [],_,_,h=>h
 | _ :: r,o,_,h=>Frm.setCells hb r (o+1) (h.setCell hb _)
theorem exec_store_mid {P:Program} {o:Oper} {a:Act} {w:World} (ty:TypeId) (x y:Operand) (ho:o.op=.store ty x y)
  (b k:Nat) (cells:Array Value) (hx:a.eval x=.pointer (some ⟨b,k,none⟩)) (hy:a.eval y=.agg cells)
  (ht:w.there b k cells.size) (hi:(P.info? ty).map (·.size)=some cells.size) (h1:cells.all (·.oneCell')=true) :
  (execOp a.eval o).run P w=.ok .skip (w.setCells b k cells.toList):=by
 unfold execOp
 simp only [ho,hx,hy,Instr.storeAt,Instr.sureAddr,Sem.run_bind,Sem.run_pure,Result.andThen_ok,run_storeVar_mid w b k ty cells ht hi h1]
theorem Crs.there {w:World} {b:Nat} {r:Int} {ch:List Int} (h:Crs w b r ch):w.there b 0 401:=fun j hj=>by
 rw [Nat.zero_add]
 cases j with
 | zero=>exact ⟨by rw [h.c2];rfl,h.f2⟩
 | succ j=>rw [Nat.add_comm j 1];exact ⟨by rw [h.ch.cell j (by omega)];rfl,h.ch.fz j (by omega)⟩
theorem Crs.stored {w:World} {b:Nat} {r r':Int} {ch ch':List Int} (h:Crs w b r ch) (hl:ch'.length=400):Crs (w.setCells b 0 (crsCells r' ch')) b r' ch':=by
 have hE:=crsCells_len (r:=r') hl
 have hr:=World.rangeAt_setCells_same w b 0 (crsCells r' ch') (by rw [hE];exact h.there)
 refine ⟨?_,?_,hl,fun k hk=>?_,fun k hk=>?_⟩
 ·have:=hr 0 (.int .u32 r') rfl
  rwa [Nat.zero_add] at this
 ·rw [World.frozen?_setCells];exact h.f2
 ·have:=hr (k+1) (.int .u32 (ch'.getD k 0)) (by
   unfold crsCells
   rw [List.getElem?_cons_succ,List.getElem?_map,List.getD_eq_getElem?_getD,List.getElem?_eq_getElem (by omega)]
   rfl)
  rw [Nat.zero_add,Nat.add_comm k 1] at this
  exact this
 ·rw [World.frozen?_setCells];exact h.ch.fz k hk
set_option maxRecDepth 20000 in
theorem pAppend (w:World) (b c:Nat) (v u:Value) (t s:WS) (l m:List (Nat × Int)) (h:DrAt w b v t l) (k:DrAt w c u s m) (hbc:b ≠ c) (hub:u.ownBlock ≠ some b) (hm0:0<m.length) (hl:l.length<=1000000) (hm:m.length<=1000000) :
  Calls Tryz.prog 41 #[.pointer (some ⟨b,0,none⟩),.pointer (some ⟨c,0,none⟩)] w fun e w'=>e=.returned (.tuple #[])/\∃ v',DrAt w' b v' s (l++m)/\Wr b v w w' v':=by
 have hmx:Tryz.prog.follows .mixedOrders=true:=by kernel_rfl
 have hlen:s.ch.length=400:=k.crs.ch.len
 obtain ⟨E,hE⟩:∃ E,E=crsCells s.rng s.ch:=⟨_,rfl⟩
 have hEs:E.length=401:=by rw [hE];exact crsCells_len hlen
 have hE1:E.toArray.all (·.oneCell')=true:=by rw [hE];exact all_oneCell_toArray (crsCells_one _ _)
 have hrg:w.rangeAt c 0 E:=by rw [hE];exact k.crs.range
 have hth:w.there b 0 401:=h.crs.there
 have ksh:=k.sh
 have HE:Hid (E=crsCells s.rng s.ch):=hE
 have HH:Hid (DrAt w b v t l):=h
 have HK:Hid (DrAt w c u s m):=k
 obtain ⟨k0,hi',hy0,hy1,hy2⟩:=info_parts infoStep
 clear hE h k
 go_enter Tryz.func41,Tryz.ntmps41
 go_wp2_with fail
 refine region_calm (S:=fun w'=>w'.rangeAt c 0 E/\w'.cell? ⟨c,401,none⟩=some (.int .i64 s.m)) 16 #[false,false,false,false,false,false,false,false,false,false,false,false,false,false,false,false] rfl rfl hmx ?_
 have hS0:w.drew.rangeAt c 0 E/\w.drew.cell? ⟨c,401,none⟩=some (.int .i64 s.m):=⟨hrg,ksh⟩
 refine tk_at 0 4 (.pointer (some ⟨b,0,none⟩)) #[true,false,false,false,false,false,false,false,false,false,false,false,false,false,false,false] rfl rfl rfl (by kernel_rfl) (by rfl) (by rintro w ⟨t0,t1⟩;go_simp) (by assumption) ?_
 simp only [sIb,sCs,sCz]
 refine tk_at 1 5 (.pointer (some ⟨b,0,none⟩)) #[true,true,false,false,false,false,false,false,false,false,false,false,false,false,false,false] rfl rfl rfl (by kernel_rfl) (by rfl) (by rintro w ⟨t0,t1⟩;go_simp) (by assumption) ?_
 simp only [sIb,sCs,sCz]
 refine tk_at 2 6 (.pointer (some ⟨c,0,none⟩)) #[true,true,true,false,false,false,false,false,false,false,false,false,false,false,false,false] rfl rfl rfl (by kernel_rfl) (by rfl) (by rintro w ⟨t0,t1⟩;go_simp) (by assumption) ?_
 simp only [sIb,sCs,sCz]
 refine tk_at 3 7 (.pointer (some ⟨c,0,none⟩)) #[true,true,true,true,false,false,false,false,false,false,false,false,false,false,false,false] rfl rfl rfl (by kernel_rfl) (by rfl) (by rintro w ⟨t0,t1⟩;go_simp) (by assumption) ?_
 simp only [sIb,sCs,sCz]
 refine tk_at 4 8 (.pointer (some ⟨c,0,none⟩)) #[true,true,true,true,true,false,false,false,false,false,false,false,false,false,false,false] rfl rfl rfl (by kernel_rfl) (by rfl) (by rintro w ⟨t0,t1⟩;go_simp) (by assumption) ?_
 simp only [sIb,sCs,sCz]
 refine take_mid (i:=5) (d:=9) #[true,true,true,true,true,true,false,false,false,false,false,false,false,false,false,false] rfl rfl rfl (by kernel_rfl) (by kernel_rfl) (by kernel_rfl) (fun _ _ _ _ h=>h) (by rfl) 147 (.tmp 8) rfl c 0 rfl E _ (fun _ h=>h.1) Tryz.underlying147 rfl (by rw [hEs];exact crsSize) (by assumption) ?_
 simp only [sIb,sCs,sCz]
 refine tk_at 6 10 (.pointer (some ⟨c,0,none⟩)) #[true,true,true,true,true,true,true,false,false,false,false,false,false,false,false,false] rfl rfl rfl (by kernel_rfl) (by rfl) (by rintro w ⟨t0,t1⟩;go_simp) (by assumption) ?_
 simp only [sIb,sCs,sCz]
 refine tk_at 7 11 (.pointer (some ⟨c,0,none⟩)) #[true,true,true,true,true,true,true,true,false,false,false,false,false,false,false,false] rfl rfl rfl (by kernel_rfl) (by rfl) (by rintro w ⟨t0,t1⟩;go_simp) (by assumption) ?_
 simp only [sIb,sCs,sCz]
 refine tk_at 8 12 (.pointer (some ⟨c,401,none⟩)) #[true,true,true,true,true,true,true,true,true,false,false,false,false,false,false,false] rfl rfl rfl (by kernel_rfl) (by rfl) (by rintro w ⟨t0,t1⟩;go_simp) (by assumption) ?_
 simp only [sIb,sCs,sCz]
 refine tk_at 9 13 (.int .i64 s.m) #[true,true,true,true,true,true,true,true,true,true,false,false,false,false,false,false] rfl rfl rfl (by kernel_rfl) (by rfl) (by rintro w ⟨t0,t1⟩;go_simp) (by assumption) ?_
 simp only [sIb,sCs,sCz]
 refine tk_at 10 14 (.pointer (some ⟨b,0,none⟩)) #[true,true,true,true,true,true,true,true,true,true,true,false,false,false,false,false] rfl rfl rfl (by kernel_rfl) (by rfl) (by rintro w ⟨t0,t1⟩;go_simp) (by assumption) ?_
 simp only [sIb,sCs,sCz]
 refine tk_at 11 15 (.pointer (some ⟨b,0,none⟩)) #[true,true,true,true,true,true,true,true,true,true,true,true,false,false,false,false] rfl rfl rfl (by kernel_rfl) (by rfl) (by rintro w ⟨t0,t1⟩;go_simp) (by assumption) ?_
 simp only [sIb,sCs,sCz]
 obtain ⟨W1,hW1⟩:∃ W1,W1=w.drew.setCells b 0 E:=⟨_,rfl⟩
 have hF1:Frm (fun i=>i=b) w W1:=by rw [hW1];exact Frm.setCells (S:=fun i=>i=b) (.inl rfl) _ _ (Frm.refl _ w).drew
 have hS1:W1.rangeAt c 0 E/\W1.cell? ⟨c,401,none⟩=some (.int .i64 s.m):=⟨fun j x hj=>hF1.cell (hrg j x hj) (fun e=>hbc e.symm),hF1.cell ksh (fun e=>hbc e.symm)⟩
 refine store_at (i:=12) (w':=W1) #[true,true,true,true,true,true,true,true,true,true,true,true,true,false,false,false] (by kernel_rfl) rfl rfl rfl (by rfl) ?y12 hS1 ?r12
 case y12 =>
  rw [hW1]
  exact exec_store_mid 147 (.tmp 15) (.tmp 9) rfl b 0 E.toArray rfl rfl (by rw [List.size_toArray,hEs];exact hth) (by rw [List.size_toArray,hEs];exact crsSize) hE1
 case r12 =>
 refine tk_at 13 16 (.pointer (some ⟨b,0,none⟩)) #[true,true,true,true,true,true,true,true,true,true,true,true,true,true,false,false] rfl rfl rfl (by kernel_rfl) (by rfl) (by rintro w ⟨t0,t1⟩;go_simp) (by assumption) ?_
 simp only [sIb,sCs,sCz]
 refine tk_at 14 17 (.pointer (some ⟨b,401,none⟩)) #[true,true,true,true,true,true,true,true,true,true,true,true,true,true,true,false] rfl rfl rfl (by kernel_rfl) (by rfl) (by rintro w ⟨t0,t1⟩;go_simp) (by assumption) ?_
 simp only [sIb,sCs,sCz]
 have hcs1:Crs W1 b s.rng s.ch:=by rw [hW1,HE.out];exact (HH.out.crs.drew).stored hlen
 have g401:W1.cell? ⟨b,401,none⟩=some (.int .i64 t.m):=by
  rw [hW1,World.cell?_setCells_out b E 0 _ _ (fun _ _=>.inr (by show 0+E.length<=401;omega))];exact HH.out.sh
 have f401:W1.frozen? ⟨b,401,none⟩=false:=by rw [hW1,World.frozen?_setCells];exact HH.out.fz 401 (by decide)
 obtain ⟨W2,hW2⟩:∃ W2,W2=W1.setCell ⟨b,401,none⟩ (.int .i64 s.m):=⟨_,rfl⟩
 have hF2:Frm (fun i=>i=b) w W2:=by rw [hW2];exact hF1.setCell (.inl rfl) _
 have hS2:W2.rangeAt c 0 E/\W2.cell? ⟨c,401,none⟩=some (.int .i64 s.m):=⟨fun j x hj=>hF2.cell (hrg j x hj) (fun e=>hbc e.symm),hF2.cell ksh (fun e=>hbc e.symm)⟩
 refine store_at (i:=15) (w':=W2) #[true,true,true,true,true,true,true,true,true,true,true,true,true,true,true,true] (by kernel_rfl) rfl rfl rfl (by rfl) ?y15 hS2 ?r15
 case y15 =>
  rw [hW2]
  clear hW1 hW2
  go_simp
 case r15 =>
 refine wpAnyH_done (by kernel_rfl) ?_ _
 dsimp only [calmPost]
 have d402:W2.cell? ⟨b,402,none⟩=some v:=by
  rw [hW2]
  refine cell_off ?_ (.inr (by decide))
  rw [hW1,World.cell?_setCells_out b E 0 _ _ (fun _ _=>.inr (by show 0+E.length<=402;omega))];exact HH.out.bits
 have e402:W2.cell? ⟨c,402,none⟩=some u:=hF2.cell HK.out.bits (fun e=>hbc e.symm)
 have f402:∀ o,o<403->W2.frozen? ⟨b,o,none⟩=false:=fun o ho=>by rw [hW2,World.frozen?_setCell,hW1,World.frozen?_setCells];exact HH.out.fz o ho
 have hcs2:Crs W2 b s.rng s.ch:=by rw [hW2];exact hcs1.far (Nat.le_refl _) _
 have hsh2:W2.cell? ⟨b,401,none⟩=some (.int .i64 s.m):=by rw [hW2];exact World.cell?_setCell_same _ _ _ g401
 have hup2:b<W2.heap.size:=Nat.lt_of_lt_of_le HH.out.up hF2.size
 have hov:W2.ownsRow 0 159 2 v l.length (stepCells l):=hF2.owns HH.out.own (fun j e e2=>HH.out.ne (e2 ▸ e))
 have hou:W2.ownsRow 0 159 2 u m.length (stepCells m):=hF2.owns HK.out.own (fun j e e2=>hub (e2 ▸ e))
 obtain ⟨gu,cu,rfl⟩:∃ gu cu,u=.slice (some ⟨gu,0,none⟩) m.length cu:=by
  rcases hou.2 with ⟨_,h0⟩|⟨g,cap,cur,e,_⟩
  ·omega
  ·exact ⟨g,cap,e⟩
 have hnews:∀ j x,(stepCells m)[j]?=some x->W2.drew.cell? ((⟨gu,0,none⟩:Addr).add j)=some x:=fun j x hj=>by
  have hlt:j<m.length*2:=by rw [<- stepCells_len];exact (List.getElem?_eq_some_iff.1 hj).1
  rw [Addr.add_mid,Nat.zero_add]
  exact (World.ownsRow.cellAt hou j hlt).trans hj
 have f402':=f402 402 (by decide)
 have HF2:Hid (Frm (fun i=>i=b) w W2/\Crs W2 b s.rng s.ch/\W2.cell? ⟨b,401,none⟩=some (.int .i64 s.m)/\∀ o,o<403->W2.frozen? ⟨b,o,none⟩=false):=⟨hF2,hcs2,hsh2,f402⟩
 have hne:=HH.out.ne
 have hml:(stepCells m).length=m.length*2:=stepCells_len m
 clear hF1 hF2 hcs1 hcs2 hsh2 f402 hW1 hW2 hS1 hS2 hS0 hou hrg hth ksh g401 f401
 go_wp2_with fail
 go_region_law ((refine step_append_lies _ (by rfl) _ _ _ (by rfl) 0 159 k0 _ 2 4 Tryz.underlying149 hi' hy0 hy1 hy2 rfl (by omega) v l.length (stepCells l) (by rfl) hov.drew ⟨gu,0,none⟩ m.length cu (stepCells m) (by rfl) hml hnews (oneCell_steps m) hm0 (by unfold maxLen;omega) (by omega) (Nat.zero_le _) W2.heap.size (by rfl) ?_;intro gg cap w5 hown5 hgrow hat hlt5;have hblk:w5.heap[b]?=W2.heap[b]?:=hgrow.block b hup2 (Ne.symm hne);have sc5:w5.cell? ⟨b,402,none⟩=some v:=(World.cell?_of_block (a:=⟨b,402,none⟩) hblk).trans d402;have sf5:w5.frozen? ⟨b,402,none⟩=false:=(World.frozen?_of_block (a:=⟨b,402,none⟩) hblk).trans f402'))
 all_goals
  go_wp2_with fail
  go_end0
  have hgg:gg ≠ b:=by
   rcases hat with e|e
   ·exact fun e2=>hne (e2 ▸ e)
   ·omega
  obtain ⟨q1,q2,q3,q4⟩:=HF2.out
  have hsz:W2.heap.size<=w5.heap.size:=hgrow.size
  refine ⟨rfl,.slice (some ⟨gg,0,none⟩) (l.length+m.length) cap,⟨(q2.on hblk).far (by decide) _,cell_off ((World.cell?_of_block (a:=⟨b,401,none⟩) hblk).trans q3) (.inr (by decide)),World.cell?_setCell_same _ _ _ sc5,?_,?_,fun o ho=>?_,?_⟩,?_,?_⟩
  ·rw [stepCells_app,List.length_append]
   exact hown5.kept (grown_setCell w5 b 402 _) (.inr (by simp [Value.ownBlock];exact hgg))
  ·simp [Value.ownBlock];exact hgg
  ·rw [World.frozen?_setCell,World.frozen?_of_block (a:=⟨b,o,none⟩) hblk]
   exact q4 o ho
  ·rw [World.size_setCell];omega
  ·refine Frm.setCell ?_ (.inl (.inl rfl)) _
   have f1:Frm (fun k=>k=b \/ v.ownBlock=some k) w W2:=q1.mono fun _ _ e=>.inl e
   exact f1.drew.grown hgrow fun j e=>.inl (.inr e)
  ·intro j e
   simp [Value.ownBlock] at e
   subst e
   have:=q1.size
   rcases hat with e|e
   ·exact .inl e
   ·exact .inr (by omega)
end
section
open Go.RowKit
theorem octs_conv {w:World} {B:Nat} {v:Value} {zs:List Int} (h:Octs w B v zs):Sem.run Tryz.prog (convert 101 9 v) w=.ok (.string (strOfNums zs)) w:=by
 unfold Octs at h
 rcases h.2 with ⟨rfl,h0⟩|⟨g,cap,cur,rfl,_⟩
 ·have:zs=[]:=List.eq_nil_of_length_eq_zero h0
  subst this
  exact run_convert_bytes_nil w 101 5 Tryz.underlying101 Tryz.underlying5 0 0 9 Tryz.underlying9
 ·refine run_convert_bytes_arg w 101 5 Tryz.underlying101 Tryz.underlying5 g 0 zs.length cap zs rfl (fun i hi=>?_) 9 Tryz.underlying9
  rw [Nat.zero_add,World.ownsRow.cellAt h i (by omega),octs_get _ _ hi]
theorem conv4d (w:World) (a b c d:Int) :
  Sem.run Tryz.prog (convert 101 9 (.slice (some ⟨w.heap.size,0,none⟩) 4 4)) (w.alloc (.cells #[.int .u8 a,.int .u8 b,.int .u8 c,.int .u8 d] 5)).drew
   = .ok (.string (strOfNums [a,b,c,d])) (w.alloc (.cells #[.int .u8 a,.int .u8 b,.int .u8 c,.int .u8 d] 5)).drew:=by
 refine run_convert_bytes_arg _ 101 5 Tryz.underlying101 Tryz.underlying5 w.heap.size 0 4 4 [a,b,c,d] rfl ?_ 9 Tryz.underlying9
 intro i hi
 show (w.alloc (.cells #[.int .u8 a,.int .u8 b,.int .u8 c,.int .u8 d] 5)).cell? _=_
 rw [cell_of_row _ _ _ _ _ _ (heap_alloc_last w _)]
 match i,hi with
 | 0,_=>rfl
 | 1,_=>rfl
 | 2,_=>rfl
 | 3,_=>rfl
def endStr (t:WS):ByteArray:=strOfNums (Pack.digs (t.m+4) t.n)
theorem strOfNums_app (xs ys:List Int):strOfNums xs++strOfNums ys=strOfNums (xs++ys):=by
 apply ByteArray.ext
 simp [strOfNums]
theorem byteAt_str (zs:List Int) (i:Nat) (hi:i<zs.length) (hb:∀ z ∈ zs,0<=z/\z<=255):Rdr.byteAt (strOfNums zs) i=zs.getD i 0:=by
 unfold Rdr.byteAt
 rw [strOfNums_data,List.getD_eq_getElem?_getD,List.getElem?_map,List.getElem?_eq_getElem hi,List.getD_eq_getElem?_getD,List.getElem?_eq_getElem hi]
 have:=hb zs[i] (List.getElem_mem hi)
 show ((UInt8.ofNat zs[i].toNat).toNat:Int)=zs[i]
 rw [UInt8.toNat_ofNat']
 omega
theorem endStr_bytes (t:WS):Pack.BytesOf (endStr t) t.n t.m:=by
 refine ⟨by unfold endStr;rw [strOfNums_size,Pack.digs_length],fun i hi=>?_⟩
 unfold endStr
 rw [byteAt_str _ _ (by rw [Pack.digs_length];exact hi) (Pack.digs_bd _ _),Pack.digs_get _ _ _ hi,show t.m+4-1-i=t.m+3-i by omega]
theorem endStr_eq (t:WS) (L:Int) (hL:L=t.n % 4294967296):strOfNums (Pack.digs t.m (t.n / 4294967296))++strOfNums [L / 16777216 % 256,L / 65536 % 256,L / 256 % 256,L % 256]=endStr t:=by
 rw [strOfNums_app]
 unfold endStr
 congr 1
 show _=(((Pack.digs t.m (t.n / 256 / 256 / 256 / 256)++[_])++[_])++[_])++[_]
 rw [show t.n / 256 / 256 / 256 / 256=t.n / 4294967296 by omega]
 simp only [List.append_assoc,List.cons_append,List.nil_append]
 congr 1
 simp only [List.cons.injEq,and_true]
 omega
set_option maxRecDepth 20000 in
theorem pLEnd (w:World) (B b:Nat) (v:Value) (t:WS) (h:PW w B b v t) (hm:t.m<=200000) :
  Calls Tryz.prog 83 #[.pointer (some ⟨b,0,none⟩)] w fun e w'=>e=.returned (.string (endStr t))/\Below w.heap.size w w':=by
 have i0:=h.c0
 have i1:=h.c1
 obtain ⟨L,hL⟩:∃ L,L=t.n % 4294967296:=⟨_,rfl⟩
 rw [<- hL] at i1
 have L0:0<=L:=by omega
 have L1:L<=4294967295:=by omega
 have HL:Hid (L=t.n % 4294967296):=hL
 obtain ⟨zs,hzs⟩:∃ zs,zs=Pack.digs t.m (t.n / 4294967296):=⟨_,rfl⟩
 have ho:=h.own
 rw [<- hzs] at ho
 have hzl:zs.length<=200000:=by rw [hzs,Pack.digs_length];exact hm
 have HZ:Hid (zs=Pack.digs t.m (t.n / 4294967296)):=hzs
 have F0:=octs_conv (w:=w) ho
 have F1:Sem.run Tryz.prog (convert 101 9 v) w.drew=.ok (.string (strOfNums zs)) w.drew:=octs_conv (B:=B) (show Octs w.drew B v zs from ho)
 have F2:∀ a b c d:Int,Sem.run Tryz.prog (convert 101 9 v) (w.alloc (.cells #[.int .u8 a,.int .u8 b,.int .u8 c,.int .u8 d] 5)).drew=.ok (.string (strOfNums zs)) (w.alloc (.cells #[.int .u8 a,.int .u8 b,.int .u8 c,.int .u8 d] 5)).drew:=fun a b c d=>octs_conv (B:=B) (show Octs (w.alloc _).drew B v zs from by unfold Octs at ho ⊢;exact (ho.alloc _).drew)
 have F3:=conv4d w
 have hsz:(strOfNums zs).size=zs.length:=strOfNums_size zs
 have hsz4:∀ a b c d:Int,(strOfNums [a,b,c,d]).size=4:=fun a b c d=>strOfNums_size _
 have hbup:=h.up
 have i0a:∀ x y z u:Int,(w.alloc (.cells #[.int .u8 x,.int .u8 y,.int .u8 z,.int .u8 u] 5)).drew.cell? ⟨b,401,none⟩=some v:=fun x y z u=>(cell_alloc_drew hbup).trans i0
 have hlim:¬ 9223372036854775807<zs.length+4:=by omega
 clear hL hzs h
 go_enter Tryz.func83,Tryz.ntmps83
 go_wp2
 go_region
 have he:strOfNums zs++strOfNums [L / 16777216,L / 65536 % 256,L / 256 % 256,L % 256]=endStr t:=by
  rw [HZ.out,<- endStr_eq t L HL.out,show L / 16777216 % 256=L / 16777216 by omega]
 have HEE:Hid (strOfNums zs++strOfNums [L / 16777216,L / 65536 % 256,L / 256 % 256,L % 256]=endStr t):=he
 clear he F0 F1 F2 F3 i0a
 go_wp2
 go_ret
 exact ⟨by rw [<- HEE.out];rfl,below_drew ((Below.refl _ w).alloc (Nat.le_refl _) _)⟩
end
section
open Go.RowKit
theorem puts_app':∀ (l r:List (Nat × Int)) (t:WS),Pack.puts t (l++r)=Pack.puts (Pack.puts t l) r
 | [],_,_=>rfl
 | (_,_) :: l,r,_=>puts_app' l r _
theorem puts_take (l:List (Nat × Int)) (j:Nat) (h:j<l.length):Pack.fin (l.take (j+1))=Pack.put (Pack.fin (l.take j)) (l.getD j (0,0)).1 (l.getD j (0,0)).2:=by
 unfold Pack.fin
 rw [List.take_add_one,List.getElem?_eq_getElem h]
 have e:l.getD j (0,0)=l[j]:=by rw [List.getD_eq_getElem?_getD,List.getElem?_eq_getElem h];rfl
 rw [e]
 exact Pack.puts_snoc _ _ _ _
set_option maxRecDepth 20000 in
theorem pPack (w:World) (b:Nat) (v:Value) (t:WS) (l:List (Nat × Int)) (h:DrAt w b v t l) (hl:l.length<=1000000) (ho:Pack.BitsOk l) (hm:(Pack.fin l).m<=150000) :
  Calls Tryz.prog 43 #[.pointer (some ⟨b,0,none⟩)] w fun e w'=>e=.returned (.string (endStr (Pack.fin l)))/\Below w.heap.size w w':=by
 have i1:=h.bits
 have hup:=h.up
 obtain ⟨a,cap,rfl,hc⟩:∃ a cap,v=.slice a l.length cap/\(l.length=0 \/ ∃ g,a=some ⟨g,0,none⟩/\g<w.heap.size/\∀ i,i<l.length->w.cell? ⟨g,i*2,none⟩=some (.int .u16 (l.getD i (0,0)).1)/\w.cell? ⟨g,i*2+1,none⟩=some (.int .u8 (l.getD i (0,0)).2)):=by
  have hw:=h.own
  rcases hw.2 with ⟨rfl,h0⟩|⟨g,cap,cur,rfl,hb,hg,hr⟩
  ·exact ⟨none,0,by rw [h0],.inl h0⟩
  ·refine ⟨_,cap,rfl,.inr ⟨g,rfl,(World.ownsRow.lt hw g rfl).2,fun i hi=>?_⟩⟩
   have h1:=World.ownsRow.cellAt hw (i*2) (by omega)
   have h2:=World.ownsRow.cellAt hw (i*2+1) (by omega)
   obtain ⟨k1,k2⟩:=stepCells_get l i hi
   exact ⟨by rw [h1,k1],by rw [h2,k2]⟩
 have hmj:∀ j,(Pack.fin (l.take j)).m<=200000:=fun j=>by
  have h1:=Pack.puts_in (l.drop j) (Pack.fin (l.take j)) (Pack.puts_ok _ _ Pack.init_ok fun p hp=>(ho p (List.mem_of_mem_take hp)).1) (fun p hp=>(ho p (List.mem_of_mem_drop hp)).1)
  have e:Pack.puts (Pack.fin (l.take j)) (l.drop j)=Pack.fin l:=by
   unfold Pack.fin
   rw [<- puts_app',List.take_append_drop]
  rw [e] at h1
  obtain ⟨d,h2,_⟩:=h1
  omega
 have HO:Hid (Pack.BitsOk l):=ho
 have HC:Hid (l.length=0 \/ ∃ g,a=some ⟨g,0,none⟩/\g<w.heap.size/\∀ i,i<l.length->w.cell? ⟨g,i*2,none⟩=some (.int .u16 (l.getD i (0,0)).1)/\w.cell? ⟨g,i*2+1,none⟩=some (.int .u8 (l.getD i (0,0)).2)):=hc
 have HM:Hid (∀ j,(Pack.fin (l.take j)).m<=200000):=hmj
 clear hc ho h hm hmj
 go_enter Tryz.func43,Tryz.ntmps43
 go_wp2_with (go_at_call 81;refine (pNewWriter _).mono ?_;rintro e w1 ⟨b1,rfl,hb1,hp1,hbw1⟩;have i2:=(hbw1.cell (p:=⟨b,402,none⟩) hup).trans i1)
 go_loopw [12] (fun i wr=>∃ j:Nat,∃ v':Value,j<=l.length/\i=.int .i64 j/\PW wr w.heap.size b1 v' (Pack.fin (l.take j))/\vLo w.heap.size v'/\Below w.heap.size w wr) (fun i _=>l.length-(intOf i).toNat)
 case atStart=>exact ⟨0,_,Nat.zero_le _,rfl,hp1,fun j hj=>by simp [Value.ownBlock] at hj,hbw1⟩
 case round =>
  clear hp1 hbw1 i2
  obtain ⟨j,v',hjk,rfl,hp,hvl,hbr⟩:=hrel
  have hmj:=HM.out j
  by_cases hlt:j<l.length
  ·have hlt':(j:Int)<(l.length:Int):=by omega
   obtain ⟨g,rfl,hg,hc⟩:∃ g,a=some ⟨g,0,none⟩/\g<w.heap.size/\∀ i,i<l.length->w.cell? ⟨g,i*2,none⟩=some (.int .u16 (l.getD i (0,0)).1)/\w.cell? ⟨g,i*2+1,none⟩=some (.int .u8 (l.getD i (0,0)).2):=by
    rcases HC.out with h2|h2
    ·omega
    ·exact h2
   obtain ⟨k,x,hkx⟩:∃ k x,l.getD j (0,0)=(k,x):=⟨_,_,rfl⟩
   have hmem:(k,x) ∈ l:=by
    rw [<- hkx,List.getD_eq_getElem?_getD,List.getElem?_eq_getElem hlt]
    exact List.getElem_mem hlt
   obtain ⟨hk,hx⟩:=HO.out _ hmem
   have d1:=(hbr.cell (p:=⟨g,j*2,none⟩) hg).trans (hc j hlt).1
   have d2:=(hbr.cell (p:=⟨g,j*2+1,none⟩) hg).trans (hc j hlt).2
   rw [hkx] at d1 d2
   have HS:Hid (Pack.fin (l.take (j+1))=Pack.put (Pack.fin (l.take j)) k x):=by
    unfold Hid
    rw [puts_take l j hlt,hkx]
   have okj:Pack.Ok (Pack.fin (l.take j)):=Pack.puts_ok _ _ Pack.init_ok (fun p hp=>(HO.out p (List.mem_of_mem_take hp)).1)
   obtain ⟨T,hT⟩:∃ T,T=Pack.fin (l.take j):=⟨_,rfl⟩
   rw [<- hT] at hp okj hmj HS
   dsimp only at hk hx d1 d2
   have w1:wrap64 (k:Int)=k:=by unfold wrap64;omega
   have w2:wrap64 x=x:=by unfold wrap64;omega
   clear hc hkx hT hmem
   have hpa:PW (wr.alloc (.cells #[.int .u16 (k:Int),.int .u8 x] 159)) w.heap.size b1 v' T:=by
    have hbk:=Below.heap_alloc wr (.cells #[.int .u16 (k:Int),.int .u8 x] 159) b1 hp.up
    have hcc:∀ o,(wr.alloc (.cells #[.int .u16 (k:Int),.int .u8 x] 159)).cell? ⟨b1,o,none⟩=wr.cell? ⟨b1,o,none⟩:=fun o=>World.cell?_of_block (a:=⟨b1,o,none⟩) hbk
    exact ⟨(hcc 401).trans hp.c0,by have:=hp.own;unfold Octs at this ⊢;exact this.alloc _,hp.ne,(hcc 402).trans hp.c1,(hcc 0).trans hp.c2,fun o ho=>(World.frozen?_of_block (a:=⟨b1,o,none⟩) hbk).trans (hp.fz o ho),hp.ch.on hbk,by simp;have:=hp.up;omega⟩
   have hsz2:=hbr.size
   go_wp2_with (go_at_call 82;refine (pPut _ w.heap.size b1 v' T k x hpa okj hmj hk hx hb1 (by simp;omega) hvl).mono ?_;rintro e w3 ⟨rfl,v3,hp3,hvl3,hb3⟩)
   go_roundw
   case rel=>exact ⟨j+1,v3,by omega,by go_num,by rw [HS.out];exact hp3,hvl3,(hbr.alloc hsz2 _).trans (hb3.mono (by simp))⟩
   case measure=>simp [intOf];omega
  ·obtain rfl:j=l.length:=by omega
   have hlt':¬ ((l.length:Int)<(l.length:Int)):=by omega
   rw [List.take_of_length_le (Nat.le_refl _)] at hp hmj
   have hsz2:=hbr.size
   go_wp2_with (go_at_call 83;refine (pLEnd _ w.heap.size b1 v' _ hp hmj).mono ?_;rintro e w3 ⟨rfl,hb3⟩)
   go_ret
   exact ⟨rfl,hbr.trans (hb3.mono hsz2)⟩
end
end Go.Proofs.YtekfbphnoibnjaaGreatDoor
