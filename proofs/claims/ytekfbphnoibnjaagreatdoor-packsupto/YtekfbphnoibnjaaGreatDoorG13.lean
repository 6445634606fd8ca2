/-
  RefDec3b RefDec5
-/
import Derived.Test.YtekfbphnoibnjaaGreatDoorG11
import Derived.Test.YtekfbphnoibnjaaGreatDoorG12
set_option maxHeartbeats 4000000
namespace Go.Proofs.YtekfbphnoibnjaaGreatDoor
section
open Go.RowKit
open Flm (Px FS)
set_option maxRecDepth 20000 in
theorem dec_ok16 (w:World) (s t:ByteArray) (hs:s.size<=120000) (h4:4<=s.size) (h0:((s[0]'(by omega)).toNat:Int)=70) (h1:((s[1]'(by omega)).toNat:Int)=66) (h2:((s[2]'(by omega)).toNat:Int)=16) (N:Nat) (h3:((s[3]'(by omega)).toNat:Int)=N) (hN:N<=8) (ht:s.extract 4 s.size=t) (he:(Rdr.start t ch0).err=0) :
  Calls Tryz.prog 68 #[.string s] w fun x w'=>DecPost w t 16 (Flm.frames t 16 N ⟨Rdr.start t ch0,[],[],0,0,0⟩) x w':=by
 have hs':(s.size:Int)<=120000:=by omega
 have h4':(4:Int)<=(s.size:Int):=by omega
 have hN':(N:Int)<=8:=by omega
 have hts:t.size<=maxLen:=by rw [<- ht];simp;unfold maxLen;omega
 have HE:Hid ((Rdr.start t ch0).err=0):=he
 obtain ⟨fs0,hfs0⟩:∃ fs0:FS,fs0=⟨Rdr.start t ch0,[],[],0,0,0⟩:=⟨_,rfl⟩
 rw [<- hfs0]
 obtain ⟨F,hF⟩:∃ F,F=Flm.frames t 16 N fs0:=⟨_,rfl⟩
 rw [<- hF]
 have HF:Hid (F=Flm.frames t 16 N fs0):=hF
 have HFS0:Hid (fs0=⟨Rdr.start t ch0,[],[],0,0,0⟩):=hfs0
 clear hF hfs0
 have HAC:Hid (∀ B p b g lg lc rg (fbs:List Nat),AreaC B p b g lg lc rg 16 fbs t 2 16 16):=fun B p b g lg lc rg fbs=>sh_area_cut B p b g lg lc rg 16 fbs t hts 1 16 8 16 8 0 0 (.inr ⟨rfl,rfl,rfl,rfl,rfl,rfl⟩) (sh_area_cut B p b g lg lc rg 16 fbs t hts 0 8 4 8 4 1 1 (.inl ⟨rfl,rfl,rfl,rfl,rfl,rfl⟩) (sh_area4 B p b g lg lc rg 16 fbs t hts))
 clear he
 go_enter Tryz.func68,Tryz.ntmps68
 go_wp2_with (go_at_call 100;refine (newReader _ t hts).mono ?_;rintro e w1 ⟨b,rfl,hr1,fb1⟩;have i5:=hr1.c5;rw [HE.out] at i5)
 obtain ⟨W4,hW4⟩:∃ W4,W4=((((w.alloc (Obj.cells #[.int .i64 0,.slice none 0 0] 27)).alloc (Obj.cells #[.int .i64 0,.int .i64 0,.int .i64 0] 33)).alloc (Obj.cells #[.int .i64 0,.slice none 0 0] 27)).alloc (Obj.cells #[.int .i64 0,.int .i64 0,.int .i64 0] 33)):=⟨_,rfl⟩
 rw [<- hW4] at hr1 fb1
 have hsz4:W4.heap.size=w.heap.size+4:=by rw [hW4];simp
 have HB4:Hid (Below w.heap.size w W4):=by rw [hW4];exact (((((Below.refl _ w).alloc (Nat.le_refl _) _).alloc (by simp) _).alloc (by simp;omega) _).alloc (by simp;omega) _)
 obtain ⟨p,hp⟩:∃ p,p=w1.heap.size:=⟨_,rfl⟩
 have hfs0:=HFS0.out
 have hbp:b<p:=by rw [hp];exact hr1.up
 have hgp:W4.heap.size<p:=by rw [hp];exact hr1.nums.lt.2
 obtain ⟨W5,hW5⟩:∃ W5,W5=w1.alloc (Obj.cells #[.pointer (some ⟨b,0,none⟩),.int .i64 16,.slice none 0 0,.slice none 0 0,.int .i64 0,.int .i64 0,.int .i64 0] 193):=⟨_,rfl⟩
 have hL0:ShL W5 W4.heap.size p b W4.heap.size (.slice none 0 0) (.slice none 0 0) [] t 16 fs0:=by
  have C:∀ o,W5.cell? ⟨p,o,none⟩=(#[Value.pointer (some ⟨b,0,none⟩),.int .i64 16,.slice none 0 0,.slice none 0 0,.int .i64 0,.int .i64 0,.int .i64 0]:Array Value)[o]?:=fun o=>by
   rw [hW5,hp,cell_of_row _ _ o _ _ (0,0) (heap_alloc_last w1 _)]
  refine ⟨?_,by rw [hfs0];exact Rdr.start_ok t ch0 ch0_ok,C 0,C 1,C 2,C 3,by rw [hfs0];exact C 4,by rw [hfs0];exact C 5,by rw [hfs0];exact C 6,fun o=>by rw [hW5,hp];simp,by rw [hfs0];exact World.ownsRow_nil _ _ _ _,by rw [hfs0];intro i hi;exact absurd hi (Nat.not_lt_zero _),by rw [hfs0];rfl,.inr (.inr rfl),?_,by simp [Value.ownBlock],?_,by omega,by rw [hW5,hp];simp⟩
  ·rw [hW5,hfs0];exact hr1.frm (Frm.of_below (S:=fun _=>False) ((Below.refl _ w1).alloc (Nat.le_refl _) _)) (fun e=>e) (fun e=>e)
  ·have:=hr1.ne;simp;omega
  ·intro i k;rw [hfs0];simp [Flm.px,Flm.okPx]
 have hB0:Below W4.heap.size W4 W5:=by rw [hW5];exact fb1.alloc fb1.size _
 rw [<- hW5]
 have HW4:Hid (W4=((((w.alloc (Obj.cells #[.int .i64 0,.slice none 0 0] 27)).alloc (Obj.cells #[.int .i64 0,.int .i64 0,.int .i64 0] 33)).alloc (Obj.cells #[.int .i64 0,.slice none 0 0] 27)).alloc (Obj.cells #[.int .i64 0,.int .i64 0,.int .i64 0] 33))):=hW4
 have HL0:Hid (ShL W5 W4.heap.size p b W4.heap.size (.slice none 0 0) (.slice none 0 0) [] t 16 fs0):=hL0
 have HB0:Hid (Below W4.heap.size W4 W5):=hB0
 rw [<- hp]
 clear hW4 hL0 hB0 hW5 hr1 fb1 i5 hp ht
 clear hfs0
 obtain ⟨k0,hi',hy0,hy1,hy2⟩:=info_parts infoRow
 go_loopw [9] (fun iv wr=>∃ (i:Nat) (Lv Rv:Value) (fbs:List Nat) (q:FS),iv=.int .i64 i/\i<=N/\ShL wr W4.heap.size p b W4.heap.size Lv Rv fbs t 16 q/\q.frs.length=i/\Flm.frames t 16 (N-i) q=F/\Below W4.heap.size W4 wr) (fun iv _=>N-(intOf iv).toNat)
 case atStart=>exact ⟨0,_,_,[],fs0,rfl,by omega,HL0.out,by rw [HFS0.out];rfl,HF.out.symm,HB0.out⟩
 case round =>
  clear HL0 HB0 HF HFS0
  obtain ⟨i,Lv,Rv,fbs,q,rfl,hiN,hL,hqi,hfr,hB⟩:=hrel
  have j5:=hL.rd.c5
  have HQI:Hid (q.frs.length=i):=hqi
  have hq8:q.frs.length<=8:=by omega
  clear hqi
  by_cases hlt:i<N
  ·have hlt':(i:Int)<(N:Int):=by omega
   by_cases hqe:q.r.err=0
   ·rw [hqe] at j5
    have c1:=hL.c1
    have c2:=hL.c2
    have f2:=hL.fz 2
    have f3:=hL.fz 3
    have c3:=hL.c3
    have hup:=hL.up
    have hrow:=hL.rows
    have HLL:Hid (ShL wr W4.heap.size p b W4.heap.size Lv Rv fbs t 16 q):=hL
    have HQE:Hid (q.r.err=0):=hqe
    have HB:Hid (Below W4.heap.size W4 wr):=hB
    have HFR:Hid (Flm.frames t 16 (N-i) q=F):=hfr
    have hszr:=hB.size
    clear hL hqe hB hfr
    have hpl:∀ k,Lv.ownBlock=some k->k ≠ p:=fun k hk=>(HLL.out.nl k hk).1
    have hpl':Lv.ownBlock ≠ some p:=fun e=>hpl p e rfl
    have hnews:((wr.alloc (Obj.cells (madeCells #[.int .u8 0,.int .u8 0,.int .u8 0] 768) 50)).alloc (Obj.cells #[.slice (some ⟨wr.heap.size,0,none⟩) 256 256] 58)).drew.heap[wr.heap.size+1]?=some (Obj.cells #[.slice (some ⟨wr.heap.size,0,none⟩) 256 256] 58):=by
     have:=heap_alloc_last (wr.alloc (Obj.cells (madeCells #[.int .u8 0,.int .u8 0,.int .u8 0] 768) 50)) (Obj.cells #[.slice (some ⟨wr.heap.size,0,none⟩) 256 256] 58)
     rw [World.size_alloc] at this
     exact this
    have HNW:Hid (((wr.alloc (Obj.cells (madeCells #[.int .u8 0,.int .u8 0,.int .u8 0] 768) 50)).alloc (Obj.cells #[.slice (some ⟨wr.heap.size,0,none⟩) 256 256] 58)).drew.heap[wr.heap.size+1]?=some (Obj.cells #[.slice (some ⟨wr.heap.size,0,none⟩) 256 256] 58)):=hnews
    have HPL:Hid (Lv.ownBlock ≠ some p):=hpl'
    have HRW:Hid (wr.ownsRow W4.heap.size 58 1 Lv q.frs.length (rowVals (16*16) fbs)):=hrow
    clear hnews hpl hpl' hrow
    have hmk:=makePx 256 (by decide)
    rw [show ((256:Nat):Int)=IntKind.i64.wrap 256 from rfl] at hmk
    have hmb:=makeBool 256 (by decide)
    rw [show ((256:Nat):Int)=IntKind.i64.wrap 256 from rfl] at hmb
    have HMB:Hid (∀ w,Sem.run Tryz.prog (Instr.makeSlice 108 (.int .i64 (IntKind.i64.wrap 256)) (.int .i64 (IntKind.i64.wrap 256))) w=.ok (.slice (some ⟨w.heap.size,0,none⟩) 256 256) (w.alloc (.cells (madeCells #[.bool false] 256) 4))):=hmb
    clear hmb
    go_upto_region 14 with fail
    go_cut [9] (fun iv wx=>iv=.int .i64 i/\∃ gg cap,ShL wx W4.heap.size p b W4.heap.size (.slice (some ⟨gg,0,none⟩) (q.frs.length+1) cap) Rv (fbs++[wr.heap.size]) t 16 (Flm.more 16 q)/\Below W4.heap.size wr wx)
    case first =>
     go_region_law ((refine step_append_lies _ (by rfl) _ _ _ (by rfl) W4.heap.size 58 k0 _ 1 24 Tryz.underlying25 hi' hy0 hy1 hy2 rfl (by omega) Lv q.frs.length (rowVals (16*16) fbs) (by rfl) (((HRW.out.alloc _).alloc _).drew) ⟨wr.heap.size+1,0,none⟩ 1 1 [.slice (some ⟨wr.heap.size,0,none⟩) 256 256] (by rfl) (by rfl) (World.news_of_block (cs:=#[.slice (some ⟨wr.heap.size,0,none⟩) 256 256]) (t:=58) (fr:=(0,0)) HNW.out) (by simp [Value.oneCell']) (by omega) (by unfold maxLen;omega) (by omega) (by simp;omega) (wr.heap.size+2) (by simp) ?_;intro gg cap w5 hown5 hgrow hat hlt5;have sf5:w5.frozen? ⟨p,2,none⟩=false:=((hgrow.frozen_far ⟨p,2,none⟩ (by simp;omega) (Ne.symm HPL.out)).trans (frozen_alloc2_drew hup)).trans f2;have sc5:w5.cell? ⟨p,2,none⟩=some Lv:=((hgrow.cell_far ⟨p,2,none⟩ (by simp;omega) (Ne.symm HPL.out)).trans (cell_alloc2_drew hup)).trans c2))
     all_goals
      have HSL:=HLL.out.grow hszr hown5 hgrow hat
      clear hgrow hown5
      go_wp2_with fail
      go_meet
      exact ⟨rfl,gg,cap,HSL.1,HSL.2⟩
    case rest =>
     obtain ⟨rfl,gg,cap,hL6,hB6⟩:=hcut
     have hlen6:(Flm.more 16 q).frs.length=q.frs.length+1:=by unfold Flm.more;simp
     rw [<- hlen6] at hL6
     have d1:=hL6.c1
     have d3:=hL6.c3
     have g3:=hL6.fz 3
     have hup6:=hL6.up
     have hsz6:=hB6.size
     have HAT:=hL6.toAt (by omega) ⟨by omega,by have:=HQI.out;omega⟩
     have hmb:=HMB.out
     have HAT2:Hid (ShAt ((wc.setCell ⟨p,3,none⟩ (.slice (some ⟨wc.heap.size,0,none⟩) 256 256)).alloc (.cells (madeCells #[.bool false] 256) 4)).drew W4.heap.size p b W4.heap.size gg cap wc.heap.size (fbs++[wr.heap.size]) t 16 { Flm.more 16 q with rd:=List.replicate 256 false }/\Below W4.heap.size wc ((wc.setCell ⟨p,3,none⟩ (.slice (some ⟨wc.heap.size,0,none⟩) 256 256)).alloc (.cells (madeCells #[.bool false] 256) 4)).drew):=HAT
     have HB6:Hid (Below W4.heap.size wr wc):=hB6
     clear HAT hL6 hB6 hmk hlen6
     go_upto_region 15 with fail
     go_cut [9] (fun iv wx=>iv=.int .i64 i/\∃ rg,ShAt wx W4.heap.size p b W4.heap.size gg cap rg (fbs++[wr.heap.size]) t 16 { Flm.more 16 q with rd:=List.replicate 256 false }/\Below W4.heap.size wr wx)
     case first =>
      go_region
      all_goals
       go_wp2_with fail
       go_meet
       exact ⟨rfl,wc.heap.size,HAT2.out.1,HB6.out.trans HAT2.out.2⟩
     case rest =>
      obtain ⟨rfl,rg,hA7,hB7⟩:=hcut
      have e1:=hA7.c1
      have HA7:Hid (ShAt wc W4.heap.size p b W4.heap.size gg cap rg (fbs++[wr.heap.size]) t 16 { Flm.more 16 q with rd:=List.replicate 256 false }):=hA7
      have HB7:Hid (Below W4.heap.size wr wc):=hB7
      clear hA7 hB7
      go_wp2_with (go_at_call 104;refine (HAC.out _ _ _ _ _ _ _ _ _ _ 0 0 _ _ HA7.out rfl rfl (by decide) (by decide)).mono ?_;rintro e w8 ⟨rfl,h8,f8⟩)
      go_roundw
      case rel =>
       have hqi:=HQI.out
       have hn8:=h8.n1
       rw [List.length_append,HLL.out.n1,hqi] at hn8
       refine ⟨i+1,_,_,_,_,by go_num,by omega,h8.toL,hn8.symm,?_,(HB.out.trans HB7.out).trans (HA7.out.frmB (by have:=(HB.out.trans HB7.out).size;omega) f8)⟩
       rw [<- HFR.out,show N-i=(N-(i+1))+1 by omega]
       conv=>rhs;unfold Flm.frames
       rw [if_pos HQE.out]
       rfl
      case measure=>simp [intOf];omega
   ·have hlt2:=hlt'
    have HLL:Hid (ShL wr W4.heap.size p b W4.heap.size Lv Rv fbs t 16 q):=hL
    have HB:Hid (Below W4.heap.size W4 wr):=hB
    have HFq:Hid (F=q):=by
     rw [<- hfr]
     cases N-i with
     | zero=>rfl
     | succ n=>unfold Flm.frames;rw [if_neg hqe];exact rfl
    have he1:(q.r.err == 0)=false:=by simpa using hqe
    have he2:(q.r.err != 0)=true:=by simpa using hqe
    have HQE:Hid (q.r.err ≠ 0):=hqe
    obtain ⟨o0,o1,o2,o3⟩:=box4 w (Obj.cells #[.int .i64 0,.slice none 0 0] 27) (Obj.cells #[.int .i64 0,.int .i64 0,.int .i64 0] 33) (Obj.cells #[.int .i64 0,.slice none 0 0] 27) (Obj.cells #[.int .i64 0,.int .i64 0,.int .i64 0] 33)
    rw [<- HW4.out] at o0 o1 o2 o3
    have z0:=(hB.block w.heap.size (by omega)).trans o0
    have z1:=(hB.block (w.heap.size+1) (by omega)).trans o1
    have z2:=(hB.block (w.heap.size+1+1) (by omega)).trans o2
    have z3:=(hB.block (w.heap.size+1+1+1) (by omega)).trans o3
    have a00:wr.cell? ⟨w.heap.size,0,none⟩=some (.int .i64 0):=cell_of_row _ _ 0 _ _ _ z0
    have a01:wr.cell? ⟨w.heap.size,1,none⟩=some (.slice none 0 0):=cell_of_row _ _ 1 _ _ _ z0
    have a10:wr.cell? ⟨w.heap.size+1,0,none⟩=some (.int .i64 0):=cell_of_row _ _ 0 _ _ _ z1
    have a11:wr.cell? ⟨w.heap.size+1,1,none⟩=some (.int .i64 0):=cell_of_row _ _ 1 _ _ _ z1
    have a12:wr.cell? ⟨w.heap.size+1,2,none⟩=some (.int .i64 0):=cell_of_row _ _ 2 _ _ _ z1
    have a20:wr.cell? ⟨w.heap.size+1+1,0,none⟩=some (.int .i64 0):=cell_of_row _ _ 0 _ _ _ z2
    have a21:wr.cell? ⟨w.heap.size+1+1,1,none⟩=some (.slice none 0 0):=cell_of_row _ _ 1 _ _ _ z2
    have a30:wr.cell? ⟨w.heap.size+1+1+1,0,none⟩=some (.int .i64 0):=cell_of_row _ _ 0 _ _ _ z3
    have a31:wr.cell? ⟨w.heap.size+1+1+1,1,none⟩=some (.int .i64 0):=cell_of_row _ _ 1 _ _ _ z3
    have a32:wr.cell? ⟨w.heap.size+1+1+1,2,none⟩=some (.int .i64 0):=cell_of_row _ _ 2 _ _ _ z3
    have b00:=frozen_of_row _ _ 0 _ _ z0
    have b01:=frozen_of_row _ _ 1 _ _ z0
    have b10:=frozen_of_row _ _ 0 _ _ z1
    have b11:=frozen_of_row _ _ 1 _ _ z1
    have b12:=frozen_of_row _ _ 2 _ _ z1
    have hpw:w.heap.size+4<=p:=by omega
    clear o0 o1 o2 o3 z0 z1 z2 z3
    have c4:=hL.c4
    have c5:=hL.c5
    have c6:=hL.c6
    obtain ⟨ER,hER⟩:∃ ER,ER=q.r.err:=⟨_,rfl⟩
    obtain ⟨FR,hFR⟩:∃ FR,FR=q.fr:=⟨_,rfl⟩
    obtain ⟨FX,hFX⟩:∃ FX,FX=q.x:=⟨_,rfl⟩
    obtain ⟨FY,hFY⟩:∃ FY,FY=q.y:=⟨_,rfl⟩
    rw [<- hER] at j5 he1 he2
    rw [<- hFR] at c4
    rw [<- hFX] at c5
    rw [<- hFY] at c6
    have HER:Hid (ER=q.r.err/\FR=q.fr/\FX=q.x/\FY=q.y):=⟨hER,hFR,hFX,hFY⟩
    clear hL hB hfr hqe hER hFR hFX hFY
    go_wp2_with fail
    go_region
    all_goals
     go_wp2_with fail
     obtain ⟨X,hX⟩:∃ X,X=(((((wr.setCell ⟨w.heap.size,0,none⟩ (.int .i64 0)).setCell ⟨w.heap.size,1,none⟩ (.slice none 0 0)).setCell ⟨w.heap.size+1,0,none⟩ (.int .i64 FR)).setCell ⟨w.heap.size+1,1,none⟩ (.int .i64 FX)).setCell ⟨w.heap.size+1,2,none⟩ (.int .i64 FY)).drew:=⟨_,rfl⟩
     rw [<- hX]
     obtain ⟨q0,q1,q2,q3,q4,hfx⟩:=five_set wr w.heap.size (w.heap.size+1) (by omega) (.int .i64 0) (.slice none 0 0) (.int .i64 FR) (.int .i64 FX) (.int .i64 FY) a00 a01 a10 a11 a12 X hX
     refine bodyPost_ret (v:=.tuple #[.agg #[.int .i64 0,.slice none 0 0],.agg #[.int .i64 FR,.int .i64 FX,.int .i64 FY],.int .i64 ER]) ?_ rfl ?_
     ·simp [results,Tryz.results68,go_sem,q0,q1,q2,q3,q4]
     ·rw [HFq.out]
      obtain ⟨e1,e2,e3,e4⟩:=HER.out
      refine ⟨fun _=>by rw [e1,e2,e3,e4],fun h=>absurd h HQE.out,fun h=>absurd h HQE.out,?_⟩
      exact (HB4.out.trans (HB.out.mono (by omega))).trans (hfx.below (by have:=HB.out.size;omega) (fun k e=>by rcases e with e|e <;> omega))
  ·have hlt':¬ (i:Int)<(N:Int):=by omega
   by_cases hqe:q.r.err=0
   ·have hlt2:=hlt'
    have HLL:Hid (ShL wr W4.heap.size p b W4.heap.size Lv Rv fbs t 16 q):=hL
    have HB:Hid (Below W4.heap.size W4 wr):=hB
    have HFq:Hid (F=q):=by
     rw [<- hfr,show N-i=0 by omega]
     exact rfl
    have HQE:Hid (q.r.err=0):=hqe
    rw [hqe] at j5
    have HEND:Hid (Calls Tryz.prog 102 #[.pointer (some ⟨b,0,none⟩)] wr fun x w'=>x=.returned (.tuple #[])/\RdAt w' W4.heap.size b W4.heap.size t (Rdr.finish t q.r)/\Frm (rdS b W4.heap.size) wr w'):=rend wr W4.heap.size b W4.heap.size t q.r hL.rd
    have hpn:¬ rdS b W4.heap.size p:=fun e=>by rcases e with e|e <;> omega
    have HB2:Hid (∀ w2,Frm (rdS b W4.heap.size) wr w2->Below W4.heap.size W4 w2):=fun w2 f=>hB.trans (f.below hB.size (fun k e=>by rcases e with e|e;rw [e];exact hL.rd.lo;omega))
    have HC:Hid (∀ w2,Frm (rdS b W4.heap.size) wr w2->w2.cell? ⟨p,1,none⟩=some (.int .i64 16)/\w2.cell? ⟨p,2,none⟩=some Lv):=fun w2 f=>⟨f.cell hL.c1 hpn,f.cell hL.c2 hpn⟩
    obtain ⟨ER,hER⟩:∃ ER,ER=(Rdr.finish t q.r).err:=⟨_,rfl⟩
    have HER:Hid (ER=(Rdr.finish t q.r).err):=hER
    by_cases hfe:ER=0
    ·have HFE:Hid (ER=0):=hfe
     have hlb:Hid (∀ k,Lv.ownBlock=some k->W4.heap.size<=k):=fun k e=>(World.ownsRow.lt hL.rows k e).1
     obtain ⟨la,ln,lc,hLv⟩:∃ la ln lc,Lv=.slice la ln lc:=by
      rcases hL.rows.2 with ⟨h,_⟩|⟨g',c',_,h,_⟩
      ·exact ⟨_,_,_,h⟩
      ·exact ⟨_,_,_,h⟩
     subst hLv
     clear hL hB hfr hqe hER hfe hpn
     go_wp2_with (go_at_call 102;refine HEND.out.mono ?_;rintro e w2 ⟨rfl,h2,f2⟩;have k5:=h2.c5;rw [<- HER.out,HFE.out] at k5;have k12:=HC.out w2 f2;obtain ⟨k1,k2⟩:=k12;have hB2:=HB2.out w2 f2;have F2:Hid (Frm (rdS b W4.heap.size) wr w2):=f2;clear h2 f2)
     obtain ⟨o0,o1,o2,o3⟩:=box4 w (Obj.cells #[.int .i64 0,.slice none 0 0] 27) (Obj.cells #[.int .i64 0,.int .i64 0,.int .i64 0] 33) (Obj.cells #[.int .i64 0,.slice none 0 0] 27) (Obj.cells #[.int .i64 0,.int .i64 0,.int .i64 0] 33)
     rw [<- HW4.out] at o0 o1 o2 o3
     have z0:=(hB2.block w.heap.size (by omega)).trans o0
     have z1:=(hB2.block (w.heap.size+1) (by omega)).trans o1
     have z2:=(hB2.block (w.heap.size+1+1) (by omega)).trans o2
     have z3:=(hB2.block (w.heap.size+1+1+1) (by omega)).trans o3
     have a00:w2.cell? ⟨w.heap.size,0,none⟩=some (.int .i64 0):=cell_of_row _ _ 0 _ _ _ z0
     have a01:w2.cell? ⟨w.heap.size,1,none⟩=some (.slice none 0 0):=cell_of_row _ _ 1 _ _ _ z0
     have a10:w2.cell? ⟨w.heap.size+1,0,none⟩=some (.int .i64 0):=cell_of_row _ _ 0 _ _ _ z1
     have a11:w2.cell? ⟨w.heap.size+1,1,none⟩=some (.int .i64 0):=cell_of_row _ _ 1 _ _ _ z1
     have a12:w2.cell? ⟨w.heap.size+1,2,none⟩=some (.int .i64 0):=cell_of_row _ _ 2 _ _ _ z1
     have a20:w2.cell? ⟨w.heap.size+1+1,0,none⟩=some (.int .i64 0):=cell_of_row _ _ 0 _ _ _ z2
     have a21:w2.cell? ⟨w.heap.size+1+1,1,none⟩=some (.slice none 0 0):=cell_of_row _ _ 1 _ _ _ z2
     have a30:w2.cell? ⟨w.heap.size+1+1+1,0,none⟩=some (.int .i64 0):=cell_of_row _ _ 0 _ _ _ z3
     have a31:w2.cell? ⟨w.heap.size+1+1+1,1,none⟩=some (.int .i64 0):=cell_of_row _ _ 1 _ _ _ z3
     have a32:w2.cell? ⟨w.heap.size+1+1+1,2,none⟩=some (.int .i64 0):=cell_of_row _ _ 2 _ _ _ z3
     have b00:=frozen_of_row _ _ 0 _ _ z0
     have b01:=frozen_of_row _ _ 1 _ _ z0
     have b10:=frozen_of_row _ _ 0 _ _ z1
     have b11:=frozen_of_row _ _ 1 _ _ z1
     have b12:=frozen_of_row _ _ 2 _ _ z1
     have hpw:w.heap.size+4<=p:=by omega
     clear o0 o1 o2 o3 z0 z1 z2 z3
     have HB2':Hid (Below W4.heap.size W4 w2):=hB2
     have hsz2:=hB2.size
     clear hB2
     go_region
     all_goals
      go_wp2_with fail
      obtain ⟨X,hX⟩:∃ X,X=(((((w2.setCell ⟨w.heap.size,0,none⟩ (.int .i64 16)).setCell ⟨w.heap.size,1,none⟩ (.slice la ln lc)).setCell ⟨w.heap.size+1,0,none⟩ (.int .i64 0)).setCell ⟨w.heap.size+1,1,none⟩ (.int .i64 0)).setCell ⟨w.heap.size+1,2,none⟩ (.int .i64 0)).drew:=⟨_,rfl⟩
      rw [<- hX]
      obtain ⟨q0,q1,q2,q3,q4,hfx⟩:=five_set w2 w.heap.size (w.heap.size+1) (by omega) (.int .i64 16) (.slice la ln lc) (.int .i64 0) (.int .i64 0) (.int .i64 0) a00 a01 a10 a11 a12 X hX
      refine bodyPost_ret (v:=.tuple #[.agg #[.int .i64 16,.slice la ln lc],.agg #[.int .i64 0,.int .i64 0,.int .i64 0],.int .i64 0]) ?_ rfl ?_
      ·simp [results,Tryz.results68,go_sem,q0,q1,q2,q3,q4]
      ·rw [HFq.out]
       refine ⟨fun h=>absurd HQE.out h,fun _ h=>absurd (HER.out.symm.trans HFE.out) h,fun _ _=>⟨.slice la ln lc,W4.heap.size,by omega,rfl,?_⟩,?_⟩
       ·refine HLL.out.film (by have:=HQI.out;omega) ((F2.out.mono (T:=fun k=>k<W4.heap.size \/ k=b \/ k=W4.heap.size) (fun k _ e=>.inr e)).trans (hfx.mono (fun k _ e=>.inl (by rcases e with e|e <;> omega)))) (fun k e=>e)
       ·exact (HB4.out.trans (HB2'.out.mono (by omega))).trans (hfx.below (by omega) (fun k e=>by rcases e with e|e <;> omega))
    ·have he1:(ER == 0)=false:=by simpa using hfe
     have he2:(ER != 0)=true:=by simpa using hfe
     have HFE:Hid (ER ≠ 0):=hfe
     clear hL hB hfr hqe hER hfe hpn
     go_wp2_with (go_at_call 102;refine HEND.out.mono ?_;rintro e w2 ⟨rfl,h2,f2⟩;have k5:=h2.c5;rw [<- HER.out] at k5;have hB2:=HB2.out w2 f2;clear h2 f2)
     obtain ⟨o0,o1,o2,o3⟩:=box4 w (Obj.cells #[.int .i64 0,.slice none 0 0] 27) (Obj.cells #[.int .i64 0,.int .i64 0,.int .i64 0] 33) (Obj.cells #[.int .i64 0,.slice none 0 0] 27) (Obj.cells #[.int .i64 0,.int .i64 0,.int .i64 0] 33)
     rw [<- HW4.out] at o0 o1 o2 o3
     have z0:=(hB2.block w.heap.size (by omega)).trans o0
     have z1:=(hB2.block (w.heap.size+1) (by omega)).trans o1
     have z2:=(hB2.block (w.heap.size+1+1) (by omega)).trans o2
     have z3:=(hB2.block (w.heap.size+1+1+1) (by omega)).trans o3
     have a00:w2.cell? ⟨w.heap.size,0,none⟩=some (.int .i64 0):=cell_of_row _ _ 0 _ _ _ z0
     have a01:w2.cell? ⟨w.heap.size,1,none⟩=some (.slice none 0 0):=cell_of_row _ _ 1 _ _ _ z0
     have a10:w2.cell? ⟨w.heap.size+1,0,none⟩=some (.int .i64 0):=cell_of_row _ _ 0 _ _ _ z1
     have a11:w2.cell? ⟨w.heap.size+1,1,none⟩=some (.int .i64 0):=cell_of_row _ _ 1 _ _ _ z1
     have a12:w2.cell? ⟨w.heap.size+1,2,none⟩=some (.int .i64 0):=cell_of_row _ _ 2 _ _ _ z1
     have a20:w2.cell? ⟨w.heap.size+1+1,0,none⟩=some (.int .i64 0):=cell_of_row _ _ 0 _ _ _ z2
     have a21:w2.cell? ⟨w.heap.size+1+1,1,none⟩=some (.slice none 0 0):=cell_of_row _ _ 1 _ _ _ z2
     have a30:w2.cell? ⟨w.heap.size+1+1+1,0,none⟩=some (.int .i64 0):=cell_of_row _ _ 0 _ _ _ z3
     have a31:w2.cell? ⟨w.heap.size+1+1+1,1,none⟩=some (.int .i64 0):=cell_of_row _ _ 1 _ _ _ z3
     have a32:w2.cell? ⟨w.heap.size+1+1+1,2,none⟩=some (.int .i64 0):=cell_of_row _ _ 2 _ _ _ z3
     have b00:=frozen_of_row _ _ 0 _ _ z0
     have b01:=frozen_of_row _ _ 1 _ _ z0
     have b10:=frozen_of_row _ _ 0 _ _ z1
     have b11:=frozen_of_row _ _ 1 _ _ z1
     have b12:=frozen_of_row _ _ 2 _ _ z1
     have hpw:w.heap.size+4<=p:=by omega
     clear o0 o1 o2 o3 z0 z1 z2 z3
     have HB2':Hid (Below W4.heap.size W4 w2):=hB2
     have hsz2:=hB2.size
     clear hB2
     go_region
     all_goals
      go_wp2_with fail
      obtain ⟨X,hX⟩:∃ X,X=(((((w2.setCell ⟨w.heap.size,0,none⟩ (.int .i64 0)).setCell ⟨w.heap.size,1,none⟩ (.slice none 0 0)).setCell ⟨w.heap.size+1,0,none⟩ (.int .i64 0)).setCell ⟨w.heap.size+1,1,none⟩ (.int .i64 0)).setCell ⟨w.heap.size+1,2,none⟩ (.int .i64 0)).drew:=⟨_,rfl⟩
      rw [<- hX]
      obtain ⟨q0,q1,q2,q3,q4,hfx⟩:=five_set w2 w.heap.size (w.heap.size+1) (by omega) (.int .i64 0) (.slice none 0 0) (.int .i64 0) (.int .i64 0) (.int .i64 0) a00 a01 a10 a11 a12 X hX
      refine bodyPost_ret (v:=noFilm ER) ?_ rfl ?_
      ·simp [results,Tryz.results68,go_sem,q0,q1,q2,q3,q4,noFilm]
      ·rw [HFq.out]
       refine ⟨fun h=>absurd HQE.out h,fun _ _=>by rw [<- HER.out],fun _ h=>absurd (HER.out.trans h) HFE.out,?_⟩
       exact (HB4.out.trans (HB2'.out.mono (by omega))).trans (hfx.below (by omega) (fun k e=>by rcases e with e|e <;> omega))
   ·have hlt2:=hlt'
    have HLL:Hid (ShL wr W4.heap.size p b W4.heap.size Lv Rv fbs t 16 q):=hL
    have HB:Hid (Below W4.heap.size W4 wr):=hB
    have HFq:Hid (F=q):=by
     rw [<- hfr]
     cases N-i with
     | zero=>rfl
     | succ n=>unfold Flm.frames;rw [if_neg hqe];exact rfl
    have he1:(q.r.err == 0)=false:=by simpa using hqe
    have he2:(q.r.err != 0)=true:=by simpa using hqe
    have HQE:Hid (q.r.err ≠ 0):=hqe
    obtain ⟨o0,o1,o2,o3⟩:=box4 w (Obj.cells #[.int .i64 0,.slice none 0 0] 27) (Obj.cells #[.int .i64 0,.int .i64 0,.int .i64 0] 33) (Obj.cells #[.int .i64 0,.slice none 0 0] 27) (Obj.cells #[.int .i64 0,.int .i64 0,.int .i64 0] 33)
    rw [<- HW4.out] at o0 o1 o2 o3
    have z0:=(hB.block w.heap.size (by omega)).trans o0
    have z1:=(hB.block (w.heap.size+1) (by omega)).trans o1
    have z2:=(hB.block (w.heap.size+1+1) (by omega)).trans o2
    have z3:=(hB.block (w.heap.size+1+1+1) (by omega)).trans o3
    have a00:wr.cell? ⟨w.heap.size,0,none⟩=some (.int .i64 0):=cell_of_row _ _ 0 _ _ _ z0
    have a01:wr.cell? ⟨w.heap.size,1,none⟩=some (.slice none 0 0):=cell_of_row _ _ 1 _ _ _ z0
    have a10:wr.cell? ⟨w.heap.size+1,0,none⟩=some (.int .i64 0):=cell_of_row _ _ 0 _ _ _ z1
    have a11:wr.cell? ⟨w.heap.size+1,1,none⟩=some (.int .i64 0):=cell_of_row _ _ 1 _ _ _ z1
    have a12:wr.cell? ⟨w.heap.size+1,2,none⟩=some (.int .i64 0):=cell_of_row _ _ 2 _ _ _ z1
    have a20:wr.cell? ⟨w.heap.size+1+1,0,none⟩=some (.int .i64 0):=cell_of_row _ _ 0 _ _ _ z2
    have a21:wr.cell? ⟨w.heap.size+1+1,1,none⟩=some (.slice none 0 0):=cell_of_row _ _ 1 _ _ _ z2
    have a30:wr.cell? ⟨w.heap.size+1+1+1,0,none⟩=some (.int .i64 0):=cell_of_row _ _ 0 _ _ _ z3
    have a31:wr.cell? ⟨w.heap.size+1+1+1,1,none⟩=some (.int .i64 0):=cell_of_row _ _ 1 _ _ _ z3
    have a32:wr.cell? ⟨w.heap.size+1+1+1,2,none⟩=some (.int .i64 0):=cell_of_row _ _ 2 _ _ _ z3
    have b00:=frozen_of_row _ _ 0 _ _ z0
    have b01:=frozen_of_row _ _ 1 _ _ z0
    have b10:=frozen_of_row _ _ 0 _ _ z1
    have b11:=frozen_of_row _ _ 1 _ _ z1
    have b12:=frozen_of_row _ _ 2 _ _ z1
    have hpw:w.heap.size+4<=p:=by omega
    clear o0 o1 o2 o3 z0 z1 z2 z3
    have c4:=hL.c4
    have c5:=hL.c5
    have c6:=hL.c6
    obtain ⟨ER,hER⟩:∃ ER,ER=q.r.err:=⟨_,rfl⟩
    obtain ⟨FR,hFR⟩:∃ FR,FR=q.fr:=⟨_,rfl⟩
    obtain ⟨FX,hFX⟩:∃ FX,FX=q.x:=⟨_,rfl⟩
    obtain ⟨FY,hFY⟩:∃ FY,FY=q.y:=⟨_,rfl⟩
    rw [<- hER] at j5 he1 he2
    rw [<- hFR] at c4
    rw [<- hFX] at c5
    rw [<- hFY] at c6
    have HER:Hid (ER=q.r.err/\FR=q.fr/\FX=q.x/\FY=q.y):=⟨hER,hFR,hFX,hFY⟩
    clear hL hB hfr hqe hER hFR hFX hFY
    go_wp2_with fail
    go_region
    all_goals
     go_wp2_with fail
     obtain ⟨X,hX⟩:∃ X,X=(((((wr.setCell ⟨w.heap.size,0,none⟩ (.int .i64 0)).setCell ⟨w.heap.size,1,none⟩ (.slice none 0 0)).setCell ⟨w.heap.size+1,0,none⟩ (.int .i64 FR)).setCell ⟨w.heap.size+1,1,none⟩ (.int .i64 FX)).setCell ⟨w.heap.size+1,2,none⟩ (.int .i64 FY)).drew:=⟨_,rfl⟩
     rw [<- hX]
     obtain ⟨q0,q1,q2,q3,q4,hfx⟩:=five_set wr w.heap.size (w.heap.size+1) (by omega) (.int .i64 0) (.slice none 0 0) (.int .i64 FR) (.int .i64 FX) (.int .i64 FY) a00 a01 a10 a11 a12 X hX
     refine bodyPost_ret (v:=.tuple #[.agg #[.int .i64 0,.slice none 0 0],.agg #[.int .i64 FR,.int .i64 FX,.int .i64 FY],.int .i64 ER]) ?_ rfl ?_
     ·simp [results,Tryz.results68,go_sem,q0,q1,q2,q3,q4]
     ·rw [HFq.out]
      obtain ⟨e1,e2,e3,e4⟩:=HER.out
      refine ⟨fun _=>by rw [e1,e2,e3,e4],fun h=>absurd h HQE.out,fun h=>absurd h HQE.out,?_⟩
      exact (HB4.out.trans (HB.out.mono (by omega))).trans (hfx.below (by have:=HB.out.size;omega) (fun k e=>by rcases e with e|e <;> omega))
end
section
open Go.RowKit
open Flm (Px FS)
set_option maxRecDepth 20000 in
theorem dec_bad4 (w:World) (s t:ByteArray) (hs:s.size<=120000) (h4:4<=s.size) (h0:((s[0]'(by omega)).toNat:Int)=70) (h1:((s[1]'(by omega)).toNat:Int)=66) (h2:((s[2]'(by omega)).toNat:Int)=4) (N:Nat) (h3:((s[3]'(by omega)).toNat:Int)=N) (hN:N<=8) (ht:s.extract 4 s.size=t) (he:(Rdr.start t ch0).err ≠ 0) :
  Calls Tryz.prog 68 #[.string s] w fun x w'=>x=.returned (noFilm (Rdr.start t ch0).err)/\Below w.heap.size w w':=by
 have hs':(s.size:Int)<=120000:=by omega
 have h4':(4:Int)<=(s.size:Int):=by omega
 have hN':(N:Int)<=8:=by omega
 have hts:t.size<=maxLen:=by rw [<- ht];simp;unfold maxLen;omega
 obtain ⟨ER,hER⟩:∃ ER,ER=(Rdr.start t ch0).err:=⟨_,rfl⟩
 rw [<- hER] at he ⊢
 have he1:(ER == 0)=false:=by simpa using he
 have he2:(ER != 0)=true:=by simpa using he
 have HER:Hid (ER=(Rdr.start t ch0).err):=hER
 clear he hER
 obtain ⟨W4,hW4⟩:∃ W4,W4=((((w.alloc (Obj.cells #[.int .i64 0,.slice none 0 0] 27)).alloc (Obj.cells #[.int .i64 0,.int .i64 0,.int .i64 0] 33)).alloc (Obj.cells #[.int .i64 0,.slice none 0 0] 27)).alloc (Obj.cells #[.int .i64 0,.int .i64 0,.int .i64 0] 33)):=⟨_,rfl⟩
 have hsz4:W4.heap.size=w.heap.size+4:=by rw [hW4];simp
 have HB4:Hid (Below w.heap.size w W4):=by rw [hW4];exact (((((Below.refl _ w).alloc (Nat.le_refl _) _).alloc (by simp) _).alloc (by simp;omega) _).alloc (by simp;omega) _)
 have HW4:Hid (W4=((((w.alloc (Obj.cells #[.int .i64 0,.slice none 0 0] 27)).alloc (Obj.cells #[.int .i64 0,.int .i64 0,.int .i64 0] 33)).alloc (Obj.cells #[.int .i64 0,.slice none 0 0] 27)).alloc (Obj.cells #[.int .i64 0,.int .i64 0,.int .i64 0] 33))):=hW4
 clear hW4
 go_enter Tryz.func68,Tryz.ntmps68
 go_wp2_with (go_at_call 100;rw [<- HW4.out];refine (newReader _ t hts).mono ?_;rintro e wr ⟨b,rfl,hr1,hB⟩;have i5:=hr1.c5;rw [<- HER.out] at i5)
 obtain ⟨o0,o1,o2,o3⟩:=box4 w (Obj.cells #[.int .i64 0,.slice none 0 0] 27) (Obj.cells #[.int .i64 0,.int .i64 0,.int .i64 0] 33) (Obj.cells #[.int .i64 0,.slice none 0 0] 27) (Obj.cells #[.int .i64 0,.int .i64 0,.int .i64 0] 33)
 rw [<- HW4.out] at o0 o1 o2 o3
 have z0:=(hB.block w.heap.size (by omega)).trans o0
 have z1:=(hB.block (w.heap.size+1) (by omega)).trans o1
 have z2:=(hB.block (w.heap.size+1+1) (by omega)).trans o2
 have z3:=(hB.block (w.heap.size+1+1+1) (by omega)).trans o3
 have a00:wr.cell? ⟨w.heap.size,0,none⟩=some (.int .i64 0):=cell_of_row _ _ 0 _ _ _ z0
 have a01:wr.cell? ⟨w.heap.size,1,none⟩=some (.slice none 0 0):=cell_of_row _ _ 1 _ _ _ z0
 have a10:wr.cell? ⟨w.heap.size+1,0,none⟩=some (.int .i64 0):=cell_of_row _ _ 0 _ _ _ z1
 have a11:wr.cell? ⟨w.heap.size+1,1,none⟩=some (.int .i64 0):=cell_of_row _ _ 1 _ _ _ z1
 have a12:wr.cell? ⟨w.heap.size+1,2,none⟩=some (.int .i64 0):=cell_of_row _ _ 2 _ _ _ z1
 have a20:wr.cell? ⟨w.heap.size+1+1,0,none⟩=some (.int .i64 0):=cell_of_row _ _ 0 _ _ _ z2
 have a21:wr.cell? ⟨w.heap.size+1+1,1,none⟩=some (.slice none 0 0):=cell_of_row _ _ 1 _ _ _ z2
 have a30:wr.cell? ⟨w.heap.size+1+1+1,0,none⟩=some (.int .i64 0):=cell_of_row _ _ 0 _ _ _ z3
 have a31:wr.cell? ⟨w.heap.size+1+1+1,1,none⟩=some (.int .i64 0):=cell_of_row _ _ 1 _ _ _ z3
 have a32:wr.cell? ⟨w.heap.size+1+1+1,2,none⟩=some (.int .i64 0):=cell_of_row _ _ 2 _ _ _ z3
 have b00:=frozen_of_row _ _ 0 _ _ z0
 have b01:=frozen_of_row _ _ 1 _ _ z0
 have b10:=frozen_of_row _ _ 0 _ _ z1
 have b11:=frozen_of_row _ _ 1 _ _ z1
 have b12:=frozen_of_row _ _ 2 _ _ z1
 clear o0 o1 o2 o3 z0 z1 z2 z3
 have HB:Hid (Below W4.heap.size W4 wr):=hB
 have hsz2:=hB.size
 clear hB hr1
 go_region
 all_goals
  go_wp2_with fail
  obtain ⟨X,hX⟩:∃ X,X=(((((wr.setCell ⟨w.heap.size,0,none⟩ (.int .i64 0)).setCell ⟨w.heap.size,1,none⟩ (.slice none 0 0)).setCell ⟨w.heap.size+1,0,none⟩ (.int .i64 0)).setCell ⟨w.heap.size+1,1,none⟩ (.int .i64 0)).setCell ⟨w.heap.size+1,2,none⟩ (.int .i64 0)).drew:=⟨_,rfl⟩
  rw [<- hX]
  obtain ⟨q0,q1,q2,q3,q4,hfx⟩:=five_set wr w.heap.size (w.heap.size+1) (by omega) (.int .i64 0) (.slice none 0 0) (.int .i64 0) (.int .i64 0) (.int .i64 0) a00 a01 a10 a11 a12 X hX
  refine bodyPost_ret (v:=noFilm ER) ?_ rfl ?_
  ·simp [results,Tryz.results68,go_sem,q0,q1,q2,q3,q4,noFilm]
  ·refine ⟨rfl,?_⟩
   exact (HB4.out.trans (HB.out.mono (by omega))).trans (hfx.below (by omega) (fun k e=>by rcases e with e|e <;> omega))
set_option maxRecDepth 20000 in
theorem dec_bad8 (w:World) (s t:ByteArray) (hs:s.size<=120000) (h4:4<=s.size) (h0:((s[0]'(by omega)).toNat:Int)=70) (h1:((s[1]'(by omega)).toNat:Int)=66) (h2:((s[2]'(by omega)).toNat:Int)=8) (N:Nat) (h3:((s[3]'(by omega)).toNat:Int)=N) (hN:N<=8) (ht:s.extract 4 s.size=t) (he:(Rdr.start t ch0).err ≠ 0) :
  Calls Tryz.prog 68 #[.string s] w fun x w'=>x=.returned (noFilm (Rdr.start t ch0).err)/\Below w.heap.size w w':=by
 have hs':(s.size:Int)<=120000:=by omega
 have h4':(4:Int)<=(s.size:Int):=by omega
 have hN':(N:Int)<=8:=by omega
 have hts:t.size<=maxLen:=by rw [<- ht];simp;unfold maxLen;omega
 obtain ⟨ER,hER⟩:∃ ER,ER=(Rdr.start t ch0).err:=⟨_,rfl⟩
 rw [<- hER] at he ⊢
 have he1:(ER == 0)=false:=by simpa using he
 have he2:(ER != 0)=true:=by simpa using he
 have HER:Hid (ER=(Rdr.start t ch0).err):=hER
 clear he hER
 obtain ⟨W4,hW4⟩:∃ W4,W4=((((w.alloc (Obj.cells #[.int .i64 0,.slice none 0 0] 27)).alloc (Obj.cells #[.int .i64 0,.int .i64 0,.int .i64 0] 33)).alloc (Obj.cells #[.int .i64 0,.slice none 0 0] 27)).alloc (Obj.cells #[.int .i64 0,.int .i64 0,.int .i64 0] 33)):=⟨_,rfl⟩
 have hsz4:W4.heap.size=w.heap.size+4:=by rw [hW4];simp
 have HB4:Hid (Below w.heap.size w W4):=by rw [hW4];exact (((((Below.refl _ w).alloc (Nat.le_refl _) _).alloc (by simp) _).alloc (by simp;omega) _).alloc (by simp;omega) _)
 have HW4:Hid (W4=((((w.alloc (Obj.cells #[.int .i64 0,.slice none 0 0] 27)).alloc (Obj.cells #[.int .i64 0,.int .i64 0,.int .i64 0] 33)).alloc (Obj.cells #[.int .i64 0,.slice none 0 0] 27)).alloc (Obj.cells #[.int .i64 0,.int .i64 0,.int .i64 0] 33))):=hW4
 clear hW4
 go_enter Tryz.func68,Tryz.ntmps68
 go_wp2_with (go_at_call 100;rw [<- HW4.out];refine (newReader _ t hts).mono ?_;rintro e wr ⟨b,rfl,hr1,hB⟩;have i5:=hr1.c5;rw [<- HER.out] at i5)
 obtain ⟨o0,o1,o2,o3⟩:=box4 w (Obj.cells #[.int .i64 0,.slice none 0 0] 27) (Obj.cells #[.int .i64 0,.int .i64 0,.int .i64 0] 33) (Obj.cells #[.int .i64 0,.slice none 0 0] 27) (Obj.cells #[.int .i64 0,.int .i64 0,.int .i64 0] 33)
 rw [<- HW4.out] at o0 o1 o2 o3
 have z0:=(hB.block w.heap.size (by omega)).trans o0
 have z1:=(hB.block (w.heap.size+1) (by omega)).trans o1
 have z2:=(hB.block (w.heap.size+1+1) (by omega)).trans o2
 have z3:=(hB.block (w.heap.size+1+1+1) (by omega)).trans o3
 have a00:wr.cell? ⟨w.heap.size,0,none⟩=some (.int .i64 0):=cell_of_row _ _ 0 _ _ _ z0
 have a01:wr.cell? ⟨w.heap.size,1,none⟩=some (.slice none 0 0):=cell_of_row _ _ 1 _ _ _ z0
 have a10:wr.cell? ⟨w.heap.size+1,0,none⟩=some (.int .i64 0):=cell_of_row _ _ 0 _ _ _ z1
 have a11:wr.cell? ⟨w.heap.size+1,1,none⟩=some (.int .i64 0):=cell_of_row _ _ 1 _ _ _ z1
 have a12:wr.cell? ⟨w.heap.size+1,2,none⟩=some (.int .i64 0):=cell_of_row _ _ 2 _ _ _ z1
 have a20:wr.cell? ⟨w.heap.size+1+1,0,none⟩=some (.int .i64 0):=cell_of_row _ _ 0 _ _ _ z2
 have a21:wr.cell? ⟨w.heap.size+1+1,1,none⟩=some (.slice none 0 0):=cell_of_row _ _ 1 _ _ _ z2
 have a30:wr.cell? ⟨w.heap.size+1+1+1,0,none⟩=some (.int .i64 0):=cell_of_row _ _ 0 _ _ _ z3
 have a31:wr.cell? ⟨w.heap.size+1+1+1,1,none⟩=some (.int .i64 0):=cell_of_row _ _ 1 _ _ _ z3
 have a32:wr.cell? ⟨w.heap.size+1+1+1,2,none⟩=some (.int .i64 0):=cell_of_row _ _ 2 _ _ _ z3
 have b00:=frozen_of_row _ _ 0 _ _ z0
 have b01:=frozen_of_row _ _ 1 _ _ z0
 have b10:=frozen_of_row _ _ 0 _ _ z1
 have b11:=frozen_of_row _ _ 1 _ _ z1
 have b12:=frozen_of_row _ _ 2 _ _ z1
 clear o0 o1 o2 o3 z0 z1 z2 z3
 have HB:Hid (Below W4.heap.size W4 wr):=hB
 have hsz2:=hB.size
 clear hB hr1
 go_region
 all_goals
  go_wp2_with fail
  obtain ⟨X,hX⟩:∃ X,X=(((((wr.setCell ⟨w.heap.size,0,none⟩ (.int .i64 0)).setCell ⟨w.heap.size,1,none⟩ (.slice none 0 0)).setCell ⟨w.heap.size+1,0,none⟩ (.int .i64 0)).setCell ⟨w.heap.size+1,1,none⟩ (.int .i64 0)).setCell ⟨w.heap.size+1,2,none⟩ (.int .i64 0)).drew:=⟨_,rfl⟩
  rw [<- hX]
  obtain ⟨q0,q1,q2,q3,q4,hfx⟩:=five_set wr w.heap.size (w.heap.size+1) (by omega) (.int .i64 0) (.slice none 0 0) (.int .i64 0) (.int .i64 0) (.int .i64 0) a00 a01 a10 a11 a12 X hX
  refine bodyPost_ret (v:=noFilm ER) ?_ rfl ?_
  ·simp [results,Tryz.results68,go_sem,q0,q1,q2,q3,q4,noFilm]
  ·refine ⟨rfl,?_⟩
   exact (HB4.out.trans (HB.out.mono (by omega))).trans (hfx.below (by omega) (fun k e=>by rcases e with e|e <;> omega))
set_option maxRecDepth 20000 in
theorem dec_bad16 (w:World) (s t:ByteArray) (hs:s.size<=120000) (h4:4<=s.size) (h0:((s[0]'(by omega)).toNat:Int)=70) (h1:((s[1]'(by omega)).toNat:Int)=66) (h2:((s[2]'(by omega)).toNat:Int)=16) (N:Nat) (h3:((s[3]'(by omega)).toNat:Int)=N) (hN:N<=8) (ht:s.extract 4 s.size=t) (he:(Rdr.start t ch0).err ≠ 0) :
  Calls Tryz.prog 68 #[.string s] w fun x w'=>x=.returned (noFilm (Rdr.start t ch0).err)/\Below w.heap.size w w':=by
 have hs':(s.size:Int)<=120000:=by omega
 have h4':(4:Int)<=(s.size:Int):=by omega
 have hN':(N:Int)<=8:=by omega
 have hts:t.size<=maxLen:=by rw [<- ht];simp;unfold maxLen;omega
 obtain ⟨ER,hER⟩:∃ ER,ER=(Rdr.start t ch0).err:=⟨_,rfl⟩
 rw [<- hER] at he ⊢
 have he1:(ER == 0)=false:=by simpa using he
 have he2:(ER != 0)=true:=by simpa using he
 have HER:Hid (ER=(Rdr.start t ch0).err):=hER
 clear he hER
 obtain ⟨W4,hW4⟩:∃ W4,W4=((((w.alloc (Obj.cells #[.int .i64 0,.slice none 0 0] 27)).alloc (Obj.cells #[.int .i64 0,.int .i64 0,.int .i64 0] 33)).alloc (Obj.cells #[.int .i64 0,.slice none 0 0] 27)).alloc (Obj.cells #[.int .i64 0,.int .i64 0,.int .i64 0] 33)):=⟨_,rfl⟩
 have hsz4:W4.heap.size=w.heap.size+4:=by rw [hW4];simp
 have HB4:Hid (Below w.heap.size w W4):=by rw [hW4];exact (((((Below.refl _ w).alloc (Nat.le_refl _) _).alloc (by simp) _).alloc (by simp;omega) _).alloc (by simp;omega) _)
 have HW4:Hid (W4=((((w.alloc (Obj.cells #[.int .i64 0,.slice none 0 0] 27)).alloc (Obj.cells #[.int .i64 0,.int .i64 0,.int .i64 0] 33)).alloc (Obj.cells #[.int .i64 0,.slice none 0 0] 27)).alloc (Obj.cells #[.int .i64 0,.int .i64 0,.int .i64 0] 33))):=hW4
 clear hW4
 go_enter Tryz.func68,Tryz.ntmps68
 go_wp2_with (go_at_call 100;rw [<- HW4.out];refine (newReader _ t hts).mono ?_;rintro e wr ⟨b,rfl,hr1,hB⟩;have i5:=hr1.c5;rw [<- HER.out] at i5)
 obtain ⟨o0,o1,o2,o3⟩:=box4 w (Obj.cells #[.int .i64 0,.slice none 0 0] 27) (Obj.cells #[.int .i64 0,.int .i64 0,.int .i64 0] 33) (Obj.cells #[.int .i64 0,.slice none 0 0] 27) (Obj.cells #[.int .i64 0,.int .i64 0,.int .i64 0] 33)
 rw [<- HW4.out] at o0 o1 o2 o3
 have z0:=(hB.block w.heap.size (by omega)).trans o0
 have z1:=(hB.block (w.heap.size+1) (by omega)).trans o1
 have z2:=(hB.block (w.heap.size+1+1) (by omega)).trans o2
 have z3:=(hB.block (w.heap.size+1+1+1) (by omega)).trans o3
 have a00:wr.cell? ⟨w.heap.size,0,none⟩=some (.int .i64 0):=cell_of_row _ _ 0 _ _ _ z0
 have a01:wr.cell? ⟨w.heap.size,1,none⟩=some (.slice none 0 0):=cell_of_row _ _ 1 _ _ _ z0
 have a10:wr.cell? ⟨w.heap.size+1,0,none⟩=some (.int .i64 0):=cell_of_row _ _ 0 _ _ _ z1
 have a11:wr.cell? ⟨w.heap.size+1,1,none⟩=some (.int .i64 0):=cell_of_row _ _ 1 _ _ _ z1
 have a12:wr.cell? ⟨w.heap.size+1,2,none⟩=some (.int .i64 0):=cell_of_row _ _ 2 _ _ _ z1
 have a20:wr.cell? ⟨w.heap.size+1+1,0,none⟩=some (.int .i64 0):=cell_of_row _ _ 0 _ _ _ z2
 have a21:wr.cell? ⟨w.heap.size+1+1,1,none⟩=some (.slice none 0 0):=cell_of_row _ _ 1 _ _ _ z2
 have a30:wr.cell? ⟨w.heap.size+1+1+1,0,none⟩=some (.int .i64 0):=cell_of_row _ _ 0 _ _ _ z3
 have a31:wr.cell? ⟨w.heap.size+1+1+1,1,none⟩=some (.int .i64 0):=cell_of_row _ _ 1 _ _ _ z3
 have a32:wr.cell? ⟨w.heap.size+1+1+1,2,none⟩=some (.int .i64 0):=cell_of_row _ _ 2 _ _ _ z3
 have b00:=frozen_of_row _ _ 0 _ _ z0
 have b01:=frozen_of_row _ _ 1 _ _ z0
 have b10:=frozen_of_row _ _ 0 _ _ z1
 have b11:=frozen_of_row _ _ 1 _ _ z1
 have b12:=frozen_of_row _ _ 2 _ _ z1
 clear o0 o1 o2 o3 z0 z1 z2 z3
 have HB:Hid (Below W4.heap.size W4 wr):=hB
 have hsz2:=hB.size
 clear hB hr1
 go_region
 all_goals
  go_wp2_with fail
  obtain ⟨X,hX⟩:∃ X,X=(((((wr.setCell ⟨w.heap.size,0,none⟩ (.int .i64 0)).setCell ⟨w.heap.size,1,none⟩ (.slice none 0 0)).setCell ⟨w.heap.size+1,0,none⟩ (.int .i64 0)).setCell ⟨w.heap.size+1,1,none⟩ (.int .i64 0)).setCell ⟨w.heap.size+1,2,none⟩ (.int .i64 0)).drew:=⟨_,rfl⟩
  rw [<- hX]
  obtain ⟨q0,q1,q2,q3,q4,hfx⟩:=five_set wr w.heap.size (w.heap.size+1) (by omega) (.int .i64 0) (.slice none 0 0) (.int .i64 0) (.int .i64 0) (.int .i64 0) a00 a01 a10 a11 a12 X hX
  refine bodyPost_ret (v:=noFilm ER) ?_ rfl ?_
  ·simp [results,Tryz.results68,go_sem,q0,q1,q2,q3,q4,noFilm]
  ·refine ⟨rfl,?_⟩
   exact (HB4.out.trans (HB.out.mono (by omega))).trans (hfx.below (by omega) (fun k e=>by rcases e with e|e <;> omega))
noncomputable def Flm.fin (t:ByteArray) (z:Nat) (F:FS):Option (Nat × List (List Px)) × Px × Int :=
 if F.r.err=0 then (if (Rdr.finish t F.r).err=0 then (some (z,F.frs),(0,0,0),0) else (none,(0,0,0),(Rdr.finish t F.r).err)) else (none,(F.fr,F.x,F.y),F.r.err)
open Classical in
noncomputable def Flm.decode (s:ByteArray):Option (Nat × List (List Px)) × Px × Int :=
 if 120000<s.size then (none,(0,0,0),1)
 else if HeadOk s then
  let t:=s.extract 4 s.size
  let z:=(Rdr.byteAt s 2).toNat
  if (Rdr.start t ch0).err=0 then Flm.fin t z (Flm.frames t z (Rdr.byteAt s 3).toNat ⟨Rdr.start t ch0,[],[],0,0,0⟩) else (none,(0,0,0),(Rdr.start t ch0).err)
 else (none,(0,0,0),4)
def DecAns (w:World) (d:Option (Nat × List (List Px)) × Px × Int) (x:Ending) (w':World):Prop :=
 (match d.1 with
  | some f=>∃ Lv B,w.heap.size<=B/\x=.returned (.tuple #[.agg #[.int .i64 f.1,Lv],.agg #[.int .i64 0,.int .i64 0,.int .i64 0],.int .i64 0])/\FilmAt w' B Lv f.1 f.2
  | none=>x=.returned (.tuple #[.agg #[.int .i64 0,.slice none 0 0],.agg #[.int .i64 d.2.1.1,.int .i64 d.2.1.2.1,.int .i64 d.2.1.2.2],.int .i64 d.2.2]))/\Below w.heap.size w w'
theorem DecPost.ans {w:World} {t:ByteArray} {z:Nat} {F:FS} {x:Ending} {w':World} (h:DecPost w t z F x w'):DecAns w (Flm.fin t z F) x w':=by
 obtain ⟨h1,h2,h3,h4⟩:=h
 unfold Flm.fin
 by_cases he:F.r.err=0
 ·rw [if_pos he]
  by_cases hf:(Rdr.finish t F.r).err=0
  ·rw [if_pos hf]
   obtain ⟨Lv,B,k1,k2,k3⟩:=h3 he hf
   exact ⟨⟨Lv,B,k1,k2,k3⟩,h4⟩
  ·rw [if_neg hf]
   exact ⟨h2 he hf,h4⟩
 ·rw [if_neg he]
  exact ⟨h1 he,h4⟩
theorem refDecode (w:World) (s:ByteArray) :
  Calls Tryz.prog 68 #[.string s] w fun x w'=>DecAns w (Flm.decode s) x w':=by
 unfold Flm.decode
 by_cases hl:120000<s.size
 ·rw [if_pos hl]
  exact (dec_long w s hl).mono fun x w' h=>⟨h.1,h.2⟩
 rw [if_neg hl]
 by_cases hh:HeadOk s
 ·rw [if_pos hh]
  obtain ⟨h4,h0,h1,h2,h3⟩:=hh
  obtain ⟨t,ht⟩:∃ t,s.extract 4 s.size=t:=⟨_,rfl⟩
  dsimp only
  rw [ht]
  have b0:=byteAt_get s 0 (by omega)
  have b1:=byteAt_get s 1 (by omega)
  have b2:=byteAt_get s 2 (by omega)
  have b3:=byteAt_get s 3 (by omega)
  obtain ⟨N,hN⟩:∃ N:Nat,N=(Rdr.byteAt s 3).toNat:=⟨_,rfl⟩
  have hbd:=Rdr.byteAt_bd s 3
  have hN3:((s[3]'(by omega)).toNat:Int)=N:=by omega
  rw [<- hN]
  by_cases he:(Rdr.start t ch0).err=0
  ·rw [if_pos he]
   rcases h2 with h2|h2|h2
   ·rw [h2]
    exact (dec_ok4 w s t (by omega) h4 (b0.symm.trans h0) (b1.symm.trans h1) (b2.symm.trans h2) N hN3 (by omega) ht he).mono fun x w' h=>h.ans
   ·rw [h2]
    exact (dec_ok8 w s t (by omega) h4 (b0.symm.trans h0) (b1.symm.trans h1) (b2.symm.trans h2) N hN3 (by omega) ht he).mono fun x w' h=>h.ans
   ·rw [h2]
    exact (dec_ok16 w s t (by omega) h4 (b0.symm.trans h0) (b1.symm.trans h1) (b2.symm.trans h2) N hN3 (by omega) ht he).mono fun x w' h=>h.ans
  ·rw [if_neg he]
   rcases h2 with h2|h2|h2
   ·exact (dec_bad4 w s t (by omega) h4 (b0.symm.trans h0) (b1.symm.trans h1) (b2.symm.trans h2) N hN3 (by omega) ht he).mono fun x w' h=>⟨h.1,h.2⟩
   ·exact (dec_bad8 w s t (by omega) h4 (b0.symm.trans h0) (b1.symm.trans h1) (b2.symm.trans h2) N hN3 (by omega) ht he).mono fun x w' h=>⟨h.1,h.2⟩
   ·exact (dec_bad16 w s t (by omega) h4 (b0.symm.trans h0) (b1.symm.trans h1) (b2.symm.trans h2) N hN3 (by omega) ht he).mono fun x w' h=>⟨h.1,h.2⟩
 ·rw [if_neg hh]
  exact (dec_head w s (by omega) hh).mono fun x w' h=>⟨h.1,h.2⟩
end
end Go.Proofs.YtekfbphnoibnjaaGreatDoor
