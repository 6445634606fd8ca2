/-
  The document's reader at a line's begin and at its end. An append that leaves what it was made of as it was: the old slice still owns its elements, the new one lies with it or in new memory. The caller's book: a list of numbers is written over with a mark of its own, and appended to. A list of bits is lent, with room behind it. What stands between two steps of a script of lines: the caller's book, all that is marked, all that waits; who owns which block. The caller's book, whatever its lists hold: a list is written over with a mark of its own, and appended to. What == and != of pixels and of three numbers come to: all three parts are the same. A pixel of a frame, out of memory.
-/
import Derived.Test.YtekfbphnoibnjaaGreatDoorF01
import Derived.ArgAppend
import Derived.Deep.RegionHeld3
import Derived.Deep.RegionLaw
import Derived.BigRegion
import Derived.Deep.AppendLies
import Derived.Laws.CopyOwn
import Derived.Lib.SliceRun
import Derived.Test.YtekfbphnoibnjaaGreatDoorRows
import Derived.WalkKit
import Derived.ChangeKeysEq
import Derived.RegionTactic
import Derived.ChangeAlike
namespace Go.Proofs.YtekfbphnoibnjaaGreatDoor
open Go.RowKit
set_option maxHeartbeats 1000000 in
theorem newReader (w : World) (s : ByteArray) (hs : s.size <= maxLen) :
  Calls Tryz.prog 100 #[.string s] w fun x w' => ∃ b,x = .returned (.pointer (some ⟨b,0,none⟩)) /\ RdAt w' w.heap.size b w.heap.size s (Rdr.start s ch0) /\ Below w.heap.size w w':=by
 go_enter Tryz.func100,Tryz.ntmps100
 go_wp2_with (go_at_call 94; refine (chances_any _).mono ?_; rintro e w1 ⟨rfl,hn,hb⟩)
 have hl:=hn.lt
 have HR : RdAt (w1.alloc (.cells #[.string s,.int .i64 0,.int .i64 4294967295,.int .i64 0,.slice (some ⟨w.heap.size,0,none⟩) 400 400,.int .i64 0] 188)) w.heap.size w1.heap.size w.heap.size s (Rdr.r0 ch0) :=
  ⟨by simp,by simp [Rdr.r0],by simp [Rdr.r0],by simp [Rdr.r0],by simp,by simp [Rdr.r0],fun o => by simp,World.ownsRow.alloc hn _,by omega,by omega,by simp⟩
 have HB : Below w.heap.size w (w1.alloc (.cells #[.string s,.int .i64 0,.int .i64 4294967295,.int .i64 0,.slice (some ⟨w.heap.size,0,none⟩) 400 400,.int .i64 0] 188)):=hb.alloc hb.size _
 obtain ⟨rb,hrb⟩ : ∃ rb,rb = w1.heap.size:=⟨_,rfl⟩
 have hlo : w.heap.size <= rb:=by rw [hrb]; exact hb.size
 rw [<- hrb] at HR ⊢
 clear hrb hl hn hb
 go_loopw [4,5] (fun i _ wr => ∃ k : Nat,k <= 4 /\ i = .int .i64 k /\ RdAt wr w.heap.size rb w.heap.size s (Rdr.four s (Rdr.r0 ch0) k) /\ Below w.heap.size w wr) (fun i _ _ => 4 - (intOf i).toNat)
 case atStart => exact ⟨0,by omega,rfl,HR,HB⟩
 case round =>
  clear HR HB
  obtain ⟨k,hk,rfl,hr,hbr⟩:=hrel
  obtain ⟨h1,h2,h3,h4,h5,h6⟩:=Rdr.four_facts s ch0 k
  have i3:=hr.c3
  have i5:=hr.c5
  have f3:=hr.fz 3
  by_cases hlt : k < 4
  ·have hlt' : (k : Int) < 4:=by omega
   have hcode : (Rdr.four s (Rdr.r0 ch0) k).code <= 16777215:=by
    rcases (by omega : k = 0 \/ k = 1 \/ k = 2 \/ k = 3) with rfl | rfl | rfl | rfl <;> omega
   obtain ⟨q,hq⟩ : ∃ q,q = Rdr.four s (Rdr.r0 ch0) k:=⟨_,rfl⟩
   have hsucc : Hid (Rdr.four s (Rdr.r0 ch0) (k + 1) = { Rdr.octS s q with code:=256 * q.code + Rdr.octB s q }):=by rw [hq]; rfl
   rw [<- hq] at hr h1 h5 hcode i3 i5
   clear hq h2 h3 h4 h6
   go_wp2_with (go_at_call 127; refine (roctet _ w.heap.size rb w.heap.size s q hr h1 hs).mono ?_; rintro x w2 ⟨rfl,g1,g2⟩; have j3:=g1.c3; rw [octS_code] at j3; have e3:=g1.fz 3; have hob:=octB_bd s q)
   go_roundw
   case rel => exact ⟨k + 1,by omega,by go_num,by rw [hsucc.out]; exact g1.put3 _,(hbr.trans (g2.below hbr.size (fun j hj => by rcases hj with rfl | rfl <;> omega))).setCell hlo _⟩
   case measure => simp [intOf]; omega
  ·obtain rfl : k = 4:=by omega
   by_cases he : (Rdr.four s (Rdr.r0 ch0) 4).err = 0
   ·have HE : Hid ((Rdr.four s (Rdr.r0 ch0) 4).err = 0):=he
    rw [he] at i5
    clear he
    by_cases hc : 4294967295 <= (Rdr.four s (Rdr.r0 ch0) 4).code
    ·go_wp2_with (go_at_call 128; refine (rfail _ w.heap.size rb w.heap.size s _ 7 hr).mono ?_; rintro x w2 ⟨rfl,g1,g2⟩)
     go_ret
     exact ⟨rb,rfl,by rw [Rdr.start_eq,if_pos ⟨HE.out,hc⟩]; exact g1,hbr.trans (g2.below hbr.size (fun j hj => by rcases hj with rfl | rfl <;> omega))⟩
    ·go_wp2
     go_ret
     exact ⟨rb,rfl,by rw [Rdr.start_eq,if_neg (fun e => by omega)]; exact hr,hbr⟩
   ·have HE : Hid (¬ (Rdr.four s (Rdr.r0 ch0) 4).err = 0):=he
    have hd : ((Rdr.four s (Rdr.r0 ch0) 4).err == 0) = false:=by simpa using he
    clear he
    go_wp2
    go_ret
    exact ⟨rb,rfl,by rw [Rdr.start_eq,if_neg (fun e => HE.out e.1)]; exact hr,hbr⟩
set_option maxHeartbeats 400000 in
theorem rend (w : World) (B b g : Nat) (s : ByteArray) (r : RS) (h : RdAt w B b g s r) :
  Calls Tryz.prog 102 #[.pointer (some ⟨b,0,none⟩)] w fun x w' => x = .returned (.tuple #[]) /\ RdAt w' B b g s (Rdr.finish s r) /\ Frm (rdS b g) w w':=by
 have i0:=h.c0
 have i1:=h.c1
 have i5:=h.c5
 have f5:=h.fz 5
 by_cases he : r.err = 0
 ·have HE : Hid (r.err = 0):=he
  have hd : (r.err == 0) = true:=by simpa using he
  rw [he] at i5
  clear he
  by_cases hl : r.pos < s.size
  ·have hl' : (r.pos : Int) < (s.size : Int):=by omega
   go_enter Tryz.func102,Tryz.ntmps102
   go_wp2
   go_quiet (fail)
   go_wp2
   go_end0
   exact ⟨rfl,by unfold Rdr.finish; rw [if_pos ⟨HE.out,hl⟩]; exact (h.drewN _).put5 6,((Frm.refl _ w).drewN _).setCell (.inl (.inl rfl)) _⟩
  ·have hl' : ¬ (r.pos : Int) < (s.size : Int):=by omega
   go_enter Tryz.func102,Tryz.ntmps102
   go_wp2
   go_quiet (fail)
   go_wp2
   go_end0
   exact ⟨rfl,by unfold Rdr.finish; rw [if_neg (fun e => hl e.2)]; exact h.drewN _,(Frm.refl _ w).drewN _⟩
 ·have HE : Hid (¬ r.err = 0):=he
  have hd : (r.err == 0) = false:=by simpa using he
  clear he
  go_enter Tryz.func102,Tryz.ntmps102
  go_wp2
  go_quiet (fail)
  go_wp2
  go_end0
  exact ⟨rfl,by unfold Rdr.finish; rw [if_neg (fun e => HE.out e.1)]; exact h.drewN _,(Frm.refl _ w).drewN _⟩
end Go.Proofs.YtekfbphnoibnjaaGreatDoor
namespace Go.Proofs.YtekfbphnoibnjaaGreatDoor
open Go.RowKit
theorem owns_shrink {w : World} {base : Nat} {e : TypeId} {size g n m cap : Nat} {xs news : List Value} (h : w.ownsRow base e size (.slice (some ⟨g,0,none⟩) (n + m) cap) (n + m) (xs ++ news)) (hl : xs.length = n * size) :
  w.ownsRow base e size (.slice (some ⟨g,0,none⟩) n cap) n xs:=by
 refine ⟨hl,?_⟩
 rcases h.2 with ⟨h',_⟩ | ⟨g',cap',cur,h',hb,hg,hnc,hcm,hcs,htake⟩
 ·simp at h'
 ·simp only [Value.slice.injEq,Option.some.injEq,Addr.mk.injEq,and_true,true_and] at h'
  obtain ⟨rfl,rfl⟩:=h'
  refine .inr ⟨g,cap,cur,rfl,hb,hg,by omega,hcm,hcs,?_⟩
  have h1 : (cur.toList.take ((n + m) * size)).take (n * size) = (xs ++ news).take (n * size):=by rw [htake]
  rw [List.take_take,Nat.min_eq_left (Nat.mul_le_mul_right _ (by omega)),<- hl,List.take_left] at h1
  rw [<- hl]; exact h1
theorem grownBy_none {w w' : World} (h : w.grownBy w' none) (row : Option Nat) : w.grownBy w' row:=⟨h.os,h.tape,h.output,h.size,fun k hk _ => h.block k hk (by simp)⟩
theorem run_append_keep {P : Program} (w : World) (base : Nat) (t ty e : TypeId) (i : TypeInfo) (z : Value) (size bytes : Nat) (ht : P.underlying t = some (.slice e)) (hi : P.info? e = some i) (hz : i.zero = some z)
  (hsize : i.size = size) (hby : i.bytes = bytes) (hzs : z.cells.size = size) (hsz : 0 < size)
  (v : Value) (n : Nat) (xs : List Value) (hown : w.ownsRow base e size v n xs)
  (a : Addr) (m c : Nat) (news : List Value) (hl : news.length = m * size) (hnews : ∀ j u,news[j]? = some u -> w.cell? (a.add j) = some u) (h1 : ∀ u ∈ news,u.oneCell' = true)
  (h63 : n + m <= maxLen) (hbytes : (n + m) * bytes <= 140737488355328) (hbase : base <= w.heap.size) (hm : 0 < m) :
  ∃ g cap w',(Builtin.append_ #[t,t] ty #[v,.slice (some a) m c]).run P w = .ok (.slice (some ⟨g,0,none⟩) (n + m) cap) w' /\ w'.ownsRow base e size (.slice (some ⟨g,0,none⟩) (n + m) cap) (n + m) (xs ++ news) /\ w'.ownsRow base e size v n xs /\ w.grownBy w' v.ownBlock /\
   (v.ownBlock = some g \/ (w.heap.size <= g /\ w.grownBy w' none)):=by
 have hform : ∀ (v' : Value) (w' : World),w'.ownsRow w.heap.size e size v' (n + m) (xs ++ news) -> ∃ g cap,v' = Value.slice (some ⟨g,0,none⟩) (n + m) cap /\ w.heap.size <= g /\ w'.ownsRow base e size v' (n + m) (xs ++ news):=by
  intro v' w' h
  rcases h.2 with ⟨_,h0⟩ | ⟨g,cap,cur,rfl,hb,hr⟩
  ·omega
  ·exact ⟨g,cap,rfl,hb,h.1,.inr ⟨g,cap,cur,rfl,Nat.le_trans hbase hb,hr⟩⟩
 rcases hown.2 with ⟨rfl,rfl⟩ | ⟨g,cap,cur,rfl,hbg,hg,hnc,hcm,hcs,htake⟩
 ·have hx : xs = []:=List.eq_nil_of_length_eq_zero (by simpa using hown.1)
  subst hx
  obtain ⟨v',w',hrun,r1,r2,_⟩:=run_append_own (P:=P) w w.heap.size t ty e i z size bytes ht hi hz hsize hby hzs hsz (.slice none 0 0) 0 [] (World.ownsRow_nil w _ e size) a m c news hl hnews h1 h63 hbytes (Nat.le_refl _)
  obtain ⟨g,cap,rfl,hb,ho⟩:=hform v' w' r1
  exact ⟨g,cap,w',hrun,ho,World.ownsRow_nil w' _ e size,r2,.inr ⟨hb,r2⟩⟩
 ·by_cases hroom : n + m <= cap
  ·obtain ⟨w',hrun,r1,r2⟩:=run_append_fits (P:=P) w base t ty e i size ht hi hsize g n cap xs hown a m c news hl hnews h1 hroom
   exact ⟨g,cap,w',hrun,r1,owns_shrink r1 hown.1,r2,.inl rfl⟩
  ·have holds : ∀ j u,xs[j]? = some u -> w.cell? ((⟨g,0,none⟩ : Addr).add j) = some u:=hown.cells (g:=g) rfl
   obtain ⟨v',w',hrun,r1,r2⟩:=run_append_arg_grows (P:=P) w t ty e i z size bytes ht hi hz hsize hby hzs hsz ⟨g,0,none⟩ n cap xs hown.1 holds a m c news hl hnews (by omega) h63 hbytes
   obtain ⟨g',cap',rfl,hb,ho⟩:=hform v' w' r1
   exact ⟨g',cap',w',hrun,ho,hown.kept r2 (.inr (by simp [Value.ownBlock])),grownBy_none r2 _,.inr ⟨hb,r2⟩⟩
theorem wpList_append_keep {P : Program} (w : World) {ops : Array Oper} {rest : List Oper} {o : Oper} {a : Act} {Q : Exit -> Act -> World -> Prop} (hgd : o.guard = none) (s x : Operand) (t : TypeId)
  (ho : o.op = .call { callee:=.builtin .append,args:=#[s,x],argTypes:=#[t,t] })
  (base : Nat) (e : TypeId) (i : TypeInfo) (z : Value) (size bytes : Nat) (ht : P.underlying t = some (.slice e)) (hi : P.info? e = some i) (hz : i.zero = some z)
  (hsize : i.size = size) (hby : i.bytes = bytes) (hzs : z.cells.size = size) (hsz : 0 < size)
  (v : Value) (n : Nat) (xs : List Value) (hs : a.eval s = v) (hown : w.ownsRow base e size v n xs)
  (ad : Addr) (m c : Nat) (news : List Value) (hx : a.eval x = .slice (some ad) m c) (hl : news.length = m * size) (hnews : ∀ j u,news[j]? = some u -> w.cell? (ad.add j) = some u) (h1 : ∀ u ∈ news,u.oneCell' = true)
  (h63 : n + m <= maxLen) (hbytes : (n + m) * bytes <= 140737488355328) (hbase : base <= w.heap.size) (hm : 0 < m)
  (h : ∀ g cap w',w'.ownsRow base e size (.slice (some ⟨g,0,none⟩) (n + m) cap) (n + m) (xs ++ news) -> w'.ownsRow base e size v n xs -> w.grownBy w' v.ownBlock -> (v.ownBlock = some g \/ (w.heap.size <= g /\ w.grownBy w' none)) -> wpList P ops Q rest (a.put o.dst (.slice (some ⟨g,0,none⟩) (n + m) cap)) w') : wpList P ops Q (o :: rest) a w:=by
 refine wpList_plain hgd fun K hK => ?_
 obtain ⟨g,cap,w',hrun,r1,r2,r3,r4⟩:=run_append_keep (P:=P) w base t o.type e i z size bytes ht hi hz hsize hby hzs hsz v n xs hown ad m c news hl hnews h1 h63 hbytes hbase hm
 unfold Oper.wp execOp
 simp only [ho,resolve,invoke,builtin,Sem.run_bind,Sem.run_pure,Result.andThen_ok,List.map_toArray,List.map_cons,List.map_nil,hs,hx,hrun]
 exact hK _ _ (h g cap w' r1 r2 r3 r4)
theorem frozen_alloc_drew {w : World} {o : Obj} {p j : Nat} (h : p < w.heap.size) : (w.alloc o).drew.frozen? ⟨p,j,none⟩ = w.frozen? ⟨p,j,none⟩:=World.frozen?_of_block (w:=w) (a:=⟨p,j,none⟩) (Below.heap_alloc w o p h)
theorem cell_alloc_drew {w : World} {o : Obj} {p j : Nat} (h : p < w.heap.size) : (w.alloc o).drew.cell? ⟨p,j,none⟩ = w.cell? ⟨p,j,none⟩:=World.cell?_of_block (w:=w) (a:=⟨p,j,none⟩) (Below.heap_alloc w o p h)
end Go.Proofs.YtekfbphnoibnjaaGreatDoor
namespace Go.Proofs.YtekfbphnoibnjaaGreatDoor
open Go.RowKit
structure BookAt (w : World) (p : Nat) (M : Nat) (vs : List Value) : Prop where
 c0 : w.cell? ⟨p,0,none⟩ = some (.int .i64 M)
 cs : ∀ j v,vs[j]? = some v -> w.cell? ⟨p,j + 1,none⟩ = some v
 len : vs.length = 8
 fz : ∀ o,w.frozen? ⟨p,o,none⟩ = false
 up : p < w.heap.size
theorem BookAt.of_block {w w' : World} {p M : Nat} {vs : List Value} (h : BookAt w p M vs) (hb : w'.heap[p]? = w.heap[p]?) (hz : w.heap.size <= w'.heap.size) : BookAt w' p M vs:=by
 have hc : ∀ o,w'.cell? ⟨p,o,none⟩ = w.cell? ⟨p,o,none⟩:=fun o => World.cell?_of_block (a:=⟨p,o,none⟩) hb
 exact ⟨(hc 0).trans h.c0,fun j v hv => (hc (j + 1)).trans (h.cs j v hv),h.len,fun o => (World.frozen?_of_block (a:=⟨p,o,none⟩) hb).trans (h.fz o),Nat.lt_of_lt_of_le h.up hz⟩
theorem BookAt.frm {S : Nat -> Prop} {w w' : World} {p M : Nat} {vs : List Value} (h : BookAt w p M vs) (f : Frm S w w') (hn : ¬ S p) : BookAt w' p M vs:=h.of_block (f.block p h.up hn) f.size
theorem BookAt.put0 {w : World} {p M : Nat} {vs : List Value} (h : BookAt w p M vs) (M' : Nat) : BookAt (w.setCell ⟨p,0,none⟩ (.int .i64 M')) p M' vs :=
 ⟨World.cell?_setCell_same _ _ _ h.c0,fun j v hv => cell_off (h.cs j v hv) (.inr (by omega)),h.len,fun o => by rw [World.frozen?_setCell]; exact h.fz o,by rw [World.size_setCell]; exact h.up⟩
theorem BookAt.put {w : World} {p M : Nat} {vs : List Value} (h : BookAt w p M vs) (i : Nat) (hi : i < 8) (u : Value) : BookAt (w.setCell ⟨p,i + 1,none⟩ u) p M (vs.set i u):=by
 have hl:=h.len
 refine ⟨cell_off h.c0 (.inr (by omega)),fun j v hv => ?_,by simpa using hl,fun o => by rw [World.frozen?_setCell]; exact h.fz o,by rw [World.size_setCell]; exact h.up⟩
 by_cases e : i = j
 ·subst e
  rw [List.getElem?_set,if_pos rfl,if_pos (by omega)] at hv
  injection hv with hv
  subst hv
  obtain ⟨x,hx⟩ : ∃ x,vs[i]? = some x:=⟨_,List.getElem?_eq_getElem (by omega)⟩
  exact World.cell?_setCell_same _ _ _ (h.cs i x hx)
 ·rw [List.getElem?_set,if_neg e] at hv
  exact cell_off (h.cs j v hv) (.inr (by omega))
def Fill (w : World) (v : Value) (n : Nat) (us : List Value) : Prop :=
 ∃ a c,v = .slice a n c /\ (n = 0 \/ ∃ b off,a = some ⟨b,off,none⟩ /\ ∀ j,j < n -> ∀ t u,us[t]? = some u -> w.cell? ⟨b,off + j * us.length + t,none⟩ = some u)
theorem Fill.frm {S : Nat -> Prop} {w w' : World} {v : Value} {n : Nat} {us : List Value} (h : Fill w v n us) (f : Frm S w w') (hn : ∀ k,v.ownBlock = some k -> ¬ S k) : Fill w' v n us:=by
 obtain ⟨a,c,rfl,h⟩:=h
 refine ⟨a,c,rfl,?_⟩
 rcases h with h | ⟨b,off,rfl,h⟩
 ·exact .inl h
 ·exact .inr ⟨b,off,rfl,fun j hj t u hu => f.cell (h j hj t u hu) (hn b rfl)⟩
def Blk (w : World) (b : Nat) (cs : List Value) (e : TypeId) : Prop:=w.heap[b]? = some (.cells cs.toArray e (0,0))
theorem Blk.cell {w : World} {b : Nat} {cs : List Value} {e : TypeId} (h : Blk w b cs e) (j : Nat) (v : Value) (hv : cs[j]? = some v) : w.cell? ⟨b,j,none⟩ = some v:=by
 rw [cell_of_row w b j _ _ _ h]; simpa using hv
theorem Blk.frozen {w : World} {b : Nat} {cs : List Value} {e : TypeId} (h : Blk w b cs e) (j : Nat) : w.frozen? ⟨b,j,none⟩ = false:=frozen_of_row w b j _ _ h
theorem Blk.lt {w : World} {b : Nat} {cs : List Value} {e : TypeId} (h : Blk w b cs e) : b < w.heap.size:=by
 rcases Nat.lt_or_ge b w.heap.size with h' | h'
 ·exact h'
 ·unfold Blk at h; rw [Array.getElem?_eq_none h'] at h; cases h
theorem Blk.of {w w' : World} {b : Nat} {cs : List Value} {e : TypeId} (h : Blk w b cs e) (hb : w'.heap[b]? = w.heap[b]?) : Blk w' b cs e:=hb.trans h
theorem Blk.alloc {w : World} {b : Nat} {cs : List Value} {e : TypeId} (h : Blk w b cs e) (o : Obj) : Blk (w.alloc o) b cs e:=h.of (Below.heap_alloc w o b h.lt)
theorem Blk.grown {w w' : World} {b : Nat} {cs : List Value} {e : TypeId} {row : Option Nat} (h : Blk w b cs e) (hg : w.grownBy w' row) (hn : row ≠ some b) : Blk w' b cs e:=h.of (hg.block b h.lt (fun k => hn k.symm))
theorem Blk.set {w : World} {b : Nat} {cs : List Value} {e : TypeId} (h : Blk w b cs e) (j : Nat) (v : Value) : Blk (w.setCell ⟨b,j,none⟩ v) b (cs.set j v) e:=by
 unfold Blk
 rw [heap_setCell_same w b j _ e v h]
 simp
theorem Blk.new (w : World) (cs : List Value) (e : TypeId) : Blk (w.alloc (.cells cs.toArray e)) w.heap.size cs e:=by
 show (w.heap.push _)[w.heap.size]? = _
 simp
def markS (p : Nat) (vl vi : Value) : Nat -> Prop:=fun k => k = p \/ vl.ownBlock = some k \/ vi.ownBlock = some k
theorem fill_setOther {w : World} {g k cap b j : Nat} {us : List Value} {v : Value} (h : Fill w (.slice (some ⟨g,0,none⟩) k cap) k us) (hne : b ≠ g) : Fill (w.setCell ⟨b,j,none⟩ v) (.slice (some ⟨g,0,none⟩) k cap) k us:=by
 obtain ⟨a,c,e,h⟩:=h
 refine ⟨a,c,e,?_⟩
 rcases h with h | ⟨b',off,rfl,h⟩
 ·exact .inl h
 ·simp only [Value.slice.injEq,Option.some.injEq,Addr.mk.injEq,and_true,true_and] at e
  obtain ⟨⟨rfl,rfl⟩,rfl⟩:=e
  exact .inr ⟨g,0,rfl,fun j' hj t u hu => cell_off (h j' hj t u hu) (.inl hne)⟩
theorem fill_alloc {w : World} {v : Value} {k : Nat} {us : List Value} (h : Fill w v k us) (o : Obj) : Fill (w.alloc o) v k us:=by
 obtain ⟨a,c,rfl,h⟩:=h
 refine ⟨a,c,rfl,?_⟩
 rcases h with h | ⟨b,off,rfl,h⟩
 ·exact .inl h
 ·refine .inr ⟨b,off,rfl,fun j hj t u hu => ?_⟩
  have hc:=h j hj t u hu
  exact (World.cell?_of_block (Below.heap_alloc w o b (World.block_lt_of_cell? w _ hc))).trans hc
theorem news_new (X : World) (cs : List Value) (e : TypeId) (H : Nat) (hH : X.heap.size = H) : ∀ j u,cs[j]? = some u -> (X.alloc (.cells cs.toArray e)).cell? ((⟨H,0,none⟩ : Addr).add j) = some u:=by
 intro j u hu
 subst hH
 exact World.news_of_block (cs:=cs.toArray) (t:=e) (fr:=(0,0)) (Blk.new X cs e) j u (by simpa using hu)
end Go.Proofs.YtekfbphnoibnjaaGreatDoor
namespace Go.Proofs.YtekfbphnoibnjaaGreatDoor
open Go.RowKit
theorem run_copy_row_sz {P : Program} (w : World) (dT sT ty elem : TypeId) (g o dLen dCap : Nat) (a : Addr) (sLen sCap : Nat) (cur : Array Value) (t : TypeId) (cs : List Value) (size : Nat)
  (hu : P.underlying dT = some (.slice elem)) (hs : (P.info? elem).map (·.size) = some size)
  (hg : w.heap[g]? = some (.cells cur t (0,0))) (hn : cs.length = Nat.min sLen dLen * size)
  (hsrc : ∀ j v,cs[j]? = some v -> w.cell? (a.add j) = some v) (hfit : o + cs.length <= cur.size) (h1 : ∀ v ∈ cs,v.oneCell' = true) :
  (Builtin.copy_ #[dT,sT] ty #[.slice (some ⟨g,o,none⟩) dLen dCap,.slice (some a) sLen sCap]).run P w =
   .ok (goInt (Nat.min sLen dLen)) (w.setRow g (cur.toList.take o ++ cs ++ cur.toList.drop (o + cs.length)).toArray):=by
 have hl:=run_loadCells_list (P:=P) w a cs hsrc
 have hst:=run_storeCells_at P g o t cs 0 cur w hg (by simpa using hfit) h1
 cases hq : P.info? elem with
 | none => simp [hq] at hs
 | some i =>
  have hi : i.size = size:=by simpa [hq] using hs
  simp [Builtin.copy_,run_underlying hu,Builtin.lenOf,Builtin.firstCells,sizeOf,typeInfo,hq,hi,<- hn,hl,hst]
theorem wpList_copy_sz {P : Program} {w : World} {ops : Array Oper} {rest : List Oper} {o : Oper} {a : Act} {Q : Exit -> Act -> World -> Prop} (hgd : o.guard = none) (d s : Operand) (dT sT : TypeId)
  (ho : o.op = .call { callee:=.builtin .copy,args:=#[d,s],argTypes:=#[dT,sT] }) (elem : TypeId) (size : Nat) (hu : P.underlying dT = some (.slice elem)) (hsz : (P.info? elem).map (·.size) = some size)
  (g off dLen dCap : Nat) (ad : Addr) (sLen sCap : Nat) (hd : a.eval d = .slice (some ⟨g,off,none⟩) dLen dCap) (hs : a.eval s = .slice (some ad) sLen sCap)
  (cur : List Value) (t : TypeId) (hg : w.heap[g]? = some (.cells cur.toArray t (0,0))) (cs : List Value) (hn : cs.length = Nat.min sLen dLen * size)
  (hsrc : ∀ j v,cs[j]? = some v -> w.cell? (ad.add j) = some v) (hfit : off + cs.length <= cur.length) (h1 : ∀ v ∈ cs,v.oneCell' = true) (B : Nat) (w0 : World) (hb : Below B w0 w) (hBg : B <= g)
  (h : ∀ w',Hid (w'.heap[g]? = some (.cells (splice cur off cs).toArray t (0,0))) -> Below B w0 w' -> wpList P ops Q rest (a.put o.dst (goInt (Nat.min sLen dLen))) w') : wpList P ops Q (o :: rest) a w:=by
 refine wpList_plain hgd fun K hK => ?_
 have hrun:=run_copy_row_sz (P:=P) w dT sT o.type elem g off dLen dCap ad sLen sCap cur.toArray t cs size hu hsz hg hn hsrc (by simpa using hfit) h1
 unfold Oper.wp
 simp [execOp,ho,resolve,invoke,builtin,hd,hs,hrun,Result.andThen]
 exact hK _ _ (h _ (show _ = _ by simpa [splice] using setRow_heap w g _ _ t _ hg) (below_setRow hb hBg _))
end Go.Proofs.YtekfbphnoibnjaaGreatDoor
namespace Go.Proofs.YtekfbphnoibnjaaGreatDoor
open Go.RowKit
def role (own : Nat -> Nat) (v : Value) (r : Nat) : Prop:=∀ k,v.ownBlock = some k -> own k = r
theorem role.ne {own : Nat -> Nat} {v u : Value} {r s : Nat} (h : role own v r) (g : role own u s) (hrs : r ≠ s) : ∀ k,v.ownBlock = some k -> u.ownBlock ≠ some k:=fun k hk hu => hrs ((h k hk).symm.trans (g k hu))
theorem role.ne1 {own : Nat -> Nat} {v : Value} {r k : Nat} (h : role own v r) (hk : own k ≠ r) : v.ownBlock ≠ some k:=fun e => hk (h k e)
theorem fill_lt {w : World} {v : Value} {n : Nat} {us : List Value} (h : Fill w v n us) (hn : 0 < n) (hu : us ≠ []) : ∀ k,v.ownBlock = some k -> k < w.heap.size:=by
 obtain ⟨a,c,rfl,h⟩:=h
 intro k hk
 rcases h with h | ⟨b,off,rfl,h⟩
 ·omega
 ·simp [Value.ownBlock] at hk
  subst hk
  obtain ⟨u,us',rfl⟩:=List.exists_cons_of_ne_nil hu
  exact World.block_lt_of_cell? w _ (h 0 hn 0 u rfl)
end Go.Proofs.YtekfbphnoibnjaaGreatDoor
namespace Go.Proofs.YtekfbphnoibnjaaGreatDoor
open Go.RowKit
def reps (n : Nat) (us : List Value) : List Value:=(List.replicate n us).flatten
theorem reps_len (n : Nat) (us : List Value) : (reps n us).length = n * us.length:=by simp [reps]
theorem reps_succ (n : Nat) (us : List Value) : reps (n + 1) us = us ++ reps n us:=by simp [reps,List.replicate_succ]
theorem reps_app (n k : Nat) (us : List Value) : reps n us ++ reps k us = reps (n + k) us:=by
 unfold reps
 rw [<- List.flatten_append,List.replicate_append_replicate]
theorem reps_get : ∀ (n : Nat) (us : List Value) (j t : Nat),j < n -> t < us.length -> (reps n us)[j * us.length + t]? = us[t]?
 | 0,_,_,_,h,_ => by omega
 | n + 1,us,0,t,_,ht => by rw [reps_succ,Nat.zero_mul,Nat.zero_add,List.getElem?_append_left ht]
 | n + 1,us,j + 1,t,h,ht => by
  have e : (j + 1) * us.length + t = us.length + (j * us.length + t):=by rw [Nat.succ_mul]; omega
  rw [reps_succ,e,List.getElem?_append_right (by omega),Nat.add_sub_cancel_left]
  exact reps_get n us j t (by omega) ht
theorem reps_one (us : List Value) : reps 1 us = us:=by simp [reps]
theorem oneCell_reps {us : List Value} (h : ∀ u ∈ us,u.oneCell' = true) (n : Nat) : ∀ u ∈ reps n us,u.oneCell' = true:=by
 intro u hu
 unfold reps at hu
 obtain ⟨l,hl,hul⟩:=List.mem_flatten.1 hu
 rw [List.mem_replicate] at hl
 rw [hl.2] at hul
 exact h u hul
def markRowG (xs us : List Value) (j : Nat) : List Value:=reps j us ++ xs.drop (j * us.length)
theorem markRowG_zero (xs us : List Value) : markRowG xs us 0 = xs:=by simp [markRowG,reps]
theorem markRowG_full (xs us : List Value) (n : Nat) (h : xs.length = n * us.length) : markRowG xs us n = reps n us:=by
 unfold markRowG
 rw [List.drop_eq_nil_of_le (by omega)]; simp
theorem markRowG_set1 (xs : List Value) (u : Value) (j : Nat) (h : j < xs.length) : (markRowG xs [u] j).set j u = markRowG xs [u] (j + 1):=by
 unfold markRowG
 have hl : (reps j [u]).length = j:=by rw [reps_len]; simp
 rw [List.set_append_right _ _ (by omega),hl,Nat.sub_self]
 simp only [List.length_singleton,Nat.mul_one]
 rw [List.drop_eq_getElem_cons h,List.set_cons_zero,<- reps_app j 1,reps_one]
 simp
theorem markRowG_set3 (xs : List Value) (a b c : Value) (j : Nat) (h : j * 3 + 2 < xs.length) : (((markRowG xs [a,b,c] j).set (j * 3) a).set (j * 3 + 1) b).set (j * 3 + 2) c = markRowG xs [a,b,c] (j + 1):=by
 unfold markRowG
 have hl : (reps j [a,b,c]).length = j * 3:=by rw [reps_len]; rfl
 have e1 : xs.drop (j * 3) = xs[j * 3] :: xs[j * 3 + 1] :: xs[j * 3 + 2] :: xs.drop (j * 3 + 3):=by
  rw [List.drop_eq_getElem_cons (by omega),List.drop_eq_getElem_cons (by omega),List.drop_eq_getElem_cons (by omega)]
 simp only [List.length_cons,List.length_nil,Nat.zero_add,Nat.reduceAdd]
 rw [e1,List.set_append_right _ _ (by omega),hl,Nat.sub_self,List.set_cons_zero,List.set_append_right _ _ (by omega),hl,Nat.add_sub_cancel_left,List.set_cons_succ,List.set_cons_zero,List.set_append_right _ _ (by omega),hl,Nat.add_sub_cancel_left,List.set_cons_succ,List.set_cons_succ,List.set_cons_zero,<- reps_app j 1,reps_one,show (j + 1) * 3 = j * 3 + 3 by omega]
 simp
theorem Fill.of_reps {w : World} {base : Nat} {e : TypeId} {v : Value} {n : Nat} {us : List Value} (h : w.ownsRow base e us.length v n (reps n us)) : Fill w v n us:=by
 rcases h.2 with ⟨rfl,rfl⟩ | ⟨g,cap,cur,rfl,hb,hr⟩
 ·exact ⟨_,_,rfl,.inl rfl⟩
 ·refine ⟨_,_,rfl,.inr ⟨g,0,rfl,fun j hj t u hu => ?_⟩⟩
  have ht : t < us.length:=(List.getElem?_eq_some_iff.1 hu).1
  have hlt : j * us.length + t < n * us.length:=by
   have : (j + 1) * us.length <= n * us.length:=Nat.mul_le_mul_right _ hj
   rw [Nat.succ_mul] at this; omega
  have hc:=World.ownsRow.cellAt h (j * us.length + t) hlt
  rw [Nat.zero_add,hc,reps_get n us j t hj ht,hu]
structure MKg (e : TypeId) (sz : Nat) (E : TypeId) (bz : Nat) (w wr : World) (B p M : Nat) (vs : List Value) (vi vl : Value) (ik n : Nat) (rows xs : List Value) : Prop where
 bk : BookAt wr p M vs
 ri : wr.ownsRow B E bz vi ik rows
 rl : wr.ownsRow B e sz vl n xs
 fr : Frm (markS p vl vi) w wr
section
variable {e : TypeId} {sz : Nat} {E : TypeId} {bz : Nat} {w wr w1 : World} {B p M : Nat} {vs : List Value} {vi vl : Value} {ik n : Nat} {rows xs : List Value}
theorem MKg.alloc (h : MKg e sz E bz w wr B p M vs vi vl ik n rows xs) (o : Obj) : MKg e sz E bz w (wr.alloc o) B p M vs vi vl ik n rows xs :=
 ⟨h.bk.of_block (Below.heap_alloc wr o p h.bk.up) (by simp),h.ri.alloc o,h.rl.alloc o,h.fr.alloc o⟩
theorem MKg.below (h : MKg e sz E bz w wr B p M vs vi vl ik n rows xs) (hb : Below wr.heap.size wr w1) : MKg e sz E bz w w1 B p M vs vi vl ik n rows xs :=
 ⟨h.bk.of_block (hb.block p h.bk.up) hb.size,(Frm.of_below (S:=fun _ => False) hb).owns h.ri (fun _ _ e => e),(Frm.of_below (S:=fun _ => False) hb).owns h.rl (fun _ _ e => e),h.fr.trans (Frm.of_below hb)⟩
theorem MKg.setNew (h : MKg e sz E bz w wr B p M vs vi vl ik n rows xs) (b j : Nat) (v : Value) (hp : b ≠ p) (hi : vi.ownBlock ≠ some b) (hl : vl.ownBlock ≠ some b) (hb : w.heap.size <= b) : MKg e sz E bz w (wr.setCell ⟨b,j,none⟩ v) B p M vs vi vl ik n rows xs :=
 ⟨h.bk.of_block (Below.heap_setCell wr ⟨b,j,none⟩ v p (fun e => hp e.symm)) (by simp),h.ri.kept (grown_setCell wr b j v) (.inr hi),h.rl.kept (grown_setCell wr b j v) (.inr hl),h.fr.setCell (.inr hb) v⟩
theorem MKg.app (h : MKg e sz E bz w wr B p M vs vi vl ik n rows xs) (hg : wr.grownBy w1 vl.ownBlock) (hl : w1.ownsRow B e sz vl n xs) (n2 : vl.ownBlock ≠ some p) (n3 : ∀ k,vl.ownBlock = some k -> vi.ownBlock ≠ some k) : MKg e sz E bz w w1 B p M vs vi vl ik n rows xs :=
 ⟨h.bk.of_block (hg.block p h.bk.up (fun e => n2 e.symm)) hg.size,h.ri.kept hg (by
  cases hv : vi.ownBlock with
  | none => exact .inl rfl
  | some k => exact .inr (fun e => n3 k e.symm hv)),hl,h.fr.grown hg (fun k hk => .inl (.inr (.inl hk)))⟩
end
theorem fill_appG {X w2 : World} {B g k cap g2 N cap2 : Nat} {vb : Option Nat} {e : TypeId} {us : List Value} (h : Fill X (.slice (some ⟨g,0,none⟩) k cap) k us) (hg : X.grownBy w2 vb) (hl : vb = some g2 \/ X.grownBy w2 none)
  (ho : w2.ownsRow B e us.length (.slice (some ⟨g2,0,none⟩) N cap2) N (reps N us)) (hk : k <= N) : Fill w2 (.slice (some ⟨g,0,none⟩) k cap) k us:=by
 obtain ⟨a,c,e,h⟩:=h
 refine ⟨a,c,e,?_⟩
 rcases h with h | ⟨b',off,rfl,h⟩
 ·exact .inl h
 ·simp only [Value.slice.injEq,Option.some.injEq,Addr.mk.injEq,and_true,true_and] at e
  obtain ⟨⟨rfl,rfl⟩,rfl⟩:=e
  refine .inr ⟨g,0,rfl,fun j hj t u hu => ?_⟩
  have hc:=h j hj t u hu
  by_cases e : vb = some g
  ·rcases hl with hl | hl
   ·have : g2 = g:=by rw [e] at hl; injection hl with hl; exact hl.symm
    subst this
    have ht : t < us.length:=(List.getElem?_eq_some_iff.1 hu).1
    have hlt : j * us.length + t < N * us.length:=by
     have : (j + 1) * us.length <= N * us.length:=Nat.mul_le_mul_right _ (by omega)
     rw [Nat.succ_mul] at this; omega
    have hc:=World.ownsRow.cellAt ho (j * us.length + t) hlt
    rw [Nat.zero_add,hc,reps_get N us j t (by omega) ht,hu]
   ·exact hl.cell hc (by simp)
  ·exact hg.cell hc (fun k => e k.symm)
def MarkedG (E : TypeId) (bz i : Nat) (ms us : List Value) (w w' : World) (B p M : Nat) (vs : List Value) (vi vl : Value) (ik n : Nat) (rows : List Value) : Prop :=
 ∃ gi ci g1 e1 g2 e2 g3 e3 : Nat,BookAt w' p (M + 1) (vs.set i (.slice (some ⟨gi,0,none⟩) (ik + 1) ci)) /\
  w'.ownsRow B E bz (.slice (some ⟨gi,0,none⟩) (ik + 1) ci) (ik + 1) (rows ++ (ms ++ [vl,.slice (some ⟨g1,0,none⟩) (n + 1) e1,.slice (some ⟨g2,0,none⟩) (n + 2) e2,.slice (some ⟨g3,0,none⟩) (n + 3) e3])) /\
  Fill w' vl n us /\ Fill w' (.slice (some ⟨g1,0,none⟩) (n + 1) e1) (n + 1) us /\ Fill w' (.slice (some ⟨g2,0,none⟩) (n + 2) e2) (n + 2) us /\ Fill w' (.slice (some ⟨g3,0,none⟩) (n + 3) e3) (n + 3) us /\
  (vi.ownBlock = some gi \/ w.heap.size <= gi) /\ (vl.ownBlock = some g1 \/ w.heap.size <= g1) /\ (vl.ownBlock = some g2 \/ w.heap.size <= g2) /\ (vl.ownBlock = some g3 \/ w.heap.size <= g3) /\
  (gi ≠ g1 /\ gi ≠ g2 /\ gi ≠ g3) /\ gi ≠ p /\ vl.ownBlock ≠ some gi /\ Frm (markS p vl vi) w w'
theorem mark_doneG {e : TypeId} {E : TypeId} {bz i : Nat} {ms us : List Value} (hi8 : i < 8) {w w4 w5 : World} {B p M : Nat} {vs : List Value} {vi vl : Value} {ik n : Nat} {rows : List Value} {g1 e1 g2 e2 g3 e3 gg cap : Nat} {o : Obj}
  (HX : MKg e us.length E bz w w4 B p (M + 1) vs vi vl ik n rows (reps n us))
  (F1 : Fill w4 (.slice (some ⟨g1,0,none⟩) (n + 1) e1) (n + 1) us) (F2 : Fill w4 (.slice (some ⟨g2,0,none⟩) (n + 2) e2) (n + 2) us) (F3 : Fill w4 (.slice (some ⟨g3,0,none⟩) (n + 3) e3) (n + 3) us)
  (bb : Nat) (hbw : w.heap.size <= bb) (h1 : g1 < w4.heap.size) (h2 : g2 < w4.heap.size) (h3 : g3 < w4.heap.size) (L1 : vl.ownBlock = some g1 \/ bb + 2 <= g1) (L2 : vl.ownBlock = some g2 \/ bb + 2 <= g2) (L3 : vl.ownBlock = some g3 \/ bb + 2 <= g3)
  (N1 : vi.ownBlock ≠ some p) (N2 : vl.ownBlock ≠ some p) (N3 : ∀ k,vl.ownBlock = some k -> vi.ownBlock ≠ some k) (hlb : ∀ k,vl.ownBlock = some k -> k < w.heap.size) (hib : ∀ k,vi.ownBlock = some k -> k < w.heap.size) (hpw : p < w.heap.size)
  (hown : w5.ownsRow B E bz (.slice (some ⟨gg,0,none⟩) (ik + 1) cap) (ik + 1) (rows ++ (ms ++ [vl,.slice (some ⟨g1,0,none⟩) (n + 1) e1,.slice (some ⟨g2,0,none⟩) (n + 2) e2,.slice (some ⟨g3,0,none⟩) (n + 3) e3])))
  (hgrow : (w4.alloc o).drew.grownBy w5 vi.ownBlock) (hat : vi.ownBlock = some gg \/ gg = w4.heap.size + 1) :
  MarkedG E bz i ms us w (w5.setCell ⟨p,i + 1,none⟩ (.slice (some ⟨gg,0,none⟩) (ik + 1) cap)) B p M vs vi vl ik n rows:=by
 have hwz:=HX.fr.size
 have fr : Frm (fun k => k = p \/ vi.ownBlock = some k) w4 (w5.setCell ⟨p,i + 1,none⟩ (.slice (some ⟨gg,0,none⟩) (ik + 1) cap)) :=
  Frm.setCell (p:=⟨p,i + 1,none⟩) ((((Frm.refl _ w4).alloc o).drew).grown hgrow (fun k hk => .inl (.inr hk))) (.inl (.inl rfl)) _
 have hG : ∀ g,(vl.ownBlock = some g \/ bb + 2 <= g) -> ¬ (g = p \/ vi.ownBlock = some g):=fun g hL hS => by
  rcases hL with hL | hL
  ·rcases hS with rfl | hS
   ·exact N2 hL
   ·exact N3 g hL hS
  ·rcases hS with rfl | hS
   ·omega
   ·have:=hib g hS; omega
 have hggp : gg ≠ p:=by
  rcases hat with h | h
  ·intro e; exact N1 (by rw [h,e])
  ·omega
 have hne : ∀ g,g < w4.heap.size -> (vl.ownBlock = some g \/ bb + 2 <= g) -> gg ≠ g:=fun g hg hL e => by
  rcases hat with h | h
  ·exact hG g hL (.inr (by rw [<- e]; exact h))
  ·omega
 have hX : (w4.alloc o).drew.heap.size = w4.heap.size + 1:=by show (w4.alloc o).heap.size = _; simp
 have hz5 : w4.heap.size <= w5.heap.size:=by have:=hgrow.size; omega
 have hpz:=HX.bk.up
 have hbk5 : BookAt w5 p (M + 1) vs:=HX.bk.of_block ((hgrow.block p (by omega) (fun e => N1 e.symm)).trans (Below.heap_alloc w4 o p HX.bk.up)) hz5
 refine ⟨gg,cap,g1,e1,g2,e2,g3,e3,hbk5.put i hi8 _,hown.kept (grown_setCell w5 p (i + 1) _) (.inr (by simp [Value.ownBlock]; exact hggp)),(Fill.of_reps HX.rl).frm fr (fun k hk hS => ?_),F1.frm fr (fun k hk => ?_),F2.frm fr (fun k hk => ?_),F3.frm fr (fun k hk => ?_),?_,?_,?_,?_,⟨hne g1 h1 L1,hne g2 h2 L2,hne g3 h3 L3⟩,hggp,?_,?_⟩
 ·rcases hS with rfl | hS
  ·exact N2 hk
  ·exact N3 k hk hS
 ·simp [Value.ownBlock] at hk; subst hk; exact hG _ L1
 ·simp [Value.ownBlock] at hk; subst hk; exact hG _ L2
 ·simp [Value.ownBlock] at hk; subst hk; exact hG _ L3
 ·rcases hat with h | h
  ·exact .inl h
  ·exact .inr (by omega)
 ·rcases L1 with h | h
  ·exact .inl h
  ·exact .inr (by omega)
 ·rcases L2 with h | h
  ·exact .inl h
  ·exact .inr (by omega)
 ·rcases L3 with h | h
  ·exact .inl h
  ·exact .inr (by omega)
 ·intro e
  rcases hat with h | h
  ·exact N3 gg e h
  ·have:=hlb gg e; omega
 ·exact HX.fr.trans (fr.mono (fun k _ hS => by
   rcases hS with h | h
   ·exact .inl h
   ·exact .inr (.inr h)))
end Go.Proofs.YtekfbphnoibnjaaGreatDoor
namespace Go.Proofs.YtekfbphnoibnjaaGreatDoor
theorem cellsU8 : Tryz.prog.cellsOf 5 = 1:=by kernel_rfl
theorem cellsI64 : Tryz.prog.cellsOf 3 = 1:=by kernel_rfl
theorem part1 {P : Program} {e : TypeId} {k : IntKind} (he : P.underlying e = some (.int k)) (w : World) (xs : Array Value) (i : Nat) (v : Value) (hv : xs[i]? = some v) : (part e xs i).run P w = .ok v w:=by
 simp [part,isAgg,run_underlying he,hv]
theorem eq3 {P : Program} {t e : TypeId} {k : IntKind} (ht : P.underlying t = some (.array 3 e)) (he : P.underlying e = some (.int k)) (hc : P.cellsOf e = 1) (w : World) (a b c a' b' c' : Int) :
  Sem.run P (Op.equalIn 10000 t (.agg #[.int k a,.int k b,.int k c]) (.agg #[.int k a',.int k b',.int k c'])) w = .ok (a == a' && (b == b' && c == c')) w:=by
 obtain ⟨i,hi⟩:=info_of_underlying he
 rw [run_equalIn_array w 9999 _ _ ht hi,hc]
 have r3 : List.range 3 = [0,1,2]:=rfl
 rw [r3]
 simp only [Op.eqItems,Sem.run_bind]
 rw [part1 he w _ _ (.int k a) rfl]
 simp only [Result.andThen_ok]
 rw [part1 he w _ _ (.int k a') rfl]
 simp only [Result.andThen_ok,run_equalIn_int w _ e k k _ _ he]
 cases h1 : (a == a')
 ·simp
 simp only [Bool.not_true,Bool.false_eq_true,if_false,Sem.run_bind]
 rw [part1 he w _ _ (.int k b) rfl]
 simp only [Result.andThen_ok]
 rw [part1 he w _ _ (.int k b') rfl]
 simp only [Result.andThen_ok,run_equalIn_int w _ e k k _ _ he]
 cases h2 : (b == b')
 ·simp
 simp only [Bool.not_true,Bool.false_eq_true,if_false,Sem.run_bind]
 rw [part1 he w _ _ (.int k c) rfl]
 simp only [Result.andThen_ok]
 rw [part1 he w _ _ (.int k c') rfl]
 simp only [Result.andThen_ok,run_equalIn_int w _ e k k _ _ he]
 cases h3 : (c == c')
 ·simp
 ·simp
theorem eqPix (w : World) (a b c a' b' c' : Int) :
  Sem.run Tryz.prog (Op.equalIn 10000 50 (.agg #[.int .u8 a,.int .u8 b,.int .u8 c]) (.agg #[.int .u8 a',.int .u8 b',.int .u8 c'])) w = .ok (a == a' && (b == b' && c == c')) w :=
 eq3 Tryz.underlying50 Tryz.underlying5 cellsU8 w a b c a' b' c'
end Go.Proofs.YtekfbphnoibnjaaGreatDoor
namespace Go.Proofs.YtekfbphnoibnjaaGreatDoor
open Go.RowKit
set_option maxHeartbeats 1000000 in
set_option maxRecDepth 20000 in
theorem sh_at_raw (w : World) (p lg n lc fb N nc : Nat) (z f x y : Nat) (a b c : Int) (i1 : w.cell? ⟨p,1,none⟩ = some (.int .i64 z)) (i2 : w.cell? ⟨p,2,none⟩ = some (.slice (some ⟨lg,0,none⟩) n lc))
  (i3 : w.cell? ⟨lg,f,none⟩ = some (.slice (some ⟨fb,0,none⟩) N nc)) (hf : f < n) (hN : N = z * z) (k : Nat) (hk : k = y * z + x) (hkN : k < N) (hN2 : N <= 256)
  (k0 : w.cell? ⟨fb,k * 3,none⟩ = some (.int .u8 a)) (k1 : w.cell? ⟨fb,k * 3 + 1,none⟩ = some (.int .u8 b)) (k2 : w.cell? ⟨fb,k * 3 + 2,none⟩ = some (.int .u8 c)) :
  Calls Tryz.prog 177 #[.pointer (some ⟨p,0,none⟩),.int .i64 f,.int .i64 x,.int .i64 y] w fun e w' => e = .returned (.agg #[.int .u8 a,.int .u8 b,.int .u8 c]) /\ Below w.heap.size w w':=by
 have e2 : (y : Int) * (z : Int) + (x : Int) = (k : Int):=by rw [hk,Int.natCast_add,Int.natCast_mul]
 have hyz : y * z <= 256:=by omega
 have p0 : 0 <= (y : Int) * (z : Int):=by rw [<- Int.natCast_mul]; omega
 have p1 : (y : Int) * (z : Int) <= 256:=by rw [<- Int.natCast_mul]; omega
 have hf' : (f : Int) < (n : Int):=by omega
 have hk' : (k : Int) < (N : Int):=by omega
 have w1 : wrap64 ((y : Int) * (z : Int)) = (y : Int) * (z : Int):=by unfold wrap64; omega
 have w2 : wrap64 ((y : Int) * (z : Int) + (x : Int)) = (k : Int):=by rw [e2]; unfold wrap64; omega
 obtain ⟨W,hW⟩ : ∃ W,W = w.alloc (.cells #[.int .u8 0,.int .u8 0,.int .u8 0] 50):=⟨_,rfl⟩
 have hB : Below w.heap.size w W:=by rw [hW]; exact (Below.refl _ _).alloc (Nat.le_refl _) _
 have Q : ∀ (bk off : Nat) (v : Value),w.cell? ⟨bk,off,none⟩ = some v -> W.cell? ⟨bk,off,none⟩ = some v:=fun bk off v h => (hB.cell (World.block_lt_of_cell? w _ h)).trans h
 have j1:=Q _ _ _ i1
 have j2:=Q _ _ _ i2
 have j3:=Q _ _ _ i3
 have l0:=Q _ _ _ k0
 have l1:=Q _ _ _ k1
 have l2:=Q _ _ _ k2
 have hh : W.heap[w.heap.size]? = some (.cells #[.int .u8 0,.int .u8 0,.int .u8 0] 50):=by rw [hW]; show (w.heap.push _)[w.heap.size]? = _; simp
 obtain ⟨o,ho⟩ : ∃ o,o = w.heap.size:=⟨_,rfl⟩
 rw [<- ho] at hh
 have s0:=cell_of_row W o 0 _ _ _ hh
 have s1:=cell_of_row W o 1 _ _ _ hh
 have s2:=cell_of_row W o 2 _ _ _ hh
 have z0:=frozen_of_row W o 0 _ _ hh
 have z1:=frozen_of_row W o 1 _ _ hh
 have z2:=frozen_of_row W o 2 _ _ hh
 simp at s0 s1 s2
 have HO : Hid (o = w.heap.size):=ho
 have HW : Hid (W = w.alloc (.cells #[.int .u8 0,.int .u8 0,.int .u8 0] 50)):=hW
 have HB : Hid (Below w.heap.size w W):=hB
 clear hk hN hyz Q i1 i2 i3 k0 k1 k2 hW hB hh ho
 go_enter Tryz.func177,Tryz.ntmps177
 go_wp2
 rw [<- HW.out,<- HO.out]
 go_region
 go_wp2
 refine bodyPost_ret (v:=.agg #[.int .u8 a,.int .u8 b,.int .u8 c]) (by simp [results,Tryz.results177,go_sem,s0,s1,s2]) rfl ⟨rfl,?_⟩
 have hbel:=HB.out
 have hoe:=HO.out
 repeat (first | exact hbel | refine Below.setCell ?_ (by simp only; omega) _ | refine below_drewN ?_ _)
set_option maxHeartbeats 1000000 in
set_option maxRecDepth 20000 in
theorem sh_put_raw (w : World) (p lg n lc fb N nc : Nat) (z x y : Nat) (a b c a' b' c' : Int) (i1 : w.cell? ⟨p,1,none⟩ = some (.int .i64 z)) (i2 : w.cell? ⟨p,2,none⟩ = some (.slice (some ⟨lg,0,none⟩) (n + 1) lc))
  (i3 : w.cell? ⟨lg,n,none⟩ = some (.slice (some ⟨fb,0,none⟩) N nc)) (hn : n <= 100) (hN : N = z * z) (k : Nat) (hk : k = y * z + x) (hkN : k < N) (hN2 : N <= 256)
  (k0 : w.cell? ⟨fb,k * 3,none⟩ = some (.int .u8 a')) (k1 : w.cell? ⟨fb,k * 3 + 1,none⟩ = some (.int .u8 b')) (k2 : w.cell? ⟨fb,k * 3 + 2,none⟩ = some (.int .u8 c'))
  (z0 : w.frozen? ⟨fb,k * 3,none⟩ = false) (z1 : w.frozen? ⟨fb,k * 3 + 1,none⟩ = false) (z2 : w.frozen? ⟨fb,k * 3 + 2,none⟩ = false) :
  Calls Tryz.prog 175 #[.pointer (some ⟨p,0,none⟩),.int .i64 x,.int .i64 y,.agg #[.int .u8 a,.int .u8 b,.int .u8 c]] w fun e w' => e = .returned (.tuple #[]) /\ w' = ((((w.alloc (.cells #[.int .u8 a,.int .u8 b,.int .u8 c] 50)).setCell ⟨fb,k * 3,none⟩ (.int .u8 a)).setCell ⟨fb,k * 3 + 1,none⟩ (.int .u8 b)).setCell ⟨fb,k * 3 + 2,none⟩ (.int .u8 c)).drew:=by
 have e2 : (y : Int) * (z : Int) + (x : Int) = (k : Int):=by rw [hk,Int.natCast_add,Int.natCast_mul]
 have hyz : y * z <= 256:=by omega
 have p0 : 0 <= (y : Int) * (z : Int):=by rw [<- Int.natCast_mul]; omega
 have p1 : (y : Int) * (z : Int) <= 256:=by rw [<- Int.natCast_mul]; omega
 have hk' : (k : Int) < (N : Int):=by omega
 have w1 : wrap64 ((y : Int) * (z : Int)) = (y : Int) * (z : Int):=by unfold wrap64; omega
 have w2 : wrap64 ((y : Int) * (z : Int) + (x : Int)) = (k : Int):=by rw [e2]; unfold wrap64; omega
 have w3 : wrap64 (((n + 1 : Nat) : Int) - 1) = (n : Int):=by unfold wrap64; omega
 have hnn : (n : Int) < ((n + 1 : Nat) : Int):=by omega
 obtain ⟨W,hW⟩ : ∃ W,W = w.alloc (.cells #[.int .u8 a,.int .u8 b,.int .u8 c] 50):=⟨_,rfl⟩
 have hB : Below w.heap.size w W:=by rw [hW]; exact (Below.refl _ _).alloc (Nat.le_refl _) _
 have Q : ∀ (bk off : Nat) (v : Value),w.cell? ⟨bk,off,none⟩ = some v -> W.cell? ⟨bk,off,none⟩ = some v:=fun bk off v h => (hB.cell (World.block_lt_of_cell? w _ h)).trans h
 have hfb : fb < w.heap.size:=World.block_lt_of_cell? w _ k0
 have Z : ∀ off,w.frozen? ⟨fb,off,none⟩ = false -> W.frozen? ⟨fb,off,none⟩ = false:=fun off h => (hB.frozen (p:=⟨fb,off,none⟩) hfb).trans h
 have j1:=Q _ _ _ i1
 have j2:=Q _ _ _ i2
 have j3:=Q _ _ _ i3
 have l0:=Q _ _ _ k0
 have l1:=Q _ _ _ k1
 have l2:=Q _ _ _ k2
 have y0:=Z _ z0
 have y1:=Z _ z1
 have y2:=Z _ z2
 have hh : W.heap[w.heap.size]? = some (.cells #[.int .u8 a,.int .u8 b,.int .u8 c] 50):=by rw [hW]; show (w.heap.push _)[w.heap.size]? = _; simp
 obtain ⟨o,ho⟩ : ∃ o,o = w.heap.size:=⟨_,rfl⟩
 rw [<- ho] at hh
 have s0:=cell_of_row W o 0 _ _ _ hh
 have s1:=cell_of_row W o 1 _ _ _ hh
 have s2:=cell_of_row W o 2 _ _ _ hh
 simp at s0 s1 s2
 have HO : Hid (o = w.heap.size):=ho
 have HW : Hid (W = w.alloc (.cells #[.int .u8 a,.int .u8 b,.int .u8 c] 50)):=hW
 rw [<- hW]
 clear hk hN hyz Q Z i1 i2 i3 k0 k1 k2 z0 z1 z2 hW hB hh ho hfb
 go_enter Tryz.func175,Tryz.ntmps175
 go_wp2
 rw [<- HW.out,<- HO.out]
 go_region
 go_wp2
 go_end0
 exact ⟨rfl,rfl⟩
end Go.Proofs.YtekfbphnoibnjaaGreatDoor
