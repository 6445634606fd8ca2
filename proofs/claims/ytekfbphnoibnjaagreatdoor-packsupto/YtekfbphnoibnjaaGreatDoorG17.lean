/-
  PkArea PkLt PkFn PTal
-/
import Derived.Test.YtekfbphnoibnjaaGreatDoorG16
set_option maxHeartbeats 4000000
namespace Go.Proofs.YtekfbphnoibnjaaGreatDoor
namespace Pk
open Flm (Px FS px now near turn back okPx spots put)
abbrev Good (z:Nat) (F:List (List Px)) (f n:Nat) (fs:FS):Prop:=Mid z F f n (fun _=>False) fs
theorem seen_frs {z:Nat}:∀ (ps:List (Nat × Nat)) (fs:FS),(Flm.seen z ps fs).frs=fs.frs
 | [],_=>rfl
 | (i,j) :: ps,fs=>seen_frs ps { fs with rd:=fs.rd.set (j*z+i) true }
theorem seen_len {z:Nat}:∀ (ps:List (Nat × Nat)) (fs:FS),(Flm.seen z ps fs).rd.length=fs.rd.length
 | [],_=>rfl
 | (i,j) :: ps,fs=>by
  have h:=seen_len (z:=z) ps { fs with rd:=fs.rd.set (j*z+i) true }
  rw [List.length_set] at h
  exact h
theorem setT {l:List Bool} {i k:Nat} (h:l.getD k false=true):(l.set i true).getD k false=true:=by
 rw [List.getD_eq_getElem?_getD] at h ⊢
 rw [List.getElem?_set]
 by_cases e:i=k
 ·subst e
  rcases Nat.lt_or_ge i l.length with hl|hl
  ·rw [if_pos rfl,if_pos hl];rfl
  ·rw [List.getElem?_eq_none hl] at h;cases h
 ·rw [if_neg e];exact h
theorem seen_old {z k:Nat}:∀ (ps:List (Nat × Nat)) (fs:FS),fs.rd.getD k false=true->(Flm.seen z ps fs).rd.getD k false=true
 | [],_,h=>h
 | (i,j) :: ps,fs,h=>seen_old (z:=z) ps { fs with rd:=fs.rd.set (j*z+i) true } (setT h)
theorem seen_new {z:Nat} {q:Nat × Nat}:∀ (ps:List (Nat × Nat)) (fs:FS),q ∈ ps->q.2*z+q.1<fs.rd.length->(Flm.seen z ps fs).rd.getD (q.2*z+q.1) false=true
 | [],_,h,_=>absurd h (List.not_mem_nil)
 | (i,j) :: ps,fs,h,hl=>by
  rcases List.mem_cons.1 h with rfl|h
  ·refine seen_old (z:=z) ps { fs with rd:=fs.rd.set (j*z+i) true } ?_
   show (fs.rd.set (j*z+i) true).getD (j*z+i) false=true
   rw [List.getD_eq_getElem?_getD,List.getElem?_set_self hl];rfl
  ·exact seen_new ps { fs with rd:=fs.rd.set (j*z+i) true } h (by rw [List.length_set];exact hl)
theorem Mid.seen {z:Nat} {F:List (List Px)} {f x y n:Nat} {fs:FS} (al:Al z x y n) (h:Mid z F f (rank x y) (· ∈ spots x y n) fs):Good z F f (rank x y+n*n) (Flm.seen z (spots x y n) fs):=by
 obtain ⟨a,b,c,d,e,g⟩:=h
 have hf:=seen_frs (z:=z) (spots x y n) fs
 refine ⟨by rw [hf];exact a,by rw [hf];exact b,by rw [hf];exact c,by rw [seen_len];exact d,fun i j hi hj hr=>?_,fun i j hi hj hr=>?_⟩
 ·rcases al.inside hi hj hr with h1|h1
  ·exact seen_old _ _ (e i j hi hj h1)
  ·exact seen_new (q:=(i,j)) _ _ (spots_mem.2 h1) (by rw [d];exact idx_lt hi hj)
 ·rcases hr with hr|hr
  ·unfold px
   rw [hf]
   rcases al.inside hi hj hr with h1|h1
   ·exact g i j hi hj (.inl h1)
   ·exact g i j hi hj (.inr (spots_mem.2 h1))
  ·exact absurd hr id
def Tells (z:Nat) (F:List (List Px)) (f x y n:Nat) (l:Bts):Prop:=Pack.BitsOk l/\∀ (S:ByteArray) (rest:Bts) (fs:FS),Rd S (l++rest) fs.r->Good z F f (rank x y) fs ->
  Rd S rest (Flm.area S z (Flm.cuts n) x y n fs).r/\Good z F f (rank x y+n*n) (Flm.area S z (Flm.cuts n) x y n fs)
def TellsB (z:Nat) (F:List (List Px)) (f x y n:Nat) (l:Bts):Prop:=Pack.BitsOk l/\∀ (S:ByteArray) (rest:Bts) (fs:FS),Rd S (l++rest) fs.r->Good z F f (rank x y) fs ->
  Rd S rest (Flm.block S z x y n fs).r/\Good z F f (rank x y+n*n) (Flm.block S z x y n fs)
def hd (n:Nat) (v:Int):Bts:=if n=4 then [] else [(if n=16 then 0 else 1,v)]
def kind (a b:Nat):Bts:=[(2,(a:Int)),(3+a,(b:Int))]
theorem hd_ok {n:Nat} {v:Int} (hv:v=0 \/ v=1):Pack.BitsOk (hd n v):=by
 unfold hd
 split
 ·exact ok_nil
 ·refine ok_cons ?_ hv ok_nil
  split <;> omega
theorem kind_ok {a b:Nat} (ha:a<=1) (hb:b<=1):Pack.BitsOk (kind a b):=ok_cons (by omega) (by omega) (ok_cons (by omega) (by omega) ok_nil)
theorem tells_block {z:Nat} {F:List (List Px)} {f x y n:Nat} {l:Bts} (al:Al z x y n) (h:TellsB z F f x y n l):Tells z F f x y n (hd n 0++l):=by
 refine ⟨ok_app (hd_ok (.inl rfl)) h.1,fun S rest fs hr hg=>?_⟩
 have he:=hr.err
 rcases al.an with rfl|rfl|rfl
 ·have hr':Rd S (l++rest) fs.r:=hr
  show Rd S rest (if fs.r.err=0 then Flm.block S z x y 4 { fs with fr:=now fs,x:=x,y:=y } else fs).r/\Good z F f (rank x y+4*4) (if fs.r.err=0 then Flm.block S z x y 4 { fs with fr:=now fs,x:=x,y:=y } else fs)
  rw [if_pos he]
  exact h.2 S rest { fs with fr:=now fs,x:=x,y:=y } hr' (hg.same rfl rfl fun _ h=>h)
 ·have hr':Rd S ((1,0) :: (l++rest)) fs.r:=hr
  obtain ⟨b1,b2⟩:=hr'.bit
  have ea:Flm.area S z (Flm.cuts 8) x y 8 fs=Flm.block S z x y 8 { fs with fr:=now fs,x:=x,y:=y,r:=Rdr.bitS S fs.r 1 }:=by
   show (if fs.r.err=0 then (if Rdr.bitV fs.r 1=1 then _ else if (Rdr.bitS S fs.r 1).err=0 then Flm.block S z x y 8 { fs with fr:=now fs,x:=x,y:=y,r:=Rdr.bitS S fs.r 1 } else _) else fs)=_
   rw [if_pos he,if_neg (by rw [b1];decide),if_pos b2.err]
  rw [ea]
  exact h.2 S rest { fs with fr:=now fs,x:=x,y:=y,r:=Rdr.bitS S fs.r 1 } b2 (hg.same rfl rfl fun _ h=>h)
 ·have hr':Rd S ((0,0) :: (l++rest)) fs.r:=hr
  obtain ⟨b1,b2⟩:=hr'.bit
  have ea:Flm.area S z (Flm.cuts 16) x y 16 fs=Flm.block S z x y 16 { fs with fr:=now fs,x:=x,y:=y,r:=Rdr.bitS S fs.r 0 }:=by
   show (if fs.r.err=0 then (if Rdr.bitV fs.r 0=1 then _ else if (Rdr.bitS S fs.r 0).err=0 then Flm.block S z x y 16 { fs with fr:=now fs,x:=x,y:=y,r:=Rdr.bitS S fs.r 0 } else _) else fs)=_
   rw [if_pos he,if_neg (by rw [b1];decide),if_pos b2.err]
  rw [ea]
  exact h.2 S rest { fs with fr:=now fs,x:=x,y:=y,r:=Rdr.bitS S fs.r 0 } b2 (hg.same rfl rfl fun _ h=>h)
theorem tells_split {z:Nat} {F:List (List Px)} {f x y n:Nat} {l1 l2 l3 l4:Bts} (hn:n=4 \/ n=8) (al:Al z x y (2*n)) (h1:Tells z F f x y n l1) (h2:Tells z F f (x+n) y n l2) (h3:Tells z F f x (y+n) n l3) (h4:Tells z F f (x+n) (y+n) n l4) :
  Tells z F f x y (2*n) ((if 2*n=16 then 0 else 1,1) :: (l1++(l2++(l3++l4)))):=by
 obtain ⟨-,e1,e2,e3⟩:=al.quarters hn
 refine ⟨ok_cons (by split <;> omega) (.inr rfl) (ok_app h1.1 (ok_app h2.1 (ok_app h3.1 h4.1))),fun S rest fs hr hg=>?_⟩
 have he:=hr.err
 have hr':Rd S ((if 2*n=16 then 0 else 1,1) :: (l1++(l2++(l3++(l4++rest))))) fs.r:=by simpa only [List.cons_append,List.append_assoc] using hr
 obtain ⟨b1,b2⟩:=hr'.bit
 have ea:Flm.area S z (Flm.cuts (2*n)) x y (2*n) fs=Flm.area S z (Flm.cuts n) (x+n) (y+n) n (Flm.area S z (Flm.cuts n) x (y+n) n (Flm.area S z (Flm.cuts n) (x+n) y n (Flm.area S z (Flm.cuts n) x y n { fs with fr:=now fs,x:=x,y:=y,r:=Rdr.bitS S fs.r (if 2*n=16 then 0 else 1) }))):=by
  rcases hn with rfl|rfl
  ·show (if fs.r.err=0 then (if Rdr.bitV fs.r 1=1 then _ else _) else fs)=_
   rw [if_pos he,if_pos (by exact b1)]
   rfl
  ·show (if fs.r.err=0 then (if Rdr.bitV fs.r 0=1 then _ else _) else fs)=_
   rw [if_pos he,if_pos (by exact b1)]
   rfl
 rw [ea]
 obtain ⟨r1,g1⟩:=h1.2 S _ { fs with fr:=now fs,x:=x,y:=y,r:=Rdr.bitS S fs.r (if 2*n=16 then 0 else 1) } b2 (hg.same rfl rfl fun _ h=>h)
 rw [<- e1] at g1
 obtain ⟨r2,g2⟩:=h2.2 S _ _ r1 g1
 rw [e1,show rank x y+n*n+n*n=rank x y+2*(n*n) by omega,<- e2] at g2
 obtain ⟨r3,g3⟩:=h3.2 S _ _ r2 g2
 rw [e2,show rank x y+2*(n*n)+n*n=rank x y+3*(n*n) by omega,<- e3] at g3
 obtain ⟨r4,g4⟩:=h4.2 S _ _ r3 g3
 refine ⟨r4,?_⟩
 rw [e3] at g4
 rw [show 2*n*(2*n)=4*(n*n) by rw [Nat.mul_mul_mul_comm]]
 rw [show rank x y+3*(n*n)+n*n=rank x y+4*(n*n) by omega] at g4
 exact g4
theorem kind_reads {S:ByteArray} {z:Nat} {x y n:Nat} {a b:Nat} {rest:Bts} {fs:FS} (h:Rd S (kind a b++rest) fs.r):∃ r',Rd S rest r' /\
  Flm.block S z x y n fs=(if a=0 then (if b=0 then Flm.seen z (spots x y n) (Flm.soft S z (spots x y n) { fs with r:=r' }) else Flm.seen z (spots x y n) (Flm.few S z x y n { fs with r:=r' }))
   else if b=0 then Flm.seen z (spots x y n) (Flm.copies S z x y n 260 (now fs) { fs with r:=r' })
   else if now fs=0 then { fs with r:=Rdr.fail r' 10 } else Flm.seen z (spots x y n) (Flm.copies S z x y n 310 (now fs-1) { fs with r:=r' })):=by
 have h':Rd S ((2,(a:Int)) :: (3+a,(b:Int)) :: rest) fs.r:=h
 obtain ⟨b1,b2⟩:=h'.bit
 obtain ⟨b3,b4⟩:=b2.bit
 refine ⟨_,b4,?_⟩
 unfold Flm.block
 dsimp only
 rw [b1,show ((a:Nat):Int).toNat=a by omega,b3,if_pos b4.err]
 have e1:(((a:Nat):Int)=0)=(a=0):=by apply propext;omega
 have e2:(((b:Nat):Int)=0)=(b=0):=by apply propext;omega
 simp only [e1,e2]
 rfl
theorem tells_soft {z:Nat} {F:List (List Px)} {f x y n:Nat} (al:Al z x y n) (hT:∀ p ∈ F.getD f [],okPx p):TellsB z F f x y n (kind 0 0++softl z (F.getD f []) x y n):=by
 refine ⟨ok_app (kind_ok (by decide) (by decide)) (softl_ok hT z x y n).1,fun S rest fs hr hg=>?_⟩
 rw [List.append_assoc] at hr
 obtain ⟨r',h1,e⟩:=kind_reads (z:=z) (x:=x) (y:=y) (n:=n) hr
 rw [e,if_pos rfl,if_pos rfl]
 obtain ⟨h2,h3⟩:=soft_reads al hT (spots x y n) [] { fs with r:=r' } rfl h1 (hg.same rfl rfl fun q hq=>absurd hq (List.not_mem_nil))
 exact ⟨by rw [Flm.seen_r];exact h2,h3.seen al⟩
theorem tells_few {z:Nat} {F:List (List Px)} {f x y n:Nat} {cs:List Px} {ix:Nat × Nat->Nat} (al:Al z x y n) (hc:0<cs.length) (hc4:cs.length<=4) (hok:∀ c ∈ cs,okPx c)
  (hi:∀ q ∈ spots x y n,ix q<cs.length/\cs.getD (ix q) (0,0,0)=(F.getD f []).getD (q.2*z+q.1) (0,0,0)):TellsB z F f x y n (kind 0 1++fewl cs ix x y n):=by
 refine ⟨ok_app (kind_ok (by decide) (by decide)) (fewl_ok hc hc4 hok fun q hq=>(hi q hq).1),fun S rest fs hr hg=>?_⟩
 rw [List.append_assoc] at hr
 obtain ⟨r',h1,e⟩:=kind_reads (z:=z) (x:=x) (y:=y) (n:=n) hr
 rw [e,if_pos rfl,if_neg (by decide)]
 obtain ⟨h2,h3⟩:=few_reads (fs:={ fs with r:=r' }) al.xz al.yz hc hc4 hok hi h1 (hg.same rfl rfl fun _ h=>h)
 exact ⟨by rw [Flm.seen_r];exact h2,h3.seen al⟩
theorem tells_copy {z:Nat} {F:List (List Px)} {f x y n u v:Nat} (al:Al z x y n) (hs:Src z F f f x y n u v) (ha:rank (u+(n-1)) (v+(n-1))<rank x y):TellsB z F f x y n (kind 1 0++copyl 260 ((u:Int)-x) ((v:Int)-y)):=by
 have z1:=al.xz
 have z2:=al.yz
 have z3:=al.zz
 have z4:=hs.1
 refine ⟨ok_app (kind_ok (by decide) (by decide)) (copyl_ok (by decide) (by omega) (by omega) (by omega) (by omega)),fun S rest fs hr hg=>?_⟩
 rw [List.append_assoc] at hr
 obtain ⟨r',h1,e⟩:=kind_reads (z:=z) (x:=x) (y:=y) (n:=n) hr
 rw [e,if_neg (by decide),if_pos rfl,hg.now]
 obtain ⟨h2,h3⟩:=copies_reads (fs:={ fs with r:=r' }) al hs (.inl rfl) (fun _=>ha) h1 (hg.same rfl rfl fun _ h=>h)
 exact ⟨by rw [Flm.seen_r];exact h2,h3.seen al⟩
theorem tells_still {z:Nat} {F:List (List Px)} {f x y n u v:Nat} (al:Al z x y n) (hs:Src z F (f+1) f x y n u v):TellsB z F (f+1) x y n (kind 1 1++copyl 310 ((u:Int)-x) ((v:Int)-y)):=by
 have z1:=al.xz
 have z2:=al.yz
 have z3:=al.zz
 have z4:=hs.1
 refine ⟨ok_app (kind_ok (by decide) (by decide)) (copyl_ok (by decide) (by omega) (by omega) (by omega) (by omega)),fun S rest fs hr hg=>?_⟩
 rw [List.append_assoc] at hr
 obtain ⟨r',h1,e⟩:=kind_reads (z:=z) (x:=x) (y:=y) (n:=n) hr
 rw [e,if_neg (by decide),if_neg (by decide),hg.now,if_neg (by omega),Nat.add_sub_cancel]
 obtain ⟨h2,h3⟩:=copies_reads (fs:={ fs with r:=r' }) al hs (.inr (Nat.lt_succ_self f)) (fun h=>absurd h (by omega)) h1 (hg.same rfl rfl fun _ h=>h)
 exact ⟨by rw [Flm.seen_r];exact h2,h3.seen al⟩
end Pk
namespace Pk
def lighter (a b:WS):Bool:=if a.m=b.m then decide (b.rng<a.rng) else decide (a.m<b.m)
theorem lighter_le {a b:WS} (h:lighter a b=true):a.m<=b.m:=by
 unfold lighter at h
 split at h
 ·omega
 ·have:=of_decide_eq_true h;omega
end Pk
namespace Pk
open Flm (Px FS px now near turn back okPx spots put)
def better (t:WS) (b:Bts) (c:Option Bts):Bts:=match c with
 | none=>b
 | some l=>if lighter (Pack.puts t l) (Pack.puts t b) then l else b
theorem better_or (t:WS) (b:Bts) (c:Option Bts):better t b c=b \/ ∃ l,c=some l/\better t b c=l:=by
 unfold better
 cases c with
 | none=>exact .inl rfl
 | some l =>
  dsimp only
  split
  ·exact .inr ⟨l,rfl,rfl⟩
  ·exact .inl rfl
theorem better_m (t:WS) (b:Bts) (c:Option Bts):(Pack.puts t (better t b c)).m<=(Pack.puts t b).m:=by
 unfold better
 cases c with
 | none=>exact Nat.le_refl _
 | some l =>
  dsimp only
  split
  ·rename_i h;exact lighter_le h
  ·exact Nat.le_refl _
def pixT (z:Nat) (T:List Px) (q:Nat × Nat):Px:=T.getD (q.2*z+q.1) (0,0,0)
def find (c:Px):List (Px × Int)->Nat
 | []=>0
 | t :: l=>if t.1=c then 0 else find c l+1
def tally (l:List (Px × Int)) (c:Px):List (Px × Int):=if find c l<l.length then l.set (find c l) (c,(l.getD (find c l) ((0,0,0),0)).2+1) else l++[(c,1)]
def tallies:List Px->List (Px × Int)->Option (List (Px × Int))
 | [],l=>some l
 | c :: cs,l=>if find c l<l.length \/ l.length<4 then tallies cs (tally l c) else none
def swap (l:List (Px × Int)) (j:Nat):List (Px × Int):=(l.set j (l.getD (j-1) ((0,0,0),0))).set (j-1) (l.getD j ((0,0,0),0))
def sink:Nat->List (Px × Int)->List (Px × Int)
 | 0,l=>l
 | j+1,l=>if (l.getD j ((0,0,0),0)).2<(l.getD (j+1) ((0,0,0),0)).2 then sink j (swap l (j+1)) else l
def sorts:Nat->List (Px × Int)->List (Px × Int)
 | 0,l=>l
 | i+1,l=>sink i (sorts i l)
def coloursL (z:Nat) (T:List Px) (x y n:Nat):Option (List Px):=(tallies ((spots x y n).map (pixT z T)) []).map fun l=>(sorts l.length l).map (·.1)
def index (c:Px):List Px->Nat
 | []=>0
 | d :: l=>if d=c then 0 else index c l+1
theorem index_lt {c:Px}:∀ {l:List Px},c ∈ l->index c l<l.length/\l.getD (index c l) (0,0,0)=c
 | [],h=>absurd h (List.not_mem_nil)
 | d :: l,h=>by
  unfold index
  by_cases e:d=c
  ·rw [if_pos e];exact ⟨by simp,by simpa using e⟩
  ·rw [if_neg e]
   rcases List.mem_cons.1 h with h|h
   ·exact absurd h.symm e
   ·obtain ⟨h1,h2⟩:=index_lt h
    exact ⟨by rw [List.length_cons];omega,by rw [List.getD_cons_succ];exact h2⟩
theorem find_lt {c:Px}:∀ {l:List (Px × Int)},find c l<l.length->(l.getD (find c l) ((0,0,0),0)).1=c
 | [],h=>absurd h (by simp)
 | t :: l,h=>by
  unfold find at h ⊢
  by_cases e:t.1=c
  ·rw [if_pos e];exact e
  ·rw [if_neg e] at h ⊢
   rw [List.getD_cons_succ]
   exact find_lt (by rw [List.length_cons] at h;omega)
theorem tally_mem {l:List (Px × Int)} {c d:Px} (h:d=c \/ d ∈ l.map (·.1)):d ∈ (tally l c).map (·.1):=by
 unfold tally
 by_cases hf:find c l<l.length
 ·rw [if_pos hf]
  have e:(l.set (find c l) (c,(l.getD (find c l) ((0,0,0),0)).2+1)).map (·.1)=l.map (·.1):=by
   rw [List.map_set]
   apply List.ext_getElem
   ·rw [List.length_set]
   ·intro i h1 h2
    rw [List.getElem_set]
    split
    ·rename_i hi
     subst hi
     have:=find_lt hf
     rw [List.getD_eq_getElem?_getD,List.getElem?_eq_getElem hf] at this
     rw [List.getElem_map]
     exact this.symm
    ·rfl
  rw [e]
  rcases h with rfl|h
  ·have:=find_lt hf
   rw [List.getD_eq_getElem?_getD,List.getElem?_eq_getElem hf] at this
   rw [<- this]
   exact List.mem_map.2 ⟨_,List.getElem_mem hf,rfl⟩
  ·exact h
 ·rw [if_neg hf,List.map_append,List.mem_append]
  rcases h with rfl|h
  ·right;simp
  ·left;exact h
theorem tally_len {l:List (Px × Int)} {c:Px} (h:find c l<l.length \/ l.length<4) (h4:l.length<=4):(tally l c).length<=4/\0<(tally l c).length:=by
 unfold tally
 split
 ·rw [List.length_set];omega
 ·rw [List.length_append];simp only [List.length_cons,List.length_nil];omega
theorem tally_ok {l:List (Px × Int)} {c:Px} (hc:okPx c) (h:∀ t ∈ l,okPx t.1):∀ t ∈ tally l c,okPx t.1:=by
 intro t ht
 unfold tally at ht
 split at ht
 ·rcases List.mem_or_eq_of_mem_set ht with h1|h1
  ·exact h t h1
  ·rw [h1];exact hc
 ·rcases List.mem_append.1 ht with h1|h1
  ·exact h t h1
  ·rw [List.mem_singleton.1 h1];exact hc
theorem tallies_facts:∀ (cs:List Px) (l r:List (Px × Int)),tallies cs l=some r->l.length<=4->(∀ c ∈ cs,okPx c)->(∀ t ∈ l,okPx t.1) ->
  (r.length<=4/\(0<l.length \/ cs ≠ []->0<r.length))/\(∀ t ∈ r,okPx t.1)/\∀ d,d ∈ cs \/ d ∈ l.map (·.1)->d ∈ r.map (·.1)
 | [],l,r,h,h4,_,ho=>by
  have:l=r:=by unfold tallies at h;injection h
  subst this
  refine ⟨⟨h4,fun h=>?_⟩,ho,fun d hd=>?_⟩
  ·rcases h with h|h
   ·exact h
   ·exact absurd rfl h
  ·rcases hd with hd|hd
   ·exact absurd hd (List.not_mem_nil)
   ·exact hd
 | c :: cs,l,r,h,h4,hc,ho=>by
  unfold tallies at h
  split at h
  ·rename_i hf
   obtain ⟨l1,l2⟩:=tally_len hf h4
   obtain ⟨⟨r1,r2⟩,r3,r4⟩:=tallies_facts cs _ r h l1 (fun d hd=>hc d (by simp [hd])) (tally_ok (hc c (by simp)) ho)
   refine ⟨⟨r1,fun _=>r2 (.inl l2)⟩,r3,fun d hd=>r4 d ?_⟩
   rcases hd with hd|hd
   ·rcases List.mem_cons.1 hd with rfl|hd
    ·exact .inr (tally_mem (.inl rfl))
    ·exact .inl hd
   ·exact .inr (tally_mem (.inr hd))
  ·cases h
theorem swap_len (l:List (Px × Int)) (j:Nat):(swap l j).length=l.length:=by unfold swap;rw [List.length_set,List.length_set]
theorem swap_mem {l:List (Px × Int)} {j:Nat} (hj:j+1<l.length) (t:Px × Int):t ∈ swap l (j+1) ↔ t ∈ l:=by
 have e:∀ i,i<l.length->l.getD i ((0,0,0),0)=l[i]!:=fun i hi=>by
  rw [List.getD_eq_getElem?_getD,List.getElem?_eq_getElem hi,List.getElem!_eq_getElem?_getD,List.getElem?_eq_getElem hi];rfl
 have key:∀ i,(swap l (j+1))[i]?=if i=j then l[j+1]? else if i=j+1 then l[j]? else l[i]?:=fun i=>by
  unfold swap
  rw [Nat.add_sub_cancel,List.getElem?_set,List.length_set,List.getElem?_set]
  by_cases h1:j=i
  ·subst h1
   rw [if_pos rfl,if_pos (by omega),if_pos rfl,List.getD_eq_getElem?_getD,List.getElem?_eq_getElem hj]
   rfl
  ·rw [if_neg h1,if_neg (Ne.symm h1)]
   by_cases h2:j+1=i
   ·subst h2
    rw [if_pos rfl,if_pos hj,if_pos rfl,List.getD_eq_getElem?_getD,List.getElem?_eq_getElem (by omega)]
    rfl
   ·rw [if_neg h2,if_neg (Ne.symm h2)]
 clear e
 rw [List.mem_iff_getElem?,List.mem_iff_getElem?]
 constructor
 ·rintro ⟨i,hi⟩
  rw [key] at hi
  split at hi
  ·exact ⟨_,hi⟩
  ·split at hi
   ·exact ⟨_,hi⟩
   ·exact ⟨_,hi⟩
 ·rintro ⟨i,hi⟩
  by_cases h1:i=j
  ·subst h1;exact ⟨i+1,by rw [key,if_neg (by omega),if_pos rfl];exact hi⟩
  ·by_cases h2:i=j+1
   ·subst h2;exact ⟨j,by rw [key,if_pos rfl];exact hi⟩
   ·exact ⟨i,by rw [key,if_neg h1,if_neg h2];exact hi⟩
theorem sink_facts:∀ (j:Nat) (l:List (Px × Int)),j<l.length \/ j=0->(sink j l).length=l.length/\∀ t,t ∈ sink j l ↔ t ∈ l
 | 0,_,_=>⟨rfl,fun _=>Iff.rfl⟩
 | j+1,l,h=>by
  unfold sink
  split
  ·obtain ⟨h1,h2⟩:=sink_facts j (swap l (j+1)) (.inl (by rw [swap_len];omega))
   exact ⟨by rw [h1,swap_len],fun t=>(h2 t).trans (swap_mem (by omega) t)⟩
  ·exact ⟨rfl,fun _=>Iff.rfl⟩
theorem sorts_facts:∀ (i:Nat) (l:List (Px × Int)),i<=l.length->(sorts i l).length=l.length/\∀ t,t ∈ sorts i l ↔ t ∈ l
 | 0,_,_=>⟨rfl,fun _=>Iff.rfl⟩
 | i+1,l,h=>by
  obtain ⟨h1,h2⟩:=sorts_facts i l (by omega)
  obtain ⟨h3,h4⟩:=sink_facts i (sorts i l) (.inl (by omega))
  exact ⟨by unfold sorts;rw [h3,h1],fun t=>(h4 t).trans (h2 t)⟩
theorem colours_facts {z:Nat} {T:List Px} {x y n:Nat} {cs:List Px} (hT:∀ p ∈ T,okPx p) (hn:0<n) (h:coloursL z T x y n=some cs):(0<cs.length/\cs.length<=4)/\(∀ c ∈ cs,okPx c)/\∀ q ∈ spots x y n,pixT z T q ∈ cs:=by
 unfold coloursL at h
 cases e:tallies ((spots x y n).map (pixT z T)) [] with
 | none=>rw [e] at h;cases h
 | some r =>
  rw [e] at h
  obtain rfl:(sorts r.length r).map (·.1)=cs:=by injection h
  obtain ⟨⟨r1,r2⟩,r3,r4⟩:=tallies_facts _ _ r e (by simp) (fun c hc=>by
   obtain ⟨q,_,rfl⟩:=List.mem_map.1 hc
   exact getD_ok hT _) (fun t ht=>absurd ht (List.not_mem_nil))
  obtain ⟨s1,s2⟩:=sorts_facts r.length r (Nat.le_refl _)
  have hs:spots x y n ≠ []:=fun e0=>by
   have:=Flm.spots_len x y n
   rw [e0] at this
   have:0<n*n:=Nat.mul_pos hn hn
   simp only [List.length_nil] at *
   omega
  refine ⟨⟨?_,?_⟩,fun c hc=>?_,fun q hq=>?_⟩
  ·rw [List.length_map,s1]
   exact r2 (.inr (by simpa using hs))
  ·rw [List.length_map,s1];exact r1
  ·obtain ⟨t,ht,rfl⟩:=List.mem_map.1 hc
   exact r3 t ((s2 t).1 ht)
  ·have:=r4 (pixT z T q) (.inl (List.mem_map.2 ⟨q,hq,rfl⟩))
   obtain ⟨t,ht,e1⟩:=List.mem_map.1 this
   exact List.mem_map.2 ⟨t,(s2 t).2 ht,e1⟩
def content (z:Nat) (T:List Px) (n:Nat) (q:Nat × Nat):List Px:=(spots q.1 q.2 n).map (pixT z T)
def placesL (z:Nat) (T:List Px) (n:Nat) (c:List Px):List (Nat × Nat):=(spots 0 0 (z-n+1)).filter fun q=>decide (content z T n q=c)
def cost (x y:Nat) (q:Nat × Nat):Nat:=(2*dig (fold ((q.1:Int)-x))+1)+(2*dig (fold ((q.2:Int)-y))+1)
def near1 (may:Nat × Nat->Bool) (x y:Nat) (b:Option (Nat × Nat)) (q:Nat × Nat):Option (Nat × Nat):=match b with
 | none=>if may q then some q else none
 | some p=>if may q && decide (cost x y q<cost x y p) then some q else some p
def nearL (may:Nat × Nat->Bool) (x y:Nat) (l:List (Nat × Nat)):Option (Nat × Nat):=l.foldl (near1 may x y) none
theorem near_fold {may:Nat × Nat->Bool} {x y:Nat} {P:Nat × Nat->Prop}:∀ (l:List (Nat × Nat)) (b:Option (Nat × Nat)),(∀ q ∈ l,may q=true->P q)->(∀ q,b=some q->P q)->∀ q,l.foldl (near1 may x y) b=some q->P q
 | [],_,_,hb=>hb
 | p :: l,b,hl,hb=>by
  rw [List.foldl_cons]
  refine near_fold l _ (fun q hq=>hl q (by simp [hq])) fun q hq=>?_
  unfold near1 at hq
  cases b with
  | none =>
   dsimp only at hq
   split at hq
   ·rename_i hm;injection hq with hq;subst hq;exact hl _ (by simp) hm
   ·cases hq
  | some b =>
   dsimp only at hq
   split at hq
   ·rename_i hm
    injection hq with hq;subst hq
    rw [Bool.and_eq_true] at hm
    exact hl _ (by simp) hm.1
   ·injection hq with hq;subst hq;exact hb _ rfl
theorem near_some {may:Nat × Nat->Bool} {x y:Nat} {l:List (Nat × Nat)} {q:Nat × Nat} (h:nearL may x y l=some q):q ∈ l/\may q=true :=
 near_fold (P:=fun q=>q ∈ l/\may q=true) l none (fun q hq hm=>⟨hq,hm⟩) (fun q hq=>by cases hq) q h
theorem spots_get {x y n i j:Nat} (hi:i<n) (hj:j<n):(spots x y n)[j*n+i]?=some (x+i,y+j):=by
 have h:=Flm.left_cons x y n j i hj hi
 unfold Flm.left at h
 have h2:((spots x y n).drop (j*n+i))[0]?=some (x+i,y+j):=by rw [h];rfl
 rw [List.getElem?_drop,Nat.add_zero] at h2
 exact h2
theorem places_src {z:Nat} {F:List (List Px)} {f g x y n:Nat} {q:Nat × Nat} (hn:n<=z) (h:q ∈ placesL z (F.getD g []) n (content z (F.getD f []) n (x,y))):Src z F f g x y n q.1 q.2:=by
 unfold placesL at h
 obtain ⟨h1,h2⟩:=List.mem_filter.1 h
 have h3:=of_decide_eq_true h2
 obtain ⟨⟨a,b⟩,c,d⟩:=spots_mem.1 h1
 refine ⟨⟨by omega,by omega⟩,fun i j hi hj=>?_⟩
 unfold content at h3
 have e:((spots q.1 q.2 n).map (pixT z (F.getD g [])))[j*n+i]?=((spots x y n).map (pixT z (F.getD f [])))[j*n+i]?:=by rw [h3]
 rw [List.getElem?_map,List.getElem?_map,spots_get hi hj,spots_get hi hj] at e
 injection e
def softC (z:Nat) (T:List Px) (x y n:Nat):Bts:=hd n 0++(kind 0 0++softl z T x y n)
def fewC (z:Nat) (T:List Px) (x y n:Nat):Option Bts:=(coloursL z T x y n).map fun cs=>hd n 0++(kind 0 1++fewl cs (fun q=>index (pixT z T q) cs) x y n)
def mayCopy (x y n:Nat) (q:Nat × Nat):Bool:=decide (rank (q.1+(n-1)) (q.2+(n-1))<rank x y)
def copyC (z:Nat) (T:List Px) (x y n:Nat):Option Bts:=(nearL (mayCopy x y n) x y (placesL z T n (content z T n (x,y)))).map fun q=>hd n 0++(kind 1 0++copyl 260 ((q.1:Int)-x) ((q.2:Int)-y))
def stillC (z:Nat) (F:List (List Px)) (f x y n:Nat):Option Bts:=if f=0 then none else (nearL (fun _=>true) x y (placesL z (F.getD (f-1) []) n (content z (F.getD f []) n (x,y)))).map fun q=>hd n 0++(kind 1 1++copyl 310 ((q.1:Int)-x) ((q.2:Int)-y))
def blockL (z:Nat) (F:List (List Px)) (f:Nat) (t:WS) (x y n:Nat):Bts :=
 better t (better t (better t (softC z (F.getD f []) x y n) (fewC z (F.getD f []) x y n)) (copyC z (F.getD f []) x y n)) (stillC z F f x y n)
def plainB (z:Nat) (T:List Px) (x y n:Nat):Bool:=(spots x y n).all fun q=>decide (pixT z T q=pixT z T (x,y))
def areaL (z:Nat) (F:List (List Px)) (f:Nat):Nat->WS->Nat->Nat->Nat->Bts
 | 0,t,x,y,n=>blockL z F f t x y n
 | c+1,t,x,y,n =>
  let b:=blockL z F f t x y n
  if plainB z (F.getD f []) x y n then b
  else
   let h:=n / 2
   let d0:Bts:=[(if n=16 then 0 else 1,1)]
   let d1:=d0++areaL z F f c (Pack.puts t d0) x y h
   let d2:=d1++areaL z F f c (Pack.puts t d1) (x+h) y h
   let d3:=d2++areaL z F f c (Pack.puts t d2) x (y+h) h
   let d4:=d3++areaL z F f c (Pack.puts t d3) (x+h) (y+h) h
   better t b (some d4)
def filmL (z:Nat) (F:List (List Px)):Nat->Bts
 | 0=>[]
 | f+1=>filmL z F f++areaL z F f (Flm.cuts z) (Pack.puts Pack.init (filmL z F f)) 0 0 z
theorem block_tells {z:Nat} {F:List (List Px)} {f x y n:Nat} (al:Al z x y n) (hT:∀ p ∈ F.getD f [],okPx p) (t:WS):Tells z F f x y n (blockL z F f t x y n):=by
 have z1:=al.xz
 have hn:0<n:=by rcases al.an with rfl|rfl|rfl <;> decide
 have h0:Tells z F f x y n (softC z (F.getD f []) x y n):=tells_block al (tells_soft al hT)
 have h1:∀ l,fewC z (F.getD f []) x y n=some l->Tells z F f x y n l:=fun l hl=>by
  unfold fewC at hl
  cases e:coloursL z (F.getD f []) x y n with
  | none=>rw [e] at hl;cases hl
  | some cs =>
   rw [e] at hl
   obtain rfl:hd n 0++(kind 0 1++fewl cs (fun q=>index (pixT z (F.getD f []) q) cs) x y n)=l:=by injection hl
   obtain ⟨⟨c1,c2⟩,c3,c4⟩:=colours_facts hT hn e
   exact tells_block al (tells_few al c1 c2 c3 fun q hq=>index_lt (c4 q hq))
 have h2:∀ l,copyC z (F.getD f []) x y n=some l->Tells z F f x y n l:=fun l hl=>by
  unfold copyC at hl
  cases e:nearL (mayCopy x y n) x y (placesL z (F.getD f []) n (content z (F.getD f []) n (x,y))) with
  | none=>rw [e] at hl;cases hl
  | some q =>
   rw [e] at hl
   obtain rfl:hd n 0++(kind 1 0++copyl 260 ((q.1:Int)-x) ((q.2:Int)-y))=l:=by injection hl
   obtain ⟨n1,n2⟩:=near_some e
   exact tells_block al (tells_copy al (places_src (by omega) n1) (of_decide_eq_true n2))
 have h3:∀ l,stillC z F f x y n=some l->Tells z F f x y n l:=fun l hl=>by
  unfold stillC at hl
  split at hl
  ·cases hl
  ·rename_i hf
   obtain ⟨g,rfl⟩:∃ g,f=g+1:=⟨f-1,by omega⟩
   rw [Nat.add_sub_cancel] at hl
   cases e:nearL (fun _=>true) x y (placesL z (F.getD g []) n (content z (F.getD (g+1) []) n (x,y))) with
   | none=>rw [e] at hl;cases hl
   | some q =>
    rw [e] at hl
    obtain rfl:hd n 0++(kind 1 1++copyl 310 ((q.1:Int)-x) ((q.2:Int)-y))=l:=by injection hl
    obtain ⟨n1,n2⟩:=near_some e
    exact tells_block al (tells_still al (places_src (by omega) n1))
 have hb:∀ b c,Tells z F f x y n b->(∀ l,c=some l->Tells z F f x y n l)->Tells z F f x y n (better t b c):=fun b c g1 g2=>by
  rcases better_or t b c with e|⟨l,e1,e2⟩
  ·rw [e];exact g1
  ·rw [e2];exact g2 l e1
 exact hb _ _ (hb _ _ (hb _ _ h0 h1) h2) h3
theorem softC_len {T:List Px} (h:∀ p ∈ T,okPx p) (z x y n:Nat):(softC z T x y n).length<=57*(n*n)+3:=by
 unfold softC
 have h1:=(softl_ok h z x y n).2
 have h2:(hd n 0).length<=1:=by unfold hd;split <;> simp
 rw [List.length_append,List.length_append]
 have h3:(kind 0 0).length=2:=rfl
 omega
theorem block_m {z:Nat} {F:List (List Px)} {f:Nat} (hT:∀ p ∈ F.getD f [],okPx p) (t:WS) (x y n:Nat):(Pack.puts t (blockL z F f t x y n)).m<=t.m+57*(n*n)+3:=by
 have h1:=Pack.puts_m (softC z (F.getD f []) x y n) t
 have h2:=softC_len hT z x y n
 have h3:=better_m t (softC z (F.getD f []) x y n) (fewC z (F.getD f []) x y n)
 have h4:=better_m t (better t (softC z (F.getD f []) x y n) (fewC z (F.getD f []) x y n)) (copyC z (F.getD f []) x y n)
 have h5:=better_m t (better t (better t (softC z (F.getD f []) x y n) (fewC z (F.getD f []) x y n)) (copyC z (F.getD f []) x y n)) (stillC z F f x y n)
 unfold blockL
 omega
theorem area_facts {z:Nat} {F:List (List Px)} {f:Nat} (hT:∀ p ∈ F.getD f [],okPx p):∀ (c:Nat) (t:WS) (x y n:Nat),Al z x y n->c=Flm.cuts n->Tells z F f x y n (areaL z F f c t x y n)/\(Pack.puts t (areaL z F f c t x y n)).m<=t.m+57*(n*n)+3
 | 0,t,x,y,n,al,_=>⟨block_tells al hT t,block_m hT t x y n⟩
 | c+1,t,x,y,n,al,hc=>by
  have hb:=block_tells al hT t
  have hm:=block_m (z:=z) hT t x y n
  unfold areaL
  dsimp only
  split
  ·exact ⟨hb,hm⟩
  ·obtain ⟨h,hh,rfl⟩:∃ h,(h=4 \/ h=8)/\n=2*h:=by
    rcases al.an with rfl|rfl|rfl
    ·exact absurd hc (by unfold Flm.cuts;simp)
    ·exact ⟨4,.inl rfl,rfl⟩
    ·exact ⟨8,.inr rfl,rfl⟩
   have hc':c=Flm.cuts h:=by
    rcases hh with rfl|rfl
    ·have:c+1=1:=hc;unfold Flm.cuts;simp;omega
    ·have:c+1=2:=hc;unfold Flm.cuts;simp;omega
   rw [show 2*h / 2=h by omega]
   obtain ⟨⟨a1,a2,a3,a4⟩,_⟩:=al.quarters hh
   refine ⟨?_,Nat.le_trans (better_m _ _ _) hm⟩
   rcases better_or t (blockL z F f t x y (2*h)) (some _) with e|⟨l,e1,e2⟩
   ·rw [e];exact hb
   ·rw [e2]
    injection e1 with e1
    rw [<- e1]
    have e3:∀ (p:Nat × Int) (l1 l2 l3 l4:Bts),[p]++l1++l2++l3++l4=p :: (l1++(l2++(l3++l4))):=fun p l1 l2 l3 l4=>by simp
    rw [e3]
    exact tells_split hh al (area_facts hT c _ x y h a1 hc').1 (area_facts hT c _ (x+h) y h a2 hc').1 (area_facts hT c _ x (y+h) h a3 hc').1 (area_facts hT c _ (x+h) (y+h) h a4 hc').1
end Pk
section
open Go.RowKit
open Flm (Px FS okPx)
abbrev Tl:=Px × Int
abbrev tl0:Tl:=((0,0,0),0)
def talCells (l:List Tl):List Value:=l.flatMap fun t=>[.int .u8 t.1.1,.int .u8 t.1.2.1,.int .u8 t.1.2.2,.int .i64 t.2]
theorem talCells_cons (t:Tl) (l:List Tl):talCells (t :: l)=.int .u8 t.1.1 :: .int .u8 t.1.2.1 :: .int .u8 t.1.2.2 :: .int .i64 t.2 :: talCells l:=rfl
theorem talCells_get (l:List Tl) (r:List Value) {k:Nat} {t:Tl} (h:l[k]?=some t) :
  (talCells l++r)[k*4]?=some (.int .u8 t.1.1)/\(talCells l++r)[k*4+1]?=some (.int .u8 t.1.2.1)/\(talCells l++r)[k*4+2]?=some (.int .u8 t.1.2.2)/\(talCells l++r)[k*4+3]?=some (.int .i64 t.2):=by
 induction l generalizing k with
 | nil=>simp at h
 | cons p l ih =>
  rw [talCells_cons]
  cases k with
  | zero =>
   obtain rfl:p=t:=by simpa using h
   exact ⟨rfl,rfl,rfl,rfl⟩
  | succ k =>
   have h':l[k]?=some t:=by simpa using h
   have e1:(k+1)*4=k*4+1+1+1+1:=by omega
   rw [e1]
   simp only [List.cons_append,List.getElem?_cons_succ]
   exact ih h'
theorem talCells_set (l:List Tl) (r:List Value) {k:Nat} (hk:k<l.length) (t:Tl) :
  ((((talCells l++r).set (k*4) (.int .u8 t.1.1)).set (k*4+1) (.int .u8 t.1.2.1)).set (k*4+2) (.int .u8 t.1.2.2)).set (k*4+3) (.int .i64 t.2)=talCells (l.set k t)++r:=by
 induction l generalizing k with
 | nil=>simp at hk
 | cons p l ih =>
  rw [talCells_cons]
  cases k with
  | zero=>rfl
  | succ k =>
   have e1:(k+1)*4=k*4+1+1+1+1:=by omega
   rw [e1,List.set_cons_succ,talCells_cons]
   simp only [List.cons_append,List.set_cons_succ]
   rw [ih (by simpa using hk)]
def TalB (w:World) (g:Nat) (l:List Tl):Prop:=∃ r,w.heap[g]?=some (.cells (talCells l++r).toArray 258 (0,0))
def TalK (w:World) (g k:Nat) (t:Tl):Prop:=w.cell? ⟨g,k*4,none⟩=some (.int .u8 t.1.1)/\w.cell? ⟨g,k*4+1,none⟩=some (.int .u8 t.1.2.1)/\w.cell? ⟨g,k*4+2,none⟩=some (.int .u8 t.1.2.2)/\w.cell? ⟨g,k*4+3,none⟩=some (.int .i64 t.2)
theorem TalB.at {w:World} {g:Nat} {l:List Tl} (h:TalB w g l) {k:Nat} {t:Tl} (hk:l[k]?=some t):TalK w g k t:=by
 obtain ⟨r,h⟩:=h
 obtain ⟨a,b,c,d⟩:=talCells_get l r hk
 have q:=fun j=>cell_of_row _ _ j _ _ _ h
 simp only [List.getElem?_toArray] at q
 exact ⟨(q _).trans a,(q _).trans b,(q _).trans c,(q _).trans d⟩
theorem TalB.frz {w:World} {g:Nat} {l:List Tl} (h:TalB w g l) (o:Nat):w.frozen? ⟨g,o,none⟩=false:=by
 obtain ⟨r,h⟩:=h
 exact frozen_of_row _ _ o _ _ h
theorem TalB.lt {w:World} {g:Nat} {l:List Tl} (h:TalB w g l):g<w.heap.size:=by
 obtain ⟨r,h⟩:=h
 exact heap_lt0 h
theorem TalB.frm {S:Nat->Prop} {w w':World} {g:Nat} {l:List Tl} (h:TalB w g l) (f:Frm S w w') (hs:¬ S g):TalB w' g l:=by
 obtain ⟨r,h⟩:=h
 exact ⟨r,(f.block g (heap_lt0 h) hs).trans h⟩
theorem TalB.below {w w':World} {g:Nat} {l:List Tl} (h:TalB w g l) (f:Below w.heap.size w w'):TalB w' g l:=h.frm (Frm.of_below (S:=fun _=>False) f) (fun e=>e)
def st4 (w:World) (g k:Nat) (t:Tl):World:=(((w.setCell ⟨g,k*4,none⟩ (.int .u8 t.1.1)).setCell ⟨g,k*4+1,none⟩ (.int .u8 t.1.2.1)).setCell ⟨g,k*4+2,none⟩ (.int .u8 t.1.2.2)).setCell ⟨g,k*4+3,none⟩ (.int .i64 t.2)
theorem TalB.store {w:World} {g:Nat} {l:List Tl} (h:TalB w g l) {k:Nat} (hk:k<l.length) (t:Tl):TalB (st4 w g k t) g (l.set k t):=by
 obtain ⟨r,h⟩:=h
 refine ⟨r,?_⟩
 unfold st4
 rw [Go.heap_setCell_same _ _ _ _ _ _ (Go.heap_setCell_same _ _ _ _ _ _ (Go.heap_setCell_same _ _ _ _ _ _ (Go.heap_setCell_same _ _ _ _ _ _ h))),List.setIfInBounds_toArray,List.setIfInBounds_toArray,List.setIfInBounds_toArray,List.setIfInBounds_toArray,talCells_set l r hk t]
theorem st4_frm (w:World) (g k:Nat) (t:Tl):Frm (fun j=>j=g) w (st4 w g k t):=by
 unfold st4
 exact ((((Frm.refl (fun j=>j=g) w).setCell (p:=⟨g,k*4,none⟩) (.inl rfl) _).setCell (p:=⟨g,k*4+1,none⟩) (.inl rfl) _).setCell (p:=⟨g,k*4+2,none⟩) (.inl rfl) _).setCell (p:=⟨g,k*4+3,none⟩) (.inl rfl) _
def cmp3 (a b:Int):Int:=if a<b then -1 else if b<a then 1 else 0
theorem cmp3_neg (a b:Int):cmp3 a b<0 ↔ a<b:=by unfold cmp3;split <;> (try split) <;> omega
theorem pIsNaN (w:World) (a:Int):Calls Tryz.prog 179 #[.int .i64 a] w fun e w'=>e=.returned (.bool false)/\w'=w:=by
 go_enter Tryz.func179,Tryz.ntmps179
 go_wp2
 go_ret
 exact ⟨by simp,rfl⟩
theorem pCompare (w:World) (a b:Int):Calls Tryz.prog 161 #[.int .i64 a,.int .i64 b] w fun e w'=>e=.returned (.int .i64 (cmp3 a b))/\w'=w:=by
 unfold cmp3
 have h1:=pIsNaN w a
 have h2:=pIsNaN w b
 have T1:Hid True:=trivial
 by_cases hab:a<b
 ·rw [if_pos hab]
  go_enter Tryz.func161,Tryz.ntmps161
  go_wp2_with (first
   | (clear T1;go_at_call 179;refine h1.mono ?_;rintro e w' ⟨rfl,rfl⟩)
   | (go_at_call 179;refine h2.mono ?_;rintro e w' ⟨rfl,rfl⟩))
  go_ret
  exact ⟨rfl,rfl⟩
 ·rw [if_neg hab]
  by_cases hba:b<a
  ·rw [if_pos hba]
   go_enter Tryz.func161,Tryz.ntmps161
   go_wp2_with (first
    | (clear T1;go_at_call 179;refine h1.mono ?_;rintro e w' ⟨rfl,rfl⟩)
    | (go_at_call 179;refine h2.mono ?_;rintro e w' ⟨rfl,rfl⟩))
   go_ret
   exact ⟨rfl,rfl⟩
  ·rw [if_neg hba]
   go_enter Tryz.func161,Tryz.ntmps161
   go_wp2_with (first
    | (clear T1;go_at_call 179;refine h1.mono ?_;rintro e w' ⟨rfl,rfl⟩)
    | (go_at_call 179;refine h2.mono ?_;rintro e w' ⟨rfl,rfl⟩))
   go_ret
   exact ⟨rfl,rfl⟩
theorem pCmp (w:World) (a0 a1 a2 b0 b1 b2 a b:Int):Calls Tryz.prog 160 #[.agg #[.int .u8 a0,.int .u8 a1,.int .u8 a2,.int .i64 a],.agg #[.int .u8 b0,.int .u8 b1,.int .u8 b2,.int .i64 b]] w fun e w'=>e=.returned (.int .i64 (cmp3 b a))/\Below w.heap.size w w':=by
 have hB:Below w.heap.size w ((w.alloc (.cells #[.int .u8 a0,.int .u8 a1,.int .u8 a2,.int .i64 a] 258)).alloc (.cells #[.int .u8 b0,.int .u8 b1,.int .u8 b2,.int .i64 b] 258)):=((Below.refl _ w).alloc (Nat.le_refl _) _).alloc (by simp) _
 have HB:Hid (Below w.heap.size w ((w.alloc (.cells #[.int .u8 a0,.int .u8 a1,.int .u8 a2,.int .i64 a] 258)).alloc (.cells #[.int .u8 b0,.int .u8 b1,.int .u8 b2,.int .i64 b] 258))):=hB
 clear hB
 go_enter Tryz.func160,Tryz.ntmps160
 go_wp2_with (go_at_call 161;refine (pCompare _ b a).mono ?_;rintro e w' ⟨rfl,rfl⟩)
 go_ret
 exact ⟨rfl,HB.out⟩
end
end Go.Proofs.YtekfbphnoibnjaaGreatDoor
