/-
  PkNum PkRank PkBlk PkFew
-/
import Derived.Test.YtekfbphnoibnjaaGreatDoorG15
set_option maxHeartbeats 4000000
namespace Go.Proofs.YtekfbphnoibnjaaGreatDoor
namespace Pk
abbrev Bts:=List (Nat × Int)
structure Rd (S:ByteArray) (l:Bts) (r:RS):Prop where
 ex:∃ t u:WS,Pack.Rel u.n u.m t r/\Pack.Ok t/\Pack.puts t l=u/\Pack.BytesOf S u.n u.m
 ok:Pack.BitsOk l
 rok:Rdr.Ok S r
theorem Rd.err {S:ByteArray} {l:Bts} {r:RS} (h:Rd S l r):r.err=0:=by
 obtain ⟨t,u,h1,_⟩:=h.ex
 exact h1.err
theorem Rd.bit {S:ByteArray} {k:Nat} {v:Int} {l:Bts} {r:RS} (h:Rd S ((k,v) :: l) r):Rdr.bitV r k=v/\Rd S l (Rdr.bitS S r k):=by
 obtain ⟨t,u,h1,h2,h3,h4⟩:=h.ex
 obtain ⟨hk,hv⟩:=h.ok (k,v) (by simp)
 have hl:Pack.BitsOk l:=fun p hp=>h.ok p (by simp [hp])
 have ok':=h2.put hk v
 have h3':Pack.puts (Pack.put t k v) l=u:=h3
 have okf:=Pack.puts_ok l _ ok' (fun p hp=>(hl p hp).1)
 have hin:=Pack.puts_in l _ ok' (fun p hp=>(hl p hp).1)
 rw [h3'] at okf hin
 have hr0:=okf.r0
 obtain ⟨s1,s2⟩:=Pack.rel_step h4 h1 hv hin rfl rfl (by omega)
 exact ⟨s1,⟨⟨_,u,s2,ok',h3',h4⟩,hl,h.rok.bitS hk⟩⟩
theorem Rd.done {S:ByteArray} {r:RS} (h:Rd S [] r):r.pos=S.size:=by
 obtain ⟨t,u,h1,h2,h3,h4⟩:=h.ex
 have h3':t=u:=h3
 subst h3'
 rw [h1.pos,h4.size]
theorem Rd.start {S:ByteArray} {l:Bts} (hl:Pack.BitsOk l) (hS:Pack.BytesOf S (Pack.fin l).n (Pack.fin l).m):Rd S l (Rdr.start S ch0) :=
 ⟨⟨Pack.init,Pack.fin l,Pack.start_rel hl hS,Pack.init_ok,rfl,hS⟩,hl,Rdr.start_ok S ch0 Pack.init_ok.ch⟩
def ones (k:Nat):Nat->Nat->Bts
 | _,0=>[]
 | i,n+1=>(k+i,1) :: ones k (i+1) n
def lowb (c m:Nat):Nat->Bts
 | 0=>[]
 | n+1=>(c,((m / 2 ^ n % 2:Nat):Int)) :: lowb c m n
def dig (m:Nat):Nat:=Nat.log2 (m+1)
def num (k m:Nat):Bts:=ones k 0 (dig m)++(k+dig m,0) :: lowb (k+12+dig m) (m+1) (dig m)
def fold (n:Int):Nat:=if n<0 then (-2*n-1).toNat else (2*n).toNat
def sgn (k:Nat) (n:Int):Bts:=num k (fold n)
theorem dig_le {m:Nat} (h:m<=1022):dig m<=9:=by
 have h1:2 ^ dig m<=m+1:=Nat.log2_self_le (by omega)
 rcases Nat.lt_or_ge 9 (dig m) with h2|h2
 ·have h3:2 ^ 10<=2 ^ dig m:=Nat.pow_le_pow_right (by decide) h2
  omega
 ·exact h2
theorem dig_lo (m:Nat):2 ^ dig m<=m+1:=Nat.log2_self_le (by omega)
theorem dig_hi (m:Nat):m+1<2 ^ (dig m+1):=Nat.lt_log2_self
theorem fold_le {n:Int} (h0:-511<=n) (h1:n<=511):fold n<=1022:=by unfold fold;split <;> omega
theorem ones_len (k:Nat):∀ n i,(ones k i n).length=n
 | 0,_=>rfl
 | n+1,i=>by show (ones k (i+1) n).length+1=n+1;rw [ones_len]
theorem lowb_len (c m:Nat):∀ n,(lowb c m n).length=n
 | 0=>rfl
 | n+1=>by show (lowb c m n).length+1=n+1;rw [lowb_len]
theorem num_len (k m:Nat):(num k m).length=2*dig m+1:=by
 unfold num
 rw [List.length_append,ones_len,List.length_cons,lowb_len]
 omega
theorem ones_ok (k:Nat):∀ n i,k+i+n<=400->Pack.BitsOk (ones k i n)
 | 0,_,_=>fun _ hp=>absurd hp (List.not_mem_nil)
 | n+1,i,h=>fun p hp=>by
  rcases List.mem_cons.1 hp with rfl|hp
  ·exact ⟨by show k+i<400;omega,.inr rfl⟩
  ·exact ones_ok k n (i+1) (by omega) p hp
theorem lowb_ok (c m:Nat) (hc:c<400):∀ n,Pack.BitsOk (lowb c m n)
 | 0=>fun _ hp=>absurd hp (List.not_mem_nil)
 | n+1=>fun p hp=>by
  rcases List.mem_cons.1 hp with rfl|hp
  ·exact ⟨hc,by show ((m / 2 ^ n % 2:Nat):Int)=0 \/ ((m / 2 ^ n % 2:Nat):Int)=1;omega⟩
  ·exact lowb_ok c m hc n p hp
theorem ok_app {l r:Bts} (h:Pack.BitsOk l) (k:Pack.BitsOk r):Pack.BitsOk (l++r):=fun p hp=>by
 rcases List.mem_append.1 hp with hp|hp
 ·exact h p hp
 ·exact k p hp
theorem ok_cons {l:Bts} {c:Nat} {v:Int} (hc:c<400) (hv:v=0 \/ v=1) (h:Pack.BitsOk l):Pack.BitsOk ((c,v) :: l):=fun p hp=>by
 rcases List.mem_cons.1 hp with rfl|hp
 ·exact ⟨hc,hv⟩
 ·exact h p hp
theorem ok_nil:Pack.BitsOk []:=fun _ hp=>absurd hp (List.not_mem_nil)
theorem num_ok {k m:Nat} (hm:m<=1022) (hk:k+22<=400):Pack.BitsOk (num k m):=by
 have:=dig_le hm
 exact ok_app (ones_ok k _ 0 (by omega)) (ok_cons (by omega) (.inl rfl) (lowb_ok _ _ (by omega) _))
theorem run_reads {S:ByteArray} {k:Nat} {rest:Bts}:∀ (j f n:Nat) (r:RS),j+1<=f->n+j<=9->Rd S (ones k n j++(k+(n+j),0) :: rest) r->∃ r',Rdr.run S k f n r=(n+j,r')/\Rd S rest r'
 | 0,f+1,n,r,_,_,h=>by
  obtain ⟨b1,b2⟩:=Rd.bit (l:=rest) (k:=k+n) h
  refine ⟨_,?_,b2⟩
  unfold Rdr.run
  rw [if_pos h.err,if_pos b1]
  rfl
 | j+1,f+1,n,r,h1,h2,h=>by
  have h':Rd S ((k+n,1) :: (ones k (n+1) j++(k+(n+(j+1)),0) :: rest)) r:=h
  obtain ⟨b1,b2⟩:=h'.bit
  rw [show n+(j+1)=n+1+j by omega] at b2 ⊢
  obtain ⟨r',e,h3⟩:=run_reads j f (n+1) _ (by omega) (by omega) b2
  refine ⟨r',?_,h3⟩
  unfold Rdr.run
  rw [if_pos h.err,if_neg (by rw [b1];decide),if_neg (by omega)]
  exact e
theorem lows_reads {S:ByteArray} {c m:Nat} {rest:Bts}:∀ (f:Nat) (d u:Int) (r:RS),Rd S (lowb c m f++rest) r->∃ r',Rdr.lows S c f d u r=(d*2 ^ f+((m % 2 ^ f:Nat):Int),u*2 ^ f,r')/\Rd S rest r'
 | 0,d,u,r,h=>⟨r,by unfold Rdr.lows;simp [Nat.mod_one],h⟩
 | f+1,d,u,r,h=>by
  have h':Rd S ((c,((m / 2 ^ f % 2:Nat):Int)) :: (lowb c m f++rest)) r:=h
  obtain ⟨b1,b2⟩:=h'.bit
  obtain ⟨r',e,h3⟩:=lows_reads f (2*d+((m / 2 ^ f % 2:Nat):Int)) (2*u) _ b2
  refine ⟨r',?_,h3⟩
  unfold Rdr.lows
  rw [if_pos h.err,b1,e,Nat.mod_pow_succ,Int.pow_succ]
  have e1:((m % 2 ^ f+2 ^ f*(m / 2 ^ f % 2):Nat):Int)=((m % 2 ^ f:Nat):Int)+2 ^ f*((m / 2 ^ f % 2:Nat):Int):=by
   rw [Int.natCast_add,Int.natCast_mul,Int.natCast_pow];rfl
  rw [e1]
  have e2:(2*d+((m / 2 ^ f % 2:Nat):Int))*2 ^ f+((m % 2 ^ f:Nat):Int)=d*(2 ^ f*2)+(((m % 2 ^ f:Nat):Int)+2 ^ f*((m / 2 ^ f % 2:Nat):Int)):=by
   rw [Int.add_mul,Int.mul_comm (2 ^ f) 2,<- Int.mul_assoc,Int.mul_comm d 2,Int.mul_comm (2 ^ f) ((m / 2 ^ f % 2:Nat):Int)]
   omega
  have e3:2*u*2 ^ f=u*(2 ^ f*2):=by rw [Int.mul_comm (2 ^ f) 2,<- Int.mul_assoc,Int.mul_comm u 2]
  rw [e2,e3]
theorem number_reads {S:ByteArray} {k m:Nat} {rest:Bts} {r:RS} (hm:m<=1022) (h:Rd S (num k m++rest) r):(Rdr.number S r k).1=m/\Rd S rest (Rdr.number S r k).2:=by
 have hd:=dig_le hm
 unfold num at h
 rw [List.append_assoc] at h
 obtain ⟨r1,e1,h1⟩:=run_reads (S:=S) (k:=k) (rest:=lowb (k+12+dig m) (m+1) (dig m)++rest) (dig m) 11 0 r (by omega) (by omega) (by rw [Nat.zero_add (dig m)];exact h)
 rw [Nat.zero_add] at e1
 obtain ⟨r2,e2,h2⟩:=lows_reads (dig m) 0 1 r1 h1
 unfold Rdr.number
 rw [e1]
 dsimp only
 rw [e2]
 refine ⟨?_,h2⟩
 have lo:=dig_lo m
 have hi:=dig_hi m
 rw [Nat.pow_succ] at hi
 have e3:(m+1) % 2 ^ dig m=m+1-2 ^ dig m:=by
  rw [Nat.mod_eq_sub_mod lo,Nat.mod_eq_of_lt (by omega)]
 dsimp only
 rw [e3]
 have e4:((2 ^ dig m:Nat):Int)=2 ^ dig m:=by rw [Int.natCast_pow];rfl
 omega
theorem signed_reads {S:ByteArray} {k:Nat} {n:Int} {rest:Bts} {r:RS} (h0:-511<=n) (h1:n<=511) (h:Rd S (sgn k n++rest) r):Rdr.signed S r k=n/\Rd S rest (Rdr.number S r k).2:=by
 obtain ⟨e,h2⟩:=number_reads (fold_le h0 h1) h
 refine ⟨?_,h2⟩
 unfold Rdr.signed
 rw [e]
 unfold fold
 split <;> split <;> omega
end Pk
namespace Pk
def sp (x:Nat):Nat:=64*(x / 8 % 2)+16*(x / 4 % 2)+4*(x / 2 % 2)+x % 2
def rank (x y:Nat):Nat:=2*sp y+sp x
theorem sp_mono:∀ i<16,∀ j<16,i<=j->sp i<=sp j:=by decide +kernel
theorem rank_mono {i j i' j':Nat} (h1:i<=i') (h2:j<=j') (h3:i'<16) (h4:j'<16):rank i j<=rank i' j':=by
 have a:=sp_mono i (by omega) i' h3 h1
 have b:=sp_mono j (by omega) j' h4 h2
 unfold rank
 omega
theorem sp_lt:∀ i<16,sp i<=85:=by decide +kernel
theorem rank_lt {i j:Nat} (h1:i<16) (h2:j<16):rank i j<256:=by
 have a:=sp_lt i h1
 have b:=sp_lt j h2
 unfold rank
 omega
structure Al (z x y n:Nat):Prop where
 an:n=4 \/ n=8 \/ n=16
 xn:x % n=0
 yn:y % n=0
 xz:x+n<=z
 yz:y+n<=z
 zz:z<=16
def inB (n x y i j:Nat):Bool:=!decide (rank i j<rank x y+n*n) || (decide (rank i j<rank x y) || ((decide (x<=i) && decide (i<x+n)) && (decide (y<=j) && decide (j<y+n))))
theorem inB_iff {n x y i j:Nat} (h:inB n x y i j=true) (hr:rank i j<rank x y+n*n):rank i j<rank x y \/ ((x<=i/\i<x+n)/\y<=j/\j<y+n):=by
 unfold inB at h
 simp only [Bool.or_eq_true,Bool.not_eq_true',decide_eq_false_iff_not,Bool.and_eq_true,decide_eq_true_eq] at h
 rcases h with h|h
 ·exact absurd hr h
 ·exact h
theorem in4:∀ a<4,∀ b<4,∀ i<16,∀ j<16,inB 4 (4*a) (4*b) i j=true:=by decide +kernel
theorem in8:∀ a<2,∀ b<2,∀ i<16,∀ j<16,inB 8 (8*a) (8*b) i j=true:=by decide +kernel
theorem Al.inside {z x y n:Nat} (h:Al z x y n) {i j:Nat} (hi:i<z) (hj:j<z) (hr:rank i j<rank x y+n*n):rank i j<rank x y \/ ((x<=i/\i<x+n)/\y<=j/\j<y+n):=by
 obtain ⟨hn,hx,hy,hxz,hyz,hz⟩:=h
 rcases hn with rfl|rfl|rfl
 ·obtain ⟨a,rfl⟩:∃ a,x=4*a:=⟨x / 4,by omega⟩
  obtain ⟨b,rfl⟩:∃ b,y=4*b:=⟨y / 4,by omega⟩
  exact inB_iff (in4 a (by omega) b (by omega) i (by omega) j (by omega)) hr
 ·obtain ⟨a,rfl⟩:∃ a,x=8*a:=⟨x / 8,by omega⟩
  obtain ⟨b,rfl⟩:∃ b,y=8*b:=⟨y / 8,by omega⟩
  exact inB_iff (in8 a (by omega) b (by omega) i (by omega) j (by omega)) hr
 ·right;omega
theorem left4:∀ a<4,∀ b<4,∀ j<4,0<a->rank (4*a-1) (4*b+j)<rank (4*a) (4*b):=by decide +kernel
theorem left8:∀ a<2,∀ b<2,∀ j<8,0<a->rank (8*a-1) (8*b+j)<rank (8*a) (8*b):=by decide +kernel
theorem above4:∀ a<4,∀ b<4,∀ j<4,0<b->rank (4*a+j) (4*b-1)<rank (4*a) (4*b):=by decide +kernel
theorem above8:∀ a<2,∀ b<2,∀ j<8,0<b->rank (8*a+j) (8*b-1)<rank (8*a) (8*b):=by decide +kernel
theorem Al.left {z x y n:Nat} (h:Al z x y n) {j:Nat} (h1:y<=j) (h2:j<y+n) (hx0:0<x):rank (x-1) j<rank x y:=by
 obtain ⟨hn,hx,hy,hxz,hyz,hz⟩:=h
 rcases hn with rfl|rfl|rfl
 ·obtain ⟨a,rfl⟩:∃ a,x=4*a:=⟨x / 4,by omega⟩
  obtain ⟨b,rfl⟩:∃ b,y=4*b:=⟨y / 4,by omega⟩
  have:=left4 a (by omega) b (by omega) (j-4*b) (by omega) (by omega)
  rwa [show 4*b+(j-4*b)=j by omega] at this
 ·obtain ⟨a,rfl⟩:∃ a,x=8*a:=⟨x / 8,by omega⟩
  obtain ⟨b,rfl⟩:∃ b,y=8*b:=⟨y / 8,by omega⟩
  have:=left8 a (by omega) b (by omega) (j-8*b) (by omega) (by omega)
  rwa [show 8*b+(j-8*b)=j by omega] at this
 ·omega
theorem Al.above {z x y n:Nat} (h:Al z x y n) {i:Nat} (h1:x<=i) (h2:i<x+n) (hy0:0<y):rank i (y-1)<rank x y:=by
 obtain ⟨hn,hx,hy,hxz,hyz,hz⟩:=h
 rcases hn with rfl|rfl|rfl
 ·obtain ⟨a,rfl⟩:∃ a,x=4*a:=⟨x / 4,by omega⟩
  obtain ⟨b,rfl⟩:∃ b,y=4*b:=⟨y / 4,by omega⟩
  have:=above4 a (by omega) b (by omega) (i-4*a) (by omega) (by omega)
  rwa [show 4*a+(i-4*a)=i by omega] at this
 ·obtain ⟨a,rfl⟩:∃ a,x=8*a:=⟨x / 8,by omega⟩
  obtain ⟨b,rfl⟩:∃ b,y=8*b:=⟨y / 8,by omega⟩
  have:=above8 a (by omega) b (by omega) (i-8*a) (by omega) (by omega)
  rwa [show 8*a+(i-8*a)=i by omega] at this
 ·omega
theorem Al.corner {z x y n:Nat} (h:Al z x y n) (hx0:0<x) (hy0:0<y):rank (x-1) (y-1)<rank x y:=by
 have h1:=h.xz
 have h2:=h.yz
 have h3:=h.zz
 have h4:=h.an
 have h5:=h.left (Nat.le_refl y) (by omega) hx0
 have h6:=rank_mono (i:=x-1) (j:=y-1) (i':=x-1) (j':=y) (Nat.le_refl _) (by omega) (by omega) (by omega)
 omega
theorem quart16:rank 8 0=64/\rank 0 8=128/\rank 8 8=192/\rank 0 0=0:=by decide +kernel
theorem quart8:∀ a<2,∀ b<2,rank (8*a+4) (8*b)=rank (8*a) (8*b)+16/\rank (8*a) (8*b+4)=rank (8*a) (8*b)+32/\rank (8*a+4) (8*b+4)=rank (8*a) (8*b)+48:=by decide +kernel
theorem Al.quarters {z x y n:Nat} (h:Al z x y (2*n)) (hn:n=4 \/ n=8):(Al z x y n/\Al z (x+n) y n/\Al z x (y+n) n/\Al z (x+n) (y+n) n) /\
  rank (x+n) y=rank x y+n*n/\rank x (y+n)=rank x y+2*(n*n)/\rank (x+n) (y+n)=rank x y+3*(n*n):=by
 obtain ⟨hn',hx,hy,hxz,hyz,hz⟩:=h
 rcases hn with rfl|rfl
 ·refine ⟨⟨⟨.inl rfl,by omega,by omega,by omega,by omega,hz⟩,⟨.inl rfl,by omega,by omega,by omega,by omega,hz⟩,⟨.inl rfl,by omega,by omega,by omega,by omega,hz⟩,⟨.inl rfl,by omega,by omega,by omega,by omega,hz⟩⟩,?_⟩
  obtain ⟨a,rfl⟩:∃ a,x=8*a:=⟨x / 8,by omega⟩
  obtain ⟨b,rfl⟩:∃ b,y=8*b:=⟨y / 8,by omega⟩
  exact quart8 a (by omega) b (by omega)
 ·refine ⟨⟨⟨.inr (.inl rfl),by omega,by omega,by omega,by omega,hz⟩,⟨.inr (.inl rfl),by omega,by omega,by omega,by omega,hz⟩,⟨.inr (.inl rfl),by omega,by omega,by omega,by omega,hz⟩,⟨.inr (.inl rfl),by omega,by omega,by omega,by omega,hz⟩⟩,?_⟩
  obtain rfl:x=0:=by omega
  obtain rfl:y=0:=by omega
  obtain ⟨h1,h2,h3,h4⟩:=quart16
  simp only [Nat.zero_add]
  rw [h1,h2,h3,h4]
  exact ⟨rfl,rfl,rfl⟩
theorem spots_mem {x y n:Nat} {q:Nat × Nat}:q ∈ Flm.spots x y n ↔ (x<=q.1/\q.1<x+n)/\y<=q.2/\q.2<y+n:=by
 rw [Flm.mem_spots]
 constructor
 ·rintro ⟨j,i,hj,hi,rfl⟩
  dsimp only;omega
 ·rintro ⟨⟨h1,h2⟩,h3,h4⟩
  exact ⟨q.2-y,q.1-x,by omega,by omega,by ext <;> dsimp only <;> omega⟩
theorem spots_pair (x y n:Nat):(Flm.spots x y n).Pairwise fun p q=>p.2<q.2 \/ (p.2=q.2/\p.1<q.1):=by
 unfold Flm.spots
 rw [List.pairwise_flatMap]
 constructor
 ·intro j _
  rw [List.pairwise_map]
  refine List.pairwise_lt_range.imp ?_
  intro a b hab
  right
  dsimp only;omega
 ·refine List.pairwise_lt_range.imp ?_
  intro a b hab p hp q hq
  simp only [List.mem_map,List.mem_range] at hp hq
  obtain ⟨i,_,rfl⟩:=hp
  obtain ⟨i',_,rfl⟩:=hq
  left
  dsimp only;omega
theorem spots_done {x y n i j i' j':Nat} {d ps:List (Nat × Nat)} (h:Flm.spots x y n=d++(i,j) :: ps) (h1:x<=i'/\i'<x+n) (h2:y<=j'/\j'<y+n) (h3:j'<j \/ (j'=j/\i'<i)):(i',j') ∈ d:=by
 have hm:(i',j') ∈ Flm.spots x y n:=spots_mem.2 ⟨h1,h2⟩
 have hp:=spots_pair x y n
 rw [h] at hm hp
 rcases List.mem_append.1 hm with hm|hm
 ·exact hm
 ·exfalso
  have hp2:=(List.pairwise_append.1 hp).2.1
  rcases List.mem_cons.1 hm with e|hm
  ·injection e with e1 e2
   omega
  ·have:=(List.pairwise_cons.1 hp2).1 _ hm
   dsimp only at this
   omega
end Pk
namespace Pk
open Flm (Px FS px now near turn back okPx spots soft soft1 put expected)
structure Mid (z:Nat) (F:List (List Px)) (f n:Nat) (D:Nat × Nat->Prop) (fs:FS):Prop where
 len:fs.frs.length=f+1
 old:∀ g,g<f->fs.frs.getD g []=F.getD g []
 cl:(fs.frs.getD f []).length=z*z
 rl:fs.rd.length=z*z
 rd:∀ x y,x<z->y<z->rank x y<n->fs.rd.getD (y*z+x) false=true
 agr:∀ x y,x<z->y<z->(rank x y<n \/ D (x,y))->px fs f (y*z+x)=(F.getD f []).getD (y*z+x) (0,0,0)
theorem Mid.now {z:Nat} {F:List (List Px)} {f n:Nat} {D:Nat × Nat->Prop} {fs:FS} (h:Mid z F f n D fs):now fs=f:=by
 unfold Flm.now;rw [h.len];rfl
theorem Mid.same {z:Nat} {F:List (List Px)} {f n:Nat} {D E:Nat × Nat->Prop} {fs gs:FS} (h:Mid z F f n D fs) (h1:gs.frs=fs.frs) (h2:gs.rd=fs.rd) (hE:∀ q,E q->D q):Mid z F f n E gs:=by
 obtain ⟨a,b,c,d,e,g⟩:=h
 refine ⟨by rw [h1];exact a,by rw [h1];exact b,by rw [h1];exact c,by rw [h2];exact d,by rw [h2];exact e,fun x y hx hy hd=>?_⟩
 unfold px
 rw [h1]
 exact g x y hx hy (hd.imp id (hE _))
theorem idx_lt {z x y:Nat} (hx:x<z) (hy:y<z):y*z+x<z*z:=by
 have:(y+1)*z<=z*z:=Nat.mul_le_mul_right z hy
 rw [Nat.succ_mul] at this
 omega
theorem px_put {fs:FS} {f i k:Nat} {p:Px} (hn:Flm.now fs=f) (hf:f<fs.frs.length) (hi:i<(fs.frs.getD f []).length):px (put fs i p) f k=if i=k then p else px fs f k:=by
 unfold px put
 rw [hn]
 dsimp only
 rw [List.getD_eq_getElem?_getD (l:=fs.frs.set f _),List.getElem?_set_self (by exact hf),Option.getD_some,List.getD_eq_getElem?_getD (l:=List.set _ _ _),List.getElem?_set]
 by_cases h:i=k
 ·rw [if_pos h,if_pos h,if_pos (by omega)];rfl
 ·rw [if_neg h,if_neg h,<- List.getD_eq_getElem?_getD]
theorem Mid.put {z:Nat} {F:List (List Px)} {f n:Nat} {D E:Nat × Nat->Prop} {fs:FS} {i j:Nat} {p:Px} (h:Mid z F f n D fs) (hi:i<z) (hj:j<z) (hp:p=(F.getD f []).getD (j*z+i) (0,0,0)) (hE:∀ q,E q->D q \/ q=(i,j)):Mid z F f n E (Flm.put fs (j*z+i) p):=by
 have hn:=h.now
 obtain ⟨a,b,c,d,e,g⟩:=h
 have hlt:=idx_lt hi hj
 have hset:(Flm.put fs (j*z+i) p).frs=fs.frs.set f ((fs.frs.getD f []).set (j*z+i) p):=by unfold Flm.put;rw [hn]
 refine ⟨by rw [hset,List.length_set];exact a,fun k hk=>?_,?_,d,e,fun x y hx hy hd=>?_⟩
 ·rw [hset,List.getD_eq_getElem?_getD,List.getElem?_set_ne (by omega),<- List.getD_eq_getElem?_getD]
  exact b k hk
 ·rw [hset,List.getD_eq_getElem?_getD,List.getElem?_set_self (by omega),Option.getD_some,List.length_set]
  exact c
 ·rw [px_put hn (by omega) (by omega)]
  by_cases hk:j*z+i=y*z+x
  ·rw [if_pos hk,hp,hk]
  ·rw [if_neg hk]
   refine g x y hx hy (hd.imp id fun he=>?_)
   rcases hE _ he with h1|h1
   ·exact h1
   ·injection h1 with h1 h2
    subst h1;subst h2
    exact absurd rfl hk
def nearT (z:Nat) (T:List Px) (x y:Int):Px:=if x<0 \/ y<0 then (0,0,0) else turn (T.getD (y.toNat*z+x.toNat) (0,0,0))
def expT (z:Nat) (T:List Px) (i j:Nat):Px :=
 let a:=nearT z T ((i:Int)-1) j
 let b:=nearT z T i ((j:Int)-1)
 let d:=nearT z T ((i:Int)-1) ((j:Int)-1)
 (expected a.1 b.1 d.1,expected a.2.1 b.2.1 d.2.1,expected a.2.2 b.2.2 d.2.2)
def turnT (z:Nat) (T:List Px) (i j:Nat):Px:=turn (T.getD (j*z+i) (0,0,0))
def soft1l (z:Nat) (T:List Px) (q:Nat × Nat):Bts :=
 sgn 100 ((turnT z T q.1 q.2).1-(expT z T q.1 q.2).1)++(sgn 124 ((turnT z T q.1 q.2).2.1-(expT z T q.1 q.2).2.1)++sgn 148 ((turnT z T q.1 q.2).2.2-(expT z T q.1 q.2).2.2))
def softl (z:Nat) (T:List Px) (x y n:Nat):Bts:=(spots x y n).flatMap (soft1l z T)
theorem okP0:okPx (0,0,0):=⟨⟨by decide,by decide⟩,⟨by decide,by decide⟩,⟨by decide,by decide⟩⟩
theorem getD_ok {T:List Px} (h:∀ p ∈ T,okPx p) (i:Nat):okPx (T.getD i (0,0,0)):=by
 rw [List.getD_eq_getElem?_getD]
 cases e:T[i]? with
 | none=>exact okP0
 | some p=>exact h p (List.mem_of_getElem? e)
theorem turn_bds {p:Px} (h:okPx p):(-255<=(turn p).1/\(turn p).1<=255)/\(-255<=(turn p).2.1/\(turn p).2.1<=255)/\(-255<=(turn p).2.2/\(turn p).2.2<=255) :=
 ⟨Flm.turn_bd h 0,Flm.turn_bd h 1,Flm.turn_bd h 2⟩
theorem nearT_bds {T:List Px} (h:∀ p ∈ T,okPx p) (z:Nat) (x y:Int):(-255<=(nearT z T x y).1/\(nearT z T x y).1<=255)/\(-255<=(nearT z T x y).2.1/\(nearT z T x y).2.1<=255)/\(-255<=(nearT z T x y).2.2/\(nearT z T x y).2.2<=255):=by
 unfold nearT
 split
 ·decide
 ·exact turn_bds (getD_ok h _)
theorem expT_bds {T:List Px} (h:∀ p ∈ T,okPx p) (z i j:Nat):(-255<=(expT z T i j).1/\(expT z T i j).1<=255)/\(-255<=(expT z T i j).2.1/\(expT z T i j).2.1<=255)/\(-255<=(expT z T i j).2.2/\(expT z T i j).2.2<=255):=by
 have ha:=nearT_bds h z ((i:Int)-1) j
 have hb:=nearT_bds h z i ((j:Int)-1)
 exact ⟨Flm.expected_bd ha.1.1 ha.1.2 hb.1.1 hb.1.2,Flm.expected_bd ha.2.1.1 ha.2.1.2 hb.2.1.1 hb.2.1.2,Flm.expected_bd ha.2.2.1 ha.2.2.2 hb.2.2.1 hb.2.2.2⟩
theorem sgn_ok {k:Nat} {n:Int} (h0:-511<=n) (h1:n<=511) (hk:k+22<=400):Pack.BitsOk (sgn k n):=num_ok (fold_le h0 h1) hk
theorem sgn_len {k:Nat} {n:Int} (h0:-511<=n) (h1:n<=511):(sgn k n).length<=19:=by
 unfold sgn
 rw [num_len]
 have:=dig_le (fold_le h0 h1)
 omega
theorem soft1l_ok {T:List Px} (h:∀ p ∈ T,okPx p) (z:Nat) (q:Nat × Nat):Pack.BitsOk (soft1l z T q)/\(soft1l z T q).length<=57:=by
 obtain ⟨⟨a1,a2⟩,⟨a3,a4⟩,a5,a6⟩:=turn_bds (getD_ok h (q.2*z+q.1))
 obtain ⟨⟨b1,b2⟩,⟨b3,b4⟩,b5,b6⟩:=expT_bds h z q.1 q.2
 unfold soft1l turnT
 refine ⟨ok_app (sgn_ok (by omega) (by omega) (by decide)) (ok_app (sgn_ok (by omega) (by omega) (by decide)) (sgn_ok (by omega) (by omega) (by decide))),?_⟩
 rw [List.length_append,List.length_append]
 have l1:=sgn_len (k:=100) (n:=(turn (T.getD (q.2*z+q.1) (0,0,0))).1-(expT z T q.1 q.2).1) (by omega) (by omega)
 have l2:=sgn_len (k:=124) (n:=(turn (T.getD (q.2*z+q.1) (0,0,0))).2.1-(expT z T q.1 q.2).2.1) (by omega) (by omega)
 have l3:=sgn_len (k:=148) (n:=(turn (T.getD (q.2*z+q.1) (0,0,0))).2.2-(expT z T q.1 q.2).2.2) (by omega) (by omega)
 omega
theorem flat_ok {α:Type} {f:α->Bts}:∀ (l:List α),(∀ q ∈ l,Pack.BitsOk (f q))->Pack.BitsOk (l.flatMap f)
 | [],_=>ok_nil
 | q :: l,h=>by
  rw [List.flatMap_cons]
  exact ok_app (h q (by simp)) (flat_ok l fun p hp=>h p (by simp [hp]))
theorem flat_len {α:Type} {f:α->Bts} {m:Nat}:∀ (l:List α),(∀ q ∈ l,(f q).length<=m)->(l.flatMap f).length<=m*l.length
 | [],_=>Nat.zero_le _
 | q :: l,h=>by
  rw [List.flatMap_cons,List.length_append,List.length_cons,Nat.mul_succ]
  have h1:=h q (by simp)
  have h2:=flat_len l fun p hp=>h p (by simp [hp])
  omega
theorem softl_ok {T:List Px} (h:∀ p ∈ T,okPx p) (z x y n:Nat):Pack.BitsOk (softl z T x y n)/\(softl z T x y n).length<=57*(n*n):=by
 refine ⟨flat_ok _ fun q _=>(soft1l_ok h z q).1,?_⟩
 rw [<- Flm.spots_len x y n]
 exact flat_len _ fun q _=>(soft1l_ok h z q).2
theorem back_turn' {p:Px} (h:okPx p):back (turn p)=(p,0):=by
 obtain ⟨⟨a,b⟩,⟨c,d⟩,⟨e,f⟩⟩:=h
 have h1:=Pix.turn_isPix p.1 p.2.1 p.2.2 a b c d e f
 obtain ⟨e1,e2,e3⟩:=Pix.back_turn p.1 p.2.1 p.2.2
 unfold back
 rw [if_pos (by exact h1)]
 unfold turn
 dsimp only
 rw [e1,e2,e3]
theorem soft1_reads {S:ByteArray} {z:Nat} {T:List Px} {fs:FS} {i j:Nat} {rest:Bts} (hT:∀ p ∈ T,okPx p)
  (ha:near z fs ((i:Int)-1) j=nearT z T ((i:Int)-1) j) (hb:near z fs i ((j:Int)-1)=nearT z T i ((j:Int)-1)) (hd:near z fs ((i:Int)-1) ((j:Int)-1)=nearT z T ((i:Int)-1) ((j:Int)-1))
  (h:Rd S (soft1l z T (i,j)++rest) fs.r):∃ r',soft1 S z fs i j=({ fs with r:=r' },T.getD (j*z+i) (0,0,0))/\Rd S rest r':=by
 have hp:=getD_ok hT (j*z+i)
 obtain ⟨⟨a1,a2⟩,⟨a3,a4⟩,a5,a6⟩:=turn_bds hp
 obtain ⟨⟨b1,b2⟩,⟨b3,b4⟩,b5,b6⟩:=expT_bds hT z i j
 unfold soft1l at h
 dsimp only at h
 rw [List.append_assoc,List.append_assoc] at h
 obtain ⟨v1,h1⟩:=signed_reads (by unfold turnT;omega) (by unfold turnT;omega) h
 obtain ⟨v2,h2⟩:=signed_reads (by unfold turnT;omega) (by unfold turnT;omega) h1
 obtain ⟨v3,h3⟩:=signed_reads (by unfold turnT;omega) (by unfold turnT;omega) h2
 refine ⟨_,?_,h3⟩
 unfold soft1
 dsimp only
 rw [ha,hb,hd,v1,v2,v3]
 have ec:(expected (nearT z T ((i:Int)-1) j).1 (nearT z T i ((j:Int)-1)).1 (nearT z T ((i:Int)-1) ((j:Int)-1)).1+((turnT z T i j).1-(expT z T i j).1),expected (nearT z T ((i:Int)-1) j).2.1 (nearT z T i ((j:Int)-1)).2.1 (nearT z T ((i:Int)-1) ((j:Int)-1)).2.1+((turnT z T i j).2.1-(expT z T i j).2.1),expected (nearT z T ((i:Int)-1) j).2.2 (nearT z T i ((j:Int)-1)).2.2 (nearT z T ((i:Int)-1) ((j:Int)-1)).2.2+((turnT z T i j).2.2-(expT z T i j).2.2))=turn (T.getD (j*z+i) (0,0,0)):=by
  have e1:(expT z T i j).1=expected (nearT z T ((i:Int)-1) j).1 (nearT z T i ((j:Int)-1)).1 (nearT z T ((i:Int)-1) ((j:Int)-1)).1:=rfl
  have e2:(expT z T i j).2.1=expected (nearT z T ((i:Int)-1) j).2.1 (nearT z T i ((j:Int)-1)).2.1 (nearT z T ((i:Int)-1) ((j:Int)-1)).2.1:=rfl
  have e3:(expT z T i j).2.2=expected (nearT z T ((i:Int)-1) j).2.2 (nearT z T i ((j:Int)-1)).2.2 (nearT z T ((i:Int)-1) ((j:Int)-1)).2.2:=rfl
  rw [<- e1,<- e2,<- e3]
  show _=((turnT z T i j).1,(turnT z T i j).2.1,(turnT z T i j).2.2)
  rw [show (expT z T i j).1+((turnT z T i j).1-(expT z T i j).1)=(turnT z T i j).1 by omega,show (expT z T i j).2.1+((turnT z T i j).2.1-(expT z T i j).2.1)=(turnT z T i j).2.1 by omega,show (expT z T i j).2.2+((turnT z T i j).2.2-(expT z T i j).2.2)=(turnT z T i j).2.2 by omega]
 rw [ec,back_turn' hp,if_pos rfl]
theorem Mid.near {z:Nat} {F:List (List Px)} {f n:Nat} {D:Nat × Nat->Prop} {fs:FS} (h:Mid z F f n D fs) {x y:Int} (hx:x<z) (hy:y<z) (hd:0<=x->0<=y->rank x.toNat y.toNat<n \/ D (x.toNat,y.toNat)):Flm.near z fs x y=nearT z (F.getD f []) x y:=by
 unfold Flm.near nearT
 by_cases h0:x<0 \/ y<0
 ·rw [if_pos h0,if_pos (by omega)]
 ·rw [if_neg h0,if_neg (by omega),h.now,h.agr x.toNat y.toNat (by omega) (by omega) (hd (by omega) (by omega))]
theorem soft_reads {S:ByteArray} {z:Nat} {F:List (List Px)} {f x y n:Nat} {rest:Bts} (al:Al z x y n) (hT:∀ p ∈ F.getD f [],okPx p):∀ (ps d:List (Nat × Nat)) (fs:FS),spots x y n=d++ps->Rd S (ps.flatMap (soft1l z (F.getD f []))++rest) fs.r->Mid z F f (rank x y) (· ∈ d) fs ->
  Rd S rest (soft S z ps fs).r/\Mid z F f (rank x y) (· ∈ spots x y n) (soft S z ps fs)
 | [],d,fs,hs,h,hm=>by
  rw [hs,List.append_nil]
  exact ⟨h,hm⟩
 | (i,j) :: ps,d,fs,hs,h,hm=>by
  have hq:(i,j) ∈ spots x y n:=by rw [hs];simp
  obtain ⟨⟨q1,q2⟩,q3,q4⟩:=spots_mem.1 hq
  dsimp only at q1 q2 q3 q4
  have z1:=al.xz
  have z2:=al.yz
  rw [List.flatMap_cons,List.append_assoc] at h
  have ha:=hm.near (x:=(i:Int)-1) (y:=j) (by omega) (by omega) fun h1 h2=>by
   rw [show ((i:Int)-1).toNat=i-1 by omega,show (j:Int).toNat=j by omega]
   rcases Nat.lt_or_ge x i with hi|hi
   ·exact .inr (spots_done hs ⟨by omega,by omega⟩ ⟨q3,q4⟩ (.inr ⟨rfl,by omega⟩))
   ·obtain rfl:i=x:=by omega
    exact .inl (al.left q3 q4 (by omega))
  have hb:=hm.near (x:=(i:Int)) (y:=(j:Int)-1) (by omega) (by omega) fun h1 h2=>by
   rw [show ((j:Int)-1).toNat=j-1 by omega,show (i:Int).toNat=i by omega]
   rcases Nat.lt_or_ge y j with hj|hj
   ·exact .inr (spots_done hs ⟨q1,q2⟩ ⟨by omega,by omega⟩ (.inl (by omega)))
   ·obtain rfl:j=y:=by omega
    exact .inl (al.above q1 q2 (by omega))
  have hd:=hm.near (x:=(i:Int)-1) (y:=(j:Int)-1) (by omega) (by omega) fun h1 h2=>by
   rw [show ((i:Int)-1).toNat=i-1 by omega,show ((j:Int)-1).toNat=j-1 by omega]
   rcases Nat.lt_or_ge x i with hi|hi
   ·rcases Nat.lt_or_ge y j with hj|hj
    ·exact .inr (spots_done hs ⟨by omega,by omega⟩ ⟨by omega,by omega⟩ (.inl (by omega)))
    ·obtain rfl:j=y:=by omega
     exact .inl (al.above (by omega) (by omega) (by omega))
   ·obtain rfl:i=x:=by omega
    rcases Nat.lt_or_ge y j with hj|hj
    ·exact .inl (al.left (by omega) (by omega) (by omega))
    ·obtain rfl:j=y:=by omega
     exact .inl (al.corner (by omega) (by omega))
  obtain ⟨r',e,h'⟩:=soft1_reads hT ha hb hd h
  have he:soft S z ((i,j) :: ps) fs=soft S z ps (put { fs with r:=r' } (j*z+i) ((F.getD f []).getD (j*z+i) (0,0,0))):=by
   show (if (soft1 S z fs i j).1.r.err=0 then soft S z ps (put (soft1 S z fs i j).1 (j*z+i) (soft1 S z fs i j).2) else (soft1 S z fs i j).1)=_
   rw [e]
   exact if_pos h'.err
  rw [he]
  refine soft_reads al hT ps (d++[(i,j)]) _ (by rw [hs];simp) h' ?_
  have hm':Mid z F f (rank x y) (· ∈ d) { fs with r:=r' }:=hm.same rfl rfl fun _ h=>h
  refine hm'.put (by omega) (by omega) rfl fun q hq=>?_
  rcases List.mem_append.1 hq with h1|h1
  ·exact .inl h1
  ·exact .inr (List.mem_singleton.1 h1)
end Pk
namespace Pk
open Flm (Px FS px now near turn back okPx spots put)
def col1 (c:Px):Bts:=num 224 c.1.toNat++(num 224 c.2.1.toNat++num 224 c.2.2.toNat)
def choice (last n:Nat):Bts:=ones 250 0 n++if n<last then [(250+n,0)] else []
def fewl (cs:List Px) (ix:Nat × Nat->Nat) (x y n:Nat):Bts:=num 200 (cs.length-1)++(cs.flatMap col1++(spots x y n).flatMap fun q=>choice (cs.length-1) (ix q))
theorem shade_reads {S:ByteArray} {c:Int} {rest:Bts} {r:RS} (h0:0<=c) (h1:c<=255) (h:Rd S (num 224 c.toNat++rest) r):(Flm.shade S r).1=c/\Rd S rest (Flm.shade S r).2:=by
 obtain ⟨e,h2⟩:=number_reads (by omega) h
 unfold Flm.shade
 rw [e,if_neg (by omega)]
 exact ⟨by dsimp only;omega,h2⟩
theorem colour_reads {S:ByteArray} {c:Px} {rest:Bts} {r:RS} (hc:okPx c) (h:Rd S (col1 c++rest) r):(Flm.colour S r).1=c/\Rd S rest (Flm.colour S r).2:=by
 obtain ⟨⟨a1,a2⟩,⟨a3,a4⟩,a5,a6⟩:=hc
 unfold col1 at h
 rw [List.append_assoc,List.append_assoc] at h
 obtain ⟨e1,h1⟩:=shade_reads a1 a2 h
 obtain ⟨e2,h2⟩:=shade_reads a3 a4 h1
 obtain ⟨e3,h3⟩:=shade_reads a5 a6 h2
 unfold Flm.colour
 dsimp only
 rw [e1,e2,e3]
 exact ⟨rfl,h3⟩
theorem colours_reads {S:ByteArray} {rest:Bts}:∀ (cs:List Px) (r:RS),(∀ c ∈ cs,okPx c)->Rd S (cs.flatMap col1++rest) r->(Flm.colours S cs.length r).1=cs/\Rd S rest (Flm.colours S cs.length r).2
 | [],r,_,h=>⟨rfl,h⟩
 | c :: cs,r,hc,h=>by
  have he:=h.err
  rw [List.flatMap_cons,List.append_assoc] at h
  obtain ⟨e1,h1⟩:=colour_reads (hc c (by simp)) h
  obtain ⟨e2,h2⟩:=colours_reads cs _ (fun d hd=>hc d (by simp [hd])) h1
  show (if r.err=0 then ((Flm.colour S r).1 :: (Flm.colours S cs.length (Flm.colour S r).2).1,(Flm.colours S cs.length (Flm.colour S r).2).2) else ([],r)).1=c :: cs/\Rd S rest (if r.err=0 then ((Flm.colour S r).1 :: (Flm.colours S cs.length (Flm.colour S r).2).1,(Flm.colours S cs.length (Flm.colour S r).2).2) else ([],r)).2
  rw [if_pos he,e1,e2]
  exact ⟨rfl,h2⟩
theorem which_reads {S:ByteArray} {rest:Bts} {last:Nat}:∀ (j f k:Nat) (r:RS),f+k=last->k+j<=last->Rd S (ones 250 k j++((if k+j<last then [(250+(k+j),0)] else [])++rest)) r->(Flm.which S f k r).1=k+j/\Rd S rest (Flm.which S f k r).2
 | 0,0,k,r,h1,h2,h=>by
  rw [if_neg (by omega)] at h
  exact ⟨rfl,h⟩
 | 0,f+1,k,r,h1,h2,h=>by
  rw [if_pos (by omega)] at h
  have h':Rd S ((250+k,0) :: rest) r:=h
  obtain ⟨b1,b2⟩:=h'.bit
  unfold Flm.which
  rw [if_pos b1]
  exact ⟨rfl,b2⟩
 | j+1,0,k,r,h1,h2,h=>absurd h2 (by omega)
 | j+1,f+1,k,r,h1,h2,h=>by
  have h':Rd S ((250+k,1) :: (ones 250 (k+1) j++((if k+(j+1)<last then [(250+(k+(j+1)),0)] else [])++rest))) r:=h
  obtain ⟨b1,b2⟩:=h'.bit
  unfold Flm.which
  rw [if_neg (by rw [b1];decide)]
  rw [show k+(j+1)=k+1+j by omega] at b2 ⊢
  exact which_reads j f (k+1) _ (by omega) (by omega) b2
theorem fills_reads {S:ByteArray} {z:Nat} {F:List (List Px)} {f x y n N:Nat} {cs:List Px} {ix:Nat × Nat->Nat} {rest:Bts} (hxz:x+n<=z) (hyz:y+n<=z) (hc:0<cs.length)
  (hi:∀ q ∈ spots x y n,ix q<cs.length/\cs.getD (ix q) (0,0,0)=(F.getD f []).getD (q.2*z+q.1) (0,0,0)):∀ (ps d:List (Nat × Nat)) (fs:FS),spots x y n=d++ps->Rd S ((ps.flatMap fun q=>choice (cs.length-1) (ix q))++rest) fs.r->Mid z F f N (· ∈ d) fs ->
  Rd S rest (Flm.fills S z (cs.length-1) cs ps fs).r/\Mid z F f N (· ∈ spots x y n) (Flm.fills S z (cs.length-1) cs ps fs)
 | [],d,fs,hs,h,hm=>by
  rw [hs,List.append_nil]
  exact ⟨h,hm⟩
 | (i,j) :: ps,d,fs,hs,h,hm=>by
  have hq:(i,j) ∈ spots x y n:=by rw [hs];simp
  obtain ⟨⟨q1,q2⟩,q3,q4⟩:=spots_mem.1 hq
  obtain ⟨i1,i2⟩:=hi _ hq
  dsimp only at q1 q2 q3 q4 i2
  have he:=h.err
  rw [List.flatMap_cons,List.append_assoc] at h
  unfold choice at h
  rw [List.append_assoc] at h
  obtain ⟨e,h'⟩:=which_reads (S:=S) (last:=cs.length-1) (ix (i,j)) (cs.length-1) 0 fs.r (by omega) (by omega) (by rw [Nat.zero_add (ix (i,j))];exact h)
  rw [Nat.zero_add] at e
  have hstep:Flm.fills S z (cs.length-1) cs ((i,j) :: ps) fs=Flm.fills S z (cs.length-1) cs ps (put { fs with r:=(Flm.which S (cs.length-1) 0 fs.r).2 } (j*z+i) ((F.getD f []).getD (j*z+i) (0,0,0))):=by
   show (if fs.r.err=0 then (if (Flm.which S (cs.length-1) 0 fs.r).2.err=0 then Flm.fills S z (cs.length-1) cs ps (put { fs with r:=(Flm.which S (cs.length-1) 0 fs.r).2 } (j*z+i) (cs.getD (Flm.which S (cs.length-1) 0 fs.r).1 (0,0,0))) else Flm.fills S z (cs.length-1) cs ps { fs with r:=(Flm.which S (cs.length-1) 0 fs.r).2 }) else fs)=_
   rw [if_pos he,if_pos h'.err,e,i2]
  rw [hstep]
  refine fills_reads hxz hyz hc hi ps (d++[(i,j)]) _ (by rw [hs];simp) h' ?_
  have hm':Mid z F f N (· ∈ d) { fs with r:=(Flm.which S (cs.length-1) 0 fs.r).2 }:=hm.same rfl rfl fun _ h=>h
  refine hm'.put (by omega) (by omega) rfl fun q hq=>?_
  rcases List.mem_append.1 hq with h1|h1
  ·exact .inl h1
  ·exact .inr (List.mem_singleton.1 h1)
theorem few_reads {S:ByteArray} {z:Nat} {F:List (List Px)} {f x y n N:Nat} {cs:List Px} {ix:Nat × Nat->Nat} {rest:Bts} {fs:FS} (hxz:x+n<=z) (hyz:y+n<=z) (hc:0<cs.length) (hc4:cs.length<=4) (hok:∀ c ∈ cs,okPx c)
  (hi:∀ q ∈ spots x y n,ix q<cs.length/\cs.getD (ix q) (0,0,0)=(F.getD f []).getD (q.2*z+q.1) (0,0,0)) (h:Rd S (fewl cs ix x y n++rest) fs.r) (hm:Mid z F f N (fun _=>False) fs) :
  Rd S rest (Flm.few S z x y n fs).r/\Mid z F f N (· ∈ spots x y n) (Flm.few S z x y n fs):=by
 unfold fewl at h
 rw [List.append_assoc,List.append_assoc] at h
 obtain ⟨e1,h1⟩:=number_reads (by omega) h
 obtain ⟨e2,h2⟩:=colours_reads cs _ hok h1
 unfold Flm.few
 dsimp only
 rw [e1,if_neg (by omega),show ((cs.length-1:Nat):Int).toNat+1=cs.length by omega,show ((cs.length-1:Nat):Int).toNat=cs.length-1 by omega,e2]
 exact fills_reads hxz hyz hc hi _ [] _ rfl h2 (hm.same rfl rfl fun q hq=>absurd hq (List.not_mem_nil))
theorem choice_ok {last n:Nat} (h:n<=3):Pack.BitsOk (choice last n):=by
 unfold choice
 refine ok_app (ones_ok _ _ _ (by omega)) ?_
 split
 ·exact ok_cons (by omega) (.inl rfl) ok_nil
 ·exact ok_nil
theorem fewl_ok {cs:List Px} {ix:Nat × Nat->Nat} {x y n:Nat} (hc:0<cs.length) (hc4:cs.length<=4) (hok:∀ c ∈ cs,okPx c) (hi:∀ q ∈ spots x y n,ix q<cs.length):Pack.BitsOk (fewl cs ix x y n):=by
 refine ok_app (num_ok (by omega) (by decide)) (ok_app (flat_ok _ fun c hc=>?_) (flat_ok _ fun q hq=>choice_ok (by have:=hi q hq;omega)))
 obtain ⟨⟨a1,a2⟩,⟨a3,a4⟩,a5,a6⟩:=hok c hc
 exact ok_app (num_ok (by omega) (by decide)) (ok_app (num_ok (by omega) (by decide)) (num_ok (by omega) (by decide)))
def copyl (k:Nat) (dx dy:Int):Bts:=sgn k dx++sgn (k+24) dy
def Src (z:Nat) (F:List (List Px)) (f g x y n:Nat) (u v:Nat):Prop:=(u+n<=z/\v+n<=z)/\∀ i j,i<n->j<n->(F.getD g []).getD ((v+j)*z+(u+i)) (0,0,0)=(F.getD f []).getD ((y+j)*z+(x+i)) (0,0,0)
theorem moves_reads {z:Nat} {F:List (List Px)} {f g x y n u v:Nat} (al:Al z x y n) (hs:Src z F f g x y n u v) (hg:g=f \/ g<f) (ha:g=f->rank (u+(n-1)) (v+(n-1))<rank x y):∀ (ps d:List (Nat × Nat)) (fs:FS),spots x y n=d++ps->Mid z F f (rank x y) (· ∈ d) fs ->
  (Flm.moves z g ((u:Int)-x) ((v:Int)-y) ps fs).r=fs.r/\Mid z F f (rank x y) (· ∈ spots x y n) (Flm.moves z g ((u:Int)-x) ((v:Int)-y) ps fs)
 | [],d,fs,hd,hm=>by
  rw [hd,List.append_nil]
  exact ⟨rfl,hm⟩
 | (i,j) :: ps,d,fs,hd,hm=>by
  have hq:(i,j) ∈ spots x y n:=by rw [hd];simp
  obtain ⟨⟨q1,q2⟩,q3,q4⟩:=spots_mem.1 hq
  dsimp only at q1 q2 q3 q4
  obtain ⟨⟨s1,s2⟩,s3⟩:=hs
  have z1:=al.xz
  have z2:=al.yz
  have z3:=al.zz
  have e1:((j:Int)+((v:Int)-y)).toNat=v+(j-y):=by omega
  have e2:((i:Int)+((u:Int)-x)).toNat=u+(i-x):=by omega
  have hv:px fs g ((v+(j-y))*z+(u+(i-x)))=(F.getD f []).getD (j*z+i) (0,0,0):=by
   have h3:=s3 (i-x) (j-y) (by omega) (by omega)
   rw [show y+(j-y)=j by omega,show x+(i-x)=i by omega] at h3
   rw [<- h3]
   rcases hg with rfl|hg
   ·refine hm.agr _ _ (by omega) (by omega) (.inl ?_)
    have:=rank_mono (i:=u+(i-x)) (j:=v+(j-y)) (i':=u+(n-1)) (j':=v+(n-1)) (by omega) (by omega) (by omega) (by omega)
    have:=ha rfl
    omega
   ·unfold px
    rw [hm.old g hg]
  show (Flm.moves z g ((u:Int)-x) ((v:Int)-y) ps (put fs (j*z+i) (px fs g (((j:Int)+((v:Int)-y)).toNat*z+((i:Int)+((u:Int)-x)).toNat)))).r=fs.r/\Mid z F f (rank x y) (· ∈ spots x y n) (Flm.moves z g ((u:Int)-x) ((v:Int)-y) ps (put fs (j*z+i) (px fs g (((j:Int)+((v:Int)-y)).toNat*z+((i:Int)+((u:Int)-x)).toNat))))
  rw [e1,e2,hv]
  exact moves_reads al ⟨⟨s1,s2⟩,s3⟩ hg ha ps (d++[(i,j)]) (put fs (j*z+i) ((F.getD f []).getD (j*z+i) (0,0,0))) (by rw [hd];simp) (hm.put (by omega) (by omega) rfl fun q hq=>by
   rcases List.mem_append.1 hq with h1|h1
   ·exact .inl h1
   ·exact .inr (List.mem_singleton.1 h1))
theorem copies_reads {S:ByteArray} {z:Nat} {F:List (List Px)} {f g x y n u v k:Nat} {rest:Bts} {fs:FS} (al:Al z x y n) (hs:Src z F f g x y n u v) (hg:g=f \/ g<f) (ha:g=f->rank (u+(n-1)) (v+(n-1))<rank x y)
  (h:Rd S (copyl k ((u:Int)-x) ((v:Int)-y)++rest) fs.r) (hm:Mid z F f (rank x y) (fun _=>False) fs) :
  Rd S rest (Flm.copies S z x y n k g fs).r/\Mid z F f (rank x y) (· ∈ spots x y n) (Flm.copies S z x y n k g fs):=by
 have z1:=al.xz
 have z2:=al.yz
 have z3:=al.zz
 have z4:=al.an
 obtain ⟨⟨s1,s2⟩,s3⟩:=hs
 unfold copyl at h
 rw [List.append_assoc] at h
 obtain ⟨e1,h1⟩:=signed_reads (by omega) (by omega) h
 obtain ⟨e2,h2⟩:=signed_reads (by omega) (by omega) h1
 unfold Flm.copies
 dsimp only
 rw [e1,e2,if_pos h2.err,if_pos]
 ·obtain ⟨m1,m2⟩:=moves_reads (fs:={ fs with r:=(Rdr.number S (Rdr.number S fs.r k).2 (k+24)).2 }) al ⟨⟨s1,s2⟩,s3⟩ hg ha (spots x y n) [] rfl (hm.same rfl rfl fun q hq=>absurd hq (List.not_mem_nil))
  exact ⟨by rw [m1];exact h2,m2⟩
 ·rw [List.all_eq_true]
  intro q hq
  obtain ⟨⟨q1,q2⟩,q3,q4⟩:=spots_mem.1 hq
  unfold Flm.may
  simp only [Bool.and_eq_true,decide_eq_true_eq,Bool.or_eq_true,Bool.not_eq_true']
  refine ⟨⟨⟨⟨by omega,by omega⟩,by omega⟩,by omega⟩,?_⟩
  by_cases hgf:g=f
  ·right
   have e3:((q.2:Int)+((v:Int)-y)).toNat=v+(q.2-y):=by omega
   have e4:((q.1:Int)+((u:Int)-x)).toNat=u+(q.1-x):=by omega
   rw [e3,e4]
   refine hm.rd _ _ (by omega) (by omega) ?_
   have:=rank_mono (i:=u+(q.1-x)) (j:=v+(q.2-y)) (i':=u+(n-1)) (j':=v+(n-1)) (by omega) (by omega) (by omega) (by omega)
   have:=ha hgf
   omega
  ·left
   rw [hm.now]
   exact beq_false_of_ne hgf
theorem copyl_ok {k:Nat} {dx dy:Int} (hk:k+46<=400) (h1:-511<=dx) (h2:dx<=511) (h3:-511<=dy) (h4:dy<=511):Pack.BitsOk (copyl k dx dy):=ok_app (sgn_ok h1 h2 (by omega)) (sgn_ok h3 h4 (by omega))
end Pk
end Go.Proofs.YtekfbphnoibnjaaGreatDoor
