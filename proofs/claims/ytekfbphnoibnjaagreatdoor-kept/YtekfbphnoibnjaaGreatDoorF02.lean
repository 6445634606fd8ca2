/-
  Flm FlmOk PkNum Spots PkRank PkBlk
-/
import Derived.Test.YtekfbphnoibnjaaGreatDoorF01
set_option maxHeartbeats 4000000
namespace Go.Proofs.YtekfbphnoibnjaaGreatDoor
namespace Flm
abbrev Px:=Int × Int × Int
structure FS where
 r:RS
 frs:List (List Px)
 rd:List Bool
 fr:Int
 x:Int
 y:Int
def okPx (p:Px):Prop:=(0<=p.1/\p.1<=255)/\(0<=p.2.1/\p.2.1<=255)/\(0<=p.2.2/\p.2.2<=255)
def turn (p:Px):Px:=(Pix.tY p.1 p.2.1 p.2.2,p.1-p.2.2,Pix.tV p.1 p.2.1 p.2.2)
open Classical in
noncomputable def back (c:Px):Px × Int:=if Pix.isPix c.1 c.2.1 c.2.2 then ((Pix.bR c.1 c.2.1 c.2.2,Pix.bG c.1 c.2.2,Pix.bB c.1 c.2.1 c.2.2),0) else ((0,0,0),2)
def px (fs:FS) (f i:Nat):Px:=(fs.frs.getD f []).getD i (0,0,0)
def now (fs:FS):Nat:=fs.frs.length-1
def near (z:Nat) (fs:FS) (x y:Int):Px:=if x<0 \/ y<0 \/ (z:Int)<=x then (0,0,0) else turn (px fs (now fs) (y.toNat*z+x.toNat))
def put (fs:FS) (i:Nat) (p:Px):FS:={ fs with frs:=fs.frs.set (now fs) ((fs.frs.getD (now fs) []).set i p) }
def spots (x y n:Nat):List (Nat × Nat):=(List.range n).flatMap fun j=>(List.range n).map fun i=>(x+i,y+j)
noncomputable def soft1 (s:ByteArray) (z:Nat) (fs:FS) (i j:Nat):FS × Px :=
 let a:=near z fs ((i:Int)-1) j
 let b:=near z fs i ((j:Int)-1)
 let d:=near z fs ((i:Int)-1) ((j:Int)-1)
 let r1:=(Rdr.number s fs.r 100).2
 let r2:=(Rdr.number s r1 124).2
 let r3:=(Rdr.number s r2 148).2
 let c:Px:=(expected a.1 b.1 d.1+Rdr.signed s fs.r 100,expected a.2.1 b.2.1 d.2.1+Rdr.signed s r1 124,expected a.2.2 b.2.2 d.2.2+Rdr.signed s r2 148)
 ({ fs with r:=if (back c).2=0 then r3 else Rdr.fail r3 (back c).2 },(back c).1)
noncomputable def soft (s:ByteArray) (z:Nat):List (Nat × Nat)->FS->FS
 | [],fs=>fs
 | (i,j) :: ps,fs =>
  let q:=soft1 s z fs i j
  if q.1.r.err=0 then soft s z ps (put q.1 (j*z+i) q.2) else q.1
def shade (s:ByteArray) (r:RS):Int × RS:=((Rdr.number s r 224).1 % 256,if 255<(Rdr.number s r 224).1 then Rdr.fail (Rdr.number s r 224).2 2 else (Rdr.number s r 224).2)
def colour (s:ByteArray) (r:RS):Px × RS :=
 let a:=shade s r
 let b:=shade s a.2
 let c:=shade s b.2
 ((a.1,b.1,c.1),c.2)
def colours (s:ByteArray):Nat->RS->List Px × RS
 | 0,r=>([],r)
 | n+1,r=>if r.err=0 then let q:=colours s n (colour s r).2;((colour s r).1 :: q.1,q.2) else ([],r)
def which (s:ByteArray):Nat->Nat->RS->Nat × RS
 | 0,k,r=>(k,r)
 | f+1,k,r=>if Rdr.bitV r (250+k)=0 then (k,Rdr.bitS s r (250+k)) else which s f (k+1) (Rdr.bitS s r (250+k))
def fills (s:ByteArray) (z n:Nat) (l:List Px):List (Nat × Nat)->FS->FS
 | [],fs=>fs
 | (i,j) :: ps,fs =>
  if fs.r.err=0 then
   let q:=which s n 0 fs.r
   if q.2.err=0 then fills s z n l ps (put { fs with r:=q.2 } (j*z+i) (l.getD q.1 (0,0,0))) else fills s z n l ps { fs with r:=q.2 }
  else fs
def few (s:ByteArray) (z x y side:Nat) (fs:FS):FS :=
 let n:=(Rdr.number s fs.r 200).1
 let r:=if 3<n then Rdr.fail (Rdr.number s fs.r 200).2 8 else (Rdr.number s fs.r 200).2
 let q:=colours s (n.toNat+1) r
 fills s z n.toNat q.1 (spots x y side) { fs with r:=q.2 }
def may (z:Nat) (fs:FS) (own:Bool) (i j:Int):Bool:=decide (0<=i) && decide (0<=j) && decide (i<z) && decide (j<z) && (!own || fs.rd.getD (j.toNat*z+i.toNat) false)
def moves (z:Nat) (f:Nat) (dx dy:Int):List (Nat × Nat)->FS->FS
 | [],fs=>fs
 | (i,j) :: ps,fs=>moves z f dx dy ps (put fs (j*z+i) (px fs f (((j:Int)+dy).toNat*z+((i:Int)+dx).toNat)))
def copies (s:ByteArray) (z x y side k f:Nat) (fs:FS):FS :=
 let dx:=Rdr.signed s fs.r k
 let r1:=(Rdr.number s fs.r k).2
 let dy:=Rdr.signed s r1 (k+24)
 let r2:=(Rdr.number s r1 (k+24)).2
 if r2.err=0 then
  if (spots x y side).all (fun p=>may z fs (f == now fs) ((p.1:Int)+dx) ((p.2:Int)+dy)) then moves z f dx dy (spots x y side) { fs with r:=r2 } else { fs with r:=Rdr.fail r2 9 }
 else { fs with r:=r2 }
def seen (z:Nat):List (Nat × Nat)->FS->FS
 | [],fs=>fs
 | (i,j) :: ps,fs=>seen z ps { fs with rd:=fs.rd.set (j*z+i) true }
noncomputable def block (s:ByteArray) (z x y side:Nat) (fs:FS):FS :=
 let a:=Rdr.bitV fs.r 2
 let r1:=Rdr.bitS s fs.r 2
 let b:=Rdr.bitV r1 (3+a.toNat)
 let r2:=Rdr.bitS s r1 (3+a.toNat)
 let g:FS:={ fs with r:=r2 }
 if r2.err=0 then
  if a=0 then (if b=0 then seen z (spots x y side) (soft s z (spots x y side) g) else seen z (spots x y side) (few s z x y side g))
  else if b=0 then seen z (spots x y side) (copies s z x y side 260 (now g) g)
  else if now g=0 then { g with r:=Rdr.fail r2 10 }
  else seen z (spots x y side) (copies s z x y side 310 (now g-1) g)
 else g
noncomputable def area (s:ByteArray) (z:Nat):Nat->Nat->Nat->Nat->FS->FS
 | 0,x,y,side,fs=>if fs.r.err=0 then block s z x y side { fs with fr:=now fs,x:=x,y:=y } else fs
 | n+1,x,y,side,fs =>
  if fs.r.err=0 then
   let k:=if side=16 then 0 else 1
   let g:FS:={ fs with fr:=now fs,x:=x,y:=y,r:=Rdr.bitS s fs.r k }
   if Rdr.bitV fs.r k=1 then
    let h:=side / 2
    area s z n (x+h) (y+h) h (area s z n x (y+h) h (area s z n (x+h) y h (area s z n x y h g)))
   else if g.r.err=0 then block s z x y side g else g
  else fs
def cuts (z:Nat):Nat:=if z=16 then 2 else if z=8 then 1 else 0
noncomputable def frames (s:ByteArray) (z:Nat):Nat->FS->FS
 | 0,fs=>fs
 | n+1,fs=>if fs.r.err=0 then frames s z n (area s z (cuts z) 0 0 z { fs with frs:=fs.frs++[List.replicate (z*z) (0,0,0)],rd:=List.replicate (z*z) false }) else fs
end Flm
namespace Rdr
theorem run_ok {s:ByteArray} {k:Nat} (hk:k+22<=400):∀ (f n:Nat) (r:RS),f+n=11->(n=10->r.err ≠ 0)->Ok s r->Ok s (run s k f n r).2/\(run s k f n r).1<=10+(n-10)/\((run s k f n r).2.err=0->(run s k f n r).1<=9 \/ n=11)
 | 0,n,r,hf,_,h=>by
  refine ⟨h,?_,fun _=>.inr (by omega)⟩
  show n<=10+(n-10)
  omega
 | f+1,n,r,hf,h10,h=>by
  have hn:n<=10:=by omega
  unfold run
  by_cases he:r.err=0
  ·rw [if_pos he]
   have hn9:n<=9:=by
    rcases Nat.lt_or_ge n 10 with h'|h'
    ·omega
    ·exact absurd he (h10 (by omega))
   by_cases hb:bitV r (k+n)=0
   ·rw [if_pos hb]
    exact ⟨h.bitS (by omega),by show n<=_;omega,fun _=>.inl (by show n<=9;omega)⟩
   ·rw [if_neg hb]
    by_cases h9:n+1=10
    ·rw [if_pos h9]
     have hok:=(h.bitS (k:=k+n) (by omega)).fail (e:=8) (by decide)
     have hne:=fail_err (r:=bitS s r (k+n)) (e:=8) (by decide)
     obtain ⟨g1,g2,g3⟩:=run_ok hk f (n+1) _ (by omega) (fun _=>hne) hok
     exact ⟨g1,by omega,fun e=>by rcases g3 e with g|g <;> omega⟩
    ·rw [if_neg h9]
     obtain ⟨g1,g2,g3⟩:=run_ok hk f (n+1) _ (by omega) (fun e=>absurd e (by omega)) (h.bitS (k:=k+n) (by omega))
     exact ⟨g1,by omega,fun e=>by rcases g3 e with g|g <;> omega⟩
  ·rw [if_neg he]
   exact ⟨h,by show n<=_;omega,fun e=>absurd e he⟩
theorem lows_ok {s:ByteArray} {k:Nat} (hk:k<400):∀ (f:Nat) (d u:Int) (r:RS),Ok s r->0<=d->d+1<=u->Ok s (lows s k f d u r).2.2/\0<=(lows s k f d u r).1/\(lows s k f d u r).1+1<=(lows s k f d u r).2.1/\(lows s k f d u r).2.1<=u*2 ^ f
 | 0,d,u,r,h,d0,d1=>⟨h,d0,d1,by show u<=u*2 ^ 0;omega⟩
 | f+1,d,u,r,h,d0,d1=>by
  have hp:u*2 ^ (f+1)=2*u*2 ^ f:=by rw [Int.pow_succ,Int.mul_comm (2 ^ f) 2,<- Int.mul_assoc,Int.mul_comm u 2]
  unfold lows
  by_cases he:r.err=0
  ·rw [if_pos he,hp]
   have hb:=bitV_cases r k
   exact lows_ok hk f _ _ _ (h.bitS hk) (by rcases hb with e|e <;> rw [e] <;> omega) (by rcases hb with e|e <;> rw [e] <;> omega)
  ·rw [if_neg he]
   refine ⟨h,d0,d1,?_⟩
   rw [hp]
   show u<=2*u*2 ^ f
   have h1:(1:Int)<=2 ^ f:=by
    have:1<=(2:Nat) ^ f:=Nat.one_le_two_pow
    exact_mod_cast this
   have h2:2*u*1<=2*u*2 ^ f:=Int.mul_le_mul_of_nonneg_left h1 (by omega)
   omega
theorem number_ok {s:ByteArray} {r:RS} {k:Nat} (h:Ok s r) (hk:k+22<=400):Ok s (number s r k).2:=by
 obtain ⟨g1,g2,g3⟩:=run_ok (s:=s) hk 11 0 r rfl (fun e=>by omega) h
 unfold number
 by_cases hm:(run s k 11 0 r).1<=9
 ·exact (lows_ok (s:=s) (k:=k+12+(run s k 11 0 r).1) (by omega) _ 0 1 _ g1 (by omega) (by omega)).1
 ·have he:(run s k 11 0 r).2.err ≠ 0:=fun e=>by rcases g3 e with g|g <;> omega
  have:∀ (f:Nat) (d u:Int) (c:Nat),(lows s c f d u (run s k 11 0 r).2)=(d,u,(run s k 11 0 r).2):=fun f d u c=>by
   cases f with
   | zero=>rfl
   | succ f=>unfold lows;rw [if_neg he]
  rw [this]
  exact g1
set_option maxRecDepth 20000 in
theorem pow512 (m:Nat) (hm:m<=9):(2:Int) ^ m<=512:=by
 have:(2:Nat) ^ m<=2 ^ 9:=Nat.pow_le_pow_right (by decide) hm
 exact_mod_cast this
theorem number_bd {s:ByteArray} {r:RS} {k:Nat} (h:Ok s r) (hk:k+22<=400):0<=(number s r k).1/\(number s r k).1<=1022:=by
 obtain ⟨g1,g2,g3⟩:=run_ok (s:=s) hk 11 0 r rfl (fun e=>by omega) h
 unfold number
 by_cases hm:(run s k 11 0 r).1<=9
 ·obtain ⟨_,l1,l2,l3⟩:=lows_ok (s:=s) (k:=k+12+(run s k 11 0 r).1) (by omega) (run s k 11 0 r).1 0 1 _ g1 (by omega) (by omega)
  have hp:(2:Int) ^ (run s k 11 0 r).1<=512:=pow512 _ hm
  dsimp only
  omega
 ·have he:(run s k 11 0 r).2.err ≠ 0:=fun e=>by rcases g3 e with g|g <;> omega
  have:∀ (f:Nat) (d u:Int) (c:Nat),(lows s c f d u (run s k 11 0 r).2)=(d,u,(run s k 11 0 r).2):=fun f d u c=>by
   cases f with
   | zero=>rfl
   | succ f=>unfold lows;rw [if_neg he]
  rw [this]
  dsimp only
  omega
end Rdr
namespace Flm
theorem soft1_ok {s:ByteArray} {z:Nat} {fs:FS} {i j:Nat} (h:Rdr.Ok s fs.r):Rdr.Ok s (soft1 s z fs i j).1.r:=by
 have h1:=Rdr.number_ok (k:=100) h (by omega)
 have h2:=Rdr.number_ok (k:=124) h1 (by omega)
 have h3:=Rdr.number_ok (k:=148) h2 (by omega)
 unfold soft1
 dsimp only
 split
 ·exact h3
 ·refine h3.fail ?_
  unfold back at *
  split
  ·rename_i hc _;exact absurd (by rw [if_pos (by assumption)]) hc
  ·decide
theorem soft_ok {s:ByteArray} {z:Nat}:∀ (ps:List (Nat × Nat)) (fs:FS),Rdr.Ok s fs.r->Rdr.Ok s (soft s z ps fs).r
 | [],_,h=>h
 | (i,j) :: ps,fs,h=>by
  unfold soft
  dsimp only
  split
  ·exact soft_ok ps _ (soft1_ok h)
  ·exact soft1_ok h
theorem shade_ok {s:ByteArray} {r:RS} (h:Rdr.Ok s r):Rdr.Ok s (shade s r).2:=by
 have h1:=Rdr.number_ok (k:=224) h (by omega)
 unfold shade
 dsimp only
 split
 ·exact h1.fail (by decide)
 ·exact h1
theorem colour_ok {s:ByteArray} {r:RS} (h:Rdr.Ok s r):Rdr.Ok s (colour s r).2:=shade_ok (shade_ok (shade_ok h))
theorem colours_ok {s:ByteArray}:∀ (n:Nat) (r:RS),Rdr.Ok s r->Rdr.Ok s (colours s n r).2
 | 0,_,h=>h
 | n+1,r,h=>by
  unfold colours
  split
  ·exact colours_ok n _ (colour_ok h)
  ·exact h
theorem which_ok {s:ByteArray}:∀ (f k:Nat) (r:RS),f+k<=149->Rdr.Ok s r->Rdr.Ok s (which s f k r).2
 | 0,_,_,_,h=>h
 | f+1,k,r,hk,h=>by
  unfold which
  split
  ·exact h.bitS (by omega)
  ·exact which_ok f (k+1) _ (by omega) (h.bitS (by omega))
theorem fills_ok {s:ByteArray} {z n:Nat} {l:List Px} (hn':n<=149):∀ (ps:List (Nat × Nat)) (fs:FS),Rdr.Ok s fs.r->Rdr.Ok s (fills s z n l ps fs).r
 | [],_,h=>h
 | (i,j) :: ps,fs,h=>by
  unfold fills
  split
  ·dsimp only
   split
   ·exact fills_ok hn' ps _ (which_ok n 0 _ (by omega) h)
   ·exact fills_ok hn' ps _ (which_ok n 0 _ (by omega) h)
  ·exact h
theorem fills_err {s:ByteArray} {z n:Nat} {l:List Px} {ps:List (Nat × Nat)} {fs:FS} (he:fs.r.err ≠ 0):fills s z n l ps fs=fs:=by
 cases ps with
 | nil=>rfl
 | cons p ps=>obtain ⟨i,j⟩:=p;unfold fills;rw [if_neg he]
theorem colours_err {s:ByteArray} {n:Nat} {r:RS} (he:r.err ≠ 0):colours s n r=([],r):=by
 cases n with
 | zero=>rfl
 | succ n=>unfold colours;rw [if_neg he]
theorem few_ok {s:ByteArray} {z x y side:Nat} {fs:FS} (h:Rdr.Ok s fs.r):Rdr.Ok s (few s z x y side fs).r:=by
 have h1:=Rdr.number_ok (k:=200) h (by omega)
 unfold few
 dsimp only
 by_cases h3:3<(Rdr.number s fs.r 200).1
 ·rw [if_pos h3]
  have he:=Rdr.fail_err (r:=(Rdr.number s fs.r 200).2) (e:=8) (by decide)
  rw [colours_err he,fills_err he]
  exact h1.fail (by decide)
 ·rw [if_neg h3]
  exact fills_ok (by omega) _ _ (colours_ok _ _ h1)
theorem moves_r {z f:Nat} {dx dy:Int}:∀ (ps:List (Nat × Nat)) (fs:FS),(moves z f dx dy ps fs).r=fs.r
 | [],_=>rfl
 | (i,j) :: ps,fs=>by unfold moves;rw [moves_r ps];rfl
theorem seen_r {z:Nat}:∀ (ps:List (Nat × Nat)) (fs:FS),(seen z ps fs).r=fs.r
 | [],_=>rfl
 | (i,j) :: ps,fs=>by unfold seen;rw [seen_r ps]
theorem copies_ok {s:ByteArray} {z x y side k f:Nat} {fs:FS} (hk:k+46<=400) (h:Rdr.Ok s fs.r):Rdr.Ok s (copies s z x y side k f fs).r:=by
 have h1:=Rdr.number_ok (k:=k) h (by omega)
 have h2:=Rdr.number_ok (k:=k+24) h1 (by omega)
 unfold copies
 dsimp only
 split
 ·split
  ·rw [moves_r];exact h2
  ·exact h2.fail (by decide)
 ·exact h2
theorem block_ok {s:ByteArray} {z x y side:Nat} {fs:FS} (h:Rdr.Ok s fs.r):Rdr.Ok s (block s z x y side fs).r:=by
 have ha:(Rdr.bitV fs.r 2).toNat<=1:=by rcases Rdr.bitV_cases fs.r 2 with e|e <;> rw [e] <;> decide
 have h1:=h.bitS (k:=2) (by omega)
 have h2:=h1.bitS (k:=3+(Rdr.bitV fs.r 2).toNat) (by omega)
 unfold block
 dsimp only
 split
 ·split
  ·split
   ·rw [seen_r];exact soft_ok _ _ h2
   ·rw [seen_r];exact few_ok h2
  ·split
   ·rw [seen_r];exact copies_ok (by omega) h2
   ·split
    ·exact h2.fail (by decide)
    ·rw [seen_r];exact copies_ok (by omega) h2
 ·exact h2
theorem area_ok {s:ByteArray} {z:Nat}:∀ (n x y side:Nat) (fs:FS),Rdr.Ok s fs.r->Rdr.Ok s (area s z n x y side fs).r
 | 0,x,y,side,fs,h=>by
  unfold area
  split
  ·exact block_ok h
  ·exact h
 | n+1,x,y,side,fs,h=>by
  obtain ⟨k,hk⟩:∃ k,k=if side=16 then 0 else 1:=⟨_,rfl⟩
  have h1:=h.bitS (k:=k) (by rw [hk];split <;> omega)
  unfold area
  dsimp only
  rw [<- hk]
  split
  ·split
   ·exact area_ok n _ _ _ _ (area_ok n _ _ _ _ (area_ok n _ _ _ _ (area_ok n _ _ _ _ h1)))
   ·split
    ·exact block_ok h1
    ·exact h1
  ·exact h
end Flm
namespace Pk
abbrev Bts:=List (Nat × Int)
structure Rd (S:ByteArray) (l:Bts) (r:RS):Prop where
 ex:∃ t u:WS,Pack.Rel u.n u.m t r/\Pack.Ok t/\Pack.puts t l=u/\Pack.BytesOf S u.n u.m
 ok:Pack.BitsOk l
 rok:Rdr.Ok S r
theorem Rd.err {S:ByteArray} {l:Bts} {r:RS} (h:Rd S l r):r.err=0:=by
 obtain ⟨t,u,h1,_⟩:=h.ex
 exact h1.err
theorem Rd.bit {S:ByteArray} {k:Nat} {v:Int} {l:Bts} {r:RS} (h:Rd S ((k,v) :: l) r):Rdr.bitV r k=v/\Rd S l (Rdr.bitS S r k):=by
 obtain ⟨t,u,h1,h2,h3,h4⟩:=h.ex
 obtain ⟨hk,hv⟩:=h.ok (k,v) (by simp)
 have hl:Pack.BitsOk l:=fun p hp=>h.ok p (by simp [hp])
 have ok':=h2.put hk v
 have h3':Pack.puts (Pack.put t k v) l=u:=h3
 have okf:=Pack.puts_ok l _ ok' (fun p hp=>(hl p hp).1)
 have hin:=Pack.puts_in l _ ok' (fun p hp=>(hl p hp).1)
 rw [h3'] at okf hin
 have hr0:=okf.r0
 obtain ⟨s1,s2⟩:=Pack.rel_step h4 h1 hv hin rfl rfl (by omega)
 exact ⟨s1,⟨⟨_,u,s2,ok',h3',h4⟩,hl,h.rok.bitS hk⟩⟩
theorem Rd.done {S:ByteArray} {r:RS} (h:Rd S [] r):r.pos=S.size:=by
 obtain ⟨t,u,h1,h2,h3,h4⟩:=h.ex
 have h3':t=u:=h3
 subst h3'
 rw [h1.pos,h4.size]
theorem Rd.start {S:ByteArray} {l:Bts} (hl:Pack.BitsOk l) (hS:Pack.BytesOf S (Pack.fin l).n (Pack.fin l).m):Rd S l (Rdr.start S ch0) :=
 ⟨⟨Pack.init,Pack.fin l,Pack.start_rel hl hS,Pack.init_ok,rfl,hS⟩,hl,Rdr.start_ok S ch0 Pack.init_ok.ch⟩
def ones (k:Nat):Nat->Nat->Bts
 | _,0=>[]
 | i,n+1=>(k+i,1) :: ones k (i+1) n
def lowb (c m:Nat):Nat->Bts
 | 0=>[]
 | n+1=>(c,((m / 2 ^ n % 2:Nat):Int)) :: lowb c m n
def dig (m:Nat):Nat:=Nat.log2 (m+1)
def num (k m:Nat):Bts:=ones k 0 (dig m)++(k+dig m,0) :: lowb (k+12+dig m) (m+1) (dig m)
def fold (n:Int):Nat:=if n<0 then (-2*n-1).toNat else (2*n).toNat
def sgn (k:Nat) (n:Int):Bts:=num k (fold n)
theorem dig_le {m:Nat} (h:m<=1022):dig m<=9:=by
 have h1:2 ^ dig m<=m+1:=Nat.log2_self_le (by omega)
 rcases Nat.lt_or_ge 9 (dig m) with h2|h2
 ·have h3:2 ^ 10<=2 ^ dig m:=Nat.pow_le_pow_right (by decide) h2
  omega
 ·exact h2
theorem dig_lo (m:Nat):2 ^ dig m<=m+1:=Nat.log2_self_le (by omega)
theorem dig_hi (m:Nat):m+1<2 ^ (dig m+1):=Nat.lt_log2_self
theorem fold_le {n:Int} (h0:-511<=n) (h1:n<=511):fold n<=1022:=by unfold fold;split <;> omega
theorem ones_len (k:Nat):∀ n i,(ones k i n).length=n
 | 0,_=>rfl
 | n+1,i=>by show (ones k (i+1) n).length+1=n+1;rw [ones_len]
theorem lowb_len (c m:Nat):∀ n,(lowb c m n).length=n
 | 0=>rfl
 | n+1=>by show (lowb c m n).length+1=n+1;rw [lowb_len]
theorem num_len (k m:Nat):(num k m).length=2*dig m+1:=by
 unfold num
 rw [List.length_append,ones_len,List.length_cons,lowb_len]
 omega
theorem ones_ok (k:Nat):∀ n i,k+i+n<=400->Pack.BitsOk (ones k i n)
 | 0,_,_=>fun _ hp=>absurd hp (List.not_mem_nil)
 | n+1,i,h=>fun p hp=>by
  rcases List.mem_cons.1 hp with rfl|hp
  ·exact ⟨by show k+i<400;omega,.inr rfl⟩
  ·exact ones_ok k n (i+1) (by omega) p hp
theorem lowb_ok (c m:Nat) (hc:c<400):∀ n,Pack.BitsOk (lowb c m n)
 | 0=>fun _ hp=>absurd hp (List.not_mem_nil)
 | n+1=>fun p hp=>by
  rcases List.mem_cons.1 hp with rfl|hp
  ·exact ⟨hc,by show ((m / 2 ^ n % 2:Nat):Int)=0 \/ ((m / 2 ^ n % 2:Nat):Int)=1;omega⟩
  ·exact lowb_ok c m hc n p hp
theorem ok_app {l r:Bts} (h:Pack.BitsOk l) (k:Pack.BitsOk r):Pack.BitsOk (l++r):=fun p hp=>by
 rcases List.mem_append.1 hp with hp|hp
 ·exact h p hp
 ·exact k p hp
theorem ok_cons {l:Bts} {c:Nat} {v:Int} (hc:c<400) (hv:v=0 \/ v=1) (h:Pack.BitsOk l):Pack.BitsOk ((c,v) :: l):=fun p hp=>by
 rcases List.mem_cons.1 hp with rfl|hp
 ·exact ⟨hc,hv⟩
 ·exact h p hp
theorem ok_nil:Pack.BitsOk []:=fun _ hp=>absurd hp (List.not_mem_nil)
theorem num_ok {k m:Nat} (hm:m<=1022) (hk:k+22<=400):Pack.BitsOk (num k m):=by
 have:=dig_le hm
 exact ok_app (ones_ok k _ 0 (by omega)) (ok_cons (by omega) (.inl rfl) (lowb_ok _ _ (by omega) _))
theorem run_reads {S:ByteArray} {k:Nat} {rest:Bts}:∀ (j f n:Nat) (r:RS),j+1<=f->n+j<=9->Rd S (ones k n j++(k+(n+j),0) :: rest) r->∃ r',Rdr.run S k f n r=(n+j,r')/\Rd S rest r'
 | 0,f+1,n,r,_,_,h=>by
  obtain ⟨b1,b2⟩:=Rd.bit (l:=rest) (k:=k+n) h
  refine ⟨_,?_,b2⟩
  unfold Rdr.run
  rw [if_pos h.err,if_pos b1]
  rfl
 | j+1,f+1,n,r,h1,h2,h=>by
  have h':Rd S ((k+n,1) :: (ones k (n+1) j++(k+(n+(j+1)),0) :: rest)) r:=h
  obtain ⟨b1,b2⟩:=h'.bit
  rw [show n+(j+1)=n+1+j by omega] at b2 ⊢
  obtain ⟨r',e,h3⟩:=run_reads j f (n+1) _ (by omega) (by omega) b2
  refine ⟨r',?_,h3⟩
  unfold Rdr.run
  rw [if_pos h.err,if_neg (by rw [b1];decide),if_neg (by omega)]
  exact e
theorem lows_reads {S:ByteArray} {c m:Nat} {rest:Bts}:∀ (f:Nat) (d u:Int) (r:RS),Rd S (lowb c m f++rest) r->∃ r',Rdr.lows S c f d u r=(d*2 ^ f+((m % 2 ^ f:Nat):Int),u*2 ^ f,r')/\Rd S rest r'
 | 0,d,u,r,h=>⟨r,by unfold Rdr.lows;simp [Nat.mod_one],h⟩
 | f+1,d,u,r,h=>by
  have h':Rd S ((c,((m / 2 ^ f % 2:Nat):Int)) :: (lowb c m f++rest)) r:=h
  obtain ⟨b1,b2⟩:=h'.bit
  obtain ⟨r',e,h3⟩:=lows_reads f (2*d+((m / 2 ^ f % 2:Nat):Int)) (2*u) _ b2
  refine ⟨r',?_,h3⟩
  unfold Rdr.lows
  rw [if_pos h.err,b1,e,Nat.mod_pow_succ,Int.pow_succ]
  have e1:((m % 2 ^ f+2 ^ f*(m / 2 ^ f % 2):Nat):Int)=((m % 2 ^ f:Nat):Int)+2 ^ f*((m / 2 ^ f % 2:Nat):Int):=by
   rw [Int.natCast_add,Int.natCast_mul,Int.natCast_pow];rfl
  rw [e1]
  have e2:(2*d+((m / 2 ^ f % 2:Nat):Int))*2 ^ f+((m % 2 ^ f:Nat):Int)=d*(2 ^ f*2)+(((m % 2 ^ f:Nat):Int)+2 ^ f*((m / 2 ^ f % 2:Nat):Int)):=by
   rw [Int.add_mul,Int.mul_comm (2 ^ f) 2,<- Int.mul_assoc,Int.mul_comm d 2,Int.mul_comm (2 ^ f) ((m / 2 ^ f % 2:Nat):Int)]
   omega
  have e3:2*u*2 ^ f=u*(2 ^ f*2):=by rw [Int.mul_comm (2 ^ f) 2,<- Int.mul_assoc,Int.mul_comm u 2]
  rw [e2,e3]
theorem number_reads {S:ByteArray} {k m:Nat} {rest:Bts} {r:RS} (hm:m<=1022) (h:Rd S (num k m++rest) r):(Rdr.number S r k).1=m/\Rd S rest (Rdr.number S r k).2:=by
 have hd:=dig_le hm
 unfold num at h
 rw [List.append_assoc] at h
 obtain ⟨r1,e1,h1⟩:=run_reads (S:=S) (k:=k) (rest:=lowb (k+12+dig m) (m+1) (dig m)++rest) (dig m) 11 0 r (by omega) (by omega) (by rw [Nat.zero_add (dig m)];exact h)
 rw [Nat.zero_add] at e1
 obtain ⟨r2,e2,h2⟩:=lows_reads (dig m) 0 1 r1 h1
 unfold Rdr.number
 rw [e1]
 dsimp only
 rw [e2]
 refine ⟨?_,h2⟩
 have lo:=dig_lo m
 have hi:=dig_hi m
 rw [Nat.pow_succ] at hi
 have e3:(m+1) % 2 ^ dig m=m+1-2 ^ dig m:=by
  rw [Nat.mod_eq_sub_mod lo,Nat.mod_eq_of_lt (by omega)]
 dsimp only
 rw [e3]
 have e4:((2 ^ dig m:Nat):Int)=2 ^ dig m:=by rw [Int.natCast_pow];rfl
 omega
theorem signed_reads {S:ByteArray} {k:Nat} {n:Int} {rest:Bts} {r:RS} (h0:-511<=n) (h1:n<=511) (h:Rd S (sgn k n++rest) r):Rdr.signed S r k=n/\Rd S rest (Rdr.number S r k).2:=by
 obtain ⟨e,h2⟩:=number_reads (fold_le h0 h1) h
 refine ⟨?_,h2⟩
 unfold Rdr.signed
 rw [e]
 unfold fold
 split <;> split <;> omega
end Pk
namespace Flm
theorem drop_rows {α:Type} (f:Nat->Nat->α) (n:Nat):∀ (l:List Nat) (j:Nat) (hj:j<l.length) (i:Nat) (_:i<n),(l.flatMap fun a=>(List.range n).map fun b=>f a b).drop (j*n+i)=f l[j] i :: (l.flatMap fun a=>(List.range n).map fun b=>f a b).drop (j*n+i+1)
 | [],j,hj,_,_=>by simp at hj
 | a :: l,0,_,i,hi=>by
  have hl:((List.range n).map fun b=>f a b).length=n:=by simp
  rw [List.flatMap_cons,Nat.zero_mul,Nat.zero_add,List.drop_append_of_le_length (by omega),List.drop_append_of_le_length (by omega),List.drop_eq_getElem_cons (by omega)]
  simp
 | a :: l,j+1,hj,i,hi=>by
  have hl:((List.range n).map fun b=>f a b).length=n:=by simp
  have ih:=drop_rows f n l j (by simpa using hj) i hi
  have e:(j+1)*n+i=n+(j*n+i):=by rw [Nat.succ_mul];omega
  have key:∀ m,(((List.range n).map fun b=>f a b)++l.flatMap fun a=>(List.range n).map fun b=>f a b).drop (n+m)=(l.flatMap fun a=>(List.range n).map fun b=>f a b).drop m:=fun m=>by
   rw [<- List.drop_drop]
   congr 1
   exact List.drop_left' hl
  rw [List.flatMap_cons,e,key,ih,show n+(j*n+i)+1=n+(j*n+i+1) by omega,key]
  rfl
def left (x y n j i:Nat):List (Nat × Nat):=(spots x y n).drop (j*n+i)
theorem left_zero (x y n:Nat):left x y n 0 0=spots x y n:=by unfold left;simp
theorem left_row (x y n j:Nat):left x y n j n=left x y n (j+1) 0:=by unfold left;rw [Nat.succ_mul];rfl
theorem left_cons (x y n j i:Nat) (hj:j<n) (hi:i<n):left x y n j i=(x+i,y+j) :: left x y n j (i+1):=by
 unfold left spots
 rw [drop_rows (fun j i=>(x+i,y+j)) n (List.range n) j (by simpa using hj) i hi]
 simp [Nat.add_assoc]
theorem spots_len (x y n:Nat):(spots x y n).length=n*n:=by
 unfold spots
 rw [List.length_flatMap]
 simp only [List.length_map,List.length_range]
 rw [List.map_const',List.sum_replicate_nat,List.length_range]
theorem left_end (x y n:Nat):left x y n n 0=[]:=by
 unfold left
 exact List.drop_eq_nil_of_le (by rw [spots_len];omega)
theorem mem_spots {x y n:Nat} {q:Nat × Nat}:q ∈ spots x y n ↔ ∃ j i,j<n/\i<n/\q=(x+i,y+j):=by
 unfold spots
 simp only [List.mem_flatMap,List.mem_range,List.mem_map]
 constructor
 ·rintro ⟨j,hj,i,hi,rfl⟩;exact ⟨j,i,hj,hi,rfl⟩
 ·rintro ⟨j,i,hj,hi,rfl⟩;exact ⟨j,hj,i,hi,rfl⟩
def pick (q:Px) (k:Nat):Int:=if k=0 then q.1 else if k=1 then q.2.1 else q.2.2
theorem turn_bd {p:Px} (h:okPx p) (k:Nat):-255<=pick (turn p) k/\pick (turn p) k<=255:=by
 obtain ⟨⟨a,b⟩,⟨c,d⟩,⟨e,f⟩⟩:=h
 have:=Pix.tbounds p.1 p.2.1 p.2.2 a b c d e f
 unfold pick turn
 split
 ·dsimp only;omega
 ·split
  ·dsimp only;omega
  ·dsimp only;omega
theorem near_bd {z:Nat} {fs:FS} (h:∀ i k,okPx (px fs i k)) (x y:Int) (k:Nat):-255<=pick (near z fs x y) k/\pick (near z fs x y) k<=255:=by
 unfold near
 split
 ·unfold pick;split
  ·decide
  ·split <;> decide
 ·exact turn_bd (h _ _) k
def rAt (s:ByteArray) (r:RS):Nat->RS
 | 0=>r
 | k+1=>(Rdr.number s (rAt s r k) (100+24*k)).2
def sAt (s:ByteArray) (r:RS) (k:Nat):Int:=Rdr.signed s (rAt s r k) (100+24*k)
def cOf (s:ByteArray) (z:Nat) (fs:FS) (i j:Nat) (k:Nat):Int:=expected (pick (near z fs ((i:Int)-1) j) k) (pick (near z fs i ((j:Int)-1)) k) (pick (near z fs ((i:Int)-1) ((j:Int)-1)) k)+sAt s fs.r k
theorem soft1_eq (s:ByteArray) (z:Nat) (fs:FS) (i j:Nat):soft1 s z fs i j=({ fs with r:=if (back (cOf s z fs i j 0,cOf s z fs i j 1,cOf s z fs i j 2)).2=0 then rAt s fs.r 3 else Rdr.fail (rAt s fs.r 3) (back (cOf s z fs i j 0,cOf s z fs i j 1,cOf s z fs i j 2)).2 },(back (cOf s z fs i j 0,cOf s z fs i j 1,cOf s z fs i j 2)).1):=rfl
end Flm
namespace Pk
def sp (x:Nat):Nat:=64*(x / 8 % 2)+16*(x / 4 % 2)+4*(x / 2 % 2)+x % 2
def rank (x y:Nat):Nat:=2*sp y+sp x
theorem sp_mono:∀ i<16,∀ j<16,i<=j->sp i<=sp j:=by decide +kernel
theorem rank_mono {i j i' j':Nat} (h1:i<=i') (h2:j<=j') (h3:i'<16) (h4:j'<16):rank i j<=rank i' j':=by
 have a:=sp_mono i (by omega) i' h3 h1
 have b:=sp_mono j (by omega) j' h4 h2
 unfold rank
 omega
theorem sp_lt:∀ i<16,sp i<=85:=by decide +kernel
theorem rank_lt {i j:Nat} (h1:i<16) (h2:j<16):rank i j<256:=by
 have a:=sp_lt i h1
 have b:=sp_lt j h2
 unfold rank
 omega
structure Al (z x y n:Nat):Prop where
 an:n=4 \/ n=8 \/ n=16
 xn:x % n=0
 yn:y % n=0
 xz:x+n<=z
 yz:y+n<=z
 zz:z<=16
def inB (n x y i j:Nat):Bool:=!decide (rank i j<rank x y+n*n) || (decide (rank i j<rank x y) || ((decide (x<=i) && decide (i<x+n)) && (decide (y<=j) && decide (j<y+n))))
theorem inB_iff {n x y i j:Nat} (h:inB n x y i j=true) (hr:rank i j<rank x y+n*n):rank i j<rank x y \/ ((x<=i/\i<x+n)/\y<=j/\j<y+n):=by
 unfold inB at h
 simp only [Bool.or_eq_true,Bool.not_eq_true',decide_eq_false_iff_not,Bool.and_eq_true,decide_eq_true_eq] at h
 rcases h with h|h
 ·exact absurd hr h
 ·exact h
theorem in4:∀ a<4,∀ b<4,∀ i<16,∀ j<16,inB 4 (4*a) (4*b) i j=true:=by decide +kernel
theorem in8:∀ a<2,∀ b<2,∀ i<16,∀ j<16,inB 8 (8*a) (8*b) i j=true:=by decide +kernel
theorem Al.inside {z x y n:Nat} (h:Al z x y n) {i j:Nat} (hi:i<z) (hj:j<z) (hr:rank i j<rank x y+n*n):rank i j<rank x y \/ ((x<=i/\i<x+n)/\y<=j/\j<y+n):=by
 obtain ⟨hn,hx,hy,hxz,hyz,hz⟩:=h
 rcases hn with rfl|rfl|rfl
 ·obtain ⟨a,rfl⟩:∃ a,x=4*a:=⟨x / 4,by omega⟩
  obtain ⟨b,rfl⟩:∃ b,y=4*b:=⟨y / 4,by omega⟩
  exact inB_iff (in4 a (by omega) b (by omega) i (by omega) j (by omega)) hr
 ·obtain ⟨a,rfl⟩:∃ a,x=8*a:=⟨x / 8,by omega⟩
  obtain ⟨b,rfl⟩:∃ b,y=8*b:=⟨y / 8,by omega⟩
  exact inB_iff (in8 a (by omega) b (by omega) i (by omega) j (by omega)) hr
 ·right;omega
theorem left4:∀ a<4,∀ b<4,∀ j<4,0<a->rank (4*a-1) (4*b+j)<rank (4*a) (4*b):=by decide +kernel
theorem left8:∀ a<2,∀ b<2,∀ j<8,0<a->rank (8*a-1) (8*b+j)<rank (8*a) (8*b):=by decide +kernel
theorem above4:∀ a<4,∀ b<4,∀ j<4,0<b->rank (4*a+j) (4*b-1)<rank (4*a) (4*b):=by decide +kernel
theorem above8:∀ a<2,∀ b<2,∀ j<8,0<b->rank (8*a+j) (8*b-1)<rank (8*a) (8*b):=by decide +kernel
theorem Al.left {z x y n:Nat} (h:Al z x y n) {j:Nat} (h1:y<=j) (h2:j<y+n) (hx0:0<x):rank (x-1) j<rank x y:=by
 obtain ⟨hn,hx,hy,hxz,hyz,hz⟩:=h
 rcases hn with rfl|rfl|rfl
 ·obtain ⟨a,rfl⟩:∃ a,x=4*a:=⟨x / 4,by omega⟩
  obtain ⟨b,rfl⟩:∃ b,y=4*b:=⟨y / 4,by omega⟩
  have:=left4 a (by omega) b (by omega) (j-4*b) (by omega) (by omega)
  rwa [show 4*b+(j-4*b)=j by omega] at this
 ·obtain ⟨a,rfl⟩:∃ a,x=8*a:=⟨x / 8,by omega⟩
  obtain ⟨b,rfl⟩:∃ b,y=8*b:=⟨y / 8,by omega⟩
  have:=left8 a (by omega) b (by omega) (j-8*b) (by omega) (by omega)
  rwa [show 8*b+(j-8*b)=j by omega] at this
 ·omega
theorem Al.above {z x y n:Nat} (h:Al z x y n) {i:Nat} (h1:x<=i) (h2:i<x+n) (hy0:0<y):rank i (y-1)<rank x y:=by
 obtain ⟨hn,hx,hy,hxz,hyz,hz⟩:=h
 rcases hn with rfl|rfl|rfl
 ·obtain ⟨a,rfl⟩:∃ a,x=4*a:=⟨x / 4,by omega⟩
  obtain ⟨b,rfl⟩:∃ b,y=4*b:=⟨y / 4,by omega⟩
  have:=above4 a (by omega) b (by omega) (i-4*a) (by omega) (by omega)
  rwa [show 4*a+(i-4*a)=i by omega] at this
 ·obtain ⟨a,rfl⟩:∃ a,x=8*a:=⟨x / 8,by omega⟩
  obtain ⟨b,rfl⟩:∃ b,y=8*b:=⟨y / 8,by omega⟩
  have:=above8 a (by omega) b (by omega) (i-8*a) (by omega) (by omega)
  rwa [show 8*a+(i-8*a)=i by omega] at this
 ·omega
theorem Al.corner {z x y n:Nat} (h:Al z x y n) (hx0:0<x) (hy0:0<y):rank (x-1) (y-1)<rank x y:=by
 have h1:=h.xz
 have h2:=h.yz
 have h3:=h.zz
 have h4:=h.an
 have h5:=h.left (Nat.le_refl y) (by omega) hx0
 have h6:=rank_mono (i:=x-1) (j:=y-1) (i':=x-1) (j':=y) (Nat.le_refl _) (by omega) (by omega) (by omega)
 omega
theorem quart16:rank 8 0=64/\rank 0 8=128/\rank 8 8=192/\rank 0 0=0:=by decide +kernel
theorem quart8:∀ a<2,∀ b<2,rank (8*a+4) (8*b)=rank (8*a) (8*b)+16/\rank (8*a) (8*b+4)=rank (8*a) (8*b)+32/\rank (8*a+4) (8*b+4)=rank (8*a) (8*b)+48:=by decide +kernel
theorem Al.quarters {z x y n:Nat} (h:Al z x y (2*n)) (hn:n=4 \/ n=8):(Al z x y n/\Al z (x+n) y n/\Al z x (y+n) n/\Al z (x+n) (y+n) n) /\
  rank (x+n) y=rank x y+n*n/\rank x (y+n)=rank x y+2*(n*n)/\rank (x+n) (y+n)=rank x y+3*(n*n):=by
 obtain ⟨hn',hx,hy,hxz,hyz,hz⟩:=h
 rcases hn with rfl|rfl
 ·refine ⟨⟨⟨.inl rfl,by omega,by omega,by omega,by omega,hz⟩,⟨.inl rfl,by omega,by omega,by omega,by omega,hz⟩,⟨.inl rfl,by omega,by omega,by omega,by omega,hz⟩,⟨.inl rfl,by omega,by omega,by omega,by omega,hz⟩⟩,?_⟩
  obtain ⟨a,rfl⟩:∃ a,x=8*a:=⟨x / 8,by omega⟩
  obtain ⟨b,rfl⟩:∃ b,y=8*b:=⟨y / 8,by omega⟩
  exact quart8 a (by omega) b (by omega)
 ·refine ⟨⟨⟨.inr (.inl rfl),by omega,by omega,by omega,by omega,hz⟩,⟨.inr (.inl rfl),by omega,by omega,by omega,by omega,hz⟩,⟨.inr (.inl rfl),by omega,by omega,by omega,by omega,hz⟩,⟨.inr (.inl rfl),by omega,by omega,by omega,by omega,hz⟩⟩,?_⟩
  obtain rfl:x=0:=by omega
  obtain rfl:y=0:=by omega
  obtain ⟨h1,h2,h3,h4⟩:=quart16
  simp only [Nat.zero_add]
  rw [h1,h2,h3,h4]
  exact ⟨rfl,rfl,rfl⟩
theorem spots_mem {x y n:Nat} {q:Nat × Nat}:q ∈ Flm.spots x y n ↔ (x<=q.1/\q.1<x+n)/\y<=q.2/\q.2<y+n:=by
 rw [Flm.mem_spots]
 constructor
 ·rintro ⟨j,i,hj,hi,rfl⟩
  dsimp only;omega
 ·rintro ⟨⟨h1,h2⟩,h3,h4⟩
  exact ⟨q.2-y,q.1-x,by omega,by omega,by ext <;> dsimp only <;> omega⟩
theorem spots_pair (x y n:Nat):(Flm.spots x y n).Pairwise fun p q=>p.2<q.2 \/ (p.2=q.2/\p.1<q.1):=by
 unfold Flm.spots
 rw [List.pairwise_flatMap]
 constructor
 ·intro j _
  rw [List.pairwise_map]
  refine List.pairwise_lt_range.imp ?_
  intro a b hab
  right
  dsimp only;omega
 ·refine List.pairwise_lt_range.imp ?_
  intro a b hab p hp q hq
  simp only [List.mem_map,List.mem_range] at hp hq
  obtain ⟨i,_,rfl⟩:=hp
  obtain ⟨i',_,rfl⟩:=hq
  left
  dsimp only;omega
theorem spots_done {x y n i j i' j':Nat} {d ps:List (Nat × Nat)} (h:Flm.spots x y n=d++(i,j) :: ps) (h1:x<=i'/\i'<x+n) (h2:y<=j'/\j'<y+n) (h3:j'<j \/ (j'=j/\i'<i)):(i',j') ∈ d:=by
 have hm:(i',j') ∈ Flm.spots x y n:=spots_mem.2 ⟨h1,h2⟩
 have hp:=spots_pair x y n
 rw [h] at hm hp
 rcases List.mem_append.1 hm with hm|hm
 ·exact hm
 ·exfalso
  have hp2:=(List.pairwise_append.1 hp).2.1
  rcases List.mem_cons.1 hm with e|hm
  ·injection e with e1 e2
   omega
  ·have:=(List.pairwise_cons.1 hp2).1 _ hm
   dsimp only at this
   omega
end Pk
namespace Pk
open Flm (Px FS px now near turn back okPx spots soft soft1 put expected)
structure Mid (z:Nat) (F:List (List Px)) (f n:Nat) (D:Nat × Nat->Prop) (fs:FS):Prop where
 len:fs.frs.length=f+1
 old:∀ g,g<f->fs.frs.getD g []=F.getD g []
 cl:(fs.frs.getD f []).length=z*z
 rl:fs.rd.length=z*z
 rd:∀ x y,x<z->y<z->rank x y<n->fs.rd.getD (y*z+x) false=true
 agr:∀ x y,x<z->y<z->(rank x y<n \/ D (x,y))->px fs f (y*z+x)=(F.getD f []).getD (y*z+x) (0,0,0)
theorem Mid.now {z:Nat} {F:List (List Px)} {f n:Nat} {D:Nat × Nat->Prop} {fs:FS} (h:Mid z F f n D fs):now fs=f:=by
 unfold Flm.now;rw [h.len];rfl
theorem Mid.same {z:Nat} {F:List (List Px)} {f n:Nat} {D E:Nat × Nat->Prop} {fs gs:FS} (h:Mid z F f n D fs) (h1:gs.frs=fs.frs) (h2:gs.rd=fs.rd) (hE:∀ q,E q->D q):Mid z F f n E gs:=by
 obtain ⟨a,b,c,d,e,g⟩:=h
 refine ⟨by rw [h1];exact a,by rw [h1];exact b,by rw [h1];exact c,by rw [h2];exact d,by rw [h2];exact e,fun x y hx hy hd=>?_⟩
 unfold px
 rw [h1]
 exact g x y hx hy (hd.imp id (hE _))
theorem idx_lt {z x y:Nat} (hx:x<z) (hy:y<z):y*z+x<z*z:=by
 have:(y+1)*z<=z*z:=Nat.mul_le_mul_right z hy
 rw [Nat.succ_mul] at this
 omega
theorem px_put {fs:FS} {f i k:Nat} {p:Px} (hn:Flm.now fs=f) (hf:f<fs.frs.length) (hi:i<(fs.frs.getD f []).length):px (put fs i p) f k=if i=k then p else px fs f k:=by
 unfold px put
 rw [hn]
 dsimp only
 rw [List.getD_eq_getElem?_getD (l:=fs.frs.set f _),List.getElem?_set_self (by exact hf),Option.getD_some,List.getD_eq_getElem?_getD (l:=List.set _ _ _),List.getElem?_set]
 by_cases h:i=k
 ·rw [if_pos h,if_pos h,if_pos (by omega)];rfl
 ·rw [if_neg h,if_neg h,<- List.getD_eq_getElem?_getD]
theorem Mid.put {z:Nat} {F:List (List Px)} {f n:Nat} {D E:Nat × Nat->Prop} {fs:FS} {i j:Nat} {p:Px} (h:Mid z F f n D fs) (hi:i<z) (hj:j<z) (hp:p=(F.getD f []).getD (j*z+i) (0,0,0)) (hE:∀ q,E q->D q \/ q=(i,j)):Mid z F f n E (Flm.put fs (j*z+i) p):=by
 have hn:=h.now
 obtain ⟨a,b,c,d,e,g⟩:=h
 have hlt:=idx_lt hi hj
 have hset:(Flm.put fs (j*z+i) p).frs=fs.frs.set f ((fs.frs.getD f []).set (j*z+i) p):=by unfold Flm.put;rw [hn]
 refine ⟨by rw [hset,List.length_set];exact a,fun k hk=>?_,?_,d,e,fun x y hx hy hd=>?_⟩
 ·rw [hset,List.getD_eq_getElem?_getD,List.getElem?_set_ne (by omega),<- List.getD_eq_getElem?_getD]
  exact b k hk
 ·rw [hset,List.getD_eq_getElem?_getD,List.getElem?_set_self (by omega),Option.getD_some,List.length_set]
  exact c
 ·rw [px_put hn (by omega) (by omega)]
  by_cases hk:j*z+i=y*z+x
  ·rw [if_pos hk,hp,hk]
  ·rw [if_neg hk]
   refine g x y hx hy (hd.imp id fun he=>?_)
   rcases hE _ he with h1|h1
   ·exact h1
   ·injection h1 with h1 h2
    subst h1;subst h2
    exact absurd rfl hk
def nearT (z:Nat) (T:List Px) (x y:Int):Px:=if x<0 \/ y<0 then (0,0,0) else turn (T.getD (y.toNat*z+x.toNat) (0,0,0))
def expT (z:Nat) (T:List Px) (i j:Nat):Px :=
 let a:=nearT z T ((i:Int)-1) j
 let b:=nearT z T i ((j:Int)-1)
 let d:=nearT z T ((i:Int)-1) ((j:Int)-1)
 (expected a.1 b.1 d.1,expected a.2.1 b.2.1 d.2.1,expected a.2.2 b.2.2 d.2.2)
def turnT (z:Nat) (T:List Px) (i j:Nat):Px:=turn (T.getD (j*z+i) (0,0,0))
def soft1l (z:Nat) (T:List Px) (q:Nat × Nat):Bts :=
 sgn 100 ((turnT z T q.1 q.2).1-(expT z T q.1 q.2).1)++(sgn 124 ((turnT z T q.1 q.2).2.1-(expT z T q.1 q.2).2.1)++sgn 148 ((turnT z T q.1 q.2).2.2-(expT z T q.1 q.2).2.2))
def softl (z:Nat) (T:List Px) (x y n:Nat):Bts:=(spots x y n).flatMap (soft1l z T)
theorem okP0:okPx (0,0,0):=⟨⟨by decide,by decide⟩,⟨by decide,by decide⟩,⟨by decide,by decide⟩⟩
theorem getD_ok {T:List Px} (h:∀ p ∈ T,okPx p) (i:Nat):okPx (T.getD i (0,0,0)):=by
 rw [List.getD_eq_getElem?_getD]
 cases e:T[i]? with
 | none=>exact okP0
 | some p=>exact h p (List.mem_of_getElem? e)
theorem turn_bds {p:Px} (h:okPx p):(-255<=(turn p).1/\(turn p).1<=255)/\(-255<=(turn p).2.1/\(turn p).2.1<=255)/\(-255<=(turn p).2.2/\(turn p).2.2<=255) :=
 ⟨Flm.turn_bd h 0,Flm.turn_bd h 1,Flm.turn_bd h 2⟩
theorem nearT_bds {T:List Px} (h:∀ p ∈ T,okPx p) (z:Nat) (x y:Int):(-255<=(nearT z T x y).1/\(nearT z T x y).1<=255)/\(-255<=(nearT z T x y).2.1/\(nearT z T x y).2.1<=255)/\(-255<=(nearT z T x y).2.2/\(nearT z T x y).2.2<=255):=by
 unfold nearT
 split
 ·decide
 ·exact turn_bds (getD_ok h _)
theorem expT_bds {T:List Px} (h:∀ p ∈ T,okPx p) (z i j:Nat):(-255<=(expT z T i j).1/\(expT z T i j).1<=255)/\(-255<=(expT z T i j).2.1/\(expT z T i j).2.1<=255)/\(-255<=(expT z T i j).2.2/\(expT z T i j).2.2<=255):=by
 have ha:=nearT_bds h z ((i:Int)-1) j
 have hb:=nearT_bds h z i ((j:Int)-1)
 exact ⟨Flm.expected_bd ha.1.1 ha.1.2 hb.1.1 hb.1.2,Flm.expected_bd ha.2.1.1 ha.2.1.2 hb.2.1.1 hb.2.1.2,Flm.expected_bd ha.2.2.1 ha.2.2.2 hb.2.2.1 hb.2.2.2⟩
theorem sgn_ok {k:Nat} {n:Int} (h0:-511<=n) (h1:n<=511) (hk:k+22<=400):Pack.BitsOk (sgn k n):=num_ok (fold_le h0 h1) hk
theorem sgn_len {k:Nat} {n:Int} (h0:-511<=n) (h1:n<=511):(sgn k n).length<=19:=by
 unfold sgn
 rw [num_len]
 have:=dig_le (fold_le h0 h1)
 omega
theorem soft1l_ok {T:List Px} (h:∀ p ∈ T,okPx p) (z:Nat) (q:Nat × Nat):Pack.BitsOk (soft1l z T q)/\(soft1l z T q).length<=57:=by
 obtain ⟨⟨a1,a2⟩,⟨a3,a4⟩,a5,a6⟩:=turn_bds (getD_ok h (q.2*z+q.1))
 obtain ⟨⟨b1,b2⟩,⟨b3,b4⟩,b5,b6⟩:=expT_bds h z q.1 q.2
 unfold soft1l turnT
 refine ⟨ok_app (sgn_ok (by omega) (by omega) (by decide)) (ok_app (sgn_ok (by omega) (by omega) (by decide)) (sgn_ok (by omega) (by omega) (by decide))),?_⟩
 rw [List.length_append,List.length_append]
 have l1:=sgn_len (k:=100) (n:=(turn (T.getD (q.2*z+q.1) (0,0,0))).1-(expT z T q.1 q.2).1) (by omega) (by omega)
 have l2:=sgn_len (k:=124) (n:=(turn (T.getD (q.2*z+q.1) (0,0,0))).2.1-(expT z T q.1 q.2).2.1) (by omega) (by omega)
 have l3:=sgn_len (k:=148) (n:=(turn (T.getD (q.2*z+q.1) (0,0,0))).2.2-(expT z T q.1 q.2).2.2) (by omega) (by omega)
 omega
theorem flat_ok {α:Type} {f:α->Bts}:∀ (l:List α),(∀ q ∈ l,Pack.BitsOk (f q))->Pack.BitsOk (l.flatMap f)
 | [],_=>ok_nil
 | q :: l,h=>by
  rw [List.flatMap_cons]
  exact ok_app (h q (by simp)) (flat_ok l fun p hp=>h p (by simp [hp]))
theorem flat_len {α:Type} {f:α->Bts} {m:Nat}:∀ (l:List α),(∀ q ∈ l,(f q).length<=m)->(l.flatMap f).length<=m*l.length
 | [],_=>Nat.zero_le _
 | q :: l,h=>by
  rw [List.flatMap_cons,List.length_append,List.length_cons,Nat.mul_succ]
  have h1:=h q (by simp)
  have h2:=flat_len l fun p hp=>h p (by simp [hp])
  omega
theorem softl_ok {T:List Px} (h:∀ p ∈ T,okPx p) (z x y n:Nat):Pack.BitsOk (softl z T x y n)/\(softl z T x y n).length<=57*(n*n):=by
 refine ⟨flat_ok _ fun q _=>(soft1l_ok h z q).1,?_⟩
 rw [<- Flm.spots_len x y n]
 exact flat_len _ fun q _=>(soft1l_ok h z q).2
theorem back_turn' {p:Px} (h:okPx p):back (turn p)=(p,0):=by
 obtain ⟨⟨a,b⟩,⟨c,d⟩,⟨e,f⟩⟩:=h
 have h1:=Pix.turn_isPix p.1 p.2.1 p.2.2 a b c d e f
 obtain ⟨e1,e2,e3⟩:=Pix.back_turn p.1 p.2.1 p.2.2
 unfold back
 rw [if_pos (by exact h1)]
 unfold turn
 dsimp only
 rw [e1,e2,e3]
theorem soft1_reads {S:ByteArray} {z:Nat} {T:List Px} {fs:FS} {i j:Nat} {rest:Bts} (hT:∀ p ∈ T,okPx p)
  (ha:near z fs ((i:Int)-1) j=nearT z T ((i:Int)-1) j) (hb:near z fs i ((j:Int)-1)=nearT z T i ((j:Int)-1)) (hd:near z fs ((i:Int)-1) ((j:Int)-1)=nearT z T ((i:Int)-1) ((j:Int)-1))
  (h:Rd S (soft1l z T (i,j)++rest) fs.r):∃ r',soft1 S z fs i j=({ fs with r:=r' },T.getD (j*z+i) (0,0,0))/\Rd S rest r':=by
 have hp:=getD_ok hT (j*z+i)
 obtain ⟨⟨a1,a2⟩,⟨a3,a4⟩,a5,a6⟩:=turn_bds hp
 obtain ⟨⟨b1,b2⟩,⟨b3,b4⟩,b5,b6⟩:=expT_bds hT z i j
 unfold soft1l at h
 dsimp only at h
 rw [List.append_assoc,List.append_assoc] at h
 obtain ⟨v1,h1⟩:=signed_reads (by unfold turnT;omega) (by unfold turnT;omega) h
 obtain ⟨v2,h2⟩:=signed_reads (by unfold turnT;omega) (by unfold turnT;omega) h1
 obtain ⟨v3,h3⟩:=signed_reads (by unfold turnT;omega) (by unfold turnT;omega) h2
 refine ⟨_,?_,h3⟩
 unfold soft1
 dsimp only
 rw [ha,hb,hd,v1,v2,v3]
 have ec:(expected (nearT z T ((i:Int)-1) j).1 (nearT z T i ((j:Int)-1)).1 (nearT z T ((i:Int)-1) ((j:Int)-1)).1+((turnT z T i j).1-(expT z T i j).1),expected (nearT z T ((i:Int)-1) j).2.1 (nearT z T i ((j:Int)-1)).2.1 (nearT z T ((i:Int)-1) ((j:Int)-1)).2.1+((turnT z T i j).2.1-(expT z T i j).2.1),expected (nearT z T ((i:Int)-1) j).2.2 (nearT z T i ((j:Int)-1)).2.2 (nearT z T ((i:Int)-1) ((j:Int)-1)).2.2+((turnT z T i j).2.2-(expT z T i j).2.2))=turn (T.getD (j*z+i) (0,0,0)):=by
  have e1:(expT z T i j).1=expected (nearT z T ((i:Int)-1) j).1 (nearT z T i ((j:Int)-1)).1 (nearT z T ((i:Int)-1) ((j:Int)-1)).1:=rfl
  have e2:(expT z T i j).2.1=expected (nearT z T ((i:Int)-1) j).2.1 (nearT z T i ((j:Int)-1)).2.1 (nearT z T ((i:Int)-1) ((j:Int)-1)).2.1:=rfl
  have e3:(expT z T i j).2.2=expected (nearT z T ((i:Int)-1) j).2.2 (nearT z T i ((j:Int)-1)).2.2 (nearT z T ((i:Int)-1) ((j:Int)-1)).2.2:=rfl
  rw [<- e1,<- e2,<- e3]
  show _=((turnT z T i j).1,(turnT z T i j).2.1,(turnT z T i j).2.2)
  rw [show (expT z T i j).1+((turnT z T i j).1-(expT z T i j).1)=(turnT z T i j).1 by omega,show (expT z T i j).2.1+((turnT z T i j).2.1-(expT z T i j).2.1)=(turnT z T i j).2.1 by omega,show (expT z T i j).2.2+((turnT z T i j).2.2-(expT z T i j).2.2)=(turnT z T i j).2.2 by omega]
 rw [ec,back_turn' hp,if_pos rfl]
theorem Mid.near {z:Nat} {F:List (List Px)} {f n:Nat} {D:Nat × Nat->Prop} {fs:FS} (h:Mid z F f n D fs) {x y:Int} (hx:x<z) (hy:y<z) (hd:0<=x->0<=y->rank x.toNat y.toNat<n \/ D (x.toNat,y.toNat)):Flm.near z fs x y=nearT z (F.getD f []) x y:=by
 unfold Flm.near nearT
 by_cases h0:x<0 \/ y<0
 ·rw [if_pos h0,if_pos (by omega)]
 ·rw [if_neg h0,if_neg (by omega),h.now,h.agr x.toNat y.toNat (by omega) (by omega) (hd (by omega) (by omega))]
theorem soft_reads {S:ByteArray} {z:Nat} {F:List (List Px)} {f x y n:Nat} {rest:Bts} (al:Al z x y n) (hT:∀ p ∈ F.getD f [],okPx p):∀ (ps d:List (Nat × Nat)) (fs:FS),spots x y n=d++ps->Rd S (ps.flatMap (soft1l z (F.getD f []))++rest) fs.r->Mid z F f (rank x y) (· ∈ d) fs ->
  Rd S rest (soft S z ps fs).r/\Mid z F f (rank x y) (· ∈ spots x y n) (soft S z ps fs)
 | [],d,fs,hs,h,hm=>by
  rw [hs,List.append_nil]
  exact ⟨h,hm⟩
 | (i,j) :: ps,d,fs,hs,h,hm=>by
  have hq:(i,j) ∈ spots x y n:=by rw [hs];simp
  obtain ⟨⟨q1,q2⟩,q3,q4⟩:=spots_mem.1 hq
  dsimp only at q1 q2 q3 q4
  have z1:=al.xz
  have z2:=al.yz
  rw [List.flatMap_cons,List.append_assoc] at h
  have ha:=hm.near (x:=(i:Int)-1) (y:=j) (by omega) (by omega) fun h1 h2=>by
   rw [show ((i:Int)-1).toNat=i-1 by omega,show (j:Int).toNat=j by omega]
   rcases Nat.lt_or_ge x i with hi|hi
   ·exact .inr (spots_done hs ⟨by omega,by omega⟩ ⟨q3,q4⟩ (.inr ⟨rfl,by omega⟩))
   ·obtain rfl:i=x:=by omega
    exact .inl (al.left q3 q4 (by omega))
  have hb:=hm.near (x:=(i:Int)) (y:=(j:Int)-1) (by omega) (by omega) fun h1 h2=>by
   rw [show ((j:Int)-1).toNat=j-1 by omega,show (i:Int).toNat=i by omega]
   rcases Nat.lt_or_ge y j with hj|hj
   ·exact .inr (spots_done hs ⟨q1,q2⟩ ⟨by omega,by omega⟩ (.inl (by omega)))
   ·obtain rfl:j=y:=by omega
    exact .inl (al.above q1 q2 (by omega))
  have hd:=hm.near (x:=(i:Int)-1) (y:=(j:Int)-1) (by omega) (by omega) fun h1 h2=>by
   rw [show ((i:Int)-1).toNat=i-1 by omega,show ((j:Int)-1).toNat=j-1 by omega]
   rcases Nat.lt_or_ge x i with hi|hi
   ·rcases Nat.lt_or_ge y j with hj|hj
    ·exact .inr (spots_done hs ⟨by omega,by omega⟩ ⟨by omega,by omega⟩ (.inl (by omega)))
    ·obtain rfl:j=y:=by omega
     exact .inl (al.above (by omega) (by omega) (by omega))
   ·obtain rfl:i=x:=by omega
    rcases Nat.lt_or_ge y j with hj|hj
    ·exact .inl (al.left (by omega) (by omega) (by omega))
    ·obtain rfl:j=y:=by omega
     exact .inl (al.corner (by omega) (by omega))
  obtain ⟨r',e,h'⟩:=soft1_reads hT ha hb hd h
  have he:soft S z ((i,j) :: ps) fs=soft S z ps (put { fs with r:=r' } (j*z+i) ((F.getD f []).getD (j*z+i) (0,0,0))):=by
   show (if (soft1 S z fs i j).1.r.err=0 then soft S z ps (put (soft1 S z fs i j).1 (j*z+i) (soft1 S z fs i j).2) else (soft1 S z fs i j).1)=_
   rw [e]
   exact if_pos h'.err
  rw [he]
  refine soft_reads al hT ps (d++[(i,j)]) _ (by rw [hs];simp) h' ?_
  have hm':Mid z F f (rank x y) (· ∈ d) { fs with r:=r' }:=hm.same rfl rfl fun _ h=>h
  refine hm'.put (by omega) (by omega) rfl fun q hq=>?_
  rcases List.mem_append.1 hq with h1|h1
  ·exact .inl h1
  ·exact .inr (List.mem_singleton.1 h1)
end Pk
end Go.Proofs.YtekfbphnoibnjaaGreatDoor
