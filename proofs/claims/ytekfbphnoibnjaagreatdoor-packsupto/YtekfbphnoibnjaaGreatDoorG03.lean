/-
  RefExp Math Flm FlmOk Colour RefCol ShAt
-/
import Derived.Test.YtekfbphnoibnjaaGreatDoorG02
set_option maxHeartbeats 4000000
namespace Go.Proofs.YtekfbphnoibnjaaGreatDoor
section
open Go.RowKit
namespace Flm
def expected (a b d:Int):Int :=
 let lo:=if b<a then b else a
 let hi:=if b<a then a else b
 if hi<=d then lo else if d<=lo then hi else a+b-d
theorem expected_bd {a b d m:Int} (a0:-m<=a) (a1:a<=m) (b0:-m<=b) (b1:b<=m):-m<=expected a b d/\expected a b d<=m:=by
 unfold expected
 dsimp only
 split <;> split <;> (try split) <;> omega
end Flm
theorem refExpected (w:World) (a b d:Int) (a0:-1000000<=a) (a1:a<=1000000) (b0:-1000000<=b) (b1:b<=1000000) :
  Calls Tryz.prog 174 #[.int .i64 a,.int .i64 b,.int .i64 d] w fun x w'=>x=.returned (.int .i64 (Flm.expected a b d))/\w'=w:=by
 obtain ⟨E,hE⟩:∃ E,E=Flm.expected a b d:=⟨_,rfl⟩
 have hE':=hE
 rw [<- hE]
 clear hE
 unfold Flm.expected at hE'
 dsimp only at hE'
 by_cases h1:b<a
 ·rw [if_pos h1,if_pos h1] at hE'
  by_cases h2:a<=d
  ·rw [if_pos h2] at hE'
   subst hE'
   go_enter Tryz.func174,Tryz.ntmps174
   go_wp2
   go_ret
   exact ⟨rfl,rfl⟩
  ·rw [if_neg h2] at hE'
   by_cases h3:d<=b
   ·rw [if_pos h3] at hE'
    subst hE'
    go_enter Tryz.func174,Tryz.ntmps174
    go_wp2
    go_ret
    exact ⟨rfl,rfl⟩
   ·rw [if_neg h3] at hE'
    subst hE'
    go_enter Tryz.func174,Tryz.ntmps174
    go_wp2
    go_ret
    exact ⟨rfl,rfl⟩
 ·rw [if_neg h1,if_neg h1] at hE'
  by_cases h2:b<=d
  ·rw [if_pos h2] at hE'
   subst hE'
   go_enter Tryz.func174,Tryz.ntmps174
   go_wp2
   go_ret
   exact ⟨rfl,rfl⟩
  ·rw [if_neg h2] at hE'
   by_cases h3:d<=a
   ·rw [if_pos h3] at hE'
    subst hE'
    go_enter Tryz.func174,Tryz.ntmps174
    go_wp2
    go_ret
    exact ⟨rfl,rfl⟩
   ·rw [if_neg h3] at hE'
    subst hE'
    go_enter Tryz.func174,Tryz.ntmps174
    go_wp2
    go_ret
    exact ⟨rfl,rfl⟩
end
end Go.Proofs.YtekfbphnoibnjaaGreatDoor
namespace Go.Proofs.YtekfbphnoibnjaaGreatDoor.Pix
def tT (r b:Int):Int:=b+(r-b) / 2
def tV (r g b:Int):Int:=g-tT r b
def tY (r g b:Int):Int:=tT r b+tV r g b / 2
def bT (y v:Int):Int:=y-v / 2
def bG (y v:Int):Int:=v+bT y v
def bB (y u v:Int):Int:=bT y v-u / 2
def bR (y u v:Int):Int:=u+bB y u v
def isPix (y u v:Int):Prop:=(0<=bR y u v/\bR y u v<=255)/\(0<=bG y v/\bG y v<=255)/\(0<=bB y u v/\bB y u v<=255)
theorem tbounds (r g b:Int) (r0:0<=r) (r1:r<=255) (g0:0<=g) (g1:g<=255) (b0:0<=b) (b1:b<=255) :
  (0<=tT r b/\tT r b<=255)/\(-255<=tV r g b/\tV r g b<=255)/\(0<=tY r g b/\tY r g b<=255):=by
 unfold tY tV tT;omega
theorem back_turn (r g b:Int):bR (tY r g b) (r-b) (tV r g b)=r/\bG (tY r g b) (tV r g b)=g/\bB (tY r g b) (r-b) (tV r g b)=b:=by
 unfold bR bB bG bT tY tV tT;omega
theorem turn_isPix (r g b:Int) (r0:0<=r) (r1:r<=255) (g0:0<=g) (g1:g<=255) (b0:0<=b) (b1:b<=255):isPix (tY r g b) (r-b) (tV r g b):=by
 unfold isPix;obtain ⟨e1,e2,e3⟩:=back_turn r g b;rw [e1,e2,e3];omega
theorem near (y u v:Int) (h:isPix y u v):(-255<=y/\y<=255)/\(-255<=u/\u<=255)/\(-255<=v/\v<=255):=by
 unfold isPix bR bB bG bT at h;omega
end Go.Proofs.YtekfbphnoibnjaaGreatDoor.Pix
namespace Go.Proofs.YtekfbphnoibnjaaGreatDoor
namespace Flm
abbrev Px:=Int × Int × Int
structure FS where
 r:RS
 frs:List (List Px)
 rd:List Bool
 fr:Int
 x:Int
 y:Int
def okPx (p:Px):Prop:=(0<=p.1/\p.1<=255)/\(0<=p.2.1/\p.2.1<=255)/\(0<=p.2.2/\p.2.2<=255)
def turn (p:Px):Px:=(Pix.tY p.1 p.2.1 p.2.2,p.1-p.2.2,Pix.tV p.1 p.2.1 p.2.2)
open Classical in
noncomputable def back (c:Px):Px × Int:=if Pix.isPix c.1 c.2.1 c.2.2 then ((Pix.bR c.1 c.2.1 c.2.2,Pix.bG c.1 c.2.2,Pix.bB c.1 c.2.1 c.2.2),0) else ((0,0,0),2)
theorem back_ok (c:Px):okPx (back c).1:=by
 unfold back
 split
 ·exact by assumption
 ·exact ⟨⟨by decide,by decide⟩,⟨by decide,by decide⟩,⟨by decide,by decide⟩⟩
def px (fs:FS) (f i:Nat):Px:=(fs.frs.getD f []).getD i (0,0,0)
def now (fs:FS):Nat:=fs.frs.length-1
def near (z:Nat) (fs:FS) (x y:Int):Px:=if x<0 \/ y<0 \/ (z:Int)<=x then (0,0,0) else turn (px fs (now fs) (y.toNat*z+x.toNat))
def put (fs:FS) (i:Nat) (p:Px):FS:={ fs with frs:=fs.frs.set (now fs) ((fs.frs.getD (now fs) []).set i p) }
def spots (x y n:Nat):List (Nat × Nat):=(List.range n).flatMap fun j=>(List.range n).map fun i=>(x+i,y+j)
noncomputable def soft1 (s:ByteArray) (z:Nat) (fs:FS) (i j:Nat):FS × Px :=
 let a:=near z fs ((i:Int)-1) j
 let b:=near z fs i ((j:Int)-1)
 let d:=near z fs ((i:Int)-1) ((j:Int)-1)
 let r1:=(Rdr.number s fs.r 100).2
 let r2:=(Rdr.number s r1 124).2
 let r3:=(Rdr.number s r2 148).2
 let c:Px:=(expected a.1 b.1 d.1+Rdr.signed s fs.r 100,expected a.2.1 b.2.1 d.2.1+Rdr.signed s r1 124,expected a.2.2 b.2.2 d.2.2+Rdr.signed s r2 148)
 ({ fs with r:=if (back c).2=0 then r3 else Rdr.fail r3 (back c).2 },(back c).1)
noncomputable def soft (s:ByteArray) (z:Nat):List (Nat × Nat)->FS->FS
 | [],fs=>fs
 | (i,j) :: ps,fs =>
  let q:=soft1 s z fs i j
  if q.1.r.err=0 then soft s z ps (put q.1 (j*z+i) q.2) else q.1
def shade (s:ByteArray) (r:RS):Int × RS:=((Rdr.number s r 224).1 % 256,if 255<(Rdr.number s r 224).1 then Rdr.fail (Rdr.number s r 224).2 2 else (Rdr.number s r 224).2)
def colour (s:ByteArray) (r:RS):Px × RS :=
 let a:=shade s r
 let b:=shade s a.2
 let c:=shade s b.2
 ((a.1,b.1,c.1),c.2)
def colours (s:ByteArray):Nat->RS->List Px × RS
 | 0,r=>([],r)
 | n+1,r=>if r.err=0 then let q:=colours s n (colour s r).2;((colour s r).1 :: q.1,q.2) else ([],r)
def which (s:ByteArray):Nat->Nat->RS->Nat × RS
 | 0,k,r=>(k,r)
 | f+1,k,r=>if Rdr.bitV r (250+k)=0 then (k,Rdr.bitS s r (250+k)) else which s f (k+1) (Rdr.bitS s r (250+k))
def fills (s:ByteArray) (z n:Nat) (l:List Px):List (Nat × Nat)->FS->FS
 | [],fs=>fs
 | (i,j) :: ps,fs =>
  if fs.r.err=0 then
   let q:=which s n 0 fs.r
   if q.2.err=0 then fills s z n l ps (put { fs with r:=q.2 } (j*z+i) (l.getD q.1 (0,0,0))) else fills s z n l ps { fs with r:=q.2 }
  else fs
def few (s:ByteArray) (z x y side:Nat) (fs:FS):FS :=
 let n:=(Rdr.number s fs.r 200).1
 let r:=if 3<n then Rdr.fail (Rdr.number s fs.r 200).2 8 else (Rdr.number s fs.r 200).2
 let q:=colours s (n.toNat+1) r
 fills s z n.toNat q.1 (spots x y side) { fs with r:=q.2 }
def may (z:Nat) (fs:FS) (own:Bool) (i j:Int):Bool:=decide (0<=i) && decide (0<=j) && decide (i<z) && decide (j<z) && (!own || fs.rd.getD (j.toNat*z+i.toNat) false)
def moves (z:Nat) (f:Nat) (dx dy:Int):List (Nat × Nat)->FS->FS
 | [],fs=>fs
 | (i,j) :: ps,fs=>moves z f dx dy ps (put fs (j*z+i) (px fs f (((j:Int)+dy).toNat*z+((i:Int)+dx).toNat)))
def copies (s:ByteArray) (z x y side k f:Nat) (fs:FS):FS :=
 let dx:=Rdr.signed s fs.r k
 let r1:=(Rdr.number s fs.r k).2
 let dy:=Rdr.signed s r1 (k+24)
 let r2:=(Rdr.number s r1 (k+24)).2
 if r2.err=0 then
  if (spots x y side).all (fun p=>may z fs (f == now fs) ((p.1:Int)+dx) ((p.2:Int)+dy)) then moves z f dx dy (spots x y side) { fs with r:=r2 } else { fs with r:=Rdr.fail r2 9 }
 else { fs with r:=r2 }
def seen (z:Nat):List (Nat × Nat)->FS->FS
 | [],fs=>fs
 | (i,j) :: ps,fs=>seen z ps { fs with rd:=fs.rd.set (j*z+i) true }
noncomputable def block (s:ByteArray) (z x y side:Nat) (fs:FS):FS :=
 let a:=Rdr.bitV fs.r 2
 let r1:=Rdr.bitS s fs.r 2
 let b:=Rdr.bitV r1 (3+a.toNat)
 let r2:=Rdr.bitS s r1 (3+a.toNat)
 let g:FS:={ fs with r:=r2 }
 if r2.err=0 then
  if a=0 then (if b=0 then seen z (spots x y side) (soft s z (spots x y side) g) else seen z (spots x y side) (few s z x y side g))
  else if b=0 then seen z (spots x y side) (copies s z x y side 260 (now g) g)
  else if now g=0 then { g with r:=Rdr.fail r2 10 }
  else seen z (spots x y side) (copies s z x y side 310 (now g-1) g)
 else g
noncomputable def area (s:ByteArray) (z:Nat):Nat->Nat->Nat->Nat->FS->FS
 | 0,x,y,side,fs=>if fs.r.err=0 then block s z x y side { fs with fr:=now fs,x:=x,y:=y } else fs
 | n+1,x,y,side,fs =>
  if fs.r.err=0 then
   let k:=if side=16 then 0 else 1
   let g:FS:={ fs with fr:=now fs,x:=x,y:=y,r:=Rdr.bitS s fs.r k }
   if Rdr.bitV fs.r k=1 then
    let h:=side / 2
    area s z n (x+h) (y+h) h (area s z n x (y+h) h (area s z n (x+h) y h (area s z n x y h g)))
   else if g.r.err=0 then block s z x y side g else g
  else fs
def cuts (z:Nat):Nat:=if z=16 then 2 else if z=8 then 1 else 0
noncomputable def frames (s:ByteArray) (z:Nat):Nat->FS->FS
 | 0,fs=>fs
 | n+1,fs=>if fs.r.err=0 then frames s z n (area s z (cuts z) 0 0 z { fs with frs:=fs.frs++[List.replicate (z*z) (0,0,0)],rd:=List.replicate (z*z) false }) else fs
end Flm
namespace Rdr
theorem run_ok {s:ByteArray} {k:Nat} (hk:k+22<=400):∀ (f n:Nat) (r:RS),f+n=11->(n=10->r.err ≠ 0)->Ok s r->Ok s (run s k f n r).2/\(run s k f n r).1<=10+(n-10)/\((run s k f n r).2.err=0->(run s k f n r).1<=9 \/ n=11)
 | 0,n,r,hf,_,h=>by
  refine ⟨h,?_,fun _=>.inr (by omega)⟩
  show n<=10+(n-10)
  omega
 | f+1,n,r,hf,h10,h=>by
  have hn:n<=10:=by omega
  unfold run
  by_cases he:r.err=0
  ·rw [if_pos he]
   have hn9:n<=9:=by
    rcases Nat.lt_or_ge n 10 with h'|h'
    ·omega
    ·exact absurd he (h10 (by omega))
   by_cases hb:bitV r (k+n)=0
   ·rw [if_pos hb]
    exact ⟨h.bitS (by omega),by show n<=_;omega,fun _=>.inl (by show n<=9;omega)⟩
   ·rw [if_neg hb]
    by_cases h9:n+1=10
    ·rw [if_pos h9]
     have hok:=(h.bitS (k:=k+n) (by omega)).fail (e:=8) (by decide)
     have hne:=fail_err (r:=bitS s r (k+n)) (e:=8) (by decide)
     obtain ⟨g1,g2,g3⟩:=run_ok hk f (n+1) _ (by omega) (fun _=>hne) hok
     exact ⟨g1,by omega,fun e=>by rcases g3 e with g|g <;> omega⟩
    ·rw [if_neg h9]
     obtain ⟨g1,g2,g3⟩:=run_ok hk f (n+1) _ (by omega) (fun e=>absurd e (by omega)) (h.bitS (k:=k+n) (by omega))
     exact ⟨g1,by omega,fun e=>by rcases g3 e with g|g <;> omega⟩
  ·rw [if_neg he]
   exact ⟨h,by show n<=_;omega,fun e=>absurd e he⟩
theorem lows_ok {s:ByteArray} {k:Nat} (hk:k<400):∀ (f:Nat) (d u:Int) (r:RS),Ok s r->0<=d->d+1<=u->Ok s (lows s k f d u r).2.2/\0<=(lows s k f d u r).1/\(lows s k f d u r).1+1<=(lows s k f d u r).2.1/\(lows s k f d u r).2.1<=u*2 ^ f
 | 0,d,u,r,h,d0,d1=>⟨h,d0,d1,by show u<=u*2 ^ 0;omega⟩
 | f+1,d,u,r,h,d0,d1=>by
  have hp:u*2 ^ (f+1)=2*u*2 ^ f:=by rw [Int.pow_succ,Int.mul_comm (2 ^ f) 2,<- Int.mul_assoc,Int.mul_comm u 2]
  unfold lows
  by_cases he:r.err=0
  ·rw [if_pos he,hp]
   have hb:=bitV_cases r k
   exact lows_ok hk f _ _ _ (h.bitS hk) (by rcases hb with e|e <;> rw [e] <;> omega) (by rcases hb with e|e <;> rw [e] <;> omega)
  ·rw [if_neg he]
   refine ⟨h,d0,d1,?_⟩
   rw [hp]
   show u<=2*u*2 ^ f
   have h1:(1:Int)<=2 ^ f:=by
    have:1<=(2:Nat) ^ f:=Nat.one_le_two_pow
    exact_mod_cast this
   have h2:2*u*1<=2*u*2 ^ f:=Int.mul_le_mul_of_nonneg_left h1 (by omega)
   omega
theorem number_ok {s:ByteArray} {r:RS} {k:Nat} (h:Ok s r) (hk:k+22<=400):Ok s (number s r k).2:=by
 obtain ⟨g1,g2,g3⟩:=run_ok (s:=s) hk 11 0 r rfl (fun e=>by omega) h
 unfold number
 by_cases hm:(run s k 11 0 r).1<=9
 ·exact (lows_ok (s:=s) (k:=k+12+(run s k 11 0 r).1) (by omega) _ 0 1 _ g1 (by omega) (by omega)).1
 ·have he:(run s k 11 0 r).2.err ≠ 0:=fun e=>by rcases g3 e with g|g <;> omega
  have:∀ (f:Nat) (d u:Int) (c:Nat),(lows s c f d u (run s k 11 0 r).2)=(d,u,(run s k 11 0 r).2):=fun f d u c=>by
   cases f with
   | zero=>rfl
   | succ f=>unfold lows;rw [if_neg he]
  rw [this]
  exact g1
set_option maxRecDepth 20000 in
theorem pow512 (m:Nat) (hm:m<=9):(2:Int) ^ m<=512:=by
 have:(2:Nat) ^ m<=2 ^ 9:=Nat.pow_le_pow_right (by decide) hm
 exact_mod_cast this
theorem number_bd {s:ByteArray} {r:RS} {k:Nat} (h:Ok s r) (hk:k+22<=400):0<=(number s r k).1/\(number s r k).1<=1022:=by
 obtain ⟨g1,g2,g3⟩:=run_ok (s:=s) hk 11 0 r rfl (fun e=>by omega) h
 unfold number
 by_cases hm:(run s k 11 0 r).1<=9
 ·obtain ⟨_,l1,l2,l3⟩:=lows_ok (s:=s) (k:=k+12+(run s k 11 0 r).1) (by omega) (run s k 11 0 r).1 0 1 _ g1 (by omega) (by omega)
  have hp:(2:Int) ^ (run s k 11 0 r).1<=512:=pow512 _ hm
  dsimp only
  omega
 ·have he:(run s k 11 0 r).2.err ≠ 0:=fun e=>by rcases g3 e with g|g <;> omega
  have:∀ (f:Nat) (d u:Int) (c:Nat),(lows s c f d u (run s k 11 0 r).2)=(d,u,(run s k 11 0 r).2):=fun f d u c=>by
   cases f with
   | zero=>rfl
   | succ f=>unfold lows;rw [if_neg he]
  rw [this]
  dsimp only
  omega
end Rdr
namespace Flm
theorem soft1_ok {s:ByteArray} {z:Nat} {fs:FS} {i j:Nat} (h:Rdr.Ok s fs.r):Rdr.Ok s (soft1 s z fs i j).1.r:=by
 have h1:=Rdr.number_ok (k:=100) h (by omega)
 have h2:=Rdr.number_ok (k:=124) h1 (by omega)
 have h3:=Rdr.number_ok (k:=148) h2 (by omega)
 unfold soft1
 dsimp only
 split
 ·exact h3
 ·refine h3.fail ?_
  unfold back at *
  split
  ·rename_i hc _;exact absurd (by rw [if_pos (by assumption)]) hc
  ·decide
theorem soft_ok {s:ByteArray} {z:Nat}:∀ (ps:List (Nat × Nat)) (fs:FS),Rdr.Ok s fs.r->Rdr.Ok s (soft s z ps fs).r
 | [],_,h=>h
 | (i,j) :: ps,fs,h=>by
  unfold soft
  dsimp only
  split
  ·exact soft_ok ps _ (soft1_ok h)
  ·exact soft1_ok h
theorem shade_ok {s:ByteArray} {r:RS} (h:Rdr.Ok s r):Rdr.Ok s (shade s r).2:=by
 have h1:=Rdr.number_ok (k:=224) h (by omega)
 unfold shade
 dsimp only
 split
 ·exact h1.fail (by decide)
 ·exact h1
theorem colour_ok {s:ByteArray} {r:RS} (h:Rdr.Ok s r):Rdr.Ok s (colour s r).2:=shade_ok (shade_ok (shade_ok h))
theorem colours_ok {s:ByteArray}:∀ (n:Nat) (r:RS),Rdr.Ok s r->Rdr.Ok s (colours s n r).2
 | 0,_,h=>h
 | n+1,r,h=>by
  unfold colours
  split
  ·exact colours_ok n _ (colour_ok h)
  ·exact h
theorem which_ok {s:ByteArray}:∀ (f k:Nat) (r:RS),f+k<=149->Rdr.Ok s r->Rdr.Ok s (which s f k r).2
 | 0,_,_,_,h=>h
 | f+1,k,r,hk,h=>by
  unfold which
  split
  ·exact h.bitS (by omega)
  ·exact which_ok f (k+1) _ (by omega) (h.bitS (by omega))
theorem fills_ok {s:ByteArray} {z n:Nat} {l:List Px} (hn':n<=149):∀ (ps:List (Nat × Nat)) (fs:FS),Rdr.Ok s fs.r->Rdr.Ok s (fills s z n l ps fs).r
 | [],_,h=>h
 | (i,j) :: ps,fs,h=>by
  unfold fills
  split
  ·dsimp only
   split
   ·exact fills_ok hn' ps _ (which_ok n 0 _ (by omega) h)
   ·exact fills_ok hn' ps _ (which_ok n 0 _ (by omega) h)
  ·exact h
theorem fills_err {s:ByteArray} {z n:Nat} {l:List Px} {ps:List (Nat × Nat)} {fs:FS} (he:fs.r.err ≠ 0):fills s z n l ps fs=fs:=by
 cases ps with
 | nil=>rfl
 | cons p ps=>obtain ⟨i,j⟩:=p;unfold fills;rw [if_neg he]
theorem colours_err {s:ByteArray} {n:Nat} {r:RS} (he:r.err ≠ 0):colours s n r=([],r):=by
 cases n with
 | zero=>rfl
 | succ n=>unfold colours;rw [if_neg he]
theorem few_ok {s:ByteArray} {z x y side:Nat} {fs:FS} (h:Rdr.Ok s fs.r):Rdr.Ok s (few s z x y side fs).r:=by
 have h1:=Rdr.number_ok (k:=200) h (by omega)
 unfold few
 dsimp only
 by_cases h3:3<(Rdr.number s fs.r 200).1
 ·rw [if_pos h3]
  have he:=Rdr.fail_err (r:=(Rdr.number s fs.r 200).2) (e:=8) (by decide)
  rw [colours_err he,fills_err he]
  exact h1.fail (by decide)
 ·rw [if_neg h3]
  exact fills_ok (by omega) _ _ (colours_ok _ _ h1)
theorem moves_r {z f:Nat} {dx dy:Int}:∀ (ps:List (Nat × Nat)) (fs:FS),(moves z f dx dy ps fs).r=fs.r
 | [],_=>rfl
 | (i,j) :: ps,fs=>by unfold moves;rw [moves_r ps];rfl
theorem seen_r {z:Nat}:∀ (ps:List (Nat × Nat)) (fs:FS),(seen z ps fs).r=fs.r
 | [],_=>rfl
 | (i,j) :: ps,fs=>by unfold seen;rw [seen_r ps]
theorem copies_ok {s:ByteArray} {z x y side k f:Nat} {fs:FS} (hk:k+46<=400) (h:Rdr.Ok s fs.r):Rdr.Ok s (copies s z x y side k f fs).r:=by
 have h1:=Rdr.number_ok (k:=k) h (by omega)
 have h2:=Rdr.number_ok (k:=k+24) h1 (by omega)
 unfold copies
 dsimp only
 split
 ·split
  ·rw [moves_r];exact h2
  ·exact h2.fail (by decide)
 ·exact h2
theorem block_ok {s:ByteArray} {z x y side:Nat} {fs:FS} (h:Rdr.Ok s fs.r):Rdr.Ok s (block s z x y side fs).r:=by
 have ha:(Rdr.bitV fs.r 2).toNat<=1:=by rcases Rdr.bitV_cases fs.r 2 with e|e <;> rw [e] <;> decide
 have h1:=h.bitS (k:=2) (by omega)
 have h2:=h1.bitS (k:=3+(Rdr.bitV fs.r 2).toNat) (by omega)
 unfold block
 dsimp only
 split
 ·split
  ·split
   ·rw [seen_r];exact soft_ok _ _ h2
   ·rw [seen_r];exact few_ok h2
  ·split
   ·rw [seen_r];exact copies_ok (by omega) h2
   ·split
    ·exact h2.fail (by decide)
    ·rw [seen_r];exact copies_ok (by omega) h2
 ·exact h2
theorem area_ok {s:ByteArray} {z:Nat}:∀ (n x y side:Nat) (fs:FS),Rdr.Ok s fs.r->Rdr.Ok s (area s z n x y side fs).r
 | 0,x,y,side,fs,h=>by
  unfold area
  split
  ·exact block_ok h
  ·exact h
 | n+1,x,y,side,fs,h=>by
  obtain ⟨k,hk⟩:∃ k,k=if side=16 then 0 else 1:=⟨_,rfl⟩
  have h1:=h.bitS (k:=k) (by rw [hk];split <;> omega)
  unfold area
  dsimp only
  rw [<- hk]
  split
  ·split
   ·exact area_ok n _ _ _ _ (area_ok n _ _ _ _ (area_ok n _ _ _ _ (area_ok n _ _ _ _ h1)))
   ·split
    ·exact block_ok h1
    ·exact h1
  ·exact h
end Flm
section
open Go.RowKit
theorem colTurn (r g b:Int) (w:World) (r0:0<=r) (r1:r<=255) (g0:0<=g) (g1:g<=255) (b0:0<=b) (b1:b<=255) :
  Calls Tryz.prog 96 #[.agg #[.int .u8 r,.int .u8 g,.int .u8 b]] w fun e w'=>e=.returned (.agg #[.int .i64 (Pix.tY r g b),.int .i64 (r-b),.int .i64 (Pix.tV r g b)])/\Below w.heap.size w w':=by
 go_enter Tryz.func96,Tryz.ntmps96
 go_wp2
 go_quiet (fail)
 go_wp2
 refine bodyPost_ret (v:=.agg #[.int .i64 (Pix.tY r g b),.int .i64 (r-b),.int .i64 (Pix.tV r g b)]) (by simp [results,Tryz.results96,go_sem,Pix.tY,Pix.tV,Pix.tT]) rfl ⟨rfl,?_⟩
 repeat (first|exact Below.refl _ _|refine Below.setCell ?_ (by simp) _|refine Below.alloc ?_ (by simp) _|refine below_drewN ?_ _)
end
section
open Go.RowKit
theorem negHalf (n:Int):-((1-n) / 2)=n / 2:=by omega
theorem refHalf (n:Int) (w:World) (h1:-100000<=n) (h2:n<=100000) :
  Calls Tryz.prog 97 #[.int .i64 n] w fun e w'=>e=.returned (.int .i64 (n / 2))/\w'=w:=by
 by_cases h:n<0
 ·go_enter Tryz.func97,Tryz.ntmps97
  go_wp2
  go_ret
  exact ⟨by rw [<- negHalf n];rfl,rfl⟩
 ·go_enter Tryz.func97,Tryz.ntmps97
  go_wp2
  go_ret
  exact ⟨rfl,rfl⟩
theorem refTurn (r g b:Int) (w:World) (r0:0<=r) (r1:r<=255) (g0:0<=g) (g1:g<=255) (b0:0<=b) (b1:b<=255) :
  Calls Tryz.prog 54 #[.agg #[.int .u8 r,.int .u8 g,.int .u8 b]] w fun e w'=>e=.returned (.agg #[.int .i64 (Pix.tY r g b),.int .i64 (r-b),.int .i64 (Pix.tV r g b)])/\Below w.heap.size w w':=by
 go_enter Tryz.func54,Tryz.ntmps54
 go_wp2_with (go_at_call 97;refine (refHalf _ _ (by omega) (by omega)).mono ?_;rintro e w1 ⟨rfl,rfl⟩)
 refine bodyPost_ret (v:=.agg #[.int .i64 (Pix.tY r g b),.int .i64 (r-b),.int .i64 (Pix.tV r g b)]) (by simp [results,Tryz.results54,go_sem,Pix.tY,Pix.tV,Pix.tT]) rfl ⟨rfl,?_⟩
 repeat (first|exact Below.refl _ _|refine Below.setCell ?_ (by simp) _|refine Below.alloc ?_ (by simp) _|refine below_drewN ?_ _)
def far (n:Int):Prop:=n < -1000 \/ 1000<n
theorem not_far {n:Int} (h:¬ far n):-1000<=n/\n<=1000:=by unfold far at h;omega
theorem nopix6 {y u v:Int} (h:¬ Pix.isPix y u v):u+(y-v / 2-u / 2)<0 \/ (0<=u+(y-v / 2-u / 2)/\255<u+(y-v / 2-u / 2)) \/
  (0<=u+(y-v / 2-u / 2)/\u+(y-v / 2-u / 2)<=255/\v+(y-v / 2)<0) \/ (0<=u+(y-v / 2-u / 2)/\u+(y-v / 2-u / 2)<=255/\0<=v+(y-v / 2)/\255<v+(y-v / 2)) \/
  (0<=u+(y-v / 2-u / 2)/\u+(y-v / 2-u / 2)<=255/\0<=v+(y-v / 2)/\v+(y-v / 2)<=255/\y-v / 2-u / 2<0) \/
  (0<=u+(y-v / 2-u / 2)/\u+(y-v / 2-u / 2)<=255/\0<=v+(y-v / 2)/\v+(y-v / 2)<=255/\0<=y-v / 2-u / 2/\255<y-v / 2-u / 2):=by
 unfold Pix.isPix Pix.bR Pix.bG Pix.bB Pix.bT at h
 omega
theorem refBack_out (y u v:Int) (w:World) (h:¬ Pix.isPix y u v) :
  Calls Tryz.prog 56 #[.agg #[.int .i64 y,.int .i64 u,.int .i64 v]] w fun e w'=>e=.returned (.tuple #[.agg #[.int .u8 0,.int .u8 0,.int .u8 0],.int .i64 2])/\Below w.heap.size w w':=by
 go_enter Tryz.func56,Tryz.ntmps56
 go_wp2
 go_loop [4] (fun i=>∃ k:Nat,k<=3/\i=.int .i64 k/\(0<k->¬ far y)/\(1<k->¬ far u)/\(2<k->¬ far v)) (fun i=>4-(intOf i).toNat)
 case atStart=>exact ⟨0,by omega,rfl,by omega,by omega,by omega⟩
 case round =>
  obtain ⟨k,hk,rfl,hy,hu,hv⟩:=hrel
  rcases (by omega:k=0 \/ k=1 \/ k=2 \/ k=3) with rfl|rfl|rfl|rfl
  ·clear hy hu hv
   by_cases hf:far y
   ·unfold far at hf
    rcases hf with hf|hf
    ·go_wp2
     refine bodyPost_ret (v:=.tuple #[.agg #[.int .u8 0,.int .u8 0,.int .u8 0],.int .i64 2]) (by simp [results,Tryz.results56,go_sem]) rfl ⟨rfl,?_⟩
     repeat (first|exact Below.refl _ _|refine Below.setCell ?_ (by simp) _|refine Below.alloc ?_ (by simp) _|refine below_drewN ?_ _)
    ·have hg:¬ y < -1000:=by omega
     go_wp2
     refine bodyPost_ret (v:=.tuple #[.agg #[.int .u8 0,.int .u8 0,.int .u8 0],.int .i64 2]) (by simp [results,Tryz.results56,go_sem]) rfl ⟨rfl,?_⟩
     repeat (first|exact Below.refl _ _|refine Below.setCell ?_ (by simp) _|refine Below.alloc ?_ (by simp) _|refine below_drewN ?_ _)
   ·obtain ⟨ha,hb⟩:=not_far hf
    have HF:Hid (¬ far y):=hf
    clear hf
    go_wp2
    go_round
    case rel=>exact ⟨0+1,by omega,by go_num,fun _=>HF.out,fun h=>absurd h (by omega),fun h=>absurd h (by omega)⟩
    case measure=>simp [intOf]
  ·have h0:Hid (¬ far y):=hy (by omega)
   clear hy hu hv
   by_cases hf:far u
   ·unfold far at hf
    rcases hf with hf|hf
    ·go_wp2
     refine bodyPost_ret (v:=.tuple #[.agg #[.int .u8 0,.int .u8 0,.int .u8 0],.int .i64 2]) (by simp [results,Tryz.results56,go_sem]) rfl ⟨rfl,?_⟩
     repeat (first|exact Below.refl _ _|refine Below.setCell ?_ (by simp) _|refine Below.alloc ?_ (by simp) _|refine below_drewN ?_ _)
    ·have hg:¬ u < -1000:=by omega
     go_wp2
     refine bodyPost_ret (v:=.tuple #[.agg #[.int .u8 0,.int .u8 0,.int .u8 0],.int .i64 2]) (by simp [results,Tryz.results56,go_sem]) rfl ⟨rfl,?_⟩
     repeat (first|exact Below.refl _ _|refine Below.setCell ?_ (by simp) _|refine Below.alloc ?_ (by simp) _|refine below_drewN ?_ _)
   ·obtain ⟨ha,hb⟩:=not_far hf
    have HF:Hid (¬ far u):=hf
    clear hf
    go_wp2
    go_round
    case rel=>exact ⟨1+1,by omega,by go_num,fun _=>h0.out,fun _=>HF.out,fun h=>absurd h (by omega)⟩
    case measure=>simp [intOf]
  ·have h0:Hid (¬ far y):=hy (by omega)
   have h1:Hid (¬ far u):=hu (by omega)
   clear hy hu hv
   by_cases hf:far v
   ·unfold far at hf
    rcases hf with hf|hf
    ·go_wp2
     refine bodyPost_ret (v:=.tuple #[.agg #[.int .u8 0,.int .u8 0,.int .u8 0],.int .i64 2]) (by simp [results,Tryz.results56,go_sem]) rfl ⟨rfl,?_⟩
     repeat (first|exact Below.refl _ _|refine Below.setCell ?_ (by simp) _|refine Below.alloc ?_ (by simp) _|refine below_drewN ?_ _)
    ·have hg:¬ v < -1000:=by omega
     go_wp2
     refine bodyPost_ret (v:=.tuple #[.agg #[.int .u8 0,.int .u8 0,.int .u8 0],.int .i64 2]) (by simp [results,Tryz.results56,go_sem]) rfl ⟨rfl,?_⟩
     repeat (first|exact Below.refl _ _|refine Below.setCell ?_ (by simp) _|refine Below.alloc ?_ (by simp) _|refine below_drewN ?_ _)
   ·obtain ⟨ha,hb⟩:=not_far hf
    have HF:Hid (¬ far v):=hf
    clear hf
    go_wp2
    go_round
    case rel=>exact ⟨2+1,by omega,by go_num,fun _=>h0.out,fun _=>h1.out,fun _=>HF.out⟩
    case measure=>simp [intOf]
  ·obtain ⟨y0,y1⟩:=not_far (hy (by omega))
   obtain ⟨u0,u1⟩:=not_far (hu (by omega))
   obtain ⟨v0,v1⟩:=not_far (hv (by omega))
   clear hy hu hv
   rcases nopix6 h with h1|⟨h1,h2⟩|⟨h1,h2,h3⟩|⟨h1,h2,h3,h4⟩|⟨h1,h2,h3,h4,h5⟩|⟨h1,h2,h3,h4,h5,h6⟩
   all_goals
    clear h
    go_wp2
    go_quiet ((go_at_call 97;exact Calls.quiet_of_same (refHalf _ _ (by omega) (by omega))))
    go_wp2_with (go_at_call 97;refine (refHalf _ _ (by omega) (by omega)).mono ?_;rintro e w1 ⟨rfl,rfl⟩)
    refine bodyPost_ret (v:=.tuple #[.agg #[.int .u8 0,.int .u8 0,.int .u8 0],.int .i64 2]) (by simp [results,Tryz.results56,go_sem]) rfl ⟨rfl,?_⟩
    repeat (first|exact Below.refl _ _|refine Below.setCell ?_ (by simp) _|refine Below.alloc ?_ (by simp) _|refine below_drewN ?_ _)
theorem refBack_in (y u v:Int) (w:World) (h:Pix.isPix y u v) :
  Calls Tryz.prog 56 #[.agg #[.int .i64 y,.int .i64 u,.int .i64 v]] w fun e w'=>e=.returned (.tuple #[.agg #[.int .u8 (Pix.bR y u v),.int .u8 (Pix.bG y v),.int .u8 (Pix.bB y u v)],.int .i64 0])/\Below w.heap.size w w':=by
 obtain ⟨⟨y0,y1⟩,⟨u0,u1⟩,⟨v0,v1⟩⟩:=Pix.near y u v h
 have y2:-1000<=y:=by omega
 have y3:y<=1000:=by omega
 have u2:-1000<=u:=by omega
 have u3:u<=1000:=by omega
 have v2:-1000<=v:=by omega
 have v3:v<=1000:=by omega
 obtain ⟨⟨a0,a1⟩,⟨b0,b1⟩,⟨c0,c1⟩⟩:=h
 unfold Pix.bR Pix.bB Pix.bT at a0 a1
 unfold Pix.bG Pix.bT at b0 b1
 unfold Pix.bB Pix.bT at c0 c1
 go_enter Tryz.func56,Tryz.ntmps56
 go_wp2
 go_loop [4] (fun i=>∃ k:Nat,k<=3/\i=.int .i64 k) (fun i=>4-(intOf i).toNat)
 case atStart=>exact ⟨0,by omega,rfl⟩
 case round =>
  obtain ⟨k,hk,rfl⟩:=hrel
  rcases (by omega:k=0 \/ k=1 \/ k=2 \/ k=3) with rfl|rfl|rfl|rfl
  ·go_wp2
   go_round
   case rel=>exact ⟨1,by omega,by go_num⟩
   case measure=>simp [intOf]
  ·go_wp2
   go_round
   case rel=>exact ⟨2,by omega,by go_num⟩
   case measure=>simp [intOf]
  ·go_wp2
   go_round
   case rel=>exact ⟨3,by omega,by go_num⟩
   case measure=>simp [intOf]
  ·go_wp2
   go_quiet ((go_at_call 97;exact Calls.quiet_of_same (refHalf _ _ (by omega) (by omega))))
   go_wp2_with (go_at_call 97;refine (refHalf _ _ (by omega) (by omega)).mono ?_;rintro e w1 ⟨rfl,rfl⟩)
   refine bodyPost_ret (v:=.tuple #[.agg #[.int .u8 (Pix.bR y u v),.int .u8 (Pix.bG y v),.int .u8 (Pix.bB y u v)],.int .i64 0]) (by simp [results,Tryz.results56,go_sem,Pix.bR,Pix.bG,Pix.bB,Pix.bT]) rfl ⟨rfl,?_⟩
   repeat (first|exact Below.refl _ _|refine Below.setCell ?_ (by simp) _|refine Below.alloc ?_ (by simp) _|refine below_drewN ?_ _)
end
section
open Go.RowKit
open Flm (Px FS)
def pxCells (ps:List Px):List Value:=ps.flatMap fun p=>[.int .u8 p.1,.int .u8 p.2.1,.int .u8 p.2.2]
theorem pxCells_cons (p:Px) (ps:List Px):pxCells (p :: ps)=.int .u8 p.1 :: .int .u8 p.2.1 :: .int .u8 p.2.2 :: pxCells ps:=by simp [pxCells]
theorem pxCells_len (ps:List Px):(pxCells ps).length=ps.length*3:=by
 induction ps with
 | nil=>rfl
 | cons b bs ih=>rw [pxCells_cons];simp;omega
theorem pxCells_app (xs ys:List Px):pxCells (xs++ys)=pxCells xs++pxCells ys:=by simp [pxCells]
theorem pxCells_get (ps:List Px) (i:Nat) (h:i<ps.length):(pxCells ps)[i*3]?=some (.int .u8 (ps.getD i (0,0,0)).1)/\(pxCells ps)[i*3+1]?=some (.int .u8 (ps.getD i (0,0,0)).2.1)/\(pxCells ps)[i*3+2]?=some (.int .u8 (ps.getD i (0,0,0)).2.2):=by
 induction ps generalizing i with
 | nil=>simp at h
 | cons b bs ih =>
  rw [pxCells_cons]
  cases i with
  | zero=>simp
  | succ i =>
   have:=ih i (by simpa using h)
   rw [show (i+1)*3=i*3+1+1+1 by omega]
   simpa using this
theorem pxCells_set (ps:List Px) (i:Nat) (p:Px) (h:i<ps.length):(((pxCells ps).set (i*3) (.int .u8 p.1)).set (i*3+1) (.int .u8 p.2.1)).set (i*3+2) (.int .u8 p.2.2)=pxCells (ps.set i p):=by
 induction ps generalizing i with
 | nil=>simp at h
 | cons c bs ih =>
  cases i with
  | zero=>rw [pxCells_cons];simp [pxCells_cons]
  | succ i =>
   rw [pxCells_cons,List.set_cons_succ,pxCells_cons,<- ih i (by simpa using h),show (i+1)*3=i*3+1+1+1 by omega]
   simp
theorem oneCell_px (ps:List Px):∀ u ∈ pxCells ps,u.oneCell'=true:=by
 intro u hu
 unfold pxCells at hu
 obtain ⟨b,_,hb⟩:=List.mem_flatMap.1 hu
 simp at hb
 rcases hb with rfl|rfl|rfl <;> rfl
theorem made_px (n:Nat):(madeCells #[Value.int .u8 0,Value.int .u8 0,Value.int .u8 0] (n*3)).toList=pxCells (List.replicate n (0,0,0)):=by
 apply List.ext_getElem?
 intro i
 by_cases h:i<n*3
 ·have h1:(madeCells #[Value.int .u8 0,Value.int .u8 0,Value.int .u8 0] (n*3)).toList[i]?=some (.int .u8 0):=by
   simp only [madeCells,Array.toList_map,List.getElem?_map,Array.toList_range,List.getElem?_range h,Option.map_some]
   have h3:i % 3=0 \/ i % 3=1 \/ i % 3=2:=by omega
   rcases h3 with h3|h3|h3 <;> simp [h3]
  have h2:(pxCells (List.replicate n (0,0,0)))[i]?=some (.int .u8 0):=by
   obtain ⟨k0,k1,k2⟩:=pxCells_get (List.replicate n (0,0,0)) (i / 3) (by simp;omega)
   have e:(List.replicate n ((0,0,0):Px)).getD (i / 3) (0,0,0)=(0,0,0):=by
    rw [List.getD_eq_getElem?_getD,List.getElem?_replicate];split <;> rfl
   rw [e] at k0 k1 k2
   have h3:i=i / 3*3 \/ i=i / 3*3+1 \/ i=i / 3*3+2:=by omega
   rcases h3 with h3|h3|h3 <;> rw [h3] <;> assumption
  rw [h1,h2]
 ·rw [List.getElem?_eq_none (by simp [size_madeCells];omega),List.getElem?_eq_none (by rw [pxCells_len];simp;omega)]
theorem infoPx:(Tryz.prog.info? 50).map (fun i=>(i.zero,i.size,i.bytes))=some (some (.agg #[.int .u8 0,.int .u8 0,.int .u8 0]),3,3):=by kernel_rfl
def Pixs (w:World) (B fb N:Nat) (ps:List Px):Prop:=w.ownsRow B 50 3 (.slice (some ⟨fb,0,none⟩) N N) N (pxCells ps)
theorem Pixs.len {w:World} {B fb N:Nat} {ps:List Px} (h:Pixs w B fb N ps):ps.length=N:=by
 have:=h.1;rw [pxCells_len] at this;omega
theorem Pixs.cell {w:World} {B fb N:Nat} {ps:List Px} (h:Pixs w B fb N ps) (k:Nat) (hk:k<N):w.cell? ⟨fb,k*3,none⟩=some (.int .u8 (ps.getD k (0,0,0)).1)/\w.cell? ⟨fb,k*3+1,none⟩=some (.int .u8 (ps.getD k (0,0,0)).2.1)/\w.cell? ⟨fb,k*3+2,none⟩=some (.int .u8 (ps.getD k (0,0,0)).2.2):=by
 obtain ⟨a,b,c⟩:=pxCells_get ps k (by rw [h.len];exact hk)
 exact ⟨(World.ownsRow.cellAt h _ (by omega)).trans a,(World.ownsRow.cellAt h _ (by omega)).trans b,(World.ownsRow.cellAt h _ (by omega)).trans c⟩
theorem Pixs.frozen {w:World} {B fb N:Nat} {ps:List Px} (h:Pixs w B fb N ps) (k:Nat):w.frozen? ⟨fb,k,none⟩=false:=World.ownsRow.frozenAt h k
theorem Pixs.lt {w:World} {B fb N:Nat} {ps:List Px} (h:Pixs w B fb N ps):B<=fb/\fb<w.heap.size:=World.ownsRow.lt h fb rfl
theorem Pixs.store {w:World} {B fb N:Nat} {ps:List Px} (h:Pixs w B fb N ps) (k:Nat) (hk:k<N) (p:Px):Pixs (((w.setCell ⟨fb,k*3,none⟩ (.int .u8 p.1)).setCell ⟨fb,k*3+1,none⟩ (.int .u8 p.2.1)).setCell ⟨fb,k*3+2,none⟩ (.int .u8 p.2.2)) B fb N (ps.set k p):=by
 have h1:=(World.ownsRow.stored h (k*3) (.int .u8 p.1)).1
 have h2:=(World.ownsRow.stored h1 (k*3+1) (.int .u8 p.2.1)).1
 have h3:=(World.ownsRow.stored h2 (k*3+2) (.int .u8 p.2.2)).1
 rw [pxCells_set ps k p (by rw [h.len];exact hk)] at h3
 exact h3
theorem Frm.pixs {S:Nat->Prop} {a b:World} (h:Frm S a b) {B fb N:Nat} {ps:List Px} (ho:Pixs a B fb N ps) (hn:¬ S fb):Pixs b B fb N ps :=
 h.owns ho (fun k e=>by simp [Value.ownBlock] at e;subst e;exact hn)
def Bools (w:World) (B g N:Nat) (bs:List Bool):Prop:=w.ownsRow B 4 1 (.slice (some ⟨g,0,none⟩) N N) N (bs.map .bool)
theorem Bools.len {w:World} {B g N:Nat} {bs:List Bool} (h:Bools w B g N bs):bs.length=N:=by
 have:=h.1;rw [List.length_map] at this;omega
theorem Bools.cell {w:World} {B g N:Nat} {bs:List Bool} (h:Bools w B g N bs) (k:Nat) (hk:k<N):w.cell? ⟨g,k,none⟩=some (.bool (bs.getD k false)):=by
 have hl:=h.len
 rw [World.ownsRow.cellAt h k (by omega),List.getElem?_map,List.getD_eq_getElem?_getD,List.getElem?_eq_getElem (by omega)];rfl
theorem Bools.frozen {w:World} {B g N:Nat} {bs:List Bool} (h:Bools w B g N bs) (k:Nat):w.frozen? ⟨g,k,none⟩=false:=World.ownsRow.frozenAt h k
theorem Bools.lt {w:World} {B g N:Nat} {bs:List Bool} (h:Bools w B g N bs):B<=g/\g<w.heap.size:=World.ownsRow.lt h g rfl
theorem Bools.store {w:World} {B g N:Nat} {bs:List Bool} (h:Bools w B g N bs) (k:Nat) (v:Bool):Bools (w.setCell ⟨g,k,none⟩ (.bool v)) B g N (bs.set k v):=by
 have:=(World.ownsRow.stored h k (.bool v)).1
 rw [show (bs.map Value.bool).set k (.bool v)=(bs.set k v).map Value.bool by rw [List.map_set]] at this
 exact this
theorem Frm.bools {S:Nat->Prop} {a b:World} (h:Frm S a b) {B g N:Nat} {bs:List Bool} (ho:Bools a B g N bs) (hn:¬ S g):Bools b B g N bs :=
 h.owns ho (fun k e=>by simp [Value.ownBlock] at e;subst e;exact hn)
def rowVals (N:Nat) (fbs:List Nat):List Value:=fbs.map fun f=>.slice (some ⟨f,0,none⟩) N N
structure ShAt (w:World) (B p b g lg lc rg:Nat) (fbs:List Nat) (s:ByteArray) (z:Nat) (fs:FS):Prop where
 rd:RdAt w B b g s fs.r
 ok:Rdr.Ok s fs.r
 c0:w.cell? ⟨p,0,none⟩=some (.pointer (some ⟨b,0,none⟩))
 c1:w.cell? ⟨p,1,none⟩=some (.int .i64 z)
 c2:w.cell? ⟨p,2,none⟩=some (.slice (some ⟨lg,0,none⟩) fs.frs.length lc)
 c3:w.cell? ⟨p,3,none⟩=some (.slice (some ⟨rg,0,none⟩) (z*z) (z*z))
 c4:w.cell? ⟨p,4,none⟩=some (.int .i64 fs.fr)
 c5:w.cell? ⟨p,5,none⟩=some (.int .i64 fs.x)
 c6:w.cell? ⟨p,6,none⟩=some (.int .i64 fs.y)
 fz:∀ o,w.frozen? ⟨p,o,none⟩=false
 rows:w.ownsRow B 58 1 (.slice (some ⟨lg,0,none⟩) fs.frs.length lc) fs.frs.length (rowVals (z*z) fbs)
 frs:∀ i,i<fs.frs.length->Pixs w B (fbs.getD i 0) (z*z) (fs.frs.getD i [])
 read:Bools w B rg (z*z) fs.rd
 n1:fbs.length=fs.frs.length
 n2:0<fs.frs.length/\fs.frs.length<=8
 zz:z=4 \/ z=8 \/ z=16
 ne:(p :: b :: g :: lg :: rg :: fbs).Nodup
 px:∀ i k,Flm.okPx (Flm.px fs i k)
 lo:B<=p
 up:p<w.heap.size
def shS (p b g rg fb:Nat):Nat->Prop:=fun k=>k=p \/ k=b \/ k=g \/ k=rg \/ k=fb
variable {w w':World} {B p b g lg lc rg z:Nat} {fbs:List Nat} {s:ByteArray} {fs:FS}
theorem ShAt.zzle (h:ShAt w B p b g lg lc rg fbs s z fs):z*z<=256:=by
 rcases h.zz with e|e|e <;> subst e <;> decide
theorem ShAt.fb_mem (h:ShAt w B p b g lg lc rg fbs s z fs) {i:Nat} (hi:i<fs.frs.length):fbs.getD i 0 ∈ fbs:=by
 have:=h.n1
 rw [List.getD_eq_getElem?_getD,List.getElem?_eq_getElem (by omega)]
 exact List.getElem_mem _
theorem ShAt.fb_inj (h:ShAt w B p b g lg lc rg fbs s z fs) {i j:Nat} (hi:i<fs.frs.length) (hj:j<fs.frs.length) (e:fbs.getD i 0=fbs.getD j 0):i=j:=by
 have hn:=h.n1
 have hnd:fbs.Nodup:=by
  have:=h.ne
  simp only [List.nodup_cons] at this
  exact this.2.2.2.2.2
 rw [List.getD_eq_getElem?_getD,List.getD_eq_getElem?_getD,List.getElem?_eq_getElem (by omega),List.getElem?_eq_getElem (by omega)] at e
 have hpw:=List.pairwise_iff_getElem.1 hnd
 rcases Nat.lt_trichotomy i j with h'|h'|h'
 ·exact absurd e (hpw i j (by omega) (by omega) h')
 ·exact h'
 ·exact absurd e.symm (hpw j i (by omega) (by omega) h')
theorem ShAt.row (h:ShAt w B p b g lg lc rg fbs s z fs) {i:Nat} (hi:i<fs.frs.length):w.cell? ⟨lg,i,none⟩=some (.slice (some ⟨fbs.getD i 0,0,none⟩) (z*z) (z*z)):=by
 have hn:=h.n1
 rw [World.ownsRow.cellAt h.rows i (by omega)]
 unfold rowVals
 rw [List.getElem?_map,List.getElem?_eq_getElem (by omega),List.getD_eq_getElem?_getD,List.getElem?_eq_getElem (by omega)]
 rfl
theorem ShAt.frm {S:Nat->Prop} (h:ShAt w B p b g lg lc rg fbs s z fs) (f:Frm S w w') (hn:∀ k,k=p \/ k=b \/ k=g \/ k=lg \/ k=rg \/ k ∈ fbs->¬ S k):ShAt w' B p b g lg lc rg fbs s z fs:=by
 have hp:=hn p (.inl rfl)
 refine ⟨h.rd.frm f (hn b (.inr (.inl rfl))) (hn g (.inr (.inr (.inl rfl)))),h.ok,f.cell h.c0 hp,f.cell h.c1 hp,f.cell h.c2 hp,f.cell h.c3 hp,f.cell h.c4 hp,f.cell h.c5 hp,f.cell h.c6 hp,fun o=>(World.frozen?_of_block (a:=⟨p,o,none⟩) (f.block p h.up hp)).trans (h.fz o),
  f.owns h.rows (fun k e=>by simp [Value.ownBlock] at e;subst e;exact hn _ (by simp)),fun i hi=>f.pixs (h.frs i hi) (hn _ (.inr (.inr (.inr (.inr (.inr (h.fb_mem hi))))))),f.bools h.read (hn _ (by simp)),h.n1,h.n2,h.zz,h.ne,h.px,h.lo,Nat.lt_of_lt_of_le h.up f.size⟩
theorem ShAt.below (h:ShAt w B p b g lg lc rg fbs s z fs) (f:Below w.heap.size w w'):ShAt w' B p b g lg lc rg fbs s z fs :=
 h.frm (Frm.of_below (S:=fun _=>False) f) (fun _ _ e=>e)
theorem ShAt.nes (h:ShAt w B p b g lg lc rg fbs s z fs):(p ≠ b/\p ≠ g/\p ≠ lg/\p ≠ rg/\p ∉ fbs)/\(b ≠ g/\b ≠ lg/\b ≠ rg/\b ∉ fbs)/\(g ≠ lg/\g ≠ rg/\g ∉ fbs)/\(lg ≠ rg/\lg ∉ fbs)/\rg ∉ fbs/\fbs.Nodup:=by
 have:=h.ne
 simp only [List.nodup_cons,List.mem_cons,not_or] at this
 exact this
theorem ShAt.reader (h:ShAt w B p b g lg lc rg fbs s z fs) {r:RS} (hr:RdAt w' B b g s r) (hok:Rdr.Ok s r) (f:Frm (rdS b g) w w'):ShAt w' B p b g lg lc rg fbs s z { fs with r:=r }:=by
 obtain ⟨⟨n1,n2,n3,n4,n5⟩,⟨n6,n7,n8,n9⟩,⟨n10,n11,n12⟩,⟨n13,n14⟩,n15,n16⟩:=h.nes
 have hS:∀ k,k ≠ b->k ≠ g->¬ rdS b g k:=fun k h1 h2 e=>by rcases e with e|e <;> contradiction
 have hp:=hS p n1 n2
 refine ⟨hr,hok,f.cell h.c0 hp,f.cell h.c1 hp,f.cell h.c2 hp,f.cell h.c3 hp,f.cell h.c4 hp,f.cell h.c5 hp,f.cell h.c6 hp,fun o=>(World.frozen?_of_block (a:=⟨p,o,none⟩) (f.block p h.up hp)).trans (h.fz o),
  f.owns h.rows (fun k e=>by simp [Value.ownBlock] at e;subst e;exact hS _ (Ne.symm n7) (Ne.symm n10)),fun i hi=>f.pixs (h.frs i hi) (hS _ (fun e=>n9 (e ▸ h.fb_mem hi)) (fun e=>n12 (e ▸ h.fb_mem hi))),f.bools h.read (hS _ (Ne.symm n8) (Ne.symm n11)),h.n1,h.n2,h.zz,h.ne,h.px,h.lo,Nat.lt_of_lt_of_le h.up f.size⟩
theorem shS_rd {p b g rg fb:Nat} {w w':World} (f:Frm (rdS b g) w w'):Frm (shS p b g rg fb) w w':=f.mono fun _ _ e=>by rcases e with e|e <;> simp [shS,e]
namespace Flm
theorem px_put (fs:FS) (i:Nat) (p:Px) (f k:Nat):px (put fs i p) f k=px fs f k \/ px (put fs i p) f k=p:=by
 unfold px put
 simp only [List.getD_eq_getElem?_getD,List.getElem?_set]
 split
 ·rename_i h
  subst h
  split
  ·simp only [Option.getD_some,List.getElem?_set]
   split
   ·split
    ·exact .inr rfl
    ·rename_i h1 h2;subst h1;left;rw [List.getElem?_eq_none (Nat.le_of_not_lt h2)]
   ·exact .inl rfl
  ·rename_i h2
   left
   rw [List.getElem?_eq_none (Nat.le_of_not_lt h2)]
 ·exact .inl rfl
theorem put_len (fs:FS) (i:Nat) (p:Px):(put fs i p).frs.length=fs.frs.length:=by unfold put;simp
end Flm
theorem ShAt.put (h:ShAt w B p b g lg lc rg fbs s z fs) {k:Nat} (hk:k<z*z) {q:Px} (hq:Flm.okPx q):ShAt (((w.setCell ⟨fbs.getD (Flm.now fs) 0,k*3,none⟩ (.int .u8 q.1)).setCell ⟨fbs.getD (Flm.now fs) 0,k*3+1,none⟩ (.int .u8 q.2.1)).setCell ⟨fbs.getD (Flm.now fs) 0,k*3+2,none⟩ (.int .u8 q.2.2)) B p b g lg lc rg fbs s z (Flm.put fs k q):=by
 obtain ⟨⟨n1,n2,n3,n4,n5⟩,⟨n6,n7,n8,n9⟩,⟨n10,n11,n12⟩,⟨n13,n14⟩,n15,n16⟩:=h.nes
 have hnow:Flm.now fs<fs.frs.length:=by have:=h.n2;unfold Flm.now;omega
 have hmem:=h.fb_mem hnow
 obtain ⟨fb,hfb⟩:∃ fb,fb=fbs.getD (Flm.now fs) 0:=⟨_,rfl⟩
 rw [<- hfb] at hmem ⊢
 have f:Frm (fun k=>k=fb) w (((w.setCell ⟨fb,k*3,none⟩ (.int .u8 q.1)).setCell ⟨fb,k*3+1,none⟩ (.int .u8 q.2.1)).setCell ⟨fb,k*3+2,none⟩ (.int .u8 q.2.2)) :=
  Frm.setCell (p:=⟨fb,k*3+2,none⟩) (Frm.setCell (p:=⟨fb,k*3+1,none⟩) (Frm.setCell (p:=⟨fb,k*3,none⟩) (Frm.refl (fun k=>k=fb) w) (.inl rfl) _) (.inl rfl) _) (.inl rfl) _
 have hp:¬ (p=fb):=fun e=>n5 (e ▸ hmem)
 have hl:(Flm.put fs k q).frs.length=fs.frs.length:=Flm.put_len fs k q
 refine ⟨h.rd.frm f (fun e=>n9 (e ▸ hmem)) (fun e=>n12 (e ▸ hmem)),h.ok,f.cell h.c0 hp,f.cell h.c1 hp,(f.cell h.c2 hp).trans (by rw [hl]),f.cell h.c3 hp,f.cell h.c4 hp,f.cell h.c5 hp,f.cell h.c6 hp,fun o=>(World.frozen?_of_block (a:=⟨p,o,none⟩) (f.block p h.up hp)).trans (h.fz o),
  ?_,?_,f.bools h.read (fun e=>n15 (e ▸ hmem)),h.n1.trans hl.symm,by rw [hl];exact h.n2,h.zz,h.ne,?_,h.lo,Nat.lt_of_lt_of_le h.up f.size⟩
 ·rw [hl];exact f.owns h.rows (fun k e=>by simp [Value.ownBlock] at e;subst e;exact fun e=>n14 (e ▸ hmem))
 ·intro i hi
  rw [hl] at hi
  by_cases he:i=Flm.now fs
  ·subst he
   have e1:(Flm.put fs k q).frs.getD (Flm.now fs) []=(fs.frs.getD (Flm.now fs) []).set k q:=by
    unfold Flm.put
    simp [List.getD_eq_getElem?_getD,hi]
   have:=(h.frs _ hi).store k hk q
   rw [<- hfb] at this ⊢
   rw [e1]
   exact this
  ·have e1:(Flm.put fs k q).frs.getD i []=fs.frs.getD i []:=by
    unfold Flm.put
    simp only [List.getD_eq_getElem?_getD,List.getElem?_set]
    rw [if_neg (fun e=>he e.symm)]
   rw [e1]
   exact f.pixs (h.frs i hi) (fun e=>he (h.fb_inj hi hnow (e.trans hfb)))
 ·intro i j
  rcases Flm.px_put fs k q i j with e|e <;> rw [e]
  ·exact h.px i j
  ·exact hq
theorem ShAt.see (h:ShAt w B p b g lg lc rg fbs s z fs) (k:Nat):ShAt (w.setCell ⟨rg,k,none⟩ (.bool true)) B p b g lg lc rg fbs s z { fs with rd:=fs.rd.set k true }:=by
 obtain ⟨⟨n1,n2,n3,n4,n5⟩,⟨n6,n7,n8,n9⟩,⟨n10,n11,n12⟩,⟨n13,n14⟩,n15,n16⟩:=h.nes
 have f:Frm (fun k=>k=rg) w (w.setCell ⟨rg,k,none⟩ (.bool true)):=Frm.setCell (p:=⟨rg,k,none⟩) (Frm.refl (fun k=>k=rg) w) (.inl rfl) _
 exact ⟨h.rd.frm f n8 n11,h.ok,f.cell h.c0 n4,f.cell h.c1 n4,f.cell h.c2 n4,f.cell h.c3 n4,f.cell h.c4 n4,f.cell h.c5 n4,f.cell h.c6 n4,fun o=>(World.frozen?_of_block (a:=⟨p,o,none⟩) (f.block p h.up n4)).trans (h.fz o),
  f.owns h.rows (fun k e=>by simp [Value.ownBlock] at e;subst e;exact n13),fun i hi=>f.pixs (h.frs i hi) (fun e=>n15 (e ▸ h.fb_mem hi)),h.read.store k true,h.n1,h.n2,h.zz,h.ne,h.px,h.lo,Nat.lt_of_lt_of_le h.up f.size⟩
theorem ShAt.place (h:ShAt w B p b g lg lc rg fbs s z fs) (a c d:Int):ShAt (((w.setCell ⟨p,4,none⟩ (.int .i64 a)).setCell ⟨p,5,none⟩ (.int .i64 c)).setCell ⟨p,6,none⟩ (.int .i64 d)) B p b g lg lc rg fbs s z { fs with fr:=a,x:=c,y:=d }:=by
 obtain ⟨⟨n1,n2,n3,n4,n5⟩,⟨n6,n7,n8,n9⟩,⟨n10,n11,n12⟩,⟨n13,n14⟩,n15,n16⟩:=h.nes
 have f:Frm (fun k=>k=p) w (((w.setCell ⟨p,4,none⟩ (.int .i64 a)).setCell ⟨p,5,none⟩ (.int .i64 c)).setCell ⟨p,6,none⟩ (.int .i64 d)) :=
  Frm.setCell (p:=⟨p,6,none⟩) (Frm.setCell (p:=⟨p,5,none⟩) (Frm.setCell (p:=⟨p,4,none⟩) (Frm.refl (fun k=>k=p) w) (.inl rfl) _) (.inl rfl) _) (.inl rfl) _
 have C:∀ (o:Nat) (v:Value),o<4->w.cell? ⟨p,o,none⟩=some v->(((w.setCell ⟨p,4,none⟩ (.int .i64 a)).setCell ⟨p,5,none⟩ (.int .i64 c)).setCell ⟨p,6,none⟩ (.int .i64 d)).cell? ⟨p,o,none⟩=some v:=fun o v ho hc=>cell_off (cell_off (cell_off hc (.inr (by omega))) (.inr (by omega))) (.inr (by omega))
 refine ⟨h.rd.frm f (Ne.symm n1) (Ne.symm n2),h.ok,C 0 _ (by decide) h.c0,C 1 _ (by decide) h.c1,C 2 _ (by decide) h.c2,C 3 _ (by decide) h.c3,?_,?_,?_,fun o=>by rw [World.frozen?_setCell,World.frozen?_setCell,World.frozen?_setCell];exact h.fz o,
  f.owns h.rows (fun k e=>by simp [Value.ownBlock] at e;subst e;exact Ne.symm n3),fun i hi=>f.pixs (h.frs i hi) (fun e=>n5 (e ▸ h.fb_mem hi)),f.bools h.read (Ne.symm n4),h.n1,h.n2,h.zz,h.ne,h.px,h.lo,Nat.lt_of_lt_of_le h.up f.size⟩
 ·exact cell_off (cell_off (World.cell?_setCell_same _ _ _ h.c4) (.inr (by decide))) (.inr (by decide))
 ·exact cell_off (World.cell?_setCell_same _ _ _ (cell_off h.c5 (.inr (by decide)))) (.inr (by decide))
 ·exact World.cell?_setCell_same _ _ _ (cell_off (cell_off h.c6 (.inr (by decide))) (.inr (by decide)))
end
end Go.Proofs.YtekfbphnoibnjaaGreatDoor
