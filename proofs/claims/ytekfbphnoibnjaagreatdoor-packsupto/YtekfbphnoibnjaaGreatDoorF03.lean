/-
  The document's reader reads a number, a signed number. What the document expects of a pixel's number. Plain arithmetic of a pixel turned and turned back; no program in sight. A film is read, as plain arithmetic over the reader of bits: no program in sight. What holds of a film throughout its reading. What Turn and Back of the program do, call by call: the numbers they answer, and that nothing old is written. What the document's own Turn and Back do, call by call.
-/
import Derived.Test.YtekfbphnoibnjaaGreatDoorF01
import Derived.Deep.CutBlock
import Derived.Deep.DeepCutAuto
import Derived.Test.YtekfbphnoibnjaaGreatDoorRows
import Derived.WalkKit
import Derived.WalkSpells
import Derived.WalkLawsBesides
import Derived.Below
import Derived.WalkSmall
import Derived.Deep.QuietTactic
import Derived.BigQuiet
namespace Go.Proofs.YtekfbphnoibnjaaGreatDoor
open Go.RowKit
namespace Rdr
def run (s : ByteArray) (k : Nat) : Nat -> Nat -> RS -> Nat × RS
 | 0,n,r => (n,r)
 | f + 1,n,r => if r.err = 0 then (if bitV r (k + n) = 0 then (n,bitS s r (k + n)) else run s k f (n + 1) (if n + 1 = 10 then fail (bitS s r (k + n)) 8 else bitS s r (k + n))) else (n,r)
def lows (s : ByteArray) (k : Nat) : Nat -> Int -> Int -> RS -> Int × Int × RS
 | 0,d,u,r => (d,u,r)
 | f + 1,d,u,r => if r.err = 0 then lows s k f (2 * d + bitV r k) (2 * u) (bitS s r k) else (d,u,r)
def number (s : ByteArray) (r : RS) (k : Nat) : Int × RS :=
 ((lows s (k + 12 + (run s k 11 0 r).1) (run s k 11 0 r).1 0 1 (run s k 11 0 r).2).2.1 + (lows s (k + 12 + (run s k 11 0 r).1) (run s k 11 0 r).1 0 1 (run s k 11 0 r).2).1 - 1,(lows s (k + 12 + (run s k 11 0 r).1) (run s k 11 0 r).1 0 1 (run s k 11 0 r).2).2.2)
theorem Ok.fail {s : ByteArray} {r : RS} (h : Ok s r) {e : Int} (he : 0 < e) : Ok s (fail r e):=by
 have h0:=h.err
 have hz : (Rdr.fail r e).err = 0 -> r.err = 0:=fun hh => by
  unfold Rdr.fail at hh; dsimp only at hh; split at hh <;> omega
 refine ⟨h.ch,h.pos,fun hh => h.rng (hz hh),fun hh => h.code (hz hh),?_⟩
 unfold Rdr.fail; dsimp only; split <;> omega
theorem fail_err {r : RS} {e : Int} (he : 0 < e) : (fail r e).err ≠ 0:=by
 unfold fail; dsimp only; split <;> omega
theorem bitV_cases (r : RS) (k : Nat) : bitV r k = 0 \/ bitV r k = 1:=by
 unfold bitV; split
 ·split
  ·exact .inl rfl
  ·exact .inr rfl
 ·exact .inl rfl
end Rdr
set_option maxHeartbeats 1000000 in
set_option maxRecDepth 20000 in
theorem rnumber (w : World) (B b g : Nat) (s : ByteArray) (r : RS) (k : Nat) (h : RdAt w B b g s r) (ok : Rdr.Ok s r) (hs : s.size <= maxLen) (hk : k + 22 <= 400) :
  Calls Tryz.prog 176 #[.pointer (some ⟨b,0,none⟩),.int .i64 k] w fun x w' => x = .returned (.int .i64 (Rdr.number s r k).1) /\ RdAt w' B b g s (Rdr.number s r k).2 /\ Rdr.Ok s (Rdr.number s r k).2 /\ 0 <= (Rdr.number s r k).1 /\ (Rdr.number s r k).1 <= 1022 /\ Frm (rdS b g) w w':=by
 have H : Hid (RdAt w B b g s r):=h
 have HOK : Hid (Rdr.Ok s r):=ok
 clear h ok
 go_enter Tryz.func176,Tryz.ntmps176
 go_upto_block 0 with (fail)
 go_cut [5] (fun n wd => ∃ (m : Nat) (q : RS),n = .int .i64 m /\ Rdr.run s k 11 0 r = (m,q) /\ m <= 10 /\ (m = 10 -> q.err ≠ 0) /\ RdAt wd B b g s q /\ Rdr.Ok s q /\ Frm (rdS b g) w wd)
 case first =>
  go_wp2_with fail
  go_loopw [5,6] (fun n _ wr => ∃ (m : Nat) (q : RS) (f : Nat),n = .int .i64 m /\ f + m = 11 /\ Rdr.run s k f m q = Rdr.run s k 11 0 r /\ m <= 10 /\ (m = 10 -> q.err ≠ 0) /\ RdAt wr B b g s q /\ Rdr.Ok s q /\ Frm (rdS b g) w wr) (fun n _ _ => 11 - (intOf n).toNat)
  case atStart => exact ⟨0,r,11,rfl,rfl,rfl,by omega,by omega,H.out,HOK.out,Frm.refl _ _⟩
  case round =>
   clear H HOK
   obtain ⟨m,q,f,rfl,hf,hrun,hm,hm10,hq,hok,hfr⟩:=hrel
   have i5:=hq.c5
   by_cases he : q.err = 0
   ·obtain ⟨f',rfl⟩ : ∃ f',f = f' + 1:=⟨f - 1,by omega⟩
    have hm9 : m <= 9:=by
     rcases Nat.lt_or_ge m 10 with h' | h'
     ·omega
     ·exact absurd he (hm10 (by omega))
    rw [he] at i5
    have HB:=rbit wr B b g s q (k + m) hq hok hs (by omega)
    have hok1:=hok.bitS (k:=k + m) (by omega)
    have HE : Hid (q.err = 0):=he
    have HR : Hid (Rdr.run s k (f' + 1) m q = Rdr.run s k 11 0 r):=hrun
    have HOK1 : Hid (Rdr.Ok s (Rdr.bitS s q (k + m))):=hok1
    have HFR : Hid (Frm (rdS b g) w wr):=hfr
    rw [Int.natCast_add] at HB
    clear hm10 hrun hok1 hq hok he hfr
    rcases Rdr.bitV_cases q (k + m) with hb | hb
    ·have HBV : Hid (Rdr.bitV q (k + m) = 0):=hb
     rw [hb] at HB
     clear hb
     go_wp2_with (go_at_call 101; refine HB.mono ?_; rintro x w1 ⟨rfl,h1,f1⟩)
     go_meet
     refine ⟨m,_,rfl,?_,by omega,by omega,h1,HOK1.out,HFR.out.trans f1⟩
     rw [<- HR.out]
     unfold Rdr.run
     rw [if_pos HE.out,if_pos HBV.out]
    ·have HBV : Hid (Rdr.bitV q (k + m) = 1):=hb
     rw [hb] at HB
     clear hb
     by_cases h9 : m = 9
     ·subst h9
      go_wp2_with (first
       | (go_at_call 101; refine HB.mono ?_; rintro x w1 ⟨rfl,h1,f1⟩)
       | (go_at_call 128; refine (rfail _ B b g s _ 8 h1).mono ?_; rintro x w2 ⟨rfl,h2,f2⟩))
      go_roundw
      case rel =>
       refine ⟨10,_,f',by go_num,by omega,?_,by omega,fun _ => Rdr.fail_err (by decide),h2,HOK1.out.fail (by decide),(HFR.out.trans f1).trans f2⟩
       rw [<- HR.out]
       conv => rhs; unfold Rdr.run
       rw [if_pos HE.out,if_neg (by rw [HBV.out]; decide),if_pos rfl]
      case measure => simp [intOf]
     ·have h9' : ¬ ((m : Int) + 1 = 10):=by omega
      go_wp2_with (go_at_call 101; refine HB.mono ?_; rintro x w1 ⟨rfl,h1,f1⟩)
      go_roundw
      case rel =>
       refine ⟨m + 1,_,f',by go_num,by omega,?_,by omega,by omega,h1,HOK1.out,HFR.out.trans f1⟩
       rw [<- HR.out]
       conv => rhs; unfold Rdr.run
       rw [if_pos HE.out,if_neg (by rw [HBV.out]; decide),if_neg (by omega)]
      case measure => simp [intOf]; omega
   ·have he' : (q.err == 0) = false:=by simpa using he
    have HX : Hid (∃ (m' : Nat) (q' : RS),Value.int .i64 (m : Int) = .int .i64 m' /\ Rdr.run s k 11 0 r = (m',q') /\ m' <= 10 /\ (m' = 10 -> q'.err ≠ 0) /\ RdAt wr B b g s q' /\ Rdr.Ok s q' /\ Frm (rdS b g) w wr):=by
     refine ⟨m,q,rfl,?_,hm,hm10,hq,hok,hfr⟩
     rw [<- hrun]
     cases f with
     | zero => rfl
     | succ f => unfold Rdr.run; rw [if_neg he]
    clear hm10 hrun hq hok hfr he
    go_wp2_with fail
    go_meet
    exact HX.out
 case rest =>
  clear H HOK
  obtain ⟨m,q,rfl,hrun,hm,hm10,hq,hok,hfr⟩:=hcut
  have HN : Hid (Rdr.number s r k = ((Rdr.lows s (k + 12 + m) m 0 1 q).2.1 + (Rdr.lows s (k + 12 + m) m 0 1 q).1 - 1,(Rdr.lows s (k + 12 + m) m 0 1 q).2.2)):=by
   unfold Hid Rdr.number; rw [hrun]
  clear hrun
  have HQ : Hid (RdAt wc B b g s q):=hq
  have HOK : Hid (Rdr.Ok s q):=hok
  have HFR : Hid (Frm (rdS b g) w wc):=hfr
  have HM : Hid (m = 10 -> q.err ≠ 0):=hm10
  clear hq hok hfr hm10
  go_wp2_with fail
  go_loopw [7,8,9,10] (fun d u i _ wr => ∃ (j : Nat) (D U : Int) (q' : RS),j <= m /\ d = .int .i64 D /\ u = .int .i64 U /\ i = .int .i64 j /\ Rdr.lows s (k + 12 + m) (m - j) D U q' = Rdr.lows s (k + 12 + m) m 0 1 q /\ 0 <= D /\ D + 1 <= U /\ U <= 2 ^ j /\ (m = 10 -> q'.err ≠ 0 /\ j = 0) /\ RdAt wr B b g s q' /\ Rdr.Ok s q' /\ Frm (rdS b g) w wr) (fun _ _ i _ _ => m - (intOf i).toNat)
  case atStart => exact ⟨0,0,1,q,by omega,rfl,rfl,rfl,rfl,by omega,by omega,by decide,fun e => ⟨HM.out e,rfl⟩,HQ.out,HOK.out,HFR.out⟩
  case round =>
   clear HQ HOK HFR HM
   obtain ⟨j,D,U,q',hj,rfl,rfl,rfl,hl,d0,d1,u1,h10,hq',hok',hfr'⟩:=hrel
   have i5:=hq'.c5
   have hpow : (2 : Int) ^ j <= 1024:=by
    have : (2 : Nat) ^ j <= 2 ^ 10:=Nat.pow_le_pow_right (by decide) (by omega)
    exact_mod_cast this
   by_cases hgo : j < m /\ q'.err = 0
   ·obtain ⟨hjm,he⟩:=hgo
    have hm9 : m <= 9:=by
     rcases Nat.lt_or_ge m 10 with h' | h'
     ·omega
     ·exact absurd he (h10 (by omega)).1
    rw [he] at i5
    have hjm' : (j : Int) < (m : Int):=by omega
    have HB:=rbit wr B b g s q' (k + 12 + m) hq' hok' hs (by omega)
    have hok1:=hok'.bitS (k:=k + 12 + m) (by omega)
    obtain ⟨v,hv⟩ : ∃ v,v = Rdr.bitV q' (k + 12 + m):=⟨_,rfl⟩
    have hv01 : 0 <= v /\ v <= 1:=by rw [hv]; rcases Rdr.bitV_cases q' (k + 12 + m) with e | e <;> rw [e] <;> decide
    rw [<- hv] at HB
    have HV : Hid (v = Rdr.bitV q' (k + 12 + m)):=hv
    have HE : Hid (q'.err = 0):=he
    have HL : Hid (Rdr.lows s (k + 12 + m) (m - j) D U q' = Rdr.lows s (k + 12 + m) m 0 1 q):=hl
    have HOK1 : Hid (Rdr.Ok s (Rdr.bitS s q' (k + 12 + m))):=hok1
    have HFR : Hid (Frm (rdS b g) w wr):=hfr'
    have hp2 : Hid ((2 : Int) ^ (j + 1) = 2 * 2 ^ j):=by unfold Hid; rw [Int.pow_succ]; omega
    rw [Int.natCast_add,Int.natCast_add] at HB
    have hUb : U <= 1024:=by omega
    have HU : Hid (U <= 2 ^ j):=u1
    clear h10 hl hok1 hq' hok' he hfr' hv u1 hpow
    go_wp2_with (go_at_call 101; refine HB.mono ?_; rintro x w1 ⟨rfl,h1,f1⟩)
    go_roundw
    case rel =>
     refine ⟨j + 1,2 * D + v,2 * U,_,by omega,rfl,rfl,by go_num,?_,by omega,by omega,?_,by omega,h1,HOK1.out,HFR.out.trans f1⟩
     ·rw [<- HL.out,show m - j = (m - (j + 1)) + 1 by omega]
      conv => rhs; unfold Rdr.lows
      rw [if_pos HE.out,HV.out]
     ·rw [hp2.out]; have:=HU.out; omega
    case measure => simp [intOf]; omega
   ·have HEND : Hid (Rdr.lows s (k + 12 + m) m 0 1 q = (D,U,q')):=by
     unfold Hid
     rw [<- hl]
     rcases Nat.lt_or_ge j m with h' | h'
     ·rw [show m - j = (m - (j + 1)) + 1 by omega]
      unfold Rdr.lows
      rw [if_neg (fun e => hgo ⟨h',e⟩)]
     ·rw [show m - j = 0 by omega]; rfl
    have HQ' : Hid (RdAt wr B b g s q'):=hq'
    have HOK' : Hid (Rdr.Ok s q'):=hok'
    have HFR' : Hid (Frm (rdS b g) w wr):=hfr'
    have HBD : Hid (U <= 512 \/ U <= 1):=by
     unfold Hid
     rcases Nat.lt_or_ge m 10 with h' | h'
     ·have : (2 : Nat) ^ j <= 2 ^ 9:=Nat.pow_le_pow_right (by decide) (by omega)
      have : (2 : Int) ^ j <= 512:=by exact_mod_cast this
      omega
     ·have e:=(h10 (by omega)).2
      subst e
      omega
    have hUb : U <= 1024:=by omega
    clear hpow
    rcases Nat.lt_or_ge j m with h' | h'
    ·have he' : (q'.err == 0) = false:=by simpa using (fun e => hgo ⟨h',e⟩)
     have h'' : (j : Int) < (m : Int):=by omega
     clear hl hgo hq' hok' hfr' h10 u1
     go_wp2_with fail
     go_ret
     rw [HN.out,HEND.out]
     have:=HBD.out
     exact ⟨rfl,HQ'.out,HOK'.out,by dsimp only; omega,by dsimp only; omega,HFR'.out⟩
    ·have h'' : ¬ (j : Int) < (m : Int):=by omega
     clear hl hgo hq' hok' hfr' h10 u1
     go_wp2_with fail
     go_ret
     rw [HN.out,HEND.out]
     have:=HBD.out
     exact ⟨rfl,HQ'.out,HOK'.out,by dsimp only; omega,by dsimp only; omega,HFR'.out⟩
namespace Rdr
def signed (s : ByteArray) (r : RS) (k : Nat) : Int:=if (number s r k).1 % 2 = 0 then (number s r k).1 / 2 else -(((number s r k).1 + 1) / 2)
end Rdr
set_option maxHeartbeats 1000000 in
set_option maxRecDepth 20000 in
theorem rsigned (w : World) (B b g : Nat) (s : ByteArray) (r : RS) (k : Nat) (h : RdAt w B b g s r) (ok : Rdr.Ok s r) (hs : s.size <= maxLen) (hk : k + 22 <= 400) :
  Calls Tryz.prog 173 #[.pointer (some ⟨b,0,none⟩),.int .i64 k] w fun x w' => x = .returned (.int .i64 (Rdr.signed s r k)) /\ RdAt w' B b g s (Rdr.number s r k).2 /\ Rdr.Ok s (Rdr.number s r k).2 /\ -512 <= Rdr.signed s r k /\ Rdr.signed s r k <= 511 /\ Frm (rdS b g) w w':=by
 have HC:=rnumber w B b g s r k h ok hs hk
 obtain ⟨N,hN⟩ : ∃ N,N = (Rdr.number s r k).1:=⟨_,rfl⟩
 obtain ⟨S,hS⟩ : ∃ S,S = Rdr.signed s r k:=⟨_,rfl⟩
 have hS' : S = if N % 2 = 0 then N / 2 else -((N + 1) / 2):=by rw [hS,hN]; rfl
 rw [<- hN] at HC
 rw [<- hS]
 clear hS hN h ok
 by_cases h2 : N % 2 = 0
 ·rw [if_pos h2] at hS'
  subst hS'
  go_enter Tryz.func173,Tryz.ntmps173
  go_wp2_with (go_at_call 176; refine HC.mono ?_; rintro x w1 ⟨rfl,h1,o1,n0,n1,f1⟩)
  go_ret
  exact ⟨rfl,h1,o1,by omega,by omega,f1⟩
 ·rw [if_neg h2] at hS'
  subst hS'
  go_enter Tryz.func173,Tryz.ntmps173
  go_wp2_with (go_at_call 176; refine HC.mono ?_; rintro x w1 ⟨rfl,h1,o1,n0,n1,f1⟩)
  go_ret
  refine ⟨?_,h1,o1,by omega,by omega,f1⟩
  show Ending.returned (Value.int IntKind.i64 (wrap64 (-(N + 1).tdiv 2))) = _
  have e : wrap64 (-((N + 1) / 2)) = -((N + 1) / 2):=by unfold wrap64; omega
  rw [Int.tdiv_eq_ediv_of_nonneg (by omega),e]
end Go.Proofs.YtekfbphnoibnjaaGreatDoor
namespace Go.Proofs.YtekfbphnoibnjaaGreatDoor
open Go.RowKit
namespace Flm
def expected (a b d : Int) : Int :=
 let lo:=if b < a then b else a
 let hi:=if b < a then a else b
 if hi <= d then lo else if d <= lo then hi else a + b - d
theorem expected_bd {a b d m : Int} (a0 : -m <= a) (a1 : a <= m) (b0 : -m <= b) (b1 : b <= m) : -m <= expected a b d /\ expected a b d <= m:=by
 unfold expected
 dsimp only
 split <;> split <;> (try split) <;> omega
end Flm
set_option maxHeartbeats 400000 in
theorem refExpected (w : World) (a b d : Int) (a0 : -1000000 <= a) (a1 : a <= 1000000) (b0 : -1000000 <= b) (b1 : b <= 1000000) :
  Calls Tryz.prog 174 #[.int .i64 a,.int .i64 b,.int .i64 d] w fun x w' => x = .returned (.int .i64 (Flm.expected a b d)) /\ w' = w:=by
 obtain ⟨E,hE⟩ : ∃ E,E = Flm.expected a b d:=⟨_,rfl⟩
 have hE':=hE
 rw [<- hE]
 clear hE
 unfold Flm.expected at hE'
 dsimp only at hE'
 by_cases h1 : b < a
 ·rw [if_pos h1,if_pos h1] at hE'
  by_cases h2 : a <= d
  ·rw [if_pos h2] at hE'
   subst hE'
   go_enter Tryz.func174,Tryz.ntmps174
   go_wp2
   go_ret
   exact ⟨rfl,rfl⟩
  ·rw [if_neg h2] at hE'
   by_cases h3 : d <= b
   ·rw [if_pos h3] at hE'
    subst hE'
    go_enter Tryz.func174,Tryz.ntmps174
    go_wp2
    go_ret
    exact ⟨rfl,rfl⟩
   ·rw [if_neg h3] at hE'
    subst hE'
    go_enter Tryz.func174,Tryz.ntmps174
    go_wp2
    go_ret
    exact ⟨rfl,rfl⟩
 ·rw [if_neg h1,if_neg h1] at hE'
  by_cases h2 : b <= d
  ·rw [if_pos h2] at hE'
   subst hE'
   go_enter Tryz.func174,Tryz.ntmps174
   go_wp2
   go_ret
   exact ⟨rfl,rfl⟩
  ·rw [if_neg h2] at hE'
   by_cases h3 : d <= a
   ·rw [if_pos h3] at hE'
    subst hE'
    go_enter Tryz.func174,Tryz.ntmps174
    go_wp2
    go_ret
    exact ⟨rfl,rfl⟩
   ·rw [if_neg h3] at hE'
    subst hE'
    go_enter Tryz.func174,Tryz.ntmps174
    go_wp2
    go_ret
    exact ⟨rfl,rfl⟩
end Go.Proofs.YtekfbphnoibnjaaGreatDoor
namespace Go.Proofs.YtekfbphnoibnjaaGreatDoor.Pix
def tT (r b : Int) : Int:=b + (r - b) / 2
def tV (r g b : Int) : Int:=g - tT r b
def tY (r g b : Int) : Int:=tT r b + tV r g b / 2
def bT (y v : Int) : Int:=y - v / 2
def bG (y v : Int) : Int:=v + bT y v
def bB (y u v : Int) : Int:=bT y v - u / 2
def bR (y u v : Int) : Int:=u + bB y u v
def isPix (y u v : Int) : Prop:=(0 <= bR y u v /\ bR y u v <= 255) /\ (0 <= bG y v /\ bG y v <= 255) /\ (0 <= bB y u v /\ bB y u v <= 255)
theorem tbounds (r g b : Int) (r0 : 0 <= r) (r1 : r <= 255) (g0 : 0 <= g) (g1 : g <= 255) (b0 : 0 <= b) (b1 : b <= 255) :
  (0 <= tT r b /\ tT r b <= 255) /\ (-255 <= tV r g b /\ tV r g b <= 255) /\ (0 <= tY r g b /\ tY r g b <= 255):=by
 unfold tY tV tT; omega
theorem back_turn (r g b : Int) : bR (tY r g b) (r - b) (tV r g b) = r /\ bG (tY r g b) (tV r g b) = g /\ bB (tY r g b) (r - b) (tV r g b) = b:=by
 unfold bR bB bG bT tY tV tT; omega
theorem turn_isPix (r g b : Int) (r0 : 0 <= r) (r1 : r <= 255) (g0 : 0 <= g) (g1 : g <= 255) (b0 : 0 <= b) (b1 : b <= 255) : isPix (tY r g b) (r - b) (tV r g b):=by
 unfold isPix; obtain ⟨e1,e2,e3⟩:=back_turn r g b; rw [e1,e2,e3]; omega
theorem near (y u v : Int) (h : isPix y u v) : (-255 <= y /\ y <= 255) /\ (-255 <= u /\ u <= 255) /\ (-255 <= v /\ v <= 255):=by
 unfold isPix bR bB bG bT at h; omega
end Go.Proofs.YtekfbphnoibnjaaGreatDoor.Pix
namespace Go.Proofs.YtekfbphnoibnjaaGreatDoor
namespace Flm
abbrev Px:=Int × Int × Int
structure FS where
 r : RS
 frs : List (List Px)
 rd : List Bool
 fr : Int
 x : Int
 y : Int
def okPx (p : Px) : Prop:=(0 <= p.1 /\ p.1 <= 255) /\ (0 <= p.2.1 /\ p.2.1 <= 255) /\ (0 <= p.2.2 /\ p.2.2 <= 255)
def turn (p : Px) : Px:=(Pix.tY p.1 p.2.1 p.2.2,p.1 - p.2.2,Pix.tV p.1 p.2.1 p.2.2)
open Classical in
noncomputable def back (c : Px) : Px × Int:=if Pix.isPix c.1 c.2.1 c.2.2 then ((Pix.bR c.1 c.2.1 c.2.2,Pix.bG c.1 c.2.2,Pix.bB c.1 c.2.1 c.2.2),0) else ((0,0,0),2)
theorem back_ok (c : Px) : okPx (back c).1:=by
 unfold back
 split
 ·exact by assumption
 ·exact ⟨⟨by decide,by decide⟩,⟨by decide,by decide⟩,⟨by decide,by decide⟩⟩
def px (fs : FS) (f i : Nat) : Px:=(fs.frs.getD f []).getD i (0,0,0)
def now (fs : FS) : Nat:=fs.frs.length - 1
def near (z : Nat) (fs : FS) (x y : Int) : Px:=if x < 0 \/ y < 0 \/ (z : Int) <= x then (0,0,0) else turn (px fs (now fs) (y.toNat * z + x.toNat))
def put (fs : FS) (i : Nat) (p : Px) : FS:={ fs with frs:=fs.frs.set (now fs) ((fs.frs.getD (now fs) []).set i p) }
def spots (x y n : Nat) : List (Nat × Nat):=(List.range n).flatMap fun j => (List.range n).map fun i => (x + i,y + j)
noncomputable def soft1 (s : ByteArray) (z : Nat) (fs : FS) (i j : Nat) : FS × Px :=
 let a:=near z fs ((i : Int) - 1) j
 let b:=near z fs i ((j : Int) - 1)
 let d:=near z fs ((i : Int) - 1) ((j : Int) - 1)
 let r1:=(Rdr.number s fs.r 100).2
 let r2:=(Rdr.number s r1 124).2
 let r3:=(Rdr.number s r2 148).2
 let c : Px:=(expected a.1 b.1 d.1 + Rdr.signed s fs.r 100,expected a.2.1 b.2.1 d.2.1 + Rdr.signed s r1 124,expected a.2.2 b.2.2 d.2.2 + Rdr.signed s r2 148)
 ({ fs with r:=if (back c).2 = 0 then r3 else Rdr.fail r3 (back c).2 },(back c).1)
noncomputable def soft (s : ByteArray) (z : Nat) : List (Nat × Nat) -> FS -> FS
 | [],fs => fs
 | (i,j) :: ps,fs =>
  let q:=soft1 s z fs i j
  if q.1.r.err = 0 then soft s z ps (put q.1 (j * z + i) q.2) else q.1
def shade (s : ByteArray) (r : RS) : Int × RS:=((Rdr.number s r 224).1 % 256,if 255 < (Rdr.number s r 224).1 then Rdr.fail (Rdr.number s r 224).2 2 else (Rdr.number s r 224).2)
def colour (s : ByteArray) (r : RS) : Px × RS :=
 let a:=shade s r
 let b:=shade s a.2
 let c:=shade s b.2
 ((a.1,b.1,c.1),c.2)
def colours (s : ByteArray) : Nat -> RS -> List Px × RS
 | 0,r => ([],r)
 | n + 1,r => if r.err = 0 then let q:=colours s n (colour s r).2; ((colour s r).1 :: q.1,q.2) else ([],r)
def which (s : ByteArray) : Nat -> Nat -> RS -> Nat × RS
 | 0,k,r => (k,r)
 | f + 1,k,r => if Rdr.bitV r (250 + k) = 0 then (k,Rdr.bitS s r (250 + k)) else which s f (k + 1) (Rdr.bitS s r (250 + k))
def fills (s : ByteArray) (z n : Nat) (l : List Px) : List (Nat × Nat) -> FS -> FS
 | [],fs => fs
 | (i,j) :: ps,fs =>
  if fs.r.err = 0 then
   let q:=which s n 0 fs.r
   if q.2.err = 0 then fills s z n l ps (put { fs with r:=q.2 } (j * z + i) (l.getD q.1 (0,0,0))) else fills s z n l ps { fs with r:=q.2 }
  else fs
def few (s : ByteArray) (z x y side : Nat) (fs : FS) : FS :=
 let n:=(Rdr.number s fs.r 200).1
 let r:=if 3 < n then Rdr.fail (Rdr.number s fs.r 200).2 8 else (Rdr.number s fs.r 200).2
 let q:=colours s (n.toNat + 1) r
 fills s z n.toNat q.1 (spots x y side) { fs with r:=q.2 }
def may (z : Nat) (fs : FS) (own : Bool) (i j : Int) : Bool:=decide (0 <= i) && decide (0 <= j) && decide (i < z) && decide (j < z) && (!own || fs.rd.getD (j.toNat * z + i.toNat) false)
def moves (z : Nat) (f : Nat) (dx dy : Int) : List (Nat × Nat) -> FS -> FS
 | [],fs => fs
 | (i,j) :: ps,fs => moves z f dx dy ps (put fs (j * z + i) (px fs f (((j : Int) + dy).toNat * z + ((i : Int) + dx).toNat)))
def copies (s : ByteArray) (z x y side k f : Nat) (fs : FS) : FS :=
 let dx:=Rdr.signed s fs.r k
 let r1:=(Rdr.number s fs.r k).2
 let dy:=Rdr.signed s r1 (k + 24)
 let r2:=(Rdr.number s r1 (k + 24)).2
 if r2.err = 0 then
  if (spots x y side).all (fun p => may z fs (f == now fs) ((p.1 : Int) + dx) ((p.2 : Int) + dy)) then moves z f dx dy (spots x y side) { fs with r:=r2 } else { fs with r:=Rdr.fail r2 9 }
 else { fs with r:=r2 }
def seen (z : Nat) : List (Nat × Nat) -> FS -> FS
 | [],fs => fs
 | (i,j) :: ps,fs => seen z ps { fs with rd:=fs.rd.set (j * z + i) true }
noncomputable def block (s : ByteArray) (z x y side : Nat) (fs : FS) : FS :=
 let a:=Rdr.bitV fs.r 2
 let r1:=Rdr.bitS s fs.r 2
 let b:=Rdr.bitV r1 (3 + a.toNat)
 let r2:=Rdr.bitS s r1 (3 + a.toNat)
 let g : FS:={ fs with r:=r2 }
 if r2.err = 0 then
  if a = 0 then (if b = 0 then seen z (spots x y side) (soft s z (spots x y side) g) else seen z (spots x y side) (few s z x y side g))
  else if b = 0 then seen z (spots x y side) (copies s z x y side 260 (now g) g)
  else if now g = 0 then { g with r:=Rdr.fail r2 10 }
  else seen z (spots x y side) (copies s z x y side 310 (now g - 1) g)
 else g
noncomputable def area (s : ByteArray) (z : Nat) : Nat -> Nat -> Nat -> Nat -> FS -> FS
 | 0,x,y,side,fs => if fs.r.err = 0 then block s z x y side { fs with fr:=now fs,x:=x,y:=y } else fs
 | n + 1,x,y,side,fs =>
  if fs.r.err = 0 then
   let k:=if side = 16 then 0 else 1
   let g : FS:={ fs with fr:=now fs,x:=x,y:=y,r:=Rdr.bitS s fs.r k }
   if Rdr.bitV fs.r k = 1 then
    let h:=side / 2
    area s z n (x + h) (y + h) h (area s z n x (y + h) h (area s z n (x + h) y h (area s z n x y h g)))
   else if g.r.err = 0 then block s z x y side g else g
  else fs
def cuts (z : Nat) : Nat:=if z = 16 then 2 else if z = 8 then 1 else 0
noncomputable def frames (s : ByteArray) (z : Nat) : Nat -> FS -> FS
 | 0,fs => fs
 | n + 1,fs => if fs.r.err = 0 then frames s z n (area s z (cuts z) 0 0 z { fs with frs:=fs.frs ++ [List.replicate (z * z) (0,0,0)],rd:=List.replicate (z * z) false }) else fs
end Flm
end Go.Proofs.YtekfbphnoibnjaaGreatDoor
namespace Go.Proofs.YtekfbphnoibnjaaGreatDoor
namespace Rdr
theorem run_ok {s : ByteArray} {k : Nat} (hk : k + 22 <= 400) : ∀ (f n : Nat) (r : RS),f + n = 11 -> (n = 10 -> r.err ≠ 0) -> Ok s r -> Ok s (run s k f n r).2 /\ (run s k f n r).1 <= 10 + (n - 10) /\ ((run s k f n r).2.err = 0 -> (run s k f n r).1 <= 9 \/ n = 11)
 | 0,n,r,hf,_,h => by
  refine ⟨h,?_,fun _ => .inr (by omega)⟩
  show n <= 10 + (n - 10)
  omega
 | f + 1,n,r,hf,h10,h => by
  have hn : n <= 10:=by omega
  unfold run
  by_cases he : r.err = 0
  ·rw [if_pos he]
   have hn9 : n <= 9:=by
    rcases Nat.lt_or_ge n 10 with h' | h'
    ·omega
    ·exact absurd he (h10 (by omega))
   by_cases hb : bitV r (k + n) = 0
   ·rw [if_pos hb]
    exact ⟨h.bitS (by omega),by show n <= _; omega,fun _ => .inl (by show n <= 9; omega)⟩
   ·rw [if_neg hb]
    by_cases h9 : n + 1 = 10
    ·rw [if_pos h9]
     have hok:=(h.bitS (k:=k + n) (by omega)).fail (e:=8) (by decide)
     have hne:=fail_err (r:=bitS s r (k + n)) (e:=8) (by decide)
     obtain ⟨g1,g2,g3⟩:=run_ok hk f (n + 1) _ (by omega) (fun _ => hne) hok
     exact ⟨g1,by omega,fun e => by rcases g3 e with g | g <;> omega⟩
    ·rw [if_neg h9]
     obtain ⟨g1,g2,g3⟩:=run_ok hk f (n + 1) _ (by omega) (fun e => absurd e (by omega)) (h.bitS (k:=k + n) (by omega))
     exact ⟨g1,by omega,fun e => by rcases g3 e with g | g <;> omega⟩
  ·rw [if_neg he]
   exact ⟨h,by show n <= _; omega,fun e => absurd e he⟩
theorem lows_ok {s : ByteArray} {k : Nat} (hk : k < 400) : ∀ (f : Nat) (d u : Int) (r : RS),Ok s r -> 0 <= d -> d + 1 <= u -> Ok s (lows s k f d u r).2.2 /\ 0 <= (lows s k f d u r).1 /\ (lows s k f d u r).1 + 1 <= (lows s k f d u r).2.1 /\ (lows s k f d u r).2.1 <= u * 2 ^ f
 | 0,d,u,r,h,d0,d1 => ⟨h,d0,d1,by show u <= u * 2 ^ 0; omega⟩
 | f + 1,d,u,r,h,d0,d1 => by
  have hp : u * 2 ^ (f + 1) = 2 * u * 2 ^ f:=by rw [Int.pow_succ,Int.mul_comm (2 ^ f) 2,<- Int.mul_assoc,Int.mul_comm u 2]
  unfold lows
  by_cases he : r.err = 0
  ·rw [if_pos he,hp]
   have hb:=bitV_cases r k
   exact lows_ok hk f _ _ _ (h.bitS hk) (by rcases hb with e | e <;> rw [e] <;> omega) (by rcases hb with e | e <;> rw [e] <;> omega)
  ·rw [if_neg he]
   refine ⟨h,d0,d1,?_⟩
   rw [hp]
   show u <= 2 * u * 2 ^ f
   have h1 : (1 : Int) <= 2 ^ f:=by
    have : 1 <= (2 : Nat) ^ f:=Nat.one_le_two_pow
    exact_mod_cast this
   have h2 : 2 * u * 1 <= 2 * u * 2 ^ f:=Int.mul_le_mul_of_nonneg_left h1 (by omega)
   omega
theorem number_ok {s : ByteArray} {r : RS} {k : Nat} (h : Ok s r) (hk : k + 22 <= 400) : Ok s (number s r k).2:=by
 obtain ⟨g1,g2,g3⟩:=run_ok (s:=s) hk 11 0 r rfl (fun e => by omega) h
 unfold number
 by_cases hm : (run s k 11 0 r).1 <= 9
 ·exact (lows_ok (s:=s) (k:=k + 12 + (run s k 11 0 r).1) (by omega) _ 0 1 _ g1 (by omega) (by omega)).1
 ·have he : (run s k 11 0 r).2.err ≠ 0:=fun e => by rcases g3 e with g | g <;> omega
  have : ∀ (f : Nat) (d u : Int) (c : Nat),(lows s c f d u (run s k 11 0 r).2) = (d,u,(run s k 11 0 r).2):=fun f d u c => by
   cases f with
   | zero => rfl
   | succ f => unfold lows; rw [if_neg he]
  rw [this]
  exact g1
set_option maxRecDepth 20000 in
theorem pow512 (m : Nat) (hm : m <= 9) : (2 : Int) ^ m <= 512:=by
 have : (2 : Nat) ^ m <= 2 ^ 9:=Nat.pow_le_pow_right (by decide) hm
 exact_mod_cast this
theorem number_bd {s : ByteArray} {r : RS} {k : Nat} (h : Ok s r) (hk : k + 22 <= 400) : 0 <= (number s r k).1 /\ (number s r k).1 <= 1022:=by
 obtain ⟨g1,g2,g3⟩:=run_ok (s:=s) hk 11 0 r rfl (fun e => by omega) h
 unfold number
 by_cases hm : (run s k 11 0 r).1 <= 9
 ·obtain ⟨_,l1,l2,l3⟩:=lows_ok (s:=s) (k:=k + 12 + (run s k 11 0 r).1) (by omega) (run s k 11 0 r).1 0 1 _ g1 (by omega) (by omega)
  have hp : (2 : Int) ^ (run s k 11 0 r).1 <= 512:=pow512 _ hm
  dsimp only
  omega
 ·have he : (run s k 11 0 r).2.err ≠ 0:=fun e => by rcases g3 e with g | g <;> omega
  have : ∀ (f : Nat) (d u : Int) (c : Nat),(lows s c f d u (run s k 11 0 r).2) = (d,u,(run s k 11 0 r).2):=fun f d u c => by
   cases f with
   | zero => rfl
   | succ f => unfold lows; rw [if_neg he]
  rw [this]
  dsimp only
  omega
end Rdr
namespace Flm
theorem shade_ok {s : ByteArray} {r : RS} (h : Rdr.Ok s r) : Rdr.Ok s (shade s r).2:=by
 have h1:=Rdr.number_ok (k:=224) h (by omega)
 unfold shade
 dsimp only
 split
 ·exact h1.fail (by decide)
 ·exact h1
theorem fills_err {s : ByteArray} {z n : Nat} {l : List Px} {ps : List (Nat × Nat)} {fs : FS} (he : fs.r.err ≠ 0) : fills s z n l ps fs = fs:=by
 cases ps with
 | nil => rfl
 | cons p ps => obtain ⟨i,j⟩:=p; unfold fills; rw [if_neg he]
theorem colours_err {s : ByteArray} {n : Nat} {r : RS} (he : r.err ≠ 0) : colours s n r = ([],r):=by
 cases n with
 | zero => rfl
 | succ n => unfold colours; rw [if_neg he]
theorem moves_r {z f : Nat} {dx dy : Int} : ∀ (ps : List (Nat × Nat)) (fs : FS),(moves z f dx dy ps fs).r = fs.r
 | [],_ => rfl
 | (i,j) :: ps,fs => by unfold moves; rw [moves_r ps]; rfl
theorem seen_r {z : Nat} : ∀ (ps : List (Nat × Nat)) (fs : FS),(seen z ps fs).r = fs.r
 | [],_ => rfl
 | (i,j) :: ps,fs => by unfold seen; rw [seen_r ps]
end Flm
end Go.Proofs.YtekfbphnoibnjaaGreatDoor
namespace Go.Proofs.YtekfbphnoibnjaaGreatDoor
open Go.RowKit
set_option maxHeartbeats 400000 in
theorem colTurn (r g b : Int) (w : World) (r0 : 0 <= r) (r1 : r <= 255) (g0 : 0 <= g) (g1 : g <= 255) (b0 : 0 <= b) (b1 : b <= 255) :
  Calls Tryz.prog 96 #[.agg #[.int .u8 r,.int .u8 g,.int .u8 b]] w fun e w' => e = .returned (.agg #[.int .i64 (Pix.tY r g b),.int .i64 (r - b),.int .i64 (Pix.tV r g b)]) /\ Below w.heap.size w w':=by
 go_enter Tryz.func96,Tryz.ntmps96
 go_wp2
 go_quiet (fail)
 go_wp2
 refine bodyPost_ret (v:=.agg #[.int .i64 (Pix.tY r g b),.int .i64 (r - b),.int .i64 (Pix.tV r g b)]) (by simp [results,Tryz.results96,go_sem,Pix.tY,Pix.tV,Pix.tT]) rfl ⟨rfl,?_⟩
 repeat (first | exact Below.refl _ _ | refine Below.setCell ?_ (by simp) _ | refine Below.alloc ?_ (by simp) _ | refine below_drewN ?_ _)
end Go.Proofs.YtekfbphnoibnjaaGreatDoor
namespace Go.Proofs.YtekfbphnoibnjaaGreatDoor
open Go.RowKit
theorem negHalf (n : Int) : -((1 - n) / 2) = n / 2:=by omega
set_option maxHeartbeats 400000 in
theorem refHalf (n : Int) (w : World) (h1 : -100000 <= n) (h2 : n <= 100000) :
  Calls Tryz.prog 97 #[.int .i64 n] w fun e w' => e = .returned (.int .i64 (n / 2)) /\ w' = w:=by
 by_cases h : n < 0
 ·go_enter Tryz.func97,Tryz.ntmps97
  go_wp2
  go_ret
  exact ⟨by rw [<- negHalf n]; rfl,rfl⟩
 ·go_enter Tryz.func97,Tryz.ntmps97
  go_wp2
  go_ret
  exact ⟨rfl,rfl⟩
set_option maxHeartbeats 400000 in
theorem refTurn (r g b : Int) (w : World) (r0 : 0 <= r) (r1 : r <= 255) (g0 : 0 <= g) (g1 : g <= 255) (b0 : 0 <= b) (b1 : b <= 255) :
  Calls Tryz.prog 54 #[.agg #[.int .u8 r,.int .u8 g,.int .u8 b]] w fun e w' => e = .returned (.agg #[.int .i64 (Pix.tY r g b),.int .i64 (r - b),.int .i64 (Pix.tV r g b)]) /\ Below w.heap.size w w':=by
 go_enter Tryz.func54,Tryz.ntmps54
 go_wp2_with (go_at_call 97; refine (refHalf _ _ (by omega) (by omega)).mono ?_; rintro e w1 ⟨rfl,rfl⟩)
 refine bodyPost_ret (v:=.agg #[.int .i64 (Pix.tY r g b),.int .i64 (r - b),.int .i64 (Pix.tV r g b)]) (by simp [results,Tryz.results54,go_sem,Pix.tY,Pix.tV,Pix.tT]) rfl ⟨rfl,?_⟩
 repeat (first | exact Below.refl _ _ | refine Below.setCell ?_ (by simp) _ | refine Below.alloc ?_ (by simp) _ | refine below_drewN ?_ _)
def far (n : Int) : Prop:=n < -1000 \/ 1000 < n
theorem not_far {n : Int} (h : ¬ far n) : -1000 <= n /\ n <= 1000:=by unfold far at h; omega
theorem nopix6 {y u v : Int} (h : ¬ Pix.isPix y u v) : u + (y - v / 2 - u / 2) < 0 \/ (0 <= u + (y - v / 2 - u / 2) /\ 255 < u + (y - v / 2 - u / 2)) \/
  (0 <= u + (y - v / 2 - u / 2) /\ u + (y - v / 2 - u / 2) <= 255 /\ v + (y - v / 2) < 0) \/ (0 <= u + (y - v / 2 - u / 2) /\ u + (y - v / 2 - u / 2) <= 255 /\ 0 <= v + (y - v / 2) /\ 255 < v + (y - v / 2)) \/
  (0 <= u + (y - v / 2 - u / 2) /\ u + (y - v / 2 - u / 2) <= 255 /\ 0 <= v + (y - v / 2) /\ v + (y - v / 2) <= 255 /\ y - v / 2 - u / 2 < 0) \/
  (0 <= u + (y - v / 2 - u / 2) /\ u + (y - v / 2 - u / 2) <= 255 /\ 0 <= v + (y - v / 2) /\ v + (y - v / 2) <= 255 /\ 0 <= y - v / 2 - u / 2 /\ 255 < y - v / 2 - u / 2):=by
 unfold Pix.isPix Pix.bR Pix.bG Pix.bB Pix.bT at h
 omega
set_option maxHeartbeats 1000000 in
theorem refBack_out (y u v : Int) (w : World) (h : ¬ Pix.isPix y u v) :
  Calls Tryz.prog 56 #[.agg #[.int .i64 y,.int .i64 u,.int .i64 v]] w fun e w' => e = .returned (.tuple #[.agg #[.int .u8 0,.int .u8 0,.int .u8 0],.int .i64 2]) /\ Below w.heap.size w w':=by
 go_enter Tryz.func56,Tryz.ntmps56
 go_wp2
 go_loop [4] (fun i => ∃ k : Nat,k <= 3 /\ i = .int .i64 k /\ (0 < k -> ¬ far y) /\ (1 < k -> ¬ far u) /\ (2 < k -> ¬ far v)) (fun i => 4 - (intOf i).toNat)
 case atStart => exact ⟨0,by omega,rfl,by omega,by omega,by omega⟩
 case round =>
  obtain ⟨k,hk,rfl,hy,hu,hv⟩:=hrel
  rcases (by omega : k = 0 \/ k = 1 \/ k = 2 \/ k = 3) with rfl | rfl | rfl | rfl
  ·clear hy hu hv
   by_cases hf : far y
   ·unfold far at hf
    rcases hf with hf | hf
    ·go_wp2
     refine bodyPost_ret (v:=.tuple #[.agg #[.int .u8 0,.int .u8 0,.int .u8 0],.int .i64 2]) (by simp [results,Tryz.results56,go_sem]) rfl ⟨rfl,?_⟩
     repeat (first | exact Below.refl _ _ | refine Below.setCell ?_ (by simp) _ | refine Below.alloc ?_ (by simp) _ | refine below_drewN ?_ _)
    ·have hg : ¬ y < -1000:=by omega
     go_wp2
     refine bodyPost_ret (v:=.tuple #[.agg #[.int .u8 0,.int .u8 0,.int .u8 0],.int .i64 2]) (by simp [results,Tryz.results56,go_sem]) rfl ⟨rfl,?_⟩
     repeat (first | exact Below.refl _ _ | refine Below.setCell ?_ (by simp) _ | refine Below.alloc ?_ (by simp) _ | refine below_drewN ?_ _)
   ·obtain ⟨ha,hb⟩:=not_far hf
    have HF : Hid (¬ far y):=hf
    clear hf
    go_wp2
    go_round
    case rel => exact ⟨0 + 1,by omega,by go_num,fun _ => HF.out,fun h => absurd h (by omega),fun h => absurd h (by omega)⟩
    case measure => simp [intOf]
  ·have h0 : Hid (¬ far y):=hy (by omega)
   clear hy hu hv
   by_cases hf : far u
   ·unfold far at hf
    rcases hf with hf | hf
    ·go_wp2
     refine bodyPost_ret (v:=.tuple #[.agg #[.int .u8 0,.int .u8 0,.int .u8 0],.int .i64 2]) (by simp [results,Tryz.results56,go_sem]) rfl ⟨rfl,?_⟩
     repeat (first | exact Below.refl _ _ | refine Below.setCell ?_ (by simp) _ | refine Below.alloc ?_ (by simp) _ | refine below_drewN ?_ _)
    ·have hg : ¬ u < -1000:=by omega
     go_wp2
     refine bodyPost_ret (v:=.tuple #[.agg #[.int .u8 0,.int .u8 0,.int .u8 0],.int .i64 2]) (by simp [results,Tryz.results56,go_sem]) rfl ⟨rfl,?_⟩
     repeat (first | exact Below.refl _ _ | refine Below.setCell ?_ (by simp) _ | refine Below.alloc ?_ (by simp) _ | refine below_drewN ?_ _)
   ·obtain ⟨ha,hb⟩:=not_far hf
    have HF : Hid (¬ far u):=hf
    clear hf
    go_wp2
    go_round
    case rel => exact ⟨1 + 1,by omega,by go_num,fun _ => h0.out,fun _ => HF.out,fun h => absurd h (by omega)⟩
    case measure => simp [intOf]
  ·have h0 : Hid (¬ far y):=hy (by omega)
   have h1 : Hid (¬ far u):=hu (by omega)
   clear hy hu hv
   by_cases hf : far v
   ·unfold far at hf
    rcases hf with hf | hf
    ·go_wp2
     refine bodyPost_ret (v:=.tuple #[.agg #[.int .u8 0,.int .u8 0,.int .u8 0],.int .i64 2]) (by simp [results,Tryz.results56,go_sem]) rfl ⟨rfl,?_⟩
     repeat (first | exact Below.refl _ _ | refine Below.setCell ?_ (by simp) _ | refine Below.alloc ?_ (by simp) _ | refine below_drewN ?_ _)
    ·have hg : ¬ v < -1000:=by omega
     go_wp2
     refine bodyPost_ret (v:=.tuple #[.agg #[.int .u8 0,.int .u8 0,.int .u8 0],.int .i64 2]) (by simp [results,Tryz.results56,go_sem]) rfl ⟨rfl,?_⟩
     repeat (first | exact Below.refl _ _ | refine Below.setCell ?_ (by simp) _ | refine Below.alloc ?_ (by simp) _ | refine below_drewN ?_ _)
   ·obtain ⟨ha,hb⟩:=not_far hf
    have HF : Hid (¬ far v):=hf
    clear hf
    go_wp2
    go_round
    case rel => exact ⟨2 + 1,by omega,by go_num,fun _ => h0.out,fun _ => h1.out,fun _ => HF.out⟩
    case measure => simp [intOf]
  ·obtain ⟨y0,y1⟩:=not_far (hy (by omega))
   obtain ⟨u0,u1⟩:=not_far (hu (by omega))
   obtain ⟨v0,v1⟩:=not_far (hv (by omega))
   clear hy hu hv
   rcases nopix6 h with h1 | ⟨h1,h2⟩ | ⟨h1,h2,h3⟩ | ⟨h1,h2,h3,h4⟩ | ⟨h1,h2,h3,h4,h5⟩ | ⟨h1,h2,h3,h4,h5,h6⟩
   all_goals
    clear h
    go_wp2
    go_quiet ((go_at_call 97; exact Calls.quiet_of_same (refHalf _ _ (by omega) (by omega))))
    go_wp2_with (go_at_call 97; refine (refHalf _ _ (by omega) (by omega)).mono ?_; rintro e w1 ⟨rfl,rfl⟩)
    refine bodyPost_ret (v:=.tuple #[.agg #[.int .u8 0,.int .u8 0,.int .u8 0],.int .i64 2]) (by simp [results,Tryz.results56,go_sem]) rfl ⟨rfl,?_⟩
    repeat (first | exact Below.refl _ _ | refine Below.setCell ?_ (by simp) _ | refine Below.alloc ?_ (by simp) _ | refine below_drewN ?_ _)
set_option maxHeartbeats 1000000 in
theorem refBack_in (y u v : Int) (w : World) (h : Pix.isPix y u v) :
  Calls Tryz.prog 56 #[.agg #[.int .i64 y,.int .i64 u,.int .i64 v]] w fun e w' => e = .returned (.tuple #[.agg #[.int .u8 (Pix.bR y u v),.int .u8 (Pix.bG y v),.int .u8 (Pix.bB y u v)],.int .i64 0]) /\ Below w.heap.size w w':=by
 obtain ⟨⟨y0,y1⟩,⟨u0,u1⟩,⟨v0,v1⟩⟩:=Pix.near y u v h
 have y2 : -1000 <= y:=by omega
 have y3 : y <= 1000:=by omega
 have u2 : -1000 <= u:=by omega
 have u3 : u <= 1000:=by omega
 have v2 : -1000 <= v:=by omega
 have v3 : v <= 1000:=by omega
 obtain ⟨⟨a0,a1⟩,⟨b0,b1⟩,⟨c0,c1⟩⟩:=h
 unfold Pix.bR Pix.bB Pix.bT at a0 a1
 unfold Pix.bG Pix.bT at b0 b1
 unfold Pix.bB Pix.bT at c0 c1
 go_enter Tryz.func56,Tryz.ntmps56
 go_wp2
 go_loop [4] (fun i => ∃ k : Nat,k <= 3 /\ i = .int .i64 k) (fun i => 4 - (intOf i).toNat)
 case atStart => exact ⟨0,by omega,rfl⟩
 case round =>
  obtain ⟨k,hk,rfl⟩:=hrel
  rcases (by omega : k = 0 \/ k = 1 \/ k = 2 \/ k = 3) with rfl | rfl | rfl | rfl
  ·go_wp2
   go_round
   case rel => exact ⟨1,by omega,by go_num⟩
   case measure => simp [intOf]
  ·go_wp2
   go_round
   case rel => exact ⟨2,by omega,by go_num⟩
   case measure => simp [intOf]
  ·go_wp2
   go_round
   case rel => exact ⟨3,by omega,by go_num⟩
   case measure => simp [intOf]
  ·go_wp2
   go_quiet ((go_at_call 97; exact Calls.quiet_of_same (refHalf _ _ (by omega) (by omega))))
   go_wp2_with (go_at_call 97; refine (refHalf _ _ (by omega) (by omega)).mono ?_; rintro e w1 ⟨rfl,rfl⟩)
   refine bodyPost_ret (v:=.tuple #[.agg #[.int .u8 (Pix.bR y u v),.int .u8 (Pix.bG y v),.int .u8 (Pix.bB y u v)],.int .i64 0]) (by simp [results,Tryz.results56,go_sem,Pix.bR,Pix.bG,Pix.bB,Pix.bT]) rfl ⟨rfl,?_⟩
   repeat (first | exact Below.refl _ _ | refine Below.setCell ?_ (by simp) _ | refine Below.alloc ?_ (by simp) _ | refine below_drewN ?_ _)
end Go.Proofs.YtekfbphnoibnjaaGreatDoor
