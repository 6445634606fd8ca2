/-
  A packer's low end and range against the reader's code and range, as plain arithmetic: what is packed is read back. What is packed is read back; a byte less is missed, a byte more is seen: plain arithmetic. The document's reader reads a number, a signed number. What the document expects of a pixel's number. Plain arithmetic of a pixel turned and turned back; no program in sight. A film is read, as plain arithmetic over the reader of bits: no program in sight. What holds of a film throughout its reading.
-/
import Derived.Test.YtekfbphnoibnjaaDoorF01
import Derived.Deep.CutBlock
import Derived.Deep.DeepCutAuto
namespace Go.Proofs.YtekfbphnoibnjaaDoor
structure WS where
 n : Int
 m : Nat
 rng : Int
 ch : List Int
namespace Pack
def cut (t : WS) (k : Nat) : Int := t.rng / 4096 * t.ch.getD k 0
def pull (t : WS) : WS := { t with n := 256 * t.n, m := t.m + 1, rng := 256 * t.rng }
def norm (t : WS) : WS := if t.rng < 16777216 then pull t else t
def zero (t : WS) (k : Nat) : WS := { t with rng := cut t k, ch := t.ch.set k (t.ch.getD k 0 + (4096 - t.ch.getD k 0) / 32) }
def one (t : WS) (k : Nat) : WS := { t with n := t.n + cut t k, rng := t.rng - cut t k, ch := t.ch.set k (t.ch.getD k 0 - t.ch.getD k 0 / 32) }
def put (t : WS) (k : Nat) (v : Int) : WS := norm (if v = 0 then zero t k else one t k)
def puts : WS -> List (Nat × Int) -> WS
 | t, [] => t
 | t, (k, v) :: l => puts (put t k v) l
def init : WS := ⟨0, 0, 4294967295, ch0⟩
structure Ok (t : WS) : Prop where
 ch : Rdr.ChOk t.ch
 r0 : 16777216 <= t.rng
 r1 : t.rng <= 4294967295
 n0 : 0 <= t.n
theorem cut_bd {t : WS} (h : Ok t) {k : Nat} (hk : k < 400) : 126976 <= cut t k /\ cut t k + 126976 <= t.rng := by
 have hb := h.ch.2 k hk
 have := h.r0
 have := h.r1
 have hm := Rdr.mul_bd (t.rng / 4096) (t.ch.getD k 0) (by omega) (by omega) hb.1 hb.2
 unfold cut
 omega
theorem norm_ok {t : WS} (ch : Rdr.ChOk t.ch) (r0 : 126976 <= t.rng) (r1 : t.rng <= 4294967295) (n0 : 0 <= t.n) : Ok (norm t) := by
 unfold norm
 split
 ·exact ⟨ch, by show 16777216 <= 256 * t.rng; omega, by show 256 * t.rng <= 4294967295; omega, by show 0 <= 256 * t.n; omega⟩
 ·exact ⟨ch, by omega, r1, n0⟩
theorem Ok.put {t : WS} (h : Ok t) {k : Nat} (hk : k < 400) (v : Int) : Ok (put t k v) := by
 have hc := cut_bd h hk
 have hb := h.ch.2 k hk
 have h1 := h.r1
 have h0 := h.n0
 unfold Pack.put
 by_cases hv : v = 0
 ·rw [if_pos hv]
  exact norm_ok (h.ch.set (Rdr.up_bd _ hb.1 hb.2).1 (Rdr.up_bd _ hb.1 hb.2).2) hc.1 (by show cut t k <= 4294967295; omega) h0
 ·rw [if_neg hv]
  exact norm_ok (h.ch.set (Rdr.dn_bd _ hb.1 hb.2).1 (Rdr.dn_bd _ hb.1 hb.2).2) (by show 126976 <= t.rng - cut t k; omega) (by show t.rng - cut t k <= 4294967295; omega) (by show 0 <= t.n + cut t k; omega)
theorem init_ok : Ok init := ⟨⟨by unfold init ch0; exact List.length_replicate, fun k hk => by show 31 <= ch0.getD k 0 /\ _; rw [show (init).ch = ch0 from rfl, ch0_get k hk]; decide⟩, by decide, by decide, by decide⟩
def In (t u : WS) : Prop := ∃ d : Nat, u.m = t.m + d /\ t.n * 256 ^ d <= u.n /\ u.n + u.rng <= (t.n + t.rng) * 256 ^ d
theorem In.refl (t : WS) : In t t := ⟨0, rfl, by simp, by simp⟩
theorem In.trans {t u v : WS} (h : In t u) (k : In u v) : In t v := by
 obtain ⟨d, h1, h2, h3⟩ := h
 obtain ⟨e, k1, k2, k3⟩ := k
 have hp : (0 : Int) <= 256 ^ e := Int.pow_nonneg (by decide)
 refine ⟨d + e, by omega, ?_, ?_⟩
 ·rw [Int.pow_add, <- Int.mul_assoc]
  exact Int.le_trans (Int.mul_le_mul_of_nonneg_right h2 hp) k2
 ·rw [Int.pow_add, <- Int.mul_assoc]
  exact Int.le_trans k3 (Int.mul_le_mul_of_nonneg_right h3 hp)
theorem In.norm (t : WS) : In t (norm t) := by
 unfold Pack.norm
 split
 ·exact ⟨1, rfl, by show t.n * 256 ^ 1 <= 256 * t.n; omega, by show 256 * t.n + 256 * t.rng <= (t.n + t.rng) * 256 ^ 1; omega⟩
 ·exact In.refl t
def half (t : WS) (k : Nat) (v : Int) : WS := if v = 0 then zero t k else one t k
theorem put_eq (t : WS) (k : Nat) (v : Int) : put t k v = norm (half t k v) := rfl
theorem In.half {t : WS} (h : Ok t) {k : Nat} (hk : k < 400) (v : Int) : In t (half t k v) := by
 have hc := cut_bd h hk
 unfold Pack.half
 by_cases hv : v = 0
 ·rw [if_pos hv]
  exact ⟨0, rfl, by show t.n * 256 ^ 0 <= t.n; omega, by show t.n + cut t k <= (t.n + t.rng) * 256 ^ 0; omega⟩
 ·rw [if_neg hv]
  exact ⟨0, rfl, by show t.n * 256 ^ 0 <= t.n + cut t k; omega, by show t.n + cut t k + (t.rng - cut t k) <= (t.n + t.rng) * 256 ^ 0; omega⟩
theorem puts_ok : ∀ (l : List (Nat × Int)) (t : WS), Ok t -> (∀ p ∈ l, p.1 < 400) -> Ok (puts t l)
 | [], _, h, _ => h
 | (k, v) :: l, _, h, hl => puts_ok l _ (h.put (hl (k, v) (by simp)) v) (fun p hp => hl p (by simp [hp]))
theorem puts_in : ∀ (l : List (Nat × Int)) (t : WS), Ok t -> (∀ p ∈ l, p.1 < 400) -> In t (puts t l)
 | [], t, _, _ => In.refl t
 | (k, v) :: l, t, h, hl => by
  have hk := hl (k, v) (by simp)
  have h1 := In.trans (In.half h hk v) (In.norm (half t k v))
  exact In.trans h1 (puts_in l _ (h.put hk v) (fun p hp => hl p (by simp [hp])))
theorem norm_m (t : WS) : (norm t).m <= t.m + 1 := by unfold norm; split <;> (first | exact Nat.le_refl _ | exact Nat.le_succ _)
theorem half_m (t : WS) (k : Nat) (v : Int) : (half t k v).m = t.m := by unfold half; split <;> rfl
theorem puts_m : ∀ (l : List (Nat × Int)) (t : WS), (puts t l).m <= t.m + l.length
 | [], t => Nat.le_refl _
 | (k, v) :: l, t => by
  have h := puts_m l (put t k v)
  have h1 := norm_m (half t k v)
  rw [half_m] at h1
  show (puts (put t k v) l).m <= t.m + (l.length + 1)
  have h2 : (put t k v).m <= t.m + 1 := h1
  omega
theorem puts_snoc (k : Nat) (v : Int) : ∀ (l : List (Nat × Int)) (t : WS), puts t (l ++ [(k, v)]) = put (puts t l) k v
 | [], _ => rfl
 | (_, _) :: l, _ => puts_snoc k v l _
def digs : Nat -> Int -> List Int
 | 0, _ => []
 | m + 1, x => digs m (x / 256) ++ [x % 256]
theorem digs_length : ∀ (m : Nat) (x : Int), (digs m x).length = m
 | 0, _ => rfl
 | m + 1, x => by rw [digs, List.length_append, digs_length m]; rfl
end Pack
end Go.Proofs.YtekfbphnoibnjaaDoor
namespace Go.Proofs.YtekfbphnoibnjaaDoor
namespace Pack
structure BytesOf (S : ByteArray) (V : Int) (M : Nat) : Prop where
 size : S.size = M + 4
 at' : ∀ i, i < M + 4 -> Rdr.byteAt S i = V / 256 ^ (M + 3 - i) % 256
structure Rel (V : Int) (M : Nat) (t : WS) (r : RS) : Prop where
 err : r.err = 0
 pos : r.pos = t.m + 4
 rng : r.rng = t.rng
 ch : r.ch = t.ch
 le : t.m <= M
 code : r.code = V / 256 ^ (M - t.m) - t.n
theorem rel_norm {S : ByteArray} {V : Int} {M : Nat} (hS : BytesOf S V M) {t : WS} {r : RS} (h : Rel V M t r) (hm : (norm t).m <= M) : Rel V M (norm t) (Rdr.norm S r) := by
 obtain ⟨h1, h2, h3, h4, h5, h6⟩ := h
 unfold norm Rdr.norm at *
 by_cases hl : t.rng < 16777216
 ·rw [if_pos hl] at hm ⊢
  rw [if_pos (by rw [h3]; exact hl)]
  have hm' : t.m + 1 <= M := hm
  have hp : r.pos < S.size := by rw [h2, hS.size]; omega
  have ho : Rdr.octS S r = { r with pos := r.pos + 1 } := by unfold Rdr.octS; rw [if_pos hp]
  have hb : Rdr.octB S r = V / 256 ^ (M - (t.m + 1)) % 256 := by
   unfold Rdr.octB
   rw [if_pos hp, hS.at' _ (by omega), h2, show M + 3 - (t.m + 4) = M - (t.m + 1) by omega]
  unfold Rdr.pull
  rw [ho, hb]
  refine ⟨h1, by show r.pos + 1 = t.m + 1 + 4; omega, by show 256 * r.rng = 256 * t.rng; rw [h3], h4, hm', ?_⟩
  show 256 * r.code + V / 256 ^ (M - (t.m + 1)) % 256 = V / 256 ^ (M - (t.m + 1)) - 256 * t.n
  rw [h6, show M - t.m = (M - (t.m + 1)) + 1 by omega, Int.pow_succ, <- Int.ediv_ediv_of_nonneg (Int.pow_nonneg (by decide))]
  omega
 ·rw [if_neg hl] at hm ⊢
  rw [if_neg (by rw [h3]; exact hl)]
  exact ⟨h1, h2, h3, h4, h5, h6⟩
theorem rel_step {S : ByteArray} {V : Int} {M : Nat} (hS : BytesOf S V M) {t u : WS} {r : RS} (h : Rel V M t r) {k : Nat} {v : Int} (hv : v = 0 \/ v = 1) (hin : In (put t k v) u) (hV : V = u.n) (hM : M = u.m) (hu : 0 < u.rng) :
  Rdr.bitV r k = v /\ Rel V M (put t k v) (Rdr.bitS S r k) := by
 have hm : (put t k v).m <= M := by obtain ⟨d, h1, _⟩ := hin; omega
 obtain ⟨d, hd1, hd2, hd3⟩ := In.trans (In.norm (half t k v)) (by rw [<- put_eq]; exact hin)
 rw [half_m] at hd1
 have hp : (0 : Int) < 256 ^ d := Int.pow_pos (by decide)
 have hdd : M - t.m = d := by omega
 have hcut : Rdr.cut r k = cut t k := by unfold Rdr.cut cut; rw [h.rng, h.ch]
 have hcode := h.code
 rw [hdd] at hcode
 rcases hv with rfl | rfl
 ·have hlt : V / 256 ^ d < t.n + cut t k := by
   refine Int.ediv_lt_of_lt_mul hp ?_
   have : u.n + u.rng <= (t.n + cut t k) * 256 ^ d := hd3
   omega
  have hc : r.code < Rdr.cut r k := by rw [hcut, hcode]; omega
  have e1 : Rdr.bitV r k = 0 := by unfold Rdr.bitV; rw [if_pos h.err, if_pos hc]
  have e2 : Rdr.bitS S r k = Rdr.norm S (Rdr.zero r k) := by unfold Rdr.bitS; rw [if_pos h.err, if_pos hc]
  refine ⟨e1, ?_⟩
  rw [e2]
  refine rel_norm hS (t := zero t k) ⟨h.err, h.pos, hcut, ?_, h.le, h.code⟩ hm
  show r.ch.set k _ = t.ch.set k _
  rw [h.ch]
 ·have hge : t.n + cut t k <= V / 256 ^ d := by
   refine Int.le_ediv_of_mul_le hp ?_
   have : (t.n + cut t k) * 256 ^ d <= u.n := hd2
   omega
  have hc : ¬ r.code < Rdr.cut r k := by rw [hcut, hcode]; omega
  have e1 : Rdr.bitV r k = 1 := by unfold Rdr.bitV; rw [if_pos h.err, if_neg hc]
  have e2 : Rdr.bitS S r k = Rdr.norm S (Rdr.one r k) := by unfold Rdr.bitS; rw [if_pos h.err, if_neg hc]
  refine ⟨e1, ?_⟩
  rw [e2]
  refine rel_norm hS (t := one t k) ⟨h.err, h.pos, ?_, ?_, h.le, ?_⟩ hm
  ·show r.rng - Rdr.cut r k = t.rng - cut t k; rw [hcut, h.rng]
  ·show r.ch.set k _ = t.ch.set k _
   rw [h.ch]
  ·show r.code - Rdr.cut r k = V / 256 ^ (M - t.m) - (t.n + cut t k)
   rw [hcut, h.code]; omega
def fin (l : List (Nat × Int)) : WS := puts init l
def BitsOk (l : List (Nat × Int)) : Prop := ∀ p ∈ l, p.1 < 400 /\ (p.2 = 0 \/ p.2 = 1)
end Pack
namespace Rdr
end Rdr
end Go.Proofs.YtekfbphnoibnjaaDoor
namespace Go.Proofs.YtekfbphnoibnjaaDoor
open Go.RowKit
namespace Rdr
def run (s : ByteArray) (k : Nat) : Nat -> Nat -> RS -> Nat × RS
 | 0, n, r => (n, r)
 | f + 1, n, r => if r.err = 0 then (if bitV r (k + n) = 0 then (n, bitS s r (k + n)) else run s k f (n + 1) (if n + 1 = 10 then fail (bitS s r (k + n)) 8 else bitS s r (k + n))) else (n, r)
def lows (s : ByteArray) (k : Nat) : Nat -> Int -> Int -> RS -> Int × Int × RS
 | 0, d, u, r => (d, u, r)
 | f + 1, d, u, r => if r.err = 0 then lows s k f (2 * d + bitV r k) (2 * u) (bitS s r k) else (d, u, r)
def number (s : ByteArray) (r : RS) (k : Nat) : Int × RS :=
 ((lows s (k + 12 + (run s k 11 0 r).1) (run s k 11 0 r).1 0 1 (run s k 11 0 r).2).2.1 + (lows s (k + 12 + (run s k 11 0 r).1) (run s k 11 0 r).1 0 1 (run s k 11 0 r).2).1 - 1, (lows s (k + 12 + (run s k 11 0 r).1) (run s k 11 0 r).1 0 1 (run s k 11 0 r).2).2.2)
theorem Ok.fail {s : ByteArray} {r : RS} (h : Ok s r) {e : Int} (he : 0 < e) : Ok s (fail r e) := by
 have h0 := h.err
 have hz : (Rdr.fail r e).err = 0 -> r.err = 0 := fun hh => by
  unfold Rdr.fail at hh; dsimp only at hh; split at hh <;> omega
 refine ⟨h.ch, h.pos, fun hh => h.rng (hz hh), fun hh => h.code (hz hh), ?_⟩
 unfold Rdr.fail; dsimp only; split <;> omega
theorem fail_err {r : RS} {e : Int} (he : 0 < e) : (fail r e).err ≠ 0 := by
 unfold fail; dsimp only; split <;> omega
theorem bitV_cases (r : RS) (k : Nat) : bitV r k = 0 \/ bitV r k = 1 := by
 unfold bitV; split
 ·split
  ·exact .inl rfl
  ·exact .inr rfl
 ·exact .inl rfl
end Rdr
namespace Rdr
def signed (s : ByteArray) (r : RS) (k : Nat) : Int := if (number s r k).1 % 2 = 0 then (number s r k).1 / 2 else -(((number s r k).1 + 1) / 2)
end Rdr
end Go.Proofs.YtekfbphnoibnjaaDoor
namespace Go.Proofs.YtekfbphnoibnjaaDoor
open Go.RowKit
namespace Flm
def expected (a b d : Int) : Int :=
 let lo := if b < a then b else a
 let hi := if b < a then a else b
 if hi <= d then lo else if d <= lo then hi else a + b - d
theorem expected_bd {a b d m : Int} (a0 : -m <= a) (a1 : a <= m) (b0 : -m <= b) (b1 : b <= m) : -m <= expected a b d /\ expected a b d <= m := by
 unfold expected
 dsimp only
 split <;> split <;> (try split) <;> omega
end Flm
end Go.Proofs.YtekfbphnoibnjaaDoor
namespace Go.Proofs.YtekfbphnoibnjaaDoor.Pix
def tT (r b : Int) : Int := b + (r - b) / 2
def tV (r g b : Int) : Int := g - tT r b
def tY (r g b : Int) : Int := tT r b + tV r g b / 2
def bT (y v : Int) : Int := y - v / 2
def bG (y v : Int) : Int := v + bT y v
def bB (y u v : Int) : Int := bT y v - u / 2
def bR (y u v : Int) : Int := u + bB y u v
def isPix (y u v : Int) : Prop := (0 <= bR y u v /\ bR y u v <= 255) /\ (0 <= bG y v /\ bG y v <= 255) /\ (0 <= bB y u v /\ bB y u v <= 255)
theorem tbounds (r g b : Int) (r0 : 0 <= r) (r1 : r <= 255) (g0 : 0 <= g) (g1 : g <= 255) (b0 : 0 <= b) (b1 : b <= 255) :
  (0 <= tT r b /\ tT r b <= 255) /\ (-255 <= tV r g b /\ tV r g b <= 255) /\ (0 <= tY r g b /\ tY r g b <= 255) := by
 unfold tY tV tT; omega
theorem back_turn (r g b : Int) : bR (tY r g b) (r - b) (tV r g b) = r /\ bG (tY r g b) (tV r g b) = g /\ bB (tY r g b) (r - b) (tV r g b) = b := by
 unfold bR bB bG bT tY tV tT; omega
theorem turn_isPix (r g b : Int) (r0 : 0 <= r) (r1 : r <= 255) (g0 : 0 <= g) (g1 : g <= 255) (b0 : 0 <= b) (b1 : b <= 255) : isPix (tY r g b) (r - b) (tV r g b) := by
 unfold isPix; obtain ⟨e1, e2, e3⟩ := back_turn r g b; rw [e1, e2, e3]; omega
theorem near (y u v : Int) (h : isPix y u v) : (-255 <= y /\ y <= 255) /\ (-255 <= u /\ u <= 255) /\ (-255 <= v /\ v <= 255) := by
 unfold isPix bR bB bG bT at h; omega
end Go.Proofs.YtekfbphnoibnjaaDoor.Pix
namespace Go.Proofs.YtekfbphnoibnjaaDoor
namespace Flm
abbrev Px := Int × Int × Int
structure FS where
 r : RS
 frs : List (List Px)
 rd : List Bool
 fr : Int
 x : Int
 y : Int
def okPx (p : Px) : Prop := (0 <= p.1 /\ p.1 <= 255) /\ (0 <= p.2.1 /\ p.2.1 <= 255) /\ (0 <= p.2.2 /\ p.2.2 <= 255)
def turn (p : Px) : Px := (Pix.tY p.1 p.2.1 p.2.2, p.1 - p.2.2, Pix.tV p.1 p.2.1 p.2.2)
open Classical in
noncomputable def back (c : Px) : Px × Int := if Pix.isPix c.1 c.2.1 c.2.2 then ((Pix.bR c.1 c.2.1 c.2.2, Pix.bG c.1 c.2.2, Pix.bB c.1 c.2.1 c.2.2), 0) else ((0, 0, 0), 2)
def px (fs : FS) (f i : Nat) : Px := (fs.frs.getD f []).getD i (0, 0, 0)
def now (fs : FS) : Nat := fs.frs.length - 1
def near (z : Nat) (fs : FS) (x y : Int) : Px := if x < 0 \/ y < 0 \/ (z : Int) <= x then (0, 0, 0) else turn (px fs (now fs) (y.toNat * z + x.toNat))
def put (fs : FS) (i : Nat) (p : Px) : FS := { fs with frs := fs.frs.set (now fs) ((fs.frs.getD (now fs) []).set i p) }
def spots (x y n : Nat) : List (Nat × Nat) := (List.range n).flatMap fun j => (List.range n).map fun i => (x + i, y + j)
noncomputable def soft1 (s : ByteArray) (z : Nat) (fs : FS) (i j : Nat) : FS × Px :=
 let a := near z fs ((i : Int) - 1) j
 let b := near z fs i ((j : Int) - 1)
 let d := near z fs ((i : Int) - 1) ((j : Int) - 1)
 let r1 := (Rdr.number s fs.r 100).2
 let r2 := (Rdr.number s r1 124).2
 let r3 := (Rdr.number s r2 148).2
 let c : Px := (expected a.1 b.1 d.1 + Rdr.signed s fs.r 100, expected a.2.1 b.2.1 d.2.1 + Rdr.signed s r1 124, expected a.2.2 b.2.2 d.2.2 + Rdr.signed s r2 148)
 ({ fs with r := if (back c).2 = 0 then r3 else Rdr.fail r3 (back c).2 }, (back c).1)
noncomputable def soft (s : ByteArray) (z : Nat) : List (Nat × Nat) -> FS -> FS
 | [], fs => fs
 | (i, j) :: ps, fs =>
  let q := soft1 s z fs i j
  if q.1.r.err = 0 then soft s z ps (put q.1 (j * z + i) q.2) else q.1
def shade (s : ByteArray) (r : RS) : Int × RS := ((Rdr.number s r 224).1 % 256, if 255 < (Rdr.number s r 224).1 then Rdr.fail (Rdr.number s r 224).2 2 else (Rdr.number s r 224).2)
def colour (s : ByteArray) (r : RS) : Px × RS :=
 let a := shade s r
 let b := shade s a.2
 let c := shade s b.2
 ((a.1, b.1, c.1), c.2)
def colours (s : ByteArray) : Nat -> RS -> List Px × RS
 | 0, r => ([], r)
 | n + 1, r => if r.err = 0 then let q := colours s n (colour s r).2; ((colour s r).1 :: q.1, q.2) else ([], r)
def which (s : ByteArray) : Nat -> Nat -> RS -> Nat × RS
 | 0, k, r => (k, r)
 | f + 1, k, r => if Rdr.bitV r (250 + k) = 0 then (k, Rdr.bitS s r (250 + k)) else which s f (k + 1) (Rdr.bitS s r (250 + k))
def fills (s : ByteArray) (z n : Nat) (l : List Px) : List (Nat × Nat) -> FS -> FS
 | [], fs => fs
 | (i, j) :: ps, fs =>
  if fs.r.err = 0 then
   let q := which s n 0 fs.r
   if q.2.err = 0 then fills s z n l ps (put { fs with r := q.2 } (j * z + i) (l.getD q.1 (0, 0, 0))) else fills s z n l ps { fs with r := q.2 }
  else fs
def few (s : ByteArray) (z x y side : Nat) (fs : FS) : FS :=
 let n := (Rdr.number s fs.r 200).1
 let r := if 3 < n then Rdr.fail (Rdr.number s fs.r 200).2 8 else (Rdr.number s fs.r 200).2
 let q := colours s (n.toNat + 1) r
 fills s z n.toNat q.1 (spots x y side) { fs with r := q.2 }
def may (z : Nat) (fs : FS) (own : Bool) (i j : Int) : Bool := decide (0 <= i) && decide (0 <= j) && decide (i < z) && decide (j < z) && (!own || fs.rd.getD (j.toNat * z + i.toNat) false)
def moves (z : Nat) (f : Nat) (dx dy : Int) : List (Nat × Nat) -> FS -> FS
 | [], fs => fs
 | (i, j) :: ps, fs => moves z f dx dy ps (put fs (j * z + i) (px fs f (((j : Int) + dy).toNat * z + ((i : Int) + dx).toNat)))
def copies (s : ByteArray) (z x y side k f : Nat) (fs : FS) : FS :=
 let dx := Rdr.signed s fs.r k
 let r1 := (Rdr.number s fs.r k).2
 let dy := Rdr.signed s r1 (k + 24)
 let r2 := (Rdr.number s r1 (k + 24)).2
 if r2.err = 0 then
  if (spots x y side).all (fun p => may z fs (f == now fs) ((p.1 : Int) + dx) ((p.2 : Int) + dy)) then moves z f dx dy (spots x y side) { fs with r := r2 } else { fs with r := Rdr.fail r2 9 }
 else { fs with r := r2 }
def seen (z : Nat) : List (Nat × Nat) -> FS -> FS
 | [], fs => fs
 | (i, j) :: ps, fs => seen z ps { fs with rd := fs.rd.set (j * z + i) true }
noncomputable def block (s : ByteArray) (z x y side : Nat) (fs : FS) : FS :=
 let a := Rdr.bitV fs.r 2
 let r1 := Rdr.bitS s fs.r 2
 let b := Rdr.bitV r1 (3 + a.toNat)
 let r2 := Rdr.bitS s r1 (3 + a.toNat)
 let g : FS := { fs with r := r2 }
 if r2.err = 0 then
  if a = 0 then (if b = 0 then seen z (spots x y side) (soft s z (spots x y side) g) else seen z (spots x y side) (few s z x y side g))
  else if b = 0 then seen z (spots x y side) (copies s z x y side 260 (now g) g)
  else if now g = 0 then { g with r := Rdr.fail r2 10 }
  else seen z (spots x y side) (copies s z x y side 310 (now g - 1) g)
 else g
noncomputable def area (s : ByteArray) (z : Nat) : Nat -> Nat -> Nat -> Nat -> FS -> FS
 | 0, x, y, side, fs => if fs.r.err = 0 then block s z x y side { fs with fr := now fs, x := x, y := y } else fs
 | n + 1, x, y, side, fs =>
  if fs.r.err = 0 then
   let k := if side = 16 then 0 else 1
   let g : FS := { fs with fr := now fs, x := x, y := y, r := Rdr.bitS s fs.r k }
   if Rdr.bitV fs.r k = 1 then
    let h := side / 2
    area s z n (x + h) (y + h) h (area s z n x (y + h) h (area s z n (x + h) y h (area s z n x y h g)))
   else if g.r.err = 0 then block s z x y side g else g
  else fs
def cuts (z : Nat) : Nat := if z = 16 then 2 else if z = 8 then 1 else 0
noncomputable def frames (s : ByteArray) (z : Nat) : Nat -> FS -> FS
 | 0, fs => fs
 | n + 1, fs => if fs.r.err = 0 then frames s z n (area s z (cuts z) 0 0 z { fs with frs := fs.frs ++ [List.replicate (z * z) (0, 0, 0)], rd := List.replicate (z * z) false }) else fs
end Flm
end Go.Proofs.YtekfbphnoibnjaaDoor
namespace Go.Proofs.YtekfbphnoibnjaaDoor
namespace Rdr
theorem run_ok {s : ByteArray} {k : Nat} (hk : k + 22 <= 400) : ∀ (f n : Nat) (r : RS), f + n = 11 -> (n = 10 -> r.err ≠ 0) -> Ok s r -> Ok s (run s k f n r).2 /\ (run s k f n r).1 <= 10 + (n - 10) /\ ((run s k f n r).2.err = 0 -> (run s k f n r).1 <= 9 \/ n = 11)
 | 0, n, r, hf, _, h => by
  refine ⟨h, ?_, fun _ => .inr (by omega)⟩
  show n <= 10 + (n - 10)
  omega
 | f + 1, n, r, hf, h10, h => by
  have hn : n <= 10 := by omega
  unfold run
  by_cases he : r.err = 0
  ·rw [if_pos he]
   have hn9 : n <= 9 := by
    rcases Nat.lt_or_ge n 10 with h' | h'
    ·omega
    ·exact absurd he (h10 (by omega))
   by_cases hb : bitV r (k + n) = 0
   ·rw [if_pos hb]
    exact ⟨h.bitS (by omega), by show n <= _; omega, fun _ => .inl (by show n <= 9; omega)⟩
   ·rw [if_neg hb]
    by_cases h9 : n + 1 = 10
    ·rw [if_pos h9]
     have hok := (h.bitS (k := k + n) (by omega)).fail (e := 8) (by decide)
     have hne := fail_err (r := bitS s r (k + n)) (e := 8) (by decide)
     obtain ⟨g1, g2, g3⟩ := run_ok hk f (n + 1) _ (by omega) (fun _ => hne) hok
     exact ⟨g1, by omega, fun e => by rcases g3 e with g | g <;> omega⟩
    ·rw [if_neg h9]
     obtain ⟨g1, g2, g3⟩ := run_ok hk f (n + 1) _ (by omega) (fun e => absurd e (by omega)) (h.bitS (k := k + n) (by omega))
     exact ⟨g1, by omega, fun e => by rcases g3 e with g | g <;> omega⟩
  ·rw [if_neg he]
   exact ⟨h, by show n <= _; omega, fun e => absurd e he⟩
theorem lows_ok {s : ByteArray} {k : Nat} (hk : k < 400) : ∀ (f : Nat) (d u : Int) (r : RS), Ok s r -> 0 <= d -> d + 1 <= u -> Ok s (lows s k f d u r).2.2 /\ 0 <= (lows s k f d u r).1 /\ (lows s k f d u r).1 + 1 <= (lows s k f d u r).2.1 /\ (lows s k f d u r).2.1 <= u * 2 ^ f
 | 0, d, u, r, h, d0, d1 => ⟨h, d0, d1, by show u <= u * 2 ^ 0; omega⟩
 | f + 1, d, u, r, h, d0, d1 => by
  have hp : u * 2 ^ (f + 1) = 2 * u * 2 ^ f := by rw [Int.pow_succ, Int.mul_comm (2 ^ f) 2, <- Int.mul_assoc, Int.mul_comm u 2]
  unfold lows
  by_cases he : r.err = 0
  ·rw [if_pos he, hp]
   have hb := bitV_cases r k
   exact lows_ok hk f _ _ _ (h.bitS hk) (by rcases hb with e | e <;> rw [e] <;> omega) (by rcases hb with e | e <;> rw [e] <;> omega)
  ·rw [if_neg he]
   refine ⟨h, d0, d1, ?_⟩
   rw [hp]
   show u <= 2 * u * 2 ^ f
   have h1 : (1 : Int) <= 2 ^ f := by
    have : 1 <= (2 : Nat) ^ f := Nat.one_le_two_pow
    exact_mod_cast this
   have h2 : 2 * u * 1 <= 2 * u * 2 ^ f := Int.mul_le_mul_of_nonneg_left h1 (by omega)
   omega
theorem number_ok {s : ByteArray} {r : RS} {k : Nat} (h : Ok s r) (hk : k + 22 <= 400) : Ok s (number s r k).2 := by
 obtain ⟨g1, g2, g3⟩ := run_ok (s := s) hk 11 0 r rfl (fun e => by omega) h
 unfold number
 by_cases hm : (run s k 11 0 r).1 <= 9
 ·exact (lows_ok (s := s) (k := k + 12 + (run s k 11 0 r).1) (by omega) _ 0 1 _ g1 (by omega) (by omega)).1
 ·have he : (run s k 11 0 r).2.err ≠ 0 := fun e => by rcases g3 e with g | g <;> omega
  have : ∀ (f : Nat) (d u : Int) (c : Nat), (lows s c f d u (run s k 11 0 r).2) = (d, u, (run s k 11 0 r).2) := fun f d u c => by
   cases f with
   | zero => rfl
   | succ f => unfold lows; rw [if_neg he]
  rw [this]
  exact g1
end Rdr
namespace Flm
theorem soft1_ok {s : ByteArray} {z : Nat} {fs : FS} {i j : Nat} (h : Rdr.Ok s fs.r) : Rdr.Ok s (soft1 s z fs i j).1.r := by
 have h1 := Rdr.number_ok (k := 100) h (by omega)
 have h2 := Rdr.number_ok (k := 124) h1 (by omega)
 have h3 := Rdr.number_ok (k := 148) h2 (by omega)
 unfold soft1
 dsimp only
 split
 ·exact h3
 ·refine h3.fail ?_
  unfold back at *
  split
  ·rename_i hc _; exact absurd (by rw [if_pos (by assumption)]) hc
  ·decide
theorem soft_ok {s : ByteArray} {z : Nat} : ∀ (ps : List (Nat × Nat)) (fs : FS), Rdr.Ok s fs.r -> Rdr.Ok s (soft s z ps fs).r
 | [], _, h => h
 | (i, j) :: ps, fs, h => by
  unfold soft
  dsimp only
  split
  ·exact soft_ok ps _ (soft1_ok h)
  ·exact soft1_ok h
theorem shade_ok {s : ByteArray} {r : RS} (h : Rdr.Ok s r) : Rdr.Ok s (shade s r).2 := by
 have h1 := Rdr.number_ok (k := 224) h (by omega)
 unfold shade
 dsimp only
 split
 ·exact h1.fail (by decide)
 ·exact h1
theorem colour_ok {s : ByteArray} {r : RS} (h : Rdr.Ok s r) : Rdr.Ok s (colour s r).2 := shade_ok (shade_ok (shade_ok h))
theorem colours_ok {s : ByteArray} : ∀ (n : Nat) (r : RS), Rdr.Ok s r -> Rdr.Ok s (colours s n r).2
 | 0, _, h => h
 | n + 1, r, h => by
  unfold colours
  split
  ·exact colours_ok n _ (colour_ok h)
  ·exact h
theorem which_ok {s : ByteArray} : ∀ (f k : Nat) (r : RS), f + k <= 149 -> Rdr.Ok s r -> Rdr.Ok s (which s f k r).2
 | 0, _, _, _, h => h
 | f + 1, k, r, hk, h => by
  unfold which
  split
  ·exact h.bitS (by omega)
  ·exact which_ok f (k + 1) _ (by omega) (h.bitS (by omega))
theorem fills_ok {s : ByteArray} {z n : Nat} {l : List Px} (hn' : n <= 149) : ∀ (ps : List (Nat × Nat)) (fs : FS), Rdr.Ok s fs.r -> Rdr.Ok s (fills s z n l ps fs).r
 | [], _, h => h
 | (i, j) :: ps, fs, h => by
  unfold fills
  split
  ·dsimp only
   split
   ·exact fills_ok hn' ps _ (which_ok n 0 _ (by omega) h)
   ·exact fills_ok hn' ps _ (which_ok n 0 _ (by omega) h)
  ·exact h
theorem fills_err {s : ByteArray} {z n : Nat} {l : List Px} {ps : List (Nat × Nat)} {fs : FS} (he : fs.r.err ≠ 0) : fills s z n l ps fs = fs := by
 cases ps with
 | nil => rfl
 | cons p ps => obtain ⟨i, j⟩ := p; unfold fills; rw [if_neg he]
theorem colours_err {s : ByteArray} {n : Nat} {r : RS} (he : r.err ≠ 0) : colours s n r = ([], r) := by
 cases n with
 | zero => rfl
 | succ n => unfold colours; rw [if_neg he]
theorem few_ok {s : ByteArray} {z x y side : Nat} {fs : FS} (h : Rdr.Ok s fs.r) : Rdr.Ok s (few s z x y side fs).r := by
 have h1 := Rdr.number_ok (k := 200) h (by omega)
 unfold few
 dsimp only
 by_cases h3 : 3 < (Rdr.number s fs.r 200).1
 ·rw [if_pos h3]
  have he := Rdr.fail_err (r := (Rdr.number s fs.r 200).2) (e := 8) (by decide)
  rw [colours_err he, fills_err he]
  exact h1.fail (by decide)
 ·rw [if_neg h3]
  exact fills_ok (by omega) _ _ (colours_ok _ _ h1)
theorem moves_r {z f : Nat} {dx dy : Int} : ∀ (ps : List (Nat × Nat)) (fs : FS), (moves z f dx dy ps fs).r = fs.r
 | [], _ => rfl
 | (i, j) :: ps, fs => by unfold moves; rw [moves_r ps]; rfl
theorem seen_r {z : Nat} : ∀ (ps : List (Nat × Nat)) (fs : FS), (seen z ps fs).r = fs.r
 | [], _ => rfl
 | (i, j) :: ps, fs => by unfold seen; rw [seen_r ps]
theorem copies_ok {s : ByteArray} {z x y side k f : Nat} {fs : FS} (hk : k + 46 <= 400) (h : Rdr.Ok s fs.r) : Rdr.Ok s (copies s z x y side k f fs).r := by
 have h1 := Rdr.number_ok (k := k) h (by omega)
 have h2 := Rdr.number_ok (k := k + 24) h1 (by omega)
 unfold copies
 dsimp only
 split
 ·split
  ·rw [moves_r]; exact h2
  ·exact h2.fail (by decide)
 ·exact h2
theorem block_ok {s : ByteArray} {z x y side : Nat} {fs : FS} (h : Rdr.Ok s fs.r) : Rdr.Ok s (block s z x y side fs).r := by
 have ha : (Rdr.bitV fs.r 2).toNat <= 1 := by rcases Rdr.bitV_cases fs.r 2 with e | e <;> rw [e] <;> decide
 have h1 := h.bitS (k := 2) (by omega)
 have h2 := h1.bitS (k := 3 + (Rdr.bitV fs.r 2).toNat) (by omega)
 unfold block
 dsimp only
 split
 ·split
  ·split
   ·rw [seen_r]; exact soft_ok _ _ h2
   ·rw [seen_r]; exact few_ok h2
  ·split
   ·rw [seen_r]; exact copies_ok (by omega) h2
   ·split
    ·exact h2.fail (by decide)
    ·rw [seen_r]; exact copies_ok (by omega) h2
 ·exact h2
theorem area_ok {s : ByteArray} {z : Nat} : ∀ (n x y side : Nat) (fs : FS), Rdr.Ok s fs.r -> Rdr.Ok s (area s z n x y side fs).r
 | 0, x, y, side, fs, h => by
  unfold area
  split
  ·exact block_ok h
  ·exact h
 | n + 1, x, y, side, fs, h => by
  obtain ⟨k, hk⟩ : ∃ k, k = if side = 16 then 0 else 1 := ⟨_, rfl⟩
  have h1 := h.bitS (k := k) (by rw [hk]; split <;> omega)
  unfold area
  dsimp only
  rw [<- hk]
  split
  ·split
   ·exact area_ok n _ _ _ _ (area_ok n _ _ _ _ (area_ok n _ _ _ _ (area_ok n _ _ _ _ h1)))
   ·split
    ·exact block_ok h1
    ·exact h1
  ·exact h
end Flm
end Go.Proofs.YtekfbphnoibnjaaDoor
