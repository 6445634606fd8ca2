/-
  What is packed is read back; a byte less is missed, a byte more is seen: plain arithmetic.
-/
import Derived.Test.YtekfbphnoibnjaaGreatDoorPack
namespace Go.Proofs.YtekfbphnoibnjaaGreatDoor
namespace Pack

/-- The bytes S are the digits of V, four more than M. -/
structure BytesOf (S : ByteArray) (V : Int) (M : Nat) : Prop where
  size : S.size = M + 4
  at' : ∀ i, i < M + 4 → Rdr.byteAt S i = V / 256 ^ (M + 3 - i) % 256

/-- The reader of V stands where the packer stood. -/
structure Rel (V : Int) (M : Nat) (t : WS) (r : RS) : Prop where
  err : r.err = 0
  pos : r.pos = t.m + 4
  rng : r.rng = t.rng
  ch : r.ch = t.ch
  le : t.m ≤ M
  code : r.code = V / 256 ^ (M - t.m) - t.n

theorem rel_norm {S : ByteArray} {V : Int} {M : Nat} (hS : BytesOf S V M) {t : WS} {r : RS} (h : Rel V M t r) (hm : (norm t).m ≤ M) : Rel V M (norm t) (Rdr.norm S r) := by
  obtain ⟨h1, h2, h3, h4, h5, h6⟩ := h
  unfold norm Rdr.norm at *
  by_cases hl : t.rng < 16777216
  · rw [if_pos hl] at hm ⊢
    rw [if_pos (by rw [h3]; exact hl)]
    have hm' : t.m + 1 ≤ M := hm
    have hp : r.pos < S.size := by rw [h2, hS.size]; omega
    have ho : Rdr.octS S r = { r with pos := r.pos + 1 } := by unfold Rdr.octS; rw [if_pos hp]
    have hb : Rdr.octB S r = V / 256 ^ (M - (t.m + 1)) % 256 := by
      unfold Rdr.octB
      rw [if_pos hp, hS.at' _ (by omega), h2, show M + 3 - (t.m + 4) = M - (t.m + 1) by omega]
    unfold Rdr.pull
    rw [ho, hb]
    refine ⟨h1, by show r.pos + 1 = t.m + 1 + 4; omega, by show 256 * r.rng = 256 * t.rng; rw [h3], h4, hm', ?_⟩
    show 256 * r.code + V / 256 ^ (M - (t.m + 1)) % 256 = V / 256 ^ (M - (t.m + 1)) - 256 * t.n
    rw [h6, show M - t.m = (M - (t.m + 1)) + 1 by omega, Int.pow_succ, ← Int.ediv_ediv_of_nonneg (Int.pow_nonneg (by decide))]
    omega
  · rw [if_neg hl] at hm ⊢
    rw [if_neg (by rw [h3]; exact hl)]
    exact ⟨h1, h2, h3, h4, h5, h6⟩

theorem rel_step {S : ByteArray} {V : Int} {M : Nat} (hS : BytesOf S V M) {t u : WS} {r : RS} (h : Rel V M t r) {k : Nat} {v : Int} (hv : v = 0 ∨ v = 1) (hin : In (put t k v) u) (hV : V = u.n) (hM : M = u.m) (hu : 0 < u.rng) :
    Rdr.bitV r k = v ∧ Rel V M (put t k v) (Rdr.bitS S r k) := by
  have hm : (put t k v).m ≤ M := by obtain ⟨d, h1, _⟩ := hin; omega
  obtain ⟨d, hd1, hd2, hd3⟩ := In.trans (In.norm (half t k v)) (by rw [← put_eq]; exact hin)
  rw [half_m] at hd1
  have hp : (0 : Int) < 256 ^ d := Int.pow_pos (by decide)
  have hdd : M - t.m = d := by omega
  have hcut : Rdr.cut r k = cut t k := by unfold Rdr.cut cut; rw [h.rng, h.ch]
  have hcode := h.code
  rw [hdd] at hcode
  rcases hv with rfl | rfl
  · have hlt : V / 256 ^ d < t.n + cut t k := by
      refine Int.ediv_lt_of_lt_mul hp ?_
      have : u.n + u.rng ≤ (t.n + cut t k) * 256 ^ d := hd3
      omega
    have hc : r.code < Rdr.cut r k := by rw [hcut, hcode]; omega
    have e1 : Rdr.bitV r k = 0 := by unfold Rdr.bitV; rw [if_pos h.err, if_pos hc]
    have e2 : Rdr.bitS S r k = Rdr.norm S (Rdr.zero r k) := by unfold Rdr.bitS; rw [if_pos h.err, if_pos hc]
    refine ⟨e1, ?_⟩
    rw [e2]
    refine rel_norm hS (t := zero t k) ⟨h.err, h.pos, hcut, ?_, h.le, h.code⟩ hm
    show r.ch.set k _ = t.ch.set k _
    rw [h.ch]
  · have hge : t.n + cut t k ≤ V / 256 ^ d := by
      refine Int.le_ediv_of_mul_le hp ?_
      have : (t.n + cut t k) * 256 ^ d ≤ u.n := hd2
      omega
    have hc : ¬ r.code < Rdr.cut r k := by rw [hcut, hcode]; omega
    have e1 : Rdr.bitV r k = 1 := by unfold Rdr.bitV; rw [if_pos h.err, if_neg hc]
    have e2 : Rdr.bitS S r k = Rdr.norm S (Rdr.one r k) := by unfold Rdr.bitS; rw [if_pos h.err, if_neg hc]
    refine ⟨e1, ?_⟩
    rw [e2]
    refine rel_norm hS (t := one t k) ⟨h.err, h.pos, ?_, ?_, h.le, ?_⟩ hm
    · show r.rng - Rdr.cut r k = t.rng - cut t k; rw [hcut, h.rng]
    · show r.ch.set k _ = t.ch.set k _
      rw [h.ch]
    · show r.code - Rdr.cut r k = V / 256 ^ (M - t.m) - (t.n + cut t k)
      rw [hcut, h.code]; omega

theorem rel_bits {S : ByteArray} {V : Int} {M : Nat} (hS : BytesOf S V M) : ∀ (l : List (Nat × Int)) (t : WS) (r : RS), Rel V M t r → Ok t → (∀ p ∈ l, p.1 < 400 ∧ (p.2 = 0 ∨ p.2 = 1)) → V = (puts t l).n → M = (puts t l).m →
    (Rdr.bits S r (l.map (·.1))).1 = l.map (·.2) ∧ Rel V M (puts t l) (Rdr.bits S r (l.map (·.1))).2
  | [], t, r, h, _, _, _, _ => ⟨rfl, h⟩
  | (k, v) :: l, t, r, h, ok, hl, hV, hM => by
    obtain ⟨hk, hv⟩ := hl (k, v) (by simp)
    have ok' := ok.put hk v
    have hl' : ∀ p ∈ l, p.1 < 400 ∧ (p.2 = 0 ∨ p.2 = 1) := fun p hp => hl p (by simp [hp])
    have okf := puts_ok l _ ok' (fun p hp => (hl' p hp).1)
    have hin := puts_in l _ ok' (fun p hp => (hl' p hp).1)
    have hr0 := okf.r0
    obtain ⟨s1, s2⟩ := rel_step hS h hv hin hV hM (by omega)
    obtain ⟨b1, b2⟩ := rel_bits hS l _ _ s2 ok' hl' hV hM
    refine ⟨?_, b2⟩
    show Rdr.bitV r k :: (Rdr.bits S (Rdr.bitS S r k) (l.map (·.1))).1 = v :: l.map (·.2)
    rw [s1, b1]

theorem four_code {S : ByteArray} {V : Int} {M : Nat} (hS : BytesOf S V M) (h0 : 0 ≤ V) (h1 : V < 256 ^ (M + 4)) (ch : List Int) : ∀ n, n ≤ 4 → (Rdr.four S (Rdr.r0 ch) n).code = V / 256 ^ (M + 4 - n) ∧ (Rdr.four S (Rdr.r0 ch) n).pos = n ∧ (Rdr.four S (Rdr.r0 ch) n).err = 0
  | 0, _ => ⟨by show (0 : Int) = V / 256 ^ (M + 4); rw [Int.ediv_eq_zero_of_lt h0 h1], rfl, rfl⟩
  | n + 1, hn => by
    obtain ⟨c1, c2, c3⟩ := four_code hS h0 h1 ch n (by omega)
    have hp : (Rdr.four S (Rdr.r0 ch) n).pos < S.size := by rw [c2, hS.size]; omega
    have hb : Rdr.octB S (Rdr.four S (Rdr.r0 ch) n) = V / 256 ^ (M + 4 - (n + 1)) % 256 := by
      unfold Rdr.octB
      rw [if_pos hp, hS.at' _ (by rw [c2]; omega), c2, show M + 3 - n = M + 4 - (n + 1) by omega]
    rw [Rdr.four_succ, show Rdr.octS S (Rdr.four S (Rdr.r0 ch) n) = { Rdr.four S (Rdr.r0 ch) n with pos := (Rdr.four S (Rdr.r0 ch) n).pos + 1 } by unfold Rdr.octS; rw [if_pos hp]]
    refine ⟨?_, by show (Rdr.four S (Rdr.r0 ch) n).pos + 1 = n + 1; rw [c2], c3⟩
    show 256 * (Rdr.four S (Rdr.r0 ch) n).code + Rdr.octB S (Rdr.four S (Rdr.r0 ch) n) = V / 256 ^ (M + 4 - (n + 1))
    rw [hb, c1, show M + 4 - n = (M + 4 - (n + 1)) + 1 by omega, Int.pow_succ, ← Int.ediv_ediv_of_nonneg (Int.pow_nonneg (by decide))]
    omega

/-- What was packed: the low end and how many bytes. -/
def fin (l : List (Nat × Int)) : WS := puts init l
def BitsOk (l : List (Nat × Int)) : Prop := ∀ p ∈ l, p.1 < 400 ∧ (p.2 = 0 ∨ p.2 = 1)

theorem fin_bd {l : List (Nat × Int)} (hl : BitsOk l) : 0 ≤ (fin l).n ∧ (fin l).n < 4294967295 * 256 ^ (fin l).m := by
  have ok := puts_ok l _ init_ok (fun p hp => (hl p hp).1)
  obtain ⟨d, h1, h2, h3⟩ := puts_in l _ init_ok (fun p hp => (hl p hp).1)
  have hm : (puts init l).m = d := by rw [h1]; exact Nat.zero_add d
  have h3' : (puts init l).n + (puts init l).rng ≤ (0 + 4294967295) * 256 ^ d := h3
  have := ok.r0
  refine ⟨ok.n0, ?_⟩
  show (puts init l).n < 4294967295 * 256 ^ (puts init l).m
  rw [hm]; omega

theorem start_rel {S : ByteArray} {l : List (Nat × Int)} (hl : BitsOk l) (hS : BytesOf S (fin l).n (fin l).m) : Rel (fin l).n (fin l).m init (Rdr.start S ch0) := by
  obtain ⟨b0, b1⟩ := fin_bd hl
  have hp : (0 : Int) < 256 ^ (fin l).m := Int.pow_pos (by decide)
  have h4 : (fin l).n < 256 ^ ((fin l).m + 4) := by
    rw [Int.pow_add]
    have : (4294967295 : Int) * 256 ^ (fin l).m ≤ 256 ^ (fin l).m * 256 ^ 4 := by
      rw [Int.mul_comm]
      exact Int.mul_le_mul_of_nonneg_left (by decide) (Int.le_of_lt hp)
    omega
  obtain ⟨c1, c2, c3⟩ := four_code hS b0 h4 ch0 4 (by omega)
  obtain ⟨f1, f2, f3, f4, f5, f6⟩ := Rdr.four_facts S ch0 4
  have hc : (Rdr.four S (Rdr.r0 ch0) 4).code < 4294967295 := by
    rw [c1, show (fin l).m + 4 - 4 = (fin l).m by omega]
    exact Int.ediv_lt_of_lt_mul hp b1
  rw [Rdr.start_eq, if_neg (fun h => by omega)]
  refine ⟨c3, c2, f3, f2, Nat.zero_le _, ?_⟩
  rw [c1, show (fin l).m + 4 - 4 = (fin l).m - init.m from rfl]
  show _ = _ - (0 : Int)
  omega

/-- What is packed is read back, and nothing is left. -/
theorem read_back {S : ByteArray} {l : List (Nat × Int)} (hl : BitsOk l) (hS : BytesOf S (fin l).n (fin l).m) :
    (Rdr.bits S (Rdr.start S ch0) (l.map (·.1))).1 = l.map (·.2) ∧ (Rdr.bits S (Rdr.start S ch0) (l.map (·.1))).2.err = 0 ∧ (Rdr.bits S (Rdr.start S ch0) (l.map (·.1))).2.pos = S.size := by
  obtain ⟨h1, h2⟩ := rel_bits hS l init _ (start_rel hl hS) init_ok hl rfl rfl
  refine ⟨h1, h2.err, ?_⟩
  rw [h2.pos, hS.size]; rfl

end Pack

namespace Rdr

/-- T has the bytes of S, and perhaps more. -/
structure Ext (S T : ByteArray) : Prop where
  size : S.size ≤ T.size
  at' : ∀ i, i < S.size → byteAt T i = byteAt S i

theorem Ext.oct {S T : ByteArray} (h : Ext S T) {r : RS} (he : (octS S r).err = 0) : octS T r = octS S r ∧ octB T r = octB S r := by
  obtain ⟨e1, e2⟩ := octS_err he
  have := h.size
  unfold octS octB
  rw [if_pos e2, if_pos e2, if_pos (by omega), if_pos (by omega)]
  exact ⟨rfl, h.at' _ e2⟩
theorem Ext.norm {S T : ByteArray} (h : Ext S T) {r : RS} (he : (norm S r).err = 0) : norm T r = norm S r := by
  unfold Rdr.norm at *
  split
  · rename_i hl
    rw [if_pos hl] at he
    have he' : (octS S r).err = 0 := he
    obtain ⟨o1, o2⟩ := h.oct he'
    unfold pull
    rw [o1, o2]
  · rfl
theorem Ext.bit {S T : ByteArray} (h : Ext S T) {r : RS} {k : Nat} (he : (bitS S r k).err = 0) : bitS T r k = bitS S r k := by
  unfold bitS at *
  split
  · rename_i h0
    rw [if_pos h0] at he
    split
    · rename_i h1
      rw [if_pos h1] at he
      exact h.norm he
    · rename_i h1
      rw [if_neg h1] at he
      exact h.norm he
  · rfl
theorem norm_err {S : ByteArray} {r : RS} (he : (norm S r).err = 0) : r.err = 0 := by
  unfold norm at he
  split at he
  · have he' : (octS S r).err = 0 := he
    exact (octS_err he').1
  · exact he
theorem bit_err0 {S : ByteArray} {r : RS} {k : Nat} (he : (bitS S r k).err = 0) : r.err = 0 := by
  unfold bitS at he
  split at he
  · assumption
  · exact he
theorem bits_err0 {S : ByteArray} : ∀ (ks : List Nat) (r : RS), (bits S r ks).2.err = 0 → r.err = 0
  | [], _, h => h
  | k :: ks, r, h => bit_err0 (k := k) (bits_err0 ks (bitS S r k) h)
theorem Ext.bits {S T : ByteArray} (h : Ext S T) : ∀ (ks : List Nat) (r : RS), (bits S r ks).2.err = 0 → bits T r ks = bits S r ks
  | [], _, _ => rfl
  | k :: ks, r, he => by
    have he' : (Rdr.bits S (bitS S r k) ks).2.err = 0 := he
    have hb := h.bit (bits_err0 ks _ he')
    show (bitV r k :: (Rdr.bits T (bitS T r k) ks).1, (Rdr.bits T (bitS T r k) ks).2) = (bitV r k :: (Rdr.bits S (bitS S r k) ks).1, (Rdr.bits S (bitS S r k) ks).2)
    rw [hb, h.bits ks _ he']
theorem four_err0 {S : ByteArray} {r : RS} {n : Nat} (h : (four S r (n + 1)).err = 0) : (octS S (four S r n)).err = 0 := by rw [four_succ] at h; exact h
theorem Ext.four {S T : ByteArray} (h : Ext S T) (r : RS) : ∀ n, (four S r n).err = 0 → four T r n = four S r n
  | 0, _ => rfl
  | n + 1, he => by
    have h1 := four_err0 he
    have ih := h.four r n (octS_err h1).1
    rw [four_succ, four_succ, ih]
    obtain ⟨o1, o2⟩ := h.oct h1
    rw [o1, o2]
theorem Ext.start {S T : ByteArray} (h : Ext S T) (ch : List Int) (he : (Rdr.four S (r0 ch) 4).err = 0) : Rdr.start T ch = Rdr.start S ch := by
  rw [start_eq, start_eq, h.four _ 4 he]
theorem start_four {S : ByteArray} {ch : List Int} (he : (start S ch).err = 0) : (four S (r0 ch) 4).err = 0 := by
  rw [start_eq] at he
  split at he
  · rename_i h; exact h.1
  · exact he

end Rdr
end Go.Proofs.YtekfbphnoibnjaaGreatDoor
