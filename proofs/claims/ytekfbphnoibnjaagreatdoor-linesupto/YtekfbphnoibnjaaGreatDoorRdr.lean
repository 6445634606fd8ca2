/-
  The reader of a line of bits, as plain arithmetic: no program in sight.
-/
namespace Go.Proofs.YtekfbphnoibnjaaGreatDoor

/-- A reader: how many bytes it has taken, its range, its code, its chances, its error. -/
structure RS where
  pos : Nat
  rng : Int
  code : Int
  ch : List Int
  err : Int

namespace Rdr

def byteAt (s : ByteArray) (i : Nat) : Int := ((s.data.toList.getD i 0).toNat : Int)
theorem byteAt_bd (s : ByteArray) (i : Nat) : 0 ≤ byteAt s i ∧ byteAt s i ≤ 255 := by
  unfold byteAt; have := (s.data.toList.getD i 0).toNat_lt; omega

def octB (s : ByteArray) (r : RS) : Int := if r.pos < s.size then byteAt s r.pos else 0
def octS (s : ByteArray) (r : RS) : RS := if r.pos < s.size then { r with pos := r.pos + 1 } else { r with err := if r.err = 0 then 5 else r.err }
/-- One byte is pulled in. -/
def pull (s : ByteArray) (r : RS) : RS := { octS s r with rng := 256 * r.rng, code := 256 * r.code + octB s r }
def norm (s : ByteArray) (r : RS) : RS := if r.rng < 16777216 then pull s r else r

def cut (r : RS) (k : Nat) : Int := r.rng / 4096 * r.ch.getD k 0
/-- The bit that is read. -/
def bitV (r : RS) (k : Nat) : Int := if r.err = 0 then (if r.code < cut r k then 0 else 1) else 0
def zero (r : RS) (k : Nat) : RS := { r with rng := cut r k, ch := r.ch.set k (r.ch.getD k 0 + (4096 - r.ch.getD k 0) / 32) }
def one (r : RS) (k : Nat) : RS := { r with rng := r.rng - cut r k, code := r.code - cut r k, ch := r.ch.set k (r.ch.getD k 0 - r.ch.getD k 0 / 32) }
def bitS (s : ByteArray) (r : RS) (k : Nat) : RS := if r.err = 0 then (if r.code < cut r k then norm s (zero r k) else norm s (one r k)) else r

def fail (r : RS) (e : Int) : RS := { r with err := if r.err = 0 then e else r.err }
/-- At a line's begin: four bytes, the highest first. -/
def four (s : ByteArray) (r : RS) : Nat → RS
  | 0 => r
  | n + 1 => let q := four s r n; { octS s q with code := 256 * q.code + octB s q }
def start (s : ByteArray) (ch : List Int) : RS :=
  let r := four s ⟨0, 4294967295, 0, ch, 0⟩ 4
  if r.err = 0 ∧ 4294967295 ≤ r.code then fail r 7 else r
def finish (s : ByteArray) (r : RS) : RS := if r.err = 0 ∧ r.pos < s.size then { r with err := 6 } else r

/-- All bits of these contexts. -/
def bits (s : ByteArray) : RS → List Nat → List Int × RS
  | r, [] => ([], r)
  | r, k :: ks => let q := bits s (bitS s r k) ks; (bitV r k :: q.1, q.2)

/-- The chances stay within bounds. -/
def ChOk (ch : List Int) : Prop := ch.length = 400 ∧ ∀ k, k < 400 → 31 ≤ ch.getD k 0 ∧ ch.getD k 0 ≤ 4065
/-- What holds of a reader throughout. -/
structure Ok (s : ByteArray) (r : RS) : Prop where
  ch : ChOk r.ch
  pos : r.pos ≤ s.size
  rng : r.err = 0 → 16777216 ≤ r.rng ∧ r.rng ≤ 4294967295
  code : r.err = 0 → 0 ≤ r.code ∧ r.code < r.rng
  err : 0 ≤ r.err

theorem getD_set {l : List Int} {i j : Nat} {v : Int} : (l.set i v).getD j 0 = if i = j ∧ j < l.length then v else l.getD j 0 := by
  simp only [List.getD_eq_getElem?_getD, List.getElem?_set]
  by_cases h : i = j
  · subst h
    by_cases h2 : i < l.length
    · simp [h2]
    · simp [h2]
  · simp [h]
theorem ChOk.set {ch : List Int} (h : ChOk ch) {k : Nat} {v : Int} (h1 : 31 ≤ v) (h2 : v ≤ 4065) : ChOk (ch.set k v) := by
  refine ⟨by simpa using h.1, fun j hj => ?_⟩
  rw [getD_set]
  split
  · exact ⟨h1, h2⟩
  · exact h.2 j hj

theorem mul_bd (a c : Int) (a0 : 4096 ≤ a) (a1 : a ≤ 1048575) (c0 : 31 ≤ c) (c1 : c ≤ 4065) : 126976 ≤ a * c ∧ a * c + 126976 ≤ a * 4096 := by
  constructor
  · have h1 : a * 31 ≤ a * c := Int.mul_le_mul_of_nonneg_left c0 (by omega)
    omega
  · have h1 : a * c ≤ a * 4065 := Int.mul_le_mul_of_nonneg_left c1 (by omega)
    omega

theorem cut_bd {r : RS} {k : Nat} (hk : k < 400) (hc : ChOk r.ch) (h0 : 16777216 ≤ r.rng) (h1 : r.rng ≤ 4294967295) :
    126976 ≤ cut r k ∧ cut r k + 126976 ≤ r.rng := by
  have hb := hc.2 k hk
  have hm := mul_bd (r.rng / 4096) (r.ch.getD k 0) (by omega) (by omega) hb.1 hb.2
  unfold cut
  omega

theorem octS_err {s : ByteArray} {r : RS} (h0 : (octS s r).err = 0) : r.err = 0 ∧ r.pos < s.size := by
  unfold octS at h0
  split at h0
  · exact ⟨h0, by assumption⟩
  · dsimp only at h0; split at h0 <;> omega

theorem Ok.pull {s : ByteArray} {r : RS} (ch : ChOk r.ch) (pos : r.pos ≤ s.size) (err : r.err = 0) (r0 : 126976 ≤ r.rng) (r1 : r.rng < 16777216) (c0 : 0 ≤ r.code) (c1 : r.code < r.rng) : Ok s (pull s r) := by
  have hb := byteAt_bd s r.pos
  refine ⟨?_, ?_, ?_, ?_, ?_⟩
  · unfold Rdr.pull octS; split <;> exact ch
  · unfold Rdr.pull octS; split <;> (dsimp only; omega)
  · intro _; unfold Rdr.pull; dsimp only; omega
  · intro _; unfold Rdr.pull octB; dsimp only; split <;> omega
  · unfold Rdr.pull octS; split
    · dsimp only; omega
    · simp

theorem Ok.norm {s : ByteArray} {r : RS} (ch : ChOk r.ch) (pos : r.pos ≤ s.size) (err : r.err = 0) (r0 : 126976 ≤ r.rng) (r1 : r.rng ≤ 4294967295) (c0 : 0 ≤ r.code) (c1 : r.code < r.rng) : Ok s (norm s r) := by
  unfold Rdr.norm
  split
  · exact Ok.pull ch pos err r0 (by assumption) c0 c1
  · exact ⟨ch, pos, fun _ => by omega, fun _ => ⟨c0, c1⟩, by omega⟩

theorem up_bd (c : Int) (h0 : 31 ≤ c) (h1 : c ≤ 4065) : 31 ≤ c + (4096 - c) / 32 ∧ c + (4096 - c) / 32 ≤ 4065 := by omega
theorem dn_bd (c : Int) (h0 : 31 ≤ c) (h1 : c ≤ 4065) : 31 ≤ c - c / 32 ∧ c - c / 32 ≤ 4065 := by omega

theorem Ok.bitS {s : ByteArray} {r : RS} (h : Ok s r) {k : Nat} (hk : k < 400) : Ok s (bitS s r k) := by
  unfold Rdr.bitS
  by_cases he : r.err = 0
  · rw [if_pos he]
    obtain ⟨g0, g1⟩ := h.rng he
    obtain ⟨c0, c1⟩ := h.code he
    have hc := cut_bd hk h.ch g0 g1
    have hb := h.ch.2 k hk
    split
    · rename_i hlt
      exact Ok.norm (h.ch.set (up_bd _ hb.1 hb.2).1 (up_bd _ hb.1 hb.2).2) h.pos he (by unfold zero; dsimp only; omega) (by unfold zero; dsimp only; omega) c0 hlt
    · rename_i hge
      exact Ok.norm (h.ch.set (dn_bd _ hb.1 hb.2).1 (dn_bd _ hb.1 hb.2).2) h.pos he (by unfold one; dsimp only; omega) (by unfold one; dsimp only; omega) (by unfold one; dsimp only; omega) (by unfold one; dsimp only; omega)
  · rw [if_neg he]; exact h

def r0 (ch : List Int) : RS := ⟨0, 4294967295, 0, ch, 0⟩
theorem four_succ (s : ByteArray) (r : RS) (n : Nat) : four s r (n + 1) = { octS s (four s r n) with code := 256 * (four s r n).code + octB s (four s r n) } := rfl
theorem octB_le (s : ByteArray) (r : RS) : 0 ≤ octB s r ∧ octB s r ≤ 255 := by
  unfold octB
  split
  · exact byteAt_bd s _
  · omega
theorem octS_pos {s : ByteArray} {r : RS} (h : r.pos ≤ s.size) : (octS s r).pos ≤ s.size := by
  unfold octS
  split
  · dsimp only; omega
  · exact h
theorem octS_ch (s : ByteArray) (r : RS) : (octS s r).ch = r.ch := by unfold octS; split <;> rfl
theorem octS_rng' (s : ByteArray) (r : RS) : (octS s r).rng = r.rng := by unfold octS; split <;> rfl
theorem octS_err0 {s : ByteArray} {r : RS} (h : 0 ≤ r.err) : 0 ≤ (octS s r).err := by
  unfold octS
  split
  · exact h
  · dsimp only; split <;> omega
theorem four_facts (s : ByteArray) (ch : List Int) : ∀ n, (four s (r0 ch) n).pos ≤ s.size ∧ (four s (r0 ch) n).ch = ch ∧ (four s (r0 ch) n).rng = 4294967295 ∧ 0 ≤ (four s (r0 ch) n).err ∧ 0 ≤ (four s (r0 ch) n).code ∧ (four s (r0 ch) n).code < 256 ^ n
  | 0 => by
    refine ⟨Nat.zero_le _, rfl, rfl, ?_, ?_, ?_⟩
    · show (0 : Int) ≤ 0; decide
    · show (0 : Int) ≤ 0; decide
    · show (0 : Int) < 256 ^ 0; decide
  | n + 1 => by
    obtain ⟨h1, h2, h3, h4, h5, h6⟩ := four_facts s ch n
    have hb := octB_le s (four s (r0 ch) n)
    rw [four_succ]
    refine ⟨octS_pos h1, (octS_ch _ _).trans h2, (octS_rng' _ _).trans h3, octS_err0 h4, ?_, ?_⟩
    · dsimp only; omega
    · dsimp only
      rw [Int.pow_succ]
      omega
theorem start_eq (s : ByteArray) (ch : List Int) : start s ch = if (four s (r0 ch) 4).err = 0 ∧ 4294967295 ≤ (four s (r0 ch) 4).code then fail (four s (r0 ch) 4) 7 else four s (r0 ch) 4 := rfl
theorem start_ok (s : ByteArray) (ch : List Int) (hc : ChOk ch) : Ok s (start s ch) := by
  obtain ⟨h1, h2, h3, h4, h5, h6⟩ := four_facts s ch 4
  rw [start_eq]
  by_cases h : (four s (r0 ch) 4).err = 0 ∧ 4294967295 ≤ (four s (r0 ch) 4).code
  · rw [if_pos h]
    unfold fail
    rw [if_pos h.1]
    exact ⟨by rw [h2]; exact hc, h1, fun e => absurd (show (7 : Int) = 0 from e) (by decide), fun e => absurd (show (7 : Int) = 0 from e) (by decide), by show (0 : Int) ≤ 7; decide⟩
  · rw [if_neg h]
    refine ⟨by rw [h2]; exact hc, h1, fun _ => by rw [h3]; decide, fun e => ⟨h5, ?_⟩, h4⟩
    rw [h3]
    rcases Int.lt_or_le (four s (r0 ch) 4).code 4294967295 with h' | h'
    · exact h'
    · exact absurd ⟨e, h'⟩ h

theorem bits_snoc (s : ByteArray) (k : Nat) : ∀ (ks : List Nat) (r : RS), bits s r (ks ++ [k]) = ((bits s r ks).1 ++ [bitV (bits s r ks).2 k], bitS s (bits s r ks).2 k)
  | [], r => rfl
  | j :: ks, r => by
    show (let q := bits s (bitS s r j) (ks ++ [k]); (bitV r j :: q.1, q.2)) = _
    rw [bits_snoc s k ks (bitS s r j)]
    rfl
theorem bits_len (s : ByteArray) : ∀ (ks : List Nat) (r : RS), (bits s r ks).1.length = ks.length
  | [], _ => rfl
  | j :: ks, r => by show ((bits s (bitS s r j) ks).1).length + 1 = ks.length + 1; rw [bits_len s ks]
theorem bits_ok {s : ByteArray} : ∀ (ks : List Nat) (r : RS), Ok s r → (∀ k ∈ ks, k < 400) → Ok s (bits s r ks).2
  | [], _, h, _ => h
  | j :: ks, _, h, hk => bits_ok ks _ (h.bitS (hk j (by simp))) (fun k hm => hk k (by simp [hm]))

/-- All contexts are ones. -/
def CtxOk (zs : List Int) : Prop := ∀ i, i < zs.length → 0 ≤ zs.getD i 0 ∧ zs.getD i 0 < 400
def ctxs (zs : List Int) : List Nat := zs.map Int.toNat
theorem ctxs_snoc (zs : List Int) (k : Nat) (h : k < zs.length) : ctxs (zs.take (k + 1)) = ctxs (zs.take k) ++ [(zs.getD k 0).toNat] := by
  unfold ctxs
  rw [List.take_succ_eq_append_getElem h, List.map_append]
  simp [List.getD_eq_getElem?_getD, h]
theorem ctxs_lt {zs : List Int} (h : CtxOk zs) (k : Nat) : ∀ c ∈ ctxs (zs.take k), c < 400 := by
  intro c hc
  obtain ⟨z, hz, rfl⟩ := List.mem_map.1 hc
  obtain ⟨i, hi, rfl⟩ := List.getElem_of_mem (List.mem_of_mem_take hz)
  have := h i hi
  rw [List.getD_eq_getElem?_getD, List.getElem?_eq_getElem hi] at this
  simp at this
  omega

/-- Stretch: what it reads, its error, its answer. -/
def all (s : ByteArray) (ch : List Int) (zs : List Int) (k : Nat) : List Int × RS := bits s (start s ch) (ctxs (zs.take k))
theorem all_succ (s : ByteArray) (ch zs : List Int) (k : Nat) (h : k < zs.length) : all s ch zs (k + 1) = ((all s ch zs k).1 ++ [bitV (all s ch zs k).2 (zs.getD k 0).toNat], bitS s (all s ch zs k).2 (zs.getD k 0).toNat) := by
  unfold all
  rw [ctxs_snoc zs k h, bits_snoc]
theorem all_len (s : ByteArray) (ch zs : List Int) (k : Nat) (h : k ≤ zs.length) : (all s ch zs k).1.length = k := by
  unfold all ctxs
  rw [bits_len]; simp; omega
theorem all_ok {s : ByteArray} {ch zs : List Int} (hc : ChOk ch) (hz : CtxOk zs) (k : Nat) : Ok s (all s ch zs k).2 := bits_ok _ _ (start_ok s ch hc) (ctxs_lt hz k)
def stE (s : ByteArray) (ch zs : List Int) : Int := (finish s (all s ch zs zs.length).2).err

end Rdr
end Go.Proofs.YtekfbphnoibnjaaGreatDoor
