/-
  A packer's low end and range against the reader's code and range, as plain arithmetic: what is packed is read back.
-/
import Derived.Test.YtekfbphnoibnjaaGreatDoorLists
namespace Go.Proofs.YtekfbphnoibnjaaGreatDoor

/-- A packer: its low end (all bytes and the low word as one number), how many bytes it has laid down, its range, its chances. -/
structure WS where
  n : Int
  m : Nat
  rng : Int
  ch : List Int

namespace Pack

def cut (t : WS) (k : Nat) : Int := t.rng / 4096 * t.ch.getD k 0
def pull (t : WS) : WS := { t with n := 256 * t.n, m := t.m + 1, rng := 256 * t.rng }
def norm (t : WS) : WS := if t.rng < 16777216 then pull t else t
def zero (t : WS) (k : Nat) : WS := { t with rng := cut t k, ch := t.ch.set k (t.ch.getD k 0 + (4096 - t.ch.getD k 0) / 32) }
def one (t : WS) (k : Nat) : WS := { t with n := t.n + cut t k, rng := t.rng - cut t k, ch := t.ch.set k (t.ch.getD k 0 - t.ch.getD k 0 / 32) }
def put (t : WS) (k : Nat) (v : Int) : WS := norm (if v = 0 then zero t k else one t k)
def puts : WS → List (Nat × Int) → WS
  | t, [] => t
  | t, (k, v) :: l => puts (put t k v) l
def init : WS := ⟨0, 0, 4294967295, ch0⟩

structure Ok (t : WS) : Prop where
  ch : Rdr.ChOk t.ch
  r0 : 16777216 ≤ t.rng
  r1 : t.rng ≤ 4294967295
  n0 : 0 ≤ t.n

theorem cut_bd {t : WS} (h : Ok t) {k : Nat} (hk : k < 400) : 126976 ≤ cut t k ∧ cut t k + 126976 ≤ t.rng := by
  have hb := h.ch.2 k hk
  have := h.r0
  have := h.r1
  have hm := Rdr.mul_bd (t.rng / 4096) (t.ch.getD k 0) (by omega) (by omega) hb.1 hb.2
  unfold cut
  omega
theorem norm_ok {t : WS} (ch : Rdr.ChOk t.ch) (r0 : 126976 ≤ t.rng) (r1 : t.rng ≤ 4294967295) (n0 : 0 ≤ t.n) : Ok (norm t) := by
  unfold norm
  split
  · exact ⟨ch, by show 16777216 ≤ 256 * t.rng; omega, by show 256 * t.rng ≤ 4294967295; omega, by show 0 ≤ 256 * t.n; omega⟩
  · exact ⟨ch, by omega, r1, n0⟩
theorem Ok.put {t : WS} (h : Ok t) {k : Nat} (hk : k < 400) (v : Int) : Ok (put t k v) := by
  have hc := cut_bd h hk
  have hb := h.ch.2 k hk
  have h1 := h.r1
  have h0 := h.n0
  unfold Pack.put
  by_cases hv : v = 0
  · rw [if_pos hv]
    exact norm_ok (h.ch.set (Rdr.up_bd _ hb.1 hb.2).1 (Rdr.up_bd _ hb.1 hb.2).2) hc.1 (by show cut t k ≤ 4294967295; omega) h0
  · rw [if_neg hv]
    exact norm_ok (h.ch.set (Rdr.dn_bd _ hb.1 hb.2).1 (Rdr.dn_bd _ hb.1 hb.2).2) (by show 126976 ≤ t.rng - cut t k; omega) (by show t.rng - cut t k ≤ 4294967295; omega) (by show 0 ≤ t.n + cut t k; omega)
theorem init_ok : Ok init := ⟨⟨by unfold init ch0; exact List.length_replicate, fun k hk => by show 31 ≤ ch0.getD k 0 ∧ _; rw [show (init).ch = ch0 from rfl, ch0_get k hk]; decide⟩, by decide, by decide, by decide⟩

/-- The intervals lie one in the other. -/
def In (t u : WS) : Prop := ∃ d : Nat, u.m = t.m + d ∧ t.n * 256 ^ d ≤ u.n ∧ u.n + u.rng ≤ (t.n + t.rng) * 256 ^ d
theorem In.refl (t : WS) : In t t := ⟨0, rfl, by simp, by simp⟩
theorem In.trans {t u v : WS} (h : In t u) (k : In u v) : In t v := by
  obtain ⟨d, h1, h2, h3⟩ := h
  obtain ⟨e, k1, k2, k3⟩ := k
  have hp : (0 : Int) ≤ 256 ^ e := Int.pow_nonneg (by decide)
  refine ⟨d + e, by omega, ?_, ?_⟩
  · rw [Int.pow_add, ← Int.mul_assoc]
    exact Int.le_trans (Int.mul_le_mul_of_nonneg_right h2 hp) k2
  · rw [Int.pow_add, ← Int.mul_assoc]
    exact Int.le_trans k3 (Int.mul_le_mul_of_nonneg_right h3 hp)
theorem In.norm (t : WS) : In t (norm t) := by
  unfold Pack.norm
  split
  · exact ⟨1, rfl, by show t.n * 256 ^ 1 ≤ 256 * t.n; omega, by show 256 * t.n + 256 * t.rng ≤ (t.n + t.rng) * 256 ^ 1; omega⟩
  · exact In.refl t
/-- The half of the interval that a bit takes. -/
def half (t : WS) (k : Nat) (v : Int) : WS := if v = 0 then zero t k else one t k
theorem put_eq (t : WS) (k : Nat) (v : Int) : put t k v = norm (half t k v) := rfl
theorem In.half {t : WS} (h : Ok t) {k : Nat} (hk : k < 400) (v : Int) : In t (half t k v) := by
  have hc := cut_bd h hk
  unfold Pack.half
  by_cases hv : v = 0
  · rw [if_pos hv]
    exact ⟨0, rfl, by show t.n * 256 ^ 0 ≤ t.n; omega, by show t.n + cut t k ≤ (t.n + t.rng) * 256 ^ 0; omega⟩
  · rw [if_neg hv]
    exact ⟨0, rfl, by show t.n * 256 ^ 0 ≤ t.n + cut t k; omega, by show t.n + cut t k + (t.rng - cut t k) ≤ (t.n + t.rng) * 256 ^ 0; omega⟩
theorem puts_ok : ∀ (l : List (Nat × Int)) (t : WS), Ok t → (∀ p ∈ l, p.1 < 400) → Ok (puts t l)
  | [], _, h, _ => h
  | (k, v) :: l, _, h, hl => puts_ok l _ (h.put (hl (k, v) (by simp)) v) (fun p hp => hl p (by simp [hp]))
theorem puts_in : ∀ (l : List (Nat × Int)) (t : WS), Ok t → (∀ p ∈ l, p.1 < 400) → In t (puts t l)
  | [], t, _, _ => In.refl t
  | (k, v) :: l, t, h, hl => by
    have hk := hl (k, v) (by simp)
    have h1 := In.trans (In.half h hk v) (In.norm (half t k v))
    exact In.trans h1 (puts_in l _ (h.put hk v) (fun p hp => hl p (by simp [hp])))
theorem norm_m (t : WS) : (norm t).m ≤ t.m + 1 := by unfold norm; split <;> (first | exact Nat.le_refl _ | exact Nat.le_succ _)
theorem half_m (t : WS) (k : Nat) (v : Int) : (half t k v).m = t.m := by unfold half; split <;> rfl
theorem puts_m : ∀ (l : List (Nat × Int)) (t : WS), (puts t l).m ≤ t.m + l.length
  | [], t => Nat.le_refl _
  | (k, v) :: l, t => by
    have h := puts_m l (put t k v)
    have h1 := norm_m (half t k v)
    rw [half_m] at h1
    show (puts (put t k v) l).m ≤ t.m + (l.length + 1)
    have h2 : (put t k v).m ≤ t.m + 1 := h1
    omega
theorem puts_snoc (k : Nat) (v : Int) : ∀ (l : List (Nat × Int)) (t : WS), puts t (l ++ [(k, v)]) = put (puts t l) k v
  | [], _ => rfl
  | (_, _) :: l, _ => puts_snoc k v l _

/-- The digits of a number, m of them, the highest first. -/
def digs : Nat → Int → List Int
  | 0, _ => []
  | m + 1, x => digs m (x / 256) ++ [x % 256]
theorem digs_length : ∀ (m : Nat) (x : Int), (digs m x).length = m
  | 0, _ => rfl
  | m + 1, x => by rw [digs, List.length_append, digs_length m]; rfl
theorem digs_get : ∀ (m : Nat) (x : Int) (i : Nat), i < m → (digs m x).getD i 0 = x / 256 ^ (m - 1 - i) % 256
  | 0, _, i, h => absurd h (by omega)
  | m + 1, x, i, h => by
    rw [digs, List.getD_eq_getElem?_getD]
    rcases Nat.lt_or_ge i m with hi | hi
    · rw [List.getElem?_append_left (by rw [digs_length]; exact hi), ← List.getD_eq_getElem?_getD, digs_get m (x / 256) i hi]
      rw [show m + 1 - 1 - i = (m - 1 - i) + 1 by omega, Int.pow_succ, Int.mul_comm, Int.ediv_ediv_of_nonneg (by decide)]
    · obtain rfl : i = m := by omega
      rw [List.getElem?_append_right (by rw [digs_length]; exact Nat.le_refl _), digs_length, Nat.sub_self]
      simp
theorem digs_bd : ∀ (m : Nat) (x : Int), ∀ z ∈ digs m x, 0 ≤ z ∧ z ≤ 255
  | 0, _, z, h => by simp [digs] at h
  | m + 1, x, z, h => by
    rw [digs, List.mem_append] at h
    rcases h with h | h
    · exact digs_bd m _ z h
    · simp at h; subst h; omega

end Pack
end Go.Proofs.YtekfbphnoibnjaaGreatDoor
