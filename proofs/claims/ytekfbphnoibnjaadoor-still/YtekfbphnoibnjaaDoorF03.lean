/-
  What was put down bit by bit is read back: bits, numbers, signed numbers; plain arithmetic. The pixels of a block, one after the other; no program in sight. In which order the pixels of a frame are read; plain arithmetic.
-/
import Derived.Test.YtekfbphnoibnjaaDoorF02
namespace Go.Proofs.YtekfbphnoibnjaaDoor
namespace Pk
abbrev Bts := List (Nat × Int)
structure Rd (S : ByteArray) (l : Bts) (r : RS) : Prop where
 ex : ∃ t u : WS, Pack.Rel u.n u.m t r /\ Pack.Ok t /\ Pack.puts t l = u /\ Pack.BytesOf S u.n u.m
 ok : Pack.BitsOk l
 rok : Rdr.Ok S r
theorem Rd.err {S : ByteArray} {l : Bts} {r : RS} (h : Rd S l r) : r.err = 0 := by
 obtain ⟨t, u, h1, _⟩ := h.ex
 exact h1.err
theorem Rd.bit {S : ByteArray} {k : Nat} {v : Int} {l : Bts} {r : RS} (h : Rd S ((k, v) :: l) r) : Rdr.bitV r k = v /\ Rd S l (Rdr.bitS S r k) := by
 obtain ⟨t, u, h1, h2, h3, h4⟩ := h.ex
 obtain ⟨hk, hv⟩ := h.ok (k, v) (by simp)
 have hl : Pack.BitsOk l := fun p hp => h.ok p (by simp [hp])
 have ok' := h2.put hk v
 have h3' : Pack.puts (Pack.put t k v) l = u := h3
 have okf := Pack.puts_ok l _ ok' (fun p hp => (hl p hp).1)
 have hin := Pack.puts_in l _ ok' (fun p hp => (hl p hp).1)
 rw [h3'] at okf hin
 have hr0 := okf.r0
 obtain ⟨s1, s2⟩ := Pack.rel_step h4 h1 hv hin rfl rfl (by omega)
 exact ⟨s1, ⟨⟨_, u, s2, ok', h3', h4⟩, hl, h.rok.bitS hk⟩⟩
def ones (k : Nat) : Nat -> Nat -> Bts
 | _, 0 => []
 | i, n + 1 => (k + i, 1) :: ones k (i + 1) n
def lowb (c m : Nat) : Nat -> Bts
 | 0 => []
 | n + 1 => (c, ((m / 2 ^ n % 2 : Nat) : Int)) :: lowb c m n
def dig (m : Nat) : Nat := Nat.log2 (m + 1)
def num (k m : Nat) : Bts := ones k 0 (dig m) ++ (k + dig m, 0) :: lowb (k + 12 + dig m) (m + 1) (dig m)
def fold (n : Int) : Nat := if n < 0 then (-2 * n - 1).toNat else (2 * n).toNat
def sgn (k : Nat) (n : Int) : Bts := num k (fold n)
theorem dig_le {m : Nat} (h : m <= 1022) : dig m <= 9 := by
 have h1 : 2 ^ dig m <= m + 1 := Nat.log2_self_le (by omega)
 rcases Nat.lt_or_ge 9 (dig m) with h2 | h2
 ·have h3 : 2 ^ 10 <= 2 ^ dig m := Nat.pow_le_pow_right (by decide) h2
  omega
 ·exact h2
theorem dig_lo (m : Nat) : 2 ^ dig m <= m + 1 := Nat.log2_self_le (by omega)
theorem dig_hi (m : Nat) : m + 1 < 2 ^ (dig m + 1) := Nat.lt_log2_self
theorem fold_le {n : Int} (h0 : -511 <= n) (h1 : n <= 511) : fold n <= 1022 := by unfold fold; split <;> omega
theorem ones_len (k : Nat) : ∀ n i, (ones k i n).length = n
 | 0, _ => rfl
 | n + 1, i => by show (ones k (i + 1) n).length + 1 = n + 1; rw [ones_len]
theorem lowb_len (c m : Nat) : ∀ n, (lowb c m n).length = n
 | 0 => rfl
 | n + 1 => by show (lowb c m n).length + 1 = n + 1; rw [lowb_len]
theorem num_len (k m : Nat) : (num k m).length = 2 * dig m + 1 := by
 unfold num
 rw [List.length_append, ones_len, List.length_cons, lowb_len]
 omega
theorem ones_ok (k : Nat) : ∀ n i, k + i + n <= 400 -> Pack.BitsOk (ones k i n)
 | 0, _, _ => fun _ hp => absurd hp (List.not_mem_nil)
 | n + 1, i, h => fun p hp => by
  rcases List.mem_cons.1 hp with rfl | hp
  ·exact ⟨by show k + i < 400; omega, .inr rfl⟩
  ·exact ones_ok k n (i + 1) (by omega) p hp
theorem lowb_ok (c m : Nat) (hc : c < 400) : ∀ n, Pack.BitsOk (lowb c m n)
 | 0 => fun _ hp => absurd hp (List.not_mem_nil)
 | n + 1 => fun p hp => by
  rcases List.mem_cons.1 hp with rfl | hp
  ·exact ⟨hc, by show ((m / 2 ^ n % 2 : Nat) : Int) = 0 \/ ((m / 2 ^ n % 2 : Nat) : Int) = 1; omega⟩
  ·exact lowb_ok c m hc n p hp
theorem ok_app {l r : Bts} (h : Pack.BitsOk l) (k : Pack.BitsOk r) : Pack.BitsOk (l ++ r) := fun p hp => by
 rcases List.mem_append.1 hp with hp | hp
 ·exact h p hp
 ·exact k p hp
theorem ok_cons {l : Bts} {c : Nat} {v : Int} (hc : c < 400) (hv : v = 0 \/ v = 1) (h : Pack.BitsOk l) : Pack.BitsOk ((c, v) :: l) := fun p hp => by
 rcases List.mem_cons.1 hp with rfl | hp
 ·exact ⟨hc, hv⟩
 ·exact h p hp
theorem ok_nil : Pack.BitsOk [] := fun _ hp => absurd hp (List.not_mem_nil)
theorem num_ok {k m : Nat} (hm : m <= 1022) (hk : k + 22 <= 400) : Pack.BitsOk (num k m) := by
 have := dig_le hm
 exact ok_app (ones_ok k _ 0 (by omega)) (ok_cons (by omega) (.inl rfl) (lowb_ok _ _ (by omega) _))
theorem run_reads {S : ByteArray} {k : Nat} {rest : Bts} : ∀ (j f n : Nat) (r : RS), j + 1 <= f -> n + j <= 9 -> Rd S (ones k n j ++ (k + (n + j), 0) :: rest) r -> ∃ r', Rdr.run S k f n r = (n + j, r') /\ Rd S rest r'
 | 0, f + 1, n, r, _, _, h => by
  obtain ⟨b1, b2⟩ := Rd.bit (l := rest) (k := k + n) h
  refine ⟨_, ?_, b2⟩
  unfold Rdr.run
  rw [if_pos h.err, if_pos b1]
  rfl
 | j + 1, f + 1, n, r, h1, h2, h => by
  have h' : Rd S ((k + n, 1) :: (ones k (n + 1) j ++ (k + (n + (j + 1)), 0) :: rest)) r := h
  obtain ⟨b1, b2⟩ := h'.bit
  rw [show n + (j + 1) = n + 1 + j by omega] at b2 ⊢
  obtain ⟨r', e, h3⟩ := run_reads j f (n + 1) _ (by omega) (by omega) b2
  refine ⟨r', ?_, h3⟩
  unfold Rdr.run
  rw [if_pos h.err, if_neg (by rw [b1]; decide), if_neg (by omega)]
  exact e
theorem lows_reads {S : ByteArray} {c m : Nat} {rest : Bts} : ∀ (f : Nat) (d u : Int) (r : RS), Rd S (lowb c m f ++ rest) r -> ∃ r', Rdr.lows S c f d u r = (d * 2 ^ f + ((m % 2 ^ f : Nat) : Int), u * 2 ^ f, r') /\ Rd S rest r'
 | 0, d, u, r, h => ⟨r, by unfold Rdr.lows; simp [Nat.mod_one], h⟩
 | f + 1, d, u, r, h => by
  have h' : Rd S ((c, ((m / 2 ^ f % 2 : Nat) : Int)) :: (lowb c m f ++ rest)) r := h
  obtain ⟨b1, b2⟩ := h'.bit
  obtain ⟨r', e, h3⟩ := lows_reads f (2 * d + ((m / 2 ^ f % 2 : Nat) : Int)) (2 * u) _ b2
  refine ⟨r', ?_, h3⟩
  unfold Rdr.lows
  rw [if_pos h.err, b1, e, Nat.mod_pow_succ, Int.pow_succ]
  have e1 : ((m % 2 ^ f + 2 ^ f * (m / 2 ^ f % 2) : Nat) : Int) = ((m % 2 ^ f : Nat) : Int) + 2 ^ f * ((m / 2 ^ f % 2 : Nat) : Int) := by
   rw [Int.natCast_add, Int.natCast_mul, Int.natCast_pow]; rfl
  rw [e1]
  have e2 : (2 * d + ((m / 2 ^ f % 2 : Nat) : Int)) * 2 ^ f + ((m % 2 ^ f : Nat) : Int) = d * (2 ^ f * 2) + (((m % 2 ^ f : Nat) : Int) + 2 ^ f * ((m / 2 ^ f % 2 : Nat) : Int)) := by
   rw [Int.add_mul, Int.mul_comm (2 ^ f) 2, <- Int.mul_assoc, Int.mul_comm d 2, Int.mul_comm (2 ^ f) ((m / 2 ^ f % 2 : Nat) : Int)]
   omega
  have e3 : 2 * u * 2 ^ f = u * (2 ^ f * 2) := by rw [Int.mul_comm (2 ^ f) 2, <- Int.mul_assoc, Int.mul_comm u 2]
  rw [e2, e3]
theorem number_reads {S : ByteArray} {k m : Nat} {rest : Bts} {r : RS} (hm : m <= 1022) (h : Rd S (num k m ++ rest) r) : (Rdr.number S r k).1 = m /\ Rd S rest (Rdr.number S r k).2 := by
 have hd := dig_le hm
 unfold num at h
 rw [List.append_assoc] at h
 obtain ⟨r1, e1, h1⟩ := run_reads (S := S) (k := k) (rest := lowb (k + 12 + dig m) (m + 1) (dig m) ++ rest) (dig m) 11 0 r (by omega) (by omega) (by rw [Nat.zero_add (dig m)]; exact h)
 rw [Nat.zero_add] at e1
 obtain ⟨r2, e2, h2⟩ := lows_reads (dig m) 0 1 r1 h1
 unfold Rdr.number
 rw [e1]
 dsimp only
 rw [e2]
 refine ⟨?_, h2⟩
 have lo := dig_lo m
 have hi := dig_hi m
 rw [Nat.pow_succ] at hi
 have e3 : (m + 1) % 2 ^ dig m = m + 1 - 2 ^ dig m := by
  rw [Nat.mod_eq_sub_mod lo, Nat.mod_eq_of_lt (by omega)]
 dsimp only
 rw [e3]
 have e4 : ((2 ^ dig m : Nat) : Int) = 2 ^ dig m := by rw [Int.natCast_pow]; rfl
 omega
theorem signed_reads {S : ByteArray} {k : Nat} {n : Int} {rest : Bts} {r : RS} (h0 : -511 <= n) (h1 : n <= 511) (h : Rd S (sgn k n ++ rest) r) : Rdr.signed S r k = n /\ Rd S rest (Rdr.number S r k).2 := by
 obtain ⟨e, h2⟩ := number_reads (fold_le h0 h1) h
 refine ⟨?_, h2⟩
 unfold Rdr.signed
 rw [e]
 unfold fold
 split <;> split <;> omega
end Pk
end Go.Proofs.YtekfbphnoibnjaaDoor
namespace Go.Proofs.YtekfbphnoibnjaaDoor
namespace Flm
theorem drop_rows {α : Type} (f : Nat -> Nat -> α) (n : Nat) : ∀ (l : List Nat) (j : Nat) (hj : j < l.length) (i : Nat) (_ : i < n), (l.flatMap fun a => (List.range n).map fun b => f a b).drop (j * n + i) = f l[j] i :: (l.flatMap fun a => (List.range n).map fun b => f a b).drop (j * n + i + 1)
 | [], j, hj, _, _ => by simp at hj
 | a :: l, 0, _, i, hi => by
  have hl : ((List.range n).map fun b => f a b).length = n := by simp
  rw [List.flatMap_cons, Nat.zero_mul, Nat.zero_add, List.drop_append_of_le_length (by omega), List.drop_append_of_le_length (by omega), List.drop_eq_getElem_cons (by omega)]
  simp
 | a :: l, j + 1, hj, i, hi => by
  have hl : ((List.range n).map fun b => f a b).length = n := by simp
  have ih := drop_rows f n l j (by simpa using hj) i hi
  have e : (j + 1) * n + i = n + (j * n + i) := by rw [Nat.succ_mul]; omega
  have key : ∀ m, (((List.range n).map fun b => f a b) ++ l.flatMap fun a => (List.range n).map fun b => f a b).drop (n + m) = (l.flatMap fun a => (List.range n).map fun b => f a b).drop m := fun m => by
   rw [<- List.drop_drop]
   congr 1
   exact List.drop_left' hl
  rw [List.flatMap_cons, e, key, ih, show n + (j * n + i) + 1 = n + (j * n + i + 1) by omega, key]
  rfl
def left (x y n j i : Nat) : List (Nat × Nat) := (spots x y n).drop (j * n + i)
theorem left_zero (x y n : Nat) : left x y n 0 0 = spots x y n := by unfold left; simp
theorem left_row (x y n j : Nat) : left x y n j n = left x y n (j + 1) 0 := by unfold left; rw [Nat.succ_mul]; rfl
theorem left_cons (x y n j i : Nat) (hj : j < n) (hi : i < n) : left x y n j i = (x + i, y + j) :: left x y n j (i + 1) := by
 unfold left spots
 rw [drop_rows (fun j i => (x + i, y + j)) n (List.range n) j (by simpa using hj) i hi]
 simp [Nat.add_assoc]
theorem spots_len (x y n : Nat) : (spots x y n).length = n * n := by
 unfold spots
 rw [List.length_flatMap]
 simp only [List.length_map, List.length_range]
 rw [List.map_const', List.sum_replicate_nat, List.length_range]
theorem left_end (x y n : Nat) : left x y n n 0 = [] := by
 unfold left
 exact List.drop_eq_nil_of_le (by rw [spots_len]; omega)
theorem mem_spots {x y n : Nat} {q : Nat × Nat} : q ∈ spots x y n ↔ ∃ j i, j < n /\ i < n /\ q = (x + i, y + j) := by
 unfold spots
 simp only [List.mem_flatMap, List.mem_range, List.mem_map]
 constructor
 ·rintro ⟨j, hj, i, hi, rfl⟩; exact ⟨j, i, hj, hi, rfl⟩
 ·rintro ⟨j, i, hj, hi, rfl⟩; exact ⟨j, hj, i, hi, rfl⟩
def pick (q : Px) (k : Nat) : Int := if k = 0 then q.1 else if k = 1 then q.2.1 else q.2.2
theorem turn_bd {p : Px} (h : okPx p) (k : Nat) : -255 <= pick (turn p) k /\ pick (turn p) k <= 255 := by
 obtain ⟨⟨a, b⟩, ⟨c, d⟩, ⟨e, f⟩⟩ := h
 have := Pix.tbounds p.1 p.2.1 p.2.2 a b c d e f
 unfold pick turn
 split
 ·dsimp only; omega
 ·split
  ·dsimp only; omega
  ·dsimp only; omega
theorem near_bd {z : Nat} {fs : FS} (h : ∀ i k, okPx (px fs i k)) (x y : Int) (k : Nat) : -255 <= pick (near z fs x y) k /\ pick (near z fs x y) k <= 255 := by
 unfold near
 split
 ·unfold pick; split
  ·decide
  ·split <;> decide
 ·exact turn_bd (h _ _) k
end Flm
end Go.Proofs.YtekfbphnoibnjaaDoor
namespace Go.Proofs.YtekfbphnoibnjaaDoor
namespace Pk
def sp (x : Nat) : Nat := 64 * (x / 8 % 2) + 16 * (x / 4 % 2) + 4 * (x / 2 % 2) + x % 2
def rank (x y : Nat) : Nat := 2 * sp y + sp x
theorem sp_mono : ∀ i < 16, ∀ j < 16, i <= j -> sp i <= sp j := by decide +kernel
theorem rank_mono {i j i' j' : Nat} (h1 : i <= i') (h2 : j <= j') (h3 : i' < 16) (h4 : j' < 16) : rank i j <= rank i' j' := by
 have a := sp_mono i (by omega) i' h3 h1
 have b := sp_mono j (by omega) j' h4 h2
 unfold rank
 omega
theorem sp_lt : ∀ i < 16, sp i <= 85 := by decide +kernel
theorem rank_lt {i j : Nat} (h1 : i < 16) (h2 : j < 16) : rank i j < 256 := by
 have a := sp_lt i h1
 have b := sp_lt j h2
 unfold rank
 omega
structure Al (z x y n : Nat) : Prop where
 an : n = 4 \/ n = 8 \/ n = 16
 xn : x % n = 0
 yn : y % n = 0
 xz : x + n <= z
 yz : y + n <= z
 zz : z <= 16
def inB (n x y i j : Nat) : Bool := !decide (rank i j < rank x y + n * n) || (decide (rank i j < rank x y) || ((decide (x <= i) && decide (i < x + n)) && (decide (y <= j) && decide (j < y + n))))
theorem inB_iff {n x y i j : Nat} (h : inB n x y i j = true) (hr : rank i j < rank x y + n * n) : rank i j < rank x y \/ ((x <= i /\ i < x + n) /\ y <= j /\ j < y + n) := by
 unfold inB at h
 simp only [Bool.or_eq_true, Bool.not_eq_true', decide_eq_false_iff_not, Bool.and_eq_true, decide_eq_true_eq] at h
 rcases h with h | h
 ·exact absurd hr h
 ·exact h
theorem in4 : ∀ a < 4, ∀ b < 4, ∀ i < 16, ∀ j < 16, inB 4 (4 * a) (4 * b) i j = true := by decide +kernel
theorem in8 : ∀ a < 2, ∀ b < 2, ∀ i < 16, ∀ j < 16, inB 8 (8 * a) (8 * b) i j = true := by decide +kernel
theorem Al.inside {z x y n : Nat} (h : Al z x y n) {i j : Nat} (hi : i < z) (hj : j < z) (hr : rank i j < rank x y + n * n) : rank i j < rank x y \/ ((x <= i /\ i < x + n) /\ y <= j /\ j < y + n) := by
 obtain ⟨hn, hx, hy, hxz, hyz, hz⟩ := h
 rcases hn with rfl | rfl | rfl
 ·obtain ⟨a, rfl⟩ : ∃ a, x = 4 * a := ⟨x / 4, by omega⟩
  obtain ⟨b, rfl⟩ : ∃ b, y = 4 * b := ⟨y / 4, by omega⟩
  exact inB_iff (in4 a (by omega) b (by omega) i (by omega) j (by omega)) hr
 ·obtain ⟨a, rfl⟩ : ∃ a, x = 8 * a := ⟨x / 8, by omega⟩
  obtain ⟨b, rfl⟩ : ∃ b, y = 8 * b := ⟨y / 8, by omega⟩
  exact inB_iff (in8 a (by omega) b (by omega) i (by omega) j (by omega)) hr
 ·right; omega
theorem left4 : ∀ a < 4, ∀ b < 4, ∀ j < 4, 0 < a -> rank (4 * a - 1) (4 * b + j) < rank (4 * a) (4 * b) := by decide +kernel
theorem left8 : ∀ a < 2, ∀ b < 2, ∀ j < 8, 0 < a -> rank (8 * a - 1) (8 * b + j) < rank (8 * a) (8 * b) := by decide +kernel
theorem above4 : ∀ a < 4, ∀ b < 4, ∀ j < 4, 0 < b -> rank (4 * a + j) (4 * b - 1) < rank (4 * a) (4 * b) := by decide +kernel
theorem above8 : ∀ a < 2, ∀ b < 2, ∀ j < 8, 0 < b -> rank (8 * a + j) (8 * b - 1) < rank (8 * a) (8 * b) := by decide +kernel
theorem Al.left {z x y n : Nat} (h : Al z x y n) {j : Nat} (h1 : y <= j) (h2 : j < y + n) (hx0 : 0 < x) : rank (x - 1) j < rank x y := by
 obtain ⟨hn, hx, hy, hxz, hyz, hz⟩ := h
 rcases hn with rfl | rfl | rfl
 ·obtain ⟨a, rfl⟩ : ∃ a, x = 4 * a := ⟨x / 4, by omega⟩
  obtain ⟨b, rfl⟩ : ∃ b, y = 4 * b := ⟨y / 4, by omega⟩
  have := left4 a (by omega) b (by omega) (j - 4 * b) (by omega) (by omega)
  rwa [show 4 * b + (j - 4 * b) = j by omega] at this
 ·obtain ⟨a, rfl⟩ : ∃ a, x = 8 * a := ⟨x / 8, by omega⟩
  obtain ⟨b, rfl⟩ : ∃ b, y = 8 * b := ⟨y / 8, by omega⟩
  have := left8 a (by omega) b (by omega) (j - 8 * b) (by omega) (by omega)
  rwa [show 8 * b + (j - 8 * b) = j by omega] at this
 ·omega
theorem Al.above {z x y n : Nat} (h : Al z x y n) {i : Nat} (h1 : x <= i) (h2 : i < x + n) (hy0 : 0 < y) : rank i (y - 1) < rank x y := by
 obtain ⟨hn, hx, hy, hxz, hyz, hz⟩ := h
 rcases hn with rfl | rfl | rfl
 ·obtain ⟨a, rfl⟩ : ∃ a, x = 4 * a := ⟨x / 4, by omega⟩
  obtain ⟨b, rfl⟩ : ∃ b, y = 4 * b := ⟨y / 4, by omega⟩
  have := above4 a (by omega) b (by omega) (i - 4 * a) (by omega) (by omega)
  rwa [show 4 * a + (i - 4 * a) = i by omega] at this
 ·obtain ⟨a, rfl⟩ : ∃ a, x = 8 * a := ⟨x / 8, by omega⟩
  obtain ⟨b, rfl⟩ : ∃ b, y = 8 * b := ⟨y / 8, by omega⟩
  have := above8 a (by omega) b (by omega) (i - 8 * a) (by omega) (by omega)
  rwa [show 8 * a + (i - 8 * a) = i by omega] at this
 ·omega
theorem Al.corner {z x y n : Nat} (h : Al z x y n) (hx0 : 0 < x) (hy0 : 0 < y) : rank (x - 1) (y - 1) < rank x y := by
 have h1 := h.xz
 have h2 := h.yz
 have h3 := h.zz
 have h4 := h.an
 have h5 := h.left (Nat.le_refl y) (by omega) hx0
 have h6 := rank_mono (i := x - 1) (j := y - 1) (i' := x - 1) (j' := y) (Nat.le_refl _) (by omega) (by omega) (by omega)
 omega
theorem quart16 : rank 8 0 = 64 /\ rank 0 8 = 128 /\ rank 8 8 = 192 /\ rank 0 0 = 0 := by decide +kernel
theorem quart8 : ∀ a < 2, ∀ b < 2, rank (8 * a + 4) (8 * b) = rank (8 * a) (8 * b) + 16 /\ rank (8 * a) (8 * b + 4) = rank (8 * a) (8 * b) + 32 /\ rank (8 * a + 4) (8 * b + 4) = rank (8 * a) (8 * b) + 48 := by decide +kernel
theorem Al.quarters {z x y n : Nat} (h : Al z x y (2 * n)) (hn : n = 4 \/ n = 8) : (Al z x y n /\ Al z (x + n) y n /\ Al z x (y + n) n /\ Al z (x + n) (y + n) n) /\
  rank (x + n) y = rank x y + n * n /\ rank x (y + n) = rank x y + 2 * (n * n) /\ rank (x + n) (y + n) = rank x y + 3 * (n * n) := by
 obtain ⟨hn', hx, hy, hxz, hyz, hz⟩ := h
 rcases hn with rfl | rfl
 ·refine ⟨⟨⟨.inl rfl, by omega, by omega, by omega, by omega, hz⟩, ⟨.inl rfl, by omega, by omega, by omega, by omega, hz⟩, ⟨.inl rfl, by omega, by omega, by omega, by omega, hz⟩, ⟨.inl rfl, by omega, by omega, by omega, by omega, hz⟩⟩, ?_⟩
  obtain ⟨a, rfl⟩ : ∃ a, x = 8 * a := ⟨x / 8, by omega⟩
  obtain ⟨b, rfl⟩ : ∃ b, y = 8 * b := ⟨y / 8, by omega⟩
  exact quart8 a (by omega) b (by omega)
 ·refine ⟨⟨⟨.inr (.inl rfl), by omega, by omega, by omega, by omega, hz⟩, ⟨.inr (.inl rfl), by omega, by omega, by omega, by omega, hz⟩, ⟨.inr (.inl rfl), by omega, by omega, by omega, by omega, hz⟩, ⟨.inr (.inl rfl), by omega, by omega, by omega, by omega, hz⟩⟩, ?_⟩
  obtain rfl : x = 0 := by omega
  obtain rfl : y = 0 := by omega
  obtain ⟨h1, h2, h3, h4⟩ := quart16
  simp only [Nat.zero_add]
  rw [h1, h2, h3, h4]
  exact ⟨rfl, rfl, rfl⟩
theorem spots_mem {x y n : Nat} {q : Nat × Nat} : q ∈ Flm.spots x y n ↔ (x <= q.1 /\ q.1 < x + n) /\ y <= q.2 /\ q.2 < y + n := by
 rw [Flm.mem_spots]
 constructor
 ·rintro ⟨j, i, hj, hi, rfl⟩
  dsimp only; omega
 ·rintro ⟨⟨h1, h2⟩, h3, h4⟩
  exact ⟨q.2 - y, q.1 - x, by omega, by omega, by ext <;> dsimp only <;> omega⟩
theorem spots_pair (x y n : Nat) : (Flm.spots x y n).Pairwise fun p q => p.2 < q.2 \/ (p.2 = q.2 /\ p.1 < q.1) := by
 unfold Flm.spots
 rw [List.pairwise_flatMap]
 constructor
 ·intro j _
  rw [List.pairwise_map]
  refine List.pairwise_lt_range.imp ?_
  intro a b hab
  right
  dsimp only; omega
 ·refine List.pairwise_lt_range.imp ?_
  intro a b hab p hp q hq
  simp only [List.mem_map, List.mem_range] at hp hq
  obtain ⟨i, _, rfl⟩ := hp
  obtain ⟨i', _, rfl⟩ := hq
  left
  dsimp only; omega
theorem spots_done {x y n i j i' j' : Nat} {d ps : List (Nat × Nat)} (h : Flm.spots x y n = d ++ (i, j) :: ps) (h1 : x <= i' /\ i' < x + n) (h2 : y <= j' /\ j' < y + n) (h3 : j' < j \/ (j' = j /\ i' < i)) : (i', j') ∈ d := by
 have hm : (i', j') ∈ Flm.spots x y n := spots_mem.2 ⟨h1, h2⟩
 have hp := spots_pair x y n
 rw [h] at hm hp
 rcases List.mem_append.1 hm with hm | hm
 ·exact hm
 ·exfalso
  have hp2 := (List.pairwise_append.1 hp).2.1
  rcases List.mem_cons.1 hm with e | hm
  ·injection e with e1 e2
   omega
  ·have := (List.pairwise_cons.1 hp2).1 _ hm
   dsimp only at this
   omega
end Pk
end Go.Proofs.YtekfbphnoibnjaaDoor
