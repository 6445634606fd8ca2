/-
  What the law Squeezed calls of its own: raw numbers as bits.
-/
import Derived.Test.YtekfbphnoibnjaaDoorPStr
import Derived.Test.YtekfbphnoibnjaaDoorBitCells
namespace Go.Proofs.YtekfbphnoibnjaaDoor
open Go.RowKit

/-- Which of n things a raw number speaks of. -/
def pk (c n : Int) : Int := (if c < 0 then -(c + 1) else c) % n
theorem pk_bd (c n : Int) (h : 0 < n) : 0 ≤ pk c n ∧ pk c n < n := ⟨Int.emod_nonneg _ (by omega), Int.emod_lt_of_pos _ h⟩

set_option maxHeartbeats 400000 in
theorem pPick (w : World) (c n : Int) (c0 : -9223372036854775808 ≤ c) (c1 : c ≤ 9223372036854775807) (n0 : 0 < n) (n1 : n ≤ 1000) : Calls Tryd.prog 6 #[.int .i64 c, .int .i64 n] w fun e w' => e = .returned (.int .i64 (pk c n)) ∧ w' = w := by
  by_cases h : c < 0
  · have hn : (n == 0) = false := by simp; omega
    have e : pk c n = (-(c + 1)) % n := by unfold pk; rw [if_pos h]
    have hb := pk_bd c n n0
    rw [e] at hb ⊢
    go_enter Tryd.func6, Tryd.ntmps6
    go_wp2
    go_ret
    refine ⟨ret_int ?_, rfl⟩
    rw [← Int.neg_tmod, Int.tmod_eq_emod_of_nonneg (by omega)]
  · have hn : (n == 0) = false := by simp; omega
    have e : pk c n = c % n := by unfold pk; rw [if_neg h]
    have hb := pk_bd c n n0
    rw [e] at hb ⊢
    go_enter Tryd.func6, Tryd.ntmps6
    go_wp2
    go_ret
    exact ⟨rfl, rfl⟩

def rawBit (z : Int) : Int × Int := (pk z 800 / 2, pk z 800 % 2)
def rawBits (zs : List Int) (k : Nat) : List (Int × Int) := (zs.take k).map rawBit
theorem rawBits_snoc (zs : List Int) (k : Nat) (h : k < zs.length) : rawBits zs (k + 1) = rawBits zs k ++ [rawBit (zs.getD k 0)] := by
  unfold rawBits
  rw [List.take_succ_eq_append_getElem h, List.map_append]
  simp [List.getD_eq_getElem?_getD, h]
theorem rawBits_len (zs : List Int) (k : Nat) (h : k ≤ zs.length) : (rawBits zs k).length = k := by unfold rawBits; simp; omega
theorem rawBit_ok (z : Int) : bitOk (rawBit z) := by
  have := pk_bd z 800 (by decide)
  unfold bitOk rawBit
  dsimp only
  omega

theorem cell_new2 (w : World) (v u : Value) (e : TypeId) : ∀ j x, [v, u][j]? = some x → (w.alloc (.cells #[v, u] e)).cell? ((⟨w.heap.size, 0, none⟩ : Addr).add j) = some x := by
  intro j x hj
  match j, hj with
  | 0, hj => simp at hj; subst hj; simp [Addr.add]
  | 1, hj => simp at hj; subst hj; simp [Addr.add]
theorem oneCell_two (x y : Int) : ∀ u ∈ [Value.int .i64 x, Value.int .i64 y], u.oneCell' = true := by intro u hu; simp at hu; rcases hu with rfl | rfl <;> rfl

set_option maxHeartbeats 1000000 in
set_option maxRecDepth 20000 in
theorem pKeepBits (w : World) (a : Option Addr) (len cap : Nat) (zs : List Int) (hz : IntsIn w a len zs) (hl : len ≤ maxLen) (hr : ∀ i, i < len → -9223372036854775808 ≤ zs.getD i 0 ∧ zs.getD i 0 ≤ 9223372036854775807) :
    Calls Tryd.prog 5 #[.slice a len cap] w fun x w' => ∃ v n, x = .returned v ∧ n ≤ len ∧ n ≤ 4000 ∧ w'.ownsRow w.heap.size 27 2 v n (bitCells (rawBits zs n)) ∧ Below w.heap.size w w' := by
  have hlen := hz.1
  unfold maxLen at hl
  obtain ⟨i0, hi, hz0, hz1, hz2⟩ := info_parts infoBit
  have HZ : Hid (IntsIn w a len zs) := hz
  clear hz
  go_enter Tryd.func5, Tryd.ntmps5
  go_wp2
  go_loopw [3, 4] (fun v i wr => ∃ k : Nat, k ≤ len ∧ k ≤ 4000 ∧ i = .int .i64 k ∧ wr.ownsRow w.heap.size 27 2 v k (bitCells (rawBits zs k)) ∧ Below w.heap.size w wr) (fun _ i _ => len - (intOf i).toNat)
  case atStart => exact ⟨0, by omega, by omega, rfl, World.ownsRow_nil _ _ _ _, Below.refl _ _⟩
  case round =>
    obtain ⟨k, hk, hk4, rfl, hown, hbr⟩ := hrel
    by_cases hlt : k < len
    · have hlt' : (k : Int) < (len : Int) := by omega
      by_cases h4 : k < 4000
      · have h4' : (k : Int) < 4000 := by omega
        obtain ⟨b, off, rfl, hb, hc⟩ : ∃ b off, a = some ⟨b, off, none⟩ ∧ b < w.heap.size ∧ ∀ i, i < len → w.cell? ⟨b, off + i, none⟩ = some (.int .i64 (zs.getD i 0)) := by
          rcases HZ.out.2 with h2 | h2
          · omega
          · exact h2
        have hck := (hbr.cell (p := ⟨b, off + k, none⟩) hb).trans (hc k hlt)
        have HS := rawBits_snoc zs k (by omega)
        obtain ⟨z0, z1⟩ := hr k hlt
        obtain ⟨z, hzk⟩ : ∃ z, z = zs.getD k 0 := ⟨_, rfl⟩
        rw [← hzk] at hck HS z0 z1
        obtain ⟨p, hp⟩ : ∃ p, p = pk z 800 := ⟨_, rfl⟩
        have hpb := pk_bd z 800 (by decide)
        have HS2 : Hid (rawBits zs (k + 1) = rawBits zs k ++ [(p / 2, p % 2)]) := by rw [HS, hp]; rfl
        rw [← hp] at hpb
        have HP : Hid (p = pk z 800) := hp
        have hsz := hbr.size
        clear hc hzk HS hp
        obtain ⟨q, hq⟩ : ∃ q, q = rawBits zs k := ⟨_, rfl⟩
        rw [← hq] at hown HS2
        clear hq
        go_wp2_with (first
          | (go_at_call 6; refine (pPick _ z 800 z0 z1 (by decide) (by decide)).mono ?_; rintro e w' ⟨rfl, hw⟩; rw [hw, ← HP.out]; clear hw)
          | (at_builtin; refine wpList_append_own _ rfl (.tmp 21) (.tmp 27) 23 rfl w.heap.size 27 i0 (.agg #[.int .i64 0, .int .i64 0]) 2 16 Tryd.underlying23 hi hz0 hz1 hz2 rfl (by decide) _ k (bitCells q) rfl ?c0 ⟨wr.heap.size, 0, none⟩ 1 1 [.int .i64 (p / 2), .int .i64 (p % 2)] rfl rfl ?c1 ?c2 ?c3 ?c4 ?c5 ?_))
        case c0 => exact hown.alloc _
        case c1 => exact cell_new2 _ _ _ _
        case c2 => exact oneCell_two _ _
        case c3 => unfold maxLen; omega
        case c4 => omega
        case c5 => simp; omega
        · intro v' w3 hown' hgrow _
          have hb3 : Below w.heap.size w w3 := (hbr.alloc hsz _).grown hgrow (by simp; omega) (fun j e => (World.ownsRow.lt hown j e).1)
          have hown2 : w3.ownsRow w.heap.size 27 2 v' (k + 1) (bitCells (q ++ [(p / 2, p % 2)])) := by rw [bitCells_app]; exact hown'
          clear hown hgrow hown'
          go_wp2
          go_roundw
          case rel => exact ⟨k + 1, by omega, by omega, by go_num, by rw [HS2.out]; exact hown2, hb3⟩
          case measure => simp [intOf]; omega
      · have h4' : ¬ (k : Int) < 4000 := by omega
        go_wp2
        go_ret
        exact ⟨_, rfl, k, hk, hk4, hown, hbr⟩
    · have hlt' : ¬ (k : Int) < (len : Int) := by omega
      go_wp2
      go_ret
      exact ⟨_, rfl, k, hk, hk4, hown, hbr⟩

end Go.Proofs.YtekfbphnoibnjaaDoor
