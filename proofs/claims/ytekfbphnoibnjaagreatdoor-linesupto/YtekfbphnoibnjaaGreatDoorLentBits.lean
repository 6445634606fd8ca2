/-
  A list of bits is lent, with room behind it.
-/
import Derived.Test.YtekfbphnoibnjaaGreatDoorBits
import Derived.Test.YtekfbphnoibnjaaGreatDoorBitCells
import Derived.Test.YtekfbphnoibnjaaGreatDoorLent
namespace Go.Proofs.YtekfbphnoibnjaaGreatDoor
open Go.RowKit

theorem run_copy_row_sz {P : Program} (w : World) (dT sT ty elem : TypeId) (g o dLen dCap : Nat) (a : Addr) (sLen sCap : Nat) (cur : Array Value) (t : TypeId) (cs : List Value) (size : Nat)
    (hu : P.underlying dT = some (.slice elem)) (hs : (P.info? elem).map (·.size) = some size)
    (hg : w.heap[g]? = some (.cells cur t (0, 0))) (hn : cs.length = Nat.min sLen dLen * size)
    (hsrc : ∀ j v, cs[j]? = some v → w.cell? (a.add j) = some v) (hfit : o + cs.length ≤ cur.size) (h1 : ∀ v ∈ cs, v.oneCell' = true) :
    (Builtin.copy_ #[dT, sT] ty #[.slice (some ⟨g, o, none⟩) dLen dCap, .slice (some a) sLen sCap]).run P w =
      .ok (goInt (Nat.min sLen dLen)) (w.setRow g (cur.toList.take o ++ cs ++ cur.toList.drop (o + cs.length)).toArray) := by
  have hl := run_loadCells_list (P := P) w a cs hsrc
  have hst := run_storeCells_at P g o t cs 0 cur w hg (by simpa using hfit) h1
  cases hq : P.info? elem with
  | none => simp [hq] at hs
  | some i =>
    have hi : i.size = size := by simpa [hq] using hs
    simp [Builtin.copy_, run_underlying hu, Builtin.lenOf, Builtin.firstCells, sizeOf, typeInfo, hq, hi, ← hn, hl, hst]

theorem wpList_copy_sz {P : Program} {w : World} {ops : Array Oper} {rest : List Oper} {o : Oper} {a : Act} {Q : Exit → Act → World → Prop} (hgd : o.guard = none) (d s : Operand) (dT sT : TypeId)
    (ho : o.op = .call { callee := .builtin .copy, args := #[d, s], argTypes := #[dT, sT] }) (elem : TypeId) (size : Nat) (hu : P.underlying dT = some (.slice elem)) (hsz : (P.info? elem).map (·.size) = some size)
    (g off dLen dCap : Nat) (ad : Addr) (sLen sCap : Nat) (hd : a.eval d = .slice (some ⟨g, off, none⟩) dLen dCap) (hs : a.eval s = .slice (some ad) sLen sCap)
    (cur : List Value) (t : TypeId) (hg : w.heap[g]? = some (.cells cur.toArray t (0, 0))) (cs : List Value) (hn : cs.length = Nat.min sLen dLen * size)
    (hsrc : ∀ j v, cs[j]? = some v → w.cell? (ad.add j) = some v) (hfit : off + cs.length ≤ cur.length) (h1 : ∀ v ∈ cs, v.oneCell' = true) (B : Nat) (w0 : World) (hb : Below B w0 w) (hBg : B ≤ g)
    (h : ∀ w', Hid (w'.heap[g]? = some (.cells (splice cur off cs).toArray t (0, 0))) → Below B w0 w' → wpList P ops Q rest (a.put o.dst (goInt (Nat.min sLen dLen))) w') : wpList P ops Q (o :: rest) a w := by
  refine wpList_plain hgd fun K hK => ?_
  have hrun := run_copy_row_sz (P := P) w dT sT o.type elem g off dLen dCap ad sLen sCap cur.toArray t cs size hu hsz hg hn hsrc (by simpa using hfit) h1
  unfold Oper.wp
  simp [execOp, ho, resolve, invoke, builtin, hd, hs, hrun, Result.andThen]
  exact hK _ _ (h _ (show _ = _ by simpa [splice] using setRow_heap w g _ _ t _ hg) (below_setRow hb hBg _))

theorem made_bits (n : Nat) : (madeCells #[Value.int .i64 0, Value.int .i64 0] (n * 2)).toList = bitCells (List.replicate n (0, 0)) := by
  apply List.ext_getElem?
  intro i
  by_cases h : i < n * 2
  · have h1 : (madeCells #[Value.int .i64 0, Value.int .i64 0] (n * 2)).toList[i]? = some (.int .i64 0) := by
      simp only [madeCells, Array.toList_map, List.getElem?_map, Array.toList_range, List.getElem?_range h, Option.map_some]
      rcases Nat.mod_two_eq_zero_or_one i with e | e <;> simp [e]
    rw [h1]
    have hg := bitCells_get (List.replicate n ((0 : Int), (0 : Int))) (i / 2) (by simp; omega)
    have hz : (List.replicate n ((0 : Int), (0 : Int))).getD (i / 2) (0, 0) = (0, 0) := by
      rw [List.getD_eq_getElem?_getD, List.getElem?_replicate]; split <;> rfl
    rw [hz] at hg
    rcases Nat.mod_two_eq_zero_or_one i with e | e
    · rw [show i = i / 2 * 2 by omega]; exact hg.1.symm
    · rw [show i = i / 2 * 2 + 1 by omega]; exact hg.2.symm
  · rw [List.getElem?_eq_none (by simp [size_madeCells]; omega), List.getElem?_eq_none (by rw [bitCells_len]; simp; omega)]

/-- Block g is a row of bits, all of its room. -/
def BNums (w : World) (B g n : Nat) (bs : List (Int × Int)) : Prop := w.ownsRow B 69 2 (.slice (some ⟨g, 0, none⟩) n n) n (bitCells bs)
theorem BNums.len {w : World} {B g n : Nat} {bs : List (Int × Int)} (h : BNums w B g n bs) : bs.length = n := by
  have := h.1; rw [bitCells_len] at this; omega
theorem BNums.cell {w : World} {B g n : Nat} {bs : List (Int × Int)} (h : BNums w B g n bs) (k : Nat) (hk : k < n) : w.cell? ⟨g, k * 2, none⟩ = some (.int .i64 (bs.getD k (0, 0)).1) ∧ w.cell? ⟨g, k * 2 + 1, none⟩ = some (.int .i64 (bs.getD k (0, 0)).2) := by
  have hg := bitCells_get bs k (by rw [h.len]; exact hk)
  exact ⟨(World.ownsRow.cellAt h (k * 2) (by omega)).trans hg.1, (World.ownsRow.cellAt h (k * 2 + 1) (by omega)).trans hg.2⟩
theorem BNums.frozen {w : World} {B g n : Nat} {bs : List (Int × Int)} (h : BNums w B g n bs) (k : Nat) : w.frozen? ⟨g, k, none⟩ = false := World.ownsRow.frozenAt h k
theorem BNums.lt {w : World} {B g n : Nat} {bs : List (Int × Int)} (h : BNums w B g n bs) : B ≤ g ∧ g < w.heap.size := World.ownsRow.lt h g rfl
theorem BNums.store {w : World} {B g n : Nat} {bs : List (Int × Int)} (h : BNums w B g n bs) (k : Nat) (hk : k < n) (b : Int × Int) : BNums ((w.setCell ⟨g, k * 2, none⟩ (.int .i64 b.1)).setCell ⟨g, k * 2 + 1, none⟩ (.int .i64 b.2)) B g n (bs.set k b) := by
  have h1 := (World.ownsRow.stored (World.ownsRow.stored h (k * 2) (.int .i64 b.1)).1 (k * 2 + 1) (.int .i64 b.2)).1
  rw [bitCells_set bs k b (by rw [h.len]; exact hk)] at h1
  exact h1
theorem owns_heap2 {w : World} {B g n : Nat} {xs : List Value} {e : TypeId} (h : w.ownsRow B e 2 (.slice (some ⟨g, 0, none⟩) n n) n xs) : w.heap[g]? = some (.cells xs.toArray e (0, 0)) := by
  rcases h.2 with ⟨h', _⟩ | ⟨g', cap', cur, h', hb, hg, hnc, hcm, hcs, htake⟩
  · simp at h'
  · simp only [Value.slice.injEq, Option.some.injEq, Addr.mk.injEq, and_true, true_and] at h'
    obtain ⟨rfl, rfl⟩ := h'
    rw [List.take_of_length_le (by rw [Array.length_toList, hcs]; exact Nat.le_refl _)] at htake
    rw [← htake]
    exact hg
theorem heap_owns2 {w : World} {B g n : Nat} {xs : List Value} {e : TypeId} (h : w.heap[g]? = some (.cells xs.toArray e (0, 0))) (hl : xs.length = n * 2) (hb : B ≤ g) (hm : n ≤ maxLen) : w.ownsRow B e 2 (.slice (some ⟨g, 0, none⟩) n n) n xs :=
  ⟨hl, .inr ⟨g, n, xs.toArray, rfl, hb, h, Nat.le_refl _, hm, by simp [hl], by simp [List.take_of_length_le, hl]⟩⟩

theorem two_bit : (Tryz.prog.info? 69).map (·.size) = some 2 := by kernel_rfl
theorem nilBits (w : World) (a : Option Addr) (n c n' c' : Nat) : (binOp .eql 51 (.slice a n c) (.slice none n' c')).run Tryz.prog w = .ok (.bool a.isNone) w := Lib.run_eql_slice_nil w _ _ a n c n' c' Tryz.underlying51

/-- The first k of the eight behind bs are 77 already. -/
def roomBits (bs : List (Int × Int)) (k : Nat) : List (Int × Int) := bs ++ (List.replicate k (77, 0) ++ List.replicate (8 - k) (0, 0))
theorem roomBits_len (bs : List (Int × Int)) (k : Nat) (h : k ≤ 8) : (roomBits bs k).length = bs.length + 8 := by simp [roomBits]; omega
theorem roomBits_set (bs : List (Int × Int)) (k : Nat) (h : k < 8) : (roomBits bs k).set (bs.length + k) (77, 0) = roomBits bs (k + 1) := by
  unfold roomBits
  rw [List.set_append_right _ _ (by omega), show bs.length + k - bs.length = k by omega, List.set_append_right _ _ (by simp), List.length_replicate, Nat.sub_self, show 8 - k = (8 - (k + 1)) + 1 by omega, List.replicate_succ, List.set_cons_zero, List.replicate_succ' (n := k)]
  simp
theorem bitCells_drop (n k : Nat) : (bitCells (List.replicate (n + k) (0, 0))).drop (n * 2) = bitCells (List.replicate k (0, 0)) := by
  rw [show List.replicate (n + k) ((0 : Int), (0 : Int)) = List.replicate n (0, 0) ++ List.replicate k (0, 0) by simp, bitCells_app, List.drop_append_of_le_length (by rw [bitCells_len]; simp), List.drop_of_length_le (by rw [bitCells_len]; simp)]
  rfl
theorem splice_bits (bs : List (Int × Int)) (n : Nat) (h : bs.length = n) : splice (bitCells (List.replicate (n + 8) (0, 0))) 0 (bitCells bs) = bitCells (roomBits bs 0) := by
  unfold splice roomBits
  rw [bitCells_len, h, Nat.zero_add, bitCells_drop, bitCells_app]
  simp

def LentPosB (w1 : World) (a : Addr) (bs : List (Int × Int)) : Prop := ∀ j v, (bitCells bs)[j]? = some v → w1.cell? (a.add j) = some v
theorem lent_posB {w1 : World} {a : Addr} {n : Nat} {bs : List (Int × Int)} (hz : BitsIn w1 (some a) n bs) : LentPosB w1 a bs := by
  intro j v hv
  have hlen := hz.1
  have hj : j < bs.length * 2 := by
    rcases Nat.lt_or_ge j (bs.length * 2) with h' | h'
    · exact h'
    · rw [List.getElem?_eq_none (by rw [bitCells_len]; exact h')] at hv; cases hv
  have hg := bitCells_get bs (j / 2) (by omega)
  rcases hz.2 with h2 | ⟨b, off, ha, _, hc⟩
  · omega
  · injection ha with ha
    subst ha
    have hc' := hc (j / 2) (by omega)
    rw [show (⟨b, off, none⟩ : Addr).add j = ⟨b, off + j, none⟩ by unfold Addr.add; split <;> simp_all]
    rcases Nat.mod_two_eq_zero_or_one j with e | e
    · rw [show j = j / 2 * 2 by omega] at hv
      rw [hg.1] at hv
      rw [← hv, show off + j = off + j / 2 * 2 by omega]
      exact hc'.1
    · rw [show j = j / 2 * 2 + 1 by omega] at hv
      rw [hg.2] at hv
      rw [← hv, show off + j = off + j / 2 * 2 + 1 by omega]
      exact hc'.2

set_option maxHeartbeats 400000 in
theorem lentBits_nil (w : World) (len cap : Nat) : Calls Tryz.prog 58 #[.slice none len cap] w fun x w' => x = .returned (.slice none 0 0) ∧ w' = w := by
  have qn := nilBits
  go_enter Tryz.func58, Tryz.ntmps58
  go_wp2
  go_ret
  exact ⟨rfl, rfl⟩

set_option maxHeartbeats 1000000 in
set_option maxRecDepth 20000 in
theorem lentBits_some (w : World) (a : Addr) (n cap : Nat) (bs : List (Int × Int)) (hz : BitsIn w (some a) n bs) (hn : n ≤ 1000000000) :
    Calls Tryz.prog 58 #[.slice (some a) n cap] w fun x w' => x = .returned (.slice (some ⟨w.heap.size, 0, none⟩) n (n + 8)) ∧ BNums w' w.heap.size w.heap.size (n + 8) (roomBits bs 8) ∧ Below w.heap.size w w' := by
  obtain ⟨i0, hi, hz0, hz1, hz2⟩ := info_parts infoBit
  have hlen := hz.1
  have qn := nilBits
  go_enter Tryz.func58, Tryz.ntmps58
  go_wp2_with (at_make; refine wpList_make_full _ rfl _ _ 51 rfl w.heap.size 69 i0 (.agg #[.int .i64 0, .int .i64 0]) 2 Tryz.underlying51 hi hz0 hz1 _ _ _ _ (n + 8) rfl rfl (by omega) (by omega) (by rw [hz2]; omega) (by unfold maxLen; omega) (Nat.le_refl _) ?_)
  intro w1 hown hgrow
  have hb : Below w.heap.size w w1 := (Below.refl _ _).grown hgrow (Nat.le_refl _) (fun _ h => by cases h)
  have hz1' : BitsIn w1 (some a) n bs := hz.below hb
  have hheap : w1.heap[w.heap.size]? = some (.cells (bitCells (List.replicate (n + 8) (0, 0))).toArray 69 (0, 0)) := by
    rw [← made_bits (n + 8)]; exact owns_heap2 hown
  have HP : LentPosB w1 a bs := lent_posB hz1'
  have HH : Hid (w1.heap[w.heap.size]? = some (.cells (bitCells (List.replicate (n + 8) (0, 0))).toArray 69 (0, 0))) := hheap
  have HL : Hid ((bitCells bs).length = Nat.min n (n + 8) * 2) := by
    show (bitCells bs).length = Nat.min n (n + 8) * 2
    rw [bitCells_len, hlen, show Nat.min n (n + 8) = n from Nat.min_eq_left (by omega)]
  clear hown hgrow hz1' hheap hz
  go_wp2_with (refine wpList_copy_sz rfl (.tmp 13) (.tmp 14) 51 51 rfl 69 2 Tryz.underlying51 two_bit w.heap.size 0 _ _ a _ _ rfl rfl (bitCells (List.replicate (n + 8) (0, 0))) 69 HH.out (bitCells bs) HL.out HP ?b1 (oneCell_bits bs) w.heap.size w hb (Nat.le_refl _) ?_)
  case b1 => rw [bitCells_len, bitCells_len, List.length_replicate]; omega
  intro w2 HG2 hb2
  have HN : Hid (BNums w2 w.heap.size w.heap.size (n + 8) (roomBits bs 0)) := by
    have h2 := HG2.out
    rw [splice_bits bs n hlen] at h2
    exact heap_owns2 h2 (by rw [bitCells_len, roomBits_len _ _ (by decide), hlen]) (Nat.le_refl _) (by unfold maxLen; omega)
  clear HG2 HP HH HL hb
  go_wp2
  go_loopw [5] (fun i wr => ∃ k : Nat, k ≤ 8 ∧ i = .int .i64 ((n + k : Nat) : Int) ∧ BNums wr w.heap.size w.heap.size (n + 8) (roomBits bs k) ∧ Below w.heap.size w wr) (fun i _ => n + 8 - (intOf i).toNat)
  case atStart => exact ⟨0, by omega, rfl, HN.out, hb2⟩
  case round =>
    obtain ⟨k, hk, rfl, hnr, hbr⟩ := hrel
    by_cases hlt : k < 8
    · have hlt' : ((n + k : Nat) : Int) < (n : Int) + 8 := by omega
      have hlt2 : ((n + k : Nat) : Int) < ((n + 8 : Nat) : Int) := by omega
      obtain ⟨c0, hc⟩ : ∃ c, wr.cell? ⟨w.heap.size, (n + k) * 2, none⟩ = some (.int .i64 c) := ⟨_, (hnr.cell (n + k) (by omega)).1⟩
      obtain ⟨c1, hc1⟩ : ∃ c, wr.cell? ⟨w.heap.size, (n + k) * 2 + 1, none⟩ = some (.int .i64 c) := ⟨_, (hnr.cell (n + k) (by omega)).2⟩
      have hf := hnr.frozen ((n + k) * 2)
      have hf1 := hnr.frozen ((n + k) * 2 + 1)
      have HS : Hid (BNums ((wr.setCell ⟨w.heap.size, (n + k) * 2, none⟩ (.int .i64 77)).setCell ⟨w.heap.size, (n + k) * 2 + 1, none⟩ (.int .i64 0)) w.heap.size w.heap.size (n + 8) (roomBits bs (k + 1))) := by
        have hs := hnr.store (n + k) (by omega) (77, 0)
        rw [← hlen, roomBits_set bs k hlt, hlen] at hs
        exact hs
      have HNR : Hid (BNums wr w.heap.size w.heap.size (n + 8) (roomBits bs k)) := hnr
      clear hnr
      go_wp2
      go_roundw
      case rel => exact ⟨k + 1, by omega, by go_num, HS.out, (hbr.setCell (Nat.le_refl _) _).setCell (Nat.le_refl _) _⟩
      case measure => simp [intOf]; omega
    · obtain rfl : k = 8 := by omega
      have hlt' : ¬ ((n + 8 : Nat) : Int) < (n : Int) + 8 := by omega
      go_wp2
      go_ret
      exact ⟨rfl, hnr, hbr⟩

end Go.Proofs.YtekfbphnoibnjaaGreatDoor
