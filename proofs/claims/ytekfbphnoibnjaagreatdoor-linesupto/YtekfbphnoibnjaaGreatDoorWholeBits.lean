/-
  A list of bits that was lent is looked at again, then marked.
-/
import Derived.Test.YtekfbphnoibnjaaGreatDoorLentBits
import Derived.Test.YtekfbphnoibnjaaGreatDoorWhole
namespace Go.Proofs.YtekfbphnoibnjaaGreatDoor
open Go.RowKit

theorem infoBB : (Tryz.prog.info? 79).map (fun i => (i.zero, i.size, i.bytes)) = some (some (.agg #[.int .i64 0, .int .i64 0, .slice none 0 0]), 3, 40) := by kernel_rfl

theorem roomBits_lo (bs : List (Int × Int)) (i : Nat) (h : i < bs.length) : (roomBits bs 8).getD i (0, 0) = bs.getD i (0, 0) := by
  unfold roomBits
  rw [List.getD_eq_getElem?_getD, List.getD_eq_getElem?_getD, List.getElem?_append_left h]
theorem roomBits_hi (bs : List (Int × Int)) (i : Nat) (h : bs.length ≤ i) (h2 : i < bs.length + 8) : (roomBits bs 8).getD i (0, 0) = (77, 0) := by
  unfold roomBits
  rw [List.getD_eq_getElem?_getD, List.getElem?_append_right h, List.getElem?_append_left (by simp; omega), List.getElem?_replicate, if_pos (by omega)]
  rfl

/-- The first k of these bits are the mark already. -/
def markBits (bs : List (Int × Int)) (k : Nat) (m : Int) : List (Int × Int) := List.replicate k (m, 0) ++ bs.drop k
theorem markBits_zero (bs : List (Int × Int)) (m : Int) : markBits bs 0 m = bs := by simp [markBits]
theorem markBits_full (bs : List (Int × Int)) (m : Int) : markBits bs bs.length m = List.replicate bs.length (m, 0) := by simp [markBits]
theorem markBits_get (bs : List (Int × Int)) (k : Nat) (m : Int) : (markBits bs k m).getD k (0, 0) = bs.getD k (0, 0) := by
  unfold markBits
  rw [List.getD_eq_getElem?_getD, List.getElem?_append_right (by simp), List.length_replicate, Nat.sub_self, List.getElem?_drop, List.getD_eq_getElem?_getD]
  rfl
theorem markBits_set (bs : List (Int × Int)) (k : Nat) (m : Int) (h : k < bs.length) : (markBits bs k m).set k (m, 0) = markBits bs (k + 1) m := by
  unfold markBits
  rw [List.set_append_right _ _ (by simp), List.length_replicate, Nat.sub_self, List.drop_eq_getElem_cons h, List.set_cons_zero, List.replicate_succ' (n := k)]
  simp

theorem fill_bits {w : World} {B g n : Nat} {m : Int} (h : BNums w B g n (List.replicate n (m, 0))) : Fill w (.slice (some ⟨g, 0, none⟩) n n) n [.int .i64 m, .int .i64 0] := by
  refine ⟨_, _, rfl, .inr ⟨g, 0, rfl, fun j hj t u hu => ?_⟩⟩
  have hc := h.cell j hj
  have hz : (List.replicate n (m, (0 : Int))).getD j (0, 0) = (m, 0) := by rw [List.getD_eq_getElem?_getD, List.getElem?_replicate, if_pos hj]; rfl
  rw [hz] at hc
  match t, hu with
  | 0, hu =>
    simp at hu
    subst hu
    rw [show 0 + j * [Value.int IntKind.i64 m, Value.int IntKind.i64 0].length + 0 = j * 2 by simp]
    exact hc.1
  | 1, hu =>
    simp at hu
    subst hu
    rw [show 0 + j * [Value.int IntKind.i64 m, Value.int IntKind.i64 0].length + 1 = j * 2 + 1 by simp]
    exact hc.2

set_option maxHeartbeats 400000 in
theorem wholeBits_nil (w : World) (p : Value) (o : Value) (len cap : Nat) : Calls Tryz.prog 60 #[p, o, .slice none len cap] w fun x w' => x = .returned (.bool true) ∧ w' = w := by
  have qn := nilBits
  go_enter Tryz.func60, Tryz.ntmps60
  go_wp2
  go_ret
  exact ⟨rfl, rfl⟩

/-- What stands while bits are being marked. -/
structure MB (w wr : World) (B p M g N mb : Nat) (vs : List Value) (vi : Value) (ik : Nat) (rows : List Value) (xs : List (Int × Int)) : Prop where
  bk : BookAt wr p (M + 1) vs
  ri : wr.ownsRow B 79 3 vi ik rows
  rl : BNums wr B g N xs
  mm : Blk wr mb [.int .i64 (-((M : Int) + 1)), .int .i64 0] 69
  fr : Frm (fun k => k = p ∨ k = g ∨ vi.ownBlock = some k) w wr
theorem MB.alloc {w wr : World} {B p M g N mb : Nat} {vs : List Value} {vi : Value} {ik : Nat} {rows : List Value} {xs : List (Int × Int)} (h : MB w wr B p M g N mb vs vi ik rows xs) (o : Obj) : MB w (wr.alloc o) B p M g N mb vs vi ik rows xs :=
  ⟨h.bk.of_block (Below.heap_alloc wr o p h.bk.up) (by simp), h.ri.alloc o, World.ownsRow.alloc h.rl o, h.mm.alloc o, h.fr.alloc o⟩
theorem MB.drewN {w wr : World} {B p M g N mb : Nat} {vs : List Value} {vi : Value} {ik : Nat} {rows : List Value} {xs : List (Int × Int)} (h : MB w wr B p M g N mb vs vi ik rows xs) (n : Nat) : MB w (wr.drewN n) B p M g N mb vs vi ik rows xs :=
  ⟨h.bk.of_block rfl (Nat.le_refl _), h.ri, h.rl, h.mm, h.fr.drewN n⟩
theorem MB.store {w wr : World} {B p M g N mb : Nat} {vs : List Value} {vi : Value} {ik : Nat} {rows : List Value} {bs : List (Int × Int)} {k : Nat} (h : MB w wr B p M g N mb vs vi ik rows (markBits bs k (-((M : Int) + 1)))) (hk : k < N) (hb : bs.length = N) (n1 : g ≠ p) (n2 : vi.ownBlock ≠ some g) (n3 : g ≠ mb) :
    MB w ((wr.setCell ⟨g, k * 2, none⟩ (.int .i64 (-((M : Int) + 1)))).setCell ⟨g, k * 2 + 1, none⟩ (.int .i64 0)) B p M g N mb vs vi ik rows (markBits bs (k + 1) (-((M : Int) + 1))) := by
  have hs := h.rl.store k hk (-((M : Int) + 1), 0)
  rw [markBits_set bs k _ (by omega)] at hs
  refine ⟨h.bk.of_block ?_ (by simp), ?_, hs, h.mm.of ?_, ?_⟩
  · exact (Below.heap_setCell _ ⟨g, k * 2 + 1, none⟩ _ p (fun e => n1 e.symm)).trans (Below.heap_setCell _ ⟨g, k * 2, none⟩ _ p (fun e => n1 e.symm))
  · exact (h.ri.kept (grown_setCell wr g (k * 2) _) (.inr n2)).kept (grown_setCell _ g (k * 2 + 1) _) (.inr n2)
  · exact (Below.heap_setCell _ ⟨g, k * 2 + 1, none⟩ _ mb (fun e => n3 e.symm)).trans (Below.heap_setCell _ ⟨g, k * 2, none⟩ _ mb (fun e => n3 e.symm))
  · exact Frm.setCell (p := ⟨g, k * 2 + 1, none⟩) (Frm.setCell (p := ⟨g, k * 2, none⟩) h.fr (.inl (.inr (.inl rfl))) _) (.inl (.inr (.inl rfl))) _

/-- What stands behind the marking of bits. -/
def MarkedBits (w w' : World) (B p M : Nat) (vs : List Value) (vi : Value) (g N ik : Nat) (rows : List Value) : Prop :=
  ∃ gi ci : Nat, BookAt w' p (M + 1) (vs.set 1 (.slice (some ⟨gi, 0, none⟩) (ik + 1) ci)) ∧
    w'.ownsRow B 79 3 (.slice (some ⟨gi, 0, none⟩) (ik + 1) ci) (ik + 1) (rows ++ [.int .i64 (-((M : Int) + 1)), .int .i64 0, .slice (some ⟨g, 0, none⟩) N N]) ∧
    Fill w' (.slice (some ⟨g, 0, none⟩) N N) N [.int .i64 (-((M : Int) + 1)), .int .i64 0] ∧ (vi.ownBlock = some gi ∨ w.heap.size ≤ gi) ∧ gi ≠ p ∧ gi ≠ g ∧ Frm (fun k => k = p ∨ k = g ∨ vi.ownBlock = some k) w w'

theorem markBits_done {w wr w5 : World} {B p M g N mb : Nat} {vs : List Value} {vi : Value} {ik : Nat} {rows : List Value} {gg cap : Nat} {o : Obj}
    (HX : MB w wr B p M g N mb vs vi ik rows (List.replicate N (-((M : Int) + 1), 0))) (hpw : p < w.heap.size) (hgw : g < w.heap.size) (n2 : g ≠ p) (n3 : vi.ownBlock ≠ some g) (N1 : vi.ownBlock ≠ some p)
    (hown : w5.ownsRow B 79 3 (.slice (some ⟨gg, 0, none⟩) (ik + 1) cap) (ik + 1) (rows ++ [.int .i64 (-((M : Int) + 1)), .int .i64 0, .slice (some ⟨g, 0, none⟩) N N]))
    (hgrow : (wr.alloc o).drew.grownBy w5 vi.ownBlock) (hat : vi.ownBlock = some gg ∨ gg = wr.heap.size + 1) :
    MarkedBits w (w5.setCell ⟨p, 2, none⟩ (.slice (some ⟨gg, 0, none⟩) (ik + 1) cap)) B p M vs vi g N ik rows := by
  have hwz := HX.fr.size
  have fr : Frm (fun k => k = p ∨ vi.ownBlock = some k) wr (w5.setCell ⟨p, 2, none⟩ (.slice (some ⟨gg, 0, none⟩) (ik + 1) cap)) :=
    Frm.setCell (p := ⟨p, 2, none⟩) ((((Frm.refl _ wr).alloc o).drew).grown hgrow (fun k hk => .inl (.inr hk))) (.inl (.inl rfl)) _
  have hggp : gg ≠ p := by
    rcases hat with h | h
    · intro e; exact N1 (by rw [h, e])
    · omega
  have hX : (wr.alloc o).drew.heap.size = wr.heap.size + 1 := by show (wr.alloc o).heap.size = _; simp
  have hz5 : wr.heap.size ≤ w5.heap.size := by have := hgrow.size; omega
  have hpz := HX.bk.up
  have hbk5 : BookAt w5 p (M + 1) vs := HX.bk.of_block ((hgrow.block p (by omega) (fun e => N1 e.symm)).trans (Below.heap_alloc wr o p HX.bk.up)) hz5
  refine ⟨gg, cap, hbk5.put 1 (by decide) _, hown.kept (grown_setCell w5 p 2 _) (.inr (by simp [Value.ownBlock]; exact hggp)), (fill_bits HX.rl).frm fr (fun k hk hS => ?_), ?_, hggp, ?_, ?_⟩
  · simp [Value.ownBlock] at hk
    subst hk
    rcases hS with h | h
    · exact n2 h
    · exact n3 h
  · rcases hat with h | h
    · exact .inl h
    · exact .inr (by omega)
  · rcases hat with h | h
    · intro e; exact n3 (by rw [h, e])
    · omega
  · exact HX.fr.trans (fr.mono (fun k _ hS => by
      rcases hS with h | h
      · exact .inl h
      · exact .inr (.inr h)))

set_option maxHeartbeats 1000000 in
set_option maxRecDepth 20000 in
theorem wholeBits_some (w : World) (B p M : Nat) (vs : List Value) (ia : Option Addr) (ik ic : Nat) (rows : List Value) (g n : Nat) (a : Addr) (cap : Nat) (bs : List (Int × Int))
    (hbk : BookAt w p M vs) (hv1 : vs[1]? = some (.slice ia ik ic)) (hri : w.ownsRow B 79 3 (.slice ia ik ic) ik rows) (hrl : BNums w B g (n + 8) (roomBits bs 8)) (hz : BitsIn w (some a) n bs)
    (hga : n ≠ 0 → ¬ (a.block = p ∨ a.block = g ∨ (Value.slice ia ik ic).ownBlock = some a.block)) (hBp : B ≤ p)
    (n1 : (Value.slice ia ik ic).ownBlock ≠ some p) (n2 : g ≠ p) (n3 : (Value.slice ia ik ic).ownBlock ≠ some g)
    (hM : M ≤ 1000000000) (hn : n + 8 ≤ 1000000000) (hik : ik ≤ 1000000000) :
    Calls Tryz.prog 60 #[.pointer (some ⟨p, 0, none⟩), .slice (some ⟨g, 0, none⟩) n (n + 8), .slice (some a) n cap] w fun x w' => x = .returned (.bool true) ∧ MarkedBits w w' B p M vs (.slice ia ik ic) g (n + 8) ik rows := by
  have qn := nilBits
  have hlen := hz.1
  have i0 := hbk.c0
  have f0 := hbk.fz 0
  obtain ⟨k0, hi', hy0, hy1, hy2⟩ := info_parts infoBB
  have hpw := hbk.up
  have hgw := hrl.lt.2
  have H1 : Hid (MB w ((w.setCell ⟨p, 0, none⟩ (.int .i64 ((M : Int) + 1))).alloc (.cells #[.int .i64 (-((M : Int) + 1)), .int .i64 0] 69)) B p M g (n + 8) w.heap.size vs (.slice ia ik ic) ik rows (roomBits bs 8)) := by
    refine ⟨(hbk.put0 (M + 1)).of_block (Below.heap_alloc _ _ p (by simp; exact hpw)) (by simp), (hri.kept (grown_setCell w p 0 _) (.inr n1)).alloc _, World.ownsRow.alloc (hrl.kept (grown_setCell w p 0 _) (.inr (by simp [Value.ownBlock]; exact n2))) _, ?_, (Frm.setCell (p := ⟨p, 0, none⟩) (Frm.refl _ w) (.inl (.inl rfl)) _).alloc _⟩
    have := Blk.new (w.setCell ⟨p, 0, none⟩ (.int .i64 ((M : Int) + 1))) [.int .i64 (-((M : Int) + 1)), .int .i64 0] 69
    rw [World.size_setCell] at this
    exact this
  have HZ : Hid (BitsIn w (some a) n bs) := hz
  clear hbk hri hrl hz
  go_enter Tryz.func60, Tryz.ntmps60
  go_wp2
  clear i0 f0
  go_loopw [10, 11] (fun ok i wr => ok = .bool true ∧ ∃ k : Nat, k ≤ n + 8 ∧ i = .int .i64 k ∧ MB w wr B p M g (n + 8) w.heap.size vs (.slice ia ik ic) ik rows (markBits (roomBits bs 8) k (-((M : Int) + 1)))) (fun _ i _ => n + 8 - (intOf i).toNat)
  case atStart => exact ⟨rfl, 0, by omega, rfl, by rw [markBits_zero]; exact H1.out⟩
  case round =>
    obtain ⟨rfl, k, hk, rfl, hmb⟩ := hrel
    by_cases hlt : k < n + 8
    · have hlt' : (k : Int) < (n : Int) + 8 := by omega
      have hlt2 : (k : Int) < ((n + 8 : Nat) : Int) := by omega
      have hk0 : (0 : Int) ≤ (k : Int) := by omega
      have d1 := (hmb.rl.cell k hlt).1
      have d2 := (hmb.rl.cell k hlt).2
      rw [markBits_get] at d1 d2
      have e1 := hmb.rl.frozen (k * 2)
      have e2 := hmb.rl.frozen (k * 2 + 1)
      have m1 := hmb.mm.cell 0 _ rfl
      have m2 := hmb.mm.cell 1 _ rfl
      have hgz := hmb.rl.lt.2
      have hmz := hmb.mm.lt
      have hgB := hmb.rl.lt.1
      have HMB : Hid (MB w wr B p M g (n + 8) w.heap.size vs (.slice ia ik ic) ik rows (markBits (roomBits bs 8) k (-((M : Int) + 1)))) := hmb
      clear hmb
      by_cases hin : k < n
      · have hin' : (k : Int) < (n : Int) := by omega
        rw [roomBits_lo bs k (by omega)] at d1 d2
        obtain ⟨b, off, ha, hb, hc⟩ : ∃ b off, some a = some ⟨b, off, none⟩ ∧ b < w.heap.size ∧ ∀ i, i < n → w.cell? ⟨b, off + i * 2, none⟩ = some (.int .i64 (bs.getD i (0, 0)).1) ∧ w.cell? ⟨b, off + i * 2 + 1, none⟩ = some (.int .i64 (bs.getD i (0, 0)).2) := by
          rcases HZ.out.2 with h2 | h2
          · omega
          · exact h2
        have ha' : a = ⟨b, off, none⟩ := by injection ha
        subst ha'
        have hbS : ¬ (b = p ∨ b = g ∨ (Value.slice ia ik ic).ownBlock = some b) := hga (by omega)
        have hbp : b ≠ p := fun e => hbS (.inl e)
        have hbg : b ≠ g := fun e => hbS (.inr (.inl e))
        have c1 := HMB.out.fr.cell (hc k hin).1 hbS
        have c2 := HMB.out.fr.cell (hc k hin).2 hbS
        obtain ⟨x, y, hxy⟩ : ∃ x y, bs.getD k (0, 0) = (x, y) := ⟨_, _, rfl⟩
        rw [hxy] at c1 c2 d1 d2
        have hbz : b < wr.heap.size := Nat.lt_of_lt_of_le hb HMB.out.fr.size
        clear hc hxy ha hbS
        go_wp2
        go_quiet (fail)
        go_wp2
        go_roundw
        case rel => exact ⟨rfl, k + 1, by omega, by go_num, ((HMB.out.alloc _).drewN _).store hlt (by rw [roomBits_len _ _ (by decide), hlen]) n2 n3 (by omega)⟩
        case measure => simp [intOf]; omega
      · have hin' : ¬ (k : Int) < (n : Int) := by omega
        rw [roomBits_hi bs k (by omega) (by omega)] at d1 d2
        go_wp2
        go_quiet (fail)
        go_wp2
        go_roundw
        case rel => exact ⟨rfl, k + 1, by omega, by go_num, ((HMB.out.alloc _).drewN _).store hlt (by rw [roomBits_len _ _ (by decide), hlen]) n2 n3 (by omega)⟩
        case measure => simp [intOf]; omega
    · have hlt' : ¬ (k : Int) < (n : Int) + 8 := by omega
      have hke : k = n + 8 := by omega
      have hmf : MB w wr B p M g (n + 8) w.heap.size vs (.slice ia ik ic) ik rows (List.replicate (n + 8) (-((M : Int) + 1), 0)) := by
        have hr : (roomBits bs 8).length = n + 8 := by rw [roomBits_len _ _ (by decide), hlen]
        rw [hke, ← hr, markBits_full, hr] at hmb
        exact hmb
      have HMF : Hid (MB w wr B p M g (n + 8) w.heap.size vs (.slice ia ik ic) ik rows (List.replicate (n + 8) (-((M : Int) + 1), 0))) := hmf
      have sp := hmf.bk.cs 1 _ hv1
      have sf := hmf.bk.fz 2
      have hpz := hmf.bk.up
      have m1 := hmf.mm.cell 0 _ rfl
      have m2 := hmf.mm.cell 1 _ rfl
      have hmz := hmf.mm.lt
      have hri4 := hmf.ri
      have hwz := hmf.fr.size
      have N1 : Hid ((Value.slice ia ik ic).ownBlock ≠ some p) := n1
      clear hmb hmf hke H1
      go_wp2_with fail
      go_region_law ((refine step_append_lies _ (by rfl) _ _ _ (by rfl) B 79 k0 _ 3 40 Tryz.underlying40 hi' hy0 hy1 hy2 rfl (by omega) (.slice ia ik ic) ik rows (by rfl) ((hri4.alloc _).drew) ⟨wr.heap.size, 0, none⟩ 1 1 [.int .i64 (-((M : Int) + 1)), .int .i64 0, .slice (some ⟨g, 0, none⟩) (n + 8) (n + 8)] (by rfl) (by rfl) (World.news_of_block (cs := #[.int .i64 (-((M : Int) + 1)), .int .i64 0, .slice (some ⟨g, 0, none⟩) (n + 8) (n + 8)]) (t := 79) (fr := (0, 0)) (heap_alloc_new wr _)) (by simp [Value.oneCell']) (by omega) (by unfold maxLen; omega) (by omega) (by simp; omega) (wr.heap.size + 1) (by simp) ?_; intro gg cap' w5 hown5 hgrow hat hlt5; have sf5 : w5.frozen? ⟨p, 2, none⟩ = false := ((hgrow.frozen_far ⟨p, 2, none⟩ (by simp; omega) (Ne.symm N1.out)).trans (frozen_alloc_drew hpz)).trans sf; have sc5 : w5.cell? ⟨p, 2, none⟩ = some (.slice ia ik ic) := ((hgrow.cell_far ⟨p, 2, none⟩ (by simp; omega) (Ne.symm N1.out)).trans (cell_alloc_drew hpz)).trans sp))
      all_goals
        go_wp2
        go_ret
        exact ⟨rfl, markBits_done HMF.out hpw hgw n2 n3 N1.out hown5 hgrow hat⟩

end Go.Proofs.YtekfbphnoibnjaaGreatDoor
