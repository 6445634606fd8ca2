/-
  The program's reader of a line, call by call, against the plain one.
-/
import Derived.Test.YtekfbphnoibnjaaGreatDoorBuild
namespace Go.Proofs.YtekfbphnoibnjaaGreatDoor
open Go.RowKit

/-- The program's reader in memory, at block b. -/
structure PR (w : World) (b : Nat) (s : ByteArray) (r : RS) : Prop where
  c0 : w.cell? ⟨b, 0, none⟩ = some (.string (s.extract r.pos s.size))
  c1 : w.cell? ⟨b, 1, none⟩ = some (.int .u32 r.rng)
  c2 : w.cell? ⟨b, 2, none⟩ = some (.int .u32 r.code)
  fz : ∀ o, o < 3 → w.frozen? ⟨b, o, none⟩ = false
  ch : ChAt w b 3 r.ch

theorem PR.put0 {w : World} {b : Nat} {s : ByteArray} {r : RS} (h : PR w b s r) (n : Nat) : PR (w.setCell ⟨b, 0, none⟩ (.string (s.extract n s.size))) b s { r with pos := n } :=
  ⟨World.cell?_setCell_same _ _ _ h.c0, cell_off h.c1 (.inr (by decide)), cell_off h.c2 (.inr (by decide)), fun o ho => by rw [World.frozen?_setCell]; exact h.fz o ho, h.ch.off (.inr (.inl (by decide)))⟩
theorem PR.put1 {w : World} {b : Nat} {s : ByteArray} {r : RS} (h : PR w b s r) (n : Int) : PR (w.setCell ⟨b, 1, none⟩ (.int .u32 n)) b s { r with rng := n } :=
  ⟨cell_off h.c0 (.inr (by decide)), World.cell?_setCell_same _ _ _ h.c1, cell_off h.c2 (.inr (by decide)), fun o ho => by rw [World.frozen?_setCell]; exact h.fz o ho, h.ch.off (.inr (.inl (by decide)))⟩
theorem PR.put2 {w : World} {b : Nat} {s : ByteArray} {r : RS} (h : PR w b s r) (n : Int) : PR (w.setCell ⟨b, 2, none⟩ (.int .u32 n)) b s { r with code := n } :=
  ⟨cell_off h.c0 (.inr (by decide)), cell_off h.c1 (.inr (by decide)), World.cell?_setCell_same _ _ _ h.c2, fun o ho => by rw [World.frozen?_setCell]; exact h.fz o ho, h.ch.off (.inr (.inl (by decide)))⟩
theorem PR.putC {w : World} {b : Nat} {s : ByteArray} {r : RS} (h : PR w b s r) (k : Nat) (v : Int) : PR (w.setCell ⟨b, 3 + k, none⟩ (.int .u32 v)) b s { r with ch := r.ch.set k v } :=
  ⟨cell_off h.c0 (.inr (by omega)), cell_off h.c1 (.inr (by omega)), cell_off h.c2 (.inr (by omega)), fun o ho => by rw [World.frozen?_setCell]; exact h.fz o ho, h.ch.set k v⟩
theorem PR.on {w w' : World} {b : Nat} {s : ByteArray} {r : RS} (h : PR w b s r) (hb : w'.heap[b]? = w.heap[b]?) : PR w' b s r := by
  have hc : ∀ o, w'.cell? ⟨b, o, none⟩ = w.cell? ⟨b, o, none⟩ := fun o => World.cell?_of_block (a := ⟨b, o, none⟩) hb
  exact ⟨(hc 0).trans h.c0, (hc 1).trans h.c1, (hc 2).trans h.c2, fun o ho => (World.frozen?_of_block (a := ⟨b, o, none⟩) hb).trans (h.fz o ho), h.ch.on hb⟩
theorem PR.drewN {w : World} {b : Nat} {s : ByteArray} {r : RS} (h : PR w b s r) (n : Nat) : PR (w.drewN n) b s r := h.on rfl
theorem PR.drew {w : World} {b : Nat} {s : ByteArray} {r : RS} (h : PR w b s r) : PR w.drew b s r := h.on rfl

theorem rest_size (s : ByteArray) (i : Nat) : (s.extract i s.size).size = s.size - i := by simp
theorem rest_next (s : ByteArray) (i : Nat) : (s.extract i s.size).extract 1 (s.extract i s.size).size = s.extract (i + 1) s.size := by
  rw [rest_size, ByteArray.extract_extract]
  congr 1; omega
theorem rest_end (s : ByteArray) (i : Nat) (h : s.size ≤ i) : s.extract i s.size = ByteArray.mk #[] := by
  apply ByteArray.ext
  simp
  omega

theorem isEmpty_pos (t : ByteArray) (h : 0 < t.size) : t.toList.isEmpty = false := by
  rw [ByteArray.toList_eq]
  cases hl : t.data.toList with
  | nil => have : t.data.size = 0 := by rw [← Array.length_toList, hl]; rfl
           have h' : 0 < t.data.size := h
           omega
  | cons => rfl

theorem head_eq (t s : ByteArray) (i : Nat) (hi : i < s.size) (h0 : 0 < t.size) (e : t = s.extract i s.size) : t[0] = s[i] := by
  subst e
  simp [ByteArray.getElem_extract]
theorem or_shift (C : Int) (x : UInt8) (c0 : 0 ≤ C) (c1 : C < 16777216) : bits BinOp.or IntKind.u32 (C * 256) ((x.toNat : Int) % 4294967296) = 256 * C + x.toNat := by
  have hx := x.toNat_lt
  obtain ⟨c, rfl⟩ := Int.eq_ofNat_of_zero_le c0
  rw [show ((x.toNat : Int) % 4294967296) = ((x.toNat : Nat) : Int) by omega, show ((c : Int) * 256) = ((c * 256 : Nat) : Int) by simp]
  rw [u32_or_nat (c * 256) x.toNat (by omega) (by omega)]
  have h := Nat.two_pow_add_eq_or_of_lt (i := 8) (b := x.toNat) (by omega) c
  rw [show c * 256 = 2 ^ 8 * c by omega, ← h]
  omega

/-- The block of a reader alone. -/
def oneS (b : Nat) : Nat → Prop := fun k => k = b

set_option maxHeartbeats 1000000 in
set_option maxRecDepth 20000 in
theorem shift_end (w : World) (b : Nat) (s : ByteArray) (r : RS) (a0 : Addr) (h : PR w b s r) (hp : s.size ≤ r.pos) (he : w.cell? ⟨1, 0, none⟩ = some (.iface 278 (.pointer (some a0)))) :
    Calls Tryz.prog 85 #[.pointer (some ⟨b, 0, none⟩)] w fun x w' => x = .returned (.iface 278 (.pointer (some a0))) ∧ w' = w := by
  have i0 := h.c0
  rw [rest_end s r.pos hp] at i0
  have hem : (ByteArray.mk #[]).toList.isEmpty = true := by rw [ByteArray.toList_eq]; rfl
  clear h
  go_enter Tryz.func85, Tryz.ntmps85
  go_wp2
  go_ret
  exact ⟨rfl, rfl⟩

set_option maxHeartbeats 1000000 in
set_option maxRecDepth 20000 in
theorem shift_next (w : World) (b : Nat) (s : ByteArray) (r : RS) (h : PR w b s r) (hp : r.pos < s.size) (hs : s.size ≤ maxLen) (c0 : 0 ≤ r.code) (c1 : r.code < 16777216) :
    Calls Tryz.prog 85 #[.pointer (some ⟨b, 0, none⟩)] w fun x w' => x = .returned .nilIface ∧ PR w' b s { r with pos := r.pos + 1, code := 256 * r.code + Rdr.octB s r } ∧ Frm (oneS b) w w' := by
  have i0 := h.c0
  have i2 := h.c2
  have f0 := h.fz 0 (by decide)
  have f2 := h.fz 2 (by decide)
  obtain ⟨t, ht⟩ : ∃ t, t = s.extract r.pos s.size := ⟨_, rfl⟩
  have hts : t.size = s.size - r.pos := by rw [ht, rest_size]
  have ht0 : 0 < t.size := by omega
  have hem := isEmpty_pos t ht0
  have htl : t.size ≤ maxLen := by omega
  unfold maxLen at htl
  rw [← ht] at i0
  obtain ⟨C, hC⟩ : ∃ C, C = r.code := ⟨_, rfl⟩
  rw [← hC] at i2 c0 c1
  have HT : Hid (t = s.extract r.pos s.size) := ht
  have HH : Hid (PR w b s r) := h
  have HC : Hid (C = r.code) := hC
  clear h ht hC hts
  go_enter Tryz.func85, Tryz.ntmps85
  go_wp2
  go_region
  have hor := or_shift C (t[0]) c0 c1
  rw [hor]
  go_wp2
  go_ret
  have e1 : t.extract 1 t.size = s.extract (r.pos + 1) s.size := by rw [HT.out]; exact rest_next s r.pos
  have e2 : (256 : Int) * C + ((t[0]).toNat : Int) = 256 * r.code + Rdr.octB s r := by
    rw [HC.out]
    unfold Rdr.octB
    rw [if_pos hp, byteAt_get s _ hp]
    rw [head_eq t s r.pos hp ht0 HT.out]
  rw [e1, e2]
  exact ⟨rfl, ((HH.out.put2 _).put0 (r.pos + 1)).drew, (((Frm.refl (oneS b) w).setCell (.inl (show oneS b b from rfl)) _).setCell (.inl (show oneS b b from rfl)) _).drew⟩

/-- The sentinels: the number of the error, the package variable. -/
def sntG : List (Nat × Nat) := [(5, 1), (7, 7), (6, 6), (8, 3), (4, 0), (2, 5), (9, 4), (10, 2)]
/-- The sentinels as they stand in memory: A: where each lies, by the error's number. -/
structure ErrsA (w : World) (A : Nat → Addr) : Prop where
  v : ∀ x ∈ sntG, w.cell? ⟨x.2, 0, none⟩ = some (.iface 278 (.pointer (some (A x.1))))
  h : ∀ x ∈ sntG, ∃ c t, w.heap[(A x.1).block]? = some (.cells c t (0, 0))
  n : ∀ x ∈ sntG, ∀ y ∈ sntG, x.1 ≠ y.1 → A x.1 ≠ A y.1
theorem heap_lt {w : World} {k : Nat} {o : Obj} (h : w.heap[k]? = some o) : k < w.heap.size := by
  rcases Nat.lt_or_ge k w.heap.size with h' | h'
  · exact h'
  · rw [Array.getElem?_eq_none h'] at h; cases h
theorem ErrsA.below {w w' : World} {A : Nat → Addr} (h : ErrsA w A) (f : Below w.heap.size w w') : ErrsA w' A :=
  ⟨fun x hx => (f.cell (World.block_lt_of_cell? w _ (h.v x hx))).trans (h.v x hx), fun x hx => by
    obtain ⟨c, t, e⟩ := h.h x hx
    exact ⟨c, t, (f.block _ (heap_lt e)).trans e⟩, h.n⟩
/-- The three sentinels of a line, as they stand in memory (and the others). -/
structure Errs (w : World) (a0 a1 a2 : Addr) : Prop where
  v0 : w.cell? ⟨1, 0, none⟩ = some (.iface 278 (.pointer (some a0)))
  v1 : w.cell? ⟨6, 0, none⟩ = some (.iface 278 (.pointer (some a1)))
  v2 : w.cell? ⟨7, 0, none⟩ = some (.iface 278 (.pointer (some a2)))
  oth : ∃ A, ErrsA w A ∧ A 5 = a0 ∧ A 6 = a1 ∧ A 7 = a2
theorem ErrsA.errs {w : World} {A : Nat → Addr} (h : ErrsA w A) : Errs w (A 5) (A 6) (A 7) :=
  ⟨h.v (5, 1) (by decide), h.v (6, 6) (by decide), h.v (7, 7) (by decide), A, h, rfl, rfl, rfl⟩
theorem Errs.below {w w' : World} {a0 a1 a2 : Addr} (h : Errs w a0 a1 a2) (f : Below w.heap.size w w') : Errs w' a0 a1 a2 := by
  obtain ⟨A, hA, rfl, rfl, rfl⟩ := h.oth
  exact (hA.below f).errs

/-- The error value of a number. -/
def errV (a0 a1 a2 : Addr) (e : Int) : Value := if e = 0 then .nilIface else .iface 278 (.pointer (some (if e = 5 then a0 else if e = 6 then a1 else a2)))

theorem four_stay (s : ByteArray) (r : RS) (n : Nat) (h : (Rdr.four s r n).err = 5) : ∀ m, (Rdr.four s r (n + m)).err = 5
  | 0 => h
  | m + 1 => by
    show (Rdr.four s r ((n + m) + 1)).err = 5
    rw [Rdr.four_succ]
    show (Rdr.octS s (Rdr.four s r (n + m))).err = 5
    have := four_stay s r n h m
    unfold Rdr.octS
    split
    · exact this
    · show (if (Rdr.four s r (n + m)).err = 0 then 5 else (Rdr.four s r (n + m)).err) = 5
      rw [this]; rfl

set_option maxHeartbeats 2000000 in
set_option maxRecDepth 20000 in
theorem pNewReader (w : World) (s : ByteArray) (hs : s.size ≤ maxLen) (a0 a1 a2 : Addr) (E : Errs w a0 a1 a2) :
    Calls Tryz.prog 45 #[.string s] w fun x w' => ∃ p, x = .returned (.tuple #[p, errV a0 a1 a2 (Rdr.start s ch0).err]) ∧ ((Rdr.start s ch0).err = 0 → ∃ b, p = .pointer (some ⟨b, 0, none⟩) ∧ w.heap.size ≤ b ∧ b < w'.heap.size ∧ PR w' b s (Rdr.start s ch0)) ∧ Below w.heap.size w w' := by
  have HE : Hid (Errs w a0 a1 a2) := E
  clear E
  obtain ⟨hzero, hsize⟩ := zero_of_info rdInfo
  obtain ⟨Z, hZ⟩ : ∃ Z, Z = #[Value.string (ByteArray.mk #[]), .int .u32 0, .int .u32 0] ++ Array.replicate 400 (.int .u32 0) := ⟨_, rfl⟩
  rw [← hZ] at hzero
  have hZs : Z.size = 403 := by rw [hZ, Array.size_append, Array.size_replicate]; rfl
  have hZ2 : Z[2]? = some (.int .u32 0) := by rw [hZ, Array.getElem?_append_left (by simp)]; rfl
  have hZn : Z ≠ #[] := fun e => by rw [e] at hZs; exact absurd hZs (by decide)
  have hcs : chEven.size = 400 := evens_size 400
  clear hZ hsize
  go_enter Tryz.func45, Tryz.ntmps45
  go_wp2_with (go_at_call 84; refine (newChances _).mono ?_; rintro e w1 ⟨rfl, hb⟩)
  obtain ⟨C, hC⟩ : ∃ C, C = Array.foldl (fun cs x => cs.setIfInBounds (3 + x.snd) x.fst) ((Z.setIfInBounds 0 (Value.string s)).setIfInBounds 1 (Value.int IntKind.u32 4294967295)) chEven.zipIdx 0 400 := ⟨_, rfl⟩
  rw [← hC]
  have hC' : C = laidAt ((Z.setIfInBounds 0 (Value.string s)).setIfInBounds 1 (Value.int IntKind.u32 4294967295)) 3 chEven := by
    rw [hC]; unfold laidAt; rw [hcs]
  have HR : PR (w1.alloc (.cells C 162)) w1.heap.size s (Rdr.r0 ch0) := by
    rw [hC']
    refine ⟨?_, ?_, ?_, fun o _ => by simp, chAt_laid w1 _ _ (by simp [hZs])⟩
    · rw [cell_laid w1 _ _ 0 (by decide)]
      rw [Array.getElem?_setIfInBounds_ne (by decide), Array.getElem?_setIfInBounds_self_of_lt (by omega)]
      congr 2
      apply ByteArray.ext
      simp [Rdr.r0]
    · rw [cell_laid w1 _ _ 1 (by decide), Array.getElem?_setIfInBounds_self_of_lt (by simp; omega)]; rfl
    · rw [cell_laid w1 _ _ 2 (by decide), Array.getElem?_setIfInBounds_ne (by decide), Array.getElem?_setIfInBounds_ne (by decide), hZ2]; rfl
  have HB : Below w.heap.size w (w1.alloc (.cells C 162)) := hb.alloc hb.size _
  have hlo := hb.size
  have hup : w1.heap.size < (w1.alloc (.cells C 162)).heap.size := by simp
  obtain ⟨b, hbb⟩ : ∃ b, b = w1.heap.size := ⟨_, rfl⟩
  rw [← hbb] at HR hlo hup ⊢
  clear hbb hb hC hC' hZ2 hZn hzero hZs hcs
  go_loopw [10] (fun i wr => ∃ k : Nat, k ≤ 4 ∧ i = .int .i64 k ∧ PR wr b s (Rdr.four s (Rdr.r0 ch0) k) ∧ (Rdr.four s (Rdr.r0 ch0) k).err = 0 ∧ Below w.heap.size w wr ∧ b < wr.heap.size) (fun i _ => 4 - (intOf i).toNat)
  case atStart => exact ⟨0, by omega, rfl, HR, rfl, HB, hup⟩
  case round =>
    clear HR HB
    obtain ⟨k, hk, rfl, hr, he0, hbr, hbu⟩ := hrel
    have HE0 : Hid ((Rdr.four s (Rdr.r0 ch0) k).err = 0) := he0
    clear he0
    obtain ⟨h1, h2, h3, h4, h5, h6⟩ := Rdr.four_facts s ch0 k
    by_cases hlt : k < 4
    · have hlt' : (k : Int) < 4 := by omega
      have hcode : (Rdr.four s (Rdr.r0 ch0) k).code < 16777216 := by
        rcases (by omega : k = 0 ∨ k = 1 ∨ k = 2 ∨ k = 3) with rfl | rfl | rfl | rfl <;> omega
      have hsucc : Hid (Rdr.four s (Rdr.r0 ch0) (k + 1) = { Rdr.octS s (Rdr.four s (Rdr.r0 ch0) k) with code := 256 * (Rdr.four s (Rdr.r0 ch0) k).code + Rdr.octB s (Rdr.four s (Rdr.r0 ch0) k) }) := Rdr.four_succ _ _ _
      have hst : Hid (∀ e, (Rdr.four s (Rdr.r0 ch0) (k + 1)).err = 5 → (Rdr.start s ch0).err = e → e = 5) := by
        intro e h5 hs'
        have h4' := four_stay s (Rdr.r0 ch0) (k + 1) h5 (4 - (k + 1))
        rw [show k + 1 + (4 - (k + 1)) = 4 by omega] at h4'
        rw [Rdr.start_eq, if_neg (fun h => by rw [h4'] at h; exact absurd h.1 (by decide))] at hs'
        rw [← hs', h4']
      obtain ⟨q, hq⟩ : ∃ q, q = Rdr.four s (Rdr.r0 ch0) k := ⟨_, rfl⟩
      rw [← hq] at hr h1 h5 hcode hsucc HE0
      clear hq h2 h3 h4 h6
      by_cases hp : q.pos < s.size
      · go_wp2_with (go_at_call 85; refine (shift_next _ b s q hr hp hs h5 hcode).mono ?_; rintro x w2 ⟨rfl, g1, g2⟩)
        go_roundw
        case rel =>
          have e1 : Rdr.four s (Rdr.r0 ch0) (k + 1) = { q with pos := q.pos + 1, code := 256 * q.code + Rdr.octB s q } := by
            rw [hsucc.out]; unfold Rdr.octS; rw [if_pos hp]
          exact ⟨k + 1, by omega, by go_num, by rw [e1]; exact g1, by rw [e1]; exact HE0.out, hbr.trans (g2.below hbr.size (fun j hj => by rw [show j = b from hj]; exact hlo)), Nat.lt_of_lt_of_le hbu g2.size⟩
        case measure => simp [intOf]; omega
      · have e5 : (Rdr.start s ch0).err = 5 := by
          refine hst.out _ ?_ rfl
          rw [hsucc.out]
          show (Rdr.octS s q).err = 5
          unfold Rdr.octS
          rw [if_neg hp]
          show (if q.err = 0 then 5 else q.err) = 5
          rw [if_pos HE0.out]
        have HE5 : Hid ((Rdr.start s ch0).err = 5) := e5
        clear e5
        have hv0 := (HE.out.below hbr).v0
        go_wp2_with (go_at_call 85; refine (shift_end _ b s q a0 hr (by omega) hv0).mono ?_; rintro x w2 ⟨rfl, rfl⟩)
        go_ret2
        exact ⟨_, by rw [HE5.out]; rfl, fun h => absurd (HE5.out.symm.trans h) (by decide), hbr⟩
    · obtain rfl : k = 4 := by omega
      have i2 := hr.c2
      by_cases hc : 4294967295 ≤ (Rdr.four s (Rdr.r0 ch0) 4).code
      · have e7 : (Rdr.start s ch0).err = 7 := by
          rw [Rdr.start_eq, if_pos ⟨HE0.out, hc⟩]
          unfold Rdr.fail
          show (if (Rdr.four s (Rdr.r0 ch0) 4).err = 0 then 7 else (Rdr.four s (Rdr.r0 ch0) 4).err) = 7
          rw [if_pos HE0.out]
        have HE7 : Hid ((Rdr.start s ch0).err = 7) := e7
        clear e7
        have hv2 := (HE.out.below hbr).v2
        go_wp2
        go_quiet (fail)
        go_wp2
        go_ret2
        exact ⟨_, by rw [HE7.out]; rfl, fun h => absurd (HE7.out.symm.trans h) (by decide), below_drewN hbr _⟩
      · have es : Rdr.start s ch0 = Rdr.four s (Rdr.r0 ch0) 4 := by rw [Rdr.start_eq, if_neg (fun e => hc e.2)]
        have HES : Hid (Rdr.start s ch0 = Rdr.four s (Rdr.r0 ch0) 4) := es
        clear es
        go_wp2
        go_ret2
        exact ⟨_, by rw [HES.out, HE0.out]; rfl, fun _ => ⟨b, rfl, hlo, hbu, by rw [HES.out]; exact hr⟩, hbr⟩

end Go.Proofs.YtekfbphnoibnjaaGreatDoor
