/-
  A struct that holds an array, as a composite literal builds it. The program's reader of a line, call by call, against the plain one. The program's reader reads one bit; a line's end: against the plain one. The program's reader of a line reads a number, a signed number.
-/
import Derived.Test.YtekfbphnoibnjaaGreatDoorF10
import Derived.Test.YtekfbphnoibnjaaGreatDoorF03
namespace Go.Proofs.YtekfbphnoibnjaaGreatDoor
open Go.RowKit
def laidAt (cs : Array Value) (o : Nat) (xs : Array Value) : Array Value := Array.foldl (fun cs x => cs.setIfInBounds (o + x.snd) x.fst) cs xs.zipIdx 0 xs.size
theorem foldl_laid (o : Nat) : ∀ (xs : List Value) (n : Nat) (cs : Array Value), ((xs.zipIdx n).foldl (fun cs x => cs.setIfInBounds (o + x.snd) x.fst) cs).size = cs.size /\
  ∀ j, ((xs.zipIdx n).foldl (fun cs x => cs.setIfInBounds (o + x.snd) x.fst) cs)[j]? = if o + n <= j /\ j < o + n + xs.length /\ j < cs.size then xs[j - (o + n)]? else cs[j]?
 | [], n, cs => ⟨rfl, fun j => by simp; intro h1 h2; omega⟩
 | x :: xs, n, cs => by
  obtain ⟨h1, h2⟩ := foldl_laid o xs (n + 1) (cs.setIfInBounds (o + n) x)
  rw [List.zipIdx_cons, List.foldl_cons]
  refine ⟨by rw [h1]; simp, fun j => ?_⟩
  rw [h2 j]
  by_cases e : j = o + n
  ·subst e
   rw [if_neg (by omega)]
   by_cases hl : o + n < cs.size
   ·rw [if_pos ⟨by omega, by simp, hl⟩, Array.getElem?_setIfInBounds_self_of_lt hl]; simp
   ·rw [if_neg (fun h => hl h.2.2)]
    rw [Array.getElem?_eq_none (by simp; omega), Array.getElem?_eq_none (by omega)]
  ·rw [Array.getElem?_setIfInBounds_ne (fun h => e h.symm)]
   by_cases hl : o + (n + 1) <= j /\ j < o + (n + 1) + xs.length /\ j < cs.size
   ·rw [if_pos (by simpa using hl), if_pos (by simp; omega), show j - (o + n) = (j - (o + (n + 1))) + 1 by omega, List.getElem?_cons_succ]
   ·rw [if_neg (by simpa using hl), if_neg (by simp; omega)]
theorem laidAt_eq (cs : Array Value) (o : Nat) (xs : Array Value) : laidAt cs o xs = (xs.toList.zipIdx 0).foldl (fun cs x => cs.setIfInBounds (o + x.snd) x.fst) cs := by
 unfold laidAt
 rw [show xs.size = xs.zipIdx.size by simp, <- Array.foldl_toList, Array.toList_zipIdx]
theorem laidAt_get (cs : Array Value) (o : Nat) (xs : Array Value) (j : Nat) : (laidAt cs o xs)[j]? = if o <= j /\ j < o + xs.size /\ j < cs.size then xs[j - o]? else cs[j]? := by
 rw [laidAt_eq, (foldl_laid o xs.toList 0 cs).2 j]
 simp
theorem rdInfo : (Tryz.prog.info? 162).map (fun i => (i.zero, i.size)) = some (some (.agg (#[.string (ByteArray.mk #[]), .int .u32 0, .int .u32 0] ++ Array.replicate 400 (.int .u32 0))), 403) := by kernel_rfl
theorem chAt_laid (w : World) (Z : Array Value) (t : TypeId) (hZ : Z.size = 403) : ChAt (w.alloc (.cells (laidAt Z 3 chEven) t)) w.heap.size 3 ch0 := by
 have hcs : chEven.size = 400 := evens_size 400
 refine ⟨List.length_replicate, fun k hk => ?_, fun k hk => ?_⟩
 ·rw [cell_of_row _ _ (3 + k) _ t (0, 0) (heap_alloc_last w _), laidAt_get, if_pos ⟨by omega, by omega, by omega⟩, show 3 + k - 3 = k by omega, ch0_get k hk]
  exact evens_get 400 k hk
 ·simp
theorem cell_laid (w : World) (Z : Array Value) (t : TypeId) (j : Nat) (hj : j < 3) : (w.alloc (.cells (laidAt Z 3 chEven) t)).cell? ⟨w.heap.size, j, none⟩ = Z[j]? := by
 rw [cell_of_row _ _ j _ t (0, 0) (heap_alloc_last w _), laidAt_get, if_neg (by omega)]
end Go.Proofs.YtekfbphnoibnjaaGreatDoor
namespace Go.Proofs.YtekfbphnoibnjaaGreatDoor
open Go.RowKit
structure PR (w : World) (b : Nat) (s : ByteArray) (r : RS) : Prop where
 c0 : w.cell? ⟨b, 0, none⟩ = some (.string (s.extract r.pos s.size))
 c1 : w.cell? ⟨b, 1, none⟩ = some (.int .u32 r.rng)
 c2 : w.cell? ⟨b, 2, none⟩ = some (.int .u32 r.code)
 fz : ∀ o, o < 3 -> w.frozen? ⟨b, o, none⟩ = false
 ch : ChAt w b 3 r.ch
theorem PR.put0 {w : World} {b : Nat} {s : ByteArray} {r : RS} (h : PR w b s r) (n : Nat) : PR (w.setCell ⟨b, 0, none⟩ (.string (s.extract n s.size))) b s { r with pos := n } :=
 ⟨World.cell?_setCell_same _ _ _ h.c0, cell_off h.c1 (.inr (by decide)), cell_off h.c2 (.inr (by decide)), fun o ho => by rw [World.frozen?_setCell]; exact h.fz o ho, h.ch.off (.inr (.inl (by decide)))⟩
theorem PR.put1 {w : World} {b : Nat} {s : ByteArray} {r : RS} (h : PR w b s r) (n : Int) : PR (w.setCell ⟨b, 1, none⟩ (.int .u32 n)) b s { r with rng := n } :=
 ⟨cell_off h.c0 (.inr (by decide)), World.cell?_setCell_same _ _ _ h.c1, cell_off h.c2 (.inr (by decide)), fun o ho => by rw [World.frozen?_setCell]; exact h.fz o ho, h.ch.off (.inr (.inl (by decide)))⟩
theorem PR.put2 {w : World} {b : Nat} {s : ByteArray} {r : RS} (h : PR w b s r) (n : Int) : PR (w.setCell ⟨b, 2, none⟩ (.int .u32 n)) b s { r with code := n } :=
 ⟨cell_off h.c0 (.inr (by decide)), cell_off h.c1 (.inr (by decide)), World.cell?_setCell_same _ _ _ h.c2, fun o ho => by rw [World.frozen?_setCell]; exact h.fz o ho, h.ch.off (.inr (.inl (by decide)))⟩
theorem PR.putC {w : World} {b : Nat} {s : ByteArray} {r : RS} (h : PR w b s r) (k : Nat) (v : Int) : PR (w.setCell ⟨b, 3 + k, none⟩ (.int .u32 v)) b s { r with ch := r.ch.set k v } :=
 ⟨cell_off h.c0 (.inr (by omega)), cell_off h.c1 (.inr (by omega)), cell_off h.c2 (.inr (by omega)), fun o ho => by rw [World.frozen?_setCell]; exact h.fz o ho, h.ch.set k v⟩
theorem PR.on {w w' : World} {b : Nat} {s : ByteArray} {r : RS} (h : PR w b s r) (hb : w'.heap[b]? = w.heap[b]?) : PR w' b s r := by
 have hc : ∀ o, w'.cell? ⟨b, o, none⟩ = w.cell? ⟨b, o, none⟩ := fun o => World.cell?_of_block (a := ⟨b, o, none⟩) hb
 exact ⟨(hc 0).trans h.c0, (hc 1).trans h.c1, (hc 2).trans h.c2, fun o ho => (World.frozen?_of_block (a := ⟨b, o, none⟩) hb).trans (h.fz o ho), h.ch.on hb⟩
theorem PR.drewN {w : World} {b : Nat} {s : ByteArray} {r : RS} (h : PR w b s r) (n : Nat) : PR (w.drewN n) b s r := h.on rfl
theorem PR.drew {w : World} {b : Nat} {s : ByteArray} {r : RS} (h : PR w b s r) : PR w.drew b s r := h.on rfl
theorem rest_size (s : ByteArray) (i : Nat) : (s.extract i s.size).size = s.size - i := by simp
theorem rest_next (s : ByteArray) (i : Nat) : (s.extract i s.size).extract 1 (s.extract i s.size).size = s.extract (i + 1) s.size := by
 rw [rest_size, ByteArray.extract_extract]
 congr 1; omega
theorem rest_end (s : ByteArray) (i : Nat) (h : s.size <= i) : s.extract i s.size = ByteArray.mk #[] := by
 apply ByteArray.ext
 simp
 omega
theorem isEmpty_pos (t : ByteArray) (h : 0 < t.size) : t.toList.isEmpty = false := by
 rw [ByteArray.toList_eq]
 cases hl : t.data.toList with
 | nil =>
  have : t.data.size = 0 := by rw [<- Array.length_toList, hl]; rfl
  have h' : 0 < t.data.size := h
  omega
 | cons => rfl
theorem head_eq (t s : ByteArray) (i : Nat) (hi : i < s.size) (h0 : 0 < t.size) (e : t = s.extract i s.size) : t[0] = s[i] := by
 subst e
 simp [ByteArray.getElem_extract]
theorem or_shift (C : Int) (x : UInt8) (c0 : 0 <= C) (c1 : C < 16777216) : bits BinOp.or IntKind.u32 (C * 256) ((x.toNat : Int) % 4294967296) = 256 * C + x.toNat := by
 have hx := x.toNat_lt
 obtain ⟨c, rfl⟩ := Int.eq_ofNat_of_zero_le c0
 rw [show ((x.toNat : Int) % 4294967296) = ((x.toNat : Nat) : Int) by omega, show ((c : Int) * 256) = ((c * 256 : Nat) : Int) by simp]
 rw [u32_or_nat (c * 256) x.toNat (by omega) (by omega)]
 have h := Nat.two_pow_add_eq_or_of_lt (i := 8) (b := x.toNat) (by omega) c
 rw [show c * 256 = 2 ^ 8 * c by omega, <- h]
 omega
def oneS (b : Nat) : Nat -> Prop := fun k => k = b
set_option maxHeartbeats 1000000 in
set_option maxRecDepth 20000 in
theorem shift_end (w : World) (b : Nat) (s : ByteArray) (r : RS) (a0 : Addr) (h : PR w b s r) (hp : s.size <= r.pos) (he : w.cell? ⟨1, 0, none⟩ = some (.iface 278 (.pointer (some a0)))) :
  Calls Tryz.prog 85 #[.pointer (some ⟨b, 0, none⟩)] w fun x w' => x = .returned (.iface 278 (.pointer (some a0))) /\ w' = w := by
 have i0 := h.c0
 rw [rest_end s r.pos hp] at i0
 have hem : (ByteArray.mk #[]).toList.isEmpty = true := by rw [ByteArray.toList_eq]; rfl
 clear h
 go_enter Tryz.func85, Tryz.ntmps85
 go_wp2
 go_ret
 exact ⟨rfl, rfl⟩
set_option maxHeartbeats 1000000 in
set_option maxRecDepth 20000 in
theorem shift_next (w : World) (b : Nat) (s : ByteArray) (r : RS) (h : PR w b s r) (hp : r.pos < s.size) (hs : s.size <= maxLen) (c0 : 0 <= r.code) (c1 : r.code < 16777216) :
  Calls Tryz.prog 85 #[.pointer (some ⟨b, 0, none⟩)] w fun x w' => x = .returned .nilIface /\ PR w' b s { r with pos := r.pos + 1, code := 256 * r.code + Rdr.octB s r } /\ Frm (oneS b) w w' := by
 have i0 := h.c0
 have i2 := h.c2
 have f0 := h.fz 0 (by decide)
 have f2 := h.fz 2 (by decide)
 obtain ⟨t, ht⟩ : ∃ t, t = s.extract r.pos s.size := ⟨_, rfl⟩
 have hts : t.size = s.size - r.pos := by rw [ht, rest_size]
 have ht0 : 0 < t.size := by omega
 have hem := isEmpty_pos t ht0
 have htl : t.size <= maxLen := by omega
 unfold maxLen at htl
 rw [<- ht] at i0
 obtain ⟨C, hC⟩ : ∃ C, C = r.code := ⟨_, rfl⟩
 rw [<- hC] at i2 c0 c1
 have HT : Hid (t = s.extract r.pos s.size) := ht
 have HH : Hid (PR w b s r) := h
 have HC : Hid (C = r.code) := hC
 clear h ht hC hts
 go_enter Tryz.func85, Tryz.ntmps85
 go_wp2
 go_region
 have hor := or_shift C (t[0]) c0 c1
 rw [hor]
 go_wp2
 go_ret
 have e1 : t.extract 1 t.size = s.extract (r.pos + 1) s.size := by rw [HT.out]; exact rest_next s r.pos
 have e2 : (256 : Int) * C + ((t[0]).toNat : Int) = 256 * r.code + Rdr.octB s r := by
  rw [HC.out]
  unfold Rdr.octB
  rw [if_pos hp, byteAt_get s _ hp]
  rw [head_eq t s r.pos hp ht0 HT.out]
 rw [e1, e2]
 exact ⟨rfl, ((HH.out.put2 _).put0 (r.pos + 1)).drew, (((Frm.refl (oneS b) w).setCell (.inl (show oneS b b from rfl)) _).setCell (.inl (show oneS b b from rfl)) _).drew⟩
def sntG : List (Nat × Nat) := [(5, 1), (7, 7), (6, 6), (8, 3), (4, 0), (2, 5), (9, 4), (10, 2)]
structure ErrsA (w : World) (A : Nat -> Addr) : Prop where
 v : ∀ x ∈ sntG, w.cell? ⟨x.2, 0, none⟩ = some (.iface 278 (.pointer (some (A x.1))))
 h : ∀ x ∈ sntG, ∃ c t, w.heap[(A x.1).block]? = some (.cells c t (0, 0))
 n : ∀ x ∈ sntG, ∀ y ∈ sntG, x.1 ≠ y.1 -> A x.1 ≠ A y.1
theorem heap_lt {w : World} {k : Nat} {o : Obj} (h : w.heap[k]? = some o) : k < w.heap.size := by
 rcases Nat.lt_or_ge k w.heap.size with h' | h'
 ·exact h'
 ·rw [Array.getElem?_eq_none h'] at h; cases h
theorem ErrsA.below {w w' : World} {A : Nat -> Addr} (h : ErrsA w A) (f : Below w.heap.size w w') : ErrsA w' A :=
 ⟨fun x hx => (f.cell (World.block_lt_of_cell? w _ (h.v x hx))).trans (h.v x hx), fun x hx => by
  obtain ⟨c, t, e⟩ := h.h x hx
  exact ⟨c, t, (f.block _ (heap_lt e)).trans e⟩, h.n⟩
structure Errs (w : World) (a0 a1 a2 : Addr) : Prop where
 v0 : w.cell? ⟨1, 0, none⟩ = some (.iface 278 (.pointer (some a0)))
 v1 : w.cell? ⟨6, 0, none⟩ = some (.iface 278 (.pointer (some a1)))
 v2 : w.cell? ⟨7, 0, none⟩ = some (.iface 278 (.pointer (some a2)))
 oth : ∃ A, ErrsA w A /\ A 5 = a0 /\ A 6 = a1 /\ A 7 = a2
theorem ErrsA.errs {w : World} {A : Nat -> Addr} (h : ErrsA w A) : Errs w (A 5) (A 6) (A 7) :=
 ⟨h.v (5, 1) (by decide), h.v (6, 6) (by decide), h.v (7, 7) (by decide), A, h, rfl, rfl, rfl⟩
theorem Errs.below {w w' : World} {a0 a1 a2 : Addr} (h : Errs w a0 a1 a2) (f : Below w.heap.size w w') : Errs w' a0 a1 a2 := by
 obtain ⟨A, hA, rfl, rfl, rfl⟩ := h.oth
 exact (hA.below f).errs
def errV (a0 a1 a2 : Addr) (e : Int) : Value := if e = 0 then .nilIface else .iface 278 (.pointer (some (if e = 5 then a0 else if e = 6 then a1 else a2)))
theorem four_stay (s : ByteArray) (r : RS) (n : Nat) (h : (Rdr.four s r n).err = 5) : ∀ m, (Rdr.four s r (n + m)).err = 5
 | 0 => h
 | m + 1 => by
  show (Rdr.four s r ((n + m) + 1)).err = 5
  rw [Rdr.four_succ]
  show (Rdr.octS s (Rdr.four s r (n + m))).err = 5
  have := four_stay s r n h m
  unfold Rdr.octS
  split
  ·exact this
  ·show (if (Rdr.four s r (n + m)).err = 0 then 5 else (Rdr.four s r (n + m)).err) = 5
   rw [this]; rfl
set_option maxHeartbeats 2000000 in
set_option maxRecDepth 20000 in
theorem pNewReader (w : World) (s : ByteArray) (hs : s.size <= maxLen) (a0 a1 a2 : Addr) (E : Errs w a0 a1 a2) :
  Calls Tryz.prog 45 #[.string s] w fun x w' => ∃ p, x = .returned (.tuple #[p, errV a0 a1 a2 (Rdr.start s ch0).err]) /\ ((Rdr.start s ch0).err = 0 -> ∃ b, p = .pointer (some ⟨b, 0, none⟩) /\ w.heap.size <= b /\ b < w'.heap.size /\ PR w' b s (Rdr.start s ch0)) /\ Below w.heap.size w w' := by
 have HE : Hid (Errs w a0 a1 a2) := E
 clear E
 obtain ⟨hzero, hsize⟩ := zero_of_info rdInfo
 obtain ⟨Z, hZ⟩ : ∃ Z, Z = #[Value.string (ByteArray.mk #[]), .int .u32 0, .int .u32 0] ++ Array.replicate 400 (.int .u32 0) := ⟨_, rfl⟩
 rw [<- hZ] at hzero
 have hZs : Z.size = 403 := by rw [hZ, Array.size_append, Array.size_replicate]; rfl
 have hZ2 : Z[2]? = some (.int .u32 0) := by rw [hZ, Array.getElem?_append_left (by simp)]; rfl
 have hZn : Z ≠ #[] := fun e => by rw [e] at hZs; exact absurd hZs (by decide)
 have hcs : chEven.size = 400 := evens_size 400
 clear hZ hsize
 go_enter Tryz.func45, Tryz.ntmps45
 go_wp2_with (go_at_call 84; refine (newChances _).mono ?_; rintro e w1 ⟨rfl, hb⟩)
 obtain ⟨C, hC⟩ : ∃ C, C = Array.foldl (fun cs x => cs.setIfInBounds (3 + x.snd) x.fst) ((Z.setIfInBounds 0 (Value.string s)).setIfInBounds 1 (Value.int IntKind.u32 4294967295)) chEven.zipIdx 0 400 := ⟨_, rfl⟩
 rw [<- hC]
 have hC' : C = laidAt ((Z.setIfInBounds 0 (Value.string s)).setIfInBounds 1 (Value.int IntKind.u32 4294967295)) 3 chEven := by
  rw [hC]; unfold laidAt; rw [hcs]
 have HR : PR (w1.alloc (.cells C 162)) w1.heap.size s (Rdr.r0 ch0) := by
  rw [hC']
  refine ⟨?_, ?_, ?_, fun o _ => by simp, chAt_laid w1 _ _ (by simp [hZs])⟩
  ·rw [cell_laid w1 _ _ 0 (by decide)]
   rw [Array.getElem?_setIfInBounds_ne (by decide), Array.getElem?_setIfInBounds_self_of_lt (by omega)]
   congr 2
   apply ByteArray.ext
   simp [Rdr.r0]
  ·rw [cell_laid w1 _ _ 1 (by decide), Array.getElem?_setIfInBounds_self_of_lt (by simp; omega)]; rfl
  ·rw [cell_laid w1 _ _ 2 (by decide), Array.getElem?_setIfInBounds_ne (by decide), Array.getElem?_setIfInBounds_ne (by decide), hZ2]; rfl
 have HB : Below w.heap.size w (w1.alloc (.cells C 162)) := hb.alloc hb.size _
 have hlo := hb.size
 have hup : w1.heap.size < (w1.alloc (.cells C 162)).heap.size := by simp
 obtain ⟨b, hbb⟩ : ∃ b, b = w1.heap.size := ⟨_, rfl⟩
 rw [<- hbb] at HR hlo hup ⊢
 clear hbb hb hC hC' hZ2 hZn hzero hZs hcs
 go_loopw [10] (fun i wr => ∃ k : Nat, k <= 4 /\ i = .int .i64 k /\ PR wr b s (Rdr.four s (Rdr.r0 ch0) k) /\ (Rdr.four s (Rdr.r0 ch0) k).err = 0 /\ Below w.heap.size w wr /\ b < wr.heap.size) (fun i _ => 4 - (intOf i).toNat)
 case atStart => exact ⟨0, by omega, rfl, HR, rfl, HB, hup⟩
 case round =>
  clear HR HB
  obtain ⟨k, hk, rfl, hr, he0, hbr, hbu⟩ := hrel
  have HE0 : Hid ((Rdr.four s (Rdr.r0 ch0) k).err = 0) := he0
  clear he0
  obtain ⟨h1, h2, h3, h4, h5, h6⟩ := Rdr.four_facts s ch0 k
  by_cases hlt : k < 4
  ·have hlt' : (k : Int) < 4 := by omega
   have hcode : (Rdr.four s (Rdr.r0 ch0) k).code < 16777216 := by
    rcases (by omega : k = 0 \/ k = 1 \/ k = 2 \/ k = 3) with rfl | rfl | rfl | rfl <;> omega
   have hsucc : Hid (Rdr.four s (Rdr.r0 ch0) (k + 1) = { Rdr.octS s (Rdr.four s (Rdr.r0 ch0) k) with code := 256 * (Rdr.four s (Rdr.r0 ch0) k).code + Rdr.octB s (Rdr.four s (Rdr.r0 ch0) k) }) := Rdr.four_succ _ _ _
   have hst : Hid (∀ e, (Rdr.four s (Rdr.r0 ch0) (k + 1)).err = 5 -> (Rdr.start s ch0).err = e -> e = 5) := by
    intro e h5 hs'
    have h4' := four_stay s (Rdr.r0 ch0) (k + 1) h5 (4 - (k + 1))
    rw [show k + 1 + (4 - (k + 1)) = 4 by omega] at h4'
    rw [Rdr.start_eq, if_neg (fun h => by rw [h4'] at h; exact absurd h.1 (by decide))] at hs'
    rw [<- hs', h4']
   obtain ⟨q, hq⟩ : ∃ q, q = Rdr.four s (Rdr.r0 ch0) k := ⟨_, rfl⟩
   rw [<- hq] at hr h1 h5 hcode hsucc HE0
   clear hq h2 h3 h4 h6
   by_cases hp : q.pos < s.size
   ·go_wp2_with (go_at_call 85; refine (shift_next _ b s q hr hp hs h5 hcode).mono ?_; rintro x w2 ⟨rfl, g1, g2⟩)
    go_roundw
    case rel =>
     have e1 : Rdr.four s (Rdr.r0 ch0) (k + 1) = { q with pos := q.pos + 1, code := 256 * q.code + Rdr.octB s q } := by
      rw [hsucc.out]; unfold Rdr.octS; rw [if_pos hp]
     exact ⟨k + 1, by omega, by go_num, by rw [e1]; exact g1, by rw [e1]; exact HE0.out, hbr.trans (g2.below hbr.size (fun j hj => by rw [show j = b from hj]; exact hlo)), Nat.lt_of_lt_of_le hbu g2.size⟩
    case measure => simp [intOf]; omega
   ·have e5 : (Rdr.start s ch0).err = 5 := by
     refine hst.out _ ?_ rfl
     rw [hsucc.out]
     show (Rdr.octS s q).err = 5
     unfold Rdr.octS
     rw [if_neg hp]
     show (if q.err = 0 then 5 else q.err) = 5
     rw [if_pos HE0.out]
    have HE5 : Hid ((Rdr.start s ch0).err = 5) := e5
    clear e5
    have hv0 := (HE.out.below hbr).v0
    go_wp2_with (go_at_call 85; refine (shift_end _ b s q a0 hr (by omega) hv0).mono ?_; rintro x w2 ⟨rfl, rfl⟩)
    go_ret2
    exact ⟨_, by rw [HE5.out]; rfl, fun h => absurd (HE5.out.symm.trans h) (by decide), hbr⟩
  ·obtain rfl : k = 4 := by omega
   have i2 := hr.c2
   by_cases hc : 4294967295 <= (Rdr.four s (Rdr.r0 ch0) 4).code
   ·have e7 : (Rdr.start s ch0).err = 7 := by
     rw [Rdr.start_eq, if_pos ⟨HE0.out, hc⟩]
     unfold Rdr.fail
     show (if (Rdr.four s (Rdr.r0 ch0) 4).err = 0 then 7 else (Rdr.four s (Rdr.r0 ch0) 4).err) = 7
     rw [if_pos HE0.out]
    have HE7 : Hid ((Rdr.start s ch0).err = 7) := e7
    clear e7
    have hv2 := (HE.out.below hbr).v2
    go_wp2
    go_quiet (fail)
    go_wp2
    go_ret2
    exact ⟨_, by rw [HE7.out]; rfl, fun h => absurd (HE7.out.symm.trans h) (by decide), below_drewN hbr _⟩
   ·have es : Rdr.start s ch0 = Rdr.four s (Rdr.r0 ch0) 4 := by rw [Rdr.start_eq, if_neg (fun e => hc e.2)]
    have HES : Hid (Rdr.start s ch0 = Rdr.four s (Rdr.r0 ch0) 4) := es
    clear es
    go_wp2
    go_ret2
    exact ⟨_, by rw [HES.out, HE0.out]; rfl, fun _ => ⟨b, rfl, hlo, hbu, by rw [HES.out]; exact hr⟩, hbr⟩
end Go.Proofs.YtekfbphnoibnjaaGreatDoor
namespace Go.Proofs.YtekfbphnoibnjaaGreatDoor
open Go.RowKit
def spanOf (w : World) (b : Nat) : Nat := (intOf ((w.cell? ⟨b, 1, none⟩).getD undef)).toNat
theorem spanOf_eq {w : World} {b : Nat} {s : ByteArray} {r : RS} (h : PR w b s r) : spanOf w b = r.rng.toNat := by
 unfold spanOf; rw [h.c1]; rfl
theorem octS_nil {s : ByteArray} {r : RS} (hp : r.pos < s.size) : Rdr.octS s r = { r with pos := r.pos + 1 } := by unfold Rdr.octS; rw [if_pos hp]
theorem pull_err {s : ByteArray} {r : RS} (he : r.err = 0) (hp : ¬ r.pos < s.size) : (Rdr.pull s r).err = 5 := by
 unfold Rdr.pull
 show (Rdr.octS s r).err = 5
 unfold Rdr.octS
 rw [if_neg hp]
 show (if r.err = 0 then 5 else r.err) = 5
 rw [if_pos he]
theorem pull_ok {s : ByteArray} {r : RS} (he : r.err = 0) (hp : r.pos < s.size) : (Rdr.pull s r).err = 0 := by
 unfold Rdr.pull
 show (Rdr.octS s r).err = 0
 rw [octS_nil hp]; exact he
def bitEnd (a0 a1 a2 : Addr) (w0 : World) (b : Nat) (s : ByteArray) (v : Int) (q : RS) (x : Ending) (w' : World) : Prop :=
 x = .returned (.tuple #[.int .i64 (if (Rdr.norm s q).err = 0 then v else 0), errV a0 a1 a2 (Rdr.norm s q).err]) /\ ((Rdr.norm s q).err = 0 -> PR w' b s (Rdr.norm s q)) /\ Frm (oneS b) w0 w'
set_option maxHeartbeats 2000000 in
set_option maxRecDepth 20000 in
theorem pBit_zero (w : World) (b : Nat) (s : ByteArray) (pos : Nat) (R C : Int) (ch : List Int) (k : Nat) (c : Int) (a0 a1 a2 : Addr) (h : PR w b s ⟨pos, R, C, ch, 0⟩) (hs : s.size <= maxLen) (hp : pos <= s.size) (hE : b ≠ 1) (hv : w.cell? ⟨1, 0, none⟩ = some (.iface 278 (.pointer (some a0))))
  (hk : k < 400) (hc : ch.getD k 0 = c) (c0 : 31 <= c) (c1 : c <= 4065) (R0 : 16777216 <= R) (R1 : R <= 4294967295) (C0 : 0 <= C) (C1 : C < R / 4096 * c) (m0 : 126976 <= R / 4096 * c) (m1 : R / 4096 * c + 126976 <= R) :
  Calls Tryz.prog 129 #[.pointer (some ⟨b, 0, none⟩), .int .i64 k] w fun x w' => bitEnd a0 a1 a2 w b s 0 ⟨pos, R / 4096 * c, C, ch.set k (c + (4096 - c) / 32), 0⟩ x w' := by
 obtain ⟨q, hq⟩ : ∃ q : RS, q = ⟨pos, R / 4096 * c, C, ch.set k (c + (4096 - c) / 32), 0⟩ := ⟨_, rfl⟩
 have HQ : ∀ n : Nat, Hid (PR ((((w.drewN n).setCell ⟨b, 1, none⟩ (.int .u32 (R / 4096 * c))).setCell ⟨b, 3 + k, none⟩ (.int .u32 (c + (4096 - c) / 32))).drew) b s q /\ Frm (oneS b) w ((((w.drewN n).setCell ⟨b, 1, none⟩ (.int .u32 (R / 4096 * c))).setCell ⟨b, 3 + k, none⟩ (.int .u32 (c + (4096 - c) / 32))).drew)) := fun n => by
  rw [hq]; exact ⟨(((h.drewN n).put1 (R / 4096 * c)).putC k _).drew, ((((Frm.refl (oneS b) w).drewN n).setCell (.inl (show oneS b b from rfl)) (.int .u32 (R / 4096 * c))).setCell (.inl (show oneS b b from rfl)) _).drew⟩
 have HE : Hid (q.err = 0) := by rw [hq]; rfl
 have q0 : 126976 <= q.rng := by rw [hq]; exact m0
 have q1 : q.rng <= 4294967295 := by rw [hq]; show R / 4096 * c <= 4294967295; omega
 have q2 : 0 <= q.code := by rw [hq]; exact C0
 have q3 : q.code < q.rng := by rw [hq]; exact C1
 have q4 : q.pos <= s.size := by rw [hq]; exact hp
 have hck := h.ch.cell k hk
 rw [show (RS.ch ⟨pos, R, C, ch, 0⟩) = ch from rfl, hc] at hck
 have hfk := h.ch.fz k hk
 have hckn : ∀ n : Nat, (w.drewN n).cell? ⟨b, 3 + k, none⟩ = some (.int .u32 c) := fun n => hck
 have hfkn : ∀ n : Nat, (w.drewN n).frozen? ⟨b, 3 + k, none⟩ = false := fun n => hfk
 have i1 := h.c1
 have i2 := h.c2
 have f1 := h.fz 1 (by decide)
 have f2 := h.fz 2 (by decide)
 have HH : Hid (q = ⟨pos, R / 4096 * c, C, ch.set k (c + (4096 - c) / 32), 0⟩) := hq
 have hk' : (k : Int) < 400 := by omega
 clear hq h
 go_enter Tryz.func129, Tryz.ntmps129
 go_wp2
 go_quiet ((go_at_call 143; exact Calls.quiet_of_same (chCut _ b 3 k R c hk (by simpa using hck) (by omega) (by omega) (by omega) (by omega))))
 go_wp2_with (go_at_call 144; refine (chLearn0 _ b 3 k c hk (by first | exact cell_off (hckn _) (.inr (by omega)) | exact cell_off (cell_off (hckn _) (.inr (by omega))) (.inr (by omega))) (by simp only [World.frozen?_setCell]; exact hfkn _) c0 c1).mono ?_; rintro e w1 ⟨rfl, rfl⟩)
 have HQn := HQ nq
 clear HQ hck hfk hckn hfkn i1 i2 f1 f2 m0 m1
 go_loopw [8] (fun _ wr => (PR wr b s q \/ (q.rng < 16777216 /\ q.pos < s.size /\ PR wr b s (Rdr.pull s q))) /\ Frm (oneS b) w wr) (fun _ wr => 16777216 - spanOf wr b)
 case atStart => exact ⟨.inl HQn.out.1, HQn.out.2⟩
 case round =>
  obtain ⟨hor, hfr⟩ := hrel
  clear HQn
  rcases hor with hq | ⟨hlow, hpp, hq⟩
  ·have i1 := hq.c1
   by_cases hlow : q.rng < 16777216
   ·have HN : Hid (Rdr.norm s q = Rdr.pull s q) := by unfold Hid Rdr.norm; rw [if_pos hlow]
    by_cases hpp : q.pos < s.size
    ·go_wp2_with (go_at_call 85; refine (shift_next _ b s q hq hpp hs q2 (by omega)).mono ?_; rintro x w1 ⟨rfl, h1, f1⟩; have j1 := h1.c1; have e1 := h1.fz 1 (by decide))
     have HP : PR (w1.setCell ⟨b, 1, none⟩ (.int .u32 (256 * q.rng))) b s (Rdr.pull s q) := by
      have := h1.put1 (256 * q.rng)
      unfold Rdr.pull
      rw [octS_nil hpp]
      exact this
     have m1 := spanOf_eq hq
     have m2 := spanOf_eq HP
     rw [Int.mul_comm q.rng 256]
     go_roundw
     case rel => exact ⟨.inr ⟨hlow, hpp, HP⟩, (hfr.trans f1).setCell (.inl (show oneS b b from rfl)) _⟩
     case measure =>
      rw [m1, m2]
      show 16777216 - (256 * q.rng).toNat < 16777216 - q.rng.toNat
      omega
    ·have hvv := hfr.cell hv (fun h => hE h.symm)
     have hpe : Hid ((Rdr.pull s q).err = 5) := pull_err HE.out hpp
     go_wp2_with (go_at_call 85; refine (shift_end _ b s q a0 hq (by omega) hvv).mono ?_; rintro x w1 ⟨rfl, rfl⟩)
     go_ret2
     rw [<- HH.out]
     refine ⟨?_, fun h => absurd (by rw [HN.out, hpe.out] at h; exact h) (by decide), hfr⟩
     rw [HN.out, hpe.out]; rfl
   ·have HN : Hid (Rdr.norm s q = q) := by unfold Hid Rdr.norm; rw [if_neg hlow]
    go_wp2
    go_ret2
    rw [<- HH.out]
    refine ⟨?_, fun _ => by rw [HN.out]; exact hq, hfr⟩
    rw [HN.out, HE.out]; rfl
  ·have HN : Hid (Rdr.norm s q = Rdr.pull s q) := by unfold Hid Rdr.norm; rw [if_pos hlow]
   have hpe : Hid ((Rdr.pull s q).err = 0) := pull_ok HE.out hpp
   have i1 := hq.c1
   have hr : ¬ (Rdr.pull s q).rng < 16777216 := by show ¬ 256 * q.rng < 16777216; omega
   go_wp2
   go_ret2
   rw [<- HH.out]
   refine ⟨?_, fun _ => by rw [HN.out]; exact hq, hfr⟩
   rw [HN.out, hpe.out]; rfl
set_option maxHeartbeats 2000000 in
set_option maxRecDepth 20000 in
theorem pBit_one (w : World) (b : Nat) (s : ByteArray) (pos : Nat) (R C : Int) (ch : List Int) (k : Nat) (c : Int) (a0 a1 a2 : Addr) (h : PR w b s ⟨pos, R, C, ch, 0⟩) (hs : s.size <= maxLen) (hp : pos <= s.size) (hE : b ≠ 1) (hv : w.cell? ⟨1, 0, none⟩ = some (.iface 278 (.pointer (some a0))))
  (hk : k < 400) (hc : ch.getD k 0 = c) (c0 : 31 <= c) (c1 : c <= 4065) (R0 : 16777216 <= R) (R1 : R <= 4294967295) (C1 : R / 4096 * c <= C) (C2 : C < R) (m0 : 126976 <= R / 4096 * c) (m1 : R / 4096 * c + 126976 <= R) :
  Calls Tryz.prog 129 #[.pointer (some ⟨b, 0, none⟩), .int .i64 k] w fun x w' => bitEnd a0 a1 a2 w b s 1 ⟨pos, R - R / 4096 * c, C - R / 4096 * c, ch.set k (c - c / 32), 0⟩ x w' := by
 obtain ⟨q, hq⟩ : ∃ q : RS, q = ⟨pos, R - R / 4096 * c, C - R / 4096 * c, ch.set k (c - c / 32), 0⟩ := ⟨_, rfl⟩
 have HQ : ∀ n : Nat, Hid (PR (((((w.drewN n).setCell ⟨b, 2, none⟩ (.int .u32 (C - R / 4096 * c))).setCell ⟨b, 1, none⟩ (.int .u32 (R - R / 4096 * c))).setCell ⟨b, 3 + k, none⟩ (.int .u32 (c - c / 32))).drew) b s q /\ Frm (oneS b) w (((((w.drewN n).setCell ⟨b, 2, none⟩ (.int .u32 (C - R / 4096 * c))).setCell ⟨b, 1, none⟩ (.int .u32 (R - R / 4096 * c))).setCell ⟨b, 3 + k, none⟩ (.int .u32 (c - c / 32))).drew)) := fun n => by
  rw [hq]; exact ⟨((((h.drewN n).put2 (C - R / 4096 * c)).put1 (R - R / 4096 * c)).putC k _).drew, (((((Frm.refl (oneS b) w).drewN n).setCell (.inl (show oneS b b from rfl)) (.int .u32 (C - R / 4096 * c))).setCell (.inl (show oneS b b from rfl)) (.int .u32 (R - R / 4096 * c))).setCell (.inl (show oneS b b from rfl)) _).drew⟩
 have HE : Hid (q.err = 0) := by rw [hq]; rfl
 have q0 : 126976 <= q.rng := by rw [hq]; show 126976 <= R - R / 4096 * c; omega
 have q1 : q.rng <= 4294967295 := by rw [hq]; show R - R / 4096 * c <= 4294967295; omega
 have q2 : 0 <= q.code := by rw [hq]; show 0 <= C - R / 4096 * c; omega
 have q3 : q.code < q.rng := by rw [hq]; show C - R / 4096 * c < R - R / 4096 * c; omega
 have q4 : q.pos <= s.size := by rw [hq]; exact hp
 have hck := h.ch.cell k hk
 rw [show (RS.ch ⟨pos, R, C, ch, 0⟩) = ch from rfl, hc] at hck
 have hfk := h.ch.fz k hk
 have hckn : ∀ n : Nat, (w.drewN n).cell? ⟨b, 3 + k, none⟩ = some (.int .u32 c) := fun n => hck
 have hfkn : ∀ n : Nat, (w.drewN n).frozen? ⟨b, 3 + k, none⟩ = false := fun n => hfk
 have i1 := h.c1
 have i2 := h.c2
 have f1 := h.fz 1 (by decide)
 have f2 := h.fz 2 (by decide)
 have HH : Hid (q = ⟨pos, R - R / 4096 * c, C - R / 4096 * c, ch.set k (c - c / 32), 0⟩) := hq
 have hk' : (k : Int) < 400 := by omega
 clear hq h
 go_enter Tryz.func129, Tryz.ntmps129
 go_wp2
 go_quiet ((go_at_call 143; exact Calls.quiet_of_same (chCut _ b 3 k R c hk (by simpa using hck) (by omega) (by omega) (by omega) (by omega))))
 go_wp2_with (go_at_call 144; refine (chLearn1 _ b 3 k c hk (by first | exact cell_off (hckn _) (.inr (by omega)) | exact cell_off (cell_off (hckn _) (.inr (by omega))) (.inr (by omega))) (by simp only [World.frozen?_setCell]; exact hfkn _) c0 c1).mono ?_; rintro e w1 ⟨rfl, rfl⟩)
 have HQn := HQ nq
 clear HQ hck hfk hckn hfkn i1 i2 f1 f2 m0 m1
 go_loopw [8] (fun _ wr => (PR wr b s q \/ (q.rng < 16777216 /\ q.pos < s.size /\ PR wr b s (Rdr.pull s q))) /\ Frm (oneS b) w wr) (fun _ wr => 16777216 - spanOf wr b)
 case atStart => exact ⟨.inl HQn.out.1, HQn.out.2⟩
 case round =>
  obtain ⟨hor, hfr⟩ := hrel
  clear HQn
  rcases hor with hq | ⟨hlow, hpp, hq⟩
  ·have i1 := hq.c1
   by_cases hlow : q.rng < 16777216
   ·have HN : Hid (Rdr.norm s q = Rdr.pull s q) := by unfold Hid Rdr.norm; rw [if_pos hlow]
    by_cases hpp : q.pos < s.size
    ·go_wp2_with (go_at_call 85; refine (shift_next _ b s q hq hpp hs q2 (by omega)).mono ?_; rintro x w1 ⟨rfl, h1, f1⟩; have j1 := h1.c1; have e1 := h1.fz 1 (by decide))
     have HP : PR (w1.setCell ⟨b, 1, none⟩ (.int .u32 (256 * q.rng))) b s (Rdr.pull s q) := by
      have := h1.put1 (256 * q.rng)
      unfold Rdr.pull
      rw [octS_nil hpp]
      exact this
     have m1 := spanOf_eq hq
     have m2 := spanOf_eq HP
     rw [Int.mul_comm q.rng 256]
     go_roundw
     case rel => exact ⟨.inr ⟨hlow, hpp, HP⟩, (hfr.trans f1).setCell (.inl (show oneS b b from rfl)) _⟩
     case measure =>
      rw [m1, m2]
      show 16777216 - (256 * q.rng).toNat < 16777216 - q.rng.toNat
      omega
    ·have hvv := hfr.cell hv (fun h => hE h.symm)
     have hpe : Hid ((Rdr.pull s q).err = 5) := pull_err HE.out hpp
     go_wp2_with (go_at_call 85; refine (shift_end _ b s q a0 hq (by omega) hvv).mono ?_; rintro x w1 ⟨rfl, rfl⟩)
     go_ret2
     rw [<- HH.out]
     refine ⟨?_, fun h => absurd (by rw [HN.out, hpe.out] at h; exact h) (by decide), hfr⟩
     rw [HN.out, hpe.out]; rfl
   ·have HN : Hid (Rdr.norm s q = q) := by unfold Hid Rdr.norm; rw [if_neg hlow]
    go_wp2
    go_ret2
    rw [<- HH.out]
    refine ⟨?_, fun _ => by rw [HN.out]; exact hq, hfr⟩
    rw [HN.out, HE.out]; rfl
  ·have HN : Hid (Rdr.norm s q = Rdr.pull s q) := by unfold Hid Rdr.norm; rw [if_pos hlow]
   have hpe : Hid ((Rdr.pull s q).err = 0) := pull_ok HE.out hpp
   have i1 := hq.c1
   have hr : ¬ (Rdr.pull s q).rng < 16777216 := by show ¬ 256 * q.rng < 16777216; omega
   go_wp2
   go_ret2
   rw [<- HH.out]
   refine ⟨?_, fun _ => by rw [HN.out]; exact hq, hfr⟩
   rw [HN.out, hpe.out]; rfl
theorem bitS_err {s : ByteArray} {r : RS} {k : Nat} (he : r.err = 0) : Rdr.bitS s r k = Rdr.norm s (if r.code < Rdr.cut r k then Rdr.zero r k else Rdr.one r k) := by
 unfold Rdr.bitS
 rw [if_pos he]
 split <;> rfl
theorem pBit (w : World) (b : Nat) (s : ByteArray) (r : RS) (k : Nat) (a0 a1 a2 : Addr) (h : PR w b s r) (ok : Rdr.Ok s r) (he : r.err = 0) (hs : s.size <= maxLen) (hk : k < 400) (hE : b ≠ 1) (hv : w.cell? ⟨1, 0, none⟩ = some (.iface 278 (.pointer (some a0)))) :
  Calls Tryz.prog 129 #[.pointer (some ⟨b, 0, none⟩), .int .i64 k] w fun x w' => x = .returned (.tuple #[.int .i64 (if (Rdr.bitS s r k).err = 0 then Rdr.bitV r k else 0), errV a0 a1 a2 (Rdr.bitS s r k).err]) /\ ((Rdr.bitS s r k).err = 0 -> PR w' b s (Rdr.bitS s r k)) /\ Frm (oneS b) w w' := by
 obtain ⟨pos, R, C, ch, e⟩ := r
 obtain rfl : e = 0 := he
 obtain ⟨g0, g1⟩ := ok.rng rfl
 obtain ⟨c0, c1⟩ := ok.code rfl
 have hb := ok.ch.2 k hk
 have hc := Rdr.cut_bd (r := ⟨pos, R, C, ch, 0⟩) hk ok.ch g0 g1
 rw [bitS_err rfl]
 by_cases hlt : C < R / 4096 * ch.getD k 0
 ·have hcut : (RS.code ⟨pos, R, C, ch, 0⟩) < Rdr.cut ⟨pos, R, C, ch, 0⟩ k := hlt
  have e1 : Rdr.bitV ⟨pos, R, C, ch, 0⟩ k = 0 := by unfold Rdr.bitV; rw [if_pos rfl, if_pos hcut]
  rw [if_pos hcut, e1]
  exact pBit_zero w b s pos R C ch k _ a0 a1 a2 h hs ok.pos hE hv hk rfl hb.1 hb.2 g0 g1 c0 hlt hc.1 hc.2
 ·have hcut : ¬ (RS.code ⟨pos, R, C, ch, 0⟩) < Rdr.cut ⟨pos, R, C, ch, 0⟩ k := hlt
  have e1 : Rdr.bitV ⟨pos, R, C, ch, 0⟩ k = 1 := by unfold Rdr.bitV; rw [if_pos rfl, if_neg hcut]
  rw [if_neg hcut, e1]
  exact pBit_one w b s pos R C ch k _ a0 a1 a2 h hs ok.pos hE hv hk rfl hb.1 hb.2 g0 g1 (Int.not_lt.1 hlt) c1 hc.1 hc.2
set_option maxHeartbeats 400000 in
theorem pEnd (w : World) (b : Nat) (s : ByteArray) (r : RS) (a0 a1 a2 : Addr) (h : PR w b s r) (he : r.err = 0) (hv : w.cell? ⟨6, 0, none⟩ = some (.iface 278 (.pointer (some a1)))) :
  Calls Tryz.prog 47 #[.pointer (some ⟨b, 0, none⟩)] w fun x w' => x = .returned (errV a0 a1 a2 (Rdr.finish s r).err) /\ w' = w := by
 have i0 := h.c0
 by_cases hl : r.pos < s.size
 ·have e6 : Hid ((Rdr.finish s r).err = 6) := by unfold Hid Rdr.finish; rw [if_pos ⟨he, hl⟩]
  obtain ⟨t, ht⟩ : ∃ t, t = s.extract r.pos s.size := ⟨_, rfl⟩
  have hem : t.toList.isEmpty = false := isEmpty_pos t (by rw [ht, rest_size]; omega)
  rw [<- ht] at i0
  clear ht h he
  go_enter Tryz.func47, Tryz.ntmps47
  go_wp2
  go_ret
  exact ⟨by rw [e6.out]; rfl, rfl⟩
 ·have e0 : Hid ((Rdr.finish s r).err = 0) := by unfold Hid Rdr.finish; rw [if_neg (fun h => hl h.2)]; exact he
  rw [rest_end s r.pos (by omega)] at i0
  have hem : (ByteArray.mk #[]).toList.isEmpty = true := by rw [ByteArray.toList_eq]; rfl
  clear h he
  go_enter Tryz.func47, Tryz.ntmps47
  go_wp2
  go_ret
  exact ⟨by rw [e0.out]; rfl, rfl⟩
end Go.Proofs.YtekfbphnoibnjaaGreatDoor
namespace Go.Proofs.YtekfbphnoibnjaaGreatDoor
open Go.RowKit
structure ErrsL (w : World) (A : Nat -> Addr) (L : Nat) : Prop where
 v : ∀ x ∈ sntG, x.2 < L /\ w.cell? ⟨x.2, 0, none⟩ = some (.iface 278 (.pointer (some (A x.1))))
 h : ∀ x ∈ sntG, (A x.1).block < L /\ ∃ c t, w.heap[(A x.1).block]? = some (.cells c t (0, 0))
 n : ∀ x ∈ sntG, ∀ y ∈ sntG, x.1 ≠ y.1 -> A x.1 ≠ A y.1
theorem ErrsA.low {w : World} {A : Nat -> Addr} (h : ErrsA w A) : ErrsL w A w.heap.size :=
 ⟨fun x hx => ⟨World.block_lt_of_cell? w _ (h.v x hx), h.v x hx⟩, fun x hx => by
  obtain ⟨c, t, e⟩ := h.h x hx
  exact ⟨heap_lt e, c, t, e⟩, h.n⟩
theorem ErrsL.all {w : World} {A : Nat -> Addr} {L : Nat} (h : ErrsL w A L) : ErrsA w A := ⟨fun x hx => (h.v x hx).2, fun x hx => (h.h x hx).2, h.n⟩
theorem ErrsL.below {w w' : World} {A : Nat -> Addr} {L : Nat} (h : ErrsL w A L) (f : Below L w w') : ErrsL w' A L :=
 ⟨fun x hx => ⟨(h.v x hx).1, (f.cell (p := ⟨x.2, 0, none⟩) (h.v x hx).1).trans (h.v x hx).2⟩, fun x hx => by
  obtain ⟨hl, c, t, e⟩ := h.h x hx
  exact ⟨hl, c, t, (f.block _ hl).trans e⟩, h.n⟩
def errA (A : Nat -> Addr) (e : Int) : Value := if e = 0 then .nilIface else .iface 278 (.pointer (some (A e.toNat)))
theorem errA_zero (A : Nat -> Addr) : errA A 0 = .nilIface := rfl
theorem errA_pos (A : Nat -> Addr) {e : Int} (h : e ≠ 0) : errA A e = .iface 278 (.pointer (some (A e.toNat))) := by unfold errA; rw [if_neg h]
def numRet (A : Nat -> Addr) (v e : Int) : Ending := .returned (.tuple #[.int .i64 (if e = 0 then v else 0), errA A e])
theorem numRet_good (A : Nat -> Addr) (v : Int) {e : Int} (h : e = 0) : numRet A v e = .returned (.tuple #[.int .i64 v, .nilIface]) := by subst h; rfl
theorem numRet_bad (A : Nat -> Addr) (v : Int) {e : Int} (h : e ≠ 0) : numRet A v e = .returned (.tuple #[.int .i64 0, .iface 278 (.pointer (some (A e.toNat)))]) := by
 unfold numRet; rw [if_neg h, errA_pos A h]
def numAt (w' : World) (b : Nat) (s : ByteArray) (q : RS) : Prop := q.err = 0 -> PR w' b s q
namespace Rdr
theorem norm_errs {s : ByteArray} {r : RS} (he : r.err = 0) : (norm s r).err = 0 \/ (norm s r).err = 5 := by
 unfold norm
 split
 ·unfold pull octS
  split
  ·exact .inl he
  ·right; simp
 ·exact .inl he
theorem bitS_errs {s : ByteArray} {r : RS} {k : Nat} (he : r.err = 0) : (bitS s r k).err = 0 \/ (bitS s r k).err = 5 := by
 rw [bitS_err he]
 apply norm_errs
 split <;> exact he
theorem fail_of {r : RS} {e : Int} (he : r.err ≠ 0) : fail r e = r := by unfold fail; rw [if_neg he]
theorem fail_zero {r : RS} {e : Int} (he : r.err = 0) : (fail r e).err = e := by unfold fail; rw [if_pos he]
theorem run_off {s : ByteArray} {k f n : Nat} {r : RS} (he : r.err ≠ 0) : run s k f n r = (n, r) := by
 cases f with
 | zero => rfl
 | succ f => unfold run; rw [if_neg he]
theorem run_bad {s : ByteArray} {k f n : Nat} {r : RS} (he : r.err = 0) (hb : (bitS s r (k + n)).err ≠ 0) : (run s k (f + 1) n r).2.err = (bitS s r (k + n)).err := by
 unfold run
 rw [if_pos he]
 split
 ·rfl
 ·rw [fail_of hb, ite_self, run_off hb]
theorem run_stop {s : ByteArray} {k f n : Nat} {r : RS} (he : r.err = 0) (hv : bitV r (k + n) = 0) : run s k (f + 1) n r = (n, bitS s r (k + n)) := by
 rw [run]; rw [if_pos he, if_pos hv]
theorem run_ten {s : ByteArray} {k f : Nat} {r : RS} (he : r.err = 0) (hv : bitV r (k + 9) = 1) (hb : (bitS s r (k + 9)).err = 0) : (run s k (f + 1) 9 r).2.err = 8 := by
 rw [run]; rw [if_pos he, if_neg (by omega), if_pos rfl, run_off (by rw [fail_zero hb]; decide)]
 exact fail_zero hb
theorem run_on {s : ByteArray} {k f n : Nat} {r : RS} (he : r.err = 0) (hv : bitV r (k + n) = 1) (hn : n < 9) : run s k (f + 1) n r = run s k f (n + 1) (bitS s r (k + n)) := by
 rw [run]; rw [if_pos he, if_neg (by omega), if_neg (by omega)]
theorem lows_off {s : ByteArray} {k f : Nat} {d u : Int} {r : RS} (he : r.err ≠ 0) : lows s k f d u r = (d, u, r) := by
 cases f with
 | zero => rfl
 | succ f => unfold lows; rw [if_neg he]
end Rdr
theorem pBitA (w : World) (b L : Nat) (s : ByteArray) (r : RS) (k : Nat) (A : Nat -> Addr) (h : PR w b s r) (ok : Rdr.Ok s r) (he : r.err = 0) (hs : s.size <= maxLen) (hk : k < 400) (hL : L <= b) (E : ErrsL w A L) :
  Calls Tryz.prog 129 #[.pointer (some ⟨b, 0, none⟩), .int .i64 k] w fun x w' => x = .returned (.tuple #[.int .i64 (if (Rdr.bitS s r k).err = 0 then Rdr.bitV r k else 0), errA A (Rdr.bitS s r k).err]) /\ ((Rdr.bitS s r k).err = 0 -> PR w' b s (Rdr.bitS s r k)) /\ Frm (oneS b) w w' := by
 obtain ⟨hl, hv⟩ := E.v (5, 1) (by decide)
 refine (pBit w b s r k (A 5) (A 6) (A 7) h ok he hs hk (by intro e; rw [e] at hL; exact absurd hL (Nat.not_le.2 hl)) hv).mono ?_
 rintro x w' ⟨rfl, h1, h2⟩
 refine ⟨?_, h1, h2⟩
 congr 3
 rcases Rdr.bitS_errs (s := s) (k := k) he with e | e <;> rw [e] <;> rfl
theorem pBit_good (w : World) (b L : Nat) (s : ByteArray) (r : RS) (k : Nat) (A : Nat -> Addr) (h : PR w b s r) (ok : Rdr.Ok s r) (he : r.err = 0) (hs : s.size <= maxLen) (hk : k < 400) (hL : L <= b) (E : ErrsL w A L) (hb : (Rdr.bitS s r k).err = 0) :
  Calls Tryz.prog 129 #[.pointer (some ⟨b, 0, none⟩), .int .i64 k] w fun x w' => x = .returned (.tuple #[.int .i64 (Rdr.bitV r k), .nilIface]) /\ PR w' b s (Rdr.bitS s r k) /\ Frm (oneS b) w w' := by
 refine (pBitA w b L s r k A h ok he hs hk hL E).mono ?_
 rintro x w' ⟨rfl, h1, h2⟩
 refine ⟨?_, h1 hb, h2⟩
 rw [hb, if_pos rfl, errA_zero]
theorem pBit_bad (w : World) (b L : Nat) (s : ByteArray) (r : RS) (k : Nat) (A : Nat -> Addr) (h : PR w b s r) (ok : Rdr.Ok s r) (he : r.err = 0) (hs : s.size <= maxLen) (hk : k < 400) (hL : L <= b) (E : ErrsL w A L) (hb : (Rdr.bitS s r k).err = 5) :
  Calls Tryz.prog 129 #[.pointer (some ⟨b, 0, none⟩), .int .i64 k] w fun x w' => x = .returned (.tuple #[.int .i64 0, .iface 278 (.pointer (some (A 5)))]) /\ Frm (oneS b) w w' := by
 refine (pBitA w b L s r k A h ok he hs hk hL E).mono ?_
 rintro x w' ⟨rfl, h1, h2⟩
 refine ⟨?_, h2⟩
 rw [hb, if_neg (by decide), errA_pos A (by decide)]
 rfl
set_option maxHeartbeats 1000000 in
set_option maxRecDepth 20000 in
theorem pOnes (w : World) (b L : Nat) (s : ByteArray) (r : RS) (k : Nat) (A : Nat -> Addr) (h : PR w b s r) (ok : Rdr.Ok s r) (he : r.err = 0) (hs : s.size <= maxLen) (hk : k + 22 <= 400) (hL : L <= b) (hLw : L <= w.heap.size) (E : ErrsL w A L) :
  Calls Tryz.prog 181 #[.pointer (some ⟨b, 0, none⟩), .int .i64 k] w fun x w' => x = numRet A (Rdr.run s k 11 0 r).1 (Rdr.run s k 11 0 r).2.err /\ numAt w' b s (Rdr.run s k 11 0 r).2 /\ Frm (oneS b) w w' := by
 obtain ⟨RR, hRR⟩ : ∃ RR, RR = Rdr.run s k 11 0 r := ⟨_, rfl⟩
 rw [<- hRR]
 have HRR : Hid (RR = Rdr.run s k 11 0 r) := hRR
 have H : Hid (PR w b s r /\ Rdr.Ok s r /\ r.err = 0) := ⟨h, ok, he⟩
 have HE : Hid (ErrsL w A L) := E
 clear h ok he E hRR
 go_enter Tryz.func181, Tryz.ntmps181
 go_wp2_with fail
 go_loopw [6] (fun iv wr => ∃ (n f : Nat) (q : RS), iv = .int .i64 n /\ f + n = 11 /\ n <= 9 /\ Rdr.run s k f n q = RR /\ PR wr b s q /\ Rdr.Ok s q /\ q.err = 0 /\ Frm (oneS b) w wr) (fun iv _ => 11 - (intOf iv).toNat)
 case atStart => exact ⟨0, 11, r, rfl, rfl, by omega, HRR.out.symm, H.out.1, H.out.2.1, H.out.2.2, Frm.refl _ _⟩
 case round =>
  clear H
  obtain ⟨n, f, q, rfl, hfn, hn, hrun, hq, hok, hqe, hfr⟩ := hrel
  obtain ⟨f', rfl⟩ : ∃ f', f = f' + 1 := ⟨f - 1, by omega⟩
  have hbl : Below L w wr := hfr.below hLw (fun j e => by rw [show j = b from e]; exact hL)
  have E1 := HE.out.below hbl
  have hok1 := hok.bitS (k := k + n) (by omega)
  have HRUN : Hid (Rdr.run s k (f' + 1) n q = RR) := hrun
  have HQ : Hid (q.err = 0) := hqe
  have HFR : Hid (Frm (oneS b) w wr) := hfr
  have HOK1 : Hid (Rdr.Ok s (Rdr.bitS s q (k + n))) := hok1
  have HE1 : Hid (ErrsL wr A L) := E1
  rcases Rdr.bitS_errs (s := s) (k := k + n) hqe with hbe | hbe
  ·have HBE : Hid ((Rdr.bitS s q (k + n)).err = 0) := hbe
   have HB := pBit_good wr b L s q (k + n) A hq hok hqe hs (by omega) hL E1 hbe
   rw [Int.natCast_add] at HB
   rcases Rdr.bitV_cases q (k + n) with hv | hv
   ·have HV : Hid (Rdr.bitV q (k + n) = 0) := hv
    rw [hv] at HB
    have HBH : Hid (Calls Tryz.prog 129 #[.pointer (some ⟨b, 0, none⟩), .int .i64 ((k : Int) + n)] wr fun x w' => x = .returned (.tuple #[.int .i64 0, .nilIface]) /\ PR w' b s (Rdr.bitS s q (k + n)) /\ Frm (oneS b) wr w') := HB
    clear HB hv hbe hrun hqe hfr hok hok1 hq E1 hbl
    go_wp2_with (go_at_call 129; refine HBH.out.mono ?_; rintro x w1 ⟨rfl, h1, f1⟩)
    go_ret2
    rw [<- HRUN.out, Rdr.run_stop HQ.out HV.out]
    rw [numRet_good A _ HBE.out]
    exact ⟨rfl, fun _ => h1, HFR.out.trans f1⟩
   ·have HV : Hid (Rdr.bitV q (k + n) = 1) := hv
    rw [hv] at HB
    have HBH : Hid (Calls Tryz.prog 129 #[.pointer (some ⟨b, 0, none⟩), .int .i64 ((k : Int) + n)] wr fun x w' => x = .returned (.tuple #[.int .i64 1, .nilIface]) /\ PR w' b s (Rdr.bitS s q (k + n)) /\ Frm (oneS b) wr w') := HB
    clear HB hv hbe hrun hqe hfr hok hok1 hq E1 hbl
    by_cases h9 : n = 9
    ·subst h9
     go_wp2_with (go_at_call 129; refine HBH.out.mono ?_; rintro x w1 ⟨rfl, h1, f1⟩; have e8 := ((HE1.out.below (f1.below (by have := HFR.out.size; omega) (fun j e => by rw [show j = b from e]; exact hL))).v (8, 3) (by decide)).2)
     go_region
     go_wp2
     go_ret2
     have e8' := Rdr.run_ten (f := f') HQ.out HV.out HBE.out
     rw [HRUN.out] at e8'
     rw [numRet_bad A _ (by rw [e8']; decide), e8']
     exact ⟨rfl, fun h => absurd h (by rw [e8']; decide), (HFR.out.trans f1).drewN 1⟩
    ·have hn9 : ((n : Int) == 9) = false := by simp; omega
     go_wp2_with (go_at_call 129; refine HBH.out.mono ?_; rintro x w1 ⟨rfl, h1, f1⟩)
     go_roundw
     case rel => exact ⟨n + 1, f', _, by go_num, by omega, by omega, by rw [<- HRUN.out, Rdr.run_on HQ.out HV.out (by omega)], h1, HOK1.out, HBE.out, HFR.out.trans f1⟩
     case measure => simp [intOf]; omega
  ·have HBE : Hid ((Rdr.bitS s q (k + n)).err = 5) := hbe
   have HB := pBit_bad wr b L s q (k + n) A hq hok hqe hs (by omega) hL E1 hbe
   rw [Int.natCast_add] at HB
   have HBH : Hid (Calls Tryz.prog 129 #[.pointer (some ⟨b, 0, none⟩), .int .i64 ((k : Int) + n)] wr fun x w' => x = .returned (.tuple #[.int .i64 0, .iface 278 (.pointer (some (A 5)))]) /\ Frm (oneS b) wr w') := HB
   clear HB hbe hrun hqe hfr hok hok1 hq E1 hbl
   go_wp2_with (go_at_call 129; refine HBH.out.mono ?_; rintro x w1 ⟨rfl, f1⟩)
   go_ret2
   have e5 := Rdr.run_bad (f := f') HQ.out (by rw [HBE.out]; decide)
   rw [HRUN.out, HBE.out] at e5
   rw [numRet_bad A _ (by rw [e5]; decide), e5]
   exact ⟨rfl, fun h => absurd h (by rw [e5]; decide), HFR.out.trans f1⟩
end Go.Proofs.YtekfbphnoibnjaaGreatDoor
