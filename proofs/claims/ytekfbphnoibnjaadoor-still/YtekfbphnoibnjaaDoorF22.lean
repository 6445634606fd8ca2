/-
  The map of places while a frame is looked over: what lies where. The program's places: a frame is looked over.
-/
import Derived.Test.YtekfbphnoibnjaaDoorF19
namespace Go.Proofs.YtekfbphnoibnjaaDoor
open Go.RowKit Go.Shelf
open Flm (Px FS okPx)
def kap (z : Nat) (T : List Px) (a : Ar) : Kt := (a.2, Pk.content z T a.2 a.1)
theorem kap_good {z : Nat} {T : List Px} (hT : ∀ p ∈ T, okPx p) {n : Nat} (hn : n <= 16) (q : Nat × Nat) : GoodK (kap z T (q, n)) := by
 refine ⟨hn, ?_, fun p hp => ?_⟩
 ·show (Pk.content z T n q).length = n * n
  unfold Pk.content
  rw [List.length_map, Flm.spots_len]
 ·have hp : p ∈ Pk.content z T n q := hp
  unfold Pk.content at hp
  obtain ⟨r, _, rfl⟩ := List.mem_map.1 hp
  exact Pk.getD_ok hT _
def corners (z n : Nat) : List Ar := (Flm.spots 0 0 (z - n + 1)).map fun q => (q, n)
theorem corners_len (z n : Nat) : (corners z n).length = (z - n + 1) * (z - n + 1) := by unfold corners; rw [List.length_map, Flm.spots_len]
def areasL (z : Nat) : Nat -> List Ar
 | 0 => []
 | i + 1 => areasL z i ++ corners z (4 * 2 ^ i)
theorem MapAt.off {w : World} {base b : Nat} {κ : Ar -> Kt} {L : List Ar} {es : Array MapEntry} {clock : Nat} (h : MapAt w base b κ L es clock) {k : Nat} {o : Obj} (hk : w.heap[k]? = some o) (hb : k ≠ b) (ho : ∀ cs, o ≠ .cells cs 88 (0, 0)) : Off es b k := by
 refine ⟨hb, fun e he e0 => ?_⟩
 obtain ⟨q, _, _, rk, pk⟩ := h.ent e he
 obtain ⟨g, cur, e1, _, e2⟩ := row_block rk pk
 rw [e0] at e1
 obtain rfl := Option.some.inj e1
 rw [hk] at e2
 exact ho cur (Option.some.inj e2)
theorem MapAt.off_new {w : World} {base b : Nat} {κ : Ar -> Kt} {L : List Ar} {es : Array MapEntry} {clock : Nat} (h : MapAt w base b κ L es clock) {k : Nat} (hk : w.heap.size <= k) : Off es b k := by
 have hb : b < w.heap.size := (Array.getElem?_eq_some_iff.1 h.heap).1
 refine ⟨by omega, fun e he e0 => ?_⟩
 obtain ⟨q, _, _, rk, pk⟩ := h.ent e he
 have := (rk.lt k e0).2
 omega
theorem MapAt.off_low {w : World} {base b : Nat} {κ : Ar -> Kt} {L : List Ar} {es : Array MapEntry} {clock : Nat} (h : MapAt w base b κ L es clock) {k : Nat} (hb : base <= b) (hk : k < base) : Off es b k := by
 refine ⟨by omega, fun e he e0 => ?_⟩
 obtain ⟨q, _, _, rk, pk⟩ := h.ent e he
 have := (rk.lt k e0).1
 omega
structure LkW (w : World) (z nb C : Nat) (T : List Px) (H n A4 : Nat) (Ds : List Nat) (L : List Ar) (W : World) : Prop where
 hH : H = w.heap.size
 b0 : Below w.heap.size w W
 p0 : W.heap[H]? = some (.cells #[.int .i64 z, .slice (some ⟨nb, 0, none⟩) (z * z) C] 77 (0, 0))
 p2 : W.heap[H + 1 + 1]? = some (.cells #[.map (some (H + 1))] 79 (0, 0))
 p4 : W.heap[A4]? = some (.cells #[.int .i64 n] 3 (0, 0))
 ds : ∀ D ∈ Ds, W.heap[D]? = some (.deferred (some [])) /\ H <= D
 nd : Ds.Nodup
 mp : ∃ es clock, MapAt W H (H + 1) (kap z T) L es clock
theorem LkW.frm {w : World} {z nb C : Nat} {T : List Px} {H n A4 : Nat} {Ds : List Nat} {L : List Ar} {W W' : World} (h : LkW w z nb C T H n A4 Ds L W) {S : Nat -> Prop} (f : Frm S W W') (hS : ∀ k, k < W.heap.size -> S k -> w.heap.size <= k /\ k ≠ H + 1 /\ k ∉ Ds /\ ∀ o, W.heap[k]? = some o -> o.isCells = false) : LkW w z nb C T H n A4 Ds L W' := by
 have hc : ∀ {k : Nat} {cs : Array Value} {t : TypeId} {q : Nat × Nat}, W.heap[k]? = some (.cells cs t q) -> W'.heap[k]? = some (.cells cs t q) := fun {k cs t q} hk => by
  refine (f.block k (heap_lt0 hk) fun hs => ?_).trans hk
  have := (hS k (heap_lt0 hk) hs).2.2.2 _ hk
  cases this
 have hlt : w.heap.size <= W.heap.size := h.b0.size
 refine ⟨h.hH, h.b0.trans ⟨f.os, f.tape, f.output, f.size, fun k hk => f.block k (by omega) fun hs => by have := (hS k (by omega) hs).1; omega⟩, hc h.p0, hc h.p2, hc h.p4, fun D hD => ⟨(f.block D (heap_lt0 (h.ds D hD).1) fun hs => (hS D (heap_lt0 (h.ds D hD).1) hs).2.2.1 hD).trans (h.ds D hD).1, (h.ds D hD).2⟩, h.nd, ?_⟩
 obtain ⟨es, clock, m⟩ := h.mp
 refine ⟨es, clock, m.frm f (fun hs => (hS _ (heap_lt0 m.heap) hs).2.1 rfl) fun e he g hg hs => ?_⟩
 obtain ⟨q, _, _, rk, pk⟩ := m.ent e he
 obtain ⟨g', cur, e1, _, e2⟩ := row_block rk pk
 rw [hg] at e1
 obtain rfl := Option.some.inj e1
 have := (hS g (heap_lt0 e2) hs).2.2.2 _ e2
 cases this
theorem LkW.below {w : World} {z nb C : Nat} {T : List Px} {H n A4 : Nat} {Ds : List Nat} {L : List Ar} {W W' : World} (h : LkW w z nb C T H n A4 Ds L W) (f : Below W.heap.size W W') : LkW w z nb C T H n A4 Ds L W' := h.frm (Frm.of_below (S := fun _ => False) f) (fun _ _ e => e.elim)
theorem LkW.add {w : World} {z nb C : Nat} {T : List Px} {H n A4 : Nat} {Ds : List Nat} {L L' : List Ar} {W W3 : World} (h : LkW w z nb C T H n A4 Ds L W) {es es' : Array MapEntry} {clock clock' : Nat} (m : MapAt W H (H + 1) (kap z T) L es clock) (m3 : MapAt W3 H (H + 1) (kap z T) L' es' clock') (f : Frm (fun k => ¬ Off es (H + 1) k) W W3) : LkW w z nb C T H n A4 Ds L' W3 := by
 have hlt : w.heap.size <= W.heap.size := h.b0.size
 have hc : ∀ {k : Nat} {o : Obj}, W.heap[k]? = some o -> k ≠ H + 1 -> (∀ cs, o ≠ .cells cs 88 (0, 0)) -> W3.heap[k]? = some o := fun {k o} hk h1 h2 => (f.block k (heap_lt0 hk) (fun hs => hs (m.off hk h1 h2))).trans hk
 have hn : ∀ {cs : Array Value} {t : TypeId}, t ≠ 88 -> ∀ cs', Obj.cells cs t (0, 0) ≠ .cells cs' 88 (0, 0) := fun {cs t} ht cs' e => by
  injection e with _ e _
  exact ht e
 have h4 : A4 ≠ H + 1 := fun e => by
  have := h.p4
  rw [e, m.heap] at this
  cases this
 refine ⟨h.hH, h.b0.trans ⟨f.os, f.tape, f.output, f.size, fun k hk => f.block k (by omega) fun hs => hs (m.off_low (by omega) (by have := h.hH; omega))⟩, hc h.p0 (by omega) (hn (by decide)), hc h.p2 (by omega) (hn (by decide)), hc h.p4 h4 (hn (by decide)), fun D hD => ⟨hc (h.ds D hD).1 (fun e => ?_) (fun cs e => by cases e), (h.ds D hD).2⟩, h.nd, ⟨es', clock', m3⟩⟩
 have := (h.ds D hD).1
 rw [e, m.heap] at this
 cases this
def cnt (z : Nat) : Nat := if z = 4 then 1 else if z = 8 then 2 else 3
theorem cnt_lt {z i : Nat} (hz : z = 4 \/ z = 8 \/ z = 16) : (i < cnt z -> 4 * 2 ^ i <= z /\ 4 * 2 ^ i <= 16 /\ 4 <= 4 * 2 ^ i /\ i <= 2) /\ (i = cnt z -> z < 4 * 2 ^ i) := by
 rcases hz with rfl | rfl | rfl
 ·refine ⟨fun h => ?_, fun h => by rw [h]; decide⟩
  have : i < 1 := h
  obtain rfl : i = 0 := by omega
  decide
 ·refine ⟨fun h => ?_, fun h => by rw [h]; decide⟩
  have : i < 2 := h
  rcases (by omega : i = 0 \/ i = 1) with rfl | rfl <;> decide
 ·refine ⟨fun h => ?_, fun h => by rw [h]; decide⟩
  have : i < 3 := h
  rcases (by omega : i = 0 \/ i = 1 \/ i = 2) with rfl | rfl | rfl <;> decide
theorem corners_le {z n : Nat} (hz : z <= 16) (hn : 4 <= n) : (corners z n).length <= 169 := by
 rw [corners_len]
 have h : z - n + 1 <= 13 := by omega
 exact Nat.mul_le_mul h h
theorem areasL_len {z : Nat} (hz : z <= 16) : ∀ i, i <= 3 -> (areasL z i).length <= i * 169
 | 0, _ => Nat.le_refl _
 | i + 1, hi => by
  have h1 := areasL_len hz i (by omega)
  have h2 := corners_le hz (n := 4 * 2 ^ i) (by have : 0 < 2 ^ i := Nat.two_pow_pos i; omega)
  unfold areasL
  rw [List.length_append]
  omega
end Go.Proofs.YtekfbphnoibnjaaDoor
namespace Go.Proofs.YtekfbphnoibnjaaDoor
open Go.RowKit Go.Shelf
open Flm (Px FS okPx)
attribute [local go_sem] Oper.semAt_some
def LkI (w : World) (z nb C Z : Nat) (T : List Px) (H : Nat) (k : Nat) (a : Act) (W : World) : Prop := ∃ (i A4 : Nat) (Ds : List Nat) (u5 u6 u7 u8 u9 u11 u12 u13 u14 u15 u16 u17 u18 u19 u20 u21 u22 u23 u24 u25 u26 u27 u28 u29 u30 u31 u32 u33 u34 u35 u36 u37 u38 u39 u40 u41 u42 : Value), i + k = cnt z /\ a = { tmps := #[.agg #[.int .i64 z, .slice (some ⟨nb, 0, none⟩) Z C], .pointer (some ⟨H, 0, none⟩), .map none, .pointer (some ⟨H + 1 + 1, 0, none⟩), .pointer (some ⟨A4, 0, none⟩), u5, u6, u7, u8, u9, .map (some (H + 1)), u11, u12, u13, u14, u15, u16, u17, u18, u19, u20, u21, u22, u23, u24, u25, u26, u27, u28, u29, u30, u31, u32, u33, u34, u35, u36, u37, u38, u39, u40, u41, u42, undef], defers := Ds.map fun D => { target := .collected D, args := #[] } } /\ LkW w z nb C T H (4 * 2 ^ i) A4 Ds (areasL z i) W
def LkJ (w : World) (z nb C : Nat) (T : List Px) (H n A4 : Nat) (Ds : List Nat) (L : List Ar) (G m : Nat) (W : World) (pre : List (Pt 0 0 m)) : Prop := LkW w z nb C T H n A4 Ds (L ++ pre.map fun p => (p.1, n)) W /\ W.heap[G]? = some (.cells #[.int .i64 (0 : Nat), .int .i64 (0 : Nat), .int .i64 m] 88 (0, 0)) /\ ∀ es clock, W.heap[H + 1]? = some (.map es clock) -> Off es (H + 1) G
def LookPost (w : World) (z : Nat) (T : List Px) (e : Ending) (w' : World) : Prop := ∃ b es clock, e = .returned (.map (some b)) /\ w.heap.size <= b /\ MapAt w' w.heap.size b (kap z T) (areasL z (cnt z)) es clock /\ Below w.heap.size w w'
set_option maxHeartbeats 8000000 in
set_option maxRecDepth 100000 in
theorem pLookOver {C : Nat} (w : World) (nb z : Nat) (T : List Px) (hz : z = 4 \/ z = 8 \/ z = 16) (h : PixIn w nb (z * z) T) (hT : ∀ p ∈ T, okPx p) :
  Calls Tryd.prog 40 #[.agg #[.int .i64 z, .slice (some ⟨nb, 0, none⟩) (z * z) C]] w (LookPost w z T) := by
 have hz16 : z <= 16 /\ z * z <= 256 := by rcases hz with rfl | rfl | rfl <;> decide
 obtain ⟨Z, hZ⟩ : ∃ Z, Z = z * z := ⟨_, rfl⟩
 obtain ⟨H, hH⟩ : ∃ H, H = w.heap.size := ⟨_, rfl⟩
 have hmk : ∀ u : World, (Instr.makeMap 79 none).run Tryd.prog u = .ok (.map (some u.heap.size)) (u.alloc (.map #[] 0)) := fun u => rfl
 obtain ⟨hzero, hsize⟩ := zero_of_info contInfo
 obtain ⟨O, hO⟩ : ∃ O, O = (contL 0 []).toArray := ⟨_, rfl⟩
 rw [<- hO] at hzero
 have hOs : O.size = 769 := by rw [hO, List.size_toArray]; exact contL_len (by decide)
 have hOn : O ≠ #[] := fun e => by rw [e] at hOs; exact absurd hOs (by decide)
 have HP : Hid (PixIn w nb (z * z) T) := h
 have HZ : Hid (Z = z * z) := hZ
 have HSZ : Hid ((Tryd.prog.info? 127).map (·.size) = some 769) := hsize
 have HT : Hid (∀ p ∈ T, okPx p) := hT
 obtain ⟨W4, hW4⟩ : ∃ W4, W4 = (((w.alloc (.cells #[.int .i64 z, .slice (some ⟨nb, 0, none⟩) Z C] 77)).alloc (.map #[] 0)).alloc (.cells #[.map (some (H + 1))] 79)).alloc (.cells #[.int .i64 4] 3) := ⟨_, rfl⟩
 have hB4 : Below w.heap.size w W4 := by rw [hW4]; exact ((((Below.refl _ w).alloc (Nat.le_refl _) _).alloc (by simp) _).alloc (by simp only [World.size_alloc]; omega) _).alloc (by simp only [World.size_alloc]; omega) _
 have hx0 : W4.heap[H]? = some (.cells #[.int .i64 z, .slice (some ⟨nb, 0, none⟩) Z C] 77) := by
  rw [hW4, hH]; exact (Below.heap_alloc _ _ _ (by simp only [World.size_alloc]; omega)).trans ((Below.heap_alloc _ _ _ (by simp only [World.size_alloc]; omega)).trans ((Below.heap_alloc _ _ _ (by simp only [World.size_alloc]; omega)).trans (heap_alloc_last w _)))
 have hx1 : W4.heap[H + 1]? = some (.map #[] 0) := by
  have := heap_alloc_last (w.alloc (.cells #[.int .i64 z, .slice (some ⟨nb, 0, none⟩) Z C] 77)) (.map #[] 0)
  rw [World.size_alloc] at this
  rw [hW4, hH]; exact (Below.heap_alloc _ _ _ (by simp only [World.size_alloc]; omega)).trans ((Below.heap_alloc _ _ _ (by simp only [World.size_alloc]; omega)).trans this)
 have hx2 : W4.heap[H + 1 + 1]? = some (.cells #[.map (some (H + 1))] 79) := by
  have := heap_alloc_last ((w.alloc (.cells #[.int .i64 z, .slice (some ⟨nb, 0, none⟩) Z C] 77)).alloc (.map #[] 0)) (.cells #[.map (some (H + 1))] 79)
  simp only [World.size_alloc] at this
  rw [hH] at hW4 ⊢
  rw [hW4]; exact (Below.heap_alloc _ _ _ (by simp only [World.size_alloc]; omega)).trans (by rw [hH] at this; exact this)
 have hx3 : W4.heap[H + 1 + 1 + 1]? = some (.cells #[.int .i64 4] 3) := by
  have := heap_alloc_last (((w.alloc (.cells #[.int .i64 z, .slice (some ⟨nb, 0, none⟩) Z C] 77)).alloc (.map #[] 0)).alloc (.cells #[.map (some (H + 1))] 79)) (.cells #[.int .i64 4] 3)
  simp only [World.size_alloc] at this
  rw [<- hW4, <- hH] at this
  exact this
 have HL0 : Hid (LkW w z nb C T H 4 (H + 1 + 1 + 1) [] [] W4) := ⟨hH, hB4, by rw [hx0, hZ], hx2, hx3, fun D hD => absurd hD (List.not_mem_nil), List.nodup_nil, _, _, MapAt.empty hx1⟩
 have HW4 : Hid (W4 = (((w.alloc (.cells #[.int .i64 z, .slice (some ⟨nb, 0, none⟩) Z C] 77)).alloc (.map #[] 0)).alloc (.cells #[.map (some (H + 1))] 79)).alloc (.cells #[.int .i64 4] 3)) := hW4
 have HH : Hid (H = w.heap.size) := hH
 rw [<- hZ]
 clear hW4 hx0 hx1 hx2 hx3 hB4 hsize hO h hZ hH hT
 refine (callsIn_wide (n := 5)).1 ?_
 refine callsIn_of_wp_marks Tryd.func40 rfl trivial ?_ rfl
 simp only [Tryd.ntmps40, List.size_toArray, List.length_cons, List.length_nil, Nat.reduceAdd, Nat.reduceSub, Array.replicate_succ, Array.replicate_zero, List.push_toArray, List.append_toArray, List.nil_append, List.cons_append]
 refine wpIn_wide.2 ?_
 go_wp2
 rw [<- HH.out]
 rw [<- HW4.out]
 refine wp_loop_ghost_k (LkI w z nb C Z T H) (cnt z) ⟨0, H + 1 + 1 + 1, [], _, _, _, _, _, _, _, _, _, _, _, _, _, _, _, _, _, _, _, _, _, _, _, _, _, _, _, _, _, _, _, _, _, _, _, _, _, Nat.zero_add _, rfl, HL0.out⟩ ?_
 clear HL0 HW4
 rintro k a W ⟨i, A4, Ds, u5, u6, u7, u8, u9, u11, u12, u13, u14, u15, u16, u17, u18, u19, u20, u21, u22, u23, u24, u25, u26, u27, u28, u29, u30, u31, u32, u33, u34, u35, u36, u37, u38, u39, u40, u41, u42, hik, rfl, hL⟩ J K hJ hK
 obtain ⟨n, hn⟩ : ∃ n, n = 4 * 2 ^ i := ⟨_, rfl⟩
 rw [<- hn] at hL
 have c0 := cell_of_row _ _ 0 _ _ _ hL.p4
 have c1 := cell_of_row _ _ 0 _ _ _ hL.p0
 simp at c0 c1
 have HL : Hid (LkW w z nb C T H n A4 Ds (areasL z i) W) := hL
 have HN : Hid (n = 4 * 2 ^ i /\ i + k = cnt z) := ⟨hn, hik⟩
 have HJ : Hid (∀ k a' w', LkI w z nb C Z T H k a' w' -> J k a' w') := hJ
 obtain ⟨q1, q2⟩ := cnt_lt (i := i) hz
 rw [<- hn] at q1 q2
 by_cases hlt : i < cnt z
 ·obtain ⟨n1, n2, n3, n4⟩ := q1 hlt
  clear q1 q2 hL hn hik hJ
  have hle : (n : Int) <= (z : Int) := by omega
  obtain ⟨m, hm⟩ : ∃ m, m = z - n + 1 := ⟨_, rfl⟩
  have hm1 : (z : Int) - (n : Int) + 1 = (m : Int) := by omega
  have hm13 : m <= 13 := by omega
  have hmz : ∀ p, p < m -> p + n <= z := fun p hp => by omega
  clear hm
  have wk1 : wrap64 ((z : Int) - (n : Int)) = (z : Int) - (n : Int) := by unfold wrap64; omega
  have wk2 : wrap64 ((z : Int) - (n : Int) + 1) = (m : Int) := by unfold wrap64; omega
  go_wp2_with (go_at_call 45; refine (pPoints _ _ _ _).mono ?_; rintro e wq ⟨rfl, rfl⟩)
  clear c0 c1 wk1 wk2
  obtain ⟨A5, hA5⟩ : ∃ A5, A5 = W.heap.size := ⟨_, rfl⟩
  obtain ⟨XG, hXG⟩ : ∃ XG, XG = (W.alloc (.cells #[.int .i64 0, .int .i64 0, .int .i64 m] 88)).alloc (.cells #[.int .i64 0, .int .i64 0, .int .i64 m] 88) := ⟨_, rfl⟩
  have hBX : Below W.heap.size W XG := by rw [hXG]; exact ((Below.refl _ W).alloc (Nat.le_refl _) _).alloc (by simp) _
  have hsX : XG.heap.size = A5 + 1 + 1 := by rw [hXG, hA5]; simp
  have hit : XG.heap[A5 + 1]? = some (.cells #[.int .i64 (0 : Nat), .int .i64 (0 : Nat), .int .i64 m] 88 (0, 0)) := by
   have := heap_alloc_last (W.alloc (.cells #[.int .i64 0, .int .i64 0, .int .i64 m] 88)) (.cells #[.int .i64 0, .int .i64 0, .int .i64 m] 88)
   simp only [World.size_alloc] at this
   rw [hXG, hA5]; exact this
  have HI0 : Hid (LkJ w z nb C T H n A4 Ds (areasL z i) (A5 + 1) m XG []) := by
   refine ⟨by simpa using HL.out.below hBX, hit, fun es clock he => ?_⟩
   obtain ⟨es0, clock0, m0⟩ := HL.out.mp
   have := (hBX.block (H + 1) (heap_lt0 m0.heap)).trans m0.heap
   rw [he] at this
   injection this with this
   injection this with e1 e2
   subst e1
   exact m0.off_new (by omega)
  have HDS : Hid ((∀ D ∈ Ds, D < XG.heap.size) /\ H + 1 < XG.heap.size /\ w.heap.size <= XG.heap.size /\ XG.heap.size = A5 + 1 + 1) := by
   obtain ⟨es0, clock0, m0⟩ := HL.out.mp
   exact ⟨fun D hD => by have := heap_lt0 (HL.out.ds D hD).1; omega, by have := heap_lt0 m0.heap; omega, Nat.le_trans HL.out.b0.size hBX.size, hsX⟩
  have HHW : Hid (H = w.heap.size /\ H + 1 < A5) := by
   obtain ⟨es0, clock0, m0⟩ := HL.out.mp
   exact ⟨HL.out.hH, by have := heap_lt0 m0.heap; omega⟩
  rw [<- hA5, <- hXG]
  have hGX : A5 + 1 < XG.heap.size := by omega
  clear hXG hBX hsX hA5
  refine (wpIn_wide (n := 5)).1 ?_
  refine wpIn_rangeFunc_ownG rfl (by decide) (gf := 57) (lb := #[.pointer (some ⟨A5 + 1, 0, none⟩)]) rfl trivial (enters_of Tryd.func57 (by kernel_rfl) rfl)
   (points_stops Fence.wide (5 - 1) trivial rfl (by decide) (A5 + 1) 0 0 m (by omega) (by omega) XG hit)
   (fun h1 h2 => h2.trans h1) (fun W l o o' hl _ _ _ => World.putObj_heap_other (by omega)) (Below.refl _ _) (fun _ => rfl)
   (fun pre W => LkJ w z nb C T H n A4 Ds (areasL z i) (A5 + 1) m W pre)
   (fun _ _ _ => False)
   ?own (fun _ _ _ _ _ hs _ _ => hs) HI0.out
   (fun pt => { tmps := #[.agg #[.int .i64 z, .slice (some ⟨nb, 0, none⟩) Z C], .pointer (some ⟨H, 0, none⟩), .map none, .pointer (some ⟨H + 1 + 1, 0, none⟩), .pointer (some ⟨A4, 0, none⟩), .pointer (some ⟨A5, 0, none⟩), .int .i64 pt.1.1, .int .i64 pt.1.2, u8, u9, .map (some (H + 1)), .int .i64 n, .pointer (some ⟨H, 0, none⟩), .int .i64 z, .bool true, u15, u16, .pointer (some ⟨H, 0, none⟩), .int .i64 z, .int .i64 n, .int .i64 ((z : Int) - (n : Int)), .int .i64 m, .agg #[.int .i64 0, .int .i64 0, .int .i64 m], .agg #[.int .i64 0, .int .i64 0, .int .i64 m], .func (.func 57) #[] #[.pointer (some ⟨A5 + 1, 0, none⟩)], .int .i64 pt.1.1, .int .i64 pt.1.2, u27, u28, u29, u30, u31, u32, u33, u34, u35, u36, u37, u38, u39, u40, u41, u42, undef], defers := [] })
   ?assign ?body ?done ?stop
  case own =>
   rintro pre W W' row ⟨i1, i2, i3⟩ hg hr
   have fg : Frm (fun k => row = some k) W W' := (Frm.refl _ W).grown hg (fun k e => .inl e)
   have hr' : ∀ k, row = some k -> XG.heap.size <= k /\ ∀ o, W.heap[k]? = some o -> o.isCells = false := fun k e => by
    obtain ⟨r1, o, r2, r3⟩ := hr k e
    exact ⟨r1, fun o' e' => by rw [r2] at e'; obtain rfl := Option.some.inj e'; exact r3⟩
   refine ⟨i1.frm fg fun k _ hk => ⟨Nat.le_trans HDS.out.2.2.1 (hr' k hk).1, by have := (hr' k hk).1; have := HDS.out.2.1; omega, fun hD => by have := (hr' k hk).1; have := HDS.out.1 k hD; omega, (hr' k hk).2⟩, (fg.block _ (heap_lt0 i2) fun hk => by have := (hr' _ hk).2 _ i2; cases this).trans i2, fun es clock he => i3 es clock ?_⟩
   obtain ⟨es0, clock0, m0⟩ := i1.mp
   have hb := fg.block (H + 1) (heap_lt0 m0.heap) (fun hk => by have := (hr' _ hk).1; have := HDS.out.2.1; omega)
   rw [he] at hb
   exact hb.symm
  case assign =>
   intro l pt W K hK
   dsimp only [encPt]
   gi_wp2
   exact hK
  case body =>
   rintro l pre ⟨⟨PX, PY⟩, ⟨hpx1, hpx2⟩, hpy1, hpy2⟩ W ⟨i1, i2, i3⟩ hlen
   dsimp only at hpx1 hpx2 hpy1 hpy2 ⊢
   rw [Nat.zero_add] at hpx2 hpy2
   have hX := hmz PX hpx2
   have hY := hmz PY hpy2
   have c0 := cell_of_row _ _ 0 _ _ _ i1.p4
   have c1 := cell_of_row _ _ 0 _ _ _ i1.p0
   have c2 := cell_of_row _ _ 1 _ _ _ i1.p0
   have c3 := cell_of_row _ _ 0 _ _ _ i1.p2
   simp at c0 c1 c2 c3
   rw [<- HZ.out] at c2
   have bal : Below W.heap.size W (W.alloc (.cells #[.int .i64 PX, .int .i64 PY, .int .i64 n] 88)) := (Below.refl _ W).alloc (Nat.le_refl _) _
   have e1 := (bal.cell (p := ⟨H, 0, none⟩) (World.block_lt_of_cell? W _ c1)).trans c1
   have e2 := (bal.cell (p := ⟨H, 1, none⟩) (World.block_lt_of_cell? W _ c2)).trans c2
   have hp1 : PixIn (W.alloc (.cells #[.int .i64 PX, .int .i64 PY, .int .i64 n] 88)) nb (z * z) T := (HP.out.below i1.b0).below ((Below.refl _ W).alloc (Nat.le_refl _) _)
   have HCT : Hid (Calls Tryd.prog 46 #[.agg #[.int .i64 z, .slice (some ⟨nb, 0, none⟩) Z C], .agg #[.int .i64 PX, .int .i64 PY, .int .i64 n]] (W.alloc (.cells #[.int .i64 PX, .int .i64 PY, .int .i64 n] 88)) fun e w' => e = .returned (.agg (contL n (Pk.content z T n (PX, PY))).toArray) /\ Below (W.alloc (.cells #[.int .i64 PX, .int .i64 PY, .int .i64 n] 88)).heap.size (W.alloc (.cells #[.int .i64 PX, .int .i64 PY, .int .i64 n] 88)) w') := by
    have := pContent (C := C) (W.alloc (.cells #[.int .i64 PX, .int .i64 PY, .int .i64 n] 88)) nb z T hz hp1 PX PY n hX hY
    rw [<- HZ.out] at this
    exact this
   obtain ⟨R, hR⟩ : ∃ R, R = contL n (Pk.content z T n (PX, PY)) := ⟨_, rfl⟩
   rw [<- hR] at HCT
   have hRl : R.length = 769 := by rw [hR]; exact contL_len (by rw [Pk.content, List.length_map, Flm.spots_len]; exact Nat.le_trans (Nat.mul_le_mul n2 n2) (Nat.le_refl _))
   have hR1 : R.toArray.all (·.oneCell') = true := by rw [hR]; exact all_oneCell_toArray (contL_one _ _)
   have HR : Hid (R = contL n (Pk.content z T n (PX, PY))) := hR
   have HI : Hid (LkJ w z nb C T H n A4 Ds (areasL z i) (A5 + 1) m W pre) := ⟨i1, i2, i3⟩
   have HLN : Hid (pre.length < m * m) := hlen
   have i1 := i1
   obtain ⟨PT, hPT⟩ : ∃ PT : Pt 0 0 m, PT.1 = (PX, PY) := ⟨⟨(PX, PY), ⟨Nat.zero_le _, by rw [Nat.zero_add]; exact hpx2⟩, Nat.zero_le _, by rw [Nat.zero_add]; exact hpy2⟩, rfl⟩
   have hOl : O.size = R.toArray.size := by rw [hOs, List.size_toArray, hRl]
   have hsz : (Tryd.prog.info? 127).map (·.size) = some R.toArray.size := by rw [HSZ.out, List.size_toArray, hRl]
   have HSR : Hid ((Tryd.prog.info? 127).map (·.size) = some R.length) := by rw [Hid, HSZ.out, hRl]
   have HALL : Hid (∀ wa, Below (W.alloc (.cells #[.int .i64 PX, .int .i64 PY, .int .i64 n] 88)).heap.size (W.alloc (.cells #[.int .i64 PX, .int .i64 PY, .int .i64 n] 88)) wa -> ∃ (wb : World) (B9 : Nat) (v0 v1 : Value) (st : Nat) (w1 w2 w3 : World), Hid (wb = wa.alloc (.cells R.toArray 127)) /\ Hid (B9 = wa.heap.size) /\
     wb.cell? ⟨H + 1 + 1, 0, none⟩ = some (.map (some (H + 1))) /\ wb.cell? ⟨W.heap.size, 0, none⟩ = some (.int .i64 PX) /\ wb.cell? ⟨W.heap.size, 1, none⟩ = some (.int .i64 PY) /\ wb.cell? ⟨W.heap.size, 2, none⟩ = some (.int .i64 n) /\ wb.rangeAt B9 0 R /\
     (Instr.mapEntry 79 (.map (some (H + 1))) (.agg R.toArray)).run Tryd.prog (wb.alloc (.cells #[.int .i64 PX, .int .i64 PY, .int .i64 n] 88)) = .ok (.tuple #[v0, .int .i64 st]) w1 /\
     (Builtin.append_ #[129, 129] 129 #[v0, .slice (some ⟨wb.heap.size, 0, none⟩) 1 1]).run Tryd.prog w1 = .ok v1 w2 /\
     (Instr.entryStore 79 (.map (some (H + 1))) (.int .i64 st) v1).run Tryd.prog w2 = .ok () w3 /\ Hid (KeepsFrom XG.heap.size W w3 /\ W.heap[A5 + 1]? = w3.heap[A5 + 1]? /\ LkJ w z nb C T H n A4 Ds (areasL z i) (A5 + 1) m w3 (pre ++ [PT]))) := by
    intro wa ba
    have b1 : Below W.heap.size W (W.alloc (.cells #[.int .i64 PX, .int .i64 PY, .int .i64 n] 88)) := (Below.refl _ W).alloc (Nat.le_refl _) _
    have ba0 : Below W.heap.size W wa := b1.trans (ba.mono (by simp))
    obtain ⟨B9, hB9⟩ : ∃ B9, B9 = wa.heap.size := ⟨_, rfl⟩
    obtain ⟨wb, hwb⟩ : ∃ wb, wb = wa.alloc (.cells R.toArray 127) := ⟨_, rfl⟩
    have bb : Below wa.heap.size wa wb := by rw [hwb]; exact (Below.refl _ wa).alloc (Nat.le_refl _) _
    have bb0 : Below W.heap.size W wb := ba0.trans (bb.mono ba0.size)
    obtain ⟨wc, hwc⟩ : ∃ wc, wc = wb.alloc (.cells #[.int .i64 PX, .int .i64 PY, .int .i64 n] 88) := ⟨_, rfl⟩
    have bc : Below wb.heap.size wb wc := by rw [hwc]; exact (Below.refl _ wb).alloc (Nat.le_refl _) _
    have bc0 : Below W.heap.size W wc := bb0.trans (bc.mono bb0.size)
    have hb9 : wb.heap[B9]? = some (.cells R.toArray 127 (0, 0)) := by rw [hwb, hB9]; exact heap_alloc_last wa _
    have hgc : wc.heap[wb.heap.size]? = some (.cells (arCells ((PX, PY), n)).toArray 88 (0, 0)) := by rw [hwc]; exact heap_alloc_last wb _
    have lc := i1.below bc0
    obtain ⟨es, clock, mc⟩ := lc.mp
    have hlen1 : (areasL z i ++ pre.map fun p => (p.1, n)).length <= 1000 := by
     have h1 := areasL_len hz16.1 i (by omega)
     have h2 : m * m <= 13 * 13 := Nat.mul_le_mul hm13 hm13
     have h3 := HLN.out
     rw [List.length_append, List.length_map]
     omega
    have hWb : W.heap.size < wb.heap.size := by
     have h1 := ba.size
     have h2 : wb.heap.size = wa.heap.size + 1 := by rw [hwb]; simp
     simp only [World.size_alloc] at h1
     omega
    have esW : W.heap[H + 1]? = some (.map es clock) := by
     obtain ⟨es0, clock0, m0⟩ := i1.mp
     have := bc0.block (H + 1) (heap_lt0 m0.heap)
     rw [mc.heap] at this
     exact this.symm
    have mw : MapAt W H (H + 1) (kap z T) (areasL z i ++ pre.map fun p => (p.1, n)) es clock := by
     obtain ⟨es0, clock0, m0⟩ := i1.mp
     have := m0.heap
     rw [esW] at this
     injection this with this
     injection this with e1 e2
     subst e1
     subst e2
     exact m0
    have hoff : Off es (H + 1) wb.heap.size := mw.off_new (by omega)
    obtain ⟨v0, st, w1, v1, w2, w3, es3, clock3, r1, r2, r3, m3, f3, o3⟩ := mc.add ((PX, PY), n) (kap_good HT.out n2 (PX, PY)) (by rw [HHW.out.1]; exact Nat.le_trans i1.b0.size bc0.size) hlen1 wb.heap.size 1 hgc hoff
    have hkv : kval (kap z T ((PX, PY), n)) = .agg R.toArray := by rw [HR.out]; rfl
    rw [hkv] at r1
    have d3 : wb.cell? ⟨H + 1 + 1, 0, none⟩ = some (.map (some (H + 1))) := (bb0.cell (p := ⟨H + 1 + 1, 0, none⟩) (World.block_lt_of_cell? W _ c3)).trans c3
    have hB8 : wa.heap[W.heap.size]? = some (.cells #[.int .i64 PX, .int .i64 PY, .int .i64 n] 88 (0, 0)) := (ba.block W.heap.size (by simp)).trans (heap_alloc_last W _)
    have hB8b : wb.heap[W.heap.size]? = some (.cells #[.int .i64 PX, .int .i64 PY, .int .i64 n] 88 (0, 0)) := (bb.block W.heap.size (heap_lt0 hB8)).trans hB8
    have d0 := cell_of_row _ _ 0 _ _ _ hB8b
    have d1 := cell_of_row _ _ 1 _ _ _ hB8b
    have d2 := cell_of_row _ _ 2 _ _ _ hB8b
    simp at d0 d1 d2
    have hrg : wb.rangeAt B9 0 R := fun j v hv => by rw [Nat.zero_add, cell_of_row _ _ j _ _ _ hb9, List.getElem?_toArray]; exact hv
    have hIW : LkJ w z nb C T H n A4 Ds (areasL z i) (A5 + 1) m w3 (pre ++ [PT]) := by
     have e1 : (areasL z i ++ (pre ++ [PT]).map fun p : Pt 0 0 m => (p.1, n)) = (areasL z i ++ pre.map fun p => (p.1, n)) ++ [((PX, PY), n)] := by simp [hPT]
     have hG : Off es (H + 1) (A5 + 1) := i3 es clock esW
     have hGl : A5 + 1 < W.heap.size := heap_lt0 i2
     refine ⟨by rw [e1]; exact lc.add mc m3 f3, (f3.block (A5 + 1) (Nat.lt_of_lt_of_le hGl bc0.size) (fun hs => hs hG)).trans ((bc0.block (A5 + 1) hGl).trans i2), fun es' clock' he => ?_⟩
     have := m3.heap
     rw [he] at this
     injection this with this
     injection this with e2 e3
     subst e2
     exact o3 (A5 + 1) (Nat.lt_of_lt_of_le hGl bc0.size) hG
    have HF : Hid (KeepsFrom XG.heap.size W w3 /\ W.heap[A5 + 1]? = w3.heap[A5 + 1]? /\ LkJ w z nb C T H n A4 Ds (areasL z i) (A5 + 1) m w3 (pre ++ [PT])) := by
     refine ⟨⟨Nat.le_trans bc0.size f3.size, fun k o hk ho hc => ?_⟩, by rw [i2, hIW.2.1], hIW⟩
     have hk1 : wc.heap[k]? = some o := (bc0.block k (heap_lt0 ho)).trans ho
     refine (f3.block k (heap_lt0 hk1) (fun hs => hs (mc.off hk1 ?_ (fun cs e => by rw [e] at hc; cases hc)))).trans hk1
     have := HDS.out.2.1
     omega
    rw [hwc] at r1
    exact ⟨wb, B9, v0, v1, st, w1, w2, w3, hwb, hB9, d3, d0, d1, d2, hrg, r1, r2, r3, HF⟩
   have HPT : Hid (PT.1 = (PX, PY)) := hPT
   clear hp1 hR i1 i2 i3 hlen HI HLN bal c3 hPT hX hY hmz hz hz16 hm13 hm1 n1 n2 n3 n4 hle hlt
   gi_wp2_with (first
    | (refine ⟨trivial, ?_⟩; gi_at_call 46; refine (CallsIn.inRound l (callsIn_wide.2 HCT.out)).mono ?_; rintro e wa ⟨rfl, ba⟩; obtain ⟨wb, B9, v0, v1, st, w1, w2, w3, HWB, HB9, d3, d0, d1, d2, hrg, r1, r2, r3, HF⟩ := HALL.out wa ba)
    | (refine wpListIn_store_row rfl 127 _ _ rfl wa.heap.size R.toArray rfl rfl 127 O (heap_alloc_last wa _) hsz hOl hR1 ?_; rw [World.setRow_alloc_new, <- HWB.out, <- HB9.out])
    | (refine wpListIn_load_mid rfl 127 (.tmp 9) rfl B9 0 rfl R _ hrg Tryd.underlying127 rfl HSR.out ?_)
    | (refine wpListIn_mapEntry rfl 79 (.tmp 34) (.tmp 35) rfl rfl rfl r1 ?_)
    | (refine wpListIn_append_run rfl 129 (.tmp 36) (.tmp 38) rfl rfl rfl r2 ?_)
    | (refine wpListIn_entryStore rfl 79 (.tmp 34) (.tmp 41) (.tmp 40) rfl rfl rfl rfl r3 ?_))
   obtain rfl : PT = ⟨(PX, PY), ⟨Nat.zero_le _, by dsimp only; omega⟩, Nat.zero_le _, by dsimp only; omega⟩ := Subtype.ext HPT.out
   exact ⟨HF.out.1, HF.out.2.1.symm, HF.out.2.2⟩
  case done =>
   rintro D xs W hD hxs ⟨i1, i2, i3⟩ hDW
   have e1 : (areasL z i ++ xs.map fun p => (p.1, n)) = areasL z (i + 1) := by
    show _ = areasL z i ++ corners z (4 * 2 ^ i)
    rw [<- HN.out.1]
    congr 1
    unfold corners
    rw [show z - n + 1 = m by omega, <- hxs, List.map_map]
    rfl
   rw [e1] at i1
   have c0 := cell_of_row _ _ 0 _ _ _ i1.p4
   simp at c0
   obtain ⟨A6, hA6⟩ : ∃ A6, A6 = W.heap.size := ⟨_, rfl⟩
   have wk1 : wrap64 ((n : Int) * 2) = (n : Int) * 2 := by unfold wrap64; omega
   have e4 : (n : Int) * 2 = ((4 * 2 ^ (i + 1) : Nat) : Int) := by
    have := HN.out.1
    rw [Nat.pow_succ]
    omega
   obtain ⟨W6, hW6⟩ : ∃ W6, W6 = W.alloc (.cells #[.int .i64 ((n : Int) * 2)] 3) := ⟨_, rfl⟩
   have b6 : Below W.heap.size W W6 := by rw [hW6]; exact (Below.refl _ W).alloc (Nat.le_refl _) _
   have h6 : W6.heap[A6]? = some (.cells #[.int .i64 ((n : Int) * 2)] 3 (0, 0)) := by rw [hW6, hA6]; exact heap_alloc_last W _
   have hLW : LkW w z nb C T H (4 * 2 ^ (i + 1)) A6 (D :: Ds) (areasL z (i + 1)) W6 := by
    have q := i1.below b6
    refine ⟨q.hH, q.b0, q.p0, q.p2, by rw [h6, e4], fun E hE => ?_, List.nodup_cons.2 ⟨fun hm => ?_, q.nd⟩, q.mp⟩
    ·rcases List.mem_cons.1 hE with rfl | hE
     ·exact ⟨(b6.block E (heap_lt0 hDW)).trans hDW, by have := HDS.out.2.2.1; have := HHW.out.1; omega⟩
     ·exact q.ds E hE
    ·have := HDS.out.1 D hm; omega
   have HLW : Hid (LkW w z nb C T H (4 * 2 ^ (i + 1)) A6 (D :: Ds) (areasL z (i + 1)) W6) := hLW
   have HW6 : Hid (W6 = W.alloc (.cells #[.int .i64 ((n : Int) * 2)] 3)) := hW6
   have HA6 : Hid (A6 = W.heap.size) := hA6
   have HK0 : Hid (∀ a' w', Handed J k a' w' -> K a' w') := hK
   clear e4 i1 i2 i3 e1 hxs hD hDW b6 h6 hLW hW6 hA6 hit hK
   go_wp2
   rw [<- HA6.out, <- HW6.out]
   have hk1 : k - 1 < k := by have := HN.out.2; omega
   have hk2 : i + 1 + (k - 1) = cnt z := by have := HN.out.2; omega
   exact HK0.out _ _ (Handed.intro (k - 1) hk1 (HJ.out _ _ _ ⟨i + 1, A6, D :: Ds, _, _, _, _, _, _, _, _, _, _, _, _, _, _, _, _, _, _, _, _, _, _, _, _, _, _, _, _, _, _, _, _, _, _, _, _, _, hk2, rfl, HLW.out⟩))
  case stop => exact fun D c pre W hD hpre hf hK => hf.elim
 ·have hki : i = cnt z := by omega
  have hgt : ¬ ((n : Int) <= (z : Int)) := by have := q2 hki; omega
  have c3 := cell_of_row _ _ 0 _ _ _ hL.p2
  simp at c3
  clear q1 q2 hn hik hJ hK hL
  go_wp2
  obtain ⟨es, clock, m0⟩ := HL.out.mp
  show LeavesInM _ _ _ _ _ _ _ _ _
  refine leavesM_marks Ds W HL.out.nd (fun D hD => (HL.out.ds D hD).1) (fun W' f => ⟨.map (some (H + 1)), ?_, (⟨H + 1, es, clock, rfl, by have := HL.out.hH; omega, ?_, ?_⟩ : LookPost w z T _ _)⟩)
  ·simp [results, Tryd.results40]
  ·rw [<- HL.out.hH, <- hki]
   refine m0.frm f (fun hs => ?_) fun e he g hg hs => ?_
   ·have := (HL.out.ds _ hs).1
    rw [m0.heap] at this
    cases this
   ·obtain ⟨q, _, _, rk, pk⟩ := m0.ent e he
    obtain ⟨g', cur, e1, _, e2⟩ := row_block rk pk
    rw [hg] at e1
    obtain rfl := Option.some.inj e1
    rw [(HL.out.ds _ hs).1] at e2
    cases e2
  ·exact HL.out.b0.trans (f.below HL.out.b0.size (fun k hk => by have := (HL.out.ds k hk).2; have := HL.out.hH; omega))
end Go.Proofs.YtekfbphnoibnjaaDoor
