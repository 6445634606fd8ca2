/-
  A film that came out waits, beside what it should be. The law reads the number of an error as it is. The law's step: bytes are read by the program, twice, and by the document.
-/
import Derived.Test.YtekfbphnoibnjaaGreatDoorF24
import Derived.Test.YtekfbphnoibnjaaGreatDoorF25
import Derived.Test.YtekfbphnoibnjaaGreatDoorF01
import Derived.Test.YtekfbphnoibnjaaGreatDoorF10
namespace Go.Proofs.YtekfbphnoibnjaaGreatDoor
open Go.RowKit
theorem infoFilm : (Tryz.prog.info? 27).map (fun i => (i.zero, i.size, i.bytes)) = some (some (.agg #[.int .i64 0, .slice none 0 0]), 2, 32) := by kernel_rfl
def keepFS (p : Nat) (va ve : Value) : Nat -> Prop := fun k => k = p \/ va.ownBlock = some k \/ ve.ownBlock = some k
def KeptFilm (w w' : World) (B p M : Nat) (vs : List Value) (va ve : Value) (wk ek : Nat) (wrows erows f g : List Value) : Prop :=
 ∃ gw cw ge ce : Nat, BookAt w' p M ((vs.set 6 (.slice (some ⟨gw, 0, none⟩) (wk + 1) cw)).set 7 (.slice (some ⟨ge, 0, none⟩) (ek + 1) ce)) /\
  w'.ownsRow B 27 2 (.slice (some ⟨gw, 0, none⟩) (wk + 1) cw) (wk + 1) (wrows ++ f) /\ w'.ownsRow B 27 2 (.slice (some ⟨ge, 0, none⟩) (ek + 1) ce) (ek + 1) (erows ++ g) /\
  (va.ownBlock = some gw \/ w.heap.size <= gw) /\ (ve.ownBlock = some ge \/ w.heap.size <= ge) /\ gw ≠ ge /\ gw ≠ p /\ ge ≠ p /\ Frm (keepFS p va ve) w w'
set_option maxHeartbeats 4000000 in
set_option maxRecDepth 100000 in
theorem keepFilm_any (w : World) (B p M : Nat) (vs : List Value) (wa : Option Addr) (wk wc : Nat) (ea : Option Addr) (ek ec : Nat) (wrows erows : List Value) (z z' : Int) (la : Option Addr) (ln lc : Nat) (ha : Option Addr) (hn hc : Nat)
  (hbk : BookAt w p M vs) (hv6 : vs[6]? = some (.slice wa wk wc)) (hv7 : vs[7]? = some (.slice ea ek ec)) (hrw : w.ownsRow B 27 2 (.slice wa wk wc) wk wrows) (hre : w.ownsRow B 27 2 (.slice ea ek ec) ek erows)
  (hBz : B <= w.heap.size) (n1 : (Value.slice wa wk wc).ownBlock ≠ some p) (n2 : (Value.slice ea ek ec).ownBlock ≠ some p) (n3 : ∀ k, (Value.slice wa wk wc).ownBlock = some k -> (Value.slice ea ek ec).ownBlock ≠ some k) (hwk : wk <= 1000000000) (hek : ek <= 1000000000) :
  Calls Tryz.prog 69 #[.pointer (some ⟨p, 0, none⟩), .agg #[.int .i64 z, .slice la ln lc], .agg #[.int .i64 z', .slice ha hn hc]] w fun x w' => x = .returned (.tuple #[]) /\ KeptFilm w w' B p M vs (.slice wa wk wc) (.slice ea ek ec) wk ek wrows erows [.int .i64 z, .slice la ln lc] [.int .i64 z', .slice ha hn hc] := by
 have hmx : Tryz.prog.follows .mixedOrders = true := by kernel_rfl
 obtain ⟨i0, hi, y0, y1, y2⟩ := info_parts infoFilm
 obtain ⟨H, hH⟩ : ∃ H, H = w.heap.size := ⟨_, rfl⟩
 obtain ⟨w2, hw2⟩ : ∃ x, x = (w.alloc (.cells #[.int .i64 z, .slice la ln lc] 27)).alloc (.cells #[.int .i64 z', .slice ha hn hc] 27) := ⟨_, rfl⟩
 have b2 : Below w.heap.size w w2 := by rw [hw2]; exact ((Below.refl _ w).alloc (Nat.le_refl _) _).alloc (by simp) _
 have hx0 : w2.heap[H]? = some (.cells #[.int .i64 z, .slice la ln lc] 27 (0, 0)) := by rw [hw2, hH, Below.heap_alloc _ _ _ (by simp)]; exact heap_alloc_last w _
 have hx1 : w2.heap[H + 1]? = some (.cells #[.int .i64 z', .slice ha hn hc] 27 (0, 0)) := by
  have := heap_alloc_last (w.alloc (.cells #[.int .i64 z, .slice la ln lc] 27)) (.cells #[.int .i64 z', .slice ha hn hc] 27)
  rw [World.size_alloc] at this
  rw [hw2, hH]; exact this
 have w2sz : w2.heap.size = H + 2 := by rw [hw2, hH]; simp
 have hpH : p < H := by rw [hH]; exact hbk.up
 have bk0 := hbk.frm (Frm.of_below (S := fun _ => False) b2) (fun e => e)
 have hwl : ∀ k, (Value.slice wa wk wc).ownBlock = some k -> k < H := fun k e => by rw [hH]; exact (World.ownsRow.lt hrw k e).2
 have hel : ∀ k, (Value.slice ea ek ec).ownBlock = some k -> k < H := fun k e => by rw [hH]; exact (World.ownsRow.lt hre k e).2
 have hrw2 := (Frm.of_below (S := fun _ => False) b2).owns hrw (fun _ _ e => e)
 have hre2 := (Frm.of_below (S := fun _ => False) b2).owns hre (fun _ _ e => e)
 obtain ⟨NA, hNA⟩ : ∃ N, N = w2.heap.size := ⟨_, rfl⟩
 obtain ⟨w3, hWA⟩ : ∃ x, x = w2.drew.alloc (.cells #[.int .i64 z, .slice la ln lc] 27) := ⟨_, rfl⟩
 have bA : Below w2.heap.size w2 w3 := by rw [hWA]; exact (below_drewN (Below.refl _ w2) 1).alloc (Nat.le_refl _) _
 have hnwA : w3.heap[NA]? = some (.cells #[.int .i64 z, .slice la ln lc] 27 (0, 0)) := by rw [hWA, hNA]; exact heap_alloc_last w2.drew _
 have howA : w3.ownsRow B 27 2 (.slice wa wk wc) wk wrows := (Frm.of_below (S := fun _ => False) bA).owns hrw2 (fun _ _ e => e)
 obtain ⟨gA, cA, w4, hRA, r1A, _, r3A, r4A⟩ := run_append_keep (P := Tryz.prog) w3 B 44 44 27 i0 _ 2 32 Tryz.underlying44 hi y0 y1 y2 rfl (by omega) (.slice wa wk wc) wk wrows howA ⟨NA, 0, none⟩ 1 1 [.int .i64 z, .slice la ln lc] rfl (World.news_of_block (cs := #[.int .i64 z, .slice la ln lc]) (t := 27) (fr := (0, 0)) hnwA) (by simp [Value.oneCell']) (by unfold maxLen; omega) (by omega) (Nat.le_trans (by have := w2sz; omega) bA.size) (by omega)
 have fA : Frm (fun k => (Value.slice wa wk wc).ownBlock = some k) w2 w4 := (Frm.of_below bA).trans ((Frm.refl _ w3).grown r3A (fun k e => .inl e))
 have hgA : (Value.slice wa wk wc).ownBlock = some gA \/ w2.heap.size <= gA := r4A.elim .inl (fun e => .inr (Nat.le_trans bA.size e.1))
 have bkA : BookAt w4 p M vs := bk0.frm fA n1
 obtain ⟨w5, hVA⟩ : ∃ x, x = w4.setCell ⟨p, 7, none⟩ (.slice (some ⟨gA, 0, none⟩) (wk + 1) cA) := ⟨_, rfl⟩
 have hVAf : Frm (fun k => k = p) w4 w5 := by rw [hVA]; exact Frm.setCell (p := ⟨p, 7, none⟩) (Frm.refl (fun k => k = p) w4) (.inl rfl) _
 have HWA : Hid (w3 = w2.drew.alloc (.cells #[.int .i64 z, .slice la ln lc] 27)) := hWA
 have HNA : Hid (NA = w2.heap.size) := hNA
 have HVA : Hid (w5 = w4.setCell ⟨p, 7, none⟩ (.slice (some ⟨gA, 0, none⟩) (wk + 1) cA)) := hVA
 have HRA : Hid ((Builtin.append_ #[44, 44] 44 #[.slice wa wk wc, .slice (some ⟨NA, 0, none⟩) 1 1]).run Tryz.prog w3 = .ok (.slice (some ⟨gA, 0, none⟩) (wk + 1) cA) w4) := hRA
 have cpA := bkA.cs 6 _ hv6
 have zpA := bkA.fz 7
 have gAp : gA ≠ p := by
  rcases hgA with e | e
  ·intro h; exact n1 (by rw [e, h])
  ·omega
 have f25 : Frm (fun k => k = p \/ (Value.slice wa wk wc).ownBlock = some k) w2 w5 := (fA.mono (fun _ _ e => .inr e)).trans (hVAf.mono (fun _ _ e => .inl e))
 have bk5 : BookAt w5 p M (vs.set 6 (.slice (some ⟨gA, 0, none⟩) (wk + 1) cA)) := by rw [hVA]; exact bkA.put 6 (by decide) _
 have hw5 : w5.ownsRow B 27 2 (.slice (some ⟨gA, 0, none⟩) (wk + 1) cA) (wk + 1) (wrows ++ [.int .i64 z, .slice la ln lc]) := hVAf.owns r1A (fun k e h => gAp (by simp [Value.ownBlock] at e; rw [e, h]))
 have hre5 := f25.owns hre2 (fun k e h => by rcases h with h | h; exact n2 (by rw [<- h]; exact e); exact n3 k h e)
 have w5sz : H + 2 <= w5.heap.size := by have := f25.size; omega
 have hx05 := (f25.block _ (heap_lt hx0) (by rintro (e | e); omega; have := hwl _ e; omega)).trans hx0
 have hx15 := (f25.block _ (heap_lt hx1) (by rintro (e | e); omega; have := hwl _ e; omega)).trans hx1
 obtain ⟨NB, hNB⟩ : ∃ N, N = w5.heap.size := ⟨_, rfl⟩
 obtain ⟨w6, hWB⟩ : ∃ x, x = w5.drew.alloc (.cells #[.int .i64 z', .slice ha hn hc] 27) := ⟨_, rfl⟩
 have bB : Below w5.heap.size w5 w6 := by rw [hWB]; exact (below_drewN (Below.refl _ w5) 1).alloc (Nat.le_refl _) _
 have hnwB : w6.heap[NB]? = some (.cells #[.int .i64 z', .slice ha hn hc] 27 (0, 0)) := by rw [hWB, hNB]; exact heap_alloc_last w5.drew _
 have howB : w6.ownsRow B 27 2 (.slice ea ek ec) ek erows := (Frm.of_below (S := fun _ => False) bB).owns hre5 (fun _ _ e => e)
 obtain ⟨gB, cB, w7, hRB, r1B, _, r3B, r4B⟩ := run_append_keep (P := Tryz.prog) w6 B 44 44 27 i0 _ 2 32 Tryz.underlying44 hi y0 y1 y2 rfl (by omega) (.slice ea ek ec) ek erows howB ⟨NB, 0, none⟩ 1 1 [.int .i64 z', .slice ha hn hc] rfl (World.news_of_block (cs := #[.int .i64 z', .slice ha hn hc]) (t := 27) (fr := (0, 0)) hnwB) (by simp [Value.oneCell']) (by unfold maxLen; omega) (by omega) (Nat.le_trans (by have := w5sz; omega) bB.size) (by omega)
 have fB : Frm (fun k => (Value.slice ea ek ec).ownBlock = some k) w5 w7 := (Frm.of_below bB).trans ((Frm.refl _ w6).grown r3B (fun k e => .inl e))
 have hgB : (Value.slice ea ek ec).ownBlock = some gB \/ w5.heap.size <= gB := r4B.elim .inl (fun e => .inr (Nat.le_trans bB.size e.1))
 have bkB : BookAt w7 p M (vs.set 6 (.slice (some ⟨gA, 0, none⟩) (wk + 1) cA)) := bk5.frm fB n2
 obtain ⟨w8, hVB⟩ : ∃ x, x = w7.setCell ⟨p, 8, none⟩ (.slice (some ⟨gB, 0, none⟩) (ek + 1) cB) := ⟨_, rfl⟩
 have hVBf : Frm (fun k => k = p) w7 w8 := by rw [hVB]; exact Frm.setCell (p := ⟨p, 8, none⟩) (Frm.refl (fun k => k = p) w7) (.inl rfl) _
 have HWB : Hid (w6 = w5.drew.alloc (.cells #[.int .i64 z', .slice ha hn hc] 27)) := hWB
 have HNB : Hid (NB = w5.heap.size) := hNB
 have HVB : Hid (w8 = w7.setCell ⟨p, 8, none⟩ (.slice (some ⟨gB, 0, none⟩) (ek + 1) cB)) := hVB
 have HRB : Hid ((Builtin.append_ #[44, 44] 44 #[.slice ea ek ec, .slice (some ⟨NB, 0, none⟩) 1 1]).run Tryz.prog w6 = .ok (.slice (some ⟨gB, 0, none⟩) (ek + 1) cB) w7) := hRB
 have cpB := bkB.cs 7 _ (by rw [List.getElem?_set, if_neg (by decide)]; exact hv7)
 have zpB := bkB.fz 8
 have gBp : gB ≠ p := by
  rcases hgB with e | e
  ·intro h; exact n2 (by rw [e, h])
  ·omega
 have f58 : Frm (fun k => k = p \/ (Value.slice ea ek ec).ownBlock = some k) w5 w8 := (fB.mono (fun _ _ e => .inr e)).trans (hVBf.mono (fun _ _ e => .inl e))
 have gA5 : gA < w5.heap.size := (World.ownsRow.lt hw5 gA rfl).2
 have gAE : (Value.slice ea ek ec).ownBlock ≠ some gA := fun e => by
  rcases hgA with h | h
  ·exact n3 gA h e
  ·have := hel gA e; omega
 have gAB : gA ≠ gB := by
  rcases hgB with e | e
  ·intro h; exact gAE (by rw [h]; exact e)
  ·omega
 have HFIN : Hid (KeptFilm w w8 B p M vs (.slice wa wk wc) (.slice ea ek ec) wk ek wrows erows [.int .i64 z, .slice la ln lc] [.int .i64 z', .slice ha hn hc]) := by
  refine ⟨gA, cA, gB, cB, by rw [hVB]; exact bkB.put 7 (by decide) _, f58.owns hw5 (fun k e h => ?_), hVBf.owns r1B (fun k e h => gBp (by simp [Value.ownBlock] at e; rw [e, h])), ?_, ?_, gAB, gAp, gBp, ?_⟩
  ·simp [Value.ownBlock] at e
   rcases h with h | h
   ·exact gAp (e.trans h)
   ·exact gAE (by rw [e]; exact h)
  ·exact hgA.elim .inl (fun e => .inr (by omega))
  ·exact hgB.elim .inl (fun e => .inr (by omega))
  ·exact ((Frm.of_below b2).trans (f25.mono (fun k _ e => e.elim .inl (fun e => .inr (.inl e))))).trans (f58.mono (fun k _ e => e.elim .inl (fun e => .inr (.inr e))))
 have c00 : w2.cell? ⟨H, 0, none⟩ = some (.int .i64 z) := cell_of_row _ _ 0 _ _ _ hx0
 have c01 : w2.cell? ⟨H, 1, none⟩ = some (.slice la ln lc) := cell_of_row _ _ 1 _ _ _ hx0
 have c10 : w5.cell? ⟨H + 1, 0, none⟩ = some (.int .i64 z') := cell_of_row _ _ 0 _ _ _ hx15
 have c11 : w5.cell? ⟨H + 1, 1, none⟩ = some (.slice ha hn hc) := cell_of_row _ _ 1 _ _ _ hx15
 have nAH : ¬ (Value.slice wa wk wc).ownBlock = some H := fun e => by have := hwl _ e; omega
 have nBH : ¬ (Value.slice ea ek ec).ownBlock = some (H + 1) := fun e => by have := hel _ e; omega
 have pH0 : ¬ H = p := by omega
 have pH1 : ¬ H + 1 = p := by omega
 have a3 := And.intro ((bA.cell (p := ⟨H, 0, none⟩) (heap_lt hx0)).trans c00) ((bA.cell (p := ⟨H, 1, none⟩) (heap_lt hx0)).trans c01)
 have a4 := And.intro (fA.cell c00 nAH) (fA.cell c01 nAH)
 have a5 := And.intro (hVAf.cell a4.1 pH0) (hVAf.cell a4.2 pH0)
 have e6 := And.intro ((bB.cell (p := ⟨H + 1, 0, none⟩) (heap_lt hx15)).trans c10) ((bB.cell (p := ⟨H + 1, 1, none⟩) (heap_lt hx15)).trans c11)
 have e7 := And.intro (fB.cell c10 nBH) (fB.cell c11 nBH)
 have e8 := And.intro (hVBf.cell e7.1 pH1) (hVBf.cell e7.2 pH1)
 have p7 := bk0.cs 6 _ hv6
 have p73 : w3.cell? ⟨p, 7, none⟩ = some (.slice wa wk wc) := (bA.cell (p := ⟨p, 7, none⟩) bk0.up).trans p7
 have p8 := bk5.cs 7 (.slice ea ek ec) (by rw [List.getElem?_set, if_neg (by decide)]; exact hv7)
 have p83 : w6.cell? ⟨p, 8, none⟩ = some (.slice ea ek ec) := (bB.cell (p := ⟨p, 8, none⟩) bk5.up).trans p8
 have HW2 : Hid (w2 = (w.alloc (.cells #[.int .i64 z, .slice la ln lc] 27)).alloc (.cells #[.int .i64 z', .slice ha hn hc] 27)) := hw2
 have HH : Hid (H = w.heap.size) := hH
 clear hbk hrw hre n1 n2 n3 hw2 hH b2 hx0 hx1 bk0 hwl hel hrw2 hre2 hWA hNA bA hnwA howA hRA r1A r3A r4A fA hgA bkA hVA hVAf f25 bk5 hw5 hre5 hx05 hx15 hWB hNB bB hnwB howB hRB r1B r3B r4B fB hgB bkB hVB hVBf f58 w2sz w5sz
 go_enter Tryz.func69, Tryz.ntmps69
 go_wp2_with (rw [<- HW2.out, <- HH.out])
 refine region_calm (S := fun w' => w'.cell? ⟨H, 0, none⟩ = some (.int .i64 z) /\ w'.cell? ⟨H, 1, none⟩ = some (.slice la ln lc)) 11 #[false,false,false,false,false,false,false,false,false,false,false] rfl rfl hmx ?_
 have hSA : w2.drew.cell? ⟨H, 0, none⟩ = some (.int .i64 z) /\ w2.drew.cell? ⟨H, 1, none⟩ = some (.slice la ln lc) := ⟨c00, c01⟩
 have hSA1 : w3.cell? ⟨H, 0, none⟩ = some (.int .i64 z) /\ w3.cell? ⟨H, 1, none⟩ = some (.slice la ln lc) := a3
 have hSA2 : w4.cell? ⟨H, 0, none⟩ = some (.int .i64 z) /\ w4.cell? ⟨H, 1, none⟩ = some (.slice la ln lc) := a4
 have cdA : w2.drew.cell? ⟨p, 7, none⟩ = some (.slice wa wk wc) := p7
 refine tk_at 0 6 (.pointer (some ⟨p, 0, none⟩)) #[true,false,false,false,false,false,false,false,false,false,false] rfl rfl rfl (by kernel_rfl) (by rfl) ?yA0 (by assumption) ?rA0
 case yA0 =>
  rintro w ⟨t0, t1⟩
  go_simp
 case rA0 =>
 simp only [sIb, sCs, sCz]
 refine tk_at 1 7 (.pointer (some ⟨p, 0, none⟩)) #[true,true,false,false,false,false,false,false,false,false,false] rfl rfl rfl (by kernel_rfl) (by rfl) ?yA1 (by assumption) ?rA1
 case yA1 =>
  rintro w ⟨t0, t1⟩
  go_simp
 case rA1 =>
 simp only [sIb, sCs, sCz]
 refine tk_at 2 8 (.pointer (some ⟨p, 0, none⟩)) #[true,true,true,false,false,false,false,false,false,false,false] rfl rfl rfl (by kernel_rfl) (by rfl) ?yA2 (by assumption) ?rA2
 case yA2 =>
  rintro w ⟨t0, t1⟩
  go_simp
 case rA2 =>
 simp only [sIb, sCs, sCz]
 refine tk_at 3 9 (.pointer (some ⟨p, 7, none⟩)) #[true,true,true,true,false,false,false,false,false,false,false] rfl rfl rfl (by kernel_rfl) (by rfl) ?yA3 (by assumption) ?rA3
 case yA3 =>
  rintro w ⟨t0, t1⟩
  go_simp
 case rA3 =>
 simp only [sIb, sCs, sCz]
 refine tk_at 5 11 (.agg #[.int .i64 z, .slice la ln lc]) #[true,true,true,true,false,true,false,false,false,false,false] rfl rfl rfl (by kernel_rfl) (by rfl) ?yA5 (by assumption) ?rA5
 case yA5 =>
  rintro w ⟨t0, t1⟩
  go_simp
 case rA5 =>
 simp only [sIb, sCs, sCz]
 refine pair_at (i := 4) (j := 6) (di := 10) (dj := 12) (vi := .slice wa wk wc) (vj := .slice (some ⟨NA, 0, none⟩) 1 1) (w' := w3) #[true,true,true,true,true,true,false,false,false,false,false] #[true,true,true,true,false,true,true,false,false,false,false] #[true,true,true,true,true,true,true,false,false,false,false] rfl rfl rfl rfl (by kernel_rfl) (by kernel_rfl) (by kernel_rfl) rfl rfl rfl rfl rfl rfl rfl rfl (by rfl) (by rfl) (by rfl) (by rfl) ?g1A ?g2A ?g3A ?g4A hSA hSA1 ?_
 case g1A => go_simp
 case g2A => rw [HWA.out, HNA.out]; go_simp
 case g3A => rw [HWA.out, HNA.out]; go_simp
 case g4A => go_simp
 simp only [sIb, sCs, sCz]
 refine val_at (i := 7) (d := 13) (v := .slice (some ⟨gA, 0, none⟩) (wk + 1) cA) (w' := w4) #[true,true,true,true,true,true,true,true,false,false,false] (by kernel_rfl) rfl rfl rfl (by rfl) (append_run _ _ _ rfl rfl rfl HRA.out) hSA2 ?_
 simp only [sIb, sCs, sCz]
 refine tk_at 8 14 (.pointer (some ⟨p, 0, none⟩)) #[true,true,true,true,true,true,true,true,true,false,false] rfl rfl rfl (by kernel_rfl) (by rfl) ?yA8 (by assumption) ?rA8
 case yA8 =>
  rintro w ⟨t0, t1⟩
  go_simp
 case rA8 =>
 simp only [sIb, sCs, sCz]
 refine tk_at 9 15 (.pointer (some ⟨p, 7, none⟩)) #[true,true,true,true,true,true,true,true,true,true,false] rfl rfl rfl (by kernel_rfl) (by rfl) ?yA9 (by assumption) ?rA9
 case yA9 =>
  rintro w ⟨t0, t1⟩
  go_simp
 case rA9 =>
 simp only [sIb, sCs, sCz]
 refine store_at (i := 10) (w' := w5) #[true,true,true,true,true,true,true,true,true,true,true] (by kernel_rfl) rfl rfl rfl (by rfl) ?sgA a5 ?_
 case sgA => rw [HVA.out]; go_simp
 refine wpAnyH_done (by kernel_rfl) ?_ _
 dsimp only [calmPost]
 go_wp2_with fail
 refine region_calm (S := fun w' => w'.cell? ⟨H + 1, 0, none⟩ = some (.int .i64 z') /\ w'.cell? ⟨H + 1, 1, none⟩ = some (.slice ha hn hc)) 11 #[false,false,false,false,false,false,false,false,false,false,false] rfl rfl hmx ?_
 have hSB : w5.drew.cell? ⟨H + 1, 0, none⟩ = some (.int .i64 z') /\ w5.drew.cell? ⟨H + 1, 1, none⟩ = some (.slice ha hn hc) := ⟨c10, c11⟩
 have hSB1 : w6.cell? ⟨H + 1, 0, none⟩ = some (.int .i64 z') /\ w6.cell? ⟨H + 1, 1, none⟩ = some (.slice ha hn hc) := e6
 have hSB2 : w7.cell? ⟨H + 1, 0, none⟩ = some (.int .i64 z') /\ w7.cell? ⟨H + 1, 1, none⟩ = some (.slice ha hn hc) := e7
 have cdB : w5.drew.cell? ⟨p, 8, none⟩ = some (.slice ea ek ec) := p8
 refine tk_at 0 16 (.pointer (some ⟨p, 0, none⟩)) #[true,false,false,false,false,false,false,false,false,false,false] rfl rfl rfl (by kernel_rfl) (by rfl) ?yB0 (by assumption) ?rB0
 case yB0 =>
  rintro w ⟨t0, t1⟩
  go_simp
 case rB0 =>
 simp only [sIb, sCs, sCz]
 refine tk_at 1 17 (.pointer (some ⟨p, 0, none⟩)) #[true,true,false,false,false,false,false,false,false,false,false] rfl rfl rfl (by kernel_rfl) (by rfl) ?yB1 (by assumption) ?rB1
 case yB1 =>
  rintro w ⟨t0, t1⟩
  go_simp
 case rB1 =>
 simp only [sIb, sCs, sCz]
 refine tk_at 2 18 (.pointer (some ⟨p, 0, none⟩)) #[true,true,true,false,false,false,false,false,false,false,false] rfl rfl rfl (by kernel_rfl) (by rfl) ?yB2 (by assumption) ?rB2
 case yB2 =>
  rintro w ⟨t0, t1⟩
  go_simp
 case rB2 =>
 simp only [sIb, sCs, sCz]
 refine tk_at 3 19 (.pointer (some ⟨p, 8, none⟩)) #[true,true,true,true,false,false,false,false,false,false,false] rfl rfl rfl (by kernel_rfl) (by rfl) ?yB3 (by assumption) ?rB3
 case yB3 =>
  rintro w ⟨t0, t1⟩
  go_simp
 case rB3 =>
 simp only [sIb, sCs, sCz]
 refine tk_at 5 21 (.agg #[.int .i64 z', .slice ha hn hc]) #[true,true,true,true,false,true,false,false,false,false,false] rfl rfl rfl (by kernel_rfl) (by rfl) ?yB5 (by assumption) ?rB5
 case yB5 =>
  rintro w ⟨t0, t1⟩
  go_simp
 case rB5 =>
 simp only [sIb, sCs, sCz]
 refine pair_at (i := 4) (j := 6) (di := 20) (dj := 22) (vi := .slice ea ek ec) (vj := .slice (some ⟨NB, 0, none⟩) 1 1) (w' := w6) #[true,true,true,true,true,true,false,false,false,false,false] #[true,true,true,true,false,true,true,false,false,false,false] #[true,true,true,true,true,true,true,false,false,false,false] rfl rfl rfl rfl (by kernel_rfl) (by kernel_rfl) (by kernel_rfl) rfl rfl rfl rfl rfl rfl rfl rfl (by rfl) (by rfl) (by rfl) (by rfl) ?g1B ?g2B ?g3B ?g4B hSB hSB1 ?_
 case g1B => go_simp
 case g2B => rw [HWB.out, HNB.out]; go_simp
 case g3B => rw [HWB.out, HNB.out]; go_simp
 case g4B => go_simp
 simp only [sIb, sCs, sCz]
 refine val_at (i := 7) (d := 23) (v := .slice (some ⟨gB, 0, none⟩) (ek + 1) cB) (w' := w7) #[true,true,true,true,true,true,true,true,false,false,false] (by kernel_rfl) rfl rfl rfl (by rfl) (append_run _ _ _ rfl rfl rfl HRB.out) hSB2 ?_
 simp only [sIb, sCs, sCz]
 refine tk_at 8 24 (.pointer (some ⟨p, 0, none⟩)) #[true,true,true,true,true,true,true,true,true,false,false] rfl rfl rfl (by kernel_rfl) (by rfl) ?yB8 (by assumption) ?rB8
 case yB8 =>
  rintro w ⟨t0, t1⟩
  go_simp
 case rB8 =>
 simp only [sIb, sCs, sCz]
 refine tk_at 9 25 (.pointer (some ⟨p, 8, none⟩)) #[true,true,true,true,true,true,true,true,true,true,false] rfl rfl rfl (by kernel_rfl) (by rfl) ?yB9 (by assumption) ?rB9
 case yB9 =>
  rintro w ⟨t0, t1⟩
  go_simp
 case rB9 =>
 simp only [sIb, sCs, sCz]
 refine store_at (i := 10) (w' := w8) #[true,true,true,true,true,true,true,true,true,true,true] (by kernel_rfl) rfl rfl rfl (by rfl) ?sgB e8 ?_
 case sgB => rw [HVB.out]; go_simp
 refine wpAnyH_done (by kernel_rfl) ?_ _
 dsimp only [calmPost]
 go_end0
 exact ⟨rfl, HFIN.out⟩
end Go.Proofs.YtekfbphnoibnjaaGreatDoor
namespace Go.Proofs.YtekfbphnoibnjaaGreatDoor
open Go.RowKit
set_option maxHeartbeats 400000 in
theorem num_any (n : Int) (w : World) : Calls Tryz.prog 57 #[.int .i64 n] w fun e w' => e = .returned (.int .i64 n) /\ w' = w := by
 go_enter Tryz.func57, Tryz.ntmps57
 go_wp2
 go_ret
 exact ⟨rfl, rfl⟩
end Go.Proofs.YtekfbphnoibnjaaGreatDoor
namespace Go.Proofs.YtekfbphnoibnjaaGreatDoor
open Go.RowKit
open Flm (Px FS)
set_option maxRecDepth 20000 in
theorem placeEqD (d : Nat) (w : World) (a b c : Int) :
  Sem.run Tryz.prog (Op.equalIn (d + 1 + 1) 33 (.agg #[.int .i64 a, .int .i64 b, .int .i64 c]) (.agg #[.int .i64 a, .int .i64 b, .int .i64 c])) w = .ok true w := by
 have hi := fun x => run_equalIn_int w d 3 .i64 .i64 x x Tryz.underlying3
 have h0 := fun (x : Value) (i : Nat) (xs : Array Value) (hv : xs[i]? = some x) => part1 (P := Tryz.prog) Tryz.underlying3 w xs i x hv
 rw [Op.equalIn]
 simp only [Sem.run_bind, run_underlying Tryz.underlying33, Result.andThen_ok]
 simp [h0 (.int .i64 a) 0 #[.int .i64 a, .int .i64 b, .int .i64 c] rfl, h0 (.int .i64 b) 1 #[.int .i64 a, .int .i64 b, .int .i64 c] rfl, h0 (.int .i64 c) 2 #[.int .i64 a, .int .i64 b, .int .i64 c] rfl, hi]
theorem placeEq (a b c : Int) (w : World) : Sem.run Tryz.prog (Op.equalIn 10000 33 (.agg #[.int .i64 a, .int .i64 b, .int .i64 c]) (.agg #[.int .i64 a, .int .i64 b, .int .i64 c])) w = .ok true w := placeEqD 9998 w a b c
theorem nilRows (w : World) : Sem.run Tryz.prog (binOp BinOp.eql 25 (.slice none 0 0) (.slice none 0 0)) w = .ok (.bool true) w := by kernel_rfl
set_option maxHeartbeats 1000000 in
set_option maxRecDepth 20000 in
theorem sameFilm_nil (w : World) :
  Calls Tryz.prog 31 #[.agg #[.int .i64 0, .slice none 0 0], .agg #[.int .i64 0, .slice none 0 0]] w fun x w' => x = .returned (.bool true) /\ Below w.heap.size w w' := by
 go_enter Tryz.func31, Tryz.ntmps31
 go_wp2
 refine wp_loop_rounds 1 ?_
 rw [rounds_succ]
 go_wp2
 go_ret
 exact ⟨rfl, ((Below.refl _ w).alloc (Nat.le_refl _) _).alloc (by simp) _⟩
structure FPB (W : World) (H : Nat) (z v x0 x1 x2 : Value) : Prop where
 b0 : W.heap[H]? = some (.cells #[z, v] 27 (0, 0))
 b1 : W.heap[H + 1]? = some (.cells #[x0, x1, x2] 33 (0, 0))
theorem FPB.below {W W' : World} {H : Nat} {z v x0 x1 x2 : Value} (h : FPB W H z v x0 x1 x2) (b : Below W.heap.size W W') : FPB W' H z v x0 x1 x2 := ⟨(b.block _ (heap_lt h.b0)).trans h.b0, (b.block _ (heap_lt h.b1)).trans h.b1⟩
theorem FPB.cells {W : World} {H : Nat} {z v x0 x1 x2 : Value} (h : FPB W H z v x0 x1 x2) : W.cell? ⟨H, 0, none⟩ = some z /\ W.cell? ⟨H, 1, none⟩ = some v /\ W.cell? ⟨H + 1, 0, none⟩ = some x0 /\ W.cell? ⟨H + 1, 1, none⟩ = some x1 /\ W.cell? ⟨H + 1, 2, none⟩ = some x2 :=
 ⟨cell_of_row _ _ 0 _ _ _ h.b0, cell_of_row _ _ 1 _ _ _ h.b0, cell_of_row _ _ 0 _ _ _ h.b1, cell_of_row _ _ 1 _ _ _ h.b1, cell_of_row _ _ 2 _ _ _ h.b1⟩
theorem fpb_mk {w0 w w1 : World} (b0 : Below w0.heap.size w0 w) (b1 : Below w.heap.size w w1) (z v x0 x1 x2 : Value) : ∃ W1 H, W1 = (w1.alloc (.cells #[z, v] 27)).alloc (.cells #[x0, x1, x2] 33) /\ H = w1.heap.size /\ Below w1.heap.size w1 W1 /\ Below w.heap.size w W1 /\ Below w0.heap.size w0 W1 /\ FPB W1 H z v x0 x1 x2 := by
 have hn : Below w1.heap.size w1 ((w1.alloc (.cells #[z, v] 27)).alloc (.cells #[x0, x1, x2] 33)) := ((Below.refl _ w1).alloc (Nat.le_refl _) _).alloc (by simp) _
 have h2 := heap_alloc_last (w1.alloc (.cells #[z, v] 27)) (.cells #[x0, x1, x2] 33)
 rw [World.size_alloc] at h2
 exact ⟨_, _, rfl, rfl, hn, b1.trans (hn.mono b1.size), (b0.trans (b1.mono b0.size)).trans (hn.mono (Nat.le_trans b0.size b1.size)), (Below.heap_alloc _ _ _ (by simp)).trans (heap_alloc_last w1 _), h2⟩
set_option maxHeartbeats 4000000 in
set_option maxRecDepth 100000 in
theorem decodes_none (w : World) (p : Nat) (s : ByteArray) (x0 x1 x2 e : Int) (he : e ≠ 0)
  (hP : ∀ wx, Below w.heap.size w wx -> Calls Tryz.prog 12 #[.string s] wx fun r w' => r = .returned (.tuple #[.agg #[.int .i64 0, .slice none 0 0], .agg #[.int .i64 x0, .int .i64 x1, .int .i64 x2], .int .i64 e]) /\ Below wx.heap.size wx w')
  (hR : ∀ wx, Below w.heap.size w wx -> Calls Tryz.prog 68 #[.string s] wx fun r w' => r = .returned (.tuple #[.agg #[.int .i64 0, .slice none 0 0], .agg #[.int .i64 x0, .int .i64 x1, .int .i64 x2], .int .i64 e]) /\ Below wx.heap.size wx w') :
  Calls Tryz.prog 28 #[.pointer (some ⟨p, 0, none⟩), .string s] w fun x w' => x = .returned (.bool true) /\ Below w.heap.size w w' := by
 have HP : Hid (∀ wx, Below w.heap.size w wx -> Calls Tryz.prog 12 #[.string s] wx fun r w' => r = .returned (.tuple #[.agg #[.int .i64 0, .slice none 0 0], .agg #[.int .i64 x0, .int .i64 x1, .int .i64 x2], .int .i64 e]) /\ Below wx.heap.size wx w') := hP
 have HR : Hid (∀ wx, Below w.heap.size w wx -> Calls Tryz.prog 68 #[.string s] wx fun r w' => r = .returned (.tuple #[.agg #[.int .i64 0, .slice none 0 0], .agg #[.int .i64 x0, .int .i64 x1, .int .i64 x2], .int .i64 e]) /\ Below wx.heap.size wx w') := hR
 have heq := placeEq x0 x1 x2
 have hnil := nilRows
 have he' : (e == 0) = false := by simpa using he
 have T0 : Hid True := trivial
 have T1 : Hid True := trivial
 have S0 : Hid True := trivial
 have S1 : Hid True := trivial
 clear hP hR
 go_enter Tryz.func28, Tryz.ntmps28
 go_wp2_with (first
  | (clear T0; go_at_call 12; refine (HP.out w (Below.refl _ w)).mono ?_; rintro r w1 ⟨rfl, b1⟩; obtain ⟨W1, A1, hW1, hA1, _, _, hb1, hx1⟩ := fpb_mk (Below.refl _ w) b1 (.int .i64 0) (.slice none 0 0) (.int .i64 x0) (.int .i64 x1) (.int .i64 x2); have HW1 : Hid (W1 = _ /\ A1 = _) := ⟨hW1, hA1⟩; clear hW1 hA1)
  | (rw [<- HW1.out.1, <- HW1.out.2])
  | (clear T1; go_at_call 12; refine (HP.out W1 hb1).mono ?_; rintro r w2 ⟨rfl, b2⟩; obtain ⟨W2, A2, hW2, hA2, _, hbb2, hb2, hx2⟩ := fpb_mk hb1 b2 (.int .i64 0) (.slice none 0 0) (.int .i64 x0) (.int .i64 x1) (.int .i64 x2); have HW2 : Hid (W2 = _ /\ A2 = _) := ⟨hW2, hA2⟩; clear hW2 hA2)
  | (rw [<- HW2.out.1, <- HW2.out.2])
  | (go_at_call 68; refine (HR.out W2 hb2).mono ?_; rintro r w3 ⟨rfl, b3⟩; obtain ⟨W3, A3, hW3, hA3, _, hbb3, hb3, hx3⟩ := fpb_mk hb2 b3 (.int .i64 0) (.slice none 0 0) (.int .i64 x0) (.int .i64 x1) (.int .i64 x2); have HW3 : Hid (W3 = _ /\ A3 = _) := ⟨hW3, hA3⟩; clear hW3 hA3)
  | (rw [<- HW3.out.1, <- HW3.out.2]; have y1 := (hx1.below hbb2).below hbb3; have y2 := hx2.below hbb3; obtain ⟨a0, a1, a2, a3, a4⟩ := y1.cells; obtain ⟨d0, d1, d2, d3, d4⟩ := y2.cells; obtain ⟨f0, f1, f2, f3, f4⟩ := hx3.cells)
  | (clear S0; go_at_call 31; refine (sameFilm_nil W3).mono ?_; rintro r w4 ⟨rfl, b4⟩; clear a0 a1 a2 a3 a4 d0 d1 d2 d3 d4 f0 f1 f2 f3 f4; have u1 := y1.below b4; have u2 := y2.below b4; have u3 := hx3.below b4; obtain ⟨a0, a1, a2, a3, a4⟩ := u1.cells; obtain ⟨d0, d1, d2, d3, d4⟩ := u2.cells; obtain ⟨f0, f1, f2, f3, f4⟩ := u3.cells)
  | (clear S1; go_at_call 31; refine (sameFilm_nil w4).mono ?_; rintro r w5 ⟨rfl, b5⟩; clear a0 a1 a2 a3 a4 d0 d1 d2 d3 d4 f0 f1 f2 f3 f4; obtain ⟨a0, a1, a2, a3, a4⟩ := (u1.below b5).cells; obtain ⟨d0, d1, d2, d3, d4⟩ := (u2.below b5).cells; obtain ⟨f0, f1, f2, f3, f4⟩ := (u3.below b5).cells)
  | (go_at_call 57; refine (num_any _ _).mono ?_; rintro r w6 ⟨rfl, hw⟩; rw [hw]; clear hw))
 go_ret
 exact ⟨rfl, (hb3.trans (b4.mono hb3.size)).trans (b5.mono (Nat.le_trans hb3.size b4.size))⟩
end Go.Proofs.YtekfbphnoibnjaaGreatDoor
