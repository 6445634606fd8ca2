/-
  A draft of a line, in memory: it is packed.
-/
import Derived.Test.YtekfbphnoibnjaaDoorF14
namespace Go.Proofs.YtekfbphnoibnjaaDoor
open Go.RowKit
theorem puts_app' : ∀ (l r : List (Nat × Int)) (t : WS), Pack.puts t (l ++ r) = Pack.puts (Pack.puts t l) r
 | [], _, _ => rfl
 | (_, _) :: l, r, _ => puts_app' l r _
theorem puts_take (l : List (Nat × Int)) (j : Nat) (h : j < l.length) : Pack.fin (l.take (j + 1)) = Pack.put (Pack.fin (l.take j)) (l.getD j (0, 0)).1 (l.getD j (0, 0)).2 := by
 unfold Pack.fin
 rw [List.take_add_one, List.getElem?_eq_getElem h]
 have e : l.getD j (0, 0) = l[j] := by rw [List.getD_eq_getElem?_getD, List.getElem?_eq_getElem h]; rfl
 rw [e]
 exact Pack.puts_snoc _ _ _ _
set_option maxHeartbeats 4000000 in
set_option maxRecDepth 20000 in
theorem pPack (w : World) (b : Nat) (v : Value) (t : WS) (l : List (Nat × Int)) (h : DrAt w b v t l) (hl : l.length <= 1000000) (ho : Pack.BitsOk l) (hm : (Pack.fin l).m <= 150000) :
  Calls Tryd.prog 31 #[.pointer (some ⟨b, 0, none⟩)] w fun e w' => e = .returned (.string (endStr (Pack.fin l))) /\ Below w.heap.size w w' := by
 have i1 := h.bits
 have hup := h.up
 obtain ⟨a, cap, rfl, hc⟩ : ∃ a cap, v = .slice a l.length cap /\ (l.length = 0 \/ ∃ g, a = some ⟨g, 0, none⟩ /\ g < w.heap.size /\ ∀ i, i < l.length -> w.cell? ⟨g, i * 2, none⟩ = some (.int .u16 (l.getD i (0, 0)).1) /\ w.cell? ⟨g, i * 2 + 1, none⟩ = some (.int .u8 (l.getD i (0, 0)).2)) := by
  have hw := h.own
  rcases hw.2 with ⟨rfl, h0⟩ | ⟨g, cap, cur, rfl, hb, hg, hr⟩
  ·exact ⟨none, 0, by rw [h0], .inl h0⟩
  ·refine ⟨_, cap, rfl, .inr ⟨g, rfl, (World.ownsRow.lt hw g rfl).2, fun i hi => ?_⟩⟩
   have h1 := World.ownsRow.cellAt hw (i * 2) (by omega)
   have h2 := World.ownsRow.cellAt hw (i * 2 + 1) (by omega)
   obtain ⟨k1, k2⟩ := stepCells_get l i hi
   exact ⟨by rw [h1, k1], by rw [h2, k2]⟩
 have hmj : ∀ j, (Pack.fin (l.take j)).m <= 200000 := fun j => by
  have h1 := Pack.puts_in (l.drop j) (Pack.fin (l.take j)) (Pack.puts_ok _ _ Pack.init_ok fun p hp => (ho p (List.mem_of_mem_take hp)).1) (fun p hp => (ho p (List.mem_of_mem_drop hp)).1)
  have e : Pack.puts (Pack.fin (l.take j)) (l.drop j) = Pack.fin l := by
   unfold Pack.fin
   rw [<- puts_app', List.take_append_drop]
  rw [e] at h1
  obtain ⟨d, h2, _⟩ := h1
  omega
 have HO : Hid (Pack.BitsOk l) := ho
 have HC : Hid (l.length = 0 \/ ∃ g, a = some ⟨g, 0, none⟩ /\ g < w.heap.size /\ ∀ i, i < l.length -> w.cell? ⟨g, i * 2, none⟩ = some (.int .u16 (l.getD i (0, 0)).1) /\ w.cell? ⟨g, i * 2 + 1, none⟩ = some (.int .u8 (l.getD i (0, 0)).2)) := hc
 have HM : Hid (∀ j, (Pack.fin (l.take j)).m <= 200000) := hmj
 clear hc ho h hm hmj
 go_enter Tryd.func31, Tryd.ntmps31
 go_wp2_with (go_at_call 12; refine (pNewWriter _).mono ?_; rintro e w1 ⟨b1, rfl, hb1, hp1, hbw1⟩; have i2 := (hbw1.cell (p := ⟨b, 402, none⟩) hup).trans i1)
 go_loopw [12] (fun i wr => ∃ j : Nat, ∃ v' : Value, j <= l.length /\ i = .int .i64 j /\ PW wr w.heap.size b1 v' (Pack.fin (l.take j)) /\ vLo w.heap.size v' /\ Below w.heap.size w wr) (fun i _ => l.length - (intOf i).toNat)
 case atStart => exact ⟨0, _, Nat.zero_le _, rfl, hp1, fun j hj => by simp [Value.ownBlock] at hj, hbw1⟩
 case round =>
  clear hp1 hbw1 i2
  obtain ⟨j, v', hjk, rfl, hp, hvl, hbr⟩ := hrel
  have hmj := HM.out j
  by_cases hlt : j < l.length
  ·have hlt' : (j : Int) < (l.length : Int) := by omega
   obtain ⟨g, rfl, hg, hc⟩ : ∃ g, a = some ⟨g, 0, none⟩ /\ g < w.heap.size /\ ∀ i, i < l.length -> w.cell? ⟨g, i * 2, none⟩ = some (.int .u16 (l.getD i (0, 0)).1) /\ w.cell? ⟨g, i * 2 + 1, none⟩ = some (.int .u8 (l.getD i (0, 0)).2) := by
    rcases HC.out with h2 | h2
    ·omega
    ·exact h2
   obtain ⟨k, x, hkx⟩ : ∃ k x, l.getD j (0, 0) = (k, x) := ⟨_, _, rfl⟩
   have hmem : (k, x) ∈ l := by
    rw [<- hkx, List.getD_eq_getElem?_getD, List.getElem?_eq_getElem hlt]
    exact List.getElem_mem hlt
   obtain ⟨hk, hx⟩ := HO.out _ hmem
   have d1 := (hbr.cell (p := ⟨g, j * 2, none⟩) hg).trans (hc j hlt).1
   have d2 := (hbr.cell (p := ⟨g, j * 2 + 1, none⟩) hg).trans (hc j hlt).2
   rw [hkx] at d1 d2
   have HS : Hid (Pack.fin (l.take (j + 1)) = Pack.put (Pack.fin (l.take j)) k x) := by
    unfold Hid
    rw [puts_take l j hlt, hkx]
   have okj : Pack.Ok (Pack.fin (l.take j)) := Pack.puts_ok _ _ Pack.init_ok (fun p hp => (HO.out p (List.mem_of_mem_take hp)).1)
   obtain ⟨T, hT⟩ : ∃ T, T = Pack.fin (l.take j) := ⟨_, rfl⟩
   rw [<- hT] at hp okj hmj HS
   dsimp only at hk hx d1 d2
   have w1 : wrap64 (k : Int) = k := by unfold wrap64; omega
   have w2 : wrap64 x = x := by unfold wrap64; omega
   clear hc hkx hT hmem
   have hpa : PW (wr.alloc (.cells #[.int .u16 (k : Int), .int .u8 x] 109)) w.heap.size b1 v' T := by
    have hbk := Below.heap_alloc wr (.cells #[.int .u16 (k : Int), .int .u8 x] 109) b1 hp.up
    have hcc : ∀ o, (wr.alloc (.cells #[.int .u16 (k : Int), .int .u8 x] 109)).cell? ⟨b1, o, none⟩ = wr.cell? ⟨b1, o, none⟩ := fun o => World.cell?_of_block (a := ⟨b1, o, none⟩) hbk
    exact ⟨(hcc 401).trans hp.c0, by have := hp.own; unfold Octs at this ⊢; exact this.alloc _, hp.ne, (hcc 402).trans hp.c1, (hcc 0).trans hp.c2, fun o ho => (World.frozen?_of_block (a := ⟨b1, o, none⟩) hbk).trans (hp.fz o ho), hp.ch.on hbk, by simp; have := hp.up; omega⟩
   have hsz2 := hbr.size
   go_wp2_with (go_at_call 13; refine (pPut _ w.heap.size b1 v' T k x hpa okj hmj hk hx hb1 (by simp; omega) hvl).mono ?_; rintro e w3 ⟨rfl, v3, hp3, hvl3, hb3⟩)
   go_roundw
   case rel => exact ⟨j + 1, v3, by omega, by go_num, by rw [HS.out]; exact hp3, hvl3, (hbr.alloc hsz2 _).trans (hb3.mono (by simp))⟩
   case measure => simp [intOf]; omega
  ·obtain rfl : j = l.length := by omega
   have hlt' : ¬ ((l.length : Int) < (l.length : Int)) := by omega
   rw [List.take_of_length_le (Nat.le_refl _)] at hp hmj
   have hsz2 := hbr.size
   go_wp2_with (go_at_call 14; refine (pLEnd _ w.heap.size b1 v' _ hp hmj).mono ?_; rintro e w3 ⟨rfl, hb3⟩)
   go_ret
   exact ⟨rfl, hbr.trans (hb3.mono hsz2)⟩
end Go.Proofs.YtekfbphnoibnjaaDoor
