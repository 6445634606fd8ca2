/-
  A draft of a line, in memory: gone on with; held against another. A draft of a line, in memory: another one that goes on where it ends is appended. The program's packer tells its bytes: the digits of its low end.
-/
import Derived.Test.YtekfbphnoibnjaaDoorF11
import Derived.Test.YtekfbphnoibnjaaDoorF05
import Derived.Test.YtekfbphnoibnjaaDoorF12
import Derived.Laws.BytesArg
namespace Go.Proofs.YtekfbphnoibnjaaDoor
open Go.RowKit
def crsCells (r : Int) (ch : List Int) : List Value := .int .u32 r :: ch.map (Value.int .u32)
theorem crsCells_len {r : Int} {ch : List Int} (h : ch.length = 400) : (crsCells r ch).length = 401 := by unfold crsCells; simp [h]
theorem Crs.range {w : World} {b : Nat} {r : Int} {ch : List Int} (h : Crs w b r ch) : w.rangeAt b 0 (crsCells r ch) := by
 intro j v hv
 unfold crsCells at hv
 rw [Nat.zero_add]
 cases j with
 | zero =>
  have : Value.int .u32 r = v := by simpa using hv
  rw [<- this]; exact h.c2
 | succ j =>
  rw [List.getElem?_cons_succ, List.getElem?_map] at hv
  have hj : j < 400 := by
   rcases Nat.lt_or_ge j 400 with h1 | h1
   ·exact h1
   ·rw [List.getElem?_eq_none (by rw [h.ch.len]; exact h1)] at hv; cases hv
  have hc := h.ch.cell j hj
  rw [List.getD_eq_getElem?_getD] at hc
  rw [List.getElem?_eq_getElem (by rw [h.ch.len]; exact hj)] at hc hv
  cases hv
  rw [Nat.add_comm j 1]
  exact hc
theorem crsCells_one (r : Int) (ch : List Int) : ∀ u ∈ crsCells r ch, u.oneCell' = true := by
 intro u hu
 unfold crsCells at hu
 rcases List.mem_cons.1 hu with rfl | hu
 ·rfl
 ·obtain ⟨z, _, rfl⟩ := List.mem_map.1 hu
  rfl
theorem crsSize : (Tryd.prog.info? 59).map (·.size) = some 401 := by kernel_rfl
section
variable {P : Program} {ops : Array Oper} {Q : Exit -> Act -> World -> Prop} {md : Region.Mode}
theorem take_mid {S : World -> Prop} {i d : Nat} {oi : Oper} {fuel : Nat} {listed : Array Bool} (L : Array Bool) {a : Act} {w : World} (hi : ops[i]? = some oi) (hd : oi.dst = some d) (hL : listed.setIfInBounds i true = L)
  (hs : Region.noSelect ops = true) (hf : Region.free md ops listed i = true) (hr : (Region.ready md ops listed).contains i = true)
  (hQ : ∀ c a w v, Q (.panic c) (a.put oi.dst v) w -> Q (.panic c) a w) (hw : Region.wanted oi (yielded ops a.tmps) = true) (ty : TypeId) (x : Operand) (ho : oi.op = .load ty x) (b o : Nat) (hx : a.eval x = .pointer (some ⟨b, o, none⟩)) (cs : List Value) (ds : TypeDesc)
  (hc : ∀ w, S w -> w.rangeAt b o cs) (hu : P.underlying ty = some ds) (hd' : ds.isRow = true) (hi' : (P.info? ty).map (·.size) = some cs.length) (hS : S w)
  (h : wpAnyH P md ops Q S fuel L { tmps := a.tmps.setIfInBounds d (.agg cs.toArray), defers := a.defers } w) : wpAnyH P md ops Q S (fuel + 1) listed a w :=
 take_at L hi hd hL hs hf hr (fun c a w => hQ c a w _) hw (fun w hw' => by
  unfold execOp
  simp only [ho, hx, Instr.loadAt, Instr.sureAddr, Sem.run_bind, Sem.run_pure, Result.andThen_ok, run_loadVar_mid w b o ty cs ds (hc w hw') hu hd' hi']) hS h
end
theorem laid_course (w : World) (Z : Array Value) (ty : TypeId) (hZ : Z.size = 403) {r : Int} {ch : List Int} (hl : ch.length = 400) (m : Int) {C : Array Value} (hC : C = (laidAt Z 0 (crsCells r ch).toArray).setIfInBounds 401 (.int .i64 m)) :
  Crs (w.alloc (.cells C ty)) w.heap.size r ch /\ (w.alloc (.cells C ty)).cell? ⟨w.heap.size, 401, none⟩ = some (.int .i64 m) /\ (w.alloc (.cells C ty)).cell? ⟨w.heap.size, 402, none⟩ = Z[402]? /\ ∀ o, (w.alloc (.cells C ty)).frozen? ⟨w.heap.size, o, none⟩ = false := by
 have hcs : (crsCells r ch).toArray.size = 401 := by simp [crsCells_len hl]
 have hla := laidAt_size Z 0 (crsCells r ch).toArray
 have g : ∀ j, (w.alloc (.cells C ty)).cell? ⟨w.heap.size, j, none⟩ = C[j]? := fun j => cell_of_row _ _ j _ ty (0, 0) (heap_alloc_last w _)
 have g1 : ∀ j, j < 401 -> C[j]? = (crsCells r ch)[j]? := fun j hj => by
  rw [hC, Array.getElem?_setIfInBounds_ne (by omega), laidAt_get, if_pos ⟨by omega, by omega, by omega⟩]
  simp
 refine ⟨⟨?_, by simp, hl, fun k hk => ?_, fun k hk => by simp⟩, ?_, ?_, fun o => by simp⟩
 ·rw [g, g1 0 (by decide)]; rfl
 ·rw [g, g1 (1 + k) (by omega), Nat.add_comm 1 k]
  unfold crsCells
  rw [List.getElem?_cons_succ, List.getElem?_map, List.getD_eq_getElem?_getD, List.getElem?_eq_getElem (by omega)]
  rfl
 ·rw [g, hC, Array.getElem?_setIfInBounds_self_of_lt (by omega)]
 ·rw [g, hC, Array.getElem?_setIfInBounds_ne (by decide), laidAt_get, if_neg (by omega)]
set_option maxHeartbeats 2000000 in
set_option maxRecDepth 20000 in
theorem pNext (w : World) (b : Nat) (v : Value) (t : WS) (l : List (Nat × Int)) (h : DrAt w b v t l) :
  Calls Tryd.prog 51 #[.pointer (some ⟨b, 0, none⟩)] w fun x w' => x = .returned (.pointer (some ⟨w.heap.size, 0, none⟩)) /\ DrAt w' w.heap.size (.slice none 0 0) t [] /\ Below w.heap.size w w' := by
 obtain ⟨hzero, hsize⟩ := zero_of_info drInfo
 have hmx : Tryd.prog.follows .mixedOrders = true := by kernel_rfl
 obtain ⟨Z, hZ⟩ : ∃ Z, Z = (#[Value.int .u32 0] ++ Array.replicate 400 (.int .u32 0)) ++ #[Value.int .i64 0, .slice none 0 0] := ⟨_, rfl⟩
 rw [<- hZ] at hzero
 have hY : (#[Value.int .u32 0] ++ Array.replicate 400 (Value.int .u32 0)).size = 401 := by rw [Array.size_append, Array.size_replicate]; rfl
 have hZs : Z.size = 403 := by rw [hZ, Array.size_append, hY]; rfl
 have hZ1 : Z[402]? = some (.slice none 0 0) := by rw [hZ, Array.getElem?_append_right (by rw [hY]; decide), hY]; rfl
 have hZn : Z ≠ #[] := fun e => by rw [e] at hZs; exact absurd hZs (by decide)
 have hlen : t.ch.length = 400 := h.crs.ch.len
 obtain ⟨E, hE⟩ : ∃ E, E = crsCells t.rng t.ch := ⟨_, rfl⟩
 have hEs : E.length = 401 := by rw [hE]; exact crsCells_len hlen
 have hrg : w.rangeAt b 0 E := by rw [hE]; exact h.crs.range
 have hsh := h.sh
 have hup := h.up
 have HE : Hid (E = crsCells t.rng t.ch) := hE
 clear hZ hsize hY hE h
 go_enter Tryd.func51, Tryd.ntmps51
 go_wp2_with fail
 refine region_calm (S := fun w' => w'.rangeAt b 0 E /\ w'.cell? ⟨b, 401, none⟩ = some (.int .i64 t.m)) 11 #[false,false,false,false,false,false,false,false,false,false,false] rfl rfl hmx ?_
 have hS0 : w.drew.rangeAt b 0 E /\ w.drew.cell? ⟨b, 401, none⟩ = some (.int .i64 t.m) := ⟨hrg, hsh⟩
 refine tk_at 0 3 (.pointer (some ⟨b, 0, none⟩)) #[true,false,false,false,false,false,false,false,false,false,false] rfl rfl rfl (by kernel_rfl) (by rfl) (by rintro w ⟨t0, t1⟩; go_simp) (by assumption) ?_
 simp only [sIb, sCs, sCz]
 refine tk_at 1 4 (.pointer (some ⟨b, 0, none⟩)) #[true,true,false,false,false,false,false,false,false,false,false] rfl rfl rfl (by kernel_rfl) (by rfl) (by rintro w ⟨t0, t1⟩; go_simp) (by assumption) ?_
 simp only [sIb, sCs, sCz]
 refine tk_at 2 5 (.pointer (some ⟨b, 0, none⟩)) #[true,true,true,false,false,false,false,false,false,false,false] rfl rfl rfl (by kernel_rfl) (by rfl) (by rintro w ⟨t0, t1⟩; go_simp) (by assumption) ?_
 simp only [sIb, sCs, sCz]
 refine take_mid (i := 3) (d := 6) #[true,true,true,true,false,false,false,false,false,false,false] rfl rfl rfl (by kernel_rfl) (by kernel_rfl) (by kernel_rfl) (fun _ _ _ _ h => h) (by rfl) 59 (.tmp 5) rfl b 0 rfl E _ (fun _ h => h.1) Tryd.underlying59 rfl (by rw [hEs]; exact crsSize) (by assumption) ?_
 simp only [sIb, sCs, sCz]
 refine tk_at 4 7 (.pointer (some ⟨b, 0, none⟩)) #[true,true,true,true,true,false,false,false,false,false,false] rfl rfl rfl (by kernel_rfl) (by rfl) (by rintro w ⟨t0, t1⟩; go_simp) (by assumption) ?_
 simp only [sIb, sCs, sCz]
 refine tk_at 5 8 (.pointer (some ⟨b, 0, none⟩)) #[true,true,true,true,true,true,false,false,false,false,false] rfl rfl rfl (by kernel_rfl) (by rfl) (by rintro w ⟨t0, t1⟩; go_simp) (by assumption) ?_
 simp only [sIb, sCs, sCz]
 refine tk_at 6 9 (.pointer (some ⟨b, 401, none⟩)) #[true,true,true,true,true,true,true,false,false,false,false] rfl rfl rfl (by kernel_rfl) (by rfl) (by rintro w ⟨t0, t1⟩; go_simp) (by assumption) ?_
 simp only [sIb, sCs, sCz]
 refine tk_at 7 10 (.int .i64 t.m) #[true,true,true,true,true,true,true,true,false,false,false] rfl rfl rfl (by kernel_rfl) (by rfl) (by rintro w ⟨t0, t1⟩; go_simp) (by assumption) ?_
 simp only [sIb, sCs, sCz]
 obtain ⟨C, hC⟩ : ∃ C, C = (laidAt Z 0 E.toArray).setIfInBounds 401 (.int .i64 t.m) := ⟨_, rfl⟩
 refine tk_at 8 11 (.agg C) #[true,true,true,true,true,true,true,true,true,false,false] rfl rfl rfl (by kernel_rfl) (by rfl) ?y8 (by assumption) ?r8
 case y8 =>
  have hl : List.foldl (fun (cs : Array Value) (x : Value × Nat) => cs.setIfInBounds x.snd x.fst) Z E.zipIdx = laidAt Z 0 E.toArray := by
   rw [laidAt_eq]; simp only [Nat.zero_add]
  rintro w ⟨t0, t1⟩
  go_simp
  rw [if_neg (by rw [laidAt_size]; omega)]
  rfl
 case r8 =>
 simp only [sIb, sCs, sCz]
 have hS1 : (w.drew.alloc (.cells C 103)).rangeAt b 0 E /\ (w.drew.alloc (.cells C 103)).cell? ⟨b, 401, none⟩ = some (.int .i64 t.m) :=
  ⟨fun j u hj => (World.cell?_of_block (a := ⟨b, 0 + j, none⟩) (Below.heap_alloc w.drew _ b hup)).trans (hrg j u hj), (World.cell?_of_block (a := ⟨b, 401, none⟩) (Below.heap_alloc w.drew _ b hup)).trans hsh⟩
 refine val_at (i := 9) (d := 12) (v := .pointer (some ⟨w.heap.size, 0, none⟩)) (w' := w.drew.alloc (.cells C 103)) #[true,true,true,true,true,true,true,true,true,true,false] (by kernel_rfl) rfl rfl rfl (by rfl) ?y9 hS1 ?r9
 case y9 => go_simp
 case r9 =>
 simp only [sIb, sCs, sCz]
 refine tk_at 10 2 (.pointer (some ⟨w.heap.size, 0, none⟩)) #[true,true,true,true,true,true,true,true,true,true,true] rfl rfl rfl (by kernel_rfl) (by rfl) (by rintro w ⟨t0, t1⟩; go_simp) (by assumption) ?_
 simp only [sIb, sCs, sCz]
 refine wpAnyH_done (by kernel_rfl) ?_ _
 dsimp only [calmPost]
 go_wp2_with fail
 obtain ⟨d1, d2, d3, d4⟩ := laid_course w.drew Z 103 hZs (r := t.rng) hlen t.m (C := C) (by rw [hC, HE.out])
 go_ret
 exact ⟨rfl, ⟨d1, d2, d3.trans hZ1, World.ownsRow_nil _ _ _ _, by simp [Value.ownBlock], fun o _ => d4 o, by simp⟩, (below_drew (Below.refl _ w)).alloc (Nat.le_refl _) _⟩
theorem lighter_drop (a b : WS) : (if a.m = b.m then decide (b.rng < a.rng) else decide (a.m < b.m)) = Pk.lighter a b := rfl
set_option maxHeartbeats 1000000 in
set_option maxRecDepth 20000 in
theorem pLighter (w : World) (b c : Nat) (v u : Value) (t s : WS) (l m : List (Nat × Int)) (h : DrAt w b v t l) (k : DrAt w c u s m) :
  Calls Tryd.prog 44 #[.pointer (some ⟨b, 0, none⟩), .pointer (some ⟨c, 0, none⟩)] w fun x w' => x = .returned (.bool (Pk.lighter t s)) /\ Below w.heap.size w w' := by
 have h1 := h.sh
 have h2 := h.crs.c2
 have k1 := k.sh
 have k2 := k.crs.c2
 rw [<- lighter_drop]
 clear h k
 by_cases e : t.m = s.m
 ·rw [if_pos e]
  rw [e] at h1
  go_enter Tryd.func44, Tryd.ntmps44
  go_wp2
  go_region
  all_goals
   go_wp2
   go_region
   all_goals
    go_wp2
    go_ret
    exact ⟨rfl, below_drew (below_drew (Below.refl _ w))⟩
 ·rw [if_neg e]
  go_enter Tryd.func44, Tryd.ntmps44
  go_wp2
  go_region
  all_goals
   go_wp2
   go_region
   all_goals
    go_wp2
    go_ret
    exact ⟨rfl, below_drew (below_drew (Below.refl _ w))⟩
end Go.Proofs.YtekfbphnoibnjaaDoor
namespace Go.Proofs.YtekfbphnoibnjaaDoor
open Go.RowKit
theorem Frm.setCells {S : Nat -> Prop} {a : World} {b : Nat} (hb : S b \/ a.heap.size <= b) : ∀ (vs : List Value) (o : Nat) {w : World}, Frm S a w -> Frm S a (w.setCells b o vs)
 | [], _, _, h => h
 | _ :: r, o, _, h => Frm.setCells hb r (o + 1) (h.setCell hb _)
theorem exec_store_mid {P : Program} {o : Oper} {a : Act} {w : World} (ty : TypeId) (x y : Operand) (ho : o.op = .store ty x y)
  (b k : Nat) (cells : Array Value) (hx : a.eval x = .pointer (some ⟨b, k, none⟩)) (hy : a.eval y = .agg cells)
  (ht : w.there b k cells.size) (hi : (P.info? ty).map (·.size) = some cells.size) (h1 : cells.all (·.oneCell') = true) :
  (execOp a.eval o).run P w = .ok .skip (w.setCells b k cells.toList) := by
 unfold execOp
 simp only [ho, hx, hy, Instr.storeAt, Instr.sureAddr, Sem.run_bind, Sem.run_pure, Result.andThen_ok, run_storeVar_mid w b k ty cells ht hi h1]
theorem Crs.there {w : World} {b : Nat} {r : Int} {ch : List Int} (h : Crs w b r ch) : w.there b 0 401 := fun j hj => by
 rw [Nat.zero_add]
 cases j with
 | zero => exact ⟨by rw [h.c2]; rfl, h.f2⟩
 | succ j => rw [Nat.add_comm j 1]; exact ⟨by rw [h.ch.cell j (by omega)]; rfl, h.ch.fz j (by omega)⟩
theorem Crs.stored {w : World} {b : Nat} {r r' : Int} {ch ch' : List Int} (h : Crs w b r ch) (hl : ch'.length = 400) : Crs (w.setCells b 0 (crsCells r' ch')) b r' ch' := by
 have hE := crsCells_len (r := r') hl
 have hr := World.rangeAt_setCells_same w b 0 (crsCells r' ch') (by rw [hE]; exact h.there)
 refine ⟨?_, ?_, hl, fun k hk => ?_, fun k hk => ?_⟩
 ·have := hr 0 (.int .u32 r') rfl
  rwa [Nat.zero_add] at this
 ·rw [World.frozen?_setCells]; exact h.f2
 ·have := hr (k + 1) (.int .u32 (ch'.getD k 0)) (by
   unfold crsCells
   rw [List.getElem?_cons_succ, List.getElem?_map, List.getD_eq_getElem?_getD, List.getElem?_eq_getElem (by omega)]
   rfl)
  rw [Nat.zero_add, Nat.add_comm k 1] at this
  exact this
 ·rw [World.frozen?_setCells]; exact h.ch.fz k hk
set_option maxHeartbeats 4000000 in
set_option maxRecDepth 20000 in
theorem pAppend (w : World) (b c : Nat) (v u : Value) (t s : WS) (l m : List (Nat × Int)) (h : DrAt w b v t l) (k : DrAt w c u s m) (hbc : b ≠ c) (hub : u.ownBlock ≠ some b) (hm0 : 0 < m.length) (hl : l.length <= 1000000) (hm : m.length <= 1000000) :
  Calls Tryd.prog 29 #[.pointer (some ⟨b, 0, none⟩), .pointer (some ⟨c, 0, none⟩)] w fun e w' => e = .returned (.tuple #[]) /\ ∃ v', DrAt w' b v' s (l ++ m) /\ Wr b v w w' v' := by
 have hmx : Tryd.prog.follows .mixedOrders = true := by kernel_rfl
 have hlen : s.ch.length = 400 := k.crs.ch.len
 obtain ⟨E, hE⟩ : ∃ E, E = crsCells s.rng s.ch := ⟨_, rfl⟩
 have hEs : E.length = 401 := by rw [hE]; exact crsCells_len hlen
 have hE1 : E.toArray.all (·.oneCell') = true := by rw [hE]; exact all_oneCell_toArray (crsCells_one _ _)
 have hrg : w.rangeAt c 0 E := by rw [hE]; exact k.crs.range
 have hth : w.there b 0 401 := h.crs.there
 have ksh := k.sh
 have HE : Hid (E = crsCells s.rng s.ch) := hE
 have HH : Hid (DrAt w b v t l) := h
 have HK : Hid (DrAt w c u s m) := k
 obtain ⟨k0, hi', hy0, hy1, hy2⟩ := info_parts infoStep
 clear hE h k
 go_enter Tryd.func29, Tryd.ntmps29
 go_wp2_with fail
 refine region_calm (S := fun w' => w'.rangeAt c 0 E /\ w'.cell? ⟨c, 401, none⟩ = some (.int .i64 s.m)) 16 #[false,false,false,false,false,false,false,false,false,false,false,false,false,false,false,false] rfl rfl hmx ?_
 have hS0 : w.drew.rangeAt c 0 E /\ w.drew.cell? ⟨c, 401, none⟩ = some (.int .i64 s.m) := ⟨hrg, ksh⟩
 refine tk_at 0 4 (.pointer (some ⟨b, 0, none⟩)) #[true,false,false,false,false,false,false,false,false,false,false,false,false,false,false,false] rfl rfl rfl (by kernel_rfl) (by rfl) (by rintro w ⟨t0, t1⟩; go_simp) (by assumption) ?_
 simp only [sIb, sCs, sCz]
 refine tk_at 1 5 (.pointer (some ⟨b, 0, none⟩)) #[true,true,false,false,false,false,false,false,false,false,false,false,false,false,false,false] rfl rfl rfl (by kernel_rfl) (by rfl) (by rintro w ⟨t0, t1⟩; go_simp) (by assumption) ?_
 simp only [sIb, sCs, sCz]
 refine tk_at 2 6 (.pointer (some ⟨c, 0, none⟩)) #[true,true,true,false,false,false,false,false,false,false,false,false,false,false,false,false] rfl rfl rfl (by kernel_rfl) (by rfl) (by rintro w ⟨t0, t1⟩; go_simp) (by assumption) ?_
 simp only [sIb, sCs, sCz]
 refine tk_at 3 7 (.pointer (some ⟨c, 0, none⟩)) #[true,true,true,true,false,false,false,false,false,false,false,false,false,false,false,false] rfl rfl rfl (by kernel_rfl) (by rfl) (by rintro w ⟨t0, t1⟩; go_simp) (by assumption) ?_
 simp only [sIb, sCs, sCz]
 refine tk_at 4 8 (.pointer (some ⟨c, 0, none⟩)) #[true,true,true,true,true,false,false,false,false,false,false,false,false,false,false,false] rfl rfl rfl (by kernel_rfl) (by rfl) (by rintro w ⟨t0, t1⟩; go_simp) (by assumption) ?_
 simp only [sIb, sCs, sCz]
 refine take_mid (i := 5) (d := 9) #[true,true,true,true,true,true,false,false,false,false,false,false,false,false,false,false] rfl rfl rfl (by kernel_rfl) (by kernel_rfl) (by kernel_rfl) (fun _ _ _ _ h => h) (by rfl) 59 (.tmp 8) rfl c 0 rfl E _ (fun _ h => h.1) Tryd.underlying59 rfl (by rw [hEs]; exact crsSize) (by assumption) ?_
 simp only [sIb, sCs, sCz]
 refine tk_at 6 10 (.pointer (some ⟨c, 0, none⟩)) #[true,true,true,true,true,true,true,false,false,false,false,false,false,false,false,false] rfl rfl rfl (by kernel_rfl) (by rfl) (by rintro w ⟨t0, t1⟩; go_simp) (by assumption) ?_
 simp only [sIb, sCs, sCz]
 refine tk_at 7 11 (.pointer (some ⟨c, 0, none⟩)) #[true,true,true,true,true,true,true,true,false,false,false,false,false,false,false,false] rfl rfl rfl (by kernel_rfl) (by rfl) (by rintro w ⟨t0, t1⟩; go_simp) (by assumption) ?_
 simp only [sIb, sCs, sCz]
 refine tk_at 8 12 (.pointer (some ⟨c, 401, none⟩)) #[true,true,true,true,true,true,true,true,true,false,false,false,false,false,false,false] rfl rfl rfl (by kernel_rfl) (by rfl) (by rintro w ⟨t0, t1⟩; go_simp) (by assumption) ?_
 simp only [sIb, sCs, sCz]
 refine tk_at 9 13 (.int .i64 s.m) #[true,true,true,true,true,true,true,true,true,true,false,false,false,false,false,false] rfl rfl rfl (by kernel_rfl) (by rfl) (by rintro w ⟨t0, t1⟩; go_simp) (by assumption) ?_
 simp only [sIb, sCs, sCz]
 refine tk_at 10 14 (.pointer (some ⟨b, 0, none⟩)) #[true,true,true,true,true,true,true,true,true,true,true,false,false,false,false,false] rfl rfl rfl (by kernel_rfl) (by rfl) (by rintro w ⟨t0, t1⟩; go_simp) (by assumption) ?_
 simp only [sIb, sCs, sCz]
 refine tk_at 11 15 (.pointer (some ⟨b, 0, none⟩)) #[true,true,true,true,true,true,true,true,true,true,true,true,false,false,false,false] rfl rfl rfl (by kernel_rfl) (by rfl) (by rintro w ⟨t0, t1⟩; go_simp) (by assumption) ?_
 simp only [sIb, sCs, sCz]
 obtain ⟨W1, hW1⟩ : ∃ W1, W1 = w.drew.setCells b 0 E := ⟨_, rfl⟩
 have hF1 : Frm (fun i => i = b) w W1 := by rw [hW1]; exact Frm.setCells (S := fun i => i = b) (.inl rfl) _ _ (Frm.refl _ w).drew
 have hS1 : W1.rangeAt c 0 E /\ W1.cell? ⟨c, 401, none⟩ = some (.int .i64 s.m) := ⟨fun j x hj => hF1.cell (hrg j x hj) (fun e => hbc e.symm), hF1.cell ksh (fun e => hbc e.symm)⟩
 refine store_at (i := 12) (w' := W1) #[true,true,true,true,true,true,true,true,true,true,true,true,true,false,false,false] (by kernel_rfl) rfl rfl rfl (by rfl) ?y12 hS1 ?r12
 case y12 =>
  rw [hW1]
  exact exec_store_mid 59 (.tmp 15) (.tmp 9) rfl b 0 E.toArray rfl rfl (by rw [List.size_toArray, hEs]; exact hth) (by rw [List.size_toArray, hEs]; exact crsSize) hE1
 case r12 =>
 refine tk_at 13 16 (.pointer (some ⟨b, 0, none⟩)) #[true,true,true,true,true,true,true,true,true,true,true,true,true,true,false,false] rfl rfl rfl (by kernel_rfl) (by rfl) (by rintro w ⟨t0, t1⟩; go_simp) (by assumption) ?_
 simp only [sIb, sCs, sCz]
 refine tk_at 14 17 (.pointer (some ⟨b, 401, none⟩)) #[true,true,true,true,true,true,true,true,true,true,true,true,true,true,true,false] rfl rfl rfl (by kernel_rfl) (by rfl) (by rintro w ⟨t0, t1⟩; go_simp) (by assumption) ?_
 simp only [sIb, sCs, sCz]
 have hcs1 : Crs W1 b s.rng s.ch := by rw [hW1, HE.out]; exact (HH.out.crs.drew).stored hlen
 have g401 : W1.cell? ⟨b, 401, none⟩ = some (.int .i64 t.m) := by
  rw [hW1, World.cell?_setCells_out b E 0 _ _ (fun _ _ => .inr (by show 0 + E.length <= 401; omega))]; exact HH.out.sh
 have f401 : W1.frozen? ⟨b, 401, none⟩ = false := by rw [hW1, World.frozen?_setCells]; exact HH.out.fz 401 (by decide)
 obtain ⟨W2, hW2⟩ : ∃ W2, W2 = W1.setCell ⟨b, 401, none⟩ (.int .i64 s.m) := ⟨_, rfl⟩
 have hF2 : Frm (fun i => i = b) w W2 := by rw [hW2]; exact hF1.setCell (.inl rfl) _
 have hS2 : W2.rangeAt c 0 E /\ W2.cell? ⟨c, 401, none⟩ = some (.int .i64 s.m) := ⟨fun j x hj => hF2.cell (hrg j x hj) (fun e => hbc e.symm), hF2.cell ksh (fun e => hbc e.symm)⟩
 refine store_at (i := 15) (w' := W2) #[true,true,true,true,true,true,true,true,true,true,true,true,true,true,true,true] (by kernel_rfl) rfl rfl rfl (by rfl) ?y15 hS2 ?r15
 case y15 =>
  rw [hW2]
  clear hW1 hW2
  go_simp
 case r15 =>
 refine wpAnyH_done (by kernel_rfl) ?_ _
 dsimp only [calmPost]
 have d402 : W2.cell? ⟨b, 402, none⟩ = some v := by
  rw [hW2]
  refine cell_off ?_ (.inr (by decide))
  rw [hW1, World.cell?_setCells_out b E 0 _ _ (fun _ _ => .inr (by show 0 + E.length <= 402; omega))]; exact HH.out.bits
 have e402 : W2.cell? ⟨c, 402, none⟩ = some u := hF2.cell HK.out.bits (fun e => hbc e.symm)
 have f402 : ∀ o, o < 403 -> W2.frozen? ⟨b, o, none⟩ = false := fun o ho => by rw [hW2, World.frozen?_setCell, hW1, World.frozen?_setCells]; exact HH.out.fz o ho
 have hcs2 : Crs W2 b s.rng s.ch := by rw [hW2]; exact hcs1.far (Nat.le_refl _) _
 have hsh2 : W2.cell? ⟨b, 401, none⟩ = some (.int .i64 s.m) := by rw [hW2]; exact World.cell?_setCell_same _ _ _ g401
 have hup2 : b < W2.heap.size := Nat.lt_of_lt_of_le HH.out.up hF2.size
 have hov : W2.ownsRow 0 109 2 v l.length (stepCells l) := hF2.owns HH.out.own (fun j e e2 => HH.out.ne (e2 ▸ e))
 have hou : W2.ownsRow 0 109 2 u m.length (stepCells m) := hF2.owns HK.out.own (fun j e e2 => hub (e2 ▸ e))
 obtain ⟨gu, cu, rfl⟩ : ∃ gu cu, u = .slice (some ⟨gu, 0, none⟩) m.length cu := by
  rcases hou.2 with ⟨_, h0⟩ | ⟨g, cap, cur, e, _⟩
  ·omega
  ·exact ⟨g, cap, e⟩
 have hnews : ∀ j x, (stepCells m)[j]? = some x -> W2.drew.cell? ((⟨gu, 0, none⟩ : Addr).add j) = some x := fun j x hj => by
  have hlt : j < m.length * 2 := by rw [<- stepCells_len]; exact (List.getElem?_eq_some_iff.1 hj).1
  rw [Addr.add_mid, Nat.zero_add]
  exact (World.ownsRow.cellAt hou j hlt).trans hj
 have f402' := f402 402 (by decide)
 have HF2 : Hid (Frm (fun i => i = b) w W2 /\ Crs W2 b s.rng s.ch /\ W2.cell? ⟨b, 401, none⟩ = some (.int .i64 s.m) /\ ∀ o, o < 403 -> W2.frozen? ⟨b, o, none⟩ = false) := ⟨hF2, hcs2, hsh2, f402⟩
 have hne := HH.out.ne
 have hml : (stepCells m).length = m.length * 2 := stepCells_len m
 clear hF1 hF2 hcs1 hcs2 hsh2 f402 hW1 hW2 hS1 hS2 hS0 hou hrg hth ksh g401 f401
 go_wp2_with fail
 go_region_law ((refine step_append_lies _ (by rfl) _ _ _ (by rfl) 0 109 k0 _ 2 4 Tryd.underlying101 hi' hy0 hy1 hy2 rfl (by omega) v l.length (stepCells l) (by rfl) hov.drew ⟨gu, 0, none⟩ m.length cu (stepCells m) (by rfl) hml hnews (oneCell_steps m) hm0 (by unfold maxLen; omega) (by omega) (Nat.zero_le _) W2.heap.size (by rfl) ?_; intro gg cap w5 hown5 hgrow hat hlt5; have hblk : w5.heap[b]? = W2.heap[b]? := hgrow.block b hup2 (Ne.symm hne); have sc5 : w5.cell? ⟨b, 402, none⟩ = some v := (World.cell?_of_block (a := ⟨b, 402, none⟩) hblk).trans d402; have sf5 : w5.frozen? ⟨b, 402, none⟩ = false := (World.frozen?_of_block (a := ⟨b, 402, none⟩) hblk).trans f402'))
 all_goals
  go_wp2_with fail
  go_end0
  have hgg : gg ≠ b := by
   rcases hat with e | e
   ·exact fun e2 => hne (e2 ▸ e)
   ·omega
  obtain ⟨q1, q2, q3, q4⟩ := HF2.out
  have hsz : W2.heap.size <= w5.heap.size := hgrow.size
  refine ⟨rfl, .slice (some ⟨gg, 0, none⟩) (l.length + m.length) cap, ⟨(q2.on hblk).far (by decide) _, cell_off ((World.cell?_of_block (a := ⟨b, 401, none⟩) hblk).trans q3) (.inr (by decide)), World.cell?_setCell_same _ _ _ sc5, ?_, ?_, fun o ho => ?_, ?_⟩, ?_, ?_⟩
  ·rw [stepCells_app, List.length_append]
   exact hown5.kept (grown_setCell w5 b 402 _) (.inr (by simp [Value.ownBlock]; exact hgg))
  ·simp [Value.ownBlock]; exact hgg
  ·rw [World.frozen?_setCell, World.frozen?_of_block (a := ⟨b, o, none⟩) hblk]
   exact q4 o ho
  ·rw [World.size_setCell]; omega
  ·refine Frm.setCell ?_ (.inl (.inl rfl)) _
   have f1 : Frm (fun k => k = b \/ v.ownBlock = some k) w W2 := q1.mono fun _ _ e => .inl e
   exact f1.drew.grown hgrow fun j e => .inl (.inr e)
  ·intro j e
   simp [Value.ownBlock] at e
   subst e
   have := q1.size
   rcases hat with e | e
   ·exact .inl e
   ·exact .inr (by omega)
end Go.Proofs.YtekfbphnoibnjaaDoor
namespace Go.Proofs.YtekfbphnoibnjaaDoor
open Go.RowKit
theorem octs_conv {w : World} {B : Nat} {v : Value} {zs : List Int} (h : Octs w B v zs) : Sem.run Tryd.prog (convert 61 9 v) w = .ok (.string (strOfNums zs)) w := by
 unfold Octs at h
 rcases h.2 with ⟨rfl, h0⟩ | ⟨g, cap, cur, rfl, _⟩
 ·have : zs = [] := List.eq_nil_of_length_eq_zero h0
  subst this
  exact run_convert_bytes_nil w 61 5 Tryd.underlying61 Tryd.underlying5 0 0 9 Tryd.underlying9
 ·refine run_convert_bytes_arg w 61 5 Tryd.underlying61 Tryd.underlying5 g 0 zs.length cap zs rfl (fun i hi => ?_) 9 Tryd.underlying9
  rw [Nat.zero_add, World.ownsRow.cellAt h i (by omega), octs_get _ _ hi]
theorem conv4d (w : World) (a b c d : Int) :
  Sem.run Tryd.prog (convert 61 9 (.slice (some ⟨w.heap.size, 0, none⟩) 4 4)) (w.alloc (.cells #[.int .u8 a, .int .u8 b, .int .u8 c, .int .u8 d] 5)).drew
   = .ok (.string (strOfNums [a, b, c, d])) (w.alloc (.cells #[.int .u8 a, .int .u8 b, .int .u8 c, .int .u8 d] 5)).drew := by
 refine run_convert_bytes_arg _ 61 5 Tryd.underlying61 Tryd.underlying5 w.heap.size 0 4 4 [a, b, c, d] rfl ?_ 9 Tryd.underlying9
 intro i hi
 show (w.alloc (.cells #[.int .u8 a, .int .u8 b, .int .u8 c, .int .u8 d] 5)).cell? _ = _
 rw [cell_of_row _ _ _ _ _ _ (heap_alloc_last w _)]
 match i, hi with
 | 0, _ => rfl
 | 1, _ => rfl
 | 2, _ => rfl
 | 3, _ => rfl
def endStr (t : WS) : ByteArray := strOfNums (Pack.digs (t.m + 4) t.n)
theorem strOfNums_app (xs ys : List Int) : strOfNums xs ++ strOfNums ys = strOfNums (xs ++ ys) := by
 apply ByteArray.ext
 simp [strOfNums]
theorem endStr_eq (t : WS) (L : Int) (hL : L = t.n % 4294967296) : strOfNums (Pack.digs t.m (t.n / 4294967296)) ++ strOfNums [L / 16777216 % 256, L / 65536 % 256, L / 256 % 256, L % 256] = endStr t := by
 rw [strOfNums_app]
 unfold endStr
 congr 1
 show _ = (((Pack.digs t.m (t.n / 256 / 256 / 256 / 256) ++ [_]) ++ [_]) ++ [_]) ++ [_]
 rw [show t.n / 256 / 256 / 256 / 256 = t.n / 4294967296 by omega]
 simp only [List.append_assoc, List.cons_append, List.nil_append]
 congr 1
 simp only [List.cons.injEq, and_true]
 omega
set_option maxHeartbeats 2000000 in
set_option maxRecDepth 20000 in
theorem pLEnd (w : World) (B b : Nat) (v : Value) (t : WS) (h : PW w B b v t) (hm : t.m <= 200000) :
  Calls Tryd.prog 14 #[.pointer (some ⟨b, 0, none⟩)] w fun e w' => e = .returned (.string (endStr t)) /\ Below w.heap.size w w' := by
 have i0 := h.c0
 have i1 := h.c1
 obtain ⟨L, hL⟩ : ∃ L, L = t.n % 4294967296 := ⟨_, rfl⟩
 rw [<- hL] at i1
 have L0 : 0 <= L := by omega
 have L1 : L <= 4294967295 := by omega
 have HL : Hid (L = t.n % 4294967296) := hL
 obtain ⟨zs, hzs⟩ : ∃ zs, zs = Pack.digs t.m (t.n / 4294967296) := ⟨_, rfl⟩
 have ho := h.own
 rw [<- hzs] at ho
 have hzl : zs.length <= 200000 := by rw [hzs, Pack.digs_length]; exact hm
 have HZ : Hid (zs = Pack.digs t.m (t.n / 4294967296)) := hzs
 have F0 := octs_conv (w := w) ho
 have F1 : Sem.run Tryd.prog (convert 61 9 v) w.drew = .ok (.string (strOfNums zs)) w.drew := octs_conv (B := B) (show Octs w.drew B v zs from ho)
 have F2 : ∀ a b c d : Int, Sem.run Tryd.prog (convert 61 9 v) (w.alloc (.cells #[.int .u8 a, .int .u8 b, .int .u8 c, .int .u8 d] 5)).drew = .ok (.string (strOfNums zs)) (w.alloc (.cells #[.int .u8 a, .int .u8 b, .int .u8 c, .int .u8 d] 5)).drew := fun a b c d => octs_conv (B := B) (show Octs (w.alloc _).drew B v zs from by unfold Octs at ho ⊢; exact (ho.alloc _).drew)
 have F3 := conv4d w
 have hsz : (strOfNums zs).size = zs.length := strOfNums_size zs
 have hsz4 : ∀ a b c d : Int, (strOfNums [a, b, c, d]).size = 4 := fun a b c d => strOfNums_size _
 have hbup := h.up
 have i0a : ∀ x y z u : Int, (w.alloc (.cells #[.int .u8 x, .int .u8 y, .int .u8 z, .int .u8 u] 5)).drew.cell? ⟨b, 401, none⟩ = some v := fun x y z u => (cell_alloc_drew hbup).trans i0
 have hlim : ¬ 9223372036854775807 < zs.length + 4 := by omega
 clear hL hzs h
 go_enter Tryd.func14, Tryd.ntmps14
 go_wp2
 go_region
 have he : strOfNums zs ++ strOfNums [L / 16777216, L / 65536 % 256, L / 256 % 256, L % 256] = endStr t := by
  rw [HZ.out, <- endStr_eq t L HL.out, show L / 16777216 % 256 = L / 16777216 by omega]
 have HEE : Hid (strOfNums zs ++ strOfNums [L / 16777216, L / 65536 % 256, L / 256 % 256, L % 256] = endStr t) := he
 clear he F0 F1 F2 F3 i0a
 go_wp2
 go_ret
 exact ⟨by rw [<- HEE.out]; rfl, below_drew ((Below.refl _ w).alloc (Nat.le_refl _) _)⟩
end Go.Proofs.YtekfbphnoibnjaaDoor
