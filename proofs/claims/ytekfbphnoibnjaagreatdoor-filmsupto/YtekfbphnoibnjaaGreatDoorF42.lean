/-
  Films holds of the program at this commit, of every script of bulk at most 1048576: the law answers true and leaves its argument as it was; the listed package variables start as the program's text lays them (the card ties them).
-/
import Derived.Test.YtekfbphnoibnjaaGreatDoorF37
import Derived.Test.YtekfbphnoibnjaaGreatDoorF38
import Derived.Test.YtekfbphnoibnjaaGreatDoorF40
import Derived.Test.YtekfbphnoibnjaaGreatDoorCards
import Derived.Deep.DeepHandedRow
namespace Go.Proofs.YtekfbphnoibnjaaGreatDoor
open Go.ChangeShapes Go.WideShapes Go.ChangeAt Go.RowKit Go.Joins Go.Deep
theorem fbulk_pos {H : Type} (d : DataW H) : 1 <= Rows.uptoBulk d := by
 cases d with
 | lit l => cases l <;> simp [Rows.uptoBulk]
 | nil => simp [Rows.uptoBulk]
 | ptr d => simp [Rows.uptoBulk]
 | slice elems spare => simp [Rows.uptoBulk]
 | agg parts => simp [Rows.uptoBulk]
 | iface t d => simp [Rows.uptoBulk]
 | map entries => simp [Rows.uptoBulk]
 | held h => simp [Rows.uptoBulk]
theorem fbulk_len {H : Type} : ∀ (l : List (DataW H)), l.length <= Rows.uptoBulkAll l
 | [] => by simp
 | x :: r => by
  have := fbulk_len r
  have := fbulk_pos x
  rw [Rows.uptoBulkAll, List.length_cons]
  omega
theorem fslice_bulk {H : Type} {enc : TypeId × Value -> H} {w : World} {base : Nat} {spare : Nat -> Bool} {held : Bool} {P : Program} {t e : TypeId} {fuel : Nat} {a : Option Addr} {len cap : Nat} {x : DataW H × List MemPlace} (ht : P.underlying t = some (.slice e)) (h : DataW.trod enc P w base spare held fuel t [.slice a len cap] = some x) : len <= Rows.uptoBulk x.1 := by
 rcases open_slice ht h with ⟨h1, _⟩ | ⟨a', len', cap', m, n, D, Pl, h1, _, hl, hm, hmm, rfl, hx⟩
 ·simp at h1; omega
 ·simp at h1
  obtain ⟨rfl, rfl, rfl⟩ := h1
  have := fbulk_len ((List.range len).map D)
  rw [List.length_map, List.length_range] at this
  show len <= Rows.uptoBulk (.slice _ _)
  rw [Rows.uptoBulk]
  omega
theorem cellsI : Tryz.prog.cellsOf 3 = 1 := by kernel_rfl
theorem soft_named : Tryz.prog.globalNamed "flipbook/film.softContexts" = some 9 /\ (Tryz.prog.globals[9]?).map (·.type) = some 48 := ⟨by kernel_rfl, by kernel_rfl⟩
theorem soft_of_laid {W : World} (h : laidMetH Tryz.prog lineLaid W) : SoftG W W.heap.size := by
 obtain ⟨ps, hl, _, _⟩ : laidMet Tryz.prog (sntD "*errors.errorString" sntN ++ [("flipbook/film.softContexts", Rows.laid_flipbook_film_softContexts)]) W := h.1
 obtain ⟨p, q, _, _, g, t, cs, fuel, p', q', hg, ht, hv, hd, _, _⟩ := laid_front _ _ ps hl
 obtain rfl := Option.some.inj (soft_named.1.symm.trans hg)
 obtain rfl := Option.some.inj (soft_named.2.symm.trans ht)
 obtain ⟨xs, m, _, ex, _, hxl, hel⟩ := DataW.trod_array Tryz.underlying48 hd
 have e3 : xs.map (·.1) = [.lit (.int .i64 100), .lit (.int .i64 124), .lit (.int .i64 148)] := (DataW.agg.inj (Prod.mk.inj ex).1).symm
 have hx3 : xs.length = 3 := by have := congrArg List.length e3; simpa using this
 have key : ∀ (r : Nat) (z : Int), r < 3 -> [DataW.lit (.int .i64 100), DataW.lit (.int .i64 124), (DataW.lit (.int .i64 148) : DataW Unit)][r]? = some (.lit (.int .i64 z)) -> W.cell? ⟨9, r, none⟩ = some (.int .i64 z) := fun r z hr hz => by
  have hE := hel r (by omega)
  rw [cellsI, Nat.mul_one, List.getElem?_eq_getElem (by omega)] at hE
  obtain ⟨y, e1, e2, _⟩ := DataW.trod_int Tryz.underlying3 hE
  have e4 : (xs.map (·.1))[r]? = some (.lit (.int .i64 z)) := by rw [e3]; exact hz
  rw [List.getElem?_map, List.getElem?_eq_getElem (by omega : r < xs.length), e2] at e4
  simp only [Option.map_some, Option.some.injEq, DataW.lit.injEq, Lit.int.injEq, true_and] at e4
  rw [World.var?_cell hg hv r]
  have : cs.toList[r]? = some (.int .i64 z) := by
   have h0 : ((cs.toList.drop r).take 1)[0]? = some (.int .i64 y) := by rw [e1]; rfl
   rw [<- e4]
   simpa using h0
  simpa using this
 have k0 := key 0 100 (by decide) rfl
 exact ⟨⟨k0, key 1 124 (by decide) rfl, key 2 148 (by decide) rfl⟩, World.block_lt_of_cell? _ _ k0⟩
theorem row_error : ((List.range Tryz.prog.types.size).all fun ty => !Tryz.prog.rowNamed ty [101, 114, 114, 111, 114] || ty == 62) = true := by kernel_rfl
theorem errT_named : Tryz.prog.globalNamed "errors.errorType" = some 8 := by kernel_rfl
theorem errT_of_laid {W : World} (h : laidMetH Tryz.prog lineLaid W) : ErrT W := by
 have k : handlesMet Tryz.prog [("errors.errorType", Rows.laid_errors_errorType)] W := h.2
 obtain ⟨name, u, ty, h1, h2, h3, h4, h5⟩ : ∃ name u ty, (Rows.laid_errors_errorType : DataW Unit).handleName? = some name /\ (Tryz.prog.cutTypes.find? (·.1 == "internal/reflectlite.rtype")).map (·.2) = some u /\ ty < Tryz.prog.types.size /\ Tryz.prog.rowNamed ty name = true /\ W.var? Tryz.prog "errors.errorType" = some #[.iface u (.agg #[typeHandle Tryz.prog ty])] := k _ (List.mem_singleton.2 rfl)
 have hn : (Rows.laid_errors_errorType : DataW Unit).handleName? = some [101, 114, 114, 111, 114] := by kernel_rfl
 obtain rfl := Option.some.inj (hn.symm.trans h1)
 have hu : (Tryz.prog.cutTypes.find? (·.1 == "internal/reflectlite.rtype")).map (·.2) = some 220 := by kernel_rfl
 obtain rfl := Option.some.inj (hu.symm.trans h2)
 have hty := List.all_eq_true.1 row_error ty (List.mem_range.2 h3)
 rw [h4] at hty
 obtain rfl : ty = 62 := by simpa using hty
 have hgs : Tryz.prog.globals.size = 10 := by kernel_rfl
 have hc := World.var?_cell errT_named h5 0
 unfold typeHandle at hc
 rw [hgs] at hc
 exact hc
theorem vars_of_laid {W : World} (h : laidMetH Tryz.prog lineLaid W) : Vars W := ⟨errsA_of_laid h, soft_of_laid h, errT_of_laid h⟩
theorem films_laid (os : Os) : laidMetH Tryz.prog lineLaid ((startW os).forCall (fun _ _ => 0) ⟨#[], #[.slice none 0 0], []⟩).memory := startW_laid os _
theorem films_reads (os : Os) {H : Type} (enc : TypeId × Value -> H) : ∃ places, DataW.whole enc Tryz.prog ((startW os).forCall (fun _ _ => 0) ⟨#[], #[.slice none 0 0], []⟩).memory Tryz.f5.params.toList Rows.filmsSpec.vars false #[Value.slice none 0 0].toList 8 = some ([.nil], [], places) :=
 ⟨[], by kernel_rfl⟩
set_option maxRecDepth 100000 in
theorem films_lifted (os : Os) (started : os.Started) (H : Type) (enc : TypeId × Value -> H) (F : Stop.Interp) :
  ReturnsInHanded {} Tryz.checked os 5 .any ((Rows.OpenSpec.upto Rows.filmsSpec).preRow enc Tryz.prog Tryz.f5 Rows.filmsUptoRow.domain false Rows.filmsUptoRow.laid) (((Rows.OpenSpec.upto Rows.filmsSpec).at F).post enc Tryz.prog Tryz.f5 false true false false) := by
 obtain ⟨places, hx⟩ := films_reads os enc
 refine returnsInHanded_of_row (C := Tryz.checked) (s := Rows.OpenSpec.upto Rows.filmsSpec) own started (by kernel_rfl) Tryz.func5
  (witness_row_at (enc := enc) (C := Tryz.checked) false (startW os) #[.slice none 0 0] (startW_os os) (by kernel_rfl) (by kernel_rfl) (by kernel_rfl)
   (OpenSpec.preRow_of_cond 8 hx (by kernel_rfl) (fun k hk => by cases hk; kernel_rfl) (by kernel_rfl) (films_laid os))) ?_
 intro W base args ds gs before hval0 hW _ hcond _ hL _ _
 have hval : ∀ (j : Nat) t v, Tryz.f5.params[j]? = some t -> args[j]? = some v -> Value.okWide Tryz.prog W .any base t v := hval0
 have hW' := hW
 obtain ⟨p, q, hA0, hV, rfl, hfz, hnd⟩ := hW
 have hA : DataW.TrodAll enc Tryz.prog W 0 (fun _ => true) true Tryz.f5.params.toList args.toList ds p := hA0
 rw [Tryz.params5] at hA hval
 obtain ⟨v0, vs0, d0, ds0, p0, q0, hargs, rfl, rfl, h0, r0⟩ := trodAll_cons hA
 obtain ⟨rfl, rfl, rfl⟩ := trodAll_nil r0
 obtain rfl : args = #[v0] := by cases args; simp_all
 obtain ⟨rfl, rfl⟩ := trodVars_none hV
 have hbulk : Rows.uptoBulk d0 <= 1048576 := by
  have k := hcond _ rfl
  simpa [Rows.uptoSmall, Rows.uptoBulkAll] using k
 have k0 := h0
 have lt0 : ∀ x ∈ p0, x.block < W.heap.size := by obtain ⟨m, hm⟩ := k0; exact DataW.trod_lt m _ _ _ hm
 obtain ⟨a, len, cap, rfl⟩ := okWide_slice Tryz.underlying22 (hval 0 22 v0 rfl rfl)
 obtain ⟨fuel, hf⟩ := h0
 have hf' : DataW.trod enc Tryz.prog W 0 (fun _ => true) true fuel 22 [.slice a len cap] = some (d0, p0) := by simpa [Value.cells] using hf
 have hl : len <= Rows.uptoBulk d0 := fslice_bulk Tryz.underlying22 hf'
 obtain ⟨ops, hs, _, _⟩ := open_script hf'
 have V := vars_of_laid hL
 clear hA0 hval0 hf hf'
 refine (films_any W a len cap ops hs (by omega) V).mono fun e W' ⟨he, bel⟩ => ?_
 subst he
 exact ⟨_, rfl, _, _, _, [], _, [], hW', trodAll_mk1 (shut_bool Tryz.underlying4 _), (trodAll_cons_mk (Below.trod laidOut (by kernel_rfl) (of_decide_eq_true (by kernel_rfl)) k0 bel lt0) trodAll_mk0), rfl, bel.frame _, fun h => by cases h⟩
theorem films_over : Rows.FilmsUptoSaid :=
 OpenClaim.holds_of_cond 5 Tryz.f5 rfl rfl rfl rfl rfl rfl rfl ⟨rfl, rfl, rfl, rfl, rfl⟩ rfl rfl rfl rfl rfl (by kernel_rfl) Tryz.func5 (by kernel_rfl)
  (of_decide_eq_true (by kernel_rfl)) (by unfold Func.isWrapper; first | (rw [if_pos (by decide +kernel)]; kernel_rfl) | (rw [if_neg (by decide +kernel)]; exact ⟨rfl, rfl⟩))
  (fun os started H enc _ F => by rw [OpenClaim.pre_eq_preRow]; exact films_lifted os started H enc F)
theorem films_proved : Rows.FilmsUptoCardSaid :=
 Claim7.holds_tied_plain_at .later [] [.handle, .sentinel, .sentinel, .sentinel, .sentinel, .sentinel, .sentinel, .sentinel, .sentinel, .data] true Rows.filmsUptoCard.stood.harness true
  films_over (fun _ h => by cases h) (by kernel_rfl) (fun _ h => by cases h) filmsUpto_row_tie rfl ⟨rfl, rfl⟩ (by kernel_rfl) rfl
  (fun f fn hf hfn => by
   obtain rfl : f = 5 := Option.some.inj ((show Tryz.prog.funcNamed "flipbook/flipbooklaw.Films" = some 5 by kernel_rfl).symm.trans hf) |>.symm
   obtain rfl : fn = Tryz.f5 := (Option.some.inj (Tryz.func5.symm.trans hfn)).symm
   exact ⟨by kernel_rfl, fun j t ht => by
    rw [Tryz.params5] at ht
    have hm : t ∈ [22] := by simpa using Array.mem_of_getElem? ht
    have hall : ([22].all fun u => !Tryz.prog.wantsStandIn u) = true := by kernel_rfl
    exact (show Tryz.prog.wantsStandIn t = false by simpa using List.all_eq_true.1 hall t hm)⟩)
  (by kernel_rfl)
#print axioms films_proved
end Go.Proofs.YtekfbphnoibnjaaGreatDoor
