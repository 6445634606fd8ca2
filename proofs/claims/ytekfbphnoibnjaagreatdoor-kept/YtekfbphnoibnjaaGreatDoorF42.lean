/-
  Kept holds of the program at this commit: for every size, number of frames, raw bytes and number of colours the law answers true and leaves its arguments as they were; the listed package variables start as the program's text lays them (the card ties them). FilmCard
-/
import Derived.Test.YtekfbphnoibnjaaGreatDoorF40
import Derived.Test.YtekfbphnoibnjaaGreatDoorCards
import Derived.Deep.DeepHandedRow
set_option maxHeartbeats 4000000
namespace Go.Proofs.YtekfbphnoibnjaaGreatDoor
section
open Go.ChangeShapes Go.WideShapes Go.ChangeAt Go.RowKit Go.Joins Go.Deep
theorem row_error:((List.range Tryz.prog.types.size).all fun ty=>!Tryz.prog.rowNamed ty [101,114,114,111,114] || ty == 62)=true:=by kernel_rfl
theorem errT_named : Tryz.prog.globalNamed "errors.errorType" = some 8 := by kernel_rfl
theorem errT_of_laid {W:World} (h:laidMetH Tryz.prog lineLaid W):ErrT W:=by
 have k : handlesMet Tryz.prog [("errors.errorType", Rows.laid_errors_errorType)] W := h.2
 obtain ⟨name, u, ty, h1, h2, h3, h4, h5⟩ : ∃ name u ty, (Rows.laid_errors_errorType : DataW Unit).handleName? = some name /\ (Tryz.prog.cutTypes.find? (·.1 == "internal/reflectlite.rtype")).map (·.2) = some u /\ ty < Tryz.prog.types.size /\ Tryz.prog.rowNamed ty name = true /\ W.var? Tryz.prog "errors.errorType" = some #[.iface u (.agg #[typeHandle Tryz.prog ty])] := k _ (List.mem_singleton.2 rfl)
 have hn:(Rows.laid_errors_errorType:DataW Unit).handleName?=some [101,114,114,111,114]:=by kernel_rfl
 obtain rfl:=Option.some.inj (hn.symm.trans h1)
 have hu : (Tryz.prog.cutTypes.find? (·.1 == "internal/reflectlite.rtype")).map (·.2) = some 220 := by kernel_rfl
 obtain rfl:=Option.some.inj (hu.symm.trans h2)
 have hty:=List.all_eq_true.1 row_error ty (List.mem_range.2 h3)
 rw [h4] at hty
 obtain rfl:ty=62:=by simpa using hty
 have hgs:Tryz.prog.globals.size=10:=by kernel_rfl
 have hc:=World.var?_cell errT_named h5 0
 unfold typeHandle at hc
 rw [hgs] at hc
 exact hc
theorem vars_of_laid {W:World} (h:laidMetH Tryz.prog lineLaid W):Vars W:=⟨errsA_of_laid h,soft_of_laid h,errT_of_laid h⟩
end
section
open Go.ChangeShapes Go.WideShapes Go.ChangeAt Go.RowKit Go.Joins
set_option maxRecDepth 100000 in
theorem kept_lifted (os:Os) (started:os.Started) (H:Type) (enc:TypeId × Value->H) :
  ReturnsInHanded {} Tryz.checked os 7 .any (fun w args=>(Rows.keptSpec.pre enc Tryz.prog Tryz.f7 [] false w args/\laidMetH Tryz.prog lineLaid w)/\sizedMet enc Tryz.prog Tryz.f7 (OpenSpec.ofChange Rows.keptSpec) false w args)
   (Rows.keptSpec.post enc Tryz.prog Tryz.f7 false true false false):=by
 refine returnsInHanded_of_change_and (C:=Tryz.checked) (X:=fun w _=>laidMetH Tryz.prog lineLaid w) (fun _ _ _ hh h=>h.of_heap hh) own started (by kernel_rfl) Tryz.func7
  (ChangeSpec.witness_shaped (enc:=enc) (C:=Tryz.checked) (os:=os) (X:=fun w _=>laidMetH Tryz.prog lineLaid w) false (startW os) #[.int .i64 0,.int .i64 0,.string ⟨#[]⟩,.int .i64 0] 8 (startW_os os)
   (World.shaped_of_ZipB (by kernel_rfl) (by kernel_rfl)) (by kernel_rfl) (by kernel_rfl) (by kernel_rfl)
   (startW_laid os _)) ?_
 intro W base args ds gs before hval0 hW _ _ hL _
 have hval:∀ (j:Nat) t v,Tryz.f7.params[j]?=some t->args[j]?=some v->Value.okWide Tryz.prog W .any base t v:=hval0
 have hW':=hW
 obtain ⟨p,q,hA0,hV,rfl,hfz,hnd⟩:=hW
 have hA:DataW.TrodAll enc Tryz.prog W 0 (fun _=>true) true Tryz.f7.params.toList args.toList ds p:=hA0
 rw [Tryz.params7] at hA hval
 obtain ⟨v0,vs0,d0,ds0,p0,q0,hargs,rfl,rfl,h0,r0⟩:=trodAll_cons hA
 obtain ⟨v1,vs1,d1,ds1,p1,q1,rfl,rfl,rfl,h1,r1⟩:=trodAll_cons r0
 obtain ⟨v2,vs2,d2,ds2,p2,q2,rfl,rfl,rfl,h2,r2⟩:=trodAll_cons r1
 obtain ⟨v3,vs3,d3,ds3,p3,q3,rfl,rfl,rfl,h3,r3⟩:=trodAll_cons r2
 obtain ⟨rfl,rfl,rfl⟩:=trodAll_nil r3
 obtain rfl:args=#[v0,v1,v2,v3]:=by cases args;simp_all
 obtain ⟨rfl,rfl⟩:=trodVars_none hV
 have k0:=h0
 have k1:=h1
 have k2:=h2
 have k3:=h3
 have lt0:∀ x ∈ p0,x.block<W.heap.size:=by obtain ⟨m,hm⟩:=k0;exact DataW.trod_lt m _ _ _ hm
 have lt1:∀ x ∈ p1,x.block<W.heap.size:=by obtain ⟨m,hm⟩:=k1;exact DataW.trod_lt m _ _ _ hm
 have lt2:∀ x ∈ p2,x.block<W.heap.size:=by obtain ⟨m,hm⟩:=k2;exact DataW.trod_lt m _ _ _ hm
 have lt3:∀ x ∈ p3,x.block<W.heap.size:=by obtain ⟨m,hm⟩:=k3;exact DataW.trod_lt m _ _ _ hm
 obtain ⟨n0,rfl,rfl,_,w0⟩:=open_int Tryz.underlying3 (hval 0 3 v0 rfl rfl) h0
 obtain ⟨n1,rfl,rfl,_,w1⟩:=open_int Tryz.underlying3 (hval 1 3 v1 rfl rfl) h1
 obtain ⟨n3,rfl,rfl,_,w3⟩:=open_int Tryz.underlying3 (hval 3 3 v3 rfl rfl) h3
 obtain ⟨s,rfl⟩:=okWide_string Tryz.underlying9 (hval 2 9 v2 rfl rfl)
 obtain ⟨fuel,hf⟩:=h2
 have hf':DataW.trod enc Tryz.prog W 0 (fun _=>true) true fuel 9 [.string s]=some (d2,p2):=by simpa [Value.cells] using hf
 obtain ⟨s',e1,_,hsz⟩:=DataW.trod_string Tryz.underlying9 hf'
 simp at e1
 subst e1
 have V:=vars_of_laid hL
 obtain ⟨o0,o1⟩:=bounds_i64 w0
 obtain ⟨m0,m1⟩:=bounds_i64 w1
 obtain ⟨l0,l1⟩:=bounds_i64 w3
 clear hA0 hval0 hf hf'
 refine (kept_any W n0 n1 s n3 o0 o1 m0 m1 l0 l1 hsz V).mono fun e W' ⟨he,bel⟩=>?_
 subst he
 exact ⟨_,rfl,_,_,_,[],_,[],hW',trodAll_mk1 (shut_bool Tryz.underlying4 _),(trodAll_cons_mk (Below.trod laidOut (by kernel_rfl) (of_decide_eq_true (by kernel_rfl)) k0 bel lt0) (trodAll_cons_mk (Below.trod laidOut (by kernel_rfl) (of_decide_eq_true (by kernel_rfl)) k1 bel lt1) (trodAll_cons_mk (Below.trod laidOut (by kernel_rfl) (of_decide_eq_true (by kernel_rfl)) k2 bel lt2) (trodAll_cons_mk (Below.trod laidOut (by kernel_rfl) (of_decide_eq_true (by kernel_rfl)) k3 bel lt3) trodAll_mk0)))),rfl,bel.frame _,fun h=>by cases h⟩
theorem kept_over:Rows.KeptSaid :=
 OpenClaim.holds_of_wide 7 Tryz.f7 rfl rfl rfl rfl rfl rfl rfl ⟨rfl,rfl,rfl,rfl,rfl⟩ rfl rfl rfl rfl rfl (by kernel_rfl) Tryz.func7 (by kernel_rfl)
  (of_decide_eq_true (by kernel_rfl)) (by unfold Func.isWrapper;first|(rw [if_pos (by decide +kernel)];kernel_rfl)|(rw [if_neg (by decide +kernel)];exact ⟨rfl,rfl⟩))
  (fun os started H enc _=>kept_lifted os started H enc)
theorem kept_proved:Rows.KeptCardSaid :=
 Claim7.holds_tied_plain_at .later [] [.handle,.sentinel,.sentinel,.sentinel,.sentinel,.sentinel,.sentinel,.sentinel,.sentinel,.data] true Rows.keptCard.stood.harness true
  kept_over (fun _ h=>by cases h) (by kernel_rfl) (fun _ h=>by cases h) kept_row_tie rfl ⟨rfl,rfl⟩ (by kernel_rfl) rfl
  (fun f fn hf hfn=>by
   obtain rfl : f = 7 := Option.some.inj ((show Tryz.prog.funcNamed "flipbook/flipbookkeep.Kept" = some 7 by kernel_rfl).symm.trans hf) |>.symm
   obtain rfl:fn=Tryz.f7:=(Option.some.inj (Tryz.func7.symm.trans hfn)).symm
   exact ⟨by kernel_rfl,fun j t ht=>by
    rw [Tryz.params7] at ht
    have hm:t ∈ [3,3,9,3]:=by simpa using Array.mem_of_getElem? ht
    have hall:([3,3,9,3].all fun u=>!Tryz.prog.wantsStandIn u)=true:=by kernel_rfl
    exact (show Tryz.prog.wantsStandIn t=false by simpa using List.all_eq_true.1 hall t hm)⟩)
  (by kernel_rfl)
#print axioms kept_proved
end
end Go.Proofs.YtekfbphnoibnjaaGreatDoor
