/-
  The package variable that the row of Still lists.
-/
import Derived.Test.YtekfbphnoibnjaaDoorF12
import Derived.Test.YtekfbphnoibnjaaDoorF35
import Derived.Test.YtekfbphnoibnjaaDoorTie
import Derived.ProofKit
import Derived.OpenShut
import Derived.ChangeOld
import Derived.Lib.SmallJoins
import Derived.Lay
import Derived.SevenTiedAt
import Derived.LaidHandle
import Derived.Stop.LaidTwo
namespace Go.Proofs.YtekfbphnoibnjaaDoor
open Go.ChangeShapes Go.WideShapes Go.ChangeAt Go.RowKit Go.Joins Go.Deep
def stillLaid : List (String × DataW Unit) := [("flipbook/film.softContexts", Rows.laid_flipbook_film_softContexts)]
noncomputable def startS (os : Os) : World := World.laidAll Tryd.prog os stillLaid
theorem startS_os (os : Os) : (startS os).os = os := World.laidAll_os _ _ _
theorem startS_laid (os : Os) (args : Array Value) : laidMetH Tryd.prog stillLaid ((startS os).forCall (fun _ _ => 0) ⟨#[], args, []⟩).memory := by
 rw [MakeChecks.laidMetH_plain _ _ _ (by kernel_rfl)]; exact laidMet_laidAll _ (by kernel_rfl) (by kernel_rfl)
theorem cellsSt : Tryd.prog.cellsOf 3 = 1 := by kernel_rfl
theorem soft_still : Tryd.prog.globalNamed "flipbook/film.softContexts" = some 8 /\ (Tryd.prog.globals[8]?).map (·.type) = some 139 := ⟨by kernel_rfl, by kernel_rfl⟩
theorem soft_of_still {W : World} (h0 : laidMetH Tryd.prog stillLaid W) : SoftG W W.heap.size := by
 have h : laidMet Tryd.prog stillLaid W := by rwa [MakeChecks.laidMetH_plain _ _ _ (by kernel_rfl)] at h0
 obtain ⟨ps, hl, _, _⟩ := h
 obtain ⟨g, t, cs, fuel, p', q', hg, ht, hv, hd, _, _⟩ := hl
 obtain rfl := Option.some.inj (soft_still.1.symm.trans hg)
 obtain rfl := Option.some.inj (soft_still.2.symm.trans ht)
 obtain ⟨xs, m, _, ex, _, hxl, hel⟩ := DataW.trod_array Tryd.underlying139 hd
 have e3 : xs.map (·.1) = [.lit (.int .i64 100), .lit (.int .i64 124), .lit (.int .i64 148)] := (DataW.agg.inj (Prod.mk.inj ex).1).symm
 have hx3 : xs.length = 3 := by have := congrArg List.length e3; simpa using this
 have key : ∀ (r : Nat) (z : Int), r < 3 -> [DataW.lit (.int .i64 100), DataW.lit (.int .i64 124), (DataW.lit (.int .i64 148) : DataW Unit)][r]? = some (.lit (.int .i64 z)) -> W.cell? ⟨8, r, none⟩ = some (.int .i64 z) := fun r z hr hz => by
  have hE := hel r (by omega)
  rw [cellsSt, Nat.mul_one, List.getElem?_eq_getElem (by omega)] at hE
  obtain ⟨y, e1, e2, _⟩ := DataW.trod_int Tryd.underlying3 hE
  have e4 : (xs.map (·.1))[r]? = some (.lit (.int .i64 z)) := by rw [e3]; exact hz
  rw [List.getElem?_map, List.getElem?_eq_getElem (by omega : r < xs.length), e2] at e4
  simp only [Option.map_some, Option.some.injEq, DataW.lit.injEq, Lit.int.injEq, true_and] at e4
  rw [World.var?_cell hg hv r]
  have : cs.toList[r]? = some (.int .i64 z) := by
   have h0 : ((cs.toList.drop r).take 1)[0]? = some (.int .i64 y) := by rw [e1]; rfl
   rw [<- e4]
   simpa using h0
  simpa using this
 have k0 := key 0 100 (by decide) rfl
 exact ⟨⟨k0, key 1 124 (by decide) rfl, key 2 148 (by decide) rfl⟩, World.block_lt_of_cell? _ _ k0⟩
end Go.Proofs.YtekfbphnoibnjaaDoor
