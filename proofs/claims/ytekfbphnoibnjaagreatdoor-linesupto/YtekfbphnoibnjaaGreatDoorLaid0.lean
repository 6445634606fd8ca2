/-
  The package variables that the rows list.
-/
import Derived.Test.YtekfbphnoibnjaaGreatDoorOwn
import Derived.Test.YtekfbphnoibnjaaGreatDoorTie
import Derived.Lay
import Derived.SevenTiedAt
import Derived.Lib.SmallJoins
import Derived.LaidHandle
namespace Go.Proofs.YtekfbphnoibnjaaGreatDoor
open Go

/-- The row's list. -/
def lineLaid : List (String × DataW Unit) := [("errors.errorType", Rows.laid_errors_errorType), ("flipbook/line.ErrShort", Rows.laid_flipbook_line_ErrShort), ("flipbook/line.ErrCode", Rows.laid_flipbook_line_ErrCode), ("flipbook/line.ErrTrail", Rows.laid_flipbook_line_ErrTrail), ("flipbook/line.ErrNumber", Rows.laid_flipbook_line_ErrNumber), ("flipbook/film.ErrHead", Rows.laid_flipbook_film_ErrHead), ("flipbook/film.ErrColour", Rows.laid_flipbook_film_ErrColour), ("flipbook/film.ErrVector", Rows.laid_flipbook_film_ErrVector), ("flipbook/film.ErrFirst", Rows.laid_flipbook_film_ErrFirst), ("flipbook/film.softContexts", Rows.laid_flipbook_film_softContexts)]

/-- A world that meets it: all listed variables laid. -/
noncomputable def holdH (os : Os) : World :=
  let w0 := World.holding Tryz.prog os ⟨#[], #[], []⟩
  { w0 with heap := w0.heap.modify 8 fun
      | .cells _ t frozen => .cells #[.iface 220 (.agg #[.pointer (some ⟨10, 62, none⟩)])] t frozen
      | o => o }
def laid8 : List (String × DataW Unit) := lineLaid.filter fun x => x.2.handleName?.isNone
noncomputable def startW (os : Os) : World := (holdH os).layVars Tryz.prog laid8
theorem startW_os (os : Os) : (startW os).os = os := (World.layVars_os _ _ _).trans rfl
theorem startW_met (os : Os) : laidMet Tryz.prog laid8 (startW os) :=
  laidMet_layVars (w0 := holdH os) (laid8.map (·.1)) [] (by kernel_rfl) (by kernel_rfl) (by kernel_rfl) (by exact LaidIn.none)
theorem startW_laid (os : Os) (args : Array Value) : laidMetH Tryz.prog lineLaid ((startW os).forCall (fun _ _ => 0) ⟨#[], args, []⟩).memory :=
  laidMetH_of_parts ((startW_met os).of_heap (by simp [World.memory, World.forCall, Input.heap])) (by kernel_rfl)

end Go.Proofs.YtekfbphnoibnjaaGreatDoor
