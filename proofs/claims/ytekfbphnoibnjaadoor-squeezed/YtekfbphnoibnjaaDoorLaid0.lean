/-
  The package variables that the rows list.
-/
import Derived.Test.YtekfbphnoibnjaaDoorOwn
import Derived.Test.YtekfbphnoibnjaaDoorTie
import Derived.Lay
import Derived.SevenTiedAt
import Derived.Lib.SmallJoins
import Derived.LaidHandle
namespace Go.Proofs.YtekfbphnoibnjaaDoor
open Go

/-- The row's list. -/
def lineLaid : List (String × DataW Unit) := [("flipbook/line.ErrShort", Rows.laid_flipbook_line_ErrShort), ("flipbook/line.ErrCode", Rows.laid_flipbook_line_ErrCode), ("flipbook/line.ErrTrail", Rows.laid_flipbook_line_ErrTrail), ("flipbook/line.ErrNumber", Rows.laid_flipbook_line_ErrNumber), ("flipbook/film.ErrHead", Rows.laid_flipbook_film_ErrHead), ("flipbook/film.ErrColour", Rows.laid_flipbook_film_ErrColour), ("flipbook/film.ErrVector", Rows.laid_flipbook_film_ErrVector), ("flipbook/film.ErrFirst", Rows.laid_flipbook_film_ErrFirst)]

/-- A world that meets it: all listed variables laid. -/
noncomputable def startW (os : Os) : World := World.laidAll Tryd.prog os lineLaid
theorem startW_os (os : Os) : (startW os).os = os := World.laidAll_os _ _ _
theorem startW_laid (os : Os) (args : Array Value) : laidMetH Tryd.prog lineLaid ((startW os).forCall (fun _ _ => 0) ⟨#[], args, []⟩).memory := by
  rw [MakeChecks.laidMetH_plain _ _ _ (by kernel_rfl)]; exact laidMet_laidAll _ (by kernel_rfl) (by kernel_rfl)

end Go.Proofs.YtekfbphnoibnjaaDoor
