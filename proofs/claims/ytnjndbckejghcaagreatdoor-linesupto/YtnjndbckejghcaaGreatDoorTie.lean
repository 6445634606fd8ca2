/-
  DERIVED. GIVEN WITH THE SEED: THE PROGRAM's TIES (one call each: nine closed facts by the kernel) AND EACH ROW's TIE, after the 31st guide's Derived/Test/Toyas{Tie, Card}.lean. No idea stands in it: it is a product of the set-up. Laid BY PROGRAM, IN A SANDBOX (cutbox-door.mjs). By AI agents, Wed Nov 11 2026. No macro, syntax, notation, axiom, sorry.
-/
import Derived.Test.YtnjndbckejghcaaGreatDoorRows
import Derived.LaidByTextLater
import Derived.SevenTiedAt
import Derived.LaidSub
import Derived.LaidOnce
namespace Go.Proofs.YtnjndbckejghcaaGreatDoor
open Go
set_option maxRecDepth 100000
theorem seatTie1 : Tryz.prog.laidByTextLater [("errors.errorType", Rows.laid_errors_errorType), ("flipbook/line.ErrShort", Rows.laid_flipbook_line_ErrShort), ("flipbook/line.ErrCode", Rows.laid_flipbook_line_ErrCode), ("flipbook/line.ErrTrail", Rows.laid_flipbook_line_ErrTrail), ("flipbook/line.ErrNumber", Rows.laid_flipbook_line_ErrNumber), ("flipbook/film.ErrHead", Rows.laid_flipbook_film_ErrHead), ("flipbook/film.ErrColour", Rows.laid_flipbook_film_ErrColour), ("flipbook/film.ErrVector", Rows.laid_flipbook_film_ErrVector), ("flipbook/film.ErrFirst", Rows.laid_flipbook_film_ErrFirst)] [.handle, .sentinel, .sentinel, .sentinel, .sentinel, .sentinel, .sentinel, .sentinel, .sentinel] true :=
  Program.laidByTextLater_by_one 168 8 2 (by kernel_rfl) (by kernel_rfl) (by kernel_rfl) (by kernel_rfl) (by kernel_rfl) (by kernel_rfl) (fun _ _ => by kernel_rfl)
theorem noOwnUnsafe : Tryz.pinned.checked.prog.headLifts.contains "ownunsafe" = false := by kernel_rfl
theorem tie : Tryz.prog.laidByTextLater [("errors.errorType", Rows.laid_errors_errorType), ("flipbook/line.ErrShort", Rows.laid_flipbook_line_ErrShort), ("flipbook/line.ErrCode", Rows.laid_flipbook_line_ErrCode), ("flipbook/line.ErrTrail", Rows.laid_flipbook_line_ErrTrail), ("flipbook/line.ErrNumber", Rows.laid_flipbook_line_ErrNumber), ("flipbook/film.ErrHead", Rows.laid_flipbook_film_ErrHead), ("flipbook/film.ErrColour", Rows.laid_flipbook_film_ErrColour), ("flipbook/film.ErrVector", Rows.laid_flipbook_film_ErrVector), ("flipbook/film.ErrFirst", Rows.laid_flipbook_film_ErrFirst)] [.handle, .sentinel, .sentinel, .sentinel, .sentinel, .sentinel, .sentinel, .sentinel, .sentinel] true :=
  Program.laidByTextLater.sub seatTie1 ["errors.errorType", "flipbook/line.ErrShort", "flipbook/line.ErrCode", "flipbook/line.ErrTrail", "flipbook/line.ErrNumber", "flipbook/film.ErrHead", "flipbook/film.ErrColour", "flipbook/film.ErrVector", "flipbook/film.ErrFirst"] (by kernel_rfl) (by kernel_rfl)
theorem colours_row_tie : Rows.coloursRow.laidByTextAt .later Tryz.pinned [.handle, .sentinel, .sentinel, .sentinel, .sentinel, .sentinel, .sentinel, .sentinel, .sentinel] true :=
  OpenClaim.laidByTextAt_later rfl rfl tie noOwnUnsafe
theorem lines_row_tie : Rows.linesRow.laidByTextAt .later Tryz.pinned [.handle, .sentinel, .sentinel, .sentinel, .sentinel, .sentinel, .sentinel, .sentinel, .sentinel] true :=
  OpenClaim.laidByTextAt_later rfl rfl tie noOwnUnsafe
theorem films_row_tie : Rows.filmsRow.laidByTextAt .later Tryz.pinned [.handle, .sentinel, .sentinel, .sentinel, .sentinel, .sentinel, .sentinel, .sentinel, .sentinel] true :=
  OpenClaim.laidByTextAt_later rfl rfl tie noOwnUnsafe
theorem coloursUpto_row_tie : Rows.coloursUptoRow.laidByTextAt .later Tryz.pinned [.handle, .sentinel, .sentinel, .sentinel, .sentinel, .sentinel, .sentinel, .sentinel, .sentinel] true :=
  OpenClaim.laidByTextAt_later rfl rfl tie noOwnUnsafe
theorem linesUpto_row_tie : Rows.linesUptoRow.laidByTextAt .later Tryz.pinned [.handle, .sentinel, .sentinel, .sentinel, .sentinel, .sentinel, .sentinel, .sentinel, .sentinel] true :=
  OpenClaim.laidByTextAt_later rfl rfl tie noOwnUnsafe
theorem filmsUpto_row_tie : Rows.filmsUptoRow.laidByTextAt .later Tryz.pinned [.handle, .sentinel, .sentinel, .sentinel, .sentinel, .sentinel, .sentinel, .sentinel, .sentinel] true :=
  OpenClaim.laidByTextAt_later rfl rfl tie noOwnUnsafe
end Go.Proofs.YtnjndbckejghcaaGreatDoor
