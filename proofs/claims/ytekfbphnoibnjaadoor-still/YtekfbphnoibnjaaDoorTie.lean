/-
  DERIVED. GIVEN WITH THE SEED: THE PROGRAM's TIES (one call each: nine closed facts by the kernel) AND EACH ROW's TIE, after the 31st guide's Derived/Test/Toyas{Tie, Card}.lean. No idea stands in it: it is a product of the set-up. Laid BY PROGRAM, IN A SANDBOX (cutbox-door.mjs). By AI agents, Wed Nov 11 2026. No macro, syntax, notation, axiom, sorry.
-/
import Derived.Test.YtekfbphnoibnjaaDoorRows
import Derived.LaidByTextLater
import Derived.SevenTiedAt
import Derived.LaidSub
import Derived.LaidOnce
namespace Go.Proofs.YtekfbphnoibnjaaDoor
open Go
set_option maxRecDepth 100000
theorem seatTie1 : Tryd.prog.laidByTextLater [("flipbook/line.ErrShort", Rows.laid_flipbook_line_ErrShort), ("flipbook/line.ErrCode", Rows.laid_flipbook_line_ErrCode), ("flipbook/line.ErrTrail", Rows.laid_flipbook_line_ErrTrail), ("flipbook/line.ErrNumber", Rows.laid_flipbook_line_ErrNumber), ("flipbook/film.ErrHead", Rows.laid_flipbook_film_ErrHead), ("flipbook/film.ErrColour", Rows.laid_flipbook_film_ErrColour), ("flipbook/film.ErrVector", Rows.laid_flipbook_film_ErrVector), ("flipbook/film.ErrFirst", Rows.laid_flipbook_film_ErrFirst), ("flipbook/film.softContexts", Rows.laid_flipbook_film_softContexts)] [.sentinel, .sentinel, .sentinel, .sentinel, .sentinel, .sentinel, .sentinel, .sentinel, .data] true :=
  Program.laidByTextLater_by_one 166 8 4 (by kernel_rfl) (by kernel_rfl) (by kernel_rfl) (by kernel_rfl) (by kernel_rfl) (by kernel_rfl) (fun _ _ => by kernel_rfl)
theorem noOwnUnsafe : Tryd.pinned.checked.prog.headLifts.contains "ownunsafe" = false := by kernel_rfl
theorem tie : Tryd.prog.laidByTextLater [("flipbook/line.ErrShort", Rows.laid_flipbook_line_ErrShort), ("flipbook/line.ErrCode", Rows.laid_flipbook_line_ErrCode), ("flipbook/line.ErrTrail", Rows.laid_flipbook_line_ErrTrail), ("flipbook/line.ErrNumber", Rows.laid_flipbook_line_ErrNumber), ("flipbook/film.ErrHead", Rows.laid_flipbook_film_ErrHead), ("flipbook/film.ErrColour", Rows.laid_flipbook_film_ErrColour), ("flipbook/film.ErrVector", Rows.laid_flipbook_film_ErrVector), ("flipbook/film.ErrFirst", Rows.laid_flipbook_film_ErrFirst)] [.sentinel, .sentinel, .sentinel, .sentinel, .sentinel, .sentinel, .sentinel, .sentinel] true :=
  Program.laidByTextLater.sub seatTie1 ["flipbook/line.ErrShort", "flipbook/line.ErrCode", "flipbook/line.ErrTrail", "flipbook/line.ErrNumber", "flipbook/film.ErrHead", "flipbook/film.ErrColour", "flipbook/film.ErrVector", "flipbook/film.ErrFirst"] (by kernel_rfl) (by kernel_rfl)
theorem squeezed_row_tie : Rows.squeezedRow.laidByTextAt .later Tryd.pinned [.sentinel, .sentinel, .sentinel, .sentinel, .sentinel, .sentinel, .sentinel, .sentinel] true :=
  OpenClaim.laidByTextAt_later rfl rfl tie noOwnUnsafe
theorem tie2 : Tryd.prog.laidByTextLater [("flipbook/film.softContexts", Rows.laid_flipbook_film_softContexts)] [.data] true :=
  Program.laidByTextLater.sub seatTie1 ["flipbook/film.softContexts"] (by kernel_rfl) (by kernel_rfl)
theorem still_row_tie : Rows.stillRow.laidByTextAt .later Tryd.pinned [.data] true :=
  OpenClaim.laidByTextAt_later rfl rfl tie2 noOwnUnsafe
theorem squeezedUpto_row_tie : Rows.squeezedUptoRow.laidByTextAt .later Tryd.pinned [.sentinel, .sentinel, .sentinel, .sentinel, .sentinel, .sentinel, .sentinel, .sentinel] true :=
  OpenClaim.laidByTextAt_later rfl rfl tie noOwnUnsafe
theorem stillUpto_row_tie : Rows.stillUptoRow.laidByTextAt .later Tryd.pinned [.data] true :=
  OpenClaim.laidByTextAt_later rfl rfl tie2 noOwnUnsafe
end Go.Proofs.YtekfbphnoibnjaaDoor
