/-
  The package variables that the rows list.
-/
import Derived.Test.YtbabcphjddchkaaGreatDoorOwn
import Derived.Test.YtbabcphjddchkaaGreatDoorTie
import Derived.Lay
import Derived.SevenTiedAt
import Derived.Lib.SmallJoins
namespace Go.Proofs.YtbabcphjddchkaaGreatDoor
open Go

/-- The row's list. -/
def lineLaid : List (String × DataW Unit) := [("flipbook/line.ErrShort", Rows.laid_flipbook_line_ErrShort), ("flipbook/line.ErrCode", Rows.laid_flipbook_line_ErrCode), ("flipbook/line.ErrTrail", Rows.laid_flipbook_line_ErrTrail)]

end Go.Proofs.YtbabcphjddchkaaGreatDoor
