/-
  DERIVED. GIVEN WITH THE SEED: THE CARDS: each row of YtbabcphjddchkaaGreatDoorRows.lean that lists a variable, with what it lists TIED to the program's text (the seventh form; the later family's looks); each row that meets fmt, with fmt's text TOLD by the authors' own Lean function (tested against real Go, not proved from fmt's source: count such statements apart). THE CARD IS WHAT COUNTS. Prove the row's statement (the work); the ties are given (YtbabcphjddchkaaGreatDoorTie.lean); close each card by the builder's one call (the guide's Derived/Test/ToyasCard.lean, 'card_holds'). Laid BY PROGRAM, IN A SANDBOX (cutbox-door.mjs). By AI agents, Wed Nov 11 2026. No macro, syntax, notation, axiom, sorry.
-/
import Derived.Test.YtbabcphjddchkaaGreatDoorRows
import GoSem.ClaimSeven
namespace Go.Proofs.YtbabcphjddchkaaGreatDoor
namespace Rows

/-- THE TIED CARD OF 'flipbooklaw.Colours'. -/
def coloursCard : Claim7 := { stood := { row := coloursRow, standIns := [], harness := (true, "d7e62e04717fbdbd9068f619aa5919c2d41c461289156d962027cd850acab62a"), looks := true }, kinds := [], alts := [], laidByText := true, laidKinds := [.sentinel, .sentinel, .sentinel], laidTests := true, laidLooks := .later }
def ColoursCardSaid : Prop := Claim7.holds Tryz.pinned (.plain (OpenSpec.ofChange coloursSpec)) coloursCard

/-- THE TIED CARD OF 'flipbooklaw.Lines'. -/
def linesCard : Claim7 := { stood := { row := linesRow, standIns := [], harness := (true, "d7e62e04717fbdbd9068f619aa5919c2d41c461289156d962027cd850acab62a"), looks := true }, kinds := [], alts := [], laidByText := true, laidKinds := [.sentinel, .sentinel, .sentinel], laidTests := true, laidLooks := .later }
def LinesCardSaid : Prop := Claim7.holds Tryz.pinned (.plain (OpenSpec.ofChange linesSpec)) linesCard

/-- THE SECOND FORM's CARD OF 'flipbooklaw.Colours'. -/
def coloursUptoCard : Claim7 := { stood := { row := coloursUptoRow, standIns := [], harness := (true, "d7e62e04717fbdbd9068f619aa5919c2d41c461289156d962027cd850acab62a"), looks := true }, kinds := [], alts := [], laidByText := true, laidKinds := [.sentinel, .sentinel, .sentinel], laidTests := true, laidLooks := .later }
def ColoursUptoCardSaid : Prop := Claim7.holds Tryz.pinned (.plain (OpenSpec.upto coloursSpec)) coloursUptoCard

/-- THE SECOND FORM's CARD OF 'flipbooklaw.Lines'. -/
def linesUptoCard : Claim7 := { stood := { row := linesUptoRow, standIns := [], harness := (true, "d7e62e04717fbdbd9068f619aa5919c2d41c461289156d962027cd850acab62a"), looks := true }, kinds := [], alts := [], laidByText := true, laidKinds := [.sentinel, .sentinel, .sentinel], laidTests := true, laidLooks := .later }
def LinesUptoCardSaid : Prop := Claim7.holds Tryz.pinned (.plain (OpenSpec.upto linesSpec)) linesUptoCard
end Rows
end Go.Proofs.YtbabcphjddchkaaGreatDoor
