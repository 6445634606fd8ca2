/-
  DERIVED. GIVEN WITH THE SEED: THE CARDS: each row of YtnjndbckejghcaaGreatDoorRows.lean that lists a variable, with what it lists TIED to the program's text (the seventh form; the later family's looks); each row that meets fmt, with fmt's text TOLD by the authors' own Lean function (tested against real Go, not proved from fmt's source: count such statements apart). THE CARD IS WHAT COUNTS. Prove the row's statement (the work); the ties are given (YtnjndbckejghcaaGreatDoorTie.lean); close each card by the builder's one call (the guide's Derived/Test/ToyasCard.lean, 'card_holds'). Laid BY PROGRAM, IN A SANDBOX (cutbox-door.mjs). By AI agents, Wed Nov 11 2026. No macro, syntax, notation, axiom, sorry.
-/
import Derived.Test.YtnjndbckejghcaaGreatDoorRows
import GoSem.ClaimSeven
namespace Go.Proofs.YtnjndbckejghcaaGreatDoor
namespace Rows

/-- THE TIED CARD OF 'flipbooklaw.Colours'. -/
def coloursCard : Claim7 := { stood := { row := coloursRow, standIns := [], harness := (true, "593b183629aa94b5711d243c3fb95297d65be5c1137685cca7bc0622665d58dc"), looks := true }, kinds := [], alts := [], laidByText := true, laidKinds := [.handle, .sentinel, .sentinel, .sentinel, .sentinel, .sentinel, .sentinel, .sentinel, .sentinel], laidTests := true, laidLooks := .later }
def ColoursCardSaid : Prop := Claim7.holds Tryz.pinned (.plain (OpenSpec.ofChange coloursSpec)) coloursCard

/-- THE TIED CARD OF 'flipbooklaw.Lines'. -/
def linesCard : Claim7 := { stood := { row := linesRow, standIns := [], harness := (true, "593b183629aa94b5711d243c3fb95297d65be5c1137685cca7bc0622665d58dc"), looks := true }, kinds := [], alts := [], laidByText := true, laidKinds := [.handle, .sentinel, .sentinel, .sentinel, .sentinel, .sentinel, .sentinel, .sentinel, .sentinel], laidTests := true, laidLooks := .later }
def LinesCardSaid : Prop := Claim7.holds Tryz.pinned (.plain (OpenSpec.ofChange linesSpec)) linesCard

/-- THE TIED CARD OF 'flipbooklaw.Films'. -/
def filmsCard : Claim7 := { stood := { row := filmsRow, standIns := [], harness := (true, "593b183629aa94b5711d243c3fb95297d65be5c1137685cca7bc0622665d58dc"), looks := true }, kinds := [], alts := [], laidByText := true, laidKinds := [.handle, .sentinel, .sentinel, .sentinel, .sentinel, .sentinel, .sentinel, .sentinel, .sentinel], laidTests := true, laidLooks := .later }
def FilmsCardSaid : Prop := Claim7.holds Tryz.pinned (.plain (OpenSpec.ofChange filmsSpec)) filmsCard

/-- THE SECOND FORM's CARD OF 'flipbooklaw.Colours'. -/
def coloursUptoCard : Claim7 := { stood := { row := coloursUptoRow, standIns := [], harness := (true, "593b183629aa94b5711d243c3fb95297d65be5c1137685cca7bc0622665d58dc"), looks := true }, kinds := [], alts := [], laidByText := true, laidKinds := [.handle, .sentinel, .sentinel, .sentinel, .sentinel, .sentinel, .sentinel, .sentinel, .sentinel], laidTests := true, laidLooks := .later }
def ColoursUptoCardSaid : Prop := Claim7.holds Tryz.pinned (.plain (OpenSpec.upto coloursSpec)) coloursUptoCard

/-- THE SECOND FORM's CARD OF 'flipbooklaw.Lines'. -/
def linesUptoCard : Claim7 := { stood := { row := linesUptoRow, standIns := [], harness := (true, "593b183629aa94b5711d243c3fb95297d65be5c1137685cca7bc0622665d58dc"), looks := true }, kinds := [], alts := [], laidByText := true, laidKinds := [.handle, .sentinel, .sentinel, .sentinel, .sentinel, .sentinel, .sentinel, .sentinel, .sentinel], laidTests := true, laidLooks := .later }
def LinesUptoCardSaid : Prop := Claim7.holds Tryz.pinned (.plain (OpenSpec.upto linesSpec)) linesUptoCard

/-- THE SECOND FORM's CARD OF 'flipbooklaw.Films'. -/
def filmsUptoCard : Claim7 := { stood := { row := filmsUptoRow, standIns := [], harness := (true, "593b183629aa94b5711d243c3fb95297d65be5c1137685cca7bc0622665d58dc"), looks := true }, kinds := [], alts := [], laidByText := true, laidKinds := [.handle, .sentinel, .sentinel, .sentinel, .sentinel, .sentinel, .sentinel, .sentinel, .sentinel], laidTests := true, laidLooks := .later }
def FilmsUptoCardSaid : Prop := Claim7.holds Tryz.pinned (.plain (OpenSpec.upto filmsSpec)) filmsUptoCard
end Rows
end Go.Proofs.YtnjndbckejghcaaGreatDoor
