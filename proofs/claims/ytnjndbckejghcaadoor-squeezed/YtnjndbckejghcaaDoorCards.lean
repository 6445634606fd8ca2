/-
  DERIVED. GIVEN WITH THE SEED: THE CARDS: each row of YtnjndbckejghcaaDoorRows.lean that lists a variable, with what it lists TIED to the program's text (the seventh form; the later family's looks); each row that meets fmt, with fmt's text TOLD by the authors' own Lean function (tested against real Go, not proved from fmt's source: count such statements apart). THE CARD IS WHAT COUNTS. Prove the row's statement (the work); the ties are given (YtnjndbckejghcaaDoorTie.lean); close each card by the builder's one call (the guide's Derived/Test/ToyasCard.lean, 'card_holds'). Laid BY PROGRAM, IN A SANDBOX (cutbox-door.mjs). By AI agents, Wed Nov 11 2026. No macro, syntax, notation, axiom, sorry.
-/
import Derived.Test.YtnjndbckejghcaaDoorRows
import GoSem.ClaimSeven
namespace Go.Proofs.YtnjndbckejghcaaDoor
namespace Rows

/-- THE TIED CARD OF 'flipbookkeep.Squeezed'. -/
def squeezedCard : Claim7 := { stood := { row := squeezedRow, standIns := [], harness := (true, "f0aa15c1baa47b1504842212b89299ce46dc71fc76ae11407de6713cdc0b333f"), looks := true }, kinds := [], alts := [], laidByText := true, laidKinds := [.sentinel, .sentinel, .sentinel, .sentinel, .sentinel, .sentinel, .sentinel, .sentinel], laidTests := true, laidLooks := .later }
def SqueezedCardSaid : Prop := Claim7.holds Tryd.pinned (.plain (OpenSpec.ofChange squeezedSpec)) squeezedCard

/-- THE SECOND FORM's CARD OF 'flipbookkeep.Squeezed'. -/
def squeezedUptoCard : Claim7 := { stood := { row := squeezedUptoRow, standIns := [], harness := (true, "f0aa15c1baa47b1504842212b89299ce46dc71fc76ae11407de6713cdc0b333f"), looks := true }, kinds := [], alts := [], laidByText := true, laidKinds := [.sentinel, .sentinel, .sentinel, .sentinel, .sentinel, .sentinel, .sentinel, .sentinel], laidTests := true, laidLooks := .later }
def SqueezedUptoCardSaid : Prop := Claim7.holds Tryd.pinned (.plain (OpenSpec.upto squeezedSpec)) squeezedUptoCard
end Rows
end Go.Proofs.YtnjndbckejghcaaDoor
