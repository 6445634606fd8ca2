/-
  DERIVED. GIVEN WITH THE SEED: THE CARDS: each row of YtekfbphnoibnjaaDoorRows.lean that lists a variable, with what it lists TIED to the program's text (the seventh form; the later family's looks); each row that meets fmt, with fmt's text TOLD by the authors' own Lean function (tested against real Go, not proved from fmt's source: count such statements apart). THE CARD IS WHAT COUNTS. Prove the row's statement (the work); the ties are given (YtekfbphnoibnjaaDoorTie.lean); close each card by the builder's one call (the guide's Derived/Test/ToyasCard.lean, 'card_holds'). Laid BY PROGRAM, IN A SANDBOX (cutbox-door.mjs). By AI agents, Wed Nov 11 2026. No macro, syntax, notation, axiom, sorry.
-/
import Derived.Test.YtekfbphnoibnjaaDoorRows
import GoSem.ClaimSeven
namespace Go.Proofs.YtekfbphnoibnjaaDoor
namespace Rows

/-- THE TIED CARD OF 'flipbookkeep.Squeezed'. -/
def squeezedCard : Claim7 := { stood := { row := squeezedRow, standIns := [], harness := (true, "293c2f104a2ecd1390b2f8e3136447a4ad360bc2963b7dde39c6ebb05efcc4d4"), looks := true }, kinds := [], alts := [], laidByText := true, laidKinds := [.sentinel, .sentinel, .sentinel, .sentinel, .sentinel, .sentinel, .sentinel, .sentinel], laidTests := true, laidLooks := .later }
def SqueezedCardSaid : Prop := Claim7.holds Tryd.pinned (.plain (OpenSpec.ofChange squeezedSpec)) squeezedCard

/-- THE TIED CARD OF 'flipbookkeep.Still'. -/
def stillCard : Claim7 := { stood := { row := stillRow, standIns := [], harness := (true, "293c2f104a2ecd1390b2f8e3136447a4ad360bc2963b7dde39c6ebb05efcc4d4"), looks := true }, kinds := [], alts := [], laidByText := true, laidKinds := [.data], laidTests := true, laidLooks := .later }
def StillCardSaid : Prop := Claim7.holds Tryd.pinned (.plain (OpenSpec.ofChange stillSpec)) stillCard

/-- THE SECOND FORM's CARD OF 'flipbookkeep.Squeezed'. -/
def squeezedUptoCard : Claim7 := { stood := { row := squeezedUptoRow, standIns := [], harness := (true, "293c2f104a2ecd1390b2f8e3136447a4ad360bc2963b7dde39c6ebb05efcc4d4"), looks := true }, kinds := [], alts := [], laidByText := true, laidKinds := [.sentinel, .sentinel, .sentinel, .sentinel, .sentinel, .sentinel, .sentinel, .sentinel], laidTests := true, laidLooks := .later }
def SqueezedUptoCardSaid : Prop := Claim7.holds Tryd.pinned (.plain (OpenSpec.upto squeezedSpec)) squeezedUptoCard

/-- THE SECOND FORM's CARD OF 'flipbookkeep.Still'. -/
def stillUptoCard : Claim7 := { stood := { row := stillUptoRow, standIns := [], harness := (true, "293c2f104a2ecd1390b2f8e3136447a4ad360bc2963b7dde39c6ebb05efcc4d4"), looks := true }, kinds := [], alts := [], laidByText := true, laidKinds := [.data], laidTests := true, laidLooks := .later }
def StillUptoCardSaid : Prop := Claim7.holds Tryd.pinned (.plain (OpenSpec.upto stillSpec)) stillUptoCard
end Rows
end Go.Proofs.YtekfbphnoibnjaaDoor
