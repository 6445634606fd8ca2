/-
  DERIVED. GIVEN WITH THE SEED: THE CARDS: each row of YtekfbphnoibnjaaGreatDoorRows.lean that lists a variable, with what it lists TIED to the program's text (the seventh form; the later family's looks); each row that meets fmt, with fmt's text TOLD by the authors' own Lean function (tested against real Go, not proved from fmt's source: count such statements apart). THE CARD IS WHAT COUNTS. Prove the row's statement (the work); the ties are given (YtekfbphnoibnjaaGreatDoorTie.lean); close each card by the builder's one call (the guide's Derived/Test/ToyasCard.lean, 'card_holds'). Laid BY PROGRAM, IN A SANDBOX (cutbox-door.mjs). By AI agents, Wed Nov 11 2026. No macro, syntax, notation, axiom, sorry.
-/
import Derived.Test.YtekfbphnoibnjaaGreatDoorRows
import GoSem.ClaimSeven
namespace Go.Proofs.YtekfbphnoibnjaaGreatDoor
namespace Rows

/-- THE TIED CARD OF 'flipbooklaw.Colours'. -/
def coloursCard : Claim7 := { stood := { row := coloursRow, standIns := [], harness := (true, "3b60f107e3ea23c8b95631c2baa693b41ab28b6f47be7ae17d7a07f997dc6cd9"), looks := true }, kinds := [], alts := [], laidByText := true, laidKinds := [.handle, .sentinel, .sentinel, .sentinel, .sentinel, .sentinel, .sentinel, .sentinel, .sentinel, .data], laidTests := true, laidLooks := .later }
def ColoursCardSaid : Prop := Claim7.holds Tryz.pinned (.plain (OpenSpec.ofChange coloursSpec)) coloursCard

/-- THE TIED CARD OF 'flipbooklaw.Lines'. -/
def linesCard : Claim7 := { stood := { row := linesRow, standIns := [], harness := (true, "3b60f107e3ea23c8b95631c2baa693b41ab28b6f47be7ae17d7a07f997dc6cd9"), looks := true }, kinds := [], alts := [], laidByText := true, laidKinds := [.handle, .sentinel, .sentinel, .sentinel, .sentinel, .sentinel, .sentinel, .sentinel, .sentinel, .data], laidTests := true, laidLooks := .later }
def LinesCardSaid : Prop := Claim7.holds Tryz.pinned (.plain (OpenSpec.ofChange linesSpec)) linesCard

/-- THE TIED CARD OF 'flipbooklaw.Films'. -/
def filmsCard : Claim7 := { stood := { row := filmsRow, standIns := [], harness := (true, "3b60f107e3ea23c8b95631c2baa693b41ab28b6f47be7ae17d7a07f997dc6cd9"), looks := true }, kinds := [], alts := [], laidByText := true, laidKinds := [.handle, .sentinel, .sentinel, .sentinel, .sentinel, .sentinel, .sentinel, .sentinel, .sentinel, .data], laidTests := true, laidLooks := .later }
def FilmsCardSaid : Prop := Claim7.holds Tryz.pinned (.plain (OpenSpec.ofChange filmsSpec)) filmsCard

/-- THE TIED CARD OF 'flipbooklaw.Packs'. -/
def packsCard : Claim7 := { stood := { row := packsRow, standIns := [], harness := (true, "3b60f107e3ea23c8b95631c2baa693b41ab28b6f47be7ae17d7a07f997dc6cd9"), looks := true }, kinds := [], alts := [], laidByText := true, laidKinds := [.handle, .sentinel, .sentinel, .sentinel, .sentinel, .sentinel, .sentinel, .sentinel, .sentinel, .data], laidTests := true, laidLooks := .later }
def PacksCardSaid : Prop := Claim7.holds Tryz.pinned (.plain (OpenSpec.ofChange packsSpec)) packsCard

/-- THE TIED CARD OF 'flipbookkeep.Kept'. -/
def keptCard : Claim7 := { stood := { row := keptRow, standIns := [], harness := (true, "3b60f107e3ea23c8b95631c2baa693b41ab28b6f47be7ae17d7a07f997dc6cd9"), looks := true }, kinds := [], alts := [], laidByText := true, laidKinds := [.handle, .sentinel, .sentinel, .sentinel, .sentinel, .sentinel, .sentinel, .sentinel, .sentinel, .data], laidTests := true, laidLooks := .later }
def KeptCardSaid : Prop := Claim7.holds Tryz.pinned (.plain (OpenSpec.ofChange keptSpec)) keptCard

/-- THE TIED CARD OF 'flipbooklaw.All'. -/
def allCard : Claim7 := { stood := { row := allRow, standIns := [], harness := (true, "3b60f107e3ea23c8b95631c2baa693b41ab28b6f47be7ae17d7a07f997dc6cd9"), looks := true }, kinds := [], alts := [], laidByText := true, laidKinds := [.handle, .sentinel, .sentinel, .sentinel, .sentinel, .sentinel, .sentinel, .sentinel, .sentinel, .data], laidTests := true, laidLooks := .later }
def AllCardSaid : Prop := Claim7.holds Tryz.pinned (.plain (OpenSpec.ofChange allSpec)) allCard

/-- THE SECOND FORM's CARD OF 'flipbooklaw.Colours'. -/
def coloursUptoCard : Claim7 := { stood := { row := coloursUptoRow, standIns := [], harness := (true, "3b60f107e3ea23c8b95631c2baa693b41ab28b6f47be7ae17d7a07f997dc6cd9"), looks := true }, kinds := [], alts := [], laidByText := true, laidKinds := [.handle, .sentinel, .sentinel, .sentinel, .sentinel, .sentinel, .sentinel, .sentinel, .sentinel, .data], laidTests := true, laidLooks := .later }
def ColoursUptoCardSaid : Prop := Claim7.holds Tryz.pinned (.plain (OpenSpec.upto coloursSpec)) coloursUptoCard

/-- THE SECOND FORM's CARD OF 'flipbooklaw.Lines'. -/
def linesUptoCard : Claim7 := { stood := { row := linesUptoRow, standIns := [], harness := (true, "3b60f107e3ea23c8b95631c2baa693b41ab28b6f47be7ae17d7a07f997dc6cd9"), looks := true }, kinds := [], alts := [], laidByText := true, laidKinds := [.handle, .sentinel, .sentinel, .sentinel, .sentinel, .sentinel, .sentinel, .sentinel, .sentinel, .data], laidTests := true, laidLooks := .later }
def LinesUptoCardSaid : Prop := Claim7.holds Tryz.pinned (.plain (OpenSpec.upto linesSpec)) linesUptoCard

/-- THE SECOND FORM's CARD OF 'flipbooklaw.Films'. -/
def filmsUptoCard : Claim7 := { stood := { row := filmsUptoRow, standIns := [], harness := (true, "3b60f107e3ea23c8b95631c2baa693b41ab28b6f47be7ae17d7a07f997dc6cd9"), looks := true }, kinds := [], alts := [], laidByText := true, laidKinds := [.handle, .sentinel, .sentinel, .sentinel, .sentinel, .sentinel, .sentinel, .sentinel, .sentinel, .data], laidTests := true, laidLooks := .later }
def FilmsUptoCardSaid : Prop := Claim7.holds Tryz.pinned (.plain (OpenSpec.upto filmsSpec)) filmsUptoCard

/-- THE SECOND FORM's CARD OF 'flipbooklaw.Packs'. -/
def packsUptoCard : Claim7 := { stood := { row := packsUptoRow, standIns := [], harness := (true, "3b60f107e3ea23c8b95631c2baa693b41ab28b6f47be7ae17d7a07f997dc6cd9"), looks := true }, kinds := [], alts := [], laidByText := true, laidKinds := [.handle, .sentinel, .sentinel, .sentinel, .sentinel, .sentinel, .sentinel, .sentinel, .sentinel, .data], laidTests := true, laidLooks := .later }
def PacksUptoCardSaid : Prop := Claim7.holds Tryz.pinned (.plain (OpenSpec.upto packsSpec)) packsUptoCard

/-- THE SECOND FORM's CARD OF 'flipbookkeep.Kept'. -/
def keptUptoCard : Claim7 := { stood := { row := keptUptoRow, standIns := [], harness := (true, "3b60f107e3ea23c8b95631c2baa693b41ab28b6f47be7ae17d7a07f997dc6cd9"), looks := true }, kinds := [], alts := [], laidByText := true, laidKinds := [.handle, .sentinel, .sentinel, .sentinel, .sentinel, .sentinel, .sentinel, .sentinel, .sentinel, .data], laidTests := true, laidLooks := .later }
def KeptUptoCardSaid : Prop := Claim7.holds Tryz.pinned (.plain (OpenSpec.upto keptSpec)) keptUptoCard

/-- THE SECOND FORM's CARD OF 'flipbooklaw.All'. -/
def allUptoCard : Claim7 := { stood := { row := allUptoRow, standIns := [], harness := (true, "3b60f107e3ea23c8b95631c2baa693b41ab28b6f47be7ae17d7a07f997dc6cd9"), looks := true }, kinds := [], alts := [], laidByText := true, laidKinds := [.handle, .sentinel, .sentinel, .sentinel, .sentinel, .sentinel, .sentinel, .sentinel, .sentinel, .data], laidTests := true, laidLooks := .later }
def AllUptoCardSaid : Prop := Claim7.holds Tryz.pinned (.plain (OpenSpec.upto allSpec)) allUptoCard
end Rows
end Go.Proofs.YtekfbphnoibnjaaGreatDoor
