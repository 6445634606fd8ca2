/-
  NARROWER THAN 'FOR EVERY INPUT', by the rows' own cells (each row's printed sentence says how): Colours: laid · Lines: laid · Films: laid · Packs: laid · Kept: laid · All: laid.
  DERIVED. THE GIVEN ROWS OF THIS SEAT. 6 by the template 'for every input the law returns true; each argument reads behind the call as it read before'; 0 by the template 'total and deterministic' (their statements: YtekfbphnoibnjaaGreatDoorTotals.lean).
  GIVEN WITH THE SEED: the statements are not yours to turn. If you find one false, say at which input.
  Laid BY PROGRAM, IN A SANDBOX (cutbox-rows.mjs): the forced cells as the released guide's own fill.sh prints them over the translation f2f9a0c026f8972c… (all of the seat's roots in one cut). By AI agents, Wed Nov 11 2026. No macro, syntax, notation, axiom, sorry.
-/
import Derived.Test.YtekfbphnoibnjaaGreatDoorChecked
import GoSem.Claim
import GoSem.ClaimJoined
import GoSem.ClaimMapViews
import Derived.JoinedTies
import Derived.KernelRfl
namespace Go.Proofs.YtekfbphnoibnjaaGreatDoor
/- THE CELL 'sum', in the pinned program and in every row, IS THE sha256 OF THE DUMP (.gsa) THAT YtekfbphnoibnjaaGreatDoorProg.lean LOADS. Nothing in Lean hashes anything: it is a label: what it is worth is what the hold of that sum in a sandbox is worth. -/
noncomputable def Tryz.pinned : Pinned := { name := "ytekfbphnoibnjaagreatdoor", sum := "f2f9a0c026f8972c94d0f3f14f26aced6c25624abbda06393431aac6fc9a6c5c", checked := Tryz.checked }
namespace Rows
def none {H : Type} : Left H := { results := [], args := [] }

/- WHAT THE LISTED PACKAGE-LEVEL VARIABLES READ AS WHEN THE CALL BEGINS. Each datum BY PROGRAM (the guide's laid-datum.mjs) off the statement by which the dump's own 'gosem.cut.vars' lays the variable. In a bare row this is a premise. The card (YtekfbphnoibnjaaGreatDoorCards.lean) ties it to the program's text. -/
def laid_errors_errorType {H : Type} : DataW H := .iface "internal/reflectlite.rtype" (.agg [.ptr (.lit (.string [101, 114, 114, 111, 114]))])
def laid_flipbook_line_ErrShort {H : Type} : DataW H := .iface "*errors.errorString" (.ptr (.agg [.lit (.string [116, 104, 101, 32, 108, 105, 110, 101, 32, 101, 110, 100, 115, 32, 116, 111, 111, 32, 101, 97, 114, 108, 121])]))
def laid_flipbook_line_ErrCode {H : Type} : DataW H := .iface "*errors.errorString" (.ptr (.agg [.lit (.string [110, 111, 32, 108, 105, 110, 101, 32, 98, 101, 103, 105, 110, 115, 32, 119, 105, 116, 104, 32, 116, 104, 101, 115, 101, 32, 98, 121, 116, 101, 115])]))
def laid_flipbook_line_ErrTrail {H : Type} : DataW H := .iface "*errors.errorString" (.ptr (.agg [.lit (.string [116, 104, 101, 32, 108, 105, 110, 101, 32, 103, 111, 101, 115, 32, 111, 110, 32, 98, 101, 104, 105, 110, 100, 32, 105, 116, 115, 32, 108, 97, 115, 116, 32, 98, 105, 116])]))
def laid_flipbook_line_ErrNumber {H : Type} : DataW H := .iface "*errors.errorString" (.ptr (.agg [.lit (.string [97, 32, 110, 117, 109, 98, 101, 114, 32, 105, 115, 32, 116, 111, 111, 32, 103, 114, 101, 97, 116])]))
def laid_flipbook_film_ErrHead {H : Type} : DataW H := .iface "*errors.errorString" (.ptr (.agg [.lit (.string [110, 111, 32, 102, 105, 108, 109, 32, 98, 101, 103, 105, 110, 115, 32, 119, 105, 116, 104, 32, 116, 104, 101, 115, 101, 32, 98, 121, 116, 101, 115])]))
def laid_flipbook_film_ErrColour {H : Type} : DataW H := .iface "*errors.errorString" (.ptr (.agg [.lit (.string [116, 104, 101, 114, 101, 32, 105, 115, 32, 110, 111, 32, 115, 117, 99, 104, 32, 99, 111, 108, 111, 117, 114])]))
def laid_flipbook_film_ErrVector {H : Type} : DataW H := .iface "*errors.errorString" (.ptr (.agg [.lit (.string [97, 32, 98, 108, 111, 99, 107, 32, 105, 115, 32, 109, 97, 100, 101, 32, 111, 102, 32, 112, 105, 120, 101, 108, 115, 32, 116, 104, 97, 116, 32, 97, 114, 101, 32, 110, 111, 116, 32, 116, 104, 101, 114, 101])]))
def laid_flipbook_film_ErrFirst {H : Type} : DataW H := .iface "*errors.errorString" (.ptr (.agg [.lit (.string [110, 111, 32, 102, 114, 97, 109, 101, 32, 105, 115, 32, 98, 101, 102, 111, 114, 101, 32, 116, 104, 101, 32, 102, 105, 114, 115, 116, 32, 111, 110, 101])]))
def laid_flipbook_film_softContexts {H : Type} : DataW H := .agg [.lit (.int .i64 100), .lit (.int .i64 124), .lit (.int .i64 148)]

/-- 'flipbooklaw.Colours': WHATEVER THE INPUT: true; the input reads as it did. -/
def coloursSpec : ChangeSpec := { name := "colours", fn := fun _ => fun
  | [d] => { results := [.lit (.bool true)], args := [d] }
  | _ => none }
def coloursRow : OpenClaim := { program := "ytekfbphnoibnjaagreatdoor", sum := "f2f9a0c026f8972c94d0f3f14f26aced6c25624abbda06393431aac6fc9a6c5c", func := "flipbook/flipbooklaw.Colours", spec := "colours", inPlace := ["internal/reflectlite.TypeOf", "internal/reflectlite.ValueOf", "(internal/reflectlite.Value).Type", "(internal/reflectlite.Value).IsNil", "(internal/reflectlite.Value).Elem", "(internal/reflectlite.Value).Set"], unfollowed := true, recurses := true, named := ["flipbook/line.ErrCode", "flipbook/line.ErrShort", "flipbook/line.ErrTrail", "flipbook/film.ErrHead", "flipbook/film.ErrFirst", "flipbook/line.ErrNumber", "flipbook/film.ErrVector", "flipbook/film.ErrColour", "flipbook/film.softContexts", "errors.errorType"], plainKeys := false, apart := false, laid := [("errors.errorType", laid_errors_errorType), ("flipbook/line.ErrShort", laid_flipbook_line_ErrShort), ("flipbook/line.ErrCode", laid_flipbook_line_ErrCode), ("flipbook/line.ErrTrail", laid_flipbook_line_ErrTrail), ("flipbook/line.ErrNumber", laid_flipbook_line_ErrNumber), ("flipbook/film.ErrHead", laid_flipbook_film_ErrHead), ("flipbook/film.ErrColour", laid_flipbook_film_ErrColour), ("flipbook/film.ErrVector", laid_flipbook_film_ErrVector), ("flipbook/film.ErrFirst", laid_flipbook_film_ErrFirst), ("flipbook/film.softContexts", laid_flipbook_film_softContexts)] }
def ColoursSaid : Prop := coloursRow.holds Tryz.pinned (OpenSpec.ofChange coloursSpec)

/-- ITS FALSE NEIGHBOUR: 'it returns false'. Refute it at one input. -/
def coloursWrong : ChangeSpec := { name := "colours", fn := fun _ => fun
  | [d] => { results := [.lit (.bool false)], args := [d] }
  | _ => none }
def ColoursWrongFalsely : Prop := coloursRow.holds Tryz.pinned (OpenSpec.ofChange coloursWrong)

/-- 'flipbooklaw.Lines': WHATEVER THE INPUT: true; the input reads as it did. -/
def linesSpec : ChangeSpec := { name := "lines", fn := fun _ => fun
  | [d] => { results := [.lit (.bool true)], args := [d] }
  | _ => none }
def linesRow : OpenClaim := { program := "ytekfbphnoibnjaagreatdoor", sum := "f2f9a0c026f8972c94d0f3f14f26aced6c25624abbda06393431aac6fc9a6c5c", func := "flipbook/flipbooklaw.Lines", spec := "lines", inPlace := ["internal/reflectlite.TypeOf", "internal/reflectlite.ValueOf", "(internal/reflectlite.Value).Type", "(internal/reflectlite.Value).IsNil", "(internal/reflectlite.Value).Elem", "(internal/reflectlite.Value).Set"], unfollowed := true, recurses := true, named := ["flipbook/line.ErrCode", "flipbook/line.ErrShort", "flipbook/line.ErrTrail", "flipbook/film.ErrHead", "flipbook/film.ErrFirst", "flipbook/line.ErrNumber", "flipbook/film.ErrVector", "flipbook/film.ErrColour", "flipbook/film.softContexts", "errors.errorType"], plainKeys := false, apart := false, laid := [("errors.errorType", laid_errors_errorType), ("flipbook/line.ErrShort", laid_flipbook_line_ErrShort), ("flipbook/line.ErrCode", laid_flipbook_line_ErrCode), ("flipbook/line.ErrTrail", laid_flipbook_line_ErrTrail), ("flipbook/line.ErrNumber", laid_flipbook_line_ErrNumber), ("flipbook/film.ErrHead", laid_flipbook_film_ErrHead), ("flipbook/film.ErrColour", laid_flipbook_film_ErrColour), ("flipbook/film.ErrVector", laid_flipbook_film_ErrVector), ("flipbook/film.ErrFirst", laid_flipbook_film_ErrFirst), ("flipbook/film.softContexts", laid_flipbook_film_softContexts)] }
def LinesSaid : Prop := linesRow.holds Tryz.pinned (OpenSpec.ofChange linesSpec)

/-- ITS FALSE NEIGHBOUR: 'it returns false'. Refute it at one input. -/
def linesWrong : ChangeSpec := { name := "lines", fn := fun _ => fun
  | [d] => { results := [.lit (.bool false)], args := [d] }
  | _ => none }
def LinesWrongFalsely : Prop := linesRow.holds Tryz.pinned (OpenSpec.ofChange linesWrong)

/-- 'flipbooklaw.Films': WHATEVER THE INPUT: true; the input reads as it did. -/
def filmsSpec : ChangeSpec := { name := "films", fn := fun _ => fun
  | [d] => { results := [.lit (.bool true)], args := [d] }
  | _ => none }
def filmsRow : OpenClaim := { program := "ytekfbphnoibnjaagreatdoor", sum := "f2f9a0c026f8972c94d0f3f14f26aced6c25624abbda06393431aac6fc9a6c5c", func := "flipbook/flipbooklaw.Films", spec := "films", inPlace := ["internal/reflectlite.TypeOf", "internal/reflectlite.ValueOf", "(internal/reflectlite.Value).Type", "(internal/reflectlite.Value).IsNil", "(internal/reflectlite.Value).Elem", "(internal/reflectlite.Value).Set"], unfollowed := true, recurses := true, named := ["flipbook/line.ErrCode", "flipbook/line.ErrShort", "flipbook/line.ErrTrail", "flipbook/film.ErrHead", "flipbook/film.ErrFirst", "flipbook/line.ErrNumber", "flipbook/film.ErrVector", "flipbook/film.ErrColour", "flipbook/film.softContexts", "errors.errorType"], plainKeys := false, apart := false, laid := [("errors.errorType", laid_errors_errorType), ("flipbook/line.ErrShort", laid_flipbook_line_ErrShort), ("flipbook/line.ErrCode", laid_flipbook_line_ErrCode), ("flipbook/line.ErrTrail", laid_flipbook_line_ErrTrail), ("flipbook/line.ErrNumber", laid_flipbook_line_ErrNumber), ("flipbook/film.ErrHead", laid_flipbook_film_ErrHead), ("flipbook/film.ErrColour", laid_flipbook_film_ErrColour), ("flipbook/film.ErrVector", laid_flipbook_film_ErrVector), ("flipbook/film.ErrFirst", laid_flipbook_film_ErrFirst), ("flipbook/film.softContexts", laid_flipbook_film_softContexts)] }
def FilmsSaid : Prop := filmsRow.holds Tryz.pinned (OpenSpec.ofChange filmsSpec)

/-- ITS FALSE NEIGHBOUR: 'it returns false'. Refute it at one input. -/
def filmsWrong : ChangeSpec := { name := "films", fn := fun _ => fun
  | [d] => { results := [.lit (.bool false)], args := [d] }
  | _ => none }
def FilmsWrongFalsely : Prop := filmsRow.holds Tryz.pinned (OpenSpec.ofChange filmsWrong)

/-- 'flipbooklaw.Packs': WHATEVER THE INPUT: true; the input reads as it did. -/
def packsSpec : ChangeSpec := { name := "packs", fn := fun _ => fun
  | [d] => { results := [.lit (.bool true)], args := [d] }
  | _ => none }
def packsRow : OpenClaim := { program := "ytekfbphnoibnjaagreatdoor", sum := "f2f9a0c026f8972c94d0f3f14f26aced6c25624abbda06393431aac6fc9a6c5c", func := "flipbook/flipbooklaw.Packs", spec := "packs", inPlace := ["internal/reflectlite.TypeOf", "internal/reflectlite.ValueOf", "(internal/reflectlite.Value).Type", "(internal/reflectlite.Value).IsNil", "(internal/reflectlite.Value).Elem", "(internal/reflectlite.Value).Set"], unfollowed := true, recurses := true, named := ["flipbook/line.ErrCode", "flipbook/line.ErrShort", "flipbook/line.ErrTrail", "flipbook/film.ErrHead", "flipbook/film.ErrFirst", "flipbook/line.ErrNumber", "flipbook/film.ErrVector", "flipbook/film.ErrColour", "flipbook/film.softContexts", "errors.errorType"], plainKeys := false, apart := false, laid := [("errors.errorType", laid_errors_errorType), ("flipbook/line.ErrShort", laid_flipbook_line_ErrShort), ("flipbook/line.ErrCode", laid_flipbook_line_ErrCode), ("flipbook/line.ErrTrail", laid_flipbook_line_ErrTrail), ("flipbook/line.ErrNumber", laid_flipbook_line_ErrNumber), ("flipbook/film.ErrHead", laid_flipbook_film_ErrHead), ("flipbook/film.ErrColour", laid_flipbook_film_ErrColour), ("flipbook/film.ErrVector", laid_flipbook_film_ErrVector), ("flipbook/film.ErrFirst", laid_flipbook_film_ErrFirst), ("flipbook/film.softContexts", laid_flipbook_film_softContexts)] }
def PacksSaid : Prop := packsRow.holds Tryz.pinned (OpenSpec.ofChange packsSpec)

/-- ITS FALSE NEIGHBOUR: 'it returns false'. Refute it at one input. -/
def packsWrong : ChangeSpec := { name := "packs", fn := fun _ => fun
  | [d] => { results := [.lit (.bool false)], args := [d] }
  | _ => none }
def PacksWrongFalsely : Prop := packsRow.holds Tryz.pinned (OpenSpec.ofChange packsWrong)

/-- 'flipbookkeep.Kept': WHATEVER THE INPUT: true; the input reads as it did. -/
def keptSpec : ChangeSpec := { name := "kept", fn := fun _ => fun
  | [d1, d2, d3, d4] => { results := [.lit (.bool true)], args := [d1, d2, d3, d4] }
  | _ => none }
def keptRow : OpenClaim := { program := "ytekfbphnoibnjaagreatdoor", sum := "f2f9a0c026f8972c94d0f3f14f26aced6c25624abbda06393431aac6fc9a6c5c", func := "flipbook/flipbookkeep.Kept", spec := "kept", inPlace := ["internal/reflectlite.ValueOf", "(internal/reflectlite.Value).Type", "(internal/reflectlite.Value).IsNil", "internal/reflectlite.TypeOf", "(internal/reflectlite.Value).Elem", "(internal/reflectlite.Value).Set"], unfollowed := true, recurses := true, named := ["flipbook/film.softContexts", "flipbook/film.ErrHead", "flipbook/line.ErrCode", "flipbook/line.ErrShort", "flipbook/film.ErrColour", "flipbook/line.ErrNumber", "flipbook/film.ErrVector", "flipbook/film.ErrFirst", "flipbook/line.ErrTrail", "errors.errorType"], plainKeys := false, apart := false, laid := [("errors.errorType", laid_errors_errorType), ("flipbook/line.ErrShort", laid_flipbook_line_ErrShort), ("flipbook/line.ErrCode", laid_flipbook_line_ErrCode), ("flipbook/line.ErrTrail", laid_flipbook_line_ErrTrail), ("flipbook/line.ErrNumber", laid_flipbook_line_ErrNumber), ("flipbook/film.ErrHead", laid_flipbook_film_ErrHead), ("flipbook/film.ErrColour", laid_flipbook_film_ErrColour), ("flipbook/film.ErrVector", laid_flipbook_film_ErrVector), ("flipbook/film.ErrFirst", laid_flipbook_film_ErrFirst), ("flipbook/film.softContexts", laid_flipbook_film_softContexts)] }
def KeptSaid : Prop := keptRow.holds Tryz.pinned (OpenSpec.ofChange keptSpec)

/-- ITS FALSE NEIGHBOUR: 'it returns false'. Refute it at one input. -/
def keptWrong : ChangeSpec := { name := "kept", fn := fun _ => fun
  | [d1, d2, d3, d4] => { results := [.lit (.bool false)], args := [d1, d2, d3, d4] }
  | _ => none }
def KeptWrongFalsely : Prop := keptRow.holds Tryz.pinned (OpenSpec.ofChange keptWrong)

/-- 'flipbooklaw.All': WHATEVER THE INPUT: true; the input reads as it did. -/
def allSpec : ChangeSpec := { name := "all", fn := fun _ => fun
  | [d] => { results := [.lit (.bool true)], args := [d] }
  | _ => none }
def allRow : OpenClaim := { program := "ytekfbphnoibnjaagreatdoor", sum := "f2f9a0c026f8972c94d0f3f14f26aced6c25624abbda06393431aac6fc9a6c5c", func := "flipbook/flipbooklaw.All", spec := "all", inPlace := ["internal/reflectlite.TypeOf", "internal/reflectlite.ValueOf", "(internal/reflectlite.Value).Type", "(internal/reflectlite.Value).IsNil", "(internal/reflectlite.Value).Elem", "(internal/reflectlite.Value).Set"], unfollowed := true, recurses := true, named := ["flipbook/line.ErrCode", "flipbook/line.ErrShort", "flipbook/line.ErrTrail", "flipbook/film.ErrHead", "flipbook/film.ErrFirst", "flipbook/line.ErrNumber", "flipbook/film.ErrVector", "flipbook/film.ErrColour", "flipbook/film.softContexts", "errors.errorType"], plainKeys := false, apart := false, laid := [("errors.errorType", laid_errors_errorType), ("flipbook/line.ErrShort", laid_flipbook_line_ErrShort), ("flipbook/line.ErrCode", laid_flipbook_line_ErrCode), ("flipbook/line.ErrTrail", laid_flipbook_line_ErrTrail), ("flipbook/line.ErrNumber", laid_flipbook_line_ErrNumber), ("flipbook/film.ErrHead", laid_flipbook_film_ErrHead), ("flipbook/film.ErrColour", laid_flipbook_film_ErrColour), ("flipbook/film.ErrVector", laid_flipbook_film_ErrVector), ("flipbook/film.ErrFirst", laid_flipbook_film_ErrFirst), ("flipbook/film.softContexts", laid_flipbook_film_softContexts)] }
def AllSaid : Prop := allRow.holds Tryz.pinned (OpenSpec.ofChange allSpec)

/-- ITS FALSE NEIGHBOUR: 'it returns false'. Refute it at one input. -/
def allWrong : ChangeSpec := { name := "all", fn := fun _ => fun
  | [d] => { results := [.lit (.bool false)], args := [d] }
  | _ => none }
def AllWrongFalsely : Prop := allRow.holds Tryz.pinned (OpenSpec.ofChange allWrong)

/- THE SECOND FORM. 'bulk': how many values and letters a reading holds, each counted each time it is reached (what is shared counts as often as it is met; a slice's spare places count too). A statement '..UptoSaid' is the law's where the arguments, and the package variables that the reading takes, are together of bulk at most 1048576: NARROWER than '..Said'. Prove '..Said' where nothing that the law and all that it calls make is longer than what came in: it says more and counts as full. Else prove '..UptoSaid'. A law counts once. -/
mutual
def uptoBulk {H : Type} : DataW H → Nat
  | .lit (.string bytes) => bytes.length + 1
  | .lit _ => 1
  | .nil => 1
  | .ptr d => uptoBulk d + 1
  | .slice elems spare => uptoBulkAll elems + uptoBulkAll spare + 1
  | .agg parts => uptoBulkAll parts + 1
  | .iface _ d => uptoBulk d + 1
  | .map entries => uptoBulkEntries entries + 1
  | .held _ => 1
def uptoBulkAll {H : Type} : List (DataW H) → Nat
  | [] => 0
  | d :: r => uptoBulk d + uptoBulkAll r
def uptoBulkEntries {H : Type} : List (Lit × DataW H) → Nat
  | [] => 0
  | x :: r => uptoBulkEntry x + uptoBulkEntries r
def uptoBulkEntry {H : Type} : Lit × DataW H → Nat
  | (.string bytes, d) => bytes.length + uptoBulk d + 1
  | (_, d) => uptoBulk d + 1
 end
def uptoSmall : (H : Type) → List (DataW H) → Bool := fun _ ds => decide (uptoBulkAll ds ≤ 1048576)
def OpenSpec.upto (s : _root_.Go.ChangeSpec) : _root_.Go.OpenSpec := { _root_.Go.OpenSpec.ofChange s with cond := some uptoSmall }

/-- 'flipbooklaw.Colours', WHERE WHAT IT READS IS OF BULK AT MOST 1048576: true; the input reads as it did. -/
def coloursUptoRow : OpenClaim := { program := "ytekfbphnoibnjaagreatdoor", sum := "f2f9a0c026f8972c94d0f3f14f26aced6c25624abbda06393431aac6fc9a6c5c", func := "flipbook/flipbooklaw.Colours", spec := "colours", inPlace := ["internal/reflectlite.TypeOf", "internal/reflectlite.ValueOf", "(internal/reflectlite.Value).Type", "(internal/reflectlite.Value).IsNil", "(internal/reflectlite.Value).Elem", "(internal/reflectlite.Value).Set"], unfollowed := true, recurses := true, named := ["flipbook/line.ErrCode", "flipbook/line.ErrShort", "flipbook/line.ErrTrail", "flipbook/film.ErrHead", "flipbook/film.ErrFirst", "flipbook/line.ErrNumber", "flipbook/film.ErrVector", "flipbook/film.ErrColour", "flipbook/film.softContexts", "errors.errorType"], plainKeys := false, apart := false, laid := [("errors.errorType", laid_errors_errorType), ("flipbook/line.ErrShort", laid_flipbook_line_ErrShort), ("flipbook/line.ErrCode", laid_flipbook_line_ErrCode), ("flipbook/line.ErrTrail", laid_flipbook_line_ErrTrail), ("flipbook/line.ErrNumber", laid_flipbook_line_ErrNumber), ("flipbook/film.ErrHead", laid_flipbook_film_ErrHead), ("flipbook/film.ErrColour", laid_flipbook_film_ErrColour), ("flipbook/film.ErrVector", laid_flipbook_film_ErrVector), ("flipbook/film.ErrFirst", laid_flipbook_film_ErrFirst), ("flipbook/film.softContexts", laid_flipbook_film_softContexts)], narrowed := true }
def ColoursUptoSaid : Prop := coloursUptoRow.holds Tryz.pinned (OpenSpec.upto coloursSpec)

/-- 'flipbooklaw.Lines', WHERE WHAT IT READS IS OF BULK AT MOST 1048576: true; the input reads as it did. -/
def linesUptoRow : OpenClaim := { program := "ytekfbphnoibnjaagreatdoor", sum := "f2f9a0c026f8972c94d0f3f14f26aced6c25624abbda06393431aac6fc9a6c5c", func := "flipbook/flipbooklaw.Lines", spec := "lines", inPlace := ["internal/reflectlite.TypeOf", "internal/reflectlite.ValueOf", "(internal/reflectlite.Value).Type", "(internal/reflectlite.Value).IsNil", "(internal/reflectlite.Value).Elem", "(internal/reflectlite.Value).Set"], unfollowed := true, recurses := true, named := ["flipbook/line.ErrCode", "flipbook/line.ErrShort", "flipbook/line.ErrTrail", "flipbook/film.ErrHead", "flipbook/film.ErrFirst", "flipbook/line.ErrNumber", "flipbook/film.ErrVector", "flipbook/film.ErrColour", "flipbook/film.softContexts", "errors.errorType"], plainKeys := false, apart := false, laid := [("errors.errorType", laid_errors_errorType), ("flipbook/line.ErrShort", laid_flipbook_line_ErrShort), ("flipbook/line.ErrCode", laid_flipbook_line_ErrCode), ("flipbook/line.ErrTrail", laid_flipbook_line_ErrTrail), ("flipbook/line.ErrNumber", laid_flipbook_line_ErrNumber), ("flipbook/film.ErrHead", laid_flipbook_film_ErrHead), ("flipbook/film.ErrColour", laid_flipbook_film_ErrColour), ("flipbook/film.ErrVector", laid_flipbook_film_ErrVector), ("flipbook/film.ErrFirst", laid_flipbook_film_ErrFirst), ("flipbook/film.softContexts", laid_flipbook_film_softContexts)], narrowed := true }
def LinesUptoSaid : Prop := linesUptoRow.holds Tryz.pinned (OpenSpec.upto linesSpec)

/-- 'flipbooklaw.Films', WHERE WHAT IT READS IS OF BULK AT MOST 1048576: true; the input reads as it did. -/
def filmsUptoRow : OpenClaim := { program := "ytekfbphnoibnjaagreatdoor", sum := "f2f9a0c026f8972c94d0f3f14f26aced6c25624abbda06393431aac6fc9a6c5c", func := "flipbook/flipbooklaw.Films", spec := "films", inPlace := ["internal/reflectlite.TypeOf", "internal/reflectlite.ValueOf", "(internal/reflectlite.Value).Type", "(internal/reflectlite.Value).IsNil", "(internal/reflectlite.Value).Elem", "(internal/reflectlite.Value).Set"], unfollowed := true, recurses := true, named := ["flipbook/line.ErrCode", "flipbook/line.ErrShort", "flipbook/line.ErrTrail", "flipbook/film.ErrHead", "flipbook/film.ErrFirst", "flipbook/line.ErrNumber", "flipbook/film.ErrVector", "flipbook/film.ErrColour", "flipbook/film.softContexts", "errors.errorType"], plainKeys := false, apart := false, laid := [("errors.errorType", laid_errors_errorType), ("flipbook/line.ErrShort", laid_flipbook_line_ErrShort), ("flipbook/line.ErrCode", laid_flipbook_line_ErrCode), ("flipbook/line.ErrTrail", laid_flipbook_line_ErrTrail), ("flipbook/line.ErrNumber", laid_flipbook_line_ErrNumber), ("flipbook/film.ErrHead", laid_flipbook_film_ErrHead), ("flipbook/film.ErrColour", laid_flipbook_film_ErrColour), ("flipbook/film.ErrVector", laid_flipbook_film_ErrVector), ("flipbook/film.ErrFirst", laid_flipbook_film_ErrFirst), ("flipbook/film.softContexts", laid_flipbook_film_softContexts)], narrowed := true }
def FilmsUptoSaid : Prop := filmsUptoRow.holds Tryz.pinned (OpenSpec.upto filmsSpec)

/-- 'flipbooklaw.Packs', WHERE WHAT IT READS IS OF BULK AT MOST 1048576: true; the input reads as it did. -/
def packsUptoRow : OpenClaim := { program := "ytekfbphnoibnjaagreatdoor", sum := "f2f9a0c026f8972c94d0f3f14f26aced6c25624abbda06393431aac6fc9a6c5c", func := "flipbook/flipbooklaw.Packs", spec := "packs", inPlace := ["internal/reflectlite.TypeOf", "internal/reflectlite.ValueOf", "(internal/reflectlite.Value).Type", "(internal/reflectlite.Value).IsNil", "(internal/reflectlite.Value).Elem", "(internal/reflectlite.Value).Set"], unfollowed := true, recurses := true, named := ["flipbook/line.ErrCode", "flipbook/line.ErrShort", "flipbook/line.ErrTrail", "flipbook/film.ErrHead", "flipbook/film.ErrFirst", "flipbook/line.ErrNumber", "flipbook/film.ErrVector", "flipbook/film.ErrColour", "flipbook/film.softContexts", "errors.errorType"], plainKeys := false, apart := false, laid := [("errors.errorType", laid_errors_errorType), ("flipbook/line.ErrShort", laid_flipbook_line_ErrShort), ("flipbook/line.ErrCode", laid_flipbook_line_ErrCode), ("flipbook/line.ErrTrail", laid_flipbook_line_ErrTrail), ("flipbook/line.ErrNumber", laid_flipbook_line_ErrNumber), ("flipbook/film.ErrHead", laid_flipbook_film_ErrHead), ("flipbook/film.ErrColour", laid_flipbook_film_ErrColour), ("flipbook/film.ErrVector", laid_flipbook_film_ErrVector), ("flipbook/film.ErrFirst", laid_flipbook_film_ErrFirst), ("flipbook/film.softContexts", laid_flipbook_film_softContexts)], narrowed := true }
def PacksUptoSaid : Prop := packsUptoRow.holds Tryz.pinned (OpenSpec.upto packsSpec)

/-- 'flipbookkeep.Kept', WHERE WHAT IT READS IS OF BULK AT MOST 1048576: true; the input reads as it did. -/
def keptUptoRow : OpenClaim := { program := "ytekfbphnoibnjaagreatdoor", sum := "f2f9a0c026f8972c94d0f3f14f26aced6c25624abbda06393431aac6fc9a6c5c", func := "flipbook/flipbookkeep.Kept", spec := "kept", inPlace := ["internal/reflectlite.ValueOf", "(internal/reflectlite.Value).Type", "(internal/reflectlite.Value).IsNil", "internal/reflectlite.TypeOf", "(internal/reflectlite.Value).Elem", "(internal/reflectlite.Value).Set"], unfollowed := true, recurses := true, named := ["flipbook/film.softContexts", "flipbook/film.ErrHead", "flipbook/line.ErrCode", "flipbook/line.ErrShort", "flipbook/film.ErrColour", "flipbook/line.ErrNumber", "flipbook/film.ErrVector", "flipbook/film.ErrFirst", "flipbook/line.ErrTrail", "errors.errorType"], plainKeys := false, apart := false, laid := [("errors.errorType", laid_errors_errorType), ("flipbook/line.ErrShort", laid_flipbook_line_ErrShort), ("flipbook/line.ErrCode", laid_flipbook_line_ErrCode), ("flipbook/line.ErrTrail", laid_flipbook_line_ErrTrail), ("flipbook/line.ErrNumber", laid_flipbook_line_ErrNumber), ("flipbook/film.ErrHead", laid_flipbook_film_ErrHead), ("flipbook/film.ErrColour", laid_flipbook_film_ErrColour), ("flipbook/film.ErrVector", laid_flipbook_film_ErrVector), ("flipbook/film.ErrFirst", laid_flipbook_film_ErrFirst), ("flipbook/film.softContexts", laid_flipbook_film_softContexts)], narrowed := true }
def KeptUptoSaid : Prop := keptUptoRow.holds Tryz.pinned (OpenSpec.upto keptSpec)

/-- 'flipbooklaw.All', WHERE WHAT IT READS IS OF BULK AT MOST 1048576: true; the input reads as it did. -/
def allUptoRow : OpenClaim := { program := "ytekfbphnoibnjaagreatdoor", sum := "f2f9a0c026f8972c94d0f3f14f26aced6c25624abbda06393431aac6fc9a6c5c", func := "flipbook/flipbooklaw.All", spec := "all", inPlace := ["internal/reflectlite.TypeOf", "internal/reflectlite.ValueOf", "(internal/reflectlite.Value).Type", "(internal/reflectlite.Value).IsNil", "(internal/reflectlite.Value).Elem", "(internal/reflectlite.Value).Set"], unfollowed := true, recurses := true, named := ["flipbook/line.ErrCode", "flipbook/line.ErrShort", "flipbook/line.ErrTrail", "flipbook/film.ErrHead", "flipbook/film.ErrFirst", "flipbook/line.ErrNumber", "flipbook/film.ErrVector", "flipbook/film.ErrColour", "flipbook/film.softContexts", "errors.errorType"], plainKeys := false, apart := false, laid := [("errors.errorType", laid_errors_errorType), ("flipbook/line.ErrShort", laid_flipbook_line_ErrShort), ("flipbook/line.ErrCode", laid_flipbook_line_ErrCode), ("flipbook/line.ErrTrail", laid_flipbook_line_ErrTrail), ("flipbook/line.ErrNumber", laid_flipbook_line_ErrNumber), ("flipbook/film.ErrHead", laid_flipbook_film_ErrHead), ("flipbook/film.ErrColour", laid_flipbook_film_ErrColour), ("flipbook/film.ErrVector", laid_flipbook_film_ErrVector), ("flipbook/film.ErrFirst", laid_flipbook_film_ErrFirst), ("flipbook/film.softContexts", laid_flipbook_film_softContexts)], narrowed := true }
def AllUptoSaid : Prop := allUptoRow.holds Tryz.pinned (OpenSpec.upto allSpec)

end Rows
end Go.Proofs.YtekfbphnoibnjaaGreatDoor
