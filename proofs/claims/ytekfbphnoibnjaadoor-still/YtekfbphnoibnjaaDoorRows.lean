/-
  NARROWER THAN 'FOR EVERY INPUT', by the rows' own cells (each row's printed sentence says how): Squeezed: laid · Still: laid.
  DERIVED. THE GIVEN ROWS OF THIS SEAT. 2 by the template 'for every input the law returns true; each argument reads behind the call as it read before'; 0 by the template 'total and deterministic' (their statements: YtekfbphnoibnjaaDoorTotals.lean).
  GIVEN WITH THE SEED: the statements are not yours to turn. If you find one false, say at which input.
  Laid BY PROGRAM, IN A SANDBOX (cutbox-rows.mjs): the forced cells as the released guide's own fill.sh prints them over the translation eb4d3db1bd9242b7… (all of the seat's roots in one cut). By AI agents, Wed Nov 11 2026. No macro, syntax, notation, axiom, sorry.
-/
import Derived.Test.YtekfbphnoibnjaaDoorChecked
import GoSem.Claim
import GoSem.ClaimJoined
import GoSem.ClaimMapViews
import Derived.JoinedTies
import Derived.KernelRfl
namespace Go.Proofs.YtekfbphnoibnjaaDoor
/- THE CELL 'sum', in the pinned program and in every row, IS THE sha256 OF THE DUMP (.gsa) THAT YtekfbphnoibnjaaDoorProg.lean LOADS. Nothing in Lean hashes anything: it is a label: what it is worth is what the hold of that sum in a sandbox is worth. -/
noncomputable def Tryd.pinned : Pinned := { name := "ytekfbphnoibnjaadoor", sum := "eb4d3db1bd9242b7c3f4d5e771753a4f8e445a989332e191d7fb7efa18d637af", checked := Tryd.checked }
namespace Rows
def none {H : Type} : Left H := { results := [], args := [] }

/- WHAT THE LISTED PACKAGE-LEVEL VARIABLES READ AS WHEN THE CALL BEGINS. Each datum BY PROGRAM (the guide's laid-datum.mjs) off the statement by which the dump's own 'gosem.cut.vars' lays the variable. In a bare row this is a premise. The card (YtekfbphnoibnjaaDoorCards.lean) ties it to the program's text. -/
def laid_flipbook_line_ErrShort {H : Type} : DataW H := .iface "*errors.errorString" (.ptr (.agg [.lit (.string [116, 104, 101, 32, 108, 105, 110, 101, 32, 101, 110, 100, 115, 32, 116, 111, 111, 32, 101, 97, 114, 108, 121])]))
def laid_flipbook_line_ErrCode {H : Type} : DataW H := .iface "*errors.errorString" (.ptr (.agg [.lit (.string [110, 111, 32, 108, 105, 110, 101, 32, 98, 101, 103, 105, 110, 115, 32, 119, 105, 116, 104, 32, 116, 104, 101, 115, 101, 32, 98, 121, 116, 101, 115])]))
def laid_flipbook_line_ErrTrail {H : Type} : DataW H := .iface "*errors.errorString" (.ptr (.agg [.lit (.string [116, 104, 101, 32, 108, 105, 110, 101, 32, 103, 111, 101, 115, 32, 111, 110, 32, 98, 101, 104, 105, 110, 100, 32, 105, 116, 115, 32, 108, 97, 115, 116, 32, 98, 105, 116])]))
def laid_flipbook_line_ErrNumber {H : Type} : DataW H := .iface "*errors.errorString" (.ptr (.agg [.lit (.string [97, 32, 110, 117, 109, 98, 101, 114, 32, 105, 115, 32, 116, 111, 111, 32, 103, 114, 101, 97, 116])]))
def laid_flipbook_film_ErrHead {H : Type} : DataW H := .iface "*errors.errorString" (.ptr (.agg [.lit (.string [110, 111, 32, 102, 105, 108, 109, 32, 98, 101, 103, 105, 110, 115, 32, 119, 105, 116, 104, 32, 116, 104, 101, 115, 101, 32, 98, 121, 116, 101, 115])]))
def laid_flipbook_film_ErrColour {H : Type} : DataW H := .iface "*errors.errorString" (.ptr (.agg [.lit (.string [116, 104, 101, 114, 101, 32, 105, 115, 32, 110, 111, 32, 115, 117, 99, 104, 32, 99, 111, 108, 111, 117, 114])]))
def laid_flipbook_film_ErrVector {H : Type} : DataW H := .iface "*errors.errorString" (.ptr (.agg [.lit (.string [97, 32, 98, 108, 111, 99, 107, 32, 105, 115, 32, 109, 97, 100, 101, 32, 111, 102, 32, 112, 105, 120, 101, 108, 115, 32, 116, 104, 97, 116, 32, 97, 114, 101, 32, 110, 111, 116, 32, 116, 104, 101, 114, 101])]))
def laid_flipbook_film_ErrFirst {H : Type} : DataW H := .iface "*errors.errorString" (.ptr (.agg [.lit (.string [110, 111, 32, 102, 114, 97, 109, 101, 32, 105, 115, 32, 98, 101, 102, 111, 114, 101, 32, 116, 104, 101, 32, 102, 105, 114, 115, 116, 32, 111, 110, 101])]))
def laid_flipbook_film_softContexts {H : Type} : DataW H := .agg [.lit (.int .i64 100), .lit (.int .i64 124), .lit (.int .i64 148)]

/-- 'flipbookkeep.Squeezed': WHATEVER THE INPUT: true; the input reads as it did. -/
def squeezedSpec : ChangeSpec := { name := "squeezed", fn := fun _ => fun
  | [d1, d2, d3] => { results := [.lit (.bool true)], args := [d1, d2, d3] }
  | _ => none }
def squeezedRow : OpenClaim := { program := "ytekfbphnoibnjaadoor", sum := "eb4d3db1bd9242b7c3f4d5e771753a4f8e445a989332e191d7fb7efa18d637af", func := "flipbook/flipbookkeep.Squeezed", spec := "squeezed", inPlace := ["internal/reflectlite.TypeOf"], unfollowed := true, recurses := true, named := ["flipbook/line.ErrCode", "flipbook/line.ErrShort", "flipbook/line.ErrTrail", "flipbook/film.ErrHead", "flipbook/film.ErrFirst", "flipbook/line.ErrNumber", "flipbook/film.ErrVector", "flipbook/film.ErrColour"], plainKeys := false, apart := false, laid := [("flipbook/line.ErrShort", laid_flipbook_line_ErrShort), ("flipbook/line.ErrCode", laid_flipbook_line_ErrCode), ("flipbook/line.ErrTrail", laid_flipbook_line_ErrTrail), ("flipbook/line.ErrNumber", laid_flipbook_line_ErrNumber), ("flipbook/film.ErrHead", laid_flipbook_film_ErrHead), ("flipbook/film.ErrColour", laid_flipbook_film_ErrColour), ("flipbook/film.ErrVector", laid_flipbook_film_ErrVector), ("flipbook/film.ErrFirst", laid_flipbook_film_ErrFirst)] }
def SqueezedSaid : Prop := squeezedRow.holds Tryd.pinned (OpenSpec.ofChange squeezedSpec)

/-- ITS FALSE NEIGHBOUR: 'it returns false'. Refute it at one input. -/
def squeezedWrong : ChangeSpec := { name := "squeezed", fn := fun _ => fun
  | [d1, d2, d3] => { results := [.lit (.bool false)], args := [d1, d2, d3] }
  | _ => none }
def SqueezedWrongFalsely : Prop := squeezedRow.holds Tryd.pinned (OpenSpec.ofChange squeezedWrong)

/-- 'flipbookkeep.Still': WHATEVER THE INPUT: true; the input reads as it did. -/
def stillSpec : ChangeSpec := { name := "still", fn := fun _ => fun
  | [d1, d2, d3, d4] => { results := [.lit (.bool true)], args := [d1, d2, d3, d4] }
  | _ => none }
def stillRow : OpenClaim := { program := "ytekfbphnoibnjaadoor", sum := "eb4d3db1bd9242b7c3f4d5e771753a4f8e445a989332e191d7fb7efa18d637af", func := "flipbook/flipbookkeep.Still", spec := "still", unfollowed := true, recurses := true, named := ["flipbook/film.softContexts"], plainKeys := false, apart := false, laid := [("flipbook/film.softContexts", laid_flipbook_film_softContexts)] }
def StillSaid : Prop := stillRow.holds Tryd.pinned (OpenSpec.ofChange stillSpec)

/-- ITS FALSE NEIGHBOUR: 'it returns false'. Refute it at one input. -/
def stillWrong : ChangeSpec := { name := "still", fn := fun _ => fun
  | [d1, d2, d3, d4] => { results := [.lit (.bool false)], args := [d1, d2, d3, d4] }
  | _ => none }
def StillWrongFalsely : Prop := stillRow.holds Tryd.pinned (OpenSpec.ofChange stillWrong)

/- THE SECOND FORM. 'bulk': how many values and letters a reading holds, each counted each time it is reached (what is shared counts as often as it is met; a slice's spare places count too). A statement '..UptoSaid' is the law's where the arguments, and the package variables that the reading takes, are together of bulk at most 1048576: NARROWER than '..Said'. Prove '..Said' where nothing that the law and all that it calls make is longer than what came in: it says more and counts as full. Else prove '..UptoSaid'. A law counts once. -/
mutual
def uptoBulk {H : Type} : DataW H → Nat
  | .lit (.string bytes) => bytes.length + 1
  | .lit _ => 1
  | .nil => 1
  | .ptr d => uptoBulk d + 1
  | .slice elems spare => uptoBulkAll elems + uptoBulkAll spare + 1
  | .agg parts => uptoBulkAll parts + 1
  | .iface _ d => uptoBulk d + 1
  | .map entries => uptoBulkEntries entries + 1
  | .held _ => 1
def uptoBulkAll {H : Type} : List (DataW H) → Nat
  | [] => 0
  | d :: r => uptoBulk d + uptoBulkAll r
def uptoBulkEntries {H : Type} : List (Lit × DataW H) → Nat
  | [] => 0
  | x :: r => uptoBulkEntry x + uptoBulkEntries r
def uptoBulkEntry {H : Type} : Lit × DataW H → Nat
  | (.string bytes, d) => bytes.length + uptoBulk d + 1
  | (_, d) => uptoBulk d + 1
 end
def uptoSmall : (H : Type) → List (DataW H) → Bool := fun _ ds => decide (uptoBulkAll ds ≤ 1048576)
def OpenSpec.upto (s : _root_.Go.ChangeSpec) : _root_.Go.OpenSpec := { _root_.Go.OpenSpec.ofChange s with cond := some uptoSmall }

/-- 'flipbookkeep.Squeezed', WHERE WHAT IT READS IS OF BULK AT MOST 1048576: true; the input reads as it did. -/
def squeezedUptoRow : OpenClaim := { program := "ytekfbphnoibnjaadoor", sum := "eb4d3db1bd9242b7c3f4d5e771753a4f8e445a989332e191d7fb7efa18d637af", func := "flipbook/flipbookkeep.Squeezed", spec := "squeezed", inPlace := ["internal/reflectlite.TypeOf"], unfollowed := true, recurses := true, named := ["flipbook/line.ErrCode", "flipbook/line.ErrShort", "flipbook/line.ErrTrail", "flipbook/film.ErrHead", "flipbook/film.ErrFirst", "flipbook/line.ErrNumber", "flipbook/film.ErrVector", "flipbook/film.ErrColour"], plainKeys := false, apart := false, laid := [("flipbook/line.ErrShort", laid_flipbook_line_ErrShort), ("flipbook/line.ErrCode", laid_flipbook_line_ErrCode), ("flipbook/line.ErrTrail", laid_flipbook_line_ErrTrail), ("flipbook/line.ErrNumber", laid_flipbook_line_ErrNumber), ("flipbook/film.ErrHead", laid_flipbook_film_ErrHead), ("flipbook/film.ErrColour", laid_flipbook_film_ErrColour), ("flipbook/film.ErrVector", laid_flipbook_film_ErrVector), ("flipbook/film.ErrFirst", laid_flipbook_film_ErrFirst)], narrowed := true }
def SqueezedUptoSaid : Prop := squeezedUptoRow.holds Tryd.pinned (OpenSpec.upto squeezedSpec)

/-- 'flipbookkeep.Still', WHERE WHAT IT READS IS OF BULK AT MOST 1048576: true; the input reads as it did. -/
def stillUptoRow : OpenClaim := { program := "ytekfbphnoibnjaadoor", sum := "eb4d3db1bd9242b7c3f4d5e771753a4f8e445a989332e191d7fb7efa18d637af", func := "flipbook/flipbookkeep.Still", spec := "still", unfollowed := true, recurses := true, named := ["flipbook/film.softContexts"], plainKeys := false, apart := false, laid := [("flipbook/film.softContexts", laid_flipbook_film_softContexts)], narrowed := true }
def StillUptoSaid : Prop := stillUptoRow.holds Tryd.pinned (OpenSpec.upto stillSpec)

end Rows
end Go.Proofs.YtekfbphnoibnjaaDoor
