/-
  NARROWER THAN 'FOR EVERY INPUT', by the rows' own cells (each row's printed sentence says how): EndTwice: laid · EndPlays: laid · TopLossy: laid · TopFlight: laid · TopPaths: laid.
  DERIVED. THE GIVEN ROWS OF THIS SEAT. 5 by the template 'for every input the law returns true; each argument reads behind the call as it read before'; 0 by the template 'total and deterministic' (their statements: YtoabfilliiopmaaGreatDoorTotals.lean).
  GIVEN WITH THE SEED: the statements are not yours to turn. If you find one false, say at which input.
  Laid BY PROGRAM, IN A SANDBOX (cutbox-rows.mjs): the forced cells as the released guide's own fill.sh prints them over the translation 0bf3b913090ca511… (all of the seat's roots in one cut). By AI agents, Wed Nov 11 2026. No macro, syntax, notation, axiom, sorry.
-/
import Derived.Test.YtoabfilliiopmaaGreatDoorChecked
import GoSem.Claim
import GoSem.ClaimJoined
import GoSem.ClaimMapViews
import Derived.JoinedTies
import Derived.KernelRfl
namespace Go.Proofs.YtoabfilliiopmaaGreatDoor
/- THE CELL 'sum', in the pinned program and in every row, IS THE sha256 OF THE DUMP (.gsa) THAT YtoabfilliiopmaaGreatDoorProg.lean LOADS. Nothing in Lean hashes anything: it is a label: what it is worth is what the hold of that sum in a sandbox is worth. -/
noncomputable def Tryz.pinned : Pinned := { name := "ytoabfilliiopmaagreatdoor", sum := "0bf3b913090ca51124096592c8d18fdfbb62db6d705b7a862da479ca8462c7df", checked := Tryz.checked }
namespace Rows
def none {H : Type} : Left H := { results := [], args := [] }

/- WHAT THE LISTED PACKAGE-LEVEL VARIABLES READ AS WHEN THE CALL BEGINS. Each datum BY PROGRAM (the guide's laid-datum.mjs) off the statement by which the dump's own 'gosem.cut.vars' lays the variable. In a bare row this is a premise. The card (YtoabfilliiopmaaGreatDoorCards.lean) ties it to the program's text. -/
def laid_wanderwire_varint_forms {H : Type} : DataW H := .agg [.agg [.lit (.int .i64 1), .lit (.int .i64 64)], .agg [.lit (.int .i64 2), .lit (.int .i64 16384)], .agg [.lit (.int .i64 4), .lit (.int .i64 1073741824)]]
def laid_wanderwire_frame_counts {H : Type} : DataW H := .agg [.lit (.int .i64 0), .lit (.int .i64 0), .lit (.int .i64 0), .lit (.int .i64 1), .lit (.int .i64 1), .lit (.int .i64 1), .lit (.int .i64 1), .lit (.int .i64 2), .lit (.int .i64 1)]
def laid_errors_errorType {H : Type} : DataW H := .iface "internal/reflectlite.rtype" (.agg [.ptr (.lit (.string [101, 114, 114, 111, 114]))])

/-- 'wirelaw2.EndTwice': WHATEVER THE INPUT: true; the input reads as it did. -/
def endTwiceSpec : ChangeSpec := { name := "endTwice", fn := fun _ => fun
  | [d1, d2, d3] => { results := [.lit (.bool true)], args := [d1, d2, d3] }
  | _ => none }
def endTwiceRow : OpenClaim := { program := "ytoabfilliiopmaagreatdoor", sum := "0bf3b913090ca51124096592c8d18fdfbb62db6d705b7a862da479ca8462c7df", func := "wanderwire/wirelaw2.EndTwice", spec := "endTwice", unfollowed := true, recurses := true, named := ["wanderwire/frame.counts", "wanderwire/varint.forms"], apart := false, laid := [("wanderwire/varint.forms", laid_wanderwire_varint_forms), ("wanderwire/frame.counts", laid_wanderwire_frame_counts)] }
def EndTwiceSaid : Prop := endTwiceRow.holds Tryz.pinned (OpenSpec.ofChange endTwiceSpec)

/-- ITS FALSE NEIGHBOUR: 'it returns false'. Refute it at one input. -/
def endTwiceWrong : ChangeSpec := { name := "endTwice", fn := fun _ => fun
  | [d1, d2, d3] => { results := [.lit (.bool false)], args := [d1, d2, d3] }
  | _ => none }
def EndTwiceWrongFalsely : Prop := endTwiceRow.holds Tryz.pinned (OpenSpec.ofChange endTwiceWrong)

/-- 'wirelaw2.EndPlays': WHATEVER THE INPUT: true; the input reads as it did. -/
def endPlaysSpec : ChangeSpec := { name := "endPlays", fn := fun _ => fun
  | [d1, d2, d3] => { results := [.lit (.bool true)], args := [d1, d2, d3] }
  | _ => none }
def endPlaysRow : OpenClaim := { program := "ytoabfilliiopmaagreatdoor", sum := "0bf3b913090ca51124096592c8d18fdfbb62db6d705b7a862da479ca8462c7df", func := "wanderwire/wirelaw2.EndPlays", spec := "endPlays", inPlace := ["internal/reflectlite.ValueOf", "(internal/reflectlite.Value).Type", "(internal/reflectlite.Value).IsNil", "internal/reflectlite.TypeOf", "(internal/reflectlite.Value).Elem", "(internal/reflectlite.Value).Set"], unfollowed := true, recurses := true, named := ["errors.errorType", "wanderwire/frame.counts", "wanderwire/varint.forms"], apart := false, laid := [("errors.errorType", laid_errors_errorType), ("wanderwire/varint.forms", laid_wanderwire_varint_forms), ("wanderwire/frame.counts", laid_wanderwire_frame_counts)] }
def EndPlaysSaid : Prop := endPlaysRow.holds Tryz.pinned (OpenSpec.ofChange endPlaysSpec)

/-- ITS FALSE NEIGHBOUR: 'it returns false'. Refute it at one input. -/
def endPlaysWrong : ChangeSpec := { name := "endPlays", fn := fun _ => fun
  | [d1, d2, d3] => { results := [.lit (.bool false)], args := [d1, d2, d3] }
  | _ => none }
def EndPlaysWrongFalsely : Prop := endPlaysRow.holds Tryz.pinned (OpenSpec.ofChange endPlaysWrong)

/-- 'wiretop.TopLossy': WHATEVER THE INPUT: true; the input reads as it did. -/
def topLossySpec : ChangeSpec := { name := "topLossy", fn := fun _ => fun
  | [d1, d2, d3, d4] => { results := [.lit (.bool true)], args := [d1, d2, d3, d4] }
  | _ => none }
def topLossyRow : OpenClaim := { program := "ytoabfilliiopmaagreatdoor", sum := "0bf3b913090ca51124096592c8d18fdfbb62db6d705b7a862da479ca8462c7df", func := "wanderwire/wiretop.TopLossy", spec := "topLossy", inPlace := ["internal/reflectlite.ValueOf", "(internal/reflectlite.Value).Type", "(internal/reflectlite.Value).IsNil", "internal/reflectlite.TypeOf", "(internal/reflectlite.Value).Elem", "(internal/reflectlite.Value).Set"], unfollowed := true, recurses := true, named := ["wanderwire/frame.counts", "wanderwire/varint.forms", "errors.errorType"], apart := false, laid := [("errors.errorType", laid_errors_errorType), ("wanderwire/varint.forms", laid_wanderwire_varint_forms), ("wanderwire/frame.counts", laid_wanderwire_frame_counts)] }
def TopLossySaid : Prop := topLossyRow.holds Tryz.pinned (OpenSpec.ofChange topLossySpec)

/-- ITS FALSE NEIGHBOUR: 'it returns false'. Refute it at one input. -/
def topLossyWrong : ChangeSpec := { name := "topLossy", fn := fun _ => fun
  | [d1, d2, d3, d4] => { results := [.lit (.bool false)], args := [d1, d2, d3, d4] }
  | _ => none }
def TopLossyWrongFalsely : Prop := topLossyRow.holds Tryz.pinned (OpenSpec.ofChange topLossyWrong)

/-- 'wiretop.TopFlight': WHATEVER THE INPUT: true; the input reads as it did. -/
def topFlightSpec : ChangeSpec := { name := "topFlight", fn := fun _ => fun
  | [d1, d2, d3, d4] => { results := [.lit (.bool true)], args := [d1, d2, d3, d4] }
  | _ => none }
def topFlightRow : OpenClaim := { program := "ytoabfilliiopmaagreatdoor", sum := "0bf3b913090ca51124096592c8d18fdfbb62db6d705b7a862da479ca8462c7df", func := "wanderwire/wiretop.TopFlight", spec := "topFlight", unfollowed := true, recurses := true, named := ["wanderwire/frame.counts", "wanderwire/varint.forms"], apart := false, laid := [("wanderwire/varint.forms", laid_wanderwire_varint_forms), ("wanderwire/frame.counts", laid_wanderwire_frame_counts)] }
def TopFlightSaid : Prop := topFlightRow.holds Tryz.pinned (OpenSpec.ofChange topFlightSpec)

/-- ITS FALSE NEIGHBOUR: 'it returns false'. Refute it at one input. -/
def topFlightWrong : ChangeSpec := { name := "topFlight", fn := fun _ => fun
  | [d1, d2, d3, d4] => { results := [.lit (.bool false)], args := [d1, d2, d3, d4] }
  | _ => none }
def TopFlightWrongFalsely : Prop := topFlightRow.holds Tryz.pinned (OpenSpec.ofChange topFlightWrong)

/-- 'wiretop.TopPaths': WHATEVER THE INPUT: true; the input reads as it did. -/
def topPathsSpec : ChangeSpec := { name := "topPaths", fn := fun _ => fun
  | [d1, d2] => { results := [.lit (.bool true)], args := [d1, d2] }
  | _ => none }
def topPathsRow : OpenClaim := { program := "ytoabfilliiopmaagreatdoor", sum := "0bf3b913090ca51124096592c8d18fdfbb62db6d705b7a862da479ca8462c7df", func := "wanderwire/wiretop.TopPaths", spec := "topPaths", unfollowed := true, recurses := true, named := ["wanderwire/frame.counts", "wanderwire/varint.forms"], apart := false, laid := [("wanderwire/varint.forms", laid_wanderwire_varint_forms), ("wanderwire/frame.counts", laid_wanderwire_frame_counts)] }
def TopPathsSaid : Prop := topPathsRow.holds Tryz.pinned (OpenSpec.ofChange topPathsSpec)

/-- ITS FALSE NEIGHBOUR: 'it returns false'. Refute it at one input. -/
def topPathsWrong : ChangeSpec := { name := "topPaths", fn := fun _ => fun
  | [d1, d2] => { results := [.lit (.bool false)], args := [d1, d2] }
  | _ => none }
def TopPathsWrongFalsely : Prop := topPathsRow.holds Tryz.pinned (OpenSpec.ofChange topPathsWrong)

/- THE SECOND FORM. 'bulk': how many values and letters a reading holds, each counted each time it is reached (what is shared counts as often as it is met; a slice's spare places count too). A statement '..UptoSaid' is the law's where the arguments, and the package variables that the reading takes, are together of bulk at most 1048576: NARROWER than '..Said'. Prove '..Said' where nothing that the law and all that it calls make is longer than what came in: it says more and counts as full. Else prove '..UptoSaid'. A law counts once. -/
mutual
def uptoBulk {H : Type} : DataW H → Nat
  | .lit (.string bytes) => bytes.length + 1
  | .lit _ => 1
  | .nil => 1
  | .ptr d => uptoBulk d + 1
  | .slice elems spare => uptoBulkAll elems + uptoBulkAll spare + 1
  | .agg parts => uptoBulkAll parts + 1
  | .iface _ d => uptoBulk d + 1
  | .map entries => uptoBulkEntries entries + 1
  | .held _ => 1
def uptoBulkAll {H : Type} : List (DataW H) → Nat
  | [] => 0
  | d :: r => uptoBulk d + uptoBulkAll r
def uptoBulkEntries {H : Type} : List (Lit × DataW H) → Nat
  | [] => 0
  | x :: r => uptoBulkEntry x + uptoBulkEntries r
def uptoBulkEntry {H : Type} : Lit × DataW H → Nat
  | (.string bytes, d) => bytes.length + uptoBulk d + 1
  | (_, d) => uptoBulk d + 1
 end
def uptoSmall : (H : Type) → List (DataW H) → Bool := fun _ ds => decide (uptoBulkAll ds ≤ 1048576)
def OpenSpec.upto (s : _root_.Go.ChangeSpec) : _root_.Go.OpenSpec := { _root_.Go.OpenSpec.ofChange s with cond := some uptoSmall }

/-- 'wirelaw2.EndTwice', WHERE WHAT IT READS IS OF BULK AT MOST 1048576: true; the input reads as it did. -/
def endTwiceUptoRow : OpenClaim := { program := "ytoabfilliiopmaagreatdoor", sum := "0bf3b913090ca51124096592c8d18fdfbb62db6d705b7a862da479ca8462c7df", func := "wanderwire/wirelaw2.EndTwice", spec := "endTwice", unfollowed := true, recurses := true, named := ["wanderwire/frame.counts", "wanderwire/varint.forms"], apart := false, laid := [("wanderwire/varint.forms", laid_wanderwire_varint_forms), ("wanderwire/frame.counts", laid_wanderwire_frame_counts)], narrowed := true }
def EndTwiceUptoSaid : Prop := endTwiceUptoRow.holds Tryz.pinned (OpenSpec.upto endTwiceSpec)

/-- 'wirelaw2.EndPlays', WHERE WHAT IT READS IS OF BULK AT MOST 1048576: true; the input reads as it did. -/
def endPlaysUptoRow : OpenClaim := { program := "ytoabfilliiopmaagreatdoor", sum := "0bf3b913090ca51124096592c8d18fdfbb62db6d705b7a862da479ca8462c7df", func := "wanderwire/wirelaw2.EndPlays", spec := "endPlays", inPlace := ["internal/reflectlite.ValueOf", "(internal/reflectlite.Value).Type", "(internal/reflectlite.Value).IsNil", "internal/reflectlite.TypeOf", "(internal/reflectlite.Value).Elem", "(internal/reflectlite.Value).Set"], unfollowed := true, recurses := true, named := ["errors.errorType", "wanderwire/frame.counts", "wanderwire/varint.forms"], apart := false, laid := [("errors.errorType", laid_errors_errorType), ("wanderwire/varint.forms", laid_wanderwire_varint_forms), ("wanderwire/frame.counts", laid_wanderwire_frame_counts)], narrowed := true }
def EndPlaysUptoSaid : Prop := endPlaysUptoRow.holds Tryz.pinned (OpenSpec.upto endPlaysSpec)

/-- 'wiretop.TopLossy', WHERE WHAT IT READS IS OF BULK AT MOST 1048576: true; the input reads as it did. -/
def topLossyUptoRow : OpenClaim := { program := "ytoabfilliiopmaagreatdoor", sum := "0bf3b913090ca51124096592c8d18fdfbb62db6d705b7a862da479ca8462c7df", func := "wanderwire/wiretop.TopLossy", spec := "topLossy", inPlace := ["internal/reflectlite.ValueOf", "(internal/reflectlite.Value).Type", "(internal/reflectlite.Value).IsNil", "internal/reflectlite.TypeOf", "(internal/reflectlite.Value).Elem", "(internal/reflectlite.Value).Set"], unfollowed := true, recurses := true, named := ["wanderwire/frame.counts", "wanderwire/varint.forms", "errors.errorType"], apart := false, laid := [("errors.errorType", laid_errors_errorType), ("wanderwire/varint.forms", laid_wanderwire_varint_forms), ("wanderwire/frame.counts", laid_wanderwire_frame_counts)], narrowed := true }
def TopLossyUptoSaid : Prop := topLossyUptoRow.holds Tryz.pinned (OpenSpec.upto topLossySpec)

/-- 'wiretop.TopFlight', WHERE WHAT IT READS IS OF BULK AT MOST 1048576: true; the input reads as it did. -/
def topFlightUptoRow : OpenClaim := { program := "ytoabfilliiopmaagreatdoor", sum := "0bf3b913090ca51124096592c8d18fdfbb62db6d705b7a862da479ca8462c7df", func := "wanderwire/wiretop.TopFlight", spec := "topFlight", unfollowed := true, recurses := true, named := ["wanderwire/frame.counts", "wanderwire/varint.forms"], apart := false, laid := [("wanderwire/varint.forms", laid_wanderwire_varint_forms), ("wanderwire/frame.counts", laid_wanderwire_frame_counts)], narrowed := true }
def TopFlightUptoSaid : Prop := topFlightUptoRow.holds Tryz.pinned (OpenSpec.upto topFlightSpec)

/-- 'wiretop.TopPaths', WHERE WHAT IT READS IS OF BULK AT MOST 1048576: true; the input reads as it did. -/
def topPathsUptoRow : OpenClaim := { program := "ytoabfilliiopmaagreatdoor", sum := "0bf3b913090ca51124096592c8d18fdfbb62db6d705b7a862da479ca8462c7df", func := "wanderwire/wiretop.TopPaths", spec := "topPaths", unfollowed := true, recurses := true, named := ["wanderwire/frame.counts", "wanderwire/varint.forms"], apart := false, laid := [("wanderwire/varint.forms", laid_wanderwire_varint_forms), ("wanderwire/frame.counts", laid_wanderwire_frame_counts)], narrowed := true }
def TopPathsUptoSaid : Prop := topPathsUptoRow.holds Tryz.pinned (OpenSpec.upto topPathsSpec)

end Rows
end Go.Proofs.YtoabfilliiopmaaGreatDoor
