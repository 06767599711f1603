/-
  NARROWER THAN 'FOR EVERY INPUT', by the rows' own cells (each row's printed sentence says how): TalkPrefix: laid · TalkSilent: laid · TalkPlays: laid.
  DERIVED. THE GIVEN ROWS OF THIS SEAT. 3 by the template 'for every input the law returns true; each argument reads behind the call as it read before'; 0 by the template 'total and deterministic' (their statements: YtdnehibcpkjafaaGreatDoorTotals.lean).
  GIVEN WITH THE SEED: the statements are not yours to turn. If you find one false, say at which input.
  Laid BY PROGRAM, IN A SANDBOX (cutbox-rows.mjs): the forced cells as the released guide's own fill.sh prints them over the translation 24d2c4c91b1b2947… (all of the seat's roots in one cut). By AI agents, Wed Nov 11 2026. No macro, syntax, notation, axiom, sorry.
-/
import Derived.Test.YtdnehibcpkjafaaGreatDoorChecked
import GoSem.Claim
import GoSem.ClaimJoined
import GoSem.ClaimMapViews
import Derived.JoinedTies
import Derived.KernelRfl
namespace Go.Proofs.YtdnehibcpkjafaaGreatDoor
/- THE CELL 'sum', in the pinned program and in every row, IS THE sha256 OF THE DUMP (.gsa) THAT YtdnehibcpkjafaaGreatDoorProg.lean LOADS. Nothing in Lean hashes anything: it is a label: what it is worth is what the hold of that sum in a sandbox is worth. -/
noncomputable def Tryz.pinned : Pinned := { name := "ytdnehibcpkjafaagreatdoor", sum := "24d2c4c91b1b2947e305585c8b31c3e7abaef88ca1da501fbf240881f04de335", checked := Tryz.checked }
namespace Rows
def none {H : Type} : Left H := { results := [], args := [] }

/- WHAT THE LISTED PACKAGE-LEVEL VARIABLES READ AS WHEN THE CALL BEGINS. Each datum BY PROGRAM (the guide's laid-datum.mjs) off the statement by which the dump's own 'gosem.cut.vars' lays the variable. In a bare row this is a premise. The card (YtdnehibcpkjafaaGreatDoorCards.lean) ties it to the program's text. -/
def laid_errors_errorType {H : Type} : DataW H := .iface "internal/reflectlite.rtype" (.agg [.ptr (.lit (.string [101, 114, 114, 111, 114]))])
def laid_wanderwire_varint_forms {H : Type} : DataW H := .agg [.agg [.lit (.int .i64 1), .lit (.int .i64 64)], .agg [.lit (.int .i64 2), .lit (.int .i64 16384)], .agg [.lit (.int .i64 4), .lit (.int .i64 1073741824)]]
def laid_wanderwire_frame_counts {H : Type} : DataW H := .agg [.lit (.int .i64 0), .lit (.int .i64 0), .lit (.int .i64 0), .lit (.int .i64 1), .lit (.int .i64 1), .lit (.int .i64 1), .lit (.int .i64 1), .lit (.int .i64 2), .lit (.int .i64 1)]

/-- 'wirelaw2.TalkPrefix': WHATEVER THE INPUT: true; the input reads as it did. -/
def talkPrefixSpec : ChangeSpec := { name := "talkPrefix", fn := fun _ => fun
  | [d1, d2, d3] => { results := [.lit (.bool true)], args := [d1, d2, d3] }
  | _ => none }
def talkPrefixRow : OpenClaim := { program := "ytdnehibcpkjafaagreatdoor", sum := "24d2c4c91b1b2947e305585c8b31c3e7abaef88ca1da501fbf240881f04de335", func := "wanderwire/wirelaw2.TalkPrefix", spec := "talkPrefix", inPlace := ["internal/reflectlite.ValueOf", "(internal/reflectlite.Value).Type", "(internal/reflectlite.Value).IsNil", "internal/reflectlite.TypeOf", "(internal/reflectlite.Value).Elem", "(internal/reflectlite.Value).Set"], unfollowed := true, recurses := true, named := ["wanderwire/frame.counts", "wanderwire/varint.forms", "errors.errorType"], apart := false, laid := [("errors.errorType", laid_errors_errorType), ("wanderwire/varint.forms", laid_wanderwire_varint_forms), ("wanderwire/frame.counts", laid_wanderwire_frame_counts)] }
def TalkPrefixSaid : Prop := talkPrefixRow.holds Tryz.pinned (OpenSpec.ofChange talkPrefixSpec)

/-- ITS FALSE NEIGHBOUR: 'it returns false'. Refute it at one input. -/
def talkPrefixWrong : ChangeSpec := { name := "talkPrefix", fn := fun _ => fun
  | [d1, d2, d3] => { results := [.lit (.bool false)], args := [d1, d2, d3] }
  | _ => none }
def TalkPrefixWrongFalsely : Prop := talkPrefixRow.holds Tryz.pinned (OpenSpec.ofChange talkPrefixWrong)

/-- 'wirelaw4.TalkSilent': WHATEVER THE INPUT: true; the input reads as it did. -/
def talkSilentSpec : ChangeSpec := { name := "talkSilent", fn := fun _ => fun
  | [d1, d2] => { results := [.lit (.bool true)], args := [d1, d2] }
  | _ => none }
def talkSilentRow : OpenClaim := { program := "ytdnehibcpkjafaagreatdoor", sum := "24d2c4c91b1b2947e305585c8b31c3e7abaef88ca1da501fbf240881f04de335", func := "wanderwire/wirelaw4.TalkSilent", spec := "talkSilent", unfollowed := true, recurses := true, named := ["wanderwire/frame.counts", "wanderwire/varint.forms"], apart := false, laid := [("wanderwire/varint.forms", laid_wanderwire_varint_forms), ("wanderwire/frame.counts", laid_wanderwire_frame_counts)] }
def TalkSilentSaid : Prop := talkSilentRow.holds Tryz.pinned (OpenSpec.ofChange talkSilentSpec)

/-- ITS FALSE NEIGHBOUR: 'it returns false'. Refute it at one input. -/
def talkSilentWrong : ChangeSpec := { name := "talkSilent", fn := fun _ => fun
  | [d1, d2] => { results := [.lit (.bool false)], args := [d1, d2] }
  | _ => none }
def TalkSilentWrongFalsely : Prop := talkSilentRow.holds Tryz.pinned (OpenSpec.ofChange talkSilentWrong)

/-- 'wirelaw2.TalkPlays': WHATEVER THE INPUT: true; the input reads as it did. -/
def talkPlaysSpec : ChangeSpec := { name := "talkPlays", fn := fun _ => fun
  | [d1, d2, d3] => { results := [.lit (.bool true)], args := [d1, d2, d3] }
  | _ => none }
def talkPlaysRow : OpenClaim := { program := "ytdnehibcpkjafaagreatdoor", sum := "24d2c4c91b1b2947e305585c8b31c3e7abaef88ca1da501fbf240881f04de335", func := "wanderwire/wirelaw2.TalkPlays", spec := "talkPlays", inPlace := ["internal/reflectlite.ValueOf", "(internal/reflectlite.Value).Type", "(internal/reflectlite.Value).IsNil", "internal/reflectlite.TypeOf", "(internal/reflectlite.Value).Elem", "(internal/reflectlite.Value).Set"], unfollowed := true, recurses := true, named := ["errors.errorType", "wanderwire/frame.counts", "wanderwire/varint.forms"], apart := false, laid := [("errors.errorType", laid_errors_errorType), ("wanderwire/varint.forms", laid_wanderwire_varint_forms), ("wanderwire/frame.counts", laid_wanderwire_frame_counts)] }
def TalkPlaysSaid : Prop := talkPlaysRow.holds Tryz.pinned (OpenSpec.ofChange talkPlaysSpec)

/-- ITS FALSE NEIGHBOUR: 'it returns false'. Refute it at one input. -/
def talkPlaysWrong : ChangeSpec := { name := "talkPlays", fn := fun _ => fun
  | [d1, d2, d3] => { results := [.lit (.bool false)], args := [d1, d2, d3] }
  | _ => none }
def TalkPlaysWrongFalsely : Prop := talkPlaysRow.holds Tryz.pinned (OpenSpec.ofChange talkPlaysWrong)

/- THE SECOND FORM. 'bulk': how many values and letters a reading holds, each counted each time it is reached (what is shared counts as often as it is met; a slice's spare places count too). A statement '..UptoSaid' is the law's where the arguments, and the package variables that the reading takes, are together of bulk at most 1048576: NARROWER than '..Said'. Prove '..Said' where nothing that the law and all that it calls make is longer than what came in: it says more and counts as full. Else prove '..UptoSaid'. A law counts once. -/
mutual
def uptoBulk {H : Type} : DataW H → Nat
  | .lit (.string bytes) => bytes.length + 1
  | .lit _ => 1
  | .nil => 1
  | .ptr d => uptoBulk d + 1
  | .slice elems spare => uptoBulkAll elems + uptoBulkAll spare + 1
  | .agg parts => uptoBulkAll parts + 1
  | .iface _ d => uptoBulk d + 1
  | .map entries => uptoBulkEntries entries + 1
  | .held _ => 1
def uptoBulkAll {H : Type} : List (DataW H) → Nat
  | [] => 0
  | d :: r => uptoBulk d + uptoBulkAll r
def uptoBulkEntries {H : Type} : List (Lit × DataW H) → Nat
  | [] => 0
  | x :: r => uptoBulkEntry x + uptoBulkEntries r
def uptoBulkEntry {H : Type} : Lit × DataW H → Nat
  | (.string bytes, d) => bytes.length + uptoBulk d + 1
  | (_, d) => uptoBulk d + 1
 end
def uptoSmall : (H : Type) → List (DataW H) → Bool := fun _ ds => decide (uptoBulkAll ds ≤ 1048576)
def OpenSpec.upto (s : _root_.Go.ChangeSpec) : _root_.Go.OpenSpec := { _root_.Go.OpenSpec.ofChange s with cond := some uptoSmall }

/-- 'wirelaw2.TalkPrefix', WHERE WHAT IT READS IS OF BULK AT MOST 1048576: true; the input reads as it did. -/
def talkPrefixUptoRow : OpenClaim := { program := "ytdnehibcpkjafaagreatdoor", sum := "24d2c4c91b1b2947e305585c8b31c3e7abaef88ca1da501fbf240881f04de335", func := "wanderwire/wirelaw2.TalkPrefix", spec := "talkPrefix", inPlace := ["internal/reflectlite.ValueOf", "(internal/reflectlite.Value).Type", "(internal/reflectlite.Value).IsNil", "internal/reflectlite.TypeOf", "(internal/reflectlite.Value).Elem", "(internal/reflectlite.Value).Set"], unfollowed := true, recurses := true, named := ["wanderwire/frame.counts", "wanderwire/varint.forms", "errors.errorType"], apart := false, laid := [("errors.errorType", laid_errors_errorType), ("wanderwire/varint.forms", laid_wanderwire_varint_forms), ("wanderwire/frame.counts", laid_wanderwire_frame_counts)], narrowed := true }
def TalkPrefixUptoSaid : Prop := talkPrefixUptoRow.holds Tryz.pinned (OpenSpec.upto talkPrefixSpec)

/-- 'wirelaw4.TalkSilent', WHERE WHAT IT READS IS OF BULK AT MOST 1048576: true; the input reads as it did. -/
def talkSilentUptoRow : OpenClaim := { program := "ytdnehibcpkjafaagreatdoor", sum := "24d2c4c91b1b2947e305585c8b31c3e7abaef88ca1da501fbf240881f04de335", func := "wanderwire/wirelaw4.TalkSilent", spec := "talkSilent", unfollowed := true, recurses := true, named := ["wanderwire/frame.counts", "wanderwire/varint.forms"], apart := false, laid := [("wanderwire/varint.forms", laid_wanderwire_varint_forms), ("wanderwire/frame.counts", laid_wanderwire_frame_counts)], narrowed := true }
def TalkSilentUptoSaid : Prop := talkSilentUptoRow.holds Tryz.pinned (OpenSpec.upto talkSilentSpec)

/-- 'wirelaw2.TalkPlays', WHERE WHAT IT READS IS OF BULK AT MOST 1048576: true; the input reads as it did. -/
def talkPlaysUptoRow : OpenClaim := { program := "ytdnehibcpkjafaagreatdoor", sum := "24d2c4c91b1b2947e305585c8b31c3e7abaef88ca1da501fbf240881f04de335", func := "wanderwire/wirelaw2.TalkPlays", spec := "talkPlays", inPlace := ["internal/reflectlite.ValueOf", "(internal/reflectlite.Value).Type", "(internal/reflectlite.Value).IsNil", "internal/reflectlite.TypeOf", "(internal/reflectlite.Value).Elem", "(internal/reflectlite.Value).Set"], unfollowed := true, recurses := true, named := ["errors.errorType", "wanderwire/frame.counts", "wanderwire/varint.forms"], apart := false, laid := [("errors.errorType", laid_errors_errorType), ("wanderwire/varint.forms", laid_wanderwire_varint_forms), ("wanderwire/frame.counts", laid_wanderwire_frame_counts)], narrowed := true }
def TalkPlaysUptoSaid : Prop := talkPlaysUptoRow.holds Tryz.pinned (OpenSpec.upto talkPlaysSpec)

end Rows
end Go.Proofs.YtdnehibcpkjafaaGreatDoor
