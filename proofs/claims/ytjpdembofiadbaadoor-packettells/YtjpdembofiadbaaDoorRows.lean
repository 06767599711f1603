/-
  NARROWER THAN 'FOR EVERY INPUT', by the rows' own cells (each row's printed sentence says how): PacketTells: laid · PacketBack: laid · PacketPing: laid.
  DERIVED. THE GIVEN ROWS OF THIS SEAT. 3 by the template 'for every input the law returns true; each argument reads behind the call as it read before'; 0 by the template 'total and deterministic' (their statements: YtjpdembofiadbaaDoorTotals.lean).
  GIVEN WITH THE SEED: the statements are not yours to turn. If you find one false, say at which input.
  Laid BY PROGRAM, IN A SANDBOX (cutbox-rows.mjs): the forced cells as the released guide's own fill.sh prints them over the translation becff3f868bbf13d… (all of the seat's roots in one cut). By AI agents, Wed Nov 11 2026. No macro, syntax, notation, axiom, sorry.
-/
import Derived.Test.YtjpdembofiadbaaDoorChecked
import GoSem.Claim
import GoSem.ClaimJoined
import GoSem.ClaimMapViews
import Derived.JoinedTies
import Derived.KernelRfl
namespace Go.Proofs.YtjpdembofiadbaaDoor
/- THE CELL 'sum', in the pinned program and in every row, IS THE sha256 OF THE DUMP (.gsa) THAT YtjpdembofiadbaaDoorProg.lean LOADS. Nothing in Lean hashes anything: it is a label: what it is worth is what the hold of that sum in a sandbox is worth. -/
noncomputable def Tryd.pinned : Pinned := { name := "ytjpdembofiadbaadoor", sum := "becff3f868bbf13d15de124e2bb954c18c5739673a27c4813d4a01e6dd538bb4", checked := Tryd.checked }
namespace Rows
def none {H : Type} : Left H := { results := [], args := [] }

/- WHAT THE LISTED PACKAGE-LEVEL VARIABLES READ AS WHEN THE CALL BEGINS. Each datum BY PROGRAM (the guide's laid-datum.mjs) off the statement by which the dump's own 'gosem.cut.vars' lays the variable. In a bare row this is a premise. The card (YtjpdembofiadbaaDoorCards.lean) ties it to the program's text. -/
def laid_errors_errorType {H : Type} : DataW H := .iface "internal/reflectlite.rtype" (.agg [.ptr (.lit (.string [101, 114, 114, 111, 114]))])
def laid_wanderwire_varint_forms {H : Type} : DataW H := .agg [.agg [.lit (.int .i64 1), .lit (.int .i64 64)], .agg [.lit (.int .i64 2), .lit (.int .i64 16384)], .agg [.lit (.int .i64 4), .lit (.int .i64 1073741824)]]
def laid_wanderwire_frame_counts {H : Type} : DataW H := .agg [.lit (.int .i64 0), .lit (.int .i64 0), .lit (.int .i64 0), .lit (.int .i64 1), .lit (.int .i64 1), .lit (.int .i64 1), .lit (.int .i64 1), .lit (.int .i64 2), .lit (.int .i64 1)]

/-- 'wirelaw2.PacketTells': WHATEVER THE INPUT: true; the input reads as it did. -/
def packetTellsSpec : ChangeSpec := { name := "packetTells", fn := fun _ => fun
  | [d1, d2, d3, d4, d5] => { results := [.lit (.bool true)], args := [d1, d2, d3, d4, d5] }
  | _ => none }
def packetTellsRow : OpenClaim := { program := "ytjpdembofiadbaadoor", sum := "becff3f868bbf13d15de124e2bb954c18c5739673a27c4813d4a01e6dd538bb4", func := "wanderwire/wirelaw2.PacketTells", spec := "packetTells", inPlace := ["internal/reflectlite.ValueOf", "(internal/reflectlite.Value).Type", "(internal/reflectlite.Value).IsNil", "internal/reflectlite.TypeOf", "(internal/reflectlite.Value).Elem", "(internal/reflectlite.Value).Set"], unfollowed := true, recurses := true, named := ["wanderwire/frame.counts", "wanderwire/varint.forms", "errors.errorType"], apart := false, laid := [("errors.errorType", laid_errors_errorType), ("wanderwire/varint.forms", laid_wanderwire_varint_forms), ("wanderwire/frame.counts", laid_wanderwire_frame_counts)] }
def PacketTellsSaid : Prop := packetTellsRow.holds Tryd.pinned (OpenSpec.ofChange packetTellsSpec)

/-- ITS FALSE NEIGHBOUR: 'it returns false'. Refute it at one input. -/
def packetTellsWrong : ChangeSpec := { name := "packetTells", fn := fun _ => fun
  | [d1, d2, d3, d4, d5] => { results := [.lit (.bool false)], args := [d1, d2, d3, d4, d5] }
  | _ => none }
def PacketTellsWrongFalsely : Prop := packetTellsRow.holds Tryd.pinned (OpenSpec.ofChange packetTellsWrong)

/-- 'wirelaw2.PacketBack': WHATEVER THE INPUT: true; the input reads as it did. -/
def packetBackSpec : ChangeSpec := { name := "packetBack", fn := fun _ => fun
  | [d1, d2, d3, d4] => { results := [.lit (.bool true)], args := [d1, d2, d3, d4] }
  | _ => none }
def packetBackRow : OpenClaim := { program := "ytjpdembofiadbaadoor", sum := "becff3f868bbf13d15de124e2bb954c18c5739673a27c4813d4a01e6dd538bb4", func := "wanderwire/wirelaw2.PacketBack", spec := "packetBack", unfollowed := true, recurses := true, named := ["wanderwire/frame.counts", "wanderwire/varint.forms"], apart := false, laid := [("wanderwire/varint.forms", laid_wanderwire_varint_forms), ("wanderwire/frame.counts", laid_wanderwire_frame_counts)] }
def PacketBackSaid : Prop := packetBackRow.holds Tryd.pinned (OpenSpec.ofChange packetBackSpec)

/-- ITS FALSE NEIGHBOUR: 'it returns false'. Refute it at one input. -/
def packetBackWrong : ChangeSpec := { name := "packetBack", fn := fun _ => fun
  | [d1, d2, d3, d4] => { results := [.lit (.bool false)], args := [d1, d2, d3, d4] }
  | _ => none }
def PacketBackWrongFalsely : Prop := packetBackRow.holds Tryd.pinned (OpenSpec.ofChange packetBackWrong)

/-- 'wirelaw4.PacketPing': WHATEVER THE INPUT: true; the input reads as it did. -/
def packetPingSpec : ChangeSpec := { name := "packetPing", fn := fun _ => fun
  | [d] => { results := [.lit (.bool true)], args := [d] }
  | _ => none }
def packetPingRow : OpenClaim := { program := "ytjpdembofiadbaadoor", sum := "becff3f868bbf13d15de124e2bb954c18c5739673a27c4813d4a01e6dd538bb4", func := "wanderwire/wirelaw4.PacketPing", spec := "packetPing", inPlace := ["internal/reflectlite.ValueOf", "(internal/reflectlite.Value).Type", "(internal/reflectlite.Value).IsNil", "internal/reflectlite.TypeOf", "(internal/reflectlite.Value).Elem", "(internal/reflectlite.Value).Set"], unfollowed := true, recurses := true, named := ["wanderwire/frame.counts", "wanderwire/varint.forms", "errors.errorType"], apart := false, laid := [("errors.errorType", laid_errors_errorType), ("wanderwire/varint.forms", laid_wanderwire_varint_forms), ("wanderwire/frame.counts", laid_wanderwire_frame_counts)] }
def PacketPingSaid : Prop := packetPingRow.holds Tryd.pinned (OpenSpec.ofChange packetPingSpec)

/-- ITS FALSE NEIGHBOUR: 'it returns false'. Refute it at one input. -/
def packetPingWrong : ChangeSpec := { name := "packetPing", fn := fun _ => fun
  | [d] => { results := [.lit (.bool false)], args := [d] }
  | _ => none }
def PacketPingWrongFalsely : Prop := packetPingRow.holds Tryd.pinned (OpenSpec.ofChange packetPingWrong)

/- THE SECOND FORM. 'bulk': how many values and letters a reading holds, each counted each time it is reached (what is shared counts as often as it is met; a slice's spare places count too). A statement '..UptoSaid' is the law's where the arguments, and the package variables that the reading takes, are together of bulk at most 1048576: NARROWER than '..Said'. Prove '..Said' where nothing that the law and all that it calls make is longer than what came in: it says more and counts as full. Else prove '..UptoSaid'. A law counts once. -/
mutual
def uptoBulk {H : Type} : DataW H → Nat
  | .lit (.string bytes) => bytes.length + 1
  | .lit _ => 1
  | .nil => 1
  | .ptr d => uptoBulk d + 1
  | .slice elems spare => uptoBulkAll elems + uptoBulkAll spare + 1
  | .agg parts => uptoBulkAll parts + 1
  | .iface _ d => uptoBulk d + 1
  | .map entries => uptoBulkEntries entries + 1
  | .held _ => 1
def uptoBulkAll {H : Type} : List (DataW H) → Nat
  | [] => 0
  | d :: r => uptoBulk d + uptoBulkAll r
def uptoBulkEntries {H : Type} : List (Lit × DataW H) → Nat
  | [] => 0
  | x :: r => uptoBulkEntry x + uptoBulkEntries r
def uptoBulkEntry {H : Type} : Lit × DataW H → Nat
  | (.string bytes, d) => bytes.length + uptoBulk d + 1
  | (_, d) => uptoBulk d + 1
 end
def uptoSmall : (H : Type) → List (DataW H) → Bool := fun _ ds => decide (uptoBulkAll ds ≤ 1048576)
def OpenSpec.upto (s : _root_.Go.ChangeSpec) : _root_.Go.OpenSpec := { _root_.Go.OpenSpec.ofChange s with cond := some uptoSmall }

/-- 'wirelaw2.PacketTells', WHERE WHAT IT READS IS OF BULK AT MOST 1048576: true; the input reads as it did. -/
def packetTellsUptoRow : OpenClaim := { program := "ytjpdembofiadbaadoor", sum := "becff3f868bbf13d15de124e2bb954c18c5739673a27c4813d4a01e6dd538bb4", func := "wanderwire/wirelaw2.PacketTells", spec := "packetTells", inPlace := ["internal/reflectlite.ValueOf", "(internal/reflectlite.Value).Type", "(internal/reflectlite.Value).IsNil", "internal/reflectlite.TypeOf", "(internal/reflectlite.Value).Elem", "(internal/reflectlite.Value).Set"], unfollowed := true, recurses := true, named := ["wanderwire/frame.counts", "wanderwire/varint.forms", "errors.errorType"], apart := false, laid := [("errors.errorType", laid_errors_errorType), ("wanderwire/varint.forms", laid_wanderwire_varint_forms), ("wanderwire/frame.counts", laid_wanderwire_frame_counts)], narrowed := true }
def PacketTellsUptoSaid : Prop := packetTellsUptoRow.holds Tryd.pinned (OpenSpec.upto packetTellsSpec)

/-- 'wirelaw2.PacketBack', WHERE WHAT IT READS IS OF BULK AT MOST 1048576: true; the input reads as it did. -/
def packetBackUptoRow : OpenClaim := { program := "ytjpdembofiadbaadoor", sum := "becff3f868bbf13d15de124e2bb954c18c5739673a27c4813d4a01e6dd538bb4", func := "wanderwire/wirelaw2.PacketBack", spec := "packetBack", unfollowed := true, recurses := true, named := ["wanderwire/frame.counts", "wanderwire/varint.forms"], apart := false, laid := [("wanderwire/varint.forms", laid_wanderwire_varint_forms), ("wanderwire/frame.counts", laid_wanderwire_frame_counts)], narrowed := true }
def PacketBackUptoSaid : Prop := packetBackUptoRow.holds Tryd.pinned (OpenSpec.upto packetBackSpec)

/-- 'wirelaw4.PacketPing', WHERE WHAT IT READS IS OF BULK AT MOST 1048576: true; the input reads as it did. -/
def packetPingUptoRow : OpenClaim := { program := "ytjpdembofiadbaadoor", sum := "becff3f868bbf13d15de124e2bb954c18c5739673a27c4813d4a01e6dd538bb4", func := "wanderwire/wirelaw4.PacketPing", spec := "packetPing", inPlace := ["internal/reflectlite.ValueOf", "(internal/reflectlite.Value).Type", "(internal/reflectlite.Value).IsNil", "internal/reflectlite.TypeOf", "(internal/reflectlite.Value).Elem", "(internal/reflectlite.Value).Set"], unfollowed := true, recurses := true, named := ["wanderwire/frame.counts", "wanderwire/varint.forms", "errors.errorType"], apart := false, laid := [("errors.errorType", laid_errors_errorType), ("wanderwire/varint.forms", laid_wanderwire_varint_forms), ("wanderwire/frame.counts", laid_wanderwire_frame_counts)], narrowed := true }
def PacketPingUptoSaid : Prop := packetPingUptoRow.holds Tryd.pinned (OpenSpec.upto packetPingSpec)

end Rows
end Go.Proofs.YtjpdembofiadbaaDoor
