/-
  NARROWER THAN 'FOR EVERY INPUT', by the rows' own cells (each row's printed sentence says how): AckTells: laid · AckBack: laid · AckOne: laid.
  DERIVED. THE GIVEN ROWS OF THIS SEAT. 3 by the template 'for every input the law returns true; each argument reads behind the call as it read before'; 0 by the template 'total and deterministic' (their statements: YtdemmpakiopgjaaDoorTotals.lean).
  GIVEN WITH THE SEED: the statements are not yours to turn. If you find one false, say at which input.
  Laid BY PROGRAM, IN A SANDBOX (cutbox-rows.mjs): the forced cells as the released guide's own fill.sh prints them over the translation 043ec2ee3e1ac320… (all of the seat's roots in one cut). By AI agents, Wed Nov 11 2026. No macro, syntax, notation, axiom, sorry.
-/
import Derived.Test.YtdemmpakiopgjaaDoorChecked
import GoSem.Claim
import GoSem.ClaimJoined
import GoSem.ClaimMapViews
import Derived.JoinedTies
import Derived.KernelRfl
namespace Go.Proofs.YtdemmpakiopgjaaDoor
/- THE CELL 'sum', in the pinned program and in every row, IS THE sha256 OF THE DUMP (.gsa) THAT YtdemmpakiopgjaaDoorProg.lean LOADS. Nothing in Lean hashes anything: it is a label: what it is worth is what the hold of that sum in a sandbox is worth. -/
noncomputable def Tryd.pinned : Pinned := { name := "ytdemmpakiopgjaadoor", sum := "043ec2ee3e1ac320cbd34b20e187b9a3fa2a866e57e43bf57ed9b073aaabe1ff", checked := Tryd.checked }
namespace Rows
def none {H : Type} : Left H := { results := [], args := [] }

/- WHAT THE LISTED PACKAGE-LEVEL VARIABLES READ AS WHEN THE CALL BEGINS. Each datum BY PROGRAM (the guide's laid-datum.mjs) off the statement by which the dump's own 'gosem.cut.vars' lays the variable. In a bare row this is a premise. The card (YtdemmpakiopgjaaDoorCards.lean) ties it to the program's text. -/
def laid_errors_errorType {H : Type} : DataW H := .iface "internal/reflectlite.rtype" (.agg [.ptr (.lit (.string [101, 114, 114, 111, 114]))])
def laid_wanderwire_varint_forms {H : Type} : DataW H := .agg [.agg [.lit (.int .i64 1), .lit (.int .i64 64)], .agg [.lit (.int .i64 2), .lit (.int .i64 16384)], .agg [.lit (.int .i64 4), .lit (.int .i64 1073741824)]]

/-- 'wirelaw1.AckTells': WHATEVER THE INPUT: true; the input reads as it did. -/
def ackTellsSpec : ChangeSpec := { name := "ackTells", fn := fun _ => fun
  | [d1, d2] => { results := [.lit (.bool true)], args := [d1, d2] }
  | _ => none }
def ackTellsRow : OpenClaim := { program := "ytdemmpakiopgjaadoor", sum := "043ec2ee3e1ac320cbd34b20e187b9a3fa2a866e57e43bf57ed9b073aaabe1ff", func := "wanderwire/wirelaw1.AckTells", spec := "ackTells", inPlace := ["internal/reflectlite.ValueOf", "(internal/reflectlite.Value).Type", "(internal/reflectlite.Value).IsNil", "internal/reflectlite.TypeOf", "(internal/reflectlite.Value).Elem", "(internal/reflectlite.Value).Set"], unfollowed := true, recurses := true, named := ["wanderwire/varint.forms", "errors.errorType"], apart := false, laid := [("errors.errorType", laid_errors_errorType), ("wanderwire/varint.forms", laid_wanderwire_varint_forms)] }
def AckTellsSaid : Prop := ackTellsRow.holds Tryd.pinned (OpenSpec.ofChange ackTellsSpec)

/-- ITS FALSE NEIGHBOUR: 'it returns false'. Refute it at one input. -/
def ackTellsWrong : ChangeSpec := { name := "ackTells", fn := fun _ => fun
  | [d1, d2] => { results := [.lit (.bool false)], args := [d1, d2] }
  | _ => none }
def AckTellsWrongFalsely : Prop := ackTellsRow.holds Tryd.pinned (OpenSpec.ofChange ackTellsWrong)

/-- 'wirelaw1.AckBack': WHATEVER THE INPUT: true; the input reads as it did. -/
def ackBackSpec : ChangeSpec := { name := "ackBack", fn := fun _ => fun
  | [d1, d2] => { results := [.lit (.bool true)], args := [d1, d2] }
  | _ => none }
def ackBackRow : OpenClaim := { program := "ytdemmpakiopgjaadoor", sum := "043ec2ee3e1ac320cbd34b20e187b9a3fa2a866e57e43bf57ed9b073aaabe1ff", func := "wanderwire/wirelaw1.AckBack", spec := "ackBack", unfollowed := true, recurses := true, named := ["wanderwire/varint.forms"], apart := false, laid := [("wanderwire/varint.forms", laid_wanderwire_varint_forms)] }
def AckBackSaid : Prop := ackBackRow.holds Tryd.pinned (OpenSpec.ofChange ackBackSpec)

/-- ITS FALSE NEIGHBOUR: 'it returns false'. Refute it at one input. -/
def ackBackWrong : ChangeSpec := { name := "ackBack", fn := fun _ => fun
  | [d1, d2] => { results := [.lit (.bool false)], args := [d1, d2] }
  | _ => none }
def AckBackWrongFalsely : Prop := ackBackRow.holds Tryd.pinned (OpenSpec.ofChange ackBackWrong)

/-- 'wirelaw4.AckOne': WHATEVER THE INPUT: true; the input reads as it did. -/
def ackOneSpec : ChangeSpec := { name := "ackOne", fn := fun _ => fun
  | [d] => { results := [.lit (.bool true)], args := [d] }
  | _ => none }
def ackOneRow : OpenClaim := { program := "ytdemmpakiopgjaadoor", sum := "043ec2ee3e1ac320cbd34b20e187b9a3fa2a866e57e43bf57ed9b073aaabe1ff", func := "wanderwire/wirelaw4.AckOne", spec := "ackOne", unfollowed := true, recurses := true, named := ["wanderwire/varint.forms"], apart := false, laid := [("wanderwire/varint.forms", laid_wanderwire_varint_forms)] }
def AckOneSaid : Prop := ackOneRow.holds Tryd.pinned (OpenSpec.ofChange ackOneSpec)

/-- ITS FALSE NEIGHBOUR: 'it returns false'. Refute it at one input. -/
def ackOneWrong : ChangeSpec := { name := "ackOne", fn := fun _ => fun
  | [d] => { results := [.lit (.bool false)], args := [d] }
  | _ => none }
def AckOneWrongFalsely : Prop := ackOneRow.holds Tryd.pinned (OpenSpec.ofChange ackOneWrong)

/- THE SECOND FORM. 'bulk': how many values and letters a reading holds, each counted each time it is reached (what is shared counts as often as it is met; a slice's spare places count too). A statement '..UptoSaid' is the law's where the arguments, and the package variables that the reading takes, are together of bulk at most 1048576: NARROWER than '..Said'. Prove '..Said' where nothing that the law and all that it calls make is longer than what came in: it says more and counts as full. Else prove '..UptoSaid'. A law counts once. -/
mutual
def uptoBulk {H : Type} : DataW H → Nat
  | .lit (.string bytes) => bytes.length + 1
  | .lit _ => 1
  | .nil => 1
  | .ptr d => uptoBulk d + 1
  | .slice elems spare => uptoBulkAll elems + uptoBulkAll spare + 1
  | .agg parts => uptoBulkAll parts + 1
  | .iface _ d => uptoBulk d + 1
  | .map entries => uptoBulkEntries entries + 1
  | .held _ => 1
def uptoBulkAll {H : Type} : List (DataW H) → Nat
  | [] => 0
  | d :: r => uptoBulk d + uptoBulkAll r
def uptoBulkEntries {H : Type} : List (Lit × DataW H) → Nat
  | [] => 0
  | x :: r => uptoBulkEntry x + uptoBulkEntries r
def uptoBulkEntry {H : Type} : Lit × DataW H → Nat
  | (.string bytes, d) => bytes.length + uptoBulk d + 1
  | (_, d) => uptoBulk d + 1
 end
def uptoSmall : (H : Type) → List (DataW H) → Bool := fun _ ds => decide (uptoBulkAll ds ≤ 1048576)
def OpenSpec.upto (s : _root_.Go.ChangeSpec) : _root_.Go.OpenSpec := { _root_.Go.OpenSpec.ofChange s with cond := some uptoSmall }

/-- 'wirelaw1.AckTells', WHERE WHAT IT READS IS OF BULK AT MOST 1048576: true; the input reads as it did. -/
def ackTellsUptoRow : OpenClaim := { program := "ytdemmpakiopgjaadoor", sum := "043ec2ee3e1ac320cbd34b20e187b9a3fa2a866e57e43bf57ed9b073aaabe1ff", func := "wanderwire/wirelaw1.AckTells", spec := "ackTells", inPlace := ["internal/reflectlite.ValueOf", "(internal/reflectlite.Value).Type", "(internal/reflectlite.Value).IsNil", "internal/reflectlite.TypeOf", "(internal/reflectlite.Value).Elem", "(internal/reflectlite.Value).Set"], unfollowed := true, recurses := true, named := ["wanderwire/varint.forms", "errors.errorType"], apart := false, laid := [("errors.errorType", laid_errors_errorType), ("wanderwire/varint.forms", laid_wanderwire_varint_forms)], narrowed := true }
def AckTellsUptoSaid : Prop := ackTellsUptoRow.holds Tryd.pinned (OpenSpec.upto ackTellsSpec)

/-- 'wirelaw1.AckBack', WHERE WHAT IT READS IS OF BULK AT MOST 1048576: true; the input reads as it did. -/
def ackBackUptoRow : OpenClaim := { program := "ytdemmpakiopgjaadoor", sum := "043ec2ee3e1ac320cbd34b20e187b9a3fa2a866e57e43bf57ed9b073aaabe1ff", func := "wanderwire/wirelaw1.AckBack", spec := "ackBack", unfollowed := true, recurses := true, named := ["wanderwire/varint.forms"], apart := false, laid := [("wanderwire/varint.forms", laid_wanderwire_varint_forms)], narrowed := true }
def AckBackUptoSaid : Prop := ackBackUptoRow.holds Tryd.pinned (OpenSpec.upto ackBackSpec)

/-- 'wirelaw4.AckOne', WHERE WHAT IT READS IS OF BULK AT MOST 1048576: true; the input reads as it did. -/
def ackOneUptoRow : OpenClaim := { program := "ytdemmpakiopgjaadoor", sum := "043ec2ee3e1ac320cbd34b20e187b9a3fa2a866e57e43bf57ed9b073aaabe1ff", func := "wanderwire/wirelaw4.AckOne", spec := "ackOne", unfollowed := true, recurses := true, named := ["wanderwire/varint.forms"], apart := false, laid := [("wanderwire/varint.forms", laid_wanderwire_varint_forms)], narrowed := true }
def AckOneUptoSaid : Prop := ackOneUptoRow.holds Tryd.pinned (OpenSpec.upto ackOneSpec)

end Rows
end Go.Proofs.YtdemmpakiopgjaaDoor
