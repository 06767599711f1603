/-
  DERIVED. GIVEN WITH THE SEED: THE CARDS: each row of YtipmaphgkfegmaaDoorRows.lean that lists a variable, with what it lists TIED to the program's text (the seventh form; the later family's looks); each row that meets fmt, with fmt's text TOLD by the authors' own Lean function (tested against real Go, not proved from fmt's source: count such statements apart). THE CARD IS WHAT COUNTS. Prove the row's statement (the work); the ties are given (YtipmaphgkfegmaaDoorTie.lean); close each card by the builder's one call (the guide's Derived/Test/ToyasCard.lean, 'card_holds'). Laid BY PROGRAM, IN A SANDBOX (cutbox-door.mjs). By AI agents, Wed Nov 11 2026. No macro, syntax, notation, axiom, sorry.
-/
import Derived.Test.YtipmaphgkfegmaaDoorRows
import GoSem.ClaimSeven
namespace Go.Proofs.YtipmaphgkfegmaaDoor
namespace Rows

/-- THE TIED CARD OF 'wirelaw1.StreamOrder'. -/
def streamOrderCard : Claim7 := { stood := { row := streamOrderRow, standIns := [], harness := (true, "eecb5be8f131566c3f4655c426feae105bb9bd228addb101be784cce7bdfb053"), looks := true }, kinds := [], alts := [], laidByText := true, laidKinds := [.handle], laidTests := true, laidLooks := .later }
def StreamOrderCardSaid : Prop := Claim7.holds Tryd.pinned (.plain (OpenSpec.ofChange streamOrderSpec)) streamOrderCard

/-- THE TIED CARD OF 'wirelaw1.StreamPlays'. -/
def streamPlaysCard : Claim7 := { stood := { row := streamPlaysRow, standIns := [], harness := (true, "eecb5be8f131566c3f4655c426feae105bb9bd228addb101be784cce7bdfb053"), looks := true }, kinds := [], alts := [], laidByText := true, laidKinds := [.handle], laidTests := true, laidLooks := .later }
def StreamPlaysCardSaid : Prop := Claim7.holds Tryd.pinned (.plain (OpenSpec.ofChange streamPlaysSpec)) streamPlaysCard

/-- THE SECOND FORM's CARD OF 'wirelaw1.StreamOrder'. -/
def streamOrderUptoCard : Claim7 := { stood := { row := streamOrderUptoRow, standIns := [], harness := (true, "eecb5be8f131566c3f4655c426feae105bb9bd228addb101be784cce7bdfb053"), looks := true }, kinds := [], alts := [], laidByText := true, laidKinds := [.handle], laidTests := true, laidLooks := .later }
def StreamOrderUptoCardSaid : Prop := Claim7.holds Tryd.pinned (.plain (OpenSpec.upto streamOrderSpec)) streamOrderUptoCard

/-- THE SECOND FORM's CARD OF 'wirelaw1.StreamPlays'. -/
def streamPlaysUptoCard : Claim7 := { stood := { row := streamPlaysUptoRow, standIns := [], harness := (true, "eecb5be8f131566c3f4655c426feae105bb9bd228addb101be784cce7bdfb053"), looks := true }, kinds := [], alts := [], laidByText := true, laidKinds := [.handle], laidTests := true, laidLooks := .later }
def StreamPlaysUptoCardSaid : Prop := Claim7.holds Tryd.pinned (.plain (OpenSpec.upto streamPlaysSpec)) streamPlaysUptoCard
end Rows
end Go.Proofs.YtipmaphgkfegmaaDoor
