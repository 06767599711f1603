/-
  DERIVED. GIVEN WITH THE SEED: THE CARDS: each row of YtkfhfljoalbkkaaDoorRows.lean that lists a variable, with what it lists TIED to the program's text (the seventh form; the later family's looks); each row that meets fmt, with fmt's text TOLD by the authors' own Lean function (tested against real Go, not proved from fmt's source: count such statements apart). THE CARD IS WHAT COUNTS. Prove the row's statement (the work); the ties are given (YtkfhfljoalbkkaaDoorTie.lean); close each card by the builder's one call (the guide's Derived/Test/ToyasCard.lean, 'card_holds'). Laid BY PROGRAM, IN A SANDBOX (cutbox-door.mjs). By AI agents, Wed Nov 11 2026. No macro, syntax, notation, axiom, sorry.
-/
import Derived.Test.YtkfhfljoalbkkaaDoorRows
import GoSem.ClaimSeven
namespace Go.Proofs.YtkfhfljoalbkkaaDoor
namespace Rows

/-- THE TIED CARD OF 'wirelaw1.ProofHere'. -/
def proofHereCard : Claim7 := { stood := { row := proofHereRow, standIns := [], harness := (true, "c93f91e61340733c420d25b4cab91c1db64d3db3d6ef0088dc0b059fa38addd6"), looks := true }, kinds := [], alts := [], laidByText := true, laidKinds := [.handle], laidTests := true, laidLooks := .later }
def ProofHereCardSaid : Prop := Claim7.holds Tryd.pinned (.plain (OpenSpec.ofChange proofHereSpec)) proofHereCard

/-- THE TIED CARD OF 'wirelaw4.ProofMany'. -/
def proofManyCard : Claim7 := { stood := { row := proofManyRow, standIns := [], harness := (true, "c93f91e61340733c420d25b4cab91c1db64d3db3d6ef0088dc0b059fa38addd6"), looks := true }, kinds := [], alts := [], laidByText := true, laidKinds := [.handle], laidTests := true, laidLooks := .later }
def ProofManyCardSaid : Prop := Claim7.holds Tryd.pinned (.plain (OpenSpec.ofChange proofManySpec)) proofManyCard

/-- THE TIED CARD OF 'wirelaw1.ProofPlays'. -/
def proofPlaysCard : Claim7 := { stood := { row := proofPlaysRow, standIns := [], harness := (true, "c93f91e61340733c420d25b4cab91c1db64d3db3d6ef0088dc0b059fa38addd6"), looks := true }, kinds := [], alts := [], laidByText := true, laidKinds := [.handle], laidTests := true, laidLooks := .later }
def ProofPlaysCardSaid : Prop := Claim7.holds Tryd.pinned (.plain (OpenSpec.ofChange proofPlaysSpec)) proofPlaysCard

/-- THE SECOND FORM's CARD OF 'wirelaw1.ProofHere'. -/
def proofHereUptoCard : Claim7 := { stood := { row := proofHereUptoRow, standIns := [], harness := (true, "c93f91e61340733c420d25b4cab91c1db64d3db3d6ef0088dc0b059fa38addd6"), looks := true }, kinds := [], alts := [], laidByText := true, laidKinds := [.handle], laidTests := true, laidLooks := .later }
def ProofHereUptoCardSaid : Prop := Claim7.holds Tryd.pinned (.plain (OpenSpec.upto proofHereSpec)) proofHereUptoCard

/-- THE SECOND FORM's CARD OF 'wirelaw4.ProofMany'. -/
def proofManyUptoCard : Claim7 := { stood := { row := proofManyUptoRow, standIns := [], harness := (true, "c93f91e61340733c420d25b4cab91c1db64d3db3d6ef0088dc0b059fa38addd6"), looks := true }, kinds := [], alts := [], laidByText := true, laidKinds := [.handle], laidTests := true, laidLooks := .later }
def ProofManyUptoCardSaid : Prop := Claim7.holds Tryd.pinned (.plain (OpenSpec.upto proofManySpec)) proofManyUptoCard

/-- THE SECOND FORM's CARD OF 'wirelaw1.ProofPlays'. -/
def proofPlaysUptoCard : Claim7 := { stood := { row := proofPlaysUptoRow, standIns := [], harness := (true, "c93f91e61340733c420d25b4cab91c1db64d3db3d6ef0088dc0b059fa38addd6"), looks := true }, kinds := [], alts := [], laidByText := true, laidKinds := [.handle], laidTests := true, laidLooks := .later }
def ProofPlaysUptoCardSaid : Prop := Claim7.holds Tryd.pinned (.plain (OpenSpec.upto proofPlaysSpec)) proofPlaysUptoCard
end Rows
end Go.Proofs.YtkfhfljoalbkkaaDoor
