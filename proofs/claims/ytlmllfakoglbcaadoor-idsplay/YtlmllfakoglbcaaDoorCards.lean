/-
  DERIVED. GIVEN WITH THE SEED: THE CARDS: each row of YtlmllfakoglbcaaDoorRows.lean that lists a variable, with what it lists TIED to the program's text (the seventh form; the later family's looks); each row that meets fmt, with fmt's text TOLD by the authors' own Lean function (tested against real Go, not proved from fmt's source: count such statements apart). THE CARD IS WHAT COUNTS. Prove the row's statement (the work); the ties are given (YtlmllfakoglbcaaDoorTie.lean); close each card by the builder's one call (the guide's Derived/Test/ToyasCard.lean, 'card_holds'). Laid BY PROGRAM, IN A SANDBOX (cutbox-door.mjs). By AI agents, Wed Nov 11 2026. No macro, syntax, notation, axiom, sorry.
-/
import Derived.Test.YtlmllfakoglbcaaDoorRows
import GoSem.ClaimSeven
namespace Go.Proofs.YtlmllfakoglbcaaDoor
namespace Rows

/-- THE TIED CARD OF 'wirelaw1.IDsOnce'. -/
def iDsOnceCard : Claim7 := { stood := { row := iDsOnceRow, standIns := [], harness := (true, "a159c9ad9e3f94d068d6093a2623527fde74fc39df6c298cf6060e87e45ac0d0"), looks := true }, kinds := [], alts := [], laidByText := true, laidKinds := [.handle], laidTests := true, laidLooks := .later }
def IDsOnceCardSaid : Prop := Claim7.holds Tryd.pinned (.plain (OpenSpec.ofChange iDsOnceSpec)) iDsOnceCard

/-- THE TIED CARD OF 'wirelaw4.IDsFull'. -/
def iDsFullCard : Claim7 := { stood := { row := iDsFullRow, standIns := [], harness := (true, "a159c9ad9e3f94d068d6093a2623527fde74fc39df6c298cf6060e87e45ac0d0"), looks := true }, kinds := [], alts := [], laidByText := true, laidKinds := [.handle], laidTests := true, laidLooks := .later }
def IDsFullCardSaid : Prop := Claim7.holds Tryd.pinned (.plain (OpenSpec.ofChange iDsFullSpec)) iDsFullCard

/-- THE TIED CARD OF 'wirelaw1.IDsPlay'. -/
def iDsPlayCard : Claim7 := { stood := { row := iDsPlayRow, standIns := [], harness := (true, "a159c9ad9e3f94d068d6093a2623527fde74fc39df6c298cf6060e87e45ac0d0"), looks := true }, kinds := [], alts := [], laidByText := true, laidKinds := [.handle], laidTests := true, laidLooks := .later }
def IDsPlayCardSaid : Prop := Claim7.holds Tryd.pinned (.plain (OpenSpec.ofChange iDsPlaySpec)) iDsPlayCard

/-- THE SECOND FORM's CARD OF 'wirelaw1.IDsOnce'. -/
def iDsOnceUptoCard : Claim7 := { stood := { row := iDsOnceUptoRow, standIns := [], harness := (true, "a159c9ad9e3f94d068d6093a2623527fde74fc39df6c298cf6060e87e45ac0d0"), looks := true }, kinds := [], alts := [], laidByText := true, laidKinds := [.handle], laidTests := true, laidLooks := .later }
def IDsOnceUptoCardSaid : Prop := Claim7.holds Tryd.pinned (.plain (OpenSpec.upto iDsOnceSpec)) iDsOnceUptoCard

/-- THE SECOND FORM's CARD OF 'wirelaw4.IDsFull'. -/
def iDsFullUptoCard : Claim7 := { stood := { row := iDsFullUptoRow, standIns := [], harness := (true, "a159c9ad9e3f94d068d6093a2623527fde74fc39df6c298cf6060e87e45ac0d0"), looks := true }, kinds := [], alts := [], laidByText := true, laidKinds := [.handle], laidTests := true, laidLooks := .later }
def IDsFullUptoCardSaid : Prop := Claim7.holds Tryd.pinned (.plain (OpenSpec.upto iDsFullSpec)) iDsFullUptoCard

/-- THE SECOND FORM's CARD OF 'wirelaw1.IDsPlay'. -/
def iDsPlayUptoCard : Claim7 := { stood := { row := iDsPlayUptoRow, standIns := [], harness := (true, "a159c9ad9e3f94d068d6093a2623527fde74fc39df6c298cf6060e87e45ac0d0"), looks := true }, kinds := [], alts := [], laidByText := true, laidKinds := [.handle], laidTests := true, laidLooks := .later }
def IDsPlayUptoCardSaid : Prop := Claim7.holds Tryd.pinned (.plain (OpenSpec.upto iDsPlaySpec)) iDsPlayUptoCard
end Rows
end Go.Proofs.YtlmllfakoglbcaaDoor
