/-
  DERIVED. GIVEN WITH THE SEED: THE CARDS: each row of YtoabfilliiopmaaGreatDoorRows.lean that lists a variable, with what it lists TIED to the program's text (the seventh form; the later family's looks); each row that meets fmt, with fmt's text TOLD by the authors' own Lean function (tested against real Go, not proved from fmt's source: count such statements apart). THE CARD IS WHAT COUNTS. Prove the row's statement (the work); the ties are given (YtoabfilliiopmaaGreatDoorTie.lean); close each card by the builder's one call (the guide's Derived/Test/ToyasCard.lean, 'card_holds'). Laid BY PROGRAM, IN A SANDBOX (cutbox-door.mjs). By AI agents, Wed Nov 11 2026. No macro, syntax, notation, axiom, sorry.
-/
import Derived.Test.YtoabfilliiopmaaGreatDoorRows
import GoSem.ClaimSeven
namespace Go.Proofs.YtoabfilliiopmaaGreatDoor
namespace Rows

/-- THE TIED CARD OF 'wirelaw2.EndTwice'. -/
def endTwiceCard : Claim7 := { stood := { row := endTwiceRow, standIns := [], harness := (true, "f249dbef8b0bf1e6ab450fe9245f6c18076f4c97757d516edb1e17c7faeda38e"), looks := true }, kinds := [], alts := [], laidByText := true, laidKinds := [.data, .data], laidTests := true, laidLooks := .later }
def EndTwiceCardSaid : Prop := Claim7.holds Tryz.pinned (.plain (OpenSpec.ofChange endTwiceSpec)) endTwiceCard

/-- THE TIED CARD OF 'wirelaw2.EndPlays'. -/
def endPlaysCard : Claim7 := { stood := { row := endPlaysRow, standIns := [], harness := (true, "f249dbef8b0bf1e6ab450fe9245f6c18076f4c97757d516edb1e17c7faeda38e"), looks := true }, kinds := [], alts := [], laidByText := true, laidKinds := [.handle, .data, .data], laidTests := true, laidLooks := .later }
def EndPlaysCardSaid : Prop := Claim7.holds Tryz.pinned (.plain (OpenSpec.ofChange endPlaysSpec)) endPlaysCard

/-- THE TIED CARD OF 'wiretop.TopLossy'. -/
def topLossyCard : Claim7 := { stood := { row := topLossyRow, standIns := [], harness := (true, "f249dbef8b0bf1e6ab450fe9245f6c18076f4c97757d516edb1e17c7faeda38e"), looks := true }, kinds := [], alts := [], laidByText := true, laidKinds := [.handle, .data, .data], laidTests := true, laidLooks := .later }
def TopLossyCardSaid : Prop := Claim7.holds Tryz.pinned (.plain (OpenSpec.ofChange topLossySpec)) topLossyCard

/-- THE TIED CARD OF 'wiretop.TopFlight'. -/
def topFlightCard : Claim7 := { stood := { row := topFlightRow, standIns := [], harness := (true, "f249dbef8b0bf1e6ab450fe9245f6c18076f4c97757d516edb1e17c7faeda38e"), looks := true }, kinds := [], alts := [], laidByText := true, laidKinds := [.data, .data], laidTests := true, laidLooks := .later }
def TopFlightCardSaid : Prop := Claim7.holds Tryz.pinned (.plain (OpenSpec.ofChange topFlightSpec)) topFlightCard

/-- THE TIED CARD OF 'wiretop.TopPaths'. -/
def topPathsCard : Claim7 := { stood := { row := topPathsRow, standIns := [], harness := (true, "f249dbef8b0bf1e6ab450fe9245f6c18076f4c97757d516edb1e17c7faeda38e"), looks := true }, kinds := [], alts := [], laidByText := true, laidKinds := [.data, .data], laidTests := true, laidLooks := .later }
def TopPathsCardSaid : Prop := Claim7.holds Tryz.pinned (.plain (OpenSpec.ofChange topPathsSpec)) topPathsCard

/-- THE SECOND FORM's CARD OF 'wirelaw2.EndTwice'. -/
def endTwiceUptoCard : Claim7 := { stood := { row := endTwiceUptoRow, standIns := [], harness := (true, "f249dbef8b0bf1e6ab450fe9245f6c18076f4c97757d516edb1e17c7faeda38e"), looks := true }, kinds := [], alts := [], laidByText := true, laidKinds := [.data, .data], laidTests := true, laidLooks := .later }
def EndTwiceUptoCardSaid : Prop := Claim7.holds Tryz.pinned (.plain (OpenSpec.upto endTwiceSpec)) endTwiceUptoCard

/-- THE SECOND FORM's CARD OF 'wirelaw2.EndPlays'. -/
def endPlaysUptoCard : Claim7 := { stood := { row := endPlaysUptoRow, standIns := [], harness := (true, "f249dbef8b0bf1e6ab450fe9245f6c18076f4c97757d516edb1e17c7faeda38e"), looks := true }, kinds := [], alts := [], laidByText := true, laidKinds := [.handle, .data, .data], laidTests := true, laidLooks := .later }
def EndPlaysUptoCardSaid : Prop := Claim7.holds Tryz.pinned (.plain (OpenSpec.upto endPlaysSpec)) endPlaysUptoCard

/-- THE SECOND FORM's CARD OF 'wiretop.TopLossy'. -/
def topLossyUptoCard : Claim7 := { stood := { row := topLossyUptoRow, standIns := [], harness := (true, "f249dbef8b0bf1e6ab450fe9245f6c18076f4c97757d516edb1e17c7faeda38e"), looks := true }, kinds := [], alts := [], laidByText := true, laidKinds := [.handle, .data, .data], laidTests := true, laidLooks := .later }
def TopLossyUptoCardSaid : Prop := Claim7.holds Tryz.pinned (.plain (OpenSpec.upto topLossySpec)) topLossyUptoCard

/-- THE SECOND FORM's CARD OF 'wiretop.TopFlight'. -/
def topFlightUptoCard : Claim7 := { stood := { row := topFlightUptoRow, standIns := [], harness := (true, "f249dbef8b0bf1e6ab450fe9245f6c18076f4c97757d516edb1e17c7faeda38e"), looks := true }, kinds := [], alts := [], laidByText := true, laidKinds := [.data, .data], laidTests := true, laidLooks := .later }
def TopFlightUptoCardSaid : Prop := Claim7.holds Tryz.pinned (.plain (OpenSpec.upto topFlightSpec)) topFlightUptoCard

/-- THE SECOND FORM's CARD OF 'wiretop.TopPaths'. -/
def topPathsUptoCard : Claim7 := { stood := { row := topPathsUptoRow, standIns := [], harness := (true, "f249dbef8b0bf1e6ab450fe9245f6c18076f4c97757d516edb1e17c7faeda38e"), looks := true }, kinds := [], alts := [], laidByText := true, laidKinds := [.data, .data], laidTests := true, laidLooks := .later }
def TopPathsUptoCardSaid : Prop := Claim7.holds Tryz.pinned (.plain (OpenSpec.upto topPathsSpec)) topPathsUptoCard
end Rows
end Go.Proofs.YtoabfilliiopmaaGreatDoor
