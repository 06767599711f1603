/-
  DERIVED. GIVEN WITH THE SEED: THE CARDS: each row of YtpnblfabdioanaaDoorRows.lean that lists a variable, with what it lists TIED to the program's text (the seventh form; the later family's looks); each row that meets fmt, with fmt's text TOLD by the authors' own Lean function (tested against real Go, not proved from fmt's source: count such statements apart). THE CARD IS WHAT COUNTS. Prove the row's statement (the work); the ties are given (YtpnblfabdioanaaDoorTie.lean); close each card by the builder's one call (the guide's Derived/Test/ToyasCard.lean, 'card_holds'). Laid BY PROGRAM, IN A SANDBOX (cutbox-door.mjs). By AI agents, Wed Nov 11 2026. No macro, syntax, notation, axiom, sorry.
-/
import Derived.Test.YtpnblfabdioanaaDoorRows
import GoSem.ClaimSeven
namespace Go.Proofs.YtpnblfabdioanaaDoor
namespace Rows

/-- THE TIED CARD OF 'wirelaw4.MoveNone'. -/
def moveNoneCard : Claim7 := { stood := { row := moveNoneRow, standIns := [], harness := (true, "749a17ebc9d4ef5c0157e2273e46b7ddf9698d71176c6d6c96f194b56db4fe4c"), looks := true }, kinds := [], alts := [], laidByText := true, laidKinds := [.handle], laidTests := true, laidLooks := .later }
def MoveNoneCardSaid : Prop := Claim7.holds Tryd.pinned (.plain (OpenSpec.ofChange moveNoneSpec)) moveNoneCard

/-- THE TIED CARD OF 'wirelaw2.MovePlays'. -/
def movePlaysCard : Claim7 := { stood := { row := movePlaysRow, standIns := [], harness := (true, "749a17ebc9d4ef5c0157e2273e46b7ddf9698d71176c6d6c96f194b56db4fe4c"), looks := true }, kinds := [], alts := [], laidByText := true, laidKinds := [.handle], laidTests := true, laidLooks := .later }
def MovePlaysCardSaid : Prop := Claim7.holds Tryd.pinned (.plain (OpenSpec.ofChange movePlaysSpec)) movePlaysCard

/-- THE SECOND FORM's CARD OF 'wirelaw4.MoveNone'. -/
def moveNoneUptoCard : Claim7 := { stood := { row := moveNoneUptoRow, standIns := [], harness := (true, "749a17ebc9d4ef5c0157e2273e46b7ddf9698d71176c6d6c96f194b56db4fe4c"), looks := true }, kinds := [], alts := [], laidByText := true, laidKinds := [.handle], laidTests := true, laidLooks := .later }
def MoveNoneUptoCardSaid : Prop := Claim7.holds Tryd.pinned (.plain (OpenSpec.upto moveNoneSpec)) moveNoneUptoCard

/-- THE SECOND FORM's CARD OF 'wirelaw2.MovePlays'. -/
def movePlaysUptoCard : Claim7 := { stood := { row := movePlaysUptoRow, standIns := [], harness := (true, "749a17ebc9d4ef5c0157e2273e46b7ddf9698d71176c6d6c96f194b56db4fe4c"), looks := true }, kinds := [], alts := [], laidByText := true, laidKinds := [.handle], laidTests := true, laidLooks := .later }
def MovePlaysUptoCardSaid : Prop := Claim7.holds Tryd.pinned (.plain (OpenSpec.upto movePlaysSpec)) movePlaysUptoCard
end Rows
end Go.Proofs.YtpnblfabdioanaaDoor
