/-
  DERIVED. GIVEN WITH THE SEED: THE CARDS: each row of YtibfnneiampikaaDoorRows.lean that lists a variable, with what it lists TIED to the program's text (the seventh form; the later family's looks); each row that meets fmt, with fmt's text TOLD by the authors' own Lean function (tested against real Go, not proved from fmt's source: count such statements apart). THE CARD IS WHAT COUNTS. Prove the row's statement (the work); the ties are given (YtibfnneiampikaaDoorTie.lean); close each card by the builder's one call (the guide's Derived/Test/ToyasCard.lean, 'card_holds'). Laid BY PROGRAM, IN A SANDBOX (cutbox-door.mjs). By AI agents, Wed Nov 11 2026. No macro, syntax, notation, axiom, sorry.
-/
import Derived.Test.YtibfnneiampikaaDoorRows
import GoSem.ClaimSeven
namespace Go.Proofs.YtibfnneiampikaaDoor
namespace Rows

/-- THE TIED CARD OF 'wirelaw2.FrameTells'. -/
def frameTellsCard : Claim7 := { stood := { row := frameTellsRow, standIns := [], harness := (true, "abe4effb4511689b5f9be9332f9e0687a77bda5b94e9bd1eb6e7857b32a4abae"), looks := true }, kinds := [], alts := [], laidByText := true, laidKinds := [.handle, .data, .data], laidTests := true, laidLooks := .later }
def FrameTellsCardSaid : Prop := Claim7.holds Tryd.pinned (.plain (OpenSpec.ofChange frameTellsSpec)) frameTellsCard

/-- THE TIED CARD OF 'wirelaw2.FrameBack'. -/
def frameBackCard : Claim7 := { stood := { row := frameBackRow, standIns := [], harness := (true, "abe4effb4511689b5f9be9332f9e0687a77bda5b94e9bd1eb6e7857b32a4abae"), looks := true }, kinds := [], alts := [], laidByText := true, laidKinds := [.data, .data], laidTests := true, laidLooks := .later }
def FrameBackCardSaid : Prop := Claim7.holds Tryd.pinned (.plain (OpenSpec.ofChange frameBackSpec)) frameBackCard

/-- THE TIED CARD OF 'wirelaw4.FramePing'. -/
def framePingCard : Claim7 := { stood := { row := framePingRow, standIns := [], harness := (true, "abe4effb4511689b5f9be9332f9e0687a77bda5b94e9bd1eb6e7857b32a4abae"), looks := true }, kinds := [], alts := [], laidByText := true, laidKinds := [.data, .data], laidTests := true, laidLooks := .later }
def FramePingCardSaid : Prop := Claim7.holds Tryd.pinned (.plain (OpenSpec.ofChange framePingSpec)) framePingCard

/-- THE SECOND FORM's CARD OF 'wirelaw2.FrameTells'. -/
def frameTellsUptoCard : Claim7 := { stood := { row := frameTellsUptoRow, standIns := [], harness := (true, "abe4effb4511689b5f9be9332f9e0687a77bda5b94e9bd1eb6e7857b32a4abae"), looks := true }, kinds := [], alts := [], laidByText := true, laidKinds := [.handle, .data, .data], laidTests := true, laidLooks := .later }
def FrameTellsUptoCardSaid : Prop := Claim7.holds Tryd.pinned (.plain (OpenSpec.upto frameTellsSpec)) frameTellsUptoCard

/-- THE SECOND FORM's CARD OF 'wirelaw2.FrameBack'. -/
def frameBackUptoCard : Claim7 := { stood := { row := frameBackUptoRow, standIns := [], harness := (true, "abe4effb4511689b5f9be9332f9e0687a77bda5b94e9bd1eb6e7857b32a4abae"), looks := true }, kinds := [], alts := [], laidByText := true, laidKinds := [.data, .data], laidTests := true, laidLooks := .later }
def FrameBackUptoCardSaid : Prop := Claim7.holds Tryd.pinned (.plain (OpenSpec.upto frameBackSpec)) frameBackUptoCard

/-- THE SECOND FORM's CARD OF 'wirelaw4.FramePing'. -/
def framePingUptoCard : Claim7 := { stood := { row := framePingUptoRow, standIns := [], harness := (true, "abe4effb4511689b5f9be9332f9e0687a77bda5b94e9bd1eb6e7857b32a4abae"), looks := true }, kinds := [], alts := [], laidByText := true, laidKinds := [.data, .data], laidTests := true, laidLooks := .later }
def FramePingUptoCardSaid : Prop := Claim7.holds Tryd.pinned (.plain (OpenSpec.upto framePingSpec)) framePingUptoCard
end Rows
end Go.Proofs.YtibfnneiampikaaDoor
