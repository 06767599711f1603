/-
  DERIVED. GIVEN WITH THE SEED: THE CARDS: each row of YtjpdembofiadbaaDoorRows.lean that lists a variable, with what it lists TIED to the program's text (the seventh form; the later family's looks); each row that meets fmt, with fmt's text TOLD by the authors' own Lean function (tested against real Go, not proved from fmt's source: count such statements apart). THE CARD IS WHAT COUNTS. Prove the row's statement (the work); the ties are given (YtjpdembofiadbaaDoorTie.lean); close each card by the builder's one call (the guide's Derived/Test/ToyasCard.lean, 'card_holds'). Laid BY PROGRAM, IN A SANDBOX (cutbox-door.mjs). By AI agents, Wed Nov 11 2026. No macro, syntax, notation, axiom, sorry.
-/
import Derived.Test.YtjpdembofiadbaaDoorRows
import GoSem.ClaimSeven
namespace Go.Proofs.YtjpdembofiadbaaDoor
namespace Rows

/-- THE TIED CARD OF 'wirelaw2.PacketTells'. -/
def packetTellsCard : Claim7 := { stood := { row := packetTellsRow, standIns := [], harness := (true, "da36f77584b259fd1f3deeef372c5dce13fa00c1ec02e08d0e61cac060cada23"), looks := true }, kinds := [], alts := [], laidByText := true, laidKinds := [.handle, .data, .data], laidTests := true, laidLooks := .later }
def PacketTellsCardSaid : Prop := Claim7.holds Tryd.pinned (.plain (OpenSpec.ofChange packetTellsSpec)) packetTellsCard

/-- THE TIED CARD OF 'wirelaw2.PacketBack'. -/
def packetBackCard : Claim7 := { stood := { row := packetBackRow, standIns := [], harness := (true, "da36f77584b259fd1f3deeef372c5dce13fa00c1ec02e08d0e61cac060cada23"), looks := true }, kinds := [], alts := [], laidByText := true, laidKinds := [.data, .data], laidTests := true, laidLooks := .later }
def PacketBackCardSaid : Prop := Claim7.holds Tryd.pinned (.plain (OpenSpec.ofChange packetBackSpec)) packetBackCard

/-- THE TIED CARD OF 'wirelaw4.PacketPing'. -/
def packetPingCard : Claim7 := { stood := { row := packetPingRow, standIns := [], harness := (true, "da36f77584b259fd1f3deeef372c5dce13fa00c1ec02e08d0e61cac060cada23"), looks := true }, kinds := [], alts := [], laidByText := true, laidKinds := [.handle, .data, .data], laidTests := true, laidLooks := .later }
def PacketPingCardSaid : Prop := Claim7.holds Tryd.pinned (.plain (OpenSpec.ofChange packetPingSpec)) packetPingCard

/-- THE SECOND FORM's CARD OF 'wirelaw2.PacketTells'. -/
def packetTellsUptoCard : Claim7 := { stood := { row := packetTellsUptoRow, standIns := [], harness := (true, "da36f77584b259fd1f3deeef372c5dce13fa00c1ec02e08d0e61cac060cada23"), looks := true }, kinds := [], alts := [], laidByText := true, laidKinds := [.handle, .data, .data], laidTests := true, laidLooks := .later }
def PacketTellsUptoCardSaid : Prop := Claim7.holds Tryd.pinned (.plain (OpenSpec.upto packetTellsSpec)) packetTellsUptoCard

/-- THE SECOND FORM's CARD OF 'wirelaw2.PacketBack'. -/
def packetBackUptoCard : Claim7 := { stood := { row := packetBackUptoRow, standIns := [], harness := (true, "da36f77584b259fd1f3deeef372c5dce13fa00c1ec02e08d0e61cac060cada23"), looks := true }, kinds := [], alts := [], laidByText := true, laidKinds := [.data, .data], laidTests := true, laidLooks := .later }
def PacketBackUptoCardSaid : Prop := Claim7.holds Tryd.pinned (.plain (OpenSpec.upto packetBackSpec)) packetBackUptoCard

/-- THE SECOND FORM's CARD OF 'wirelaw4.PacketPing'. -/
def packetPingUptoCard : Claim7 := { stood := { row := packetPingUptoRow, standIns := [], harness := (true, "da36f77584b259fd1f3deeef372c5dce13fa00c1ec02e08d0e61cac060cada23"), looks := true }, kinds := [], alts := [], laidByText := true, laidKinds := [.handle, .data, .data], laidTests := true, laidLooks := .later }
def PacketPingUptoCardSaid : Prop := Claim7.holds Tryd.pinned (.plain (OpenSpec.upto packetPingSpec)) packetPingUptoCard
end Rows
end Go.Proofs.YtjpdembofiadbaaDoor
