/-
  DERIVED. GIVEN WITH THE SEED: THE CARDS: each row of YtaiapmibpogoeaaDoorRows.lean that lists a variable, with what it lists TIED to the program's text (the seventh form; the later family's looks); each row that meets fmt, with fmt's text TOLD by the authors' own Lean function (tested against real Go, not proved from fmt's source: count such statements apart). THE CARD IS WHAT COUNTS. Prove the row's statement (the work); the ties are given (YtaiapmibpogoeaaDoorTie.lean); close each card by the builder's one call (the guide's Derived/Test/ToyasCard.lean, 'card_holds'). Laid BY PROGRAM, IN A SANDBOX (cutbox-door.mjs). By AI agents, Wed Nov 11 2026. No macro, syntax, notation, axiom, sorry.
-/
import Derived.Test.YtaiapmibpogoeaaDoorRows
import GoSem.ClaimSeven
namespace Go.Proofs.YtaiapmibpogoeaaDoor
namespace Rows

/-- THE TIED CARD OF 'wirelaw2.WindowTells'. -/
def windowTellsCard : Claim7 := { stood := { row := windowTellsRow, standIns := [], harness := (true, "3662f4fe75cc31822fc72478cebf0ec4fdd812dd883098e0f8b42bf8ddf6a44b"), looks := true }, kinds := [], alts := [], laidByText := true, laidKinds := [.handle], laidTests := true, laidLooks := .later }
def WindowTellsCardSaid : Prop := Claim7.holds Tryd.pinned (.plain (OpenSpec.ofChange windowTellsSpec)) windowTellsCard

/-- THE SECOND FORM's CARD OF 'wirelaw2.WindowTells'. -/
def windowTellsUptoCard : Claim7 := { stood := { row := windowTellsUptoRow, standIns := [], harness := (true, "3662f4fe75cc31822fc72478cebf0ec4fdd812dd883098e0f8b42bf8ddf6a44b"), looks := true }, kinds := [], alts := [], laidByText := true, laidKinds := [.handle], laidTests := true, laidLooks := .later }
def WindowTellsUptoCardSaid : Prop := Claim7.holds Tryd.pinned (.plain (OpenSpec.upto windowTellsSpec)) windowTellsUptoCard
end Rows
end Go.Proofs.YtaiapmibpogoeaaDoor
