/-
  DERIVED. GIVEN WITH THE SEED: THE CARDS: each row of YtoabfilliiopmaaDoorRows.lean that lists a variable, with what it lists TIED to the program's text (the seventh form; the later family's looks); each row that meets fmt, with fmt's text TOLD by the authors' own Lean function (tested against real Go, not proved from fmt's source: count such statements apart). THE CARD IS WHAT COUNTS. Prove the row's statement (the work); the ties are given (YtoabfilliiopmaaDoorTie.lean); close each card by the builder's one call (the guide's Derived/Test/ToyasCard.lean, 'card_holds'). Laid BY PROGRAM, IN A SANDBOX (cutbox-door.mjs). By AI agents, Wed Nov 11 2026. No macro, syntax, notation, axiom, sorry.
-/
import Derived.Test.YtoabfilliiopmaaDoorRows
import GoSem.ClaimSeven
namespace Go.Proofs.YtoabfilliiopmaaDoor
namespace Rows

/-- THE TIED CARD OF 'wirelaw4.EndSilent'. -/
def endSilentCard : Claim7 := { stood := { row := endSilentRow, standIns := [], harness := (true, "a198beb7a38398205518a95b2b4416a71f15bf6351a734ff4a8d5fef73f7316e"), looks := false }, kinds := [], alts := [], laidByText := true, laidKinds := [.data, .data], laidTests := true, laidLooks := .later }
def EndSilentCardSaid : Prop := Claim7.holds Tryd.pinned (.plain (OpenSpec.ofChange endSilentSpec)) endSilentCard

/-- THE SECOND FORM's CARD OF 'wirelaw4.EndSilent'. -/
def endSilentUptoCard : Claim7 := { stood := { row := endSilentUptoRow, standIns := [], harness := (true, "a198beb7a38398205518a95b2b4416a71f15bf6351a734ff4a8d5fef73f7316e"), looks := false }, kinds := [], alts := [], laidByText := true, laidKinds := [.data, .data], laidTests := true, laidLooks := .later }
def EndSilentUptoCardSaid : Prop := Claim7.holds Tryd.pinned (.plain (OpenSpec.upto endSilentSpec)) endSilentUptoCard
end Rows
end Go.Proofs.YtoabfilliiopmaaDoor
