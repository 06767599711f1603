/-
  DERIVED. GIVEN WITH THE SEED: THE CARDS: each row of YtingcgadolcanaaDoorRows.lean that lists a variable, with what it lists TIED to the program's text (the seventh form; the later family's looks); each row that meets fmt, with fmt's text TOLD by the authors' own Lean function (tested against real Go, not proved from fmt's source: count such statements apart). THE CARD IS WHAT COUNTS. Prove the row's statement (the work); the ties are given (YtingcgadolcanaaDoorTie.lean); close each card by the builder's one call (the guide's Derived/Test/ToyasCard.lean, 'card_holds'). Laid BY PROGRAM, IN A SANDBOX (cutbox-door.mjs). By AI agents, Wed Nov 11 2026. No macro, syntax, notation, axiom, sorry.
-/
import Derived.Test.YtingcgadolcanaaDoorRows
import GoSem.ClaimSeven
namespace Go.Proofs.YtingcgadolcanaaDoor
namespace Rows

/-- THE TIED CARD OF 'wirelaw2.LossTells'. -/
def lossTellsCard : Claim7 := { stood := { row := lossTellsRow, standIns := [], harness := (true, "e8d35ab74e41bd02cbda600fb4e18651d92530e4b1781c14f4117917e7a08edc"), looks := true }, kinds := [], alts := [], laidByText := true, laidKinds := [.handle], laidTests := true, laidLooks := .later }
def LossTellsCardSaid : Prop := Claim7.holds Tryd.pinned (.plain (OpenSpec.ofChange lossTellsSpec)) lossTellsCard

/-- THE SECOND FORM's CARD OF 'wirelaw2.LossTells'. -/
def lossTellsUptoCard : Claim7 := { stood := { row := lossTellsUptoRow, standIns := [], harness := (true, "e8d35ab74e41bd02cbda600fb4e18651d92530e4b1781c14f4117917e7a08edc"), looks := true }, kinds := [], alts := [], laidByText := true, laidKinds := [.handle], laidTests := true, laidLooks := .later }
def LossTellsUptoCardSaid : Prop := Claim7.holds Tryd.pinned (.plain (OpenSpec.upto lossTellsSpec)) lossTellsUptoCard
end Rows
end Go.Proofs.YtingcgadolcanaaDoor
