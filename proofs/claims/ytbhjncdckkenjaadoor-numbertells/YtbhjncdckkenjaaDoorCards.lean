/-
  DERIVED. GIVEN WITH THE SEED: THE CARDS: each row of YtbhjncdckkenjaaDoorRows.lean that lists a variable, with what it lists TIED to the program's text (the seventh form; the later family's looks); each row that meets fmt, with fmt's text TOLD by the authors' own Lean function (tested against real Go, not proved from fmt's source: count such statements apart). THE CARD IS WHAT COUNTS. Prove the row's statement (the work); the ties are given (YtbhjncdckkenjaaDoorTie.lean); close each card by the builder's one call (the guide's Derived/Test/ToyasCard.lean, 'card_holds'). Laid BY PROGRAM, IN A SANDBOX (cutbox-door.mjs). By AI agents, Wed Nov 11 2026. No macro, syntax, notation, axiom, sorry.
-/
import Derived.Test.YtbhjncdckkenjaaDoorRows
import GoSem.ClaimSeven
namespace Go.Proofs.YtbhjncdckkenjaaDoor
namespace Rows

/-- THE TIED CARD OF 'wirelaw1.NumberTells'. -/
def numberTellsCard : Claim7 := { stood := { row := numberTellsRow, standIns := [], harness := (true, "3ff05cd9d40452537ddd8a9f0ea8d9a7b902803a0b51e8a21f4c3a2625d168a4"), looks := true }, kinds := [], alts := [], laidByText := true, laidKinds := [.handle], laidTests := true, laidLooks := .later }
def NumberTellsCardSaid : Prop := Claim7.holds Tryd.pinned (.plain (OpenSpec.ofChange numberTellsSpec)) numberTellsCard

/-- THE SECOND FORM's CARD OF 'wirelaw1.NumberTells'. -/
def numberTellsUptoCard : Claim7 := { stood := { row := numberTellsUptoRow, standIns := [], harness := (true, "3ff05cd9d40452537ddd8a9f0ea8d9a7b902803a0b51e8a21f4c3a2625d168a4"), looks := true }, kinds := [], alts := [], laidByText := true, laidKinds := [.handle], laidTests := true, laidLooks := .later }
def NumberTellsUptoCardSaid : Prop := Claim7.holds Tryd.pinned (.plain (OpenSpec.upto numberTellsSpec)) numberTellsUptoCard
end Rows
end Go.Proofs.YtbhjncdckkenjaaDoor
