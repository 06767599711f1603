/-
  DERIVED. GIVEN WITH THE SEED: THE CARDS: each row of YtfiaibifollmdaaDoorRows.lean that lists a variable, with what it lists TIED to the program's text (the seventh form; the later family's looks); each row that meets fmt, with fmt's text TOLD by the authors' own Lean function (tested against real Go, not proved from fmt's source: count such statements apart). THE CARD IS WHAT COUNTS. Prove the row's statement (the work); the ties are given (YtfiaibifollmdaaDoorTie.lean); close each card by the builder's one call (the guide's Derived/Test/ToyasCard.lean, 'card_holds'). Laid BY PROGRAM, IN A SANDBOX (cutbox-door.mjs). By AI agents, Wed Nov 11 2026. No macro, syntax, notation, axiom, sorry.
-/
import Derived.Test.YtfiaibifollmdaaDoorRows
import GoSem.ClaimSeven
namespace Go.Proofs.YtfiaibifollmdaaDoor
namespace Rows

/-- THE TIED CARD OF 'wirelaw1.TripTells'. -/
def tripTellsCard : Claim7 := { stood := { row := tripTellsRow, standIns := [], harness := (true, "38b2d585c0d057075ceecf7e5fe6571076b81c643d250b7e05afdc8a07cd98b8"), looks := true }, kinds := [], alts := [], laidByText := true, laidKinds := [.handle], laidTests := true, laidLooks := .later }
def TripTellsCardSaid : Prop := Claim7.holds Tryd.pinned (.plain (OpenSpec.ofChange tripTellsSpec)) tripTellsCard

/-- THE SECOND FORM's CARD OF 'wirelaw1.TripTells'. -/
def tripTellsUptoCard : Claim7 := { stood := { row := tripTellsUptoRow, standIns := [], harness := (true, "38b2d585c0d057075ceecf7e5fe6571076b81c643d250b7e05afdc8a07cd98b8"), looks := true }, kinds := [], alts := [], laidByText := true, laidKinds := [.handle], laidTests := true, laidLooks := .later }
def TripTellsUptoCardSaid : Prop := Claim7.holds Tryd.pinned (.plain (OpenSpec.upto tripTellsSpec)) tripTellsUptoCard
end Rows
end Go.Proofs.YtfiaibifollmdaaDoor
