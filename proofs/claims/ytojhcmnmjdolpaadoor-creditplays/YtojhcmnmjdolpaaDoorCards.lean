/-
  DERIVED. GIVEN WITH THE SEED: THE CARDS: each row of YtojhcmnmjdolpaaDoorRows.lean that lists a variable, with what it lists TIED to the program's text (the seventh form; the later family's looks); each row that meets fmt, with fmt's text TOLD by the authors' own Lean function (tested against real Go, not proved from fmt's source: count such statements apart). THE CARD IS WHAT COUNTS. Prove the row's statement (the work); the ties are given (YtojhcmnmjdolpaaDoorTie.lean); close each card by the builder's one call (the guide's Derived/Test/ToyasCard.lean, 'card_holds'). Laid BY PROGRAM, IN A SANDBOX (cutbox-door.mjs). By AI agents, Wed Nov 11 2026. No macro, syntax, notation, axiom, sorry.
-/
import Derived.Test.YtojhcmnmjdolpaaDoorRows
import GoSem.ClaimSeven
namespace Go.Proofs.YtojhcmnmjdolpaaDoor
namespace Rows

/-- THE TIED CARD OF 'wirelaw4.CreditFirst'. -/
def creditFirstCard : Claim7 := { stood := { row := creditFirstRow, standIns := [], harness := (true, "1998d1f2699644b6abe6728bde91834acdcab6f50604f95f1d835e007e406528"), looks := true }, kinds := [], alts := [], laidByText := true, laidKinds := [.handle], laidTests := true, laidLooks := .later }
def CreditFirstCardSaid : Prop := Claim7.holds Tryd.pinned (.plain (OpenSpec.ofChange creditFirstSpec)) creditFirstCard

/-- THE TIED CARD OF 'wirelaw1.CreditPlays'. -/
def creditPlaysCard : Claim7 := { stood := { row := creditPlaysRow, standIns := [], harness := (true, "1998d1f2699644b6abe6728bde91834acdcab6f50604f95f1d835e007e406528"), looks := true }, kinds := [], alts := [], laidByText := true, laidKinds := [.handle], laidTests := true, laidLooks := .later }
def CreditPlaysCardSaid : Prop := Claim7.holds Tryd.pinned (.plain (OpenSpec.ofChange creditPlaysSpec)) creditPlaysCard

/-- THE SECOND FORM's CARD OF 'wirelaw4.CreditFirst'. -/
def creditFirstUptoCard : Claim7 := { stood := { row := creditFirstUptoRow, standIns := [], harness := (true, "1998d1f2699644b6abe6728bde91834acdcab6f50604f95f1d835e007e406528"), looks := true }, kinds := [], alts := [], laidByText := true, laidKinds := [.handle], laidTests := true, laidLooks := .later }
def CreditFirstUptoCardSaid : Prop := Claim7.holds Tryd.pinned (.plain (OpenSpec.upto creditFirstSpec)) creditFirstUptoCard

/-- THE SECOND FORM's CARD OF 'wirelaw1.CreditPlays'. -/
def creditPlaysUptoCard : Claim7 := { stood := { row := creditPlaysUptoRow, standIns := [], harness := (true, "1998d1f2699644b6abe6728bde91834acdcab6f50604f95f1d835e007e406528"), looks := true }, kinds := [], alts := [], laidByText := true, laidKinds := [.handle], laidTests := true, laidLooks := .later }
def CreditPlaysUptoCardSaid : Prop := Claim7.holds Tryd.pinned (.plain (OpenSpec.upto creditPlaysSpec)) creditPlaysUptoCard
end Rows
end Go.Proofs.YtojhcmnmjdolpaaDoor
