/-
  DERIVED. GIVEN WITH THE SEED: THE CARDS: each row of YtdemmpakiopgjaaDoorRows.lean that lists a variable, with what it lists TIED to the program's text (the seventh form; the later family's looks); each row that meets fmt, with fmt's text TOLD by the authors' own Lean function (tested against real Go, not proved from fmt's source: count such statements apart). THE CARD IS WHAT COUNTS. Prove the row's statement (the work); the ties are given (YtdemmpakiopgjaaDoorTie.lean); close each card by the builder's one call (the guide's Derived/Test/ToyasCard.lean, 'card_holds'). Laid BY PROGRAM, IN A SANDBOX (cutbox-door.mjs). By AI agents, Wed Nov 11 2026. No macro, syntax, notation, axiom, sorry.
-/
import Derived.Test.YtdemmpakiopgjaaDoorRows
import GoSem.ClaimSeven
namespace Go.Proofs.YtdemmpakiopgjaaDoor
namespace Rows

/-- THE TIED CARD OF 'wirelaw1.AckTells'. -/
def ackTellsCard : Claim7 := { stood := { row := ackTellsRow, standIns := [], harness := (true, "00acfceb503fdfd65e258c33cd992adeba71812504d657185457d4ef0a85555e"), looks := true }, kinds := [], alts := [], laidByText := true, laidKinds := [.handle, .data], laidTests := true, laidLooks := .later }
def AckTellsCardSaid : Prop := Claim7.holds Tryd.pinned (.plain (OpenSpec.ofChange ackTellsSpec)) ackTellsCard

/-- THE TIED CARD OF 'wirelaw1.AckBack'. -/
def ackBackCard : Claim7 := { stood := { row := ackBackRow, standIns := [], harness := (true, "00acfceb503fdfd65e258c33cd992adeba71812504d657185457d4ef0a85555e"), looks := true }, kinds := [], alts := [], laidByText := true, laidKinds := [.data], laidTests := true, laidLooks := .later }
def AckBackCardSaid : Prop := Claim7.holds Tryd.pinned (.plain (OpenSpec.ofChange ackBackSpec)) ackBackCard

/-- THE TIED CARD OF 'wirelaw4.AckOne'. -/
def ackOneCard : Claim7 := { stood := { row := ackOneRow, standIns := [], harness := (true, "00acfceb503fdfd65e258c33cd992adeba71812504d657185457d4ef0a85555e"), looks := true }, kinds := [], alts := [], laidByText := true, laidKinds := [.data], laidTests := true, laidLooks := .later }
def AckOneCardSaid : Prop := Claim7.holds Tryd.pinned (.plain (OpenSpec.ofChange ackOneSpec)) ackOneCard

/-- THE SECOND FORM's CARD OF 'wirelaw1.AckTells'. -/
def ackTellsUptoCard : Claim7 := { stood := { row := ackTellsUptoRow, standIns := [], harness := (true, "00acfceb503fdfd65e258c33cd992adeba71812504d657185457d4ef0a85555e"), looks := true }, kinds := [], alts := [], laidByText := true, laidKinds := [.handle, .data], laidTests := true, laidLooks := .later }
def AckTellsUptoCardSaid : Prop := Claim7.holds Tryd.pinned (.plain (OpenSpec.upto ackTellsSpec)) ackTellsUptoCard

/-- THE SECOND FORM's CARD OF 'wirelaw1.AckBack'. -/
def ackBackUptoCard : Claim7 := { stood := { row := ackBackUptoRow, standIns := [], harness := (true, "00acfceb503fdfd65e258c33cd992adeba71812504d657185457d4ef0a85555e"), looks := true }, kinds := [], alts := [], laidByText := true, laidKinds := [.data], laidTests := true, laidLooks := .later }
def AckBackUptoCardSaid : Prop := Claim7.holds Tryd.pinned (.plain (OpenSpec.upto ackBackSpec)) ackBackUptoCard

/-- THE SECOND FORM's CARD OF 'wirelaw4.AckOne'. -/
def ackOneUptoCard : Claim7 := { stood := { row := ackOneUptoRow, standIns := [], harness := (true, "00acfceb503fdfd65e258c33cd992adeba71812504d657185457d4ef0a85555e"), looks := true }, kinds := [], alts := [], laidByText := true, laidKinds := [.data], laidTests := true, laidLooks := .later }
def AckOneUptoCardSaid : Prop := Claim7.holds Tryd.pinned (.plain (OpenSpec.upto ackOneSpec)) ackOneUptoCard
end Rows
end Go.Proofs.YtdemmpakiopgjaaDoor
