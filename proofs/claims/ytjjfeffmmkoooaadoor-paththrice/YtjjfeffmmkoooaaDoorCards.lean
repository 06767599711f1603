/-
  DERIVED. GIVEN WITH THE SEED: THE CARDS: each row of YtjjfeffmmkoooaaDoorRows.lean that lists a variable, with what it lists TIED to the program's text (the seventh form; the later family's looks); each row that meets fmt, with fmt's text TOLD by the authors' own Lean function (tested against real Go, not proved from fmt's source: count such statements apart). THE CARD IS WHAT COUNTS. Prove the row's statement (the work); the ties are given (YtjjfeffmmkoooaaDoorTie.lean); close each card by the builder's one call (the guide's Derived/Test/ToyasCard.lean, 'card_holds'). Laid BY PROGRAM, IN A SANDBOX (cutbox-door.mjs). By AI agents, Wed Nov 11 2026. No macro, syntax, notation, axiom, sorry.
-/
import Derived.Test.YtjjfeffmmkoooaaDoorRows
import GoSem.ClaimSeven
namespace Go.Proofs.YtjjfeffmmkoooaaDoor
namespace Rows

/-- THE TIED CARD OF 'wirelaw1.PathTells'. -/
def pathTellsCard : Claim7 := { stood := { row := pathTellsRow, standIns := [], harness := (true, "fa0f65c2bde4acaa749a140c107549b5aad0f97d42f273c76a2736fce253eb23"), looks := true }, kinds := [], alts := [], laidByText := true, laidKinds := [.handle], laidTests := true, laidLooks := .later }
def PathTellsCardSaid : Prop := Claim7.holds Tryd.pinned (.plain (OpenSpec.ofChange pathTellsSpec)) pathTellsCard

/-- THE TIED CARD OF 'wirelaw1.PathThrice'. -/
def pathThriceCard : Claim7 := { stood := { row := pathThriceRow, standIns := [], harness := (true, "fa0f65c2bde4acaa749a140c107549b5aad0f97d42f273c76a2736fce253eb23"), looks := true }, kinds := [], alts := [], laidByText := true, laidKinds := [.handle], laidTests := true, laidLooks := .later }
def PathThriceCardSaid : Prop := Claim7.holds Tryd.pinned (.plain (OpenSpec.ofChange pathThriceSpec)) pathThriceCard

/-- THE TIED CARD OF 'wirelaw4.PathKnown'. -/
def pathKnownCard : Claim7 := { stood := { row := pathKnownRow, standIns := [], harness := (true, "fa0f65c2bde4acaa749a140c107549b5aad0f97d42f273c76a2736fce253eb23"), looks := true }, kinds := [], alts := [], laidByText := true, laidKinds := [.handle], laidTests := true, laidLooks := .later }
def PathKnownCardSaid : Prop := Claim7.holds Tryd.pinned (.plain (OpenSpec.ofChange pathKnownSpec)) pathKnownCard

/-- THE SECOND FORM's CARD OF 'wirelaw1.PathTells'. -/
def pathTellsUptoCard : Claim7 := { stood := { row := pathTellsUptoRow, standIns := [], harness := (true, "fa0f65c2bde4acaa749a140c107549b5aad0f97d42f273c76a2736fce253eb23"), looks := true }, kinds := [], alts := [], laidByText := true, laidKinds := [.handle], laidTests := true, laidLooks := .later }
def PathTellsUptoCardSaid : Prop := Claim7.holds Tryd.pinned (.plain (OpenSpec.upto pathTellsSpec)) pathTellsUptoCard

/-- THE SECOND FORM's CARD OF 'wirelaw1.PathThrice'. -/
def pathThriceUptoCard : Claim7 := { stood := { row := pathThriceUptoRow, standIns := [], harness := (true, "fa0f65c2bde4acaa749a140c107549b5aad0f97d42f273c76a2736fce253eb23"), looks := true }, kinds := [], alts := [], laidByText := true, laidKinds := [.handle], laidTests := true, laidLooks := .later }
def PathThriceUptoCardSaid : Prop := Claim7.holds Tryd.pinned (.plain (OpenSpec.upto pathThriceSpec)) pathThriceUptoCard

/-- THE SECOND FORM's CARD OF 'wirelaw4.PathKnown'. -/
def pathKnownUptoCard : Claim7 := { stood := { row := pathKnownUptoRow, standIns := [], harness := (true, "fa0f65c2bde4acaa749a140c107549b5aad0f97d42f273c76a2736fce253eb23"), looks := true }, kinds := [], alts := [], laidByText := true, laidKinds := [.handle], laidTests := true, laidLooks := .later }
def PathKnownUptoCardSaid : Prop := Claim7.holds Tryd.pinned (.plain (OpenSpec.upto pathKnownSpec)) pathKnownUptoCard
end Rows
end Go.Proofs.YtjjfeffmmkoooaaDoor
