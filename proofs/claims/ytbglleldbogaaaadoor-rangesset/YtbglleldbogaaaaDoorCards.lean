/-
  DERIVED. GIVEN WITH THE SEED: THE CARDS: each row of YtbglleldbogaaaaDoorRows.lean that lists a variable, with what it lists TIED to the program's text (the seventh form; the later family's looks); each row that meets fmt, with fmt's text TOLD by the authors' own Lean function (tested against real Go, not proved from fmt's source: count such statements apart). THE CARD IS WHAT COUNTS. Prove the row's statement (the work); the ties are given (YtbglleldbogaaaaDoorTie.lean); close each card by the builder's one call (the guide's Derived/Test/ToyasCard.lean, 'card_holds'). Laid BY PROGRAM, IN A SANDBOX (cutbox-door.mjs). By AI agents, Wed Nov 11 2026. No macro, syntax, notation, axiom, sorry.
-/
import Derived.Test.YtbglleldbogaaaaDoorRows
import GoSem.ClaimSeven
namespace Go.Proofs.YtbglleldbogaaaaDoor
namespace Rows

/-- THE TIED CARD OF 'wirelaw1.RangesTell'. -/
def rangesTellCard : Claim7 := { stood := { row := rangesTellRow, standIns := [], harness := (true, "b602657429f7fdb1e5b9d5bbc0bf3aac1f201c324fecd5663fe5239010166085"), looks := true }, kinds := [], alts := [], laidByText := true, laidKinds := [.handle], laidTests := true, laidLooks := .later }
def RangesTellCardSaid : Prop := Claim7.holds Tryd.pinned (.plain (OpenSpec.ofChange rangesTellSpec)) rangesTellCard

/-- THE TIED CARD OF 'wirelaw1.RangesSet'. -/
def rangesSetCard : Claim7 := { stood := { row := rangesSetRow, standIns := [], harness := (true, "b602657429f7fdb1e5b9d5bbc0bf3aac1f201c324fecd5663fe5239010166085"), looks := true }, kinds := [], alts := [], laidByText := true, laidKinds := [.handle], laidTests := true, laidLooks := .later }
def RangesSetCardSaid : Prop := Claim7.holds Tryd.pinned (.plain (OpenSpec.ofChange rangesSetSpec)) rangesSetCard

/-- THE SECOND FORM's CARD OF 'wirelaw1.RangesTell'. -/
def rangesTellUptoCard : Claim7 := { stood := { row := rangesTellUptoRow, standIns := [], harness := (true, "b602657429f7fdb1e5b9d5bbc0bf3aac1f201c324fecd5663fe5239010166085"), looks := true }, kinds := [], alts := [], laidByText := true, laidKinds := [.handle], laidTests := true, laidLooks := .later }
def RangesTellUptoCardSaid : Prop := Claim7.holds Tryd.pinned (.plain (OpenSpec.upto rangesTellSpec)) rangesTellUptoCard

/-- THE SECOND FORM's CARD OF 'wirelaw1.RangesSet'. -/
def rangesSetUptoCard : Claim7 := { stood := { row := rangesSetUptoRow, standIns := [], harness := (true, "b602657429f7fdb1e5b9d5bbc0bf3aac1f201c324fecd5663fe5239010166085"), looks := true }, kinds := [], alts := [], laidByText := true, laidKinds := [.handle], laidTests := true, laidLooks := .later }
def RangesSetUptoCardSaid : Prop := Claim7.holds Tryd.pinned (.plain (OpenSpec.upto rangesSetSpec)) rangesSetUptoCard
end Rows
end Go.Proofs.YtbglleldbogaaaaDoor
