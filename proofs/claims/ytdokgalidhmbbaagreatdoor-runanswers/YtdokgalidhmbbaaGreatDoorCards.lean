/-
  DERIVED. GIVEN WITH THE SEED: THE CARDS: each row of YtdokgalidhmbbaaGreatDoorRows.lean that lists a variable, with what it lists TIED to the program's text (the seventh form; the later family's looks); each row that meets fmt, with fmt's text TOLD by the authors' own Lean function (tested against real Go, not proved from fmt's source: count such statements apart). THE CARD IS WHAT COUNTS. Prove the row's statement (the work); the ties are given (YtdokgalidhmbbaaGreatDoorTie.lean); close each card by the builder's one call (the guide's Derived/Test/ToyasCard.lean, 'card_holds'). Laid BY PROGRAM, IN A SANDBOX (cutbox-door.mjs). By AI agents, Wed Nov 11 2026. No macro, syntax, notation, axiom, sorry.
-/
import Derived.Test.YtdokgalidhmbbaaGreatDoorRows
import GoSem.ClaimSeven
namespace Go.Proofs.YtdokgalidhmbbaaGreatDoor
namespace Rows

/-- THE TIED CARD OF 'wirelaw3.RunAnswers'. -/
def runAnswersCard : Claim7 := { stood := { row := runAnswersRow, standIns := [], harness := (true, "2d10f7b2e1d4fe22a3d3edf34696f68962d94d61ea04abd7830725f487adb531"), looks := true }, kinds := [], alts := [], laidByText := true, laidKinds := [.data, .data, .data, .data, .handle, .sentinel, .sentinel, .data, .data, .sentinel, .pinned], laidTests := true, laidLooks := .later }
def RunAnswersCardSaid : Prop := Claim7.holds Tryz.pinned (.plain (OpenSpec.ofChange runAnswersSpec)) runAnswersCard

/-- THE TIED CARD OF 'wirelaw3.RunBegins'. -/
def runBeginsCard : Claim7 := { stood := { row := runBeginsRow, standIns := [], harness := (true, "2d10f7b2e1d4fe22a3d3edf34696f68962d94d61ea04abd7830725f487adb531"), looks := true }, kinds := [], alts := [], laidByText := true, laidKinds := [.data, .data, .data, .data, .handle, .sentinel, .sentinel, .data, .data, .sentinel, .pinned], laidTests := true, laidLooks := .later }
def RunBeginsCardSaid : Prop := Claim7.holds Tryz.pinned (.plain (OpenSpec.ofChange runBeginsSpec)) runBeginsCard

/-- THE TIED CARD OF 'wirelaw3.RunTwice'. -/
def runTwiceCard : Claim7 := { stood := { row := runTwiceRow, standIns := [], harness := (true, "2d10f7b2e1d4fe22a3d3edf34696f68962d94d61ea04abd7830725f487adb531"), looks := true }, kinds := [], alts := [], laidByText := true, laidKinds := [.data, .data, .data, .data, .handle, .sentinel, .sentinel, .data, .data, .sentinel, .pinned], laidTests := true, laidLooks := .later }
def RunTwiceCardSaid : Prop := Claim7.holds Tryz.pinned (.plain (OpenSpec.ofChange runTwiceSpec)) runTwiceCard

/-- THE SECOND FORM's CARD OF 'wirelaw3.RunAnswers'. -/
def runAnswersUptoCard : Claim7 := { stood := { row := runAnswersUptoRow, standIns := [], harness := (true, "2d10f7b2e1d4fe22a3d3edf34696f68962d94d61ea04abd7830725f487adb531"), looks := true }, kinds := [], alts := [], laidByText := true, laidKinds := [.data, .data, .data, .data, .handle, .sentinel, .sentinel, .data, .data, .sentinel, .pinned], laidTests := true, laidLooks := .later }
def RunAnswersUptoCardSaid : Prop := Claim7.holds Tryz.pinned (.plain (OpenSpec.upto runAnswersSpec)) runAnswersUptoCard

/-- THE SECOND FORM's CARD OF 'wirelaw3.RunBegins'. -/
def runBeginsUptoCard : Claim7 := { stood := { row := runBeginsUptoRow, standIns := [], harness := (true, "2d10f7b2e1d4fe22a3d3edf34696f68962d94d61ea04abd7830725f487adb531"), looks := true }, kinds := [], alts := [], laidByText := true, laidKinds := [.data, .data, .data, .data, .handle, .sentinel, .sentinel, .data, .data, .sentinel, .pinned], laidTests := true, laidLooks := .later }
def RunBeginsUptoCardSaid : Prop := Claim7.holds Tryz.pinned (.plain (OpenSpec.upto runBeginsSpec)) runBeginsUptoCard

/-- THE SECOND FORM's CARD OF 'wirelaw3.RunTwice'. -/
def runTwiceUptoCard : Claim7 := { stood := { row := runTwiceUptoRow, standIns := [], harness := (true, "2d10f7b2e1d4fe22a3d3edf34696f68962d94d61ea04abd7830725f487adb531"), looks := true }, kinds := [], alts := [], laidByText := true, laidKinds := [.data, .data, .data, .data, .handle, .sentinel, .sentinel, .data, .data, .sentinel, .pinned], laidTests := true, laidLooks := .later }
def RunTwiceUptoCardSaid : Prop := Claim7.holds Tryz.pinned (.plain (OpenSpec.upto runTwiceSpec)) runTwiceUptoCard
end Rows
end Go.Proofs.YtdokgalidhmbbaaGreatDoor
