/-
  DERIVED. GIVEN WITH THE SEED: THE CARDS: each row of YtdnehibcpkjafaaGreatDoorRows.lean that lists a variable, with what it lists TIED to the program's text (the seventh form; the later family's looks); each row that meets fmt, with fmt's text TOLD by the authors' own Lean function (tested against real Go, not proved from fmt's source: count such statements apart). THE CARD IS WHAT COUNTS. Prove the row's statement (the work); the ties are given (YtdnehibcpkjafaaGreatDoorTie.lean); close each card by the builder's one call (the guide's Derived/Test/ToyasCard.lean, 'card_holds'). Laid BY PROGRAM, IN A SANDBOX (cutbox-door.mjs). By AI agents, Wed Nov 11 2026. No macro, syntax, notation, axiom, sorry.
-/
import Derived.Test.YtdnehibcpkjafaaGreatDoorRows
import GoSem.ClaimSeven
namespace Go.Proofs.YtdnehibcpkjafaaGreatDoor
namespace Rows

/-- THE TIED CARD OF 'wirelaw2.TalkPrefix'. -/
def talkPrefixCard : Claim7 := { stood := { row := talkPrefixRow, standIns := [], harness := (true, "aa6844aec6491d1ac64d5b4325c3427e1130a02ce01f8e60a088fe1efa270033"), looks := true }, kinds := [], alts := [], laidByText := true, laidKinds := [.handle, .data, .data], laidTests := true, laidLooks := .later }
def TalkPrefixCardSaid : Prop := Claim7.holds Tryz.pinned (.plain (OpenSpec.ofChange talkPrefixSpec)) talkPrefixCard

/-- THE TIED CARD OF 'wirelaw4.TalkSilent'. -/
def talkSilentCard : Claim7 := { stood := { row := talkSilentRow, standIns := [], harness := (true, "aa6844aec6491d1ac64d5b4325c3427e1130a02ce01f8e60a088fe1efa270033"), looks := true }, kinds := [], alts := [], laidByText := true, laidKinds := [.data, .data], laidTests := true, laidLooks := .later }
def TalkSilentCardSaid : Prop := Claim7.holds Tryz.pinned (.plain (OpenSpec.ofChange talkSilentSpec)) talkSilentCard

/-- THE TIED CARD OF 'wirelaw2.TalkPlays'. -/
def talkPlaysCard : Claim7 := { stood := { row := talkPlaysRow, standIns := [], harness := (true, "aa6844aec6491d1ac64d5b4325c3427e1130a02ce01f8e60a088fe1efa270033"), looks := true }, kinds := [], alts := [], laidByText := true, laidKinds := [.handle, .data, .data], laidTests := true, laidLooks := .later }
def TalkPlaysCardSaid : Prop := Claim7.holds Tryz.pinned (.plain (OpenSpec.ofChange talkPlaysSpec)) talkPlaysCard

/-- THE SECOND FORM's CARD OF 'wirelaw2.TalkPrefix'. -/
def talkPrefixUptoCard : Claim7 := { stood := { row := talkPrefixUptoRow, standIns := [], harness := (true, "aa6844aec6491d1ac64d5b4325c3427e1130a02ce01f8e60a088fe1efa270033"), looks := true }, kinds := [], alts := [], laidByText := true, laidKinds := [.handle, .data, .data], laidTests := true, laidLooks := .later }
def TalkPrefixUptoCardSaid : Prop := Claim7.holds Tryz.pinned (.plain (OpenSpec.upto talkPrefixSpec)) talkPrefixUptoCard

/-- THE SECOND FORM's CARD OF 'wirelaw4.TalkSilent'. -/
def talkSilentUptoCard : Claim7 := { stood := { row := talkSilentUptoRow, standIns := [], harness := (true, "aa6844aec6491d1ac64d5b4325c3427e1130a02ce01f8e60a088fe1efa270033"), looks := true }, kinds := [], alts := [], laidByText := true, laidKinds := [.data, .data], laidTests := true, laidLooks := .later }
def TalkSilentUptoCardSaid : Prop := Claim7.holds Tryz.pinned (.plain (OpenSpec.upto talkSilentSpec)) talkSilentUptoCard

/-- THE SECOND FORM's CARD OF 'wirelaw2.TalkPlays'. -/
def talkPlaysUptoCard : Claim7 := { stood := { row := talkPlaysUptoRow, standIns := [], harness := (true, "aa6844aec6491d1ac64d5b4325c3427e1130a02ce01f8e60a088fe1efa270033"), looks := true }, kinds := [], alts := [], laidByText := true, laidKinds := [.handle, .data, .data], laidTests := true, laidLooks := .later }
def TalkPlaysUptoCardSaid : Prop := Claim7.holds Tryz.pinned (.plain (OpenSpec.upto talkPlaysSpec)) talkPlaysUptoCard
end Rows
end Go.Proofs.YtdnehibcpkjafaaGreatDoor
