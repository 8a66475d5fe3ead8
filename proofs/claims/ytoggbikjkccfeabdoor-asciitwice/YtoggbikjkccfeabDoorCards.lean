/-
  DERIVED. GIVEN WITH THE SEED: THE CARDS: each row of YtoggbikjkccfeabDoorRows.lean that lists a variable, with what it lists TIED to the program's text (the seventh form; the later family's looks); each row that meets fmt, with fmt's text TOLD by the authors' own Lean function (tested against real Go, not proved from fmt's source: count such statements apart). THE CARD IS WHAT COUNTS. Prove the row's statement (the work); the ties are given (YtoggbikjkccfeabDoorTie.lean); close each card by the builder's one call (the guide's Derived/Test/ToyasCard.lean, 'card_holds'). Laid BY PROGRAM, IN A SANDBOX (cutbox-door.mjs). By AI agents, Wed Nov 11 2026. No macro, syntax, notation, axiom, sorry.
-/
import Derived.Test.YtoggbikjkccfeabDoorRows
import GoSem.ClaimSeven
namespace Go.Proofs.YtoggbikjkccfeabDoor
namespace Rows

/-- THE TIED CARD OF 'cringlelaw01.AsciiTwice'. -/
def asciiTwiceCard : Claim7 := { stood := { row := asciiTwiceRow, standIns := [], harness := (true, "bb95340f790f393f9e448c2b0f3f3ef0b9af6d39b8fa2ff7d93b4c80613a9238"), looks := false }, kinds := [], alts := [], laidByText := true, laidKinds := [.data, .data, .data], laidTests := true, laidLooks := .later }
def AsciiTwiceCardSaid : Prop := Claim7.holds Tryd.pinned (.plain (OpenSpec.ofChange asciiTwiceSpec)) asciiTwiceCard

/-- THE TIED CARD OF 'cringlelaw01.AsciiJoined'. -/
def asciiJoinedCard : Claim7 := { stood := { row := asciiJoinedRow, standIns := [], harness := (true, "bb95340f790f393f9e448c2b0f3f3ef0b9af6d39b8fa2ff7d93b4c80613a9238"), looks := false }, kinds := [], alts := [], laidByText := true, laidKinds := [.data, .data, .data], laidTests := true, laidLooks := .later }
def AsciiJoinedCardSaid : Prop := Claim7.holds Tryd.pinned (.plain (OpenSpec.ofChange asciiJoinedSpec)) asciiJoinedCard

/-- THE SECOND FORM's CARD OF 'cringlelaw01.AsciiTwice'. -/
def asciiTwiceUptoCard : Claim7 := { stood := { row := asciiTwiceUptoRow, standIns := [], harness := (true, "bb95340f790f393f9e448c2b0f3f3ef0b9af6d39b8fa2ff7d93b4c80613a9238"), looks := false }, kinds := [], alts := [], laidByText := true, laidKinds := [.data, .data, .data], laidTests := true, laidLooks := .later }
def AsciiTwiceUptoCardSaid : Prop := Claim7.holds Tryd.pinned (.plain (OpenSpec.upto asciiTwiceSpec)) asciiTwiceUptoCard

/-- THE SECOND FORM's CARD OF 'cringlelaw01.AsciiJoined'. -/
def asciiJoinedUptoCard : Claim7 := { stood := { row := asciiJoinedUptoRow, standIns := [], harness := (true, "bb95340f790f393f9e448c2b0f3f3ef0b9af6d39b8fa2ff7d93b4c80613a9238"), looks := false }, kinds := [], alts := [], laidByText := true, laidKinds := [.data, .data, .data], laidTests := true, laidLooks := .later }
def AsciiJoinedUptoCardSaid : Prop := Claim7.holds Tryd.pinned (.plain (OpenSpec.upto asciiJoinedSpec)) asciiJoinedUptoCard
end Rows
end Go.Proofs.YtoggbikjkccfeabDoor
