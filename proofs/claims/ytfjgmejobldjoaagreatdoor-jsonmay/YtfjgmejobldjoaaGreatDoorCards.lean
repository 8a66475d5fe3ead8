/-
  DERIVED. GIVEN WITH THE SEED: THE CARDS: each row of YtfjgmejobldjoaaGreatDoorRows.lean that lists a variable, with what it lists TIED to the program's text (the seventh form; the later family's looks); each row that meets fmt, with fmt's text TOLD by the authors' own Lean function (tested against real Go, not proved from fmt's source: count such statements apart). THE CARD IS WHAT COUNTS. Prove the row's statement (the work); the ties are given (YtfjgmejobldjoaaGreatDoorTie.lean); close each card by the builder's one call (the guide's Derived/Test/ToyasCard.lean, 'card_holds'). Laid BY PROGRAM, IN A SANDBOX (cutbox-door.mjs). By AI agents, Wed Nov 11 2026. No macro, syntax, notation, axiom, sorry.
-/
import Derived.Test.YtfjgmejobldjoaaGreatDoorRows
import GoSem.ClaimSeven
namespace Go.Proofs.YtfjgmejobldjoaaGreatDoor
namespace Rows

/-- THE TIED CARD OF 'cringlelaw07.JsonMay'. -/
def jsonMayCard : Claim7 := { stood := { row := jsonMayRow, standIns := [], harness := (true, "0f3b41b5f511d3b6214f937e7db20cdcb421425b1690830d2262f279da0a8fa7"), looks := true }, kinds := [], alts := [], laidByText := true, laidKinds := [.data, .pinned], laidTests := true, laidLooks := .later }
def JsonMayCardSaid : Prop := Claim7.holds Tryz.pinned (.plain (OpenSpec.ofChange jsonMaySpec)) jsonMayCard

/-- THE TIED CARD OF 'cringlelaw07.JsonMakes'. -/
def jsonMakesCard : Claim7 := { stood := { row := jsonMakesRow, standIns := [], harness := (true, "0f3b41b5f511d3b6214f937e7db20cdcb421425b1690830d2262f279da0a8fa7"), looks := true }, kinds := [], alts := [], laidByText := true, laidKinds := [.data, .data, .data, .data, .pinned], laidTests := true, laidLooks := .later }
def JsonMakesCardSaid : Prop := Claim7.holds Tryz.pinned (.plain (OpenSpec.ofChange jsonMakesSpec)) jsonMakesCard

/-- THE SECOND FORM's CARD OF 'cringlelaw07.JsonMay'. -/
def jsonMayUptoCard : Claim7 := { stood := { row := jsonMayUptoRow, standIns := [], harness := (true, "0f3b41b5f511d3b6214f937e7db20cdcb421425b1690830d2262f279da0a8fa7"), looks := true }, kinds := [], alts := [], laidByText := true, laidKinds := [.data, .pinned], laidTests := true, laidLooks := .later }
def JsonMayUptoCardSaid : Prop := Claim7.holds Tryz.pinned (.plain (OpenSpec.upto jsonMaySpec)) jsonMayUptoCard

/-- THE SECOND FORM's CARD OF 'cringlelaw07.JsonMakes'. -/
def jsonMakesUptoCard : Claim7 := { stood := { row := jsonMakesUptoRow, standIns := [], harness := (true, "0f3b41b5f511d3b6214f937e7db20cdcb421425b1690830d2262f279da0a8fa7"), looks := true }, kinds := [], alts := [], laidByText := true, laidKinds := [.data, .data, .data, .data, .pinned], laidTests := true, laidLooks := .later }
def JsonMakesUptoCardSaid : Prop := Claim7.holds Tryz.pinned (.plain (OpenSpec.upto jsonMakesSpec)) jsonMakesUptoCard
end Rows
end Go.Proofs.YtfjgmejobldjoaaGreatDoor
