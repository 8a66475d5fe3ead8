/-
  DERIVED. GIVEN WITH THE SEED: THE CARDS: each row of YtnmkhbelmdokmabGreatDoorRows.lean that lists a variable, with what it lists TIED to the program's text (the seventh form; the later family's looks); each row that meets fmt, with fmt's text TOLD by the authors' own Lean function (tested against real Go, not proved from fmt's source: count such statements apart). THE CARD IS WHAT COUNTS. Prove the row's statement (the work); the ties are given (YtnmkhbelmdokmabGreatDoorTie.lean); close each card by the builder's one call (the guide's Derived/Test/ToyasCard.lean, 'card_holds'). Laid BY PROGRAM, IN A SANDBOX (cutbox-door.mjs). By AI agents, Wed Nov 11 2026. No macro, syntax, notation, axiom, sorry.
-/
import Derived.Test.YtnmkhbelmdokmabGreatDoorRows
import GoSem.ClaimSeven
namespace Go.Proofs.YtnmkhbelmdokmabGreatDoor
namespace Rows

/-- THE TIED CARD OF 'cringlelaw05.JoinMay'. -/
def joinMayCard : Claim7 := { stood := { row := joinMayRow, standIns := [], harness := (true, "1481b10b9af4415a109449d93cd2d564f5eaa694d8e955ad640dd64b1269fa0d"), looks := false }, kinds := [], alts := [], laidByText := true, laidKinds := [.data, .data, .data, .data, .pinned], laidTests := true, laidLooks := .later }
def JoinMayCardSaid : Prop := Claim7.holds Tryz.pinned (.plain (OpenSpec.ofChange joinMaySpec)) joinMayCard

/-- THE TIED CARD OF 'cringlelaw05.JoinBack'. -/
def joinBackCard : Claim7 := { stood := { row := joinBackRow, standIns := [], harness := (true, "1481b10b9af4415a109449d93cd2d564f5eaa694d8e955ad640dd64b1269fa0d"), looks := false }, kinds := [], alts := [], laidByText := true, laidKinds := [.data, .data, .data, .data, .pinned], laidTests := true, laidLooks := .later }
def JoinBackCardSaid : Prop := Claim7.holds Tryz.pinned (.plain (OpenSpec.ofChange joinBackSpec)) joinBackCard

/-- THE TIED CARD OF 'cringlelaw05.JoinKeyed'. -/
def joinKeyedCard : Claim7 := { stood := { row := joinKeyedRow, standIns := [], harness := (true, "1481b10b9af4415a109449d93cd2d564f5eaa694d8e955ad640dd64b1269fa0d"), looks := false }, kinds := [], alts := [], laidByText := true, laidKinds := [.data, .data, .data, .data, .pinned], laidTests := true, laidLooks := .later }
def JoinKeyedCardSaid : Prop := Claim7.holds Tryz.pinned (.plain (OpenSpec.ofChange joinKeyedSpec)) joinKeyedCard

/-- THE SECOND FORM's CARD OF 'cringlelaw05.JoinMay'. -/
def joinMayUptoCard : Claim7 := { stood := { row := joinMayUptoRow, standIns := [], harness := (true, "1481b10b9af4415a109449d93cd2d564f5eaa694d8e955ad640dd64b1269fa0d"), looks := false }, kinds := [], alts := [], laidByText := true, laidKinds := [.data, .data, .data, .data, .pinned], laidTests := true, laidLooks := .later }
def JoinMayUptoCardSaid : Prop := Claim7.holds Tryz.pinned (.plain (OpenSpec.upto joinMaySpec)) joinMayUptoCard

/-- THE SECOND FORM's CARD OF 'cringlelaw05.JoinBack'. -/
def joinBackUptoCard : Claim7 := { stood := { row := joinBackUptoRow, standIns := [], harness := (true, "1481b10b9af4415a109449d93cd2d564f5eaa694d8e955ad640dd64b1269fa0d"), looks := false }, kinds := [], alts := [], laidByText := true, laidKinds := [.data, .data, .data, .data, .pinned], laidTests := true, laidLooks := .later }
def JoinBackUptoCardSaid : Prop := Claim7.holds Tryz.pinned (.plain (OpenSpec.upto joinBackSpec)) joinBackUptoCard

/-- THE SECOND FORM's CARD OF 'cringlelaw05.JoinKeyed'. -/
def joinKeyedUptoCard : Claim7 := { stood := { row := joinKeyedUptoRow, standIns := [], harness := (true, "1481b10b9af4415a109449d93cd2d564f5eaa694d8e955ad640dd64b1269fa0d"), looks := false }, kinds := [], alts := [], laidByText := true, laidKinds := [.data, .data, .data, .data, .pinned], laidTests := true, laidLooks := .later }
def JoinKeyedUptoCardSaid : Prop := Claim7.holds Tryz.pinned (.plain (OpenSpec.upto joinKeyedSpec)) joinKeyedUptoCard
end Rows
end Go.Proofs.YtnmkhbelmdokmabGreatDoor
