/-
  DERIVED. GIVEN WITH THE SEED: THE CARDS: each row of YtpnmiknikkhliaaDoorRows.lean that lists a variable, with what it lists TIED to the program's text (the seventh form; the later family's looks); each row that meets fmt, with fmt's text TOLD by the authors' own Lean function (tested against real Go, not proved from fmt's source: count such statements apart). THE CARD IS WHAT COUNTS. Prove the row's statement (the work); the ties are given (YtpnmiknikkhliaaDoorTie.lean); close each card by the builder's one call (the guide's Derived/Test/ToyasCard.lean, 'card_holds'). Laid BY PROGRAM, IN A SANDBOX (cutbox-door.mjs). By AI agents, Wed Nov 11 2026. No macro, syntax, notation, axiom, sorry.
-/
import Derived.Test.YtpnmiknikkhliaaDoorRows
import GoSem.ClaimSeven
namespace Go.Proofs.YtpnmiknikkhliaaDoor
namespace Rows

/-- THE TIED CARD OF 'cringlelaw07.JsonGets'. -/
def jsonGetsCard : Claim7 := { stood := { row := jsonGetsRow, standIns := [], harness := (true, "ec10bbdb4f63ee18ffdb9388f4f99fc7cf0a7f2ca94adf892c3549c9e7365872"), looks := true }, kinds := [], alts := [], laidByText := true, laidKinds := [.data, .pinned], laidTests := true, laidLooks := .later }
def JsonGetsCardSaid : Prop := Claim7.holds Tryd.pinned (.plain (OpenSpec.ofChange jsonGetsSpec)) jsonGetsCard

/-- THE TIED CARD OF 'cringlelaw07.JsonBack'. -/
def jsonBackCard : Claim7 := { stood := { row := jsonBackRow, standIns := [], harness := (true, "ec10bbdb4f63ee18ffdb9388f4f99fc7cf0a7f2ca94adf892c3549c9e7365872"), looks := true }, kinds := [], alts := [], laidByText := true, laidKinds := [.data, .pinned], laidTests := true, laidLooks := .later }
def JsonBackCardSaid : Prop := Claim7.holds Tryd.pinned (.plain (OpenSpec.ofChange jsonBackSpec)) jsonBackCard

/-- THE TIED CARD OF 'cringlelaw07.JsonRead'. -/
def jsonReadCard : Claim7 := { stood := { row := jsonReadRow, standIns := [], harness := (true, "ec10bbdb4f63ee18ffdb9388f4f99fc7cf0a7f2ca94adf892c3549c9e7365872"), looks := true }, kinds := [], alts := [], laidByText := true, laidKinds := [.data, .pinned], laidTests := true, laidLooks := .later }
def JsonReadCardSaid : Prop := Claim7.holds Tryd.pinned (.plain (OpenSpec.ofChange jsonReadSpec)) jsonReadCard

/-- THE SECOND FORM's CARD OF 'cringlelaw07.JsonGets'. -/
def jsonGetsUptoCard : Claim7 := { stood := { row := jsonGetsUptoRow, standIns := [], harness := (true, "ec10bbdb4f63ee18ffdb9388f4f99fc7cf0a7f2ca94adf892c3549c9e7365872"), looks := true }, kinds := [], alts := [], laidByText := true, laidKinds := [.data, .pinned], laidTests := true, laidLooks := .later }
def JsonGetsUptoCardSaid : Prop := Claim7.holds Tryd.pinned (.plain (OpenSpec.upto jsonGetsSpec)) jsonGetsUptoCard

/-- THE SECOND FORM's CARD OF 'cringlelaw07.JsonBack'. -/
def jsonBackUptoCard : Claim7 := { stood := { row := jsonBackUptoRow, standIns := [], harness := (true, "ec10bbdb4f63ee18ffdb9388f4f99fc7cf0a7f2ca94adf892c3549c9e7365872"), looks := true }, kinds := [], alts := [], laidByText := true, laidKinds := [.data, .pinned], laidTests := true, laidLooks := .later }
def JsonBackUptoCardSaid : Prop := Claim7.holds Tryd.pinned (.plain (OpenSpec.upto jsonBackSpec)) jsonBackUptoCard

/-- THE SECOND FORM's CARD OF 'cringlelaw07.JsonRead'. -/
def jsonReadUptoCard : Claim7 := { stood := { row := jsonReadUptoRow, standIns := [], harness := (true, "ec10bbdb4f63ee18ffdb9388f4f99fc7cf0a7f2ca94adf892c3549c9e7365872"), looks := true }, kinds := [], alts := [], laidByText := true, laidKinds := [.data, .pinned], laidTests := true, laidLooks := .later }
def JsonReadUptoCardSaid : Prop := Claim7.holds Tryd.pinned (.plain (OpenSpec.upto jsonReadSpec)) jsonReadUptoCard
end Rows
end Go.Proofs.YtpnmiknikkhliaaDoor
