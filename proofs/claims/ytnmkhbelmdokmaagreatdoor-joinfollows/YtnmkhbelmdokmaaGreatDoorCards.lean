/-
  DERIVED. GIVEN WITH THE SEED: THE CARDS: each row of YtnmkhbelmdokmaaGreatDoorRows.lean that lists a variable, with what it lists TIED to the program's text (the seventh form; the later family's looks); each row that meets fmt, with fmt's text TOLD by the authors' own Lean function (tested against real Go, not proved from fmt's source: count such statements apart). THE CARD IS WHAT COUNTS. Prove the row's statement (the work); the ties are given (YtnmkhbelmdokmaaGreatDoorTie.lean); close each card by the builder's one call (the guide's Derived/Test/ToyasCard.lean, 'card_holds'). Laid BY PROGRAM, IN A SANDBOX (cutbox-door.mjs). By AI agents, Wed Nov 11 2026. No macro, syntax, notation, axiom, sorry.
-/
import Derived.Test.YtnmkhbelmdokmaaGreatDoorRows
import GoSem.ClaimSeven
namespace Go.Proofs.YtnmkhbelmdokmaaGreatDoor
namespace Rows

/-- THE TIED CARD OF 'cringlelaw04.UrlParses'. -/
def urlParsesCard : Claim7 := { stood := { row := urlParsesRow, standIns := [], harness := (true, "74ea527e54f9a5d7b2760929ed6df4dab354c1f6b0afafc4fadb507854a13f3c"), looks := false }, kinds := [], alts := [], laidByText := true, laidKinds := [.data, .data, .data, .data, .pinned], laidTests := true, laidLooks := .later }
def UrlParsesCardSaid : Prop := Claim7.holds Tryz.pinned (.plain (OpenSpec.ofChange urlParsesSpec)) urlParsesCard

/-- THE TIED CARD OF 'cringlelaw04.UrlTexts'. -/
def urlTextsCard : Claim7 := { stood := { row := urlTextsRow, standIns := [], harness := (true, "74ea527e54f9a5d7b2760929ed6df4dab354c1f6b0afafc4fadb507854a13f3c"), looks := false }, kinds := [], alts := [], laidByText := true, laidKinds := [.data, .data, .data, .data, .pinned], laidTests := true, laidLooks := .later }
def UrlTextsCardSaid : Prop := Claim7.holds Tryz.pinned (.plain (OpenSpec.ofChange urlTextsSpec)) urlTextsCard

/-- THE TIED CARD OF 'cringlelaw05.JoinLinks'. -/
def joinLinksCard : Claim7 := { stood := { row := joinLinksRow, standIns := [], harness := (true, "74ea527e54f9a5d7b2760929ed6df4dab354c1f6b0afafc4fadb507854a13f3c"), looks := false }, kinds := [], alts := [], laidByText := true, laidKinds := [.data, .data, .data, .data, .pinned], laidTests := true, laidLooks := .later }
def JoinLinksCardSaid : Prop := Claim7.holds Tryz.pinned (.plain (OpenSpec.ofChange joinLinksSpec)) joinLinksCard

/-- THE TIED CARD OF 'cringlelaw05.JoinKeys'. -/
def joinKeysCard : Claim7 := { stood := { row := joinKeysRow, standIns := [], harness := (true, "74ea527e54f9a5d7b2760929ed6df4dab354c1f6b0afafc4fadb507854a13f3c"), looks := false }, kinds := [], alts := [], laidByText := true, laidKinds := [.data, .data, .data, .data, .pinned], laidTests := true, laidLooks := .later }
def JoinKeysCardSaid : Prop := Claim7.holds Tryz.pinned (.plain (OpenSpec.ofChange joinKeysSpec)) joinKeysCard

/-- THE TIED CARD OF 'cringlelaw05.JoinFollows'. -/
def joinFollowsCard : Claim7 := { stood := { row := joinFollowsRow, standIns := [], harness := (true, "74ea527e54f9a5d7b2760929ed6df4dab354c1f6b0afafc4fadb507854a13f3c"), looks := false }, kinds := [], alts := [], laidByText := true, laidKinds := [.data, .data, .data, .data, .pinned], laidTests := true, laidLooks := .later }
def JoinFollowsCardSaid : Prop := Claim7.holds Tryz.pinned (.plain (OpenSpec.ofChange joinFollowsSpec)) joinFollowsCard

/-- THE TIED CARD OF 'cringlelaw05.JoinSelf'. -/
def joinSelfCard : Claim7 := { stood := { row := joinSelfRow, standIns := [], harness := (true, "74ea527e54f9a5d7b2760929ed6df4dab354c1f6b0afafc4fadb507854a13f3c"), looks := false }, kinds := [], alts := [], laidByText := true, laidKinds := [.data, .data, .data, .data, .pinned], laidTests := true, laidLooks := .later }
def JoinSelfCardSaid : Prop := Claim7.holds Tryz.pinned (.plain (OpenSpec.ofChange joinSelfSpec)) joinSelfCard

/-- THE SECOND FORM's CARD OF 'cringlelaw04.UrlParses'. -/
def urlParsesUptoCard : Claim7 := { stood := { row := urlParsesUptoRow, standIns := [], harness := (true, "74ea527e54f9a5d7b2760929ed6df4dab354c1f6b0afafc4fadb507854a13f3c"), looks := false }, kinds := [], alts := [], laidByText := true, laidKinds := [.data, .data, .data, .data, .pinned], laidTests := true, laidLooks := .later }
def UrlParsesUptoCardSaid : Prop := Claim7.holds Tryz.pinned (.plain (OpenSpec.upto urlParsesSpec)) urlParsesUptoCard

/-- THE SECOND FORM's CARD OF 'cringlelaw04.UrlTexts'. -/
def urlTextsUptoCard : Claim7 := { stood := { row := urlTextsUptoRow, standIns := [], harness := (true, "74ea527e54f9a5d7b2760929ed6df4dab354c1f6b0afafc4fadb507854a13f3c"), looks := false }, kinds := [], alts := [], laidByText := true, laidKinds := [.data, .data, .data, .data, .pinned], laidTests := true, laidLooks := .later }
def UrlTextsUptoCardSaid : Prop := Claim7.holds Tryz.pinned (.plain (OpenSpec.upto urlTextsSpec)) urlTextsUptoCard

/-- THE SECOND FORM's CARD OF 'cringlelaw05.JoinLinks'. -/
def joinLinksUptoCard : Claim7 := { stood := { row := joinLinksUptoRow, standIns := [], harness := (true, "74ea527e54f9a5d7b2760929ed6df4dab354c1f6b0afafc4fadb507854a13f3c"), looks := false }, kinds := [], alts := [], laidByText := true, laidKinds := [.data, .data, .data, .data, .pinned], laidTests := true, laidLooks := .later }
def JoinLinksUptoCardSaid : Prop := Claim7.holds Tryz.pinned (.plain (OpenSpec.upto joinLinksSpec)) joinLinksUptoCard

/-- THE SECOND FORM's CARD OF 'cringlelaw05.JoinKeys'. -/
def joinKeysUptoCard : Claim7 := { stood := { row := joinKeysUptoRow, standIns := [], harness := (true, "74ea527e54f9a5d7b2760929ed6df4dab354c1f6b0afafc4fadb507854a13f3c"), looks := false }, kinds := [], alts := [], laidByText := true, laidKinds := [.data, .data, .data, .data, .pinned], laidTests := true, laidLooks := .later }
def JoinKeysUptoCardSaid : Prop := Claim7.holds Tryz.pinned (.plain (OpenSpec.upto joinKeysSpec)) joinKeysUptoCard

/-- THE SECOND FORM's CARD OF 'cringlelaw05.JoinFollows'. -/
def joinFollowsUptoCard : Claim7 := { stood := { row := joinFollowsUptoRow, standIns := [], harness := (true, "74ea527e54f9a5d7b2760929ed6df4dab354c1f6b0afafc4fadb507854a13f3c"), looks := false }, kinds := [], alts := [], laidByText := true, laidKinds := [.data, .data, .data, .data, .pinned], laidTests := true, laidLooks := .later }
def JoinFollowsUptoCardSaid : Prop := Claim7.holds Tryz.pinned (.plain (OpenSpec.upto joinFollowsSpec)) joinFollowsUptoCard

/-- THE SECOND FORM's CARD OF 'cringlelaw05.JoinSelf'. -/
def joinSelfUptoCard : Claim7 := { stood := { row := joinSelfUptoRow, standIns := [], harness := (true, "74ea527e54f9a5d7b2760929ed6df4dab354c1f6b0afafc4fadb507854a13f3c"), looks := false }, kinds := [], alts := [], laidByText := true, laidKinds := [.data, .data, .data, .data, .pinned], laidTests := true, laidLooks := .later }
def JoinSelfUptoCardSaid : Prop := Claim7.holds Tryz.pinned (.plain (OpenSpec.upto joinSelfSpec)) joinSelfUptoCard
end Rows
end Go.Proofs.YtnmkhbelmdokmaaGreatDoor
