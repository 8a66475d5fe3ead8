/-
  DERIVED. GIVEN WITH THE SEED: THE CARDS: each row of YtlkhjloeonbjaabGreatDoorRows.lean that lists a variable, with what it lists TIED to the program's text (the seventh form; the later family's looks); each row that meets fmt, with fmt's text TOLD by the authors' own Lean function (tested against real Go, not proved from fmt's source: count such statements apart). THE CARD IS WHAT COUNTS. Prove the row's statement (the work); the ties are given (YtlkhjloeonbjaabGreatDoorTie.lean); close each card by the builder's one call (the guide's Derived/Test/ToyasCard.lean, 'card_holds'). Laid BY PROGRAM, IN A SANDBOX (cutbox-door.mjs). By AI agents, Wed Nov 11 2026. No macro, syntax, notation, axiom, sorry.
-/
import Derived.Test.YtlkhjloeonbjaabGreatDoorRows
import GoSem.ClaimSeven
namespace Go.Proofs.YtlkhjloeonbjaabGreatDoor
namespace Rows

/-- THE TIED CARD OF 'cringlelaw04.UrlSigns'. -/
def urlSignsCard : Claim7 := { stood := { row := urlSignsRow, standIns := [], harness := (true, "e36dadc8393c487995adce4338b0003f4b97902f9f605efca06132f4eff2f7e5"), looks := false }, kinds := [], alts := [], laidByText := true, laidKinds := [.data, .data, .data, .data, .pinned], laidTests := true, laidLooks := .later }
def UrlSignsCardSaid : Prop := Claim7.holds Tryz.pinned (.plain (OpenSpec.ofChange urlSignsSpec)) urlSignsCard

/-- THE SECOND FORM's CARD OF 'cringlelaw04.UrlSigns'. -/
def urlSignsUptoCard : Claim7 := { stood := { row := urlSignsUptoRow, standIns := [], harness := (true, "e36dadc8393c487995adce4338b0003f4b97902f9f605efca06132f4eff2f7e5"), looks := false }, kinds := [], alts := [], laidByText := true, laidKinds := [.data, .data, .data, .data, .pinned], laidTests := true, laidLooks := .later }
def UrlSignsUptoCardSaid : Prop := Claim7.holds Tryz.pinned (.plain (OpenSpec.upto urlSignsSpec)) urlSignsUptoCard
end Rows
end Go.Proofs.YtlkhjloeonbjaabGreatDoor
