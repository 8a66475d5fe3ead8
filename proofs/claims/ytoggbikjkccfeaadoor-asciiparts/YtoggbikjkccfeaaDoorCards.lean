/-
  DERIVED. GIVEN WITH THE SEED: THE CARDS: each row of YtoggbikjkccfeaaDoorRows.lean that lists a variable, with what it lists TIED to the program's text (the seventh form; the later family's looks); each row that meets fmt, with fmt's text TOLD by the authors' own Lean function (tested against real Go, not proved from fmt's source: count such statements apart). THE CARD IS WHAT COUNTS. Prove the row's statement (the work); the ties are given (YtoggbikjkccfeaaDoorTie.lean); close each card by the builder's one call (the guide's Derived/Test/ToyasCard.lean, 'card_holds'). Laid BY PROGRAM, IN A SANDBOX (cutbox-door.mjs). By AI agents, Wed Nov 11 2026. No macro, syntax, notation, axiom, sorry.
-/
import Derived.Test.YtoggbikjkccfeaaDoorRows
import GoSem.ClaimSeven
namespace Go.Proofs.YtoggbikjkccfeaaDoor
namespace Rows

/-- THE TIED CARD OF 'cringlelaw01.AsciiSigns'. -/
def asciiSignsCard : Claim7 := { stood := { row := asciiSignsRow, standIns := [], harness := (true, "f76cbcb69d608671f22ce0bef716814f1cedce6e3a3e53a4d1019336a1d716e8"), looks := false }, kinds := [], alts := [], laidByText := true, laidKinds := [.data, .data, .data], laidTests := true, laidLooks := .later }
def AsciiSignsCardSaid : Prop := Claim7.holds Tryd.pinned (.plain (OpenSpec.ofChange asciiSignsSpec)) asciiSignsCard

/-- THE TIED CARD OF 'cringlelaw01.AsciiTexts'. -/
def asciiTextsCard : Claim7 := { stood := { row := asciiTextsRow, standIns := [], harness := (true, "f76cbcb69d608671f22ce0bef716814f1cedce6e3a3e53a4d1019336a1d716e8"), looks := false }, kinds := [], alts := [], laidByText := true, laidKinds := [.data, .data, .data], laidTests := true, laidLooks := .later }
def AsciiTextsCardSaid : Prop := Claim7.holds Tryd.pinned (.plain (OpenSpec.ofChange asciiTextsSpec)) asciiTextsCard

/-- THE TIED CARD OF 'cringlelaw01.AsciiNumbers'. -/
def asciiNumbersCard : Claim7 := { stood := { row := asciiNumbersRow, standIns := [], harness := (true, "f76cbcb69d608671f22ce0bef716814f1cedce6e3a3e53a4d1019336a1d716e8"), looks := false }, kinds := [], alts := [], laidByText := true, laidKinds := [.data, .data, .data], laidTests := true, laidLooks := .later }
def AsciiNumbersCardSaid : Prop := Claim7.holds Tryd.pinned (.plain (OpenSpec.ofChange asciiNumbersSpec)) asciiNumbersCard

/-- THE TIED CARD OF 'cringlelaw01.AsciiDigits'. -/
def asciiDigitsCard : Claim7 := { stood := { row := asciiDigitsRow, standIns := [], harness := (true, "f76cbcb69d608671f22ce0bef716814f1cedce6e3a3e53a4d1019336a1d716e8"), looks := false }, kinds := [], alts := [], laidByText := true, laidKinds := [.data, .data, .data], laidTests := true, laidLooks := .later }
def AsciiDigitsCardSaid : Prop := Claim7.holds Tryd.pinned (.plain (OpenSpec.ofChange asciiDigitsSpec)) asciiDigitsCard

/-- THE TIED CARD OF 'cringlelaw01.AsciiParts'. -/
def asciiPartsCard : Claim7 := { stood := { row := asciiPartsRow, standIns := [], harness := (true, "f76cbcb69d608671f22ce0bef716814f1cedce6e3a3e53a4d1019336a1d716e8"), looks := false }, kinds := [], alts := [], laidByText := true, laidKinds := [.data, .data, .data], laidTests := true, laidLooks := .later }
def AsciiPartsCardSaid : Prop := Claim7.holds Tryd.pinned (.plain (OpenSpec.ofChange asciiPartsSpec)) asciiPartsCard

/-- THE TIED CARD OF 'cringlelaw01.AsciiBack'. -/
def asciiBackCard : Claim7 := { stood := { row := asciiBackRow, standIns := [], harness := (true, "f76cbcb69d608671f22ce0bef716814f1cedce6e3a3e53a4d1019336a1d716e8"), looks := false }, kinds := [], alts := [], laidByText := true, laidKinds := [.data, .data, .data], laidTests := true, laidLooks := .later }
def AsciiBackCardSaid : Prop := Claim7.holds Tryd.pinned (.plain (OpenSpec.ofChange asciiBackSpec)) asciiBackCard

/-- THE SECOND FORM's CARD OF 'cringlelaw01.AsciiSigns'. -/
def asciiSignsUptoCard : Claim7 := { stood := { row := asciiSignsUptoRow, standIns := [], harness := (true, "f76cbcb69d608671f22ce0bef716814f1cedce6e3a3e53a4d1019336a1d716e8"), looks := false }, kinds := [], alts := [], laidByText := true, laidKinds := [.data, .data, .data], laidTests := true, laidLooks := .later }
def AsciiSignsUptoCardSaid : Prop := Claim7.holds Tryd.pinned (.plain (OpenSpec.upto asciiSignsSpec)) asciiSignsUptoCard

/-- THE SECOND FORM's CARD OF 'cringlelaw01.AsciiTexts'. -/
def asciiTextsUptoCard : Claim7 := { stood := { row := asciiTextsUptoRow, standIns := [], harness := (true, "f76cbcb69d608671f22ce0bef716814f1cedce6e3a3e53a4d1019336a1d716e8"), looks := false }, kinds := [], alts := [], laidByText := true, laidKinds := [.data, .data, .data], laidTests := true, laidLooks := .later }
def AsciiTextsUptoCardSaid : Prop := Claim7.holds Tryd.pinned (.plain (OpenSpec.upto asciiTextsSpec)) asciiTextsUptoCard

/-- THE SECOND FORM's CARD OF 'cringlelaw01.AsciiNumbers'. -/
def asciiNumbersUptoCard : Claim7 := { stood := { row := asciiNumbersUptoRow, standIns := [], harness := (true, "f76cbcb69d608671f22ce0bef716814f1cedce6e3a3e53a4d1019336a1d716e8"), looks := false }, kinds := [], alts := [], laidByText := true, laidKinds := [.data, .data, .data], laidTests := true, laidLooks := .later }
def AsciiNumbersUptoCardSaid : Prop := Claim7.holds Tryd.pinned (.plain (OpenSpec.upto asciiNumbersSpec)) asciiNumbersUptoCard

/-- THE SECOND FORM's CARD OF 'cringlelaw01.AsciiDigits'. -/
def asciiDigitsUptoCard : Claim7 := { stood := { row := asciiDigitsUptoRow, standIns := [], harness := (true, "f76cbcb69d608671f22ce0bef716814f1cedce6e3a3e53a4d1019336a1d716e8"), looks := false }, kinds := [], alts := [], laidByText := true, laidKinds := [.data, .data, .data], laidTests := true, laidLooks := .later }
def AsciiDigitsUptoCardSaid : Prop := Claim7.holds Tryd.pinned (.plain (OpenSpec.upto asciiDigitsSpec)) asciiDigitsUptoCard

/-- THE SECOND FORM's CARD OF 'cringlelaw01.AsciiParts'. -/
def asciiPartsUptoCard : Claim7 := { stood := { row := asciiPartsUptoRow, standIns := [], harness := (true, "f76cbcb69d608671f22ce0bef716814f1cedce6e3a3e53a4d1019336a1d716e8"), looks := false }, kinds := [], alts := [], laidByText := true, laidKinds := [.data, .data, .data], laidTests := true, laidLooks := .later }
def AsciiPartsUptoCardSaid : Prop := Claim7.holds Tryd.pinned (.plain (OpenSpec.upto asciiPartsSpec)) asciiPartsUptoCard

/-- THE SECOND FORM's CARD OF 'cringlelaw01.AsciiBack'. -/
def asciiBackUptoCard : Claim7 := { stood := { row := asciiBackUptoRow, standIns := [], harness := (true, "f76cbcb69d608671f22ce0bef716814f1cedce6e3a3e53a4d1019336a1d716e8"), looks := false }, kinds := [], alts := [], laidByText := true, laidKinds := [.data, .data, .data], laidTests := true, laidLooks := .later }
def AsciiBackUptoCardSaid : Prop := Claim7.holds Tryd.pinned (.plain (OpenSpec.upto asciiBackSpec)) asciiBackUptoCard
end Rows
end Go.Proofs.YtoggbikjkccfeaaDoor
