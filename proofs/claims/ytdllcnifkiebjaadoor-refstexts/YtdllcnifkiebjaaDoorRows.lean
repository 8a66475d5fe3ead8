/-
  NARROWER THAN 'FOR EVERY INPUT', by the rows' own cells (each row's printed sentence says how): RefsNames: laid · RefsNexts: laid · RefsTexts: laid · RefsBack: laid · RefsText: laid · RefsNumbers: laid.
  DERIVED. THE GIVEN ROWS OF THIS SEAT. 6 by the template 'for every input the law returns true; each argument reads behind the call as it read before'; 0 by the template 'total and deterministic' (their statements: YtdllcnifkiebjaaDoorTotals.lean).
  GIVEN WITH THE SEED: the statements are not yours to turn. If you find one false, say at which input.
  Laid BY PROGRAM, IN A SANDBOX (cutbox-rows.mjs): the forced cells as the released guide's own fill.sh prints them over the translation a34d463f44152ee6… (all of the seat's roots in one cut). By AI agents, Wed Nov 11 2026. No macro, syntax, notation, axiom, sorry.
-/
import Derived.Test.YtdllcnifkiebjaaDoorChecked
import GoSem.Claim
import GoSem.ClaimJoined
import GoSem.ClaimMapViews
import Derived.JoinedTies
import Derived.KernelRfl
namespace Go.Proofs.YtdllcnifkiebjaaDoor
/- THE CELL 'sum', in the pinned program and in every row, IS THE sha256 OF THE DUMP (.gsa) THAT YtdllcnifkiebjaaDoorProg.lean LOADS. Nothing in Lean hashes anything: it is a label: what it is worth is what the hold of that sum in a sandbox is worth. -/
noncomputable def Tryd.pinned : Pinned := { name := "ytdllcnifkiebjaadoor", sum := "a34d463f44152ee6a85b87bff503b7e7dc654a21a3f82cca86072227c03a9b58", checked := Tryd.checked }
namespace Rows
def none {H : Type} : Left H := { results := [], args := [] }

/- WHAT THE LISTED PACKAGE-LEVEL VARIABLES READ AS WHEN THE CALL BEGINS. Each datum BY PROGRAM (the guide's laid-datum.mjs) off the statement by which the dump's own 'gosem.cut.vars' lays the variable. In a bare row this is a premise. The card (YtdllcnifkiebjaaDoorCards.lean) ties it to the program's text. -/
def laid_cringle_refs_windows {H : Type} : DataW H := .agg [.lit (.int .i32 8364), .lit (.int .i32 0), .lit (.int .i32 8218), .lit (.int .i32 402), .lit (.int .i32 8222), .lit (.int .i32 8230), .lit (.int .i32 8224), .lit (.int .i32 8225), .lit (.int .i32 710), .lit (.int .i32 8240), .lit (.int .i32 352), .lit (.int .i32 8249), .lit (.int .i32 338), .lit (.int .i32 0), .lit (.int .i32 381), .lit (.int .i32 0), .lit (.int .i32 0), .lit (.int .i32 8216), .lit (.int .i32 8217), .lit (.int .i32 8220), .lit (.int .i32 8221), .lit (.int .i32 8226), .lit (.int .i32 8211), .lit (.int .i32 8212), .lit (.int .i32 732), .lit (.int .i32 8482), .lit (.int .i32 353), .lit (.int .i32 8250), .lit (.int .i32 339), .lit (.int .i32 0), .lit (.int .i32 382), .lit (.int .i32 376)]

/-- 'cringlelaw11.RefsNames': WHATEVER THE INPUT: true; the input reads as it did. -/
def refsNamesSpec : ChangeSpec := { name := "refsNames", fn := fun _ => fun
  | [d1, d2] => { results := [.lit (.bool true)], args := [d1, d2] }
  | _ => none }
def refsNamesRow : OpenClaim := { program := "ytdllcnifkiebjaadoor", sum := "a34d463f44152ee6a85b87bff503b7e7dc654a21a3f82cca86072227c03a9b58", func := "cringle/cringlelaw11.RefsNames", spec := "refsNames", inPlace := ["internal/bytealg.IndexByteString", "internal/abi.NoEscape"], unfollowed := true, recurses := true, named := ["cringle/refs.windows"], apart := false, laid := [("cringle/refs.windows", laid_cringle_refs_windows)] }
def RefsNamesSaid : Prop := refsNamesRow.holds Tryd.pinned (OpenSpec.ofChange refsNamesSpec)

/-- ITS FALSE NEIGHBOUR: 'it returns false'. Refute it at one input. -/
def refsNamesWrong : ChangeSpec := { name := "refsNames", fn := fun _ => fun
  | [d1, d2] => { results := [.lit (.bool false)], args := [d1, d2] }
  | _ => none }
def RefsNamesWrongFalsely : Prop := refsNamesRow.holds Tryd.pinned (OpenSpec.ofChange refsNamesWrong)

/-- 'cringlelaw11.RefsNexts': WHATEVER THE INPUT: true; the input reads as it did. -/
def refsNextsSpec : ChangeSpec := { name := "refsNexts", fn := fun _ => fun
  | [d1, d2] => { results := [.lit (.bool true)], args := [d1, d2] }
  | _ => none }
def refsNextsRow : OpenClaim := { program := "ytdllcnifkiebjaadoor", sum := "a34d463f44152ee6a85b87bff503b7e7dc654a21a3f82cca86072227c03a9b58", func := "cringle/cringlelaw11.RefsNexts", spec := "refsNexts", inPlace := ["internal/bytealg.IndexByteString", "internal/abi.NoEscape"], unfollowed := true, recurses := true, named := ["cringle/refs.windows"], apart := false, laid := [("cringle/refs.windows", laid_cringle_refs_windows)] }
def RefsNextsSaid : Prop := refsNextsRow.holds Tryd.pinned (OpenSpec.ofChange refsNextsSpec)

/-- ITS FALSE NEIGHBOUR: 'it returns false'. Refute it at one input. -/
def refsNextsWrong : ChangeSpec := { name := "refsNexts", fn := fun _ => fun
  | [d1, d2] => { results := [.lit (.bool false)], args := [d1, d2] }
  | _ => none }
def RefsNextsWrongFalsely : Prop := refsNextsRow.holds Tryd.pinned (OpenSpec.ofChange refsNextsWrong)

/-- 'cringlelaw11.RefsTexts': WHATEVER THE INPUT: true; the input reads as it did. -/
def refsTextsSpec : ChangeSpec := { name := "refsTexts", fn := fun _ => fun
  | [d1, d2] => { results := [.lit (.bool true)], args := [d1, d2] }
  | _ => none }
def refsTextsRow : OpenClaim := { program := "ytdllcnifkiebjaadoor", sum := "a34d463f44152ee6a85b87bff503b7e7dc654a21a3f82cca86072227c03a9b58", func := "cringle/cringlelaw11.RefsTexts", spec := "refsTexts", inPlace := ["internal/bytealg.IndexByteString", "internal/abi.NoEscape"], unfollowed := true, recurses := true, named := ["cringle/refs.windows"], apart := false, laid := [("cringle/refs.windows", laid_cringle_refs_windows)] }
def RefsTextsSaid : Prop := refsTextsRow.holds Tryd.pinned (OpenSpec.ofChange refsTextsSpec)

/-- ITS FALSE NEIGHBOUR: 'it returns false'. Refute it at one input. -/
def refsTextsWrong : ChangeSpec := { name := "refsTexts", fn := fun _ => fun
  | [d1, d2] => { results := [.lit (.bool false)], args := [d1, d2] }
  | _ => none }
def RefsTextsWrongFalsely : Prop := refsTextsRow.holds Tryd.pinned (OpenSpec.ofChange refsTextsWrong)

/-- 'cringlelaw11.RefsBack': WHATEVER THE INPUT: true; the input reads as it did. -/
def refsBackSpec : ChangeSpec := { name := "refsBack", fn := fun _ => fun
  | [d1, d2] => { results := [.lit (.bool true)], args := [d1, d2] }
  | _ => none }
def refsBackRow : OpenClaim := { program := "ytdllcnifkiebjaadoor", sum := "a34d463f44152ee6a85b87bff503b7e7dc654a21a3f82cca86072227c03a9b58", func := "cringle/cringlelaw11.RefsBack", spec := "refsBack", inPlace := ["internal/bytealg.IndexByteString", "internal/abi.NoEscape"], unfollowed := true, recurses := true, named := ["cringle/refs.windows"], apart := false, laid := [("cringle/refs.windows", laid_cringle_refs_windows)] }
def RefsBackSaid : Prop := refsBackRow.holds Tryd.pinned (OpenSpec.ofChange refsBackSpec)

/-- ITS FALSE NEIGHBOUR: 'it returns false'. Refute it at one input. -/
def refsBackWrong : ChangeSpec := { name := "refsBack", fn := fun _ => fun
  | [d1, d2] => { results := [.lit (.bool false)], args := [d1, d2] }
  | _ => none }
def RefsBackWrongFalsely : Prop := refsBackRow.holds Tryd.pinned (OpenSpec.ofChange refsBackWrong)

/-- 'cringlelaw11.RefsText': WHATEVER THE INPUT: true; the input reads as it did. -/
def refsTextSpec : ChangeSpec := { name := "refsText", fn := fun _ => fun
  | [d1, d2] => { results := [.lit (.bool true)], args := [d1, d2] }
  | _ => none }
def refsTextRow : OpenClaim := { program := "ytdllcnifkiebjaadoor", sum := "a34d463f44152ee6a85b87bff503b7e7dc654a21a3f82cca86072227c03a9b58", func := "cringle/cringlelaw11.RefsText", spec := "refsText", inPlace := ["internal/bytealg.IndexByteString", "internal/abi.NoEscape"], unfollowed := true, recurses := true, named := ["cringle/refs.windows"], apart := false, laid := [("cringle/refs.windows", laid_cringle_refs_windows)] }
def RefsTextSaid : Prop := refsTextRow.holds Tryd.pinned (OpenSpec.ofChange refsTextSpec)

/-- ITS FALSE NEIGHBOUR: 'it returns false'. Refute it at one input. -/
def refsTextWrong : ChangeSpec := { name := "refsText", fn := fun _ => fun
  | [d1, d2] => { results := [.lit (.bool false)], args := [d1, d2] }
  | _ => none }
def RefsTextWrongFalsely : Prop := refsTextRow.holds Tryd.pinned (OpenSpec.ofChange refsTextWrong)

/-- 'cringlelaw11.RefsNumbers': WHATEVER THE INPUT: true; the input reads as it did. -/
def refsNumbersSpec : ChangeSpec := { name := "refsNumbers", fn := fun _ => fun
  | [d1, d2] => { results := [.lit (.bool true)], args := [d1, d2] }
  | _ => none }
def refsNumbersRow : OpenClaim := { program := "ytdllcnifkiebjaadoor", sum := "a34d463f44152ee6a85b87bff503b7e7dc654a21a3f82cca86072227c03a9b58", func := "cringle/cringlelaw11.RefsNumbers", spec := "refsNumbers", inPlace := ["internal/bytealg.IndexByteString", "internal/abi.NoEscape"], unfollowed := true, recurses := true, named := ["cringle/refs.windows"], apart := false, laid := [("cringle/refs.windows", laid_cringle_refs_windows)] }
def RefsNumbersSaid : Prop := refsNumbersRow.holds Tryd.pinned (OpenSpec.ofChange refsNumbersSpec)

/-- ITS FALSE NEIGHBOUR: 'it returns false'. Refute it at one input. -/
def refsNumbersWrong : ChangeSpec := { name := "refsNumbers", fn := fun _ => fun
  | [d1, d2] => { results := [.lit (.bool false)], args := [d1, d2] }
  | _ => none }
def RefsNumbersWrongFalsely : Prop := refsNumbersRow.holds Tryd.pinned (OpenSpec.ofChange refsNumbersWrong)

/- THE SECOND FORM. 'bulk': how many values and letters a reading holds, each counted each time it is reached (what is shared counts as often as it is met; a slice's spare places count too). A statement '..UptoSaid' is the law's where the arguments, and the package variables that the reading takes, are together of bulk at most 1048576: NARROWER than '..Said'. Prove '..Said' where nothing that the law and all that it calls make is longer than what came in: it says more and counts as full. Else prove '..UptoSaid'. A law counts once. -/
mutual
def uptoBulk {H : Type} : DataW H → Nat
  | .lit (.string bytes) => bytes.length + 1
  | .lit _ => 1
  | .nil => 1
  | .ptr d => uptoBulk d + 1
  | .slice elems spare => uptoBulkAll elems + uptoBulkAll spare + 1
  | .agg parts => uptoBulkAll parts + 1
  | .iface _ d => uptoBulk d + 1
  | .map entries => uptoBulkEntries entries + 1
  | .held _ => 1
def uptoBulkAll {H : Type} : List (DataW H) → Nat
  | [] => 0
  | d :: r => uptoBulk d + uptoBulkAll r
def uptoBulkEntries {H : Type} : List (Lit × DataW H) → Nat
  | [] => 0
  | x :: r => uptoBulkEntry x + uptoBulkEntries r
def uptoBulkEntry {H : Type} : Lit × DataW H → Nat
  | (.string bytes, d) => bytes.length + uptoBulk d + 1
  | (_, d) => uptoBulk d + 1
 end
def uptoSmall : (H : Type) → List (DataW H) → Bool := fun _ ds => decide (uptoBulkAll ds ≤ 1048576)
def OpenSpec.upto (s : _root_.Go.ChangeSpec) : _root_.Go.OpenSpec := { _root_.Go.OpenSpec.ofChange s with cond := some uptoSmall }

/-- 'cringlelaw11.RefsNames', WHERE WHAT IT READS IS OF BULK AT MOST 1048576: true; the input reads as it did. -/
def refsNamesUptoRow : OpenClaim := { program := "ytdllcnifkiebjaadoor", sum := "a34d463f44152ee6a85b87bff503b7e7dc654a21a3f82cca86072227c03a9b58", func := "cringle/cringlelaw11.RefsNames", spec := "refsNames", inPlace := ["internal/bytealg.IndexByteString", "internal/abi.NoEscape"], unfollowed := true, recurses := true, named := ["cringle/refs.windows"], apart := false, laid := [("cringle/refs.windows", laid_cringle_refs_windows)], narrowed := true }
def RefsNamesUptoSaid : Prop := refsNamesUptoRow.holds Tryd.pinned (OpenSpec.upto refsNamesSpec)

/-- 'cringlelaw11.RefsNexts', WHERE WHAT IT READS IS OF BULK AT MOST 1048576: true; the input reads as it did. -/
def refsNextsUptoRow : OpenClaim := { program := "ytdllcnifkiebjaadoor", sum := "a34d463f44152ee6a85b87bff503b7e7dc654a21a3f82cca86072227c03a9b58", func := "cringle/cringlelaw11.RefsNexts", spec := "refsNexts", inPlace := ["internal/bytealg.IndexByteString", "internal/abi.NoEscape"], unfollowed := true, recurses := true, named := ["cringle/refs.windows"], apart := false, laid := [("cringle/refs.windows", laid_cringle_refs_windows)], narrowed := true }
def RefsNextsUptoSaid : Prop := refsNextsUptoRow.holds Tryd.pinned (OpenSpec.upto refsNextsSpec)

/-- 'cringlelaw11.RefsTexts', WHERE WHAT IT READS IS OF BULK AT MOST 1048576: true; the input reads as it did. -/
def refsTextsUptoRow : OpenClaim := { program := "ytdllcnifkiebjaadoor", sum := "a34d463f44152ee6a85b87bff503b7e7dc654a21a3f82cca86072227c03a9b58", func := "cringle/cringlelaw11.RefsTexts", spec := "refsTexts", inPlace := ["internal/bytealg.IndexByteString", "internal/abi.NoEscape"], unfollowed := true, recurses := true, named := ["cringle/refs.windows"], apart := false, laid := [("cringle/refs.windows", laid_cringle_refs_windows)], narrowed := true }
def RefsTextsUptoSaid : Prop := refsTextsUptoRow.holds Tryd.pinned (OpenSpec.upto refsTextsSpec)

/-- 'cringlelaw11.RefsBack', WHERE WHAT IT READS IS OF BULK AT MOST 1048576: true; the input reads as it did. -/
def refsBackUptoRow : OpenClaim := { program := "ytdllcnifkiebjaadoor", sum := "a34d463f44152ee6a85b87bff503b7e7dc654a21a3f82cca86072227c03a9b58", func := "cringle/cringlelaw11.RefsBack", spec := "refsBack", inPlace := ["internal/bytealg.IndexByteString", "internal/abi.NoEscape"], unfollowed := true, recurses := true, named := ["cringle/refs.windows"], apart := false, laid := [("cringle/refs.windows", laid_cringle_refs_windows)], narrowed := true }
def RefsBackUptoSaid : Prop := refsBackUptoRow.holds Tryd.pinned (OpenSpec.upto refsBackSpec)

/-- 'cringlelaw11.RefsText', WHERE WHAT IT READS IS OF BULK AT MOST 1048576: true; the input reads as it did. -/
def refsTextUptoRow : OpenClaim := { program := "ytdllcnifkiebjaadoor", sum := "a34d463f44152ee6a85b87bff503b7e7dc654a21a3f82cca86072227c03a9b58", func := "cringle/cringlelaw11.RefsText", spec := "refsText", inPlace := ["internal/bytealg.IndexByteString", "internal/abi.NoEscape"], unfollowed := true, recurses := true, named := ["cringle/refs.windows"], apart := false, laid := [("cringle/refs.windows", laid_cringle_refs_windows)], narrowed := true }
def RefsTextUptoSaid : Prop := refsTextUptoRow.holds Tryd.pinned (OpenSpec.upto refsTextSpec)

/-- 'cringlelaw11.RefsNumbers', WHERE WHAT IT READS IS OF BULK AT MOST 1048576: true; the input reads as it did. -/
def refsNumbersUptoRow : OpenClaim := { program := "ytdllcnifkiebjaadoor", sum := "a34d463f44152ee6a85b87bff503b7e7dc654a21a3f82cca86072227c03a9b58", func := "cringle/cringlelaw11.RefsNumbers", spec := "refsNumbers", inPlace := ["internal/bytealg.IndexByteString", "internal/abi.NoEscape"], unfollowed := true, recurses := true, named := ["cringle/refs.windows"], apart := false, laid := [("cringle/refs.windows", laid_cringle_refs_windows)], narrowed := true }
def RefsNumbersUptoSaid : Prop := refsNumbersUptoRow.holds Tryd.pinned (OpenSpec.upto refsNumbersSpec)

end Rows
end Go.Proofs.YtdllcnifkiebjaaDoor
