/-
  No cell of these rows narrows 'for every input' (looked for: loops, veiled, ifaces, maps, wideKeys, modest, calm, conditions, laid).
  DERIVED. THE GIVEN ROWS OF THIS SEAT. 5 by the template 'for every input the law returns true; each argument reads behind the call as it read before'; 0 by the template 'total and deterministic' (their statements: YtoiedadfpbbdgaaTotals.lean).
  GIVEN WITH THE SEED: the statements are not yours to turn. If you find one false, say at which input.
  Laid BY PROGRAM, IN A SANDBOX (cutbox-rows.mjs): the forced cells as the released guide's own fill.sh prints them over the translation cb271601af785e8a… (all of the seat's roots in one cut). By AI agents, Wed Nov 11 2026. No macro, syntax, notation, axiom, sorry.
-/
import Derived.Test.YtoiedadfpbbdgaaChecked
import GoSem.Claim
import GoSem.ClaimJoined
import GoSem.ClaimMapViews
import Derived.JoinedTies
import Derived.KernelRfl
namespace Go.Proofs.Ytoiedadfpbbdgaa
/- THE CELL 'sum', in the pinned program and in every row, IS THE sha256 OF THE DUMP (.gsa) THAT YtoiedadfpbbdgaaProg.lean LOADS. Nothing in Lean hashes anything: it is a label: what it is worth is what the hold of that sum in a sandbox is worth. -/
noncomputable def Try.pinned : Pinned := { name := "ytoiedadfpbbdgaa", sum := "cb271601af785e8a029363fb47da0464313ce356c439cb6ebb55761bab94f509", checked := Try.checked }
namespace Rows
def none {H : Type} : Left H := { results := [], args := [] }

/-- 'cringlelaw14.LookAttrs': WHATEVER THE INPUT: true; the input reads as it did. -/
def lookAttrsSpec : ChangeSpec := { name := "lookAttrs", fn := fun _ => fun
  | [d1, d2, d3] => { results := [.lit (.bool true)], args := [d1, d2, d3] }
  | _ => none }
def lookAttrsRow : OpenClaim := { program := "ytoiedadfpbbdgaa", sum := "cb271601af785e8a029363fb47da0464313ce356c439cb6ebb55761bab94f509", func := "cringle/cringlelaw14.LookAttrs", spec := "lookAttrs", inPlace := ["internal/abi.NoEscape"], unfollowed := true, recurses := true, apart := false }
def LookAttrsSaid : Prop := lookAttrsRow.holds Try.pinned (OpenSpec.ofChange lookAttrsSpec)

/-- ITS FALSE NEIGHBOUR: 'it returns false'. Refute it at one input. -/
def lookAttrsWrong : ChangeSpec := { name := "lookAttrs", fn := fun _ => fun
  | [d1, d2, d3] => { results := [.lit (.bool false)], args := [d1, d2, d3] }
  | _ => none }
def LookAttrsWrongFalsely : Prop := lookAttrsRow.holds Try.pinned (OpenSpec.ofChange lookAttrsWrong)

/-- 'cringlelaw14.LookFinds': WHATEVER THE INPUT: true; the input reads as it did. -/
def lookFindsSpec : ChangeSpec := { name := "lookFinds", fn := fun _ => fun
  | [d1, d2, d3] => { results := [.lit (.bool true)], args := [d1, d2, d3] }
  | _ => none }
def lookFindsRow : OpenClaim := { program := "ytoiedadfpbbdgaa", sum := "cb271601af785e8a029363fb47da0464313ce356c439cb6ebb55761bab94f509", func := "cringle/cringlelaw14.LookFinds", spec := "lookFinds", inPlace := ["internal/abi.NoEscape"], unfollowed := true, recurses := true, apart := false }
def LookFindsSaid : Prop := lookFindsRow.holds Try.pinned (OpenSpec.ofChange lookFindsSpec)

/-- ITS FALSE NEIGHBOUR: 'it returns false'. Refute it at one input. -/
def lookFindsWrong : ChangeSpec := { name := "lookFinds", fn := fun _ => fun
  | [d1, d2, d3] => { results := [.lit (.bool false)], args := [d1, d2, d3] }
  | _ => none }
def LookFindsWrongFalsely : Prop := lookFindsRow.holds Try.pinned (OpenSpec.ofChange lookFindsWrong)

/-- 'cringlelaw14.LookRises': WHATEVER THE INPUT: true; the input reads as it did. -/
def lookRisesSpec : ChangeSpec := { name := "lookRises", fn := fun _ => fun
  | [d1, d2] => { results := [.lit (.bool true)], args := [d1, d2] }
  | _ => none }
def lookRisesRow : OpenClaim := { program := "ytoiedadfpbbdgaa", sum := "cb271601af785e8a029363fb47da0464313ce356c439cb6ebb55761bab94f509", func := "cringle/cringlelaw14.LookRises", spec := "lookRises", inPlace := ["internal/abi.NoEscape"], unfollowed := true, recurses := true, apart := false }
def LookRisesSaid : Prop := lookRisesRow.holds Try.pinned (OpenSpec.ofChange lookRisesSpec)

/-- ITS FALSE NEIGHBOUR: 'it returns false'. Refute it at one input. -/
def lookRisesWrong : ChangeSpec := { name := "lookRises", fn := fun _ => fun
  | [d1, d2] => { results := [.lit (.bool false)], args := [d1, d2] }
  | _ => none }
def LookRisesWrongFalsely : Prop := lookRisesRow.holds Try.pinned (OpenSpec.ofChange lookRisesWrong)

/-- 'cringlelaw14.LookJoined': WHATEVER THE INPUT: true; the input reads as it did. -/
def lookJoinedSpec : ChangeSpec := { name := "lookJoined", fn := fun _ => fun
  | [d1, d2] => { results := [.lit (.bool true)], args := [d1, d2] }
  | _ => none }
def lookJoinedRow : OpenClaim := { program := "ytoiedadfpbbdgaa", sum := "cb271601af785e8a029363fb47da0464313ce356c439cb6ebb55761bab94f509", func := "cringle/cringlelaw14.LookJoined", spec := "lookJoined", inPlace := ["internal/abi.NoEscape"], unfollowed := true, recurses := true, apart := false }
def LookJoinedSaid : Prop := lookJoinedRow.holds Try.pinned (OpenSpec.ofChange lookJoinedSpec)

/-- ITS FALSE NEIGHBOUR: 'it returns false'. Refute it at one input. -/
def lookJoinedWrong : ChangeSpec := { name := "lookJoined", fn := fun _ => fun
  | [d1, d2] => { results := [.lit (.bool false)], args := [d1, d2] }
  | _ => none }
def LookJoinedWrongFalsely : Prop := lookJoinedRow.holds Try.pinned (OpenSpec.ofChange lookJoinedWrong)

/-- 'cringlelaw14.LookTrimmed': WHATEVER THE INPUT: true; the input reads as it did. -/
def lookTrimmedSpec : ChangeSpec := { name := "lookTrimmed", fn := fun _ => fun
  | [d1, d2] => { results := [.lit (.bool true)], args := [d1, d2] }
  | _ => none }
def lookTrimmedRow : OpenClaim := { program := "ytoiedadfpbbdgaa", sum := "cb271601af785e8a029363fb47da0464313ce356c439cb6ebb55761bab94f509", func := "cringle/cringlelaw14.LookTrimmed", spec := "lookTrimmed", inPlace := ["internal/abi.NoEscape"], unfollowed := true, recurses := true, apart := false }
def LookTrimmedSaid : Prop := lookTrimmedRow.holds Try.pinned (OpenSpec.ofChange lookTrimmedSpec)

/-- ITS FALSE NEIGHBOUR: 'it returns false'. Refute it at one input. -/
def lookTrimmedWrong : ChangeSpec := { name := "lookTrimmed", fn := fun _ => fun
  | [d1, d2] => { results := [.lit (.bool false)], args := [d1, d2] }
  | _ => none }
def LookTrimmedWrongFalsely : Prop := lookTrimmedRow.holds Try.pinned (OpenSpec.ofChange lookTrimmedWrong)

/- THE SECOND FORM. 'bulk': how many values and letters a reading holds, each counted each time it is reached (what is shared counts as often as it is met; a slice's spare places count too). A statement '..UptoSaid' is the law's where the arguments, and the package variables that the reading takes, are together of bulk at most 1048576: NARROWER than '..Said'. Prove '..Said' where nothing that the law and all that it calls make is longer than what came in: it says more and counts as full. Else prove '..UptoSaid'. A law counts once. -/
mutual
def uptoBulk {H : Type} : DataW H → Nat
  | .lit (.string bytes) => bytes.length + 1
  | .lit _ => 1
  | .nil => 1
  | .ptr d => uptoBulk d + 1
  | .slice elems spare => uptoBulkAll elems + uptoBulkAll spare + 1
  | .agg parts => uptoBulkAll parts + 1
  | .iface _ d => uptoBulk d + 1
  | .map entries => uptoBulkEntries entries + 1
  | .held _ => 1
def uptoBulkAll {H : Type} : List (DataW H) → Nat
  | [] => 0
  | d :: r => uptoBulk d + uptoBulkAll r
def uptoBulkEntries {H : Type} : List (Lit × DataW H) → Nat
  | [] => 0
  | x :: r => uptoBulkEntry x + uptoBulkEntries r
def uptoBulkEntry {H : Type} : Lit × DataW H → Nat
  | (.string bytes, d) => bytes.length + uptoBulk d + 1
  | (_, d) => uptoBulk d + 1
 end
def uptoSmall : (H : Type) → List (DataW H) → Bool := fun _ ds => decide (uptoBulkAll ds ≤ 1048576)
def OpenSpec.upto (s : _root_.Go.ChangeSpec) : _root_.Go.OpenSpec := { _root_.Go.OpenSpec.ofChange s with cond := some uptoSmall }

/-- 'cringlelaw14.LookAttrs', WHERE WHAT IT READS IS OF BULK AT MOST 1048576: true; the input reads as it did. -/
def lookAttrsUptoRow : OpenClaim := { program := "ytoiedadfpbbdgaa", sum := "cb271601af785e8a029363fb47da0464313ce356c439cb6ebb55761bab94f509", func := "cringle/cringlelaw14.LookAttrs", spec := "lookAttrs", inPlace := ["internal/abi.NoEscape"], unfollowed := true, recurses := true, apart := false, narrowed := true }
def LookAttrsUptoSaid : Prop := lookAttrsUptoRow.holds Try.pinned (OpenSpec.upto lookAttrsSpec)

/-- 'cringlelaw14.LookFinds', WHERE WHAT IT READS IS OF BULK AT MOST 1048576: true; the input reads as it did. -/
def lookFindsUptoRow : OpenClaim := { program := "ytoiedadfpbbdgaa", sum := "cb271601af785e8a029363fb47da0464313ce356c439cb6ebb55761bab94f509", func := "cringle/cringlelaw14.LookFinds", spec := "lookFinds", inPlace := ["internal/abi.NoEscape"], unfollowed := true, recurses := true, apart := false, narrowed := true }
def LookFindsUptoSaid : Prop := lookFindsUptoRow.holds Try.pinned (OpenSpec.upto lookFindsSpec)

/-- 'cringlelaw14.LookRises', WHERE WHAT IT READS IS OF BULK AT MOST 1048576: true; the input reads as it did. -/
def lookRisesUptoRow : OpenClaim := { program := "ytoiedadfpbbdgaa", sum := "cb271601af785e8a029363fb47da0464313ce356c439cb6ebb55761bab94f509", func := "cringle/cringlelaw14.LookRises", spec := "lookRises", inPlace := ["internal/abi.NoEscape"], unfollowed := true, recurses := true, apart := false, narrowed := true }
def LookRisesUptoSaid : Prop := lookRisesUptoRow.holds Try.pinned (OpenSpec.upto lookRisesSpec)

/-- 'cringlelaw14.LookJoined', WHERE WHAT IT READS IS OF BULK AT MOST 1048576: true; the input reads as it did. -/
def lookJoinedUptoRow : OpenClaim := { program := "ytoiedadfpbbdgaa", sum := "cb271601af785e8a029363fb47da0464313ce356c439cb6ebb55761bab94f509", func := "cringle/cringlelaw14.LookJoined", spec := "lookJoined", inPlace := ["internal/abi.NoEscape"], unfollowed := true, recurses := true, apart := false, narrowed := true }
def LookJoinedUptoSaid : Prop := lookJoinedUptoRow.holds Try.pinned (OpenSpec.upto lookJoinedSpec)

/-- 'cringlelaw14.LookTrimmed', WHERE WHAT IT READS IS OF BULK AT MOST 1048576: true; the input reads as it did. -/
def lookTrimmedUptoRow : OpenClaim := { program := "ytoiedadfpbbdgaa", sum := "cb271601af785e8a029363fb47da0464313ce356c439cb6ebb55761bab94f509", func := "cringle/cringlelaw14.LookTrimmed", spec := "lookTrimmed", inPlace := ["internal/abi.NoEscape"], unfollowed := true, recurses := true, apart := false, narrowed := true }
def LookTrimmedUptoSaid : Prop := lookTrimmedUptoRow.holds Try.pinned (OpenSpec.upto lookTrimmedSpec)

end Rows
end Go.Proofs.Ytoiedadfpbbdgaa
