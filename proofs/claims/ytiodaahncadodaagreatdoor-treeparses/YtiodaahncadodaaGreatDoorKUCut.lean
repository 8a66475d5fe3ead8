/- The contracts of utf.Cut, and of the law's own 'long'. -/
import Derived.Test.YtiodaahncadodaaGreatDoorKUPart
namespace Go.Proofs.YtiodaahncadodaaGreatDoor
open Go.RowKit
theorem znk {l : List UInt8} {k : Nat} (h : k < l.length) : l.drop k ≠ []:=by
 intro e
 have:=congrArg List.length e
 rw [List.length_drop,List.length_nil] at this
 omega
end Go.Proofs.YtiodaahncadodaaGreatDoor
