/- The contract of utf.Repair: a builder written in a range over the bytes. -/
import Derived.Test.YtoiedadfpbbdgaaKUPa
import Derived.Test.YtoiedadfpbbdgaaKUBY
namespace Go.Proofs.Ytoiedadfpbbdgaa
open Go.RowKit
theorem below_drewN {B : Nat} {w w' : World} (n : Nat) (h : Below B w w') : Below B w (w'.drewN n) :=
  ⟨h.os, h.tape, h.output, by simpa using h.size, by simpa using h.block⟩
end Go.Proofs.Ytoiedadfpbbdgaa
