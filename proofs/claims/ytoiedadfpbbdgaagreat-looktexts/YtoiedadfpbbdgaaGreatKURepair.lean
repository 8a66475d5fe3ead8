/- The contract of utf.Repair: a builder written in a range over the bytes. -/
import Derived.Test.YtoiedadfpbbdgaaGreatKUPa
import Derived.Test.YtoiedadfpbbdgaaGreatKUBY
namespace Go.Proofs.YtoiedadfpbbdgaaGreat
open Go.RowKit
theorem below_drewN {B : Nat} {w w' : World} (n : Nat) (h : Below B w w') : Below B w (w'.drewN n) :=
  ⟨h.os, h.tape, h.output, by simpa using h.size, by simpa using h.block⟩
end Go.Proofs.YtoiedadfpbbdgaaGreat
