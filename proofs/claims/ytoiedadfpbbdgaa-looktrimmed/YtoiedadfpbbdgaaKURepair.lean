/- The contract of utf.Repair: a builder written in a range over the bytes. -/
import Derived.Test.YtoiedadfpbbdgaaKUPa
import Derived.Test.YtoiedadfpbbdgaaKUBY
namespace Go.Proofs.Ytoiedadfpbbdgaa
open Go.RowKit
theorem builder_drewN {T e : TypeId} {B b : Nat} {bs : List Value} {w : World} (n : Nat) (h : Lib.IsBuilderF T e B b bs w) : Lib.IsBuilderF T e B b bs (w.drewN n) := by
  unfold Lib.IsBuilderF Lib.BuilderAtF World.ownsRowF at *
  simpa using h
theorem below_drewN {B : Nat} {w w' : World} (n : Nat) (h : Below B w w') : Below B w (w'.drewN n) :=
  ⟨h.os, h.tape, h.output, by simpa using h.size, by simpa using h.block⟩
end Go.Proofs.Ytoiedadfpbbdgaa
