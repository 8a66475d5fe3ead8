/- Texts laid as one. -/
import Derived.Test.YtoiedadfpbbdgaaKBase
import Derived.Test.YtoiedadfpbbdgaaKShelf
import Derived.Shelf.Strings.BuilderRune
import Derived.Test.YtoiedadfpbbdgaaKGround
import Derived.Lib.FrozenHead2
/- The contracts of strings.Builder's copyCheck and WriteRune at this translation, in which copyCheck's panic is a wall: a builder that the call itself has made. -/
namespace Go.Proofs.Ytoiedadfpbbdgaa
open Go.RowKit
theorem sizeBuilder : (Try.prog.info? 92).map (·.size) = some 2 := by kernel_rfl
theorem liesB : liesAt Try.prog Try.prog.depth 92 (2 / Try.prog.cellsOf 92) 0 92 1 = true := by kernel_rfl
end Go.Proofs.Ytoiedadfpbbdgaa
/- Contracts of a builder's WriteByte and WriteString. -/
set_option linter.unusedVariables false
set_option linter.unusedSimpArgs false
namespace Go.Proofs.Ytoiedadfpbbdgaa
open Go.RowKit
end Go.Proofs.Ytoiedadfpbbdgaa
