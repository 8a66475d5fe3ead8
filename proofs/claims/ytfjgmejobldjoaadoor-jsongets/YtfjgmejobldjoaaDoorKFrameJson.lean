/- What the frames of a seat share whose rows list unicode/utf8's tables, of which the walks want nothing. -/
import Derived.Test.YtfjgmejobldjoaaDoorRows
import Derived.Test.YtfjgmejobldjoaaDoorTie
import Derived.Test.YtfjgmejobldjoaaDoorCards
import Derived.WalkKit
import Derived.ProofKit
import Derived.LaidMore
import Derived.OpenShut
import Derived.Stop.Joined
import Derived.Stop.LaidErr
import Derived.Lib.LaidU8T
import Derived.Lay
import Derived.SevenTiedAt
import Derived.SizedLaws
import Derived.SliceStrings
namespace Go.Proofs.YtfjgmejobldjoaaDoor
open Go.ChangeShapes Go.WideShapes Go.ChangeAt Go.WideMaps Go.WideElems Go.RowKit
def laidAll : List (String × DataW Unit) := [("unicode/utf8.acceptRanges", Rows.laid_unicode_utf8_acceptRanges), ("unicode/utf8.first", Rows.laid_unicode_utf8_first)]
theorem own : ownKnob Tryd.prog.godebug = none := by kernel_rfl
/-- The walks are told nothing. -/
theorem env_of {W : World} (_h : laidMetH Tryd.prog laidAll W) (_hs : W.ShapedOpen Tryd.prog) : True := trivial
end Go.Proofs.YtfjgmejobldjoaaDoor
