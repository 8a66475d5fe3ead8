/- What the frames of a seat share whose rows list unicode/utf8's tables, of which the walks want nothing. -/
import Derived.Test.YtfjgmejobldjoaaGreatDoorRows
import Derived.Test.YtfjgmejobldjoaaGreatDoorTie
import Derived.Test.YtfjgmejobldjoaaGreatDoorCards
import Derived.WalkKit
import Derived.ProofKit
import Derived.LaidMore
import Derived.OpenShut
import Derived.Stop.Joined
import Derived.Stop.LaidErr
import Derived.Lib.LaidU8T
import Derived.Lay
import Derived.SevenTiedAt
import Derived.SizedLaws
import Derived.SliceStrings
namespace Go.Proofs.YtfjgmejobldjoaaGreatDoor
open Go.ChangeShapes Go.WideShapes Go.ChangeAt Go.WideMaps Go.WideElems Go.RowKit
def laidAll : List (String × DataW Unit) := [("unicode/utf8.acceptRanges", Rows.laid_unicode_utf8_acceptRanges), ("unicode/utf8.first", Rows.laid_unicode_utf8_first)]
theorem own : ownKnob Tryz.prog.godebug = none := by kernel_rfl
/-- The walks are told nothing. -/
theorem env_of {W : World} (_h : laidMetH Tryz.prog laidAll W) (_hs : W.ShapedOpen Tryz.prog) : True := trivial
end Go.Proofs.YtfjgmejobldjoaaGreatDoor
