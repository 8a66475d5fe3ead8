/- What the frames of a seat share whose rows list strconv's, math/bits' and unicode/utf8's tables: a start at which they lie, and what the walks are told of them. -/
import Derived.Test.YtmmpbjpeiclacaaGreatDoorRows
import Derived.Test.YtmmpbjpeiclacaaGreatDoorTie
import Derived.Test.YtmmpbjpeiclacaaGreatDoorCards
import Derived.Test.YtmmpbjpeiclacaaGreatDoorKMd
import Derived.WalkKit
import Derived.ProofKit
import Derived.LaidMore
import Derived.OpenShut
import Derived.Stop.Joined
import Derived.Stop.LaidErr
import Derived.Lib.LaidU8T
import Derived.Lib.LaidTab
import Derived.Lib.ItoaNum
import Derived.Lay
import Derived.SevenTiedAt
import Derived.SizedLaws
import Derived.SliceStrings
namespace Go.Proofs.YtmmpbjpeiclacaaGreatDoor
open Go.ChangeShapes Go.WideShapes Go.ChangeAt Go.WideMaps Go.WideElems Go.RowKit
def laidAll : List (String × DataW Unit) := [("math/bits.deBruijn32tab", Rows.laid_math_bits_deBruijn32tab), ("math/bits.deBruijn64tab", Rows.laid_math_bits_deBruijn64tab), ("internal/strconv.uint64pow10", Rows.laid_internal_strconv_uint64pow10), ("unicode/utf8.acceptRanges", Rows.laid_unicode_utf8_acceptRanges), ("unicode/utf8.first", Rows.laid_unicode_utf8_first)]
theorem own : ownKnob Tryz.prog.godebug = none := by kernel_rfl
theorem powData {H : Type} : (Rows.laid_internal_strconv_uint64pow10 : DataW H) = Lib.tabData .u64 Lib.pow10Tab := by rfl
theorem tPow : (Tryz.prog.globals[0]?).map (·.type) = some 147 := by kernel_rfl
/-- What the walks are told. -/
theorem env_of {W : World} (h : laidMetH Tryz.prog laidAll W) (_hs : W.ShapedOpen Tryz.prog) : Pow W := by
  rw [MakeChecks.laidMetH_plain _ _ _ (by kernel_rfl)] at h
  have h2 := h.tail.tail
  rw [powData] at h2
  exact Lib.tabIs_of_head gPow tPow Tryz.underlying147 Tryz.underlying128 (by kernel_rfl) (by kernel_rfl) h2
end Go.Proofs.YtmmpbjpeiclacaaGreatDoor
