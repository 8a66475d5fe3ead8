/- The contracts of the document's text. -/
import Derived.Test.YtmmpbjpeiclacaaGreatDoorKZef
import Derived.Test.YtmmpbjpeiclacaaGreatDoorKZG
import Derived.Test.YtmmpbjpeiclacaaGreatDoorKZP
set_option linter.unusedVariables false
set_option linter.unusedSimpArgs false
namespace Go.Proofs.YtmmpbjpeiclacaaGreatDoor
open Go.RowKit
theorem VAtd {w w' : World} {b : Nat} {x0 x1 x2 x3 : Value} (h : VAt w b x0 x1 x2 x3) (hB : Below w.heap.size w w') : VAt w' b x0 x1 x2 x3 := h.keep (hB.block b h.lt)
theorem str_app (a b : List UInt8) : str a ++ str b = str (a ++ b) := str_eq (by simp [str])
theorem app_size (a b : ByteArray) : (a ++ b).size = a.size + b.size := ByteArray.size_append
end Go.Proofs.YtmmpbjpeiclacaaGreatDoor
