/- The contract of refs.number. -/
import Derived.Test.YtdllcnifkiebjaaDoorRfFd
import Derived.Test.YtdllcnifkiebjaaDoorRfFh
import Derived.Test.YtdllcnifkiebjaaDoorRfFx
set_option linter.unusedVariables false
set_option linter.unusedSimpArgs false
namespace Go.Proofs.YtdllcnifkiebjaaDoor
open Go.RowKit
theorem number_any (t : List UInt8) (w : World) (hz : t.length ≤ 1000000000) (hW : Win w) :
    Calls Tryd.prog 28 #[.string (str t)] w fun e w' => e = .returned (.tuple #[.int .i32 (Rf.numSg t), .int .i64 (Rf.numSz t)]) ∧ w' = w := by
  cases h : [35].isPrefixOf t
  · exact number_not t w h
  cases h1 : [35,120].isPrefixOf t
  · cases h2 : [35,88].isPrefixOf t
    · exact number_dec t w hz hW h h1 h2
    · exact number_heX t w hz hW h h1 h2
  · exact number_hex t w hz hW h h1
end Go.Proofs.YtdllcnifkiebjaaDoor
