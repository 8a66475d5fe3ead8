/- What the frames of a seat share whose rows list package refs' table: a start at which it lies, and what the walks are told of it. -/
import Derived.Test.YtdllcnifkiebjaaDoorRows
import Derived.Test.YtdllcnifkiebjaaDoorTie
import Derived.Test.YtdllcnifkiebjaaDoorCards
import Derived.Test.YtdllcnifkiebjaaDoorRfE
import Derived.WalkKit
import Derived.ProofKit
import Derived.LaidMore
import Derived.OpenShut
import Derived.Stop.Joined
import Derived.Stop.LaidErr
import Derived.Lib.LaidTab
import Derived.Lay
import Derived.SevenTiedAt
import Derived.SizedLaws
import Derived.SliceStrings
namespace Go.Proofs.YtdllcnifkiebjaaDoor
open Go.ChangeShapes Go.WideShapes Go.ChangeAt Go.WideMaps Go.WideElems Go.RowKit
def laidAll : List (String × DataW Unit) := [("cringle/refs.windows", Rows.laid_cringle_refs_windows)]
theorem own : ownKnob Tryd.prog.godebug = none := by kernel_rfl
theorem start_met (os : Os) (args : Array Value) : laidMetH Tryd.prog laidAll ((World.laidAll Tryd.prog os laidAll).forCall (fun _ _ => 0) ⟨#[], args, []⟩).memory := by
  rw [MakeChecks.laidMetH_plain _ _ _ (by kernel_rfl)]
  exact laidMet_laidAll _ (by kernel_rfl) (by kernel_rfl)
theorem winData {H : Type} : (Rows.laid_cringle_refs_windows : DataW H) = Lib.tabData .i32 Rf.windows := by rfl
theorem tWin : (Tryd.prog.globals[0]?).map (·.type) = some 44 := by kernel_rfl
/-- What the walks are told: the table of package refs lies as its initialiser laid it. -/
theorem of_laid {W : World} (h : laidMetH Tryd.prog laidAll W) : Win W := by
  rw [MakeChecks.laidMetH_plain _ _ _ (by kernel_rfl)] at h
  have h2 := h
  unfold laidAll at h2
  rw [winData] at h2
  exact Lib.tabIs_of_head gWin tWin Tryd.underlying44 Tryd.underlying21 (by kernel_rfl) (by kernel_rfl) h2
theorem reach_str {s : ByteArray} (h : s.data.toList.length ≤ reachBytes) : s.size ≤ 140737488351232 := by
  have : s.size = s.data.toList.length := rfl
  rw [this]
  exact h
end Go.Proofs.YtdllcnifkiebjaaDoor
