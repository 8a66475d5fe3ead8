/- What the frames of the seats of package token share: their rows list utf8's tables and package refs' table: a start at which these lie, and what the walks are told of them. -/
import Derived.Test.YtiodaahncadodaaGreatDoorRows
import Derived.Test.YtiodaahncadodaaGreatDoorTie
import Derived.Test.YtiodaahncadodaaGreatDoorCards
import Derived.Test.YtiodaahncadodaaGreatDoorKTkB
import Derived.WalkKit
import Derived.ProofKit
import Derived.LaidMore
import Derived.OpenShut
import Derived.Stop.Joined
import Derived.Stop.LaidErr
import Derived.Lib.LaidTab
import Derived.Lay
import Derived.SevenTiedAt
import Derived.SizedLaws
import Derived.SliceStrings
namespace Go.Proofs.YtiodaahncadodaaGreatDoor
open Go.ChangeShapes Go.WideShapes Go.ChangeAt Go.WideMaps Go.WideElems Go.RowKit
def laidAll : List (String × DataW Unit) := [("unicode/utf8.acceptRanges", Rows.laid_unicode_utf8_acceptRanges), ("cringle/refs.windows", Rows.laid_cringle_refs_windows), ("unicode/utf8.first", Rows.laid_unicode_utf8_first)]
theorem own : ownKnob Tryz.prog.godebug = none := by kernel_rfl
theorem winData {H : Type} : (Rows.laid_cringle_refs_windows : DataW H) = Lib.tabData .i32 Rf.windows := by rfl
theorem tWin : (Tryz.prog.globals[3]?).map (·.type) = some 199 := by kernel_rfl
/-- A whole number among the package-level variables. -/
theorem int_of_shape {P : Program} {w : World} {g : Nat} {t : TypeId} {zero : Array Value} (h : w.ShapedOpen P) (hg : g < P.globals.size)
    (h0 : ((begin P (fun _ _ => 0) default).world.heap[g]?).bind Obj.row? = some (zero, t)) (hz : zero.size = 1)
    (hb : P.buildable t = true) (hc : P.cellTypes P.depth t = some [t]) (hu : P.underlying t = some (.int .i64)) : ∃ m, w.cell? ⟨g, 0, none⟩ = some (.int .i64 m) := by
  obtain ⟨cs, hh, hs, hr⟩ := h.1 g zero t hg h0
  obtain ⟨ts, hts, _, hall⟩ := hr hb
  rw [hc] at hts
  cases hts
  have h1 : 0 < cs.size := by omega
  obtain ⟨u, hu', hok⟩ := hall 0 cs[0] (by simp [h1])
  have : u = t := by simpa using hu'.symm
  subst this
  have hcell : w.cell? ⟨g, 0, none⟩ = some cs[0] := by simp [World.cell?, hh, h1]
  rw [hcell]
  unfold Cell.ok at hok
  rw [hu] at hok
  cases hv : cs[0] <;> rw [hv] at hok <;> simp at hok
  case int k m =>
    obtain ⟨rfl, _⟩ := hok
    exact ⟨m, rfl⟩
theorem max_of_shape {w : World} (h : w.ShapedOpen Tryz.prog) : MaxL w :=
  int_of_shape (zero := #[.int .i64 0]) (t := 3) h (of_decide_eq_true (by kernel_rfl)) (by kernel_rfl) rfl (by kernel_rfl) (by kernel_rfl) Tryz.underlying3
/-- What the walks are told. -/
theorem env_of {W : World} (h : laidMetH Tryz.prog laidAll W) (hs : W.ShapedOpen Tryz.prog) : EnvT W := by
  rw [MakeChecks.laidMetH_plain _ _ _ (by kernel_rfl)] at h
  refine ⟨?_, max_of_shape hs⟩
  have h2 := h.tail
  rw [winData] at h2
  exact Lib.tabIs_of_head gWin tWin Tryz.underlying199 Tryz.underlying21 (by kernel_rfl) (by kernel_rfl) h2
end Go.Proofs.YtiodaahncadodaaGreatDoor
