/- Slices that read as texts; the reference's Texts. -/
import Derived.Test.YtdllcnifkiebjaaDoorPWords
import Derived.Deep.QuietTactic
import Derived.BigQuiet
import Derived.WalkSmall
namespace Go.Proofs.YtdllcnifkiebjaaDoor
open Go.RowKit
/-- The slice reads as these texts. -/
def ReadsTexts (w : World) (v : Value) (ts : List (List UInt8)) : Prop :=
  (∃ a c, v = .slice a 0 c ∧ ts = []) ∨ ∃ b o c, v = .slice (some ⟨b, o, none⟩) ts.length c ∧ ts.length ≤ c ∧ ∀ (j : Nat) t, ts[j]? = some t → w.cell? ⟨b, o + j, none⟩ = some (strV t)
theorem OwnsTexts.reads {w : World} {B : Nat} {v : Value} {ts : List (List UInt8)} (h : OwnsTexts w B v ts) : ReadsTexts w v ts := by
  rcases h.2 with ⟨rfl, h0⟩ | ⟨g, cap, cur, rfl, _, hg, hc, _, hcs, ht⟩
  · exact .inl ⟨_, _, rfl, List.eq_nil_of_length_eq_zero h0⟩
  · refine .inr ⟨g, 0, cap, rfl, hc, fun j t hj => ?_⟩
    have hlt : j < ts.length := (List.getElem?_eq_some_iff.1 hj).1
    have := World.ownsRow.cellAt (w := w) (base := B) (e := 9) (size := 1) (g := g) (cap := cap) (n := ts.length) (xs := ts.map strV) h j (by omega)
    rw [Nat.zero_add, this, List.getElem?_map, hj]
    rfl
end Go.Proofs.YtdllcnifkiebjaaDoor
