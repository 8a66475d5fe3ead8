/- Contracts of package token's small functions: what a byte may be, isTag, begins, hasOwn, isDoctype, isEndOf; ascii.Same. -/
import Derived.Test.YtoiedadfpbbdgaaKRfA
import Derived.Test.YtoiedadfpbbdgaaKAscii
import Derived.Test.YtoiedadfpbbdgaaKRfM
set_option linter.unusedVariables false
set_option linter.unusedSimpArgs false
namespace Go.Proofs.Ytoiedadfpbbdgaa
open Go.RowKit
theorem quiet_more {w wr : World} (h : ∃ m, wr = w.drewN m) (n : Nat) : ∃ m, wr.drewN n = w.drewN m := by
  obtain ⟨m, rfl⟩ := h
  exact ⟨m + n, World.drewN_drewN _ _ _⟩
theorem bel_quiet {w w' : World} (h : ∃ n, w' = w.drewN n) : Below w.heap.size w w' := by
  obtain ⟨n, rfl⟩ := h
  exact ⟨rfl, rfl, rfl, Nat.le_refl _, fun _ _ => rfl⟩
theorem beq_byte (c : UInt8) (k : Nat) (hk : k < 256) : ((c.toNat : Int) == (k : Int)) = (c == UInt8.ofNat k) := by
  by_cases h : c = UInt8.ofNat k
  · subst h
    have : (UInt8.ofNat k).toNat = k := by simp [UInt8.toNat_ofNat']; omega
    rw [this]
    simp
  · rw [beq_eq_false_iff_ne.2 h, beq_eq_false_iff_ne]
    intro e
    apply h
    have e2 : c.toNat = k := by omega
    rw [← e2]
    simp
end Go.Proofs.Ytoiedadfpbbdgaa
