/- Texts laid as one. -/
import Derived.Test.YtoiedadfpbbdgaaKRfA
import Derived.Test.YtoiedadfpbbdgaaKUPut
import Derived.Lib.LaidTab
/- Contracts of cmp.Or at signs, signOf, Name and Number, and of the reference's Number. -/
set_option linter.unusedVariables false
set_option linter.unusedSimpArgs false
namespace Go.Proofs.Ytoiedadfpbbdgaa
open Go.RowKit
theorem sign_none {n : Int} (h : n = 0 ∨ 1114111 < n ∨ (55296 ≤ n ∧ n ≤ 57343)) : Rf.numSign n = 65533 := by unfold Rf.numSign; rw [if_pos h]
theorem sign_self {n : Int} (h : ¬ (n = 0 ∨ 1114111 < n ∨ (55296 ≤ n ∧ n ≤ 57343))) (h2 : ¬ (128 ≤ n ∧ n ≤ 159)) : Rf.numSign n = n := by unfold Rf.numSign; rw [if_neg h, if_neg (by omega)]
theorem sign_win {k : Nat} (h : k < 32) (h2 : Rf.win k ≠ 0) : Rf.numSign ((k : Int) + 128) = Rf.win k := by
  unfold Rf.numSign
  rw [if_neg (by omega), show ((k : Int) + 128 - 128).toNat = k from by omega, if_pos ⟨by omega, by omega, h2⟩]
theorem sign_gap {k : Nat} (h : k < 32) (h2 : Rf.win k = 0) : Rf.numSign ((k : Int) + 128) = (k : Int) + 128 := by
  unfold Rf.numSign
  rw [if_neg (by omega), show ((k : Int) + 128 - 128).toNat = k from by omega, if_neg (by simp [h2])]
theorem sign_cases (n : Int) (h0 : 0 ≤ n) : (Rf.numSign n = 65533 ∧ (n = 0 ∨ (55296 ≤ n ∧ n ≤ 57343) ∨ 1114111 < n)) ∨ (Rf.numSign n = n ∧ ((0 < n ∧ n < 128) ∨ (159 < n ∧ n < 55296) ∨ (57343 < n ∧ n ≤ 1114111))) ∨ ∃ k : Nat, n = (k : Int) + 128 ∧ k < 32 := by
  by_cases h : n = 0 ∨ 1114111 < n ∨ (55296 ≤ n ∧ n ≤ 57343)
  · exact .inl ⟨sign_none h, by omega⟩
  · by_cases h2 : 128 ≤ n ∧ n ≤ 159
    · exact .inr (.inr ⟨(n - 128).toNat, by omega, by omega⟩)
    · exact .inr (.inl ⟨sign_self h h2, by omega⟩)
end Go.Proofs.Ytoiedadfpbbdgaa
/- The contract of refs.number. -/
namespace Go.Proofs.Ytoiedadfpbbdgaa
open Go.RowKit
end Go.Proofs.Ytoiedadfpbbdgaa
/- The contract of refs.number. -/
namespace Go.Proofs.Ytoiedadfpbbdgaa
open Go.RowKit
end Go.Proofs.Ytoiedadfpbbdgaa
