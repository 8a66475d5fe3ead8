/- The walk of the law RefsNames, out of the contracts. -/
import Derived.Test.YtdllcnifkiebjaaDoorRfM
import Derived.Test.YtdllcnifkiebjaaDoorRfRo
set_option linter.unusedVariables false
set_option linter.unusedSimpArgs false
namespace Go.Proofs.YtdllcnifkiebjaaDoor.refsNames
open Go.RowKit
set_option maxHeartbeats 2000000 in
set_option maxRecDepth 100000 in
theorem walk (a0 : ByteArray) (a1 : Int) (w : World) (h0 : a0.size ≤ 140737488351232) (h1 : (Lit.int .u32 a1).wf = true) (hT : Win w) :
    Calls Tryd.prog 3 #[.string a0, .int .u32 a1] w fun e w' => e = .returned (.bool true) ∧ Below w.heap.size w w' := by
  have HT : Hid (Win w) := hT
  clear hT
  simp only [Lit.wf, Bool.and_eq_true, decide_eq_true_eq] at h1
  have h1' : 0 ≤ a1 ∧ a1 ≤ 4294967295 := h1
  clear h1
  obtain ⟨l, rfl⟩ : ∃ l, a0 = str l := ⟨_, (str_self a0).symm⟩
  have hB : Below w.heap.size w w := Below.refl _ _
  have hN := Name_any l
  have hR := RName_any l
  have hM := fun W hW => Number11_any a1 W h1'.1 h1'.2 hW
  have hQ := fun W => RNumber11_any a1 W h1'.1 h1'.2
  generalize Rf.numSign a1 = y at *
  generalize Rf.sgn l = x at *
  generalize (x != 0) = b at *
  have q1 := beq_self_eq_true x
  have q2 := beq_self_eq_true y
  have q3 := beq_self_eq_true b
  clear h0 h1'
  go_enter Tryd.func3, Tryd.ntmps3
  go_wp2_with (first
    | (go_at_call 9; refine (hN _).mono ?_; rintro e w1 ⟨rfl, hb1⟩; replace hB := bel hB hb1; clear hb1)
    | (go_at_call 10; refine (hR _).mono ?_; rintro e w2 ⟨rfl, hb2⟩; replace hB := bel hB hb2; clear hb2)
    | (go_at_call 11; refine (hM _ (HT.out.below hB)).mono ?_; rintro e w3 ⟨rfl, hw⟩; rw [hw]; clear hw)
    | (go_at_call 12; refine (hQ _).mono ?_; rintro e w4 ⟨rfl, hb4⟩; replace hB := bel hB hb4; clear hb4)
    | (go_at_call 13; refine (alive11_any _ (HT.out.below hB)).mono ?_; rintro e w5 ⟨rfl, hb5⟩; replace hB := bel hB hb5; clear hb5))
  go_ret
  exact ⟨by first | rfl | simp, hB⟩
end Go.Proofs.YtdllcnifkiebjaaDoor.refsNames
