/- The short names. -/
import Derived.Test.YtdllcnifkiebjaaDoorPSmall
import Derived.Test.YtdllcnifkiebjaaDoorRfMath
set_option linter.unusedVariables false
set_option linter.unusedSimpArgs false
namespace Go.Proofs.YtdllcnifkiebjaaDoor
open Go.RowKit
theorem lit_no {l m : List UInt8} (h : ¬ l = m) : ((str l).toList == m) = false := by rw [str_list]; exact beq_eq_false_iff_ne.2 h
theorem lit_yes {l m : List UInt8} (h : l = m) : ((str l).toList == m) = true := by rw [str_list, h]; exact beq_self_eq_true m
set_option maxHeartbeats 4000000 in
set_option maxRecDepth 100000 in
theorem shortSign_any (l : List UInt8) (w : World) :
    Calls Tryd.prog 44 #[.string (str l)] w fun e w' => e = .returned (.int .i32 (Rf.look Rf.shortT l)) ∧ w' = w := by
  by_cases h0 : l = [97,109,112]
  · have HL : Hid (Rf.look Rf.shortT l = 38) := by show _ = _; rw [h0]; decide +kernel
    have q0 := lit_yes h0
    clear h0
    go_enter Tryd.func44, Tryd.ntmps44
    go_wp2
    go_ret
    exact ⟨ret_int HL.out.symm, rfl⟩
  have H0 : Hid (¬ l = [97,109,112]) := h0
  have q0 := lit_no h0
  clear h0
  by_cases h1 : l = [108,116]
  · have HL : Hid (Rf.look Rf.shortT l = 60) := by show _ = _; rw [h1]; decide +kernel
    have q1 := lit_yes h1
    clear h1
    go_enter Tryd.func44, Tryd.ntmps44
    go_wp2
    go_ret
    exact ⟨ret_int HL.out.symm, rfl⟩
  have H1 : Hid (¬ l = [108,116]) := h1
  have q1 := lit_no h1
  clear h1
  by_cases h2 : l = [103,116]
  · have HL : Hid (Rf.look Rf.shortT l = 62) := by show _ = _; rw [h2]; decide +kernel
    have q2 := lit_yes h2
    clear h2
    go_enter Tryd.func44, Tryd.ntmps44
    go_wp2
    go_ret
    exact ⟨ret_int HL.out.symm, rfl⟩
  have H2 : Hid (¬ l = [103,116]) := h2
  have q2 := lit_no h2
  clear h2
  by_cases h3 : l = [113,117,111,116]
  · have HL : Hid (Rf.look Rf.shortT l = 34) := by show _ = _; rw [h3]; decide +kernel
    have q3 := lit_yes h3
    clear h3
    go_enter Tryd.func44, Tryd.ntmps44
    go_wp2
    go_ret
    exact ⟨ret_int HL.out.symm, rfl⟩
  have H3 : Hid (¬ l = [113,117,111,116]) := h3
  have q3 := lit_no h3
  clear h3
  by_cases h4 : l = [110,98,115,112]
  · have HL : Hid (Rf.look Rf.shortT l = 160) := by show _ = _; rw [h4]; decide +kernel
    have q4 := lit_yes h4
    clear h4
    go_enter Tryd.func44, Tryd.ntmps44
    go_wp2
    go_ret
    exact ⟨ret_int HL.out.symm, rfl⟩
  have H4 : Hid (¬ l = [110,98,115,112]) := h4
  have q4 := lit_no h4
  clear h4
  by_cases h5 : l = [99,111,112,121]
  · have HL : Hid (Rf.look Rf.shortT l = 169) := by show _ = _; rw [h5]; decide +kernel
    have q5 := lit_yes h5
    clear h5
    go_enter Tryd.func44, Tryd.ntmps44
    go_wp2
    go_ret
    exact ⟨ret_int HL.out.symm, rfl⟩
  have H5 : Hid (¬ l = [99,111,112,121]) := h5
  have q5 := lit_no h5
  clear h5
  by_cases h6 : l = [114,101,103]
  · have HL : Hid (Rf.look Rf.shortT l = 174) := by show _ = _; rw [h6]; decide +kernel
    have q6 := lit_yes h6
    clear h6
    go_enter Tryd.func44, Tryd.ntmps44
    go_wp2
    go_ret
    exact ⟨ret_int HL.out.symm, rfl⟩
  have H6 : Hid (¬ l = [114,101,103]) := h6
  have q6 := lit_no h6
  clear h6
  have HL : Hid (Rf.look Rf.shortT l = 0) := by
    show _ = _
    unfold Rf.shortT
    simp only [Rf.look]
    rw [if_neg H0.out, if_neg H1.out, if_neg H2.out, if_neg H3.out, if_neg H4.out, if_neg H5.out, if_neg H6.out]
  go_enter Tryd.func44, Tryd.ntmps44
  go_wp2
  go_ret
  exact ⟨ret_int HL.out.symm, rfl⟩
end Go.Proofs.YtdllcnifkiebjaaDoor
