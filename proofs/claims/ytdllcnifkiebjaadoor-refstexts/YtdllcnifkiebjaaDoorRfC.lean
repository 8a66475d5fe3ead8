/- The names of letters. -/
import Derived.Test.YtdllcnifkiebjaaDoorRfA
import Derived.Test.YtdllcnifkiebjaaDoorRfMath
set_option linter.unusedVariables false
set_option linter.unusedSimpArgs false
namespace Go.Proofs.YtdllcnifkiebjaaDoor
open Go.RowKit
set_option maxHeartbeats 4000000 in
set_option maxRecDepth 100000 in
theorem letterSign_any (l : List UInt8) (w : World) :
    Calls Tryd.prog 46 #[.string (str l)] w fun e w' => e = .returned (.int .i32 (Rf.look Rf.letterT l)) ∧ w' = w := by
  by_cases h0 : l = [97,103,114,97,118,101]
  · have HL : Hid (Rf.look Rf.letterT l = 224) := by show _ = _; rw [h0]; decide +kernel
    have q0 := lit_yes h0
    clear h0
    go_enter Tryd.func46, Tryd.ntmps46
    go_wp2
    go_ret
    exact ⟨ret_int HL.out.symm, rfl⟩
  have H0 : Hid (¬ l = [97,103,114,97,118,101]) := h0
  have q0 := lit_no h0
  clear h0
  by_cases h1 : l = [97,97,99,117,116,101]
  · have HL : Hid (Rf.look Rf.letterT l = 225) := by show _ = _; rw [h1]; decide +kernel
    have q1 := lit_yes h1
    clear h1
    go_enter Tryd.func46, Tryd.ntmps46
    go_wp2
    go_ret
    exact ⟨ret_int HL.out.symm, rfl⟩
  have H1 : Hid (¬ l = [97,97,99,117,116,101]) := h1
  have q1 := lit_no h1
  clear h1
  by_cases h2 : l = [97,99,105,114,99]
  · have HL : Hid (Rf.look Rf.letterT l = 226) := by show _ = _; rw [h2]; decide +kernel
    have q2 := lit_yes h2
    clear h2
    go_enter Tryd.func46, Tryd.ntmps46
    go_wp2
    go_ret
    exact ⟨ret_int HL.out.symm, rfl⟩
  have H2 : Hid (¬ l = [97,99,105,114,99]) := h2
  have q2 := lit_no h2
  clear h2
  by_cases h3 : l = [97,117,109,108]
  · have HL : Hid (Rf.look Rf.letterT l = 228) := by show _ = _; rw [h3]; decide +kernel
    have q3 := lit_yes h3
    clear h3
    go_enter Tryd.func46, Tryd.ntmps46
    go_wp2
    go_ret
    exact ⟨ret_int HL.out.symm, rfl⟩
  have H3 : Hid (¬ l = [97,117,109,108]) := h3
  have q3 := lit_no h3
  clear h3
  by_cases h4 : l = [97,114,105,110,103]
  · have HL : Hid (Rf.look Rf.letterT l = 229) := by show _ = _; rw [h4]; decide +kernel
    have q4 := lit_yes h4
    clear h4
    go_enter Tryd.func46, Tryd.ntmps46
    go_wp2
    go_ret
    exact ⟨ret_int HL.out.symm, rfl⟩
  have H4 : Hid (¬ l = [97,114,105,110,103]) := h4
  have q4 := lit_no h4
  clear h4
  by_cases h5 : l = [97,101,108,105,103]
  · have HL : Hid (Rf.look Rf.letterT l = 230) := by show _ = _; rw [h5]; decide +kernel
    have q5 := lit_yes h5
    clear h5
    go_enter Tryd.func46, Tryd.ntmps46
    go_wp2
    go_ret
    exact ⟨ret_int HL.out.symm, rfl⟩
  have H5 : Hid (¬ l = [97,101,108,105,103]) := h5
  have q5 := lit_no h5
  clear h5
  by_cases h6 : l = [99,99,101,100,105,108]
  · have HL : Hid (Rf.look Rf.letterT l = 231) := by show _ = _; rw [h6]; decide +kernel
    have q6 := lit_yes h6
    clear h6
    go_enter Tryd.func46, Tryd.ntmps46
    go_wp2
    go_ret
    exact ⟨ret_int HL.out.symm, rfl⟩
  have H6 : Hid (¬ l = [99,99,101,100,105,108]) := h6
  have q6 := lit_no h6
  clear h6
  by_cases h7 : l = [101,103,114,97,118,101]
  · have HL : Hid (Rf.look Rf.letterT l = 232) := by show _ = _; rw [h7]; decide +kernel
    have q7 := lit_yes h7
    clear h7
    go_enter Tryd.func46, Tryd.ntmps46
    go_wp2
    go_ret
    exact ⟨ret_int HL.out.symm, rfl⟩
  have H7 : Hid (¬ l = [101,103,114,97,118,101]) := h7
  have q7 := lit_no h7
  clear h7
  by_cases h8 : l = [101,97,99,117,116,101]
  · have HL : Hid (Rf.look Rf.letterT l = 233) := by show _ = _; rw [h8]; decide +kernel
    have q8 := lit_yes h8
    clear h8
    go_enter Tryd.func46, Tryd.ntmps46
    go_wp2
    go_ret
    exact ⟨ret_int HL.out.symm, rfl⟩
  have H8 : Hid (¬ l = [101,97,99,117,116,101]) := h8
  have q8 := lit_no h8
  clear h8
  by_cases h9 : l = [101,99,105,114,99]
  · have HL : Hid (Rf.look Rf.letterT l = 234) := by show _ = _; rw [h9]; decide +kernel
    have q9 := lit_yes h9
    clear h9
    go_enter Tryd.func46, Tryd.ntmps46
    go_wp2
    go_ret
    exact ⟨ret_int HL.out.symm, rfl⟩
  have H9 : Hid (¬ l = [101,99,105,114,99]) := h9
  have q9 := lit_no h9
  clear h9
  by_cases h10 : l = [105,97,99,117,116,101]
  · have HL : Hid (Rf.look Rf.letterT l = 237) := by show _ = _; rw [h10]; decide +kernel
    have q10 := lit_yes h10
    clear h10
    go_enter Tryd.func46, Tryd.ntmps46
    go_wp2
    go_ret
    exact ⟨ret_int HL.out.symm, rfl⟩
  have H10 : Hid (¬ l = [105,97,99,117,116,101]) := h10
  have q10 := lit_no h10
  clear h10
  by_cases h11 : l = [110,116,105,108,100,101]
  · have HL : Hid (Rf.look Rf.letterT l = 241) := by show _ = _; rw [h11]; decide +kernel
    have q11 := lit_yes h11
    clear h11
    go_enter Tryd.func46, Tryd.ntmps46
    go_wp2
    go_ret
    exact ⟨ret_int HL.out.symm, rfl⟩
  have H11 : Hid (¬ l = [110,116,105,108,100,101]) := h11
  have q11 := lit_no h11
  clear h11
  by_cases h12 : l = [111,97,99,117,116,101]
  · have HL : Hid (Rf.look Rf.letterT l = 243) := by show _ = _; rw [h12]; decide +kernel
    have q12 := lit_yes h12
    clear h12
    go_enter Tryd.func46, Tryd.ntmps46
    go_wp2
    go_ret
    exact ⟨ret_int HL.out.symm, rfl⟩
  have H12 : Hid (¬ l = [111,97,99,117,116,101]) := h12
  have q12 := lit_no h12
  clear h12
  by_cases h13 : l = [111,117,109,108]
  · have HL : Hid (Rf.look Rf.letterT l = 246) := by show _ = _; rw [h13]; decide +kernel
    have q13 := lit_yes h13
    clear h13
    go_enter Tryd.func46, Tryd.ntmps46
    go_wp2
    go_ret
    exact ⟨ret_int HL.out.symm, rfl⟩
  have H13 : Hid (¬ l = [111,117,109,108]) := h13
  have q13 := lit_no h13
  clear h13
  by_cases h14 : l = [111,115,108,97,115,104]
  · have HL : Hid (Rf.look Rf.letterT l = 248) := by show _ = _; rw [h14]; decide +kernel
    have q14 := lit_yes h14
    clear h14
    go_enter Tryd.func46, Tryd.ntmps46
    go_wp2
    go_ret
    exact ⟨ret_int HL.out.symm, rfl⟩
  have H14 : Hid (¬ l = [111,115,108,97,115,104]) := h14
  have q14 := lit_no h14
  clear h14
  by_cases h15 : l = [117,97,99,117,116,101]
  · have HL : Hid (Rf.look Rf.letterT l = 250) := by show _ = _; rw [h15]; decide +kernel
    have q15 := lit_yes h15
    clear h15
    go_enter Tryd.func46, Tryd.ntmps46
    go_wp2
    go_ret
    exact ⟨ret_int HL.out.symm, rfl⟩
  have H15 : Hid (¬ l = [117,97,99,117,116,101]) := h15
  have q15 := lit_no h15
  clear h15
  by_cases h16 : l = [117,117,109,108]
  · have HL : Hid (Rf.look Rf.letterT l = 252) := by show _ = _; rw [h16]; decide +kernel
    have q16 := lit_yes h16
    clear h16
    go_enter Tryd.func46, Tryd.ntmps46
    go_wp2
    go_ret
    exact ⟨ret_int HL.out.symm, rfl⟩
  have H16 : Hid (¬ l = [117,117,109,108]) := h16
  have q16 := lit_no h16
  clear h16
  by_cases h17 : l = [115,122,108,105,103]
  · have HL : Hid (Rf.look Rf.letterT l = 223) := by show _ = _; rw [h17]; decide +kernel
    have q17 := lit_yes h17
    clear h17
    go_enter Tryd.func46, Tryd.ntmps46
    go_wp2
    go_ret
    exact ⟨ret_int HL.out.symm, rfl⟩
  have H17 : Hid (¬ l = [115,122,108,105,103]) := h17
  have q17 := lit_no h17
  clear h17
  by_cases h18 : l = [65,117,109,108]
  · have HL : Hid (Rf.look Rf.letterT l = 196) := by show _ = _; rw [h18]; decide +kernel
    have q18 := lit_yes h18
    clear h18
    go_enter Tryd.func46, Tryd.ntmps46
    go_wp2
    go_ret
    exact ⟨ret_int HL.out.symm, rfl⟩
  have H18 : Hid (¬ l = [65,117,109,108]) := h18
  have q18 := lit_no h18
  clear h18
  by_cases h19 : l = [79,117,109,108]
  · have HL : Hid (Rf.look Rf.letterT l = 214) := by show _ = _; rw [h19]; decide +kernel
    have q19 := lit_yes h19
    clear h19
    go_enter Tryd.func46, Tryd.ntmps46
    go_wp2
    go_ret
    exact ⟨ret_int HL.out.symm, rfl⟩
  have H19 : Hid (¬ l = [79,117,109,108]) := h19
  have q19 := lit_no h19
  clear h19
  by_cases h20 : l = [85,117,109,108]
  · have HL : Hid (Rf.look Rf.letterT l = 220) := by show _ = _; rw [h20]; decide +kernel
    have q20 := lit_yes h20
    clear h20
    go_enter Tryd.func46, Tryd.ntmps46
    go_wp2
    go_ret
    exact ⟨ret_int HL.out.symm, rfl⟩
  have H20 : Hid (¬ l = [85,117,109,108]) := h20
  have q20 := lit_no h20
  clear h20
  by_cases h21 : l = [69,97,99,117,116,101]
  · have HL : Hid (Rf.look Rf.letterT l = 201) := by show _ = _; rw [h21]; decide +kernel
    have q21 := lit_yes h21
    clear h21
    go_enter Tryd.func46, Tryd.ntmps46
    go_wp2
    go_ret
    exact ⟨ret_int HL.out.symm, rfl⟩
  have H21 : Hid (¬ l = [69,97,99,117,116,101]) := h21
  have q21 := lit_no h21
  clear h21
  have HL : Hid (Rf.look Rf.letterT l = 0) := by
    show _ = _
    unfold Rf.letterT
    simp only [Rf.look]
    rw [if_neg H0.out, if_neg H1.out, if_neg H2.out, if_neg H3.out, if_neg H4.out, if_neg H5.out, if_neg H6.out, if_neg H7.out, if_neg H8.out, if_neg H9.out, if_neg H10.out, if_neg H11.out, if_neg H12.out, if_neg H13.out, if_neg H14.out, if_neg H15.out, if_neg H16.out, if_neg H17.out, if_neg H18.out, if_neg H19.out, if_neg H20.out, if_neg H21.out]
  go_enter Tryd.func46, Tryd.ntmps46
  go_wp2
  go_ret
  exact ⟨ret_int HL.out.symm, rfl⟩
end Go.Proofs.YtdllcnifkiebjaaDoor
