/- The names of marks and of wide signs. -/
import Derived.Test.YtdllcnifkiebjaaDoorRfA
import Derived.Test.YtdllcnifkiebjaaDoorRfMath
set_option linter.unusedVariables false
set_option linter.unusedSimpArgs false
namespace Go.Proofs.YtdllcnifkiebjaaDoor
open Go.RowKit
set_option maxHeartbeats 4000000 in
set_option maxRecDepth 100000 in
theorem markSign_any (l : List UInt8) (w : World) :
    Calls Tryd.prog 45 #[.string (str l)] w fun e w' => e = .returned (.int .i32 (Rf.look Rf.markT l)) ∧ w' = w := by
  by_cases h0 : l = [97,112,111,115]
  · have HL : Hid (Rf.look Rf.markT l = 39) := by show _ = _; rw [h0]; decide +kernel
    have q0 := lit_yes h0
    clear h0
    go_enter Tryd.func45, Tryd.ntmps45
    go_wp2
    go_ret
    exact ⟨ret_int HL.out.symm, rfl⟩
  have H0 : Hid (¬ l = [97,112,111,115]) := h0
  have q0 := lit_no h0
  clear h0
  by_cases h1 : l = [99,101,110,116]
  · have HL : Hid (Rf.look Rf.markT l = 162) := by show _ = _; rw [h1]; decide +kernel
    have q1 := lit_yes h1
    clear h1
    go_enter Tryd.func45, Tryd.ntmps45
    go_wp2
    go_ret
    exact ⟨ret_int HL.out.symm, rfl⟩
  have H1 : Hid (¬ l = [99,101,110,116]) := h1
  have q1 := lit_no h1
  clear h1
  by_cases h2 : l = [112,111,117,110,100]
  · have HL : Hid (Rf.look Rf.markT l = 163) := by show _ = _; rw [h2]; decide +kernel
    have q2 := lit_yes h2
    clear h2
    go_enter Tryd.func45, Tryd.ntmps45
    go_wp2
    go_ret
    exact ⟨ret_int HL.out.symm, rfl⟩
  have H2 : Hid (¬ l = [112,111,117,110,100]) := h2
  have q2 := lit_no h2
  clear h2
  by_cases h3 : l = [121,101,110]
  · have HL : Hid (Rf.look Rf.markT l = 165) := by show _ = _; rw [h3]; decide +kernel
    have q3 := lit_yes h3
    clear h3
    go_enter Tryd.func45, Tryd.ntmps45
    go_wp2
    go_ret
    exact ⟨ret_int HL.out.symm, rfl⟩
  have H3 : Hid (¬ l = [121,101,110]) := h3
  have q3 := lit_no h3
  clear h3
  by_cases h4 : l = [115,101,99,116]
  · have HL : Hid (Rf.look Rf.markT l = 167) := by show _ = _; rw [h4]; decide +kernel
    have q4 := lit_yes h4
    clear h4
    go_enter Tryd.func45, Tryd.ntmps45
    go_wp2
    go_ret
    exact ⟨ret_int HL.out.symm, rfl⟩
  have H4 : Hid (¬ l = [115,101,99,116]) := h4
  have q4 := lit_no h4
  clear h4
  by_cases h5 : l = [100,101,103]
  · have HL : Hid (Rf.look Rf.markT l = 176) := by show _ = _; rw [h5]; decide +kernel
    have q5 := lit_yes h5
    clear h5
    go_enter Tryd.func45, Tryd.ntmps45
    go_wp2
    go_ret
    exact ⟨ret_int HL.out.symm, rfl⟩
  have H5 : Hid (¬ l = [100,101,103]) := h5
  have q5 := lit_no h5
  clear h5
  by_cases h6 : l = [112,108,117,115,109,110]
  · have HL : Hid (Rf.look Rf.markT l = 177) := by show _ = _; rw [h6]; decide +kernel
    have q6 := lit_yes h6
    clear h6
    go_enter Tryd.func45, Tryd.ntmps45
    go_wp2
    go_ret
    exact ⟨ret_int HL.out.symm, rfl⟩
  have H6 : Hid (¬ l = [112,108,117,115,109,110]) := h6
  have q6 := lit_no h6
  clear h6
  by_cases h7 : l = [112,97,114,97]
  · have HL : Hid (Rf.look Rf.markT l = 182) := by show _ = _; rw [h7]; decide +kernel
    have q7 := lit_yes h7
    clear h7
    go_enter Tryd.func45, Tryd.ntmps45
    go_wp2
    go_ret
    exact ⟨ret_int HL.out.symm, rfl⟩
  have H7 : Hid (¬ l = [112,97,114,97]) := h7
  have q7 := lit_no h7
  clear h7
  by_cases h8 : l = [109,105,100,100,111,116]
  · have HL : Hid (Rf.look Rf.markT l = 183) := by show _ = _; rw [h8]; decide +kernel
    have q8 := lit_yes h8
    clear h8
    go_enter Tryd.func45, Tryd.ntmps45
    go_wp2
    go_ret
    exact ⟨ret_int HL.out.symm, rfl⟩
  have H8 : Hid (¬ l = [109,105,100,100,111,116]) := h8
  have q8 := lit_no h8
  clear h8
  by_cases h9 : l = [108,97,113,117,111]
  · have HL : Hid (Rf.look Rf.markT l = 171) := by show _ = _; rw [h9]; decide +kernel
    have q9 := lit_yes h9
    clear h9
    go_enter Tryd.func45, Tryd.ntmps45
    go_wp2
    go_ret
    exact ⟨ret_int HL.out.symm, rfl⟩
  have H9 : Hid (¬ l = [108,97,113,117,111]) := h9
  have q9 := lit_no h9
  clear h9
  by_cases h10 : l = [114,97,113,117,111]
  · have HL : Hid (Rf.look Rf.markT l = 187) := by show _ = _; rw [h10]; decide +kernel
    have q10 := lit_yes h10
    clear h10
    go_enter Tryd.func45, Tryd.ntmps45
    go_wp2
    go_ret
    exact ⟨ret_int HL.out.symm, rfl⟩
  have H10 : Hid (¬ l = [114,97,113,117,111]) := h10
  have q10 := lit_no h10
  clear h10
  by_cases h11 : l = [102,114,97,99,49,50]
  · have HL : Hid (Rf.look Rf.markT l = 189) := by show _ = _; rw [h11]; decide +kernel
    have q11 := lit_yes h11
    clear h11
    go_enter Tryd.func45, Tryd.ntmps45
    go_wp2
    go_ret
    exact ⟨ret_int HL.out.symm, rfl⟩
  have H11 : Hid (¬ l = [102,114,97,99,49,50]) := h11
  have q11 := lit_no h11
  clear h11
  by_cases h12 : l = [116,105,109,101,115]
  · have HL : Hid (Rf.look Rf.markT l = 215) := by show _ = _; rw [h12]; decide +kernel
    have q12 := lit_yes h12
    clear h12
    go_enter Tryd.func45, Tryd.ntmps45
    go_wp2
    go_ret
    exact ⟨ret_int HL.out.symm, rfl⟩
  have H12 : Hid (¬ l = [116,105,109,101,115]) := h12
  have q12 := lit_no h12
  clear h12
  by_cases h13 : l = [100,105,118,105,100,101]
  · have HL : Hid (Rf.look Rf.markT l = 247) := by show _ = _; rw [h13]; decide +kernel
    have q13 := lit_yes h13
    clear h13
    go_enter Tryd.func45, Tryd.ntmps45
    go_wp2
    go_ret
    exact ⟨ret_int HL.out.symm, rfl⟩
  have H13 : Hid (¬ l = [100,105,118,105,100,101]) := h13
  have q13 := lit_no h13
  clear h13
  have HL : Hid (Rf.look Rf.markT l = 0) := by
    show _ = _
    unfold Rf.markT
    simp only [Rf.look]
    rw [if_neg H0.out, if_neg H1.out, if_neg H2.out, if_neg H3.out, if_neg H4.out, if_neg H5.out, if_neg H6.out, if_neg H7.out, if_neg H8.out, if_neg H9.out, if_neg H10.out, if_neg H11.out, if_neg H12.out, if_neg H13.out]
  go_enter Tryd.func45, Tryd.ntmps45
  go_wp2
  go_ret
  exact ⟨ret_int HL.out.symm, rfl⟩
set_option maxHeartbeats 4000000 in
set_option maxRecDepth 100000 in
theorem wideSign_any (l : List UInt8) (w : World) :
    Calls Tryd.prog 47 #[.string (str l)] w fun e w' => e = .returned (.int .i32 (Rf.look Rf.wideT l)) ∧ w' = w := by
  by_cases h0 : l = [110,100,97,115,104]
  · have HL : Hid (Rf.look Rf.wideT l = 8211) := by show _ = _; rw [h0]; decide +kernel
    have q0 := lit_yes h0
    clear h0
    go_enter Tryd.func47, Tryd.ntmps47
    go_wp2
    go_ret
    exact ⟨ret_int HL.out.symm, rfl⟩
  have H0 : Hid (¬ l = [110,100,97,115,104]) := h0
  have q0 := lit_no h0
  clear h0
  by_cases h1 : l = [109,100,97,115,104]
  · have HL : Hid (Rf.look Rf.wideT l = 8212) := by show _ = _; rw [h1]; decide +kernel
    have q1 := lit_yes h1
    clear h1
    go_enter Tryd.func47, Tryd.ntmps47
    go_wp2
    go_ret
    exact ⟨ret_int HL.out.symm, rfl⟩
  have H1 : Hid (¬ l = [109,100,97,115,104]) := h1
  have q1 := lit_no h1
  clear h1
  by_cases h2 : l = [108,115,113,117,111]
  · have HL : Hid (Rf.look Rf.wideT l = 8216) := by show _ = _; rw [h2]; decide +kernel
    have q2 := lit_yes h2
    clear h2
    go_enter Tryd.func47, Tryd.ntmps47
    go_wp2
    go_ret
    exact ⟨ret_int HL.out.symm, rfl⟩
  have H2 : Hid (¬ l = [108,115,113,117,111]) := h2
  have q2 := lit_no h2
  clear h2
  by_cases h3 : l = [114,115,113,117,111]
  · have HL : Hid (Rf.look Rf.wideT l = 8217) := by show _ = _; rw [h3]; decide +kernel
    have q3 := lit_yes h3
    clear h3
    go_enter Tryd.func47, Tryd.ntmps47
    go_wp2
    go_ret
    exact ⟨ret_int HL.out.symm, rfl⟩
  have H3 : Hid (¬ l = [114,115,113,117,111]) := h3
  have q3 := lit_no h3
  clear h3
  by_cases h4 : l = [108,100,113,117,111]
  · have HL : Hid (Rf.look Rf.wideT l = 8220) := by show _ = _; rw [h4]; decide +kernel
    have q4 := lit_yes h4
    clear h4
    go_enter Tryd.func47, Tryd.ntmps47
    go_wp2
    go_ret
    exact ⟨ret_int HL.out.symm, rfl⟩
  have H4 : Hid (¬ l = [108,100,113,117,111]) := h4
  have q4 := lit_no h4
  clear h4
  by_cases h5 : l = [114,100,113,117,111]
  · have HL : Hid (Rf.look Rf.wideT l = 8221) := by show _ = _; rw [h5]; decide +kernel
    have q5 := lit_yes h5
    clear h5
    go_enter Tryd.func47, Tryd.ntmps47
    go_wp2
    go_ret
    exact ⟨ret_int HL.out.symm, rfl⟩
  have H5 : Hid (¬ l = [114,100,113,117,111]) := h5
  have q5 := lit_no h5
  clear h5
  by_cases h6 : l = [98,117,108,108]
  · have HL : Hid (Rf.look Rf.wideT l = 8226) := by show _ = _; rw [h6]; decide +kernel
    have q6 := lit_yes h6
    clear h6
    go_enter Tryd.func47, Tryd.ntmps47
    go_wp2
    go_ret
    exact ⟨ret_int HL.out.symm, rfl⟩
  have H6 : Hid (¬ l = [98,117,108,108]) := h6
  have q6 := lit_no h6
  clear h6
  by_cases h7 : l = [104,101,108,108,105,112]
  · have HL : Hid (Rf.look Rf.wideT l = 8230) := by show _ = _; rw [h7]; decide +kernel
    have q7 := lit_yes h7
    clear h7
    go_enter Tryd.func47, Tryd.ntmps47
    go_wp2
    go_ret
    exact ⟨ret_int HL.out.symm, rfl⟩
  have H7 : Hid (¬ l = [104,101,108,108,105,112]) := h7
  have q7 := lit_no h7
  clear h7
  by_cases h8 : l = [101,117,114,111]
  · have HL : Hid (Rf.look Rf.wideT l = 8364) := by show _ = _; rw [h8]; decide +kernel
    have q8 := lit_yes h8
    clear h8
    go_enter Tryd.func47, Tryd.ntmps47
    go_wp2
    go_ret
    exact ⟨ret_int HL.out.symm, rfl⟩
  have H8 : Hid (¬ l = [101,117,114,111]) := h8
  have q8 := lit_no h8
  clear h8
  by_cases h9 : l = [116,114,97,100,101]
  · have HL : Hid (Rf.look Rf.wideT l = 8482) := by show _ = _; rw [h9]; decide +kernel
    have q9 := lit_yes h9
    clear h9
    go_enter Tryd.func47, Tryd.ntmps47
    go_wp2
    go_ret
    exact ⟨ret_int HL.out.symm, rfl⟩
  have H9 : Hid (¬ l = [116,114,97,100,101]) := h9
  have q9 := lit_no h9
  clear h9
  by_cases h10 : l = [108,97,114,114]
  · have HL : Hid (Rf.look Rf.wideT l = 8592) := by show _ = _; rw [h10]; decide +kernel
    have q10 := lit_yes h10
    clear h10
    go_enter Tryd.func47, Tryd.ntmps47
    go_wp2
    go_ret
    exact ⟨ret_int HL.out.symm, rfl⟩
  have H10 : Hid (¬ l = [108,97,114,114]) := h10
  have q10 := lit_no h10
  clear h10
  by_cases h11 : l = [114,97,114,114]
  · have HL : Hid (Rf.look Rf.wideT l = 8594) := by show _ = _; rw [h11]; decide +kernel
    have q11 := lit_yes h11
    clear h11
    go_enter Tryd.func47, Tryd.ntmps47
    go_wp2
    go_ret
    exact ⟨ret_int HL.out.symm, rfl⟩
  have H11 : Hid (¬ l = [114,97,114,114]) := h11
  have q11 := lit_no h11
  clear h11
  by_cases h12 : l = [104,101,97,114,116,115]
  · have HL : Hid (Rf.look Rf.wideT l = 9829) := by show _ = _; rw [h12]; decide +kernel
    have q12 := lit_yes h12
    clear h12
    go_enter Tryd.func47, Tryd.ntmps47
    go_wp2
    go_ret
    exact ⟨ret_int HL.out.symm, rfl⟩
  have H12 : Hid (¬ l = [104,101,97,114,116,115]) := h12
  have q12 := lit_no h12
  clear h12
  have HL : Hid (Rf.look Rf.wideT l = 0) := by
    show _ = _
    unfold Rf.wideT
    simp only [Rf.look]
    rw [if_neg H0.out, if_neg H1.out, if_neg H2.out, if_neg H3.out, if_neg H4.out, if_neg H5.out, if_neg H6.out, if_neg H7.out, if_neg H8.out, if_neg H9.out, if_neg H10.out, if_neg H11.out, if_neg H12.out]
  go_enter Tryd.func47, Tryd.ntmps47
  go_wp2
  go_ret
  exact ⟨ret_int HL.out.symm, rfl⟩
end Go.Proofs.YtdllcnifkiebjaaDoor
