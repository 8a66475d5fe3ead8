/- Texts laid as one. -/
import Derived.Test.YtiodaahncadodaaGreatDoorKGround
import Derived.Test.YtiodaahncadodaaGreatDoorKRfM
import Derived.Test.YtiodaahncadodaaGreatDoorKAscii
import Derived.Test.YtiodaahncadodaaGreatDoorKShelf
/- The short names. -/
set_option linter.unusedVariables false
set_option linter.unusedSimpArgs false
namespace Go.Proofs.YtiodaahncadodaaGreatDoor
open Go.RowKit
theorem lit_no {l m : List UInt8} (h : ¬ l = m) : ((str l).toList == m) = false := by rw [str_list]; exact beq_eq_false_iff_ne.2 h
theorem lit_yes {l m : List UInt8} (h : l = m) : ((str l).toList == m) = true := by rw [str_list, h]; exact beq_self_eq_true m
set_option maxHeartbeats 4000000 in
set_option maxRecDepth 100000 in
theorem shortSign_any (l : List UInt8) (w : World) :
    Calls Tryz.prog 196 #[.string (str l)] w fun e w' => e = .returned (.int .i32 (Rf.look Rf.shortT l)) ∧ w' = w := by
  by_cases h0 : l = [97,109,112]
  · have HL : Hid (Rf.look Rf.shortT l = 38) := by show _ = _; rw [h0]; decide +kernel
    have q0 := lit_yes h0
    clear h0
    go_enter Tryz.func196, Tryz.ntmps196
    go_wp2
    go_ret
    exact ⟨ret_int HL.out.symm, rfl⟩
  have H0 : Hid (¬ l = [97,109,112]) := h0
  have q0 := lit_no h0
  clear h0
  by_cases h1 : l = [108,116]
  · have HL : Hid (Rf.look Rf.shortT l = 60) := by show _ = _; rw [h1]; decide +kernel
    have q1 := lit_yes h1
    clear h1
    go_enter Tryz.func196, Tryz.ntmps196
    go_wp2
    go_ret
    exact ⟨ret_int HL.out.symm, rfl⟩
  have H1 : Hid (¬ l = [108,116]) := h1
  have q1 := lit_no h1
  clear h1
  by_cases h2 : l = [103,116]
  · have HL : Hid (Rf.look Rf.shortT l = 62) := by show _ = _; rw [h2]; decide +kernel
    have q2 := lit_yes h2
    clear h2
    go_enter Tryz.func196, Tryz.ntmps196
    go_wp2
    go_ret
    exact ⟨ret_int HL.out.symm, rfl⟩
  have H2 : Hid (¬ l = [103,116]) := h2
  have q2 := lit_no h2
  clear h2
  by_cases h3 : l = [113,117,111,116]
  · have HL : Hid (Rf.look Rf.shortT l = 34) := by show _ = _; rw [h3]; decide +kernel
    have q3 := lit_yes h3
    clear h3
    go_enter Tryz.func196, Tryz.ntmps196
    go_wp2
    go_ret
    exact ⟨ret_int HL.out.symm, rfl⟩
  have H3 : Hid (¬ l = [113,117,111,116]) := h3
  have q3 := lit_no h3
  clear h3
  by_cases h4 : l = [110,98,115,112]
  · have HL : Hid (Rf.look Rf.shortT l = 160) := by show _ = _; rw [h4]; decide +kernel
    have q4 := lit_yes h4
    clear h4
    go_enter Tryz.func196, Tryz.ntmps196
    go_wp2
    go_ret
    exact ⟨ret_int HL.out.symm, rfl⟩
  have H4 : Hid (¬ l = [110,98,115,112]) := h4
  have q4 := lit_no h4
  clear h4
  by_cases h5 : l = [99,111,112,121]
  · have HL : Hid (Rf.look Rf.shortT l = 169) := by show _ = _; rw [h5]; decide +kernel
    have q5 := lit_yes h5
    clear h5
    go_enter Tryz.func196, Tryz.ntmps196
    go_wp2
    go_ret
    exact ⟨ret_int HL.out.symm, rfl⟩
  have H5 : Hid (¬ l = [99,111,112,121]) := h5
  have q5 := lit_no h5
  clear h5
  by_cases h6 : l = [114,101,103]
  · have HL : Hid (Rf.look Rf.shortT l = 174) := by show _ = _; rw [h6]; decide +kernel
    have q6 := lit_yes h6
    clear h6
    go_enter Tryz.func196, Tryz.ntmps196
    go_wp2
    go_ret
    exact ⟨ret_int HL.out.symm, rfl⟩
  have H6 : Hid (¬ l = [114,101,103]) := h6
  have q6 := lit_no h6
  clear h6
  have HL : Hid (Rf.look Rf.shortT l = 0) := by
    show _ = _
    unfold Rf.shortT
    simp only [Rf.look]
    rw [if_neg H0.out, if_neg H1.out, if_neg H2.out, if_neg H3.out, if_neg H4.out, if_neg H5.out, if_neg H6.out]
  go_enter Tryz.func196, Tryz.ntmps196
  go_wp2
  go_ret
  exact ⟨ret_int HL.out.symm, rfl⟩
end Go.Proofs.YtiodaahncadodaaGreatDoor
/- The names of marks and of wide signs. -/
namespace Go.Proofs.YtiodaahncadodaaGreatDoor
open Go.RowKit
set_option maxHeartbeats 4000000 in
set_option maxRecDepth 100000 in
theorem markSign_any (l : List UInt8) (w : World) :
    Calls Tryz.prog 206 #[.string (str l)] w fun e w' => e = .returned (.int .i32 (Rf.look Rf.markT l)) ∧ w' = w := by
  by_cases h0 : l = [97,112,111,115]
  · have HL : Hid (Rf.look Rf.markT l = 39) := by show _ = _; rw [h0]; decide +kernel
    have q0 := lit_yes h0
    clear h0
    go_enter Tryz.func206, Tryz.ntmps206
    go_wp2
    go_ret
    exact ⟨ret_int HL.out.symm, rfl⟩
  have H0 : Hid (¬ l = [97,112,111,115]) := h0
  have q0 := lit_no h0
  clear h0
  by_cases h1 : l = [99,101,110,116]
  · have HL : Hid (Rf.look Rf.markT l = 162) := by show _ = _; rw [h1]; decide +kernel
    have q1 := lit_yes h1
    clear h1
    go_enter Tryz.func206, Tryz.ntmps206
    go_wp2
    go_ret
    exact ⟨ret_int HL.out.symm, rfl⟩
  have H1 : Hid (¬ l = [99,101,110,116]) := h1
  have q1 := lit_no h1
  clear h1
  by_cases h2 : l = [112,111,117,110,100]
  · have HL : Hid (Rf.look Rf.markT l = 163) := by show _ = _; rw [h2]; decide +kernel
    have q2 := lit_yes h2
    clear h2
    go_enter Tryz.func206, Tryz.ntmps206
    go_wp2
    go_ret
    exact ⟨ret_int HL.out.symm, rfl⟩
  have H2 : Hid (¬ l = [112,111,117,110,100]) := h2
  have q2 := lit_no h2
  clear h2
  by_cases h3 : l = [121,101,110]
  · have HL : Hid (Rf.look Rf.markT l = 165) := by show _ = _; rw [h3]; decide +kernel
    have q3 := lit_yes h3
    clear h3
    go_enter Tryz.func206, Tryz.ntmps206
    go_wp2
    go_ret
    exact ⟨ret_int HL.out.symm, rfl⟩
  have H3 : Hid (¬ l = [121,101,110]) := h3
  have q3 := lit_no h3
  clear h3
  by_cases h4 : l = [115,101,99,116]
  · have HL : Hid (Rf.look Rf.markT l = 167) := by show _ = _; rw [h4]; decide +kernel
    have q4 := lit_yes h4
    clear h4
    go_enter Tryz.func206, Tryz.ntmps206
    go_wp2
    go_ret
    exact ⟨ret_int HL.out.symm, rfl⟩
  have H4 : Hid (¬ l = [115,101,99,116]) := h4
  have q4 := lit_no h4
  clear h4
  by_cases h5 : l = [100,101,103]
  · have HL : Hid (Rf.look Rf.markT l = 176) := by show _ = _; rw [h5]; decide +kernel
    have q5 := lit_yes h5
    clear h5
    go_enter Tryz.func206, Tryz.ntmps206
    go_wp2
    go_ret
    exact ⟨ret_int HL.out.symm, rfl⟩
  have H5 : Hid (¬ l = [100,101,103]) := h5
  have q5 := lit_no h5
  clear h5
  by_cases h6 : l = [112,108,117,115,109,110]
  · have HL : Hid (Rf.look Rf.markT l = 177) := by show _ = _; rw [h6]; decide +kernel
    have q6 := lit_yes h6
    clear h6
    go_enter Tryz.func206, Tryz.ntmps206
    go_wp2
    go_ret
    exact ⟨ret_int HL.out.symm, rfl⟩
  have H6 : Hid (¬ l = [112,108,117,115,109,110]) := h6
  have q6 := lit_no h6
  clear h6
  by_cases h7 : l = [112,97,114,97]
  · have HL : Hid (Rf.look Rf.markT l = 182) := by show _ = _; rw [h7]; decide +kernel
    have q7 := lit_yes h7
    clear h7
    go_enter Tryz.func206, Tryz.ntmps206
    go_wp2
    go_ret
    exact ⟨ret_int HL.out.symm, rfl⟩
  have H7 : Hid (¬ l = [112,97,114,97]) := h7
  have q7 := lit_no h7
  clear h7
  by_cases h8 : l = [109,105,100,100,111,116]
  · have HL : Hid (Rf.look Rf.markT l = 183) := by show _ = _; rw [h8]; decide +kernel
    have q8 := lit_yes h8
    clear h8
    go_enter Tryz.func206, Tryz.ntmps206
    go_wp2
    go_ret
    exact ⟨ret_int HL.out.symm, rfl⟩
  have H8 : Hid (¬ l = [109,105,100,100,111,116]) := h8
  have q8 := lit_no h8
  clear h8
  by_cases h9 : l = [108,97,113,117,111]
  · have HL : Hid (Rf.look Rf.markT l = 171) := by show _ = _; rw [h9]; decide +kernel
    have q9 := lit_yes h9
    clear h9
    go_enter Tryz.func206, Tryz.ntmps206
    go_wp2
    go_ret
    exact ⟨ret_int HL.out.symm, rfl⟩
  have H9 : Hid (¬ l = [108,97,113,117,111]) := h9
  have q9 := lit_no h9
  clear h9
  by_cases h10 : l = [114,97,113,117,111]
  · have HL : Hid (Rf.look Rf.markT l = 187) := by show _ = _; rw [h10]; decide +kernel
    have q10 := lit_yes h10
    clear h10
    go_enter Tryz.func206, Tryz.ntmps206
    go_wp2
    go_ret
    exact ⟨ret_int HL.out.symm, rfl⟩
  have H10 : Hid (¬ l = [114,97,113,117,111]) := h10
  have q10 := lit_no h10
  clear h10
  by_cases h11 : l = [102,114,97,99,49,50]
  · have HL : Hid (Rf.look Rf.markT l = 189) := by show _ = _; rw [h11]; decide +kernel
    have q11 := lit_yes h11
    clear h11
    go_enter Tryz.func206, Tryz.ntmps206
    go_wp2
    go_ret
    exact ⟨ret_int HL.out.symm, rfl⟩
  have H11 : Hid (¬ l = [102,114,97,99,49,50]) := h11
  have q11 := lit_no h11
  clear h11
  by_cases h12 : l = [116,105,109,101,115]
  · have HL : Hid (Rf.look Rf.markT l = 215) := by show _ = _; rw [h12]; decide +kernel
    have q12 := lit_yes h12
    clear h12
    go_enter Tryz.func206, Tryz.ntmps206
    go_wp2
    go_ret
    exact ⟨ret_int HL.out.symm, rfl⟩
  have H12 : Hid (¬ l = [116,105,109,101,115]) := h12
  have q12 := lit_no h12
  clear h12
  by_cases h13 : l = [100,105,118,105,100,101]
  · have HL : Hid (Rf.look Rf.markT l = 247) := by show _ = _; rw [h13]; decide +kernel
    have q13 := lit_yes h13
    clear h13
    go_enter Tryz.func206, Tryz.ntmps206
    go_wp2
    go_ret
    exact ⟨ret_int HL.out.symm, rfl⟩
  have H13 : Hid (¬ l = [100,105,118,105,100,101]) := h13
  have q13 := lit_no h13
  clear h13
  have HL : Hid (Rf.look Rf.markT l = 0) := by
    show _ = _
    unfold Rf.markT
    simp only [Rf.look]
    rw [if_neg H0.out, if_neg H1.out, if_neg H2.out, if_neg H3.out, if_neg H4.out, if_neg H5.out, if_neg H6.out, if_neg H7.out, if_neg H8.out, if_neg H9.out, if_neg H10.out, if_neg H11.out, if_neg H12.out, if_neg H13.out]
  go_enter Tryz.func206, Tryz.ntmps206
  go_wp2
  go_ret
  exact ⟨ret_int HL.out.symm, rfl⟩
set_option maxHeartbeats 4000000 in
set_option maxRecDepth 100000 in
theorem wideSign_any (l : List UInt8) (w : World) :
    Calls Tryz.prog 208 #[.string (str l)] w fun e w' => e = .returned (.int .i32 (Rf.look Rf.wideT l)) ∧ w' = w := by
  by_cases h0 : l = [110,100,97,115,104]
  · have HL : Hid (Rf.look Rf.wideT l = 8211) := by show _ = _; rw [h0]; decide +kernel
    have q0 := lit_yes h0
    clear h0
    go_enter Tryz.func208, Tryz.ntmps208
    go_wp2
    go_ret
    exact ⟨ret_int HL.out.symm, rfl⟩
  have H0 : Hid (¬ l = [110,100,97,115,104]) := h0
  have q0 := lit_no h0
  clear h0
  by_cases h1 : l = [109,100,97,115,104]
  · have HL : Hid (Rf.look Rf.wideT l = 8212) := by show _ = _; rw [h1]; decide +kernel
    have q1 := lit_yes h1
    clear h1
    go_enter Tryz.func208, Tryz.ntmps208
    go_wp2
    go_ret
    exact ⟨ret_int HL.out.symm, rfl⟩
  have H1 : Hid (¬ l = [109,100,97,115,104]) := h1
  have q1 := lit_no h1
  clear h1
  by_cases h2 : l = [108,115,113,117,111]
  · have HL : Hid (Rf.look Rf.wideT l = 8216) := by show _ = _; rw [h2]; decide +kernel
    have q2 := lit_yes h2
    clear h2
    go_enter Tryz.func208, Tryz.ntmps208
    go_wp2
    go_ret
    exact ⟨ret_int HL.out.symm, rfl⟩
  have H2 : Hid (¬ l = [108,115,113,117,111]) := h2
  have q2 := lit_no h2
  clear h2
  by_cases h3 : l = [114,115,113,117,111]
  · have HL : Hid (Rf.look Rf.wideT l = 8217) := by show _ = _; rw [h3]; decide +kernel
    have q3 := lit_yes h3
    clear h3
    go_enter Tryz.func208, Tryz.ntmps208
    go_wp2
    go_ret
    exact ⟨ret_int HL.out.symm, rfl⟩
  have H3 : Hid (¬ l = [114,115,113,117,111]) := h3
  have q3 := lit_no h3
  clear h3
  by_cases h4 : l = [108,100,113,117,111]
  · have HL : Hid (Rf.look Rf.wideT l = 8220) := by show _ = _; rw [h4]; decide +kernel
    have q4 := lit_yes h4
    clear h4
    go_enter Tryz.func208, Tryz.ntmps208
    go_wp2
    go_ret
    exact ⟨ret_int HL.out.symm, rfl⟩
  have H4 : Hid (¬ l = [108,100,113,117,111]) := h4
  have q4 := lit_no h4
  clear h4
  by_cases h5 : l = [114,100,113,117,111]
  · have HL : Hid (Rf.look Rf.wideT l = 8221) := by show _ = _; rw [h5]; decide +kernel
    have q5 := lit_yes h5
    clear h5
    go_enter Tryz.func208, Tryz.ntmps208
    go_wp2
    go_ret
    exact ⟨ret_int HL.out.symm, rfl⟩
  have H5 : Hid (¬ l = [114,100,113,117,111]) := h5
  have q5 := lit_no h5
  clear h5
  by_cases h6 : l = [98,117,108,108]
  · have HL : Hid (Rf.look Rf.wideT l = 8226) := by show _ = _; rw [h6]; decide +kernel
    have q6 := lit_yes h6
    clear h6
    go_enter Tryz.func208, Tryz.ntmps208
    go_wp2
    go_ret
    exact ⟨ret_int HL.out.symm, rfl⟩
  have H6 : Hid (¬ l = [98,117,108,108]) := h6
  have q6 := lit_no h6
  clear h6
  by_cases h7 : l = [104,101,108,108,105,112]
  · have HL : Hid (Rf.look Rf.wideT l = 8230) := by show _ = _; rw [h7]; decide +kernel
    have q7 := lit_yes h7
    clear h7
    go_enter Tryz.func208, Tryz.ntmps208
    go_wp2
    go_ret
    exact ⟨ret_int HL.out.symm, rfl⟩
  have H7 : Hid (¬ l = [104,101,108,108,105,112]) := h7
  have q7 := lit_no h7
  clear h7
  by_cases h8 : l = [101,117,114,111]
  · have HL : Hid (Rf.look Rf.wideT l = 8364) := by show _ = _; rw [h8]; decide +kernel
    have q8 := lit_yes h8
    clear h8
    go_enter Tryz.func208, Tryz.ntmps208
    go_wp2
    go_ret
    exact ⟨ret_int HL.out.symm, rfl⟩
  have H8 : Hid (¬ l = [101,117,114,111]) := h8
  have q8 := lit_no h8
  clear h8
  by_cases h9 : l = [116,114,97,100,101]
  · have HL : Hid (Rf.look Rf.wideT l = 8482) := by show _ = _; rw [h9]; decide +kernel
    have q9 := lit_yes h9
    clear h9
    go_enter Tryz.func208, Tryz.ntmps208
    go_wp2
    go_ret
    exact ⟨ret_int HL.out.symm, rfl⟩
  have H9 : Hid (¬ l = [116,114,97,100,101]) := h9
  have q9 := lit_no h9
  clear h9
  by_cases h10 : l = [108,97,114,114]
  · have HL : Hid (Rf.look Rf.wideT l = 8592) := by show _ = _; rw [h10]; decide +kernel
    have q10 := lit_yes h10
    clear h10
    go_enter Tryz.func208, Tryz.ntmps208
    go_wp2
    go_ret
    exact ⟨ret_int HL.out.symm, rfl⟩
  have H10 : Hid (¬ l = [108,97,114,114]) := h10
  have q10 := lit_no h10
  clear h10
  by_cases h11 : l = [114,97,114,114]
  · have HL : Hid (Rf.look Rf.wideT l = 8594) := by show _ = _; rw [h11]; decide +kernel
    have q11 := lit_yes h11
    clear h11
    go_enter Tryz.func208, Tryz.ntmps208
    go_wp2
    go_ret
    exact ⟨ret_int HL.out.symm, rfl⟩
  have H11 : Hid (¬ l = [114,97,114,114]) := h11
  have q11 := lit_no h11
  clear h11
  by_cases h12 : l = [104,101,97,114,116,115]
  · have HL : Hid (Rf.look Rf.wideT l = 9829) := by show _ = _; rw [h12]; decide +kernel
    have q12 := lit_yes h12
    clear h12
    go_enter Tryz.func208, Tryz.ntmps208
    go_wp2
    go_ret
    exact ⟨ret_int HL.out.symm, rfl⟩
  have H12 : Hid (¬ l = [104,101,97,114,116,115]) := h12
  have q12 := lit_no h12
  clear h12
  have HL : Hid (Rf.look Rf.wideT l = 0) := by
    show _ = _
    unfold Rf.wideT
    simp only [Rf.look]
    rw [if_neg H0.out, if_neg H1.out, if_neg H2.out, if_neg H3.out, if_neg H4.out, if_neg H5.out, if_neg H6.out, if_neg H7.out, if_neg H8.out, if_neg H9.out, if_neg H10.out, if_neg H11.out, if_neg H12.out]
  go_enter Tryz.func208, Tryz.ntmps208
  go_wp2
  go_ret
  exact ⟨ret_int HL.out.symm, rfl⟩
end Go.Proofs.YtiodaahncadodaaGreatDoor
/- The names of letters. -/
namespace Go.Proofs.YtiodaahncadodaaGreatDoor
open Go.RowKit
set_option maxHeartbeats 4000000 in
set_option maxRecDepth 100000 in
theorem letterSign_any (l : List UInt8) (w : World) :
    Calls Tryz.prog 207 #[.string (str l)] w fun e w' => e = .returned (.int .i32 (Rf.look Rf.letterT l)) ∧ w' = w := by
  by_cases h0 : l = [97,103,114,97,118,101]
  · have HL : Hid (Rf.look Rf.letterT l = 224) := by show _ = _; rw [h0]; decide +kernel
    have q0 := lit_yes h0
    clear h0
    go_enter Tryz.func207, Tryz.ntmps207
    go_wp2
    go_ret
    exact ⟨ret_int HL.out.symm, rfl⟩
  have H0 : Hid (¬ l = [97,103,114,97,118,101]) := h0
  have q0 := lit_no h0
  clear h0
  by_cases h1 : l = [97,97,99,117,116,101]
  · have HL : Hid (Rf.look Rf.letterT l = 225) := by show _ = _; rw [h1]; decide +kernel
    have q1 := lit_yes h1
    clear h1
    go_enter Tryz.func207, Tryz.ntmps207
    go_wp2
    go_ret
    exact ⟨ret_int HL.out.symm, rfl⟩
  have H1 : Hid (¬ l = [97,97,99,117,116,101]) := h1
  have q1 := lit_no h1
  clear h1
  by_cases h2 : l = [97,99,105,114,99]
  · have HL : Hid (Rf.look Rf.letterT l = 226) := by show _ = _; rw [h2]; decide +kernel
    have q2 := lit_yes h2
    clear h2
    go_enter Tryz.func207, Tryz.ntmps207
    go_wp2
    go_ret
    exact ⟨ret_int HL.out.symm, rfl⟩
  have H2 : Hid (¬ l = [97,99,105,114,99]) := h2
  have q2 := lit_no h2
  clear h2
  by_cases h3 : l = [97,117,109,108]
  · have HL : Hid (Rf.look Rf.letterT l = 228) := by show _ = _; rw [h3]; decide +kernel
    have q3 := lit_yes h3
    clear h3
    go_enter Tryz.func207, Tryz.ntmps207
    go_wp2
    go_ret
    exact ⟨ret_int HL.out.symm, rfl⟩
  have H3 : Hid (¬ l = [97,117,109,108]) := h3
  have q3 := lit_no h3
  clear h3
  by_cases h4 : l = [97,114,105,110,103]
  · have HL : Hid (Rf.look Rf.letterT l = 229) := by show _ = _; rw [h4]; decide +kernel
    have q4 := lit_yes h4
    clear h4
    go_enter Tryz.func207, Tryz.ntmps207
    go_wp2
    go_ret
    exact ⟨ret_int HL.out.symm, rfl⟩
  have H4 : Hid (¬ l = [97,114,105,110,103]) := h4
  have q4 := lit_no h4
  clear h4
  by_cases h5 : l = [97,101,108,105,103]
  · have HL : Hid (Rf.look Rf.letterT l = 230) := by show _ = _; rw [h5]; decide +kernel
    have q5 := lit_yes h5
    clear h5
    go_enter Tryz.func207, Tryz.ntmps207
    go_wp2
    go_ret
    exact ⟨ret_int HL.out.symm, rfl⟩
  have H5 : Hid (¬ l = [97,101,108,105,103]) := h5
  have q5 := lit_no h5
  clear h5
  by_cases h6 : l = [99,99,101,100,105,108]
  · have HL : Hid (Rf.look Rf.letterT l = 231) := by show _ = _; rw [h6]; decide +kernel
    have q6 := lit_yes h6
    clear h6
    go_enter Tryz.func207, Tryz.ntmps207
    go_wp2
    go_ret
    exact ⟨ret_int HL.out.symm, rfl⟩
  have H6 : Hid (¬ l = [99,99,101,100,105,108]) := h6
  have q6 := lit_no h6
  clear h6
  by_cases h7 : l = [101,103,114,97,118,101]
  · have HL : Hid (Rf.look Rf.letterT l = 232) := by show _ = _; rw [h7]; decide +kernel
    have q7 := lit_yes h7
    clear h7
    go_enter Tryz.func207, Tryz.ntmps207
    go_wp2
    go_ret
    exact ⟨ret_int HL.out.symm, rfl⟩
  have H7 : Hid (¬ l = [101,103,114,97,118,101]) := h7
  have q7 := lit_no h7
  clear h7
  by_cases h8 : l = [101,97,99,117,116,101]
  · have HL : Hid (Rf.look Rf.letterT l = 233) := by show _ = _; rw [h8]; decide +kernel
    have q8 := lit_yes h8
    clear h8
    go_enter Tryz.func207, Tryz.ntmps207
    go_wp2
    go_ret
    exact ⟨ret_int HL.out.symm, rfl⟩
  have H8 : Hid (¬ l = [101,97,99,117,116,101]) := h8
  have q8 := lit_no h8
  clear h8
  by_cases h9 : l = [101,99,105,114,99]
  · have HL : Hid (Rf.look Rf.letterT l = 234) := by show _ = _; rw [h9]; decide +kernel
    have q9 := lit_yes h9
    clear h9
    go_enter Tryz.func207, Tryz.ntmps207
    go_wp2
    go_ret
    exact ⟨ret_int HL.out.symm, rfl⟩
  have H9 : Hid (¬ l = [101,99,105,114,99]) := h9
  have q9 := lit_no h9
  clear h9
  by_cases h10 : l = [105,97,99,117,116,101]
  · have HL : Hid (Rf.look Rf.letterT l = 237) := by show _ = _; rw [h10]; decide +kernel
    have q10 := lit_yes h10
    clear h10
    go_enter Tryz.func207, Tryz.ntmps207
    go_wp2
    go_ret
    exact ⟨ret_int HL.out.symm, rfl⟩
  have H10 : Hid (¬ l = [105,97,99,117,116,101]) := h10
  have q10 := lit_no h10
  clear h10
  by_cases h11 : l = [110,116,105,108,100,101]
  · have HL : Hid (Rf.look Rf.letterT l = 241) := by show _ = _; rw [h11]; decide +kernel
    have q11 := lit_yes h11
    clear h11
    go_enter Tryz.func207, Tryz.ntmps207
    go_wp2
    go_ret
    exact ⟨ret_int HL.out.symm, rfl⟩
  have H11 : Hid (¬ l = [110,116,105,108,100,101]) := h11
  have q11 := lit_no h11
  clear h11
  by_cases h12 : l = [111,97,99,117,116,101]
  · have HL : Hid (Rf.look Rf.letterT l = 243) := by show _ = _; rw [h12]; decide +kernel
    have q12 := lit_yes h12
    clear h12
    go_enter Tryz.func207, Tryz.ntmps207
    go_wp2
    go_ret
    exact ⟨ret_int HL.out.symm, rfl⟩
  have H12 : Hid (¬ l = [111,97,99,117,116,101]) := h12
  have q12 := lit_no h12
  clear h12
  by_cases h13 : l = [111,117,109,108]
  · have HL : Hid (Rf.look Rf.letterT l = 246) := by show _ = _; rw [h13]; decide +kernel
    have q13 := lit_yes h13
    clear h13
    go_enter Tryz.func207, Tryz.ntmps207
    go_wp2
    go_ret
    exact ⟨ret_int HL.out.symm, rfl⟩
  have H13 : Hid (¬ l = [111,117,109,108]) := h13
  have q13 := lit_no h13
  clear h13
  by_cases h14 : l = [111,115,108,97,115,104]
  · have HL : Hid (Rf.look Rf.letterT l = 248) := by show _ = _; rw [h14]; decide +kernel
    have q14 := lit_yes h14
    clear h14
    go_enter Tryz.func207, Tryz.ntmps207
    go_wp2
    go_ret
    exact ⟨ret_int HL.out.symm, rfl⟩
  have H14 : Hid (¬ l = [111,115,108,97,115,104]) := h14
  have q14 := lit_no h14
  clear h14
  by_cases h15 : l = [117,97,99,117,116,101]
  · have HL : Hid (Rf.look Rf.letterT l = 250) := by show _ = _; rw [h15]; decide +kernel
    have q15 := lit_yes h15
    clear h15
    go_enter Tryz.func207, Tryz.ntmps207
    go_wp2
    go_ret
    exact ⟨ret_int HL.out.symm, rfl⟩
  have H15 : Hid (¬ l = [117,97,99,117,116,101]) := h15
  have q15 := lit_no h15
  clear h15
  by_cases h16 : l = [117,117,109,108]
  · have HL : Hid (Rf.look Rf.letterT l = 252) := by show _ = _; rw [h16]; decide +kernel
    have q16 := lit_yes h16
    clear h16
    go_enter Tryz.func207, Tryz.ntmps207
    go_wp2
    go_ret
    exact ⟨ret_int HL.out.symm, rfl⟩
  have H16 : Hid (¬ l = [117,117,109,108]) := h16
  have q16 := lit_no h16
  clear h16
  by_cases h17 : l = [115,122,108,105,103]
  · have HL : Hid (Rf.look Rf.letterT l = 223) := by show _ = _; rw [h17]; decide +kernel
    have q17 := lit_yes h17
    clear h17
    go_enter Tryz.func207, Tryz.ntmps207
    go_wp2
    go_ret
    exact ⟨ret_int HL.out.symm, rfl⟩
  have H17 : Hid (¬ l = [115,122,108,105,103]) := h17
  have q17 := lit_no h17
  clear h17
  by_cases h18 : l = [65,117,109,108]
  · have HL : Hid (Rf.look Rf.letterT l = 196) := by show _ = _; rw [h18]; decide +kernel
    have q18 := lit_yes h18
    clear h18
    go_enter Tryz.func207, Tryz.ntmps207
    go_wp2
    go_ret
    exact ⟨ret_int HL.out.symm, rfl⟩
  have H18 : Hid (¬ l = [65,117,109,108]) := h18
  have q18 := lit_no h18
  clear h18
  by_cases h19 : l = [79,117,109,108]
  · have HL : Hid (Rf.look Rf.letterT l = 214) := by show _ = _; rw [h19]; decide +kernel
    have q19 := lit_yes h19
    clear h19
    go_enter Tryz.func207, Tryz.ntmps207
    go_wp2
    go_ret
    exact ⟨ret_int HL.out.symm, rfl⟩
  have H19 : Hid (¬ l = [79,117,109,108]) := h19
  have q19 := lit_no h19
  clear h19
  by_cases h20 : l = [85,117,109,108]
  · have HL : Hid (Rf.look Rf.letterT l = 220) := by show _ = _; rw [h20]; decide +kernel
    have q20 := lit_yes h20
    clear h20
    go_enter Tryz.func207, Tryz.ntmps207
    go_wp2
    go_ret
    exact ⟨ret_int HL.out.symm, rfl⟩
  have H20 : Hid (¬ l = [85,117,109,108]) := h20
  have q20 := lit_no h20
  clear h20
  by_cases h21 : l = [69,97,99,117,116,101]
  · have HL : Hid (Rf.look Rf.letterT l = 201) := by show _ = _; rw [h21]; decide +kernel
    have q21 := lit_yes h21
    clear h21
    go_enter Tryz.func207, Tryz.ntmps207
    go_wp2
    go_ret
    exact ⟨ret_int HL.out.symm, rfl⟩
  have H21 : Hid (¬ l = [69,97,99,117,116,101]) := h21
  have q21 := lit_no h21
  clear h21
  have HL : Hid (Rf.look Rf.letterT l = 0) := by
    show _ = _
    unfold Rf.letterT
    simp only [Rf.look]
    rw [if_neg H0.out, if_neg H1.out, if_neg H2.out, if_neg H3.out, if_neg H4.out, if_neg H5.out, if_neg H6.out, if_neg H7.out, if_neg H8.out, if_neg H9.out, if_neg H10.out, if_neg H11.out, if_neg H12.out, if_neg H13.out, if_neg H14.out, if_neg H15.out, if_neg H16.out, if_neg H17.out, if_neg H18.out, if_neg H19.out, if_neg H20.out, if_neg H21.out]
  go_enter Tryz.func207, Tryz.ntmps207
  go_wp2
  go_ret
  exact ⟨ret_int HL.out.symm, rfl⟩
end Go.Proofs.YtiodaahncadodaaGreatDoor
/- Contracts of package refs' small functions: isOfName, isHexDigit, run, decimal, hexadecimal, goesOn. -/
namespace Go.Proofs.YtiodaahncadodaaGreatDoor
open Go.RowKit
theorem IsLetter_z (c : UInt8) (w : World) :
    Calls Tryz.prog 123 #[.int .u8 c.toNat] w fun e w' => e = .returned (.bool (Rf.letZ (Asc.bt c))) ∧ w' = w := IsLetter_n _ _
theorem IsDigit_z (c : UInt8) (w : World) :
    Calls Tryz.prog 188 #[.int .u8 c.toNat] w fun e w' => e = .returned (.bool (Rf.digB c)) ∧ w' = w := IsDigit_n _ _
set_option maxHeartbeats 400000 in
theorem isOfName_any (c : UInt8) (w : World) :
    Calls Tryz.prog 194 #[.int .u8 c.toNat] w fun e w' => e = .returned (.bool (Rf.ofName c)) ∧ w' = w := by
  have HN : Hid (Rf.ofName c = (Rf.letZ (Asc.bt c) || Rf.digB c)) := rfl
  cases hx : Rf.letZ (Asc.bt c)
  · go_enter Tryz.func194, Tryz.ntmps194
    go_wp2_with (first
      | (go_at_call 123; refine (IsLetter_z c _).mono ?_; rintro e w1 ⟨rfl, hw⟩; rw [hw]; clear hw)
      | (go_at_call 188; refine (IsDigit_z c _).mono ?_; rintro e w1 ⟨rfl, hw⟩; rw [hw]; clear hw))
    go_ret
    exact ⟨ret_bool (by rw [HN.out, hx]; rfl), rfl⟩
  · go_enter Tryz.func194, Tryz.ntmps194
    go_wp2_with (first
      | (go_at_call 123; refine (IsLetter_z c _).mono ?_; rintro e w1 ⟨rfl, hw⟩; rw [hw]; clear hw)
      | (go_at_call 188; refine (IsDigit_z c _).mono ?_; rintro e w1 ⟨rfl, hw⟩; rw [hw]; clear hw))
    go_ret
    exact ⟨ret_bool (by rw [HN.out, hx]; rfl), rfl⟩
theorem hexB_n (c : UInt8) (n : Int) (h : (c.toNat : Int) = n) : Rf.hexB c = Asc.hexOk n := by unfold Rf.hexB Asc.bt; rw [h]
theorem digB_n (c : UInt8) (n : Int) (h : (c.toNat : Int) = n) : Rf.digB c = Asc.isDig n := by unfold Rf.digB Asc.bt; rw [h]
set_option maxHeartbeats 400000 in
theorem isHexDigit_any (c : UInt8) (w : World) :
    Calls Tryz.prog 190 #[.int .u8 c.toNat] w fun e w' => e = .returned (.bool (Rf.hexB c)) ∧ w' = w := by
  have hb := byte_bd c
  have hI := IsDigit_z c
  rw [hexB_n c _ rfl]
  rw [digB_n c _ rfl] at hI
  generalize (c.toNat : Int) = n at hb hI
  obtain ⟨hb0, hb1⟩ := hb
  rcases (show n < 48 ∨ (48 ≤ n ∧ n ≤ 57) ∨ (57 < n ∧ n < 65) ∨ (65 ≤ n ∧ n ≤ 70) ∨ (70 < n ∧ n < 97) ∨ (97 ≤ n ∧ n ≤ 102) ∨ 102 < n from by omega) with h | h | h | h | h | h | h
  · have hd : Asc.isDig n = false := decide_eq_false (by omega)
    have HV : Hid (Asc.hexOk n = false) := by
      show _ = _
      unfold Asc.hexOk
      simp only [ne_eq, Bool.or_eq_true, Bool.or_eq_false_iff, decide_eq_true_eq, decide_eq_false_iff_not]
      omega
    go_enter Tryz.func190, Tryz.ntmps190
    go_wp2_with (go_at_call 188; refine (hI _).mono ?_; rintro e w1 ⟨rfl, hw⟩; rw [hw]; clear hw)
    go_ret
    exact ⟨ret_bool (by first | exact HV.out.symm | (rw [HV.out]; simp; omega)), rfl⟩
  · have hd : Asc.isDig n = true := decide_eq_true (by omega)
    have HV : Hid (Asc.hexOk n = true) := by
      show _ = _
      unfold Asc.hexOk
      simp only [ne_eq, Bool.or_eq_true, Bool.or_eq_false_iff, decide_eq_true_eq, decide_eq_false_iff_not]
      omega
    go_enter Tryz.func190, Tryz.ntmps190
    go_wp2_with (go_at_call 188; refine (hI _).mono ?_; rintro e w1 ⟨rfl, hw⟩; rw [hw]; clear hw)
    go_ret
    exact ⟨ret_bool (by first | exact HV.out.symm | (rw [HV.out]; simp; omega)), rfl⟩
  · have hd : Asc.isDig n = false := decide_eq_false (by omega)
    have HV : Hid (Asc.hexOk n = false) := by
      show _ = _
      unfold Asc.hexOk
      simp only [ne_eq, Bool.or_eq_true, Bool.or_eq_false_iff, decide_eq_true_eq, decide_eq_false_iff_not]
      omega
    go_enter Tryz.func190, Tryz.ntmps190
    go_wp2_with (go_at_call 188; refine (hI _).mono ?_; rintro e w1 ⟨rfl, hw⟩; rw [hw]; clear hw)
    go_ret
    exact ⟨ret_bool (by first | exact HV.out.symm | (rw [HV.out]; simp; omega)), rfl⟩
  · have hd : Asc.isDig n = false := decide_eq_false (by omega)
    have HV : Hid (Asc.hexOk n = true) := by
      show _ = _
      unfold Asc.hexOk
      simp only [ne_eq, Bool.or_eq_true, Bool.or_eq_false_iff, decide_eq_true_eq, decide_eq_false_iff_not]
      omega
    go_enter Tryz.func190, Tryz.ntmps190
    go_wp2_with (go_at_call 188; refine (hI _).mono ?_; rintro e w1 ⟨rfl, hw⟩; rw [hw]; clear hw)
    go_ret
    exact ⟨ret_bool (by first | exact HV.out.symm | (rw [HV.out]; simp; omega)), rfl⟩
  · have hd : Asc.isDig n = false := decide_eq_false (by omega)
    have HV : Hid (Asc.hexOk n = false) := by
      show _ = _
      unfold Asc.hexOk
      simp only [ne_eq, Bool.or_eq_true, Bool.or_eq_false_iff, decide_eq_true_eq, decide_eq_false_iff_not]
      omega
    go_enter Tryz.func190, Tryz.ntmps190
    go_wp2_with (go_at_call 188; refine (hI _).mono ?_; rintro e w1 ⟨rfl, hw⟩; rw [hw]; clear hw)
    go_ret
    exact ⟨ret_bool (by first | exact HV.out.symm | (rw [HV.out]; simp; omega)), rfl⟩
  · have hd : Asc.isDig n = false := decide_eq_false (by omega)
    have HV : Hid (Asc.hexOk n = true) := by
      show _ = _
      unfold Asc.hexOk
      simp only [ne_eq, Bool.or_eq_true, Bool.or_eq_false_iff, decide_eq_true_eq, decide_eq_false_iff_not]
      omega
    go_enter Tryz.func190, Tryz.ntmps190
    go_wp2_with (go_at_call 188; refine (hI _).mono ?_; rintro e w1 ⟨rfl, hw⟩; rw [hw]; clear hw)
    go_ret
    exact ⟨ret_bool (by first | exact HV.out.symm | (rw [HV.out]; simp; omega)), rfl⟩
  · have hd : Asc.isDig n = false := decide_eq_false (by omega)
    have HV : Hid (Asc.hexOk n = false) := by
      show _ = _
      unfold Asc.hexOk
      simp only [ne_eq, Bool.or_eq_true, Bool.or_eq_false_iff, decide_eq_true_eq, decide_eq_false_iff_not]
      omega
    go_enter Tryz.func190, Tryz.ntmps190
    go_wp2_with (go_at_call 188; refine (hI _).mono ?_; rintro e w1 ⟨rfl, hw⟩; rw [hw]; clear hw)
    go_ret
    exact ⟨ret_bool (by first | exact HV.out.symm | (rw [HV.out]; simp; omega)), rfl⟩
theorem tw_stop (p : UInt8 → Bool) (l : List UInt8) (k : Nat) (h : k < l.length) (hk : (l.take k).all p = true) (hp : p l[k] = false) : (l.takeWhile p).length = k := by
  have e : l = l.take k ++ l.drop k := (List.take_append_drop k l).symm
  have hd : l.drop k = l[k] :: l.drop (k + 1) := List.drop_eq_getElem_cons h
  have h1 : l.takeWhile p = l.take k := by
    conv => lhs; rw [e]
    rw [List.takeWhile_append_of_pos (fun a ha => List.all_eq_true.1 hk a ha), hd, List.takeWhile_cons, hp]
    simp
  rw [h1, List.length_take]
  omega
theorem tw_self (p : UInt8 → Bool) : ∀ l : List UInt8, l.all p = true → l.takeWhile p = l
  | [], _ => rfl
  | c :: r, h => by
    rw [List.all_cons, Bool.and_eq_true] at h
    rw [List.takeWhile_cons, h.1, if_pos rfl, tw_self p r h.2]
theorem tw_all (p : UInt8 → Bool) (l : List UInt8) (h : l.all p = true) : (l.takeWhile p).length = l.length := by
  have e := tw_self p l h
  rw [e]
theorem take_all_step (p : UInt8 → Bool) (l : List UInt8) (k : Nat) (h : k < l.length) (hk : (l.take k).all p = true) (hp : p l[k] = true) : (l.take (k + 1)).all p = true := by
  rw [List.take_succ_eq_append_getElem h, List.all_append, hk]
  simp [hp]
set_option maxHeartbeats 1000000 in
theorem run_dig (s : ByteArray) (w : World) (hs : s.size ≤ 1000000000) :
    Calls Tryz.prog 192 #[.string s, .func (.func 188) #[] #[]] w fun e w' => e = .returned (.int .i64 (s.data.toList.takeWhile Rf.digB).length) ∧ w' = w := by
  go_enter Tryz.func192, Tryz.ntmps192
  go_wp2
  go_loop [8] (fun i => ∃ k : Nat, k ≤ s.size ∧ i = .int .i64 k ∧ Hid ((s.data.toList.take k).all Rf.digB = true)) (fun i => s.size - (intOf i).toNat)
  case atStart => exact ⟨0, Nat.zero_le _, rfl, rfl⟩
  case round =>
    obtain ⟨k, hk, rfl, HE⟩ := hrel
    by_cases hlt : k < s.size
    · have hI := IsDigit_z s[k]
      cases hx : Rf.digB s[k]
      · have HN : Hid ((s.data.toList.takeWhile Rf.digB).length = k) := tw_stop _ _ k hlt HE.out hx
        go_wp2_with (go_at_call 188; refine (hI _).mono ?_; rintro e w1 ⟨rfl, hw⟩; rw [hw]; clear hw)
        go_ret
        exact ⟨ret_int (by rw [HN.out]), rfl⟩
      · have HN : Hid ((s.data.toList.take (k + 1)).all Rf.digB = true) := take_all_step _ _ k hlt HE.out hx
        go_wp2_with (go_at_call 188; refine (hI _).mono ?_; rintro e w1 ⟨rfl, hw⟩; rw [hw]; clear hw)
        go_round
        case rel => exact ⟨k + 1, by omega, by go_num, HN⟩
        case measure => simp [intOf]; omega
    · have HN : Hid ((s.data.toList.takeWhile Rf.digB).length = s.size) := by
        have h := HE.out
        rw [take_all s k (by omega)] at h
        show _ = _
        rw [tw_all _ _ h]
        rfl
      go_wp2
      go_ret
      exact ⟨ret_int (by rw [HN.out]), rfl⟩
set_option maxHeartbeats 1000000 in
theorem run_hex (s : ByteArray) (w : World) (hs : s.size ≤ 1000000000) :
    Calls Tryz.prog 192 #[.string s, .func (.func 190) #[] #[]] w fun e w' => e = .returned (.int .i64 (s.data.toList.takeWhile Rf.hexB).length) ∧ w' = w := by
  go_enter Tryz.func192, Tryz.ntmps192
  go_wp2
  go_loop [8] (fun i => ∃ k : Nat, k ≤ s.size ∧ i = .int .i64 k ∧ Hid ((s.data.toList.take k).all Rf.hexB = true)) (fun i => s.size - (intOf i).toNat)
  case atStart => exact ⟨0, Nat.zero_le _, rfl, rfl⟩
  case round =>
    obtain ⟨k, hk, rfl, HE⟩ := hrel
    by_cases hlt : k < s.size
    · have hI := isHexDigit_any s[k]
      cases hx : Rf.hexB s[k]
      · have HN : Hid ((s.data.toList.takeWhile Rf.hexB).length = k) := tw_stop _ _ k hlt HE.out hx
        go_wp2_with (go_at_call 190; refine (hI _).mono ?_; rintro e w1 ⟨rfl, hw⟩; rw [hw]; clear hw)
        go_ret
        exact ⟨ret_int (by rw [HN.out]), rfl⟩
      · have HN : Hid ((s.data.toList.take (k + 1)).all Rf.hexB = true) := take_all_step _ _ k hlt HE.out hx
        go_wp2_with (go_at_call 190; refine (hI _).mono ?_; rintro e w1 ⟨rfl, hw⟩; rw [hw]; clear hw)
        go_round
        case rel => exact ⟨k + 1, by omega, by go_num, HN⟩
        case measure => simp [intOf]; omega
    · have HN : Hid ((s.data.toList.takeWhile Rf.hexB).length = s.size) := by
        have h := HE.out
        rw [take_all s k (by omega)] at h
        show _ = _
        rw [tw_all _ _ h]
        rfl
      go_wp2
      go_ret
      exact ⟨ret_int (by rw [HN.out]), rfl⟩
set_option maxHeartbeats 1000000 in
theorem run_name (s : ByteArray) (w : World) (hs : s.size ≤ 1000000000) :
    Calls Tryz.prog 192 #[.string s, .func (.func 194) #[] #[]] w fun e w' => e = .returned (.int .i64 (s.data.toList.takeWhile Rf.ofName).length) ∧ w' = w := by
  go_enter Tryz.func192, Tryz.ntmps192
  go_wp2
  go_loop [8] (fun i => ∃ k : Nat, k ≤ s.size ∧ i = .int .i64 k ∧ Hid ((s.data.toList.take k).all Rf.ofName = true)) (fun i => s.size - (intOf i).toNat)
  case atStart => exact ⟨0, Nat.zero_le _, rfl, rfl⟩
  case round =>
    obtain ⟨k, hk, rfl, HE⟩ := hrel
    by_cases hlt : k < s.size
    · have hI := isOfName_any s[k]
      cases hx : Rf.ofName s[k]
      · have HN : Hid ((s.data.toList.takeWhile Rf.ofName).length = k) := tw_stop _ _ k hlt HE.out hx
        go_wp2_with (go_at_call 194; refine (hI _).mono ?_; rintro e w1 ⟨rfl, hw⟩; rw [hw]; clear hw)
        go_ret
        exact ⟨ret_int (by rw [HN.out]), rfl⟩
      · have HN : Hid ((s.data.toList.take (k + 1)).all Rf.ofName = true) := take_all_step _ _ k hlt HE.out hx
        go_wp2_with (go_at_call 194; refine (hI _).mono ?_; rintro e w1 ⟨rfl, hw⟩; rw [hw]; clear hw)
        go_round
        case rel => exact ⟨k + 1, by omega, by go_num, HN⟩
        case measure => simp [intOf]; omega
    · have HN : Hid ((s.data.toList.takeWhile Rf.ofName).length = s.size) := by
        have h := HE.out
        rw [take_all s k (by omega)] at h
        show _ = _
        rw [tw_all _ _ h]
        rfl
      go_wp2
      go_ret
      exact ⟨ret_int (by rw [HN.out]), rfl⟩
theorem numErr_is (l : List UInt8) (m : Int) : Asc.numErr l m = 0 ∨ Asc.numErr l m = 3 ∨ Asc.numErr l m = 5 := by
  unfold Asc.numErr
  repeat' split
  all_goals omega
theorem hexErr_is (l : List UInt8) : Asc.hexErr l = 0 ∨ Asc.hexErr l = 3 ∨ Asc.hexErr l = 5 := by
  unfold Asc.hexErr
  repeat' split
  all_goals omega
theorem numFold_bd (m : Int) : ∀ (l : List UInt8) (n x : Int), Asc.allDig l = true → 0 ≤ n → n ≤ m → Asc.numFold m n l = some x → 0 ≤ x ∧ x ≤ m
  | [], n, x, _, h0, h1, h => by
    rw [Asc.numFold] at h
    cases h
    exact ⟨h0, h1⟩
  | c :: r, n, x, ha, h0, h1, h => by
    have hc := Asc.allDig_at (c :: r) 0 (by simp) ha
    have hc' : 48 ≤ Asc.bt c ∧ Asc.bt c ≤ 57 := hc
    have hr : Asc.allDig r = true := by
      unfold Asc.allDig at *
      rw [List.all_cons, Bool.and_eq_true] at ha
      exact ha.2
    rw [Asc.numFold] at h
    split at h
    · cases h
    · exact numFold_bd m r _ x hr (by omega) (by omega) h
theorem numNum_bd (l : List UInt8) : 0 ≤ Asc.numNum l 4294967295 ∧ Asc.numNum l 4294967295 ≤ 4294967295 := by
  cases hf : Asc.digForm l
  · rw [(Asc.num_form l _ hf).1]; omega
  · cases e : Asc.numFold 4294967295 0 l with
    | none => rw [(Asc.num_many l _ hf (by omega) e).1]; omega
    | some x =>
      rw [(Asc.num_ok l _ x hf (by omega) e).1]
      exact numFold_bd _ l 0 x (Asc.digForm_all l hf) (by omega) (by omega) e
set_option maxHeartbeats 400000 in
theorem decimal_any (s : ByteArray) (w : World) (hs : s.size ≤ 1000000000) :
    Calls Tryz.prog 189 #[.string s] w fun e w' => e = .returned (.int .u32 (Rf.decCap s.data.toList)) ∧ w' = w := by
  have hI := Number_any s 4294967295
  have hb := numNum_bd s.data.toList
  have HD : Hid (Rf.decCap s.data.toList = if Asc.numErr s.data.toList 4294967295 = 0 then Asc.numNum s.data.toList 4294967295 else 4294967295) := rfl
  rcases numErr_is s.data.toList 4294967295 with h | h | h
  all_goals
    rw [h] at hI
    have HE : Hid (Asc.numErr s.data.toList 4294967295 = _) := h
    clear h
    generalize Asc.numNum s.data.toList 4294967295 = x at hb hI HD
    obtain ⟨hb0, hb1⟩ := hb
    go_enter Tryz.func189, Tryz.ntmps189
    go_wp2_with (go_at_call 199; refine (hI _ hs (by omega)).mono ?_; rintro e w1 ⟨rfl, hw⟩; rw [hw]; clear hw)
    go_ret
    refine ⟨ret_int ?_, rfl⟩
    rw [HD.out, HE.out]
    simp
  all_goals omega
set_option maxHeartbeats 400000 in
theorem hexadecimal_any (s : ByteArray) (w : World) (hs : s.size ≤ 1000000000) :
    Calls Tryz.prog 191 #[.string s] w fun e w' => e = .returned (.int .u32 (Rf.hexCap s.data.toList)) ∧ w' = w := by
  have hI := Hex_any s
  have HD : Hid (Rf.hexCap s.data.toList = if Asc.hexErr s.data.toList = 0 then Asc.hexNum s.data.toList else 4294967295) := rfl
  rcases hexErr_is s.data.toList with h | h | h
  all_goals
    rw [h] at hI
    have HE : Hid (Asc.hexErr s.data.toList = _) := h
    clear h
    generalize Asc.hexNum s.data.toList = x at hI HD
    go_enter Tryz.func191, Tryz.ntmps191
    go_wp2_with (go_at_call 200; refine (hI _ hs).mono ?_; rintro e w1 ⟨rfl, hw⟩; rw [hw]; clear hw)
    go_ret
    refine ⟨ret_int ?_, rfl⟩
    rw [HD.out, HE.out]
    simp
set_option maxHeartbeats 400000 in
theorem goesOn_any (l : List UInt8) (w : World) :
    Calls Tryz.prog 197 #[.string (str l)] w fun e w' => e = .returned (.bool (Rf.goesOn l)) ∧ w' = w := by
  have hz := str_size l
  cases l with
  | nil =>
    have hne : ((str ([] : List UInt8)).toList.isEmpty) = true := by rw [str_list]; rfl
    go_enter Tryz.func197, Tryz.ntmps197
    go_wp2
    go_ret
    exact ⟨rfl, rfl⟩
  | cons c r =>
    have hne : ((str (c :: r)).toList.isEmpty) = false := by rw [str_list]; rfl
    have hI := isOfName_any c
    have HG : Hid (Rf.goesOn (c :: r) = (c == 61 || Rf.ofName c)) := rfl
    by_cases hc : c = 61
    · subst hc
      go_enter Tryz.func197, Tryz.ntmps197
      go_wp2_with (go_at_call 194; refine (hI _).mono ?_; rintro e w1 ⟨rfl, hw⟩; rw [hw]; clear hw)
      go_ret
      exact ⟨rfl, rfl⟩
    · have hn : ((c.toNat : Int) == 61) = false := by
        rw [beq_eq_false_iff_ne]
        intro e
        exact hc (UInt8.toNat_inj.1 (by show c.toNat = 61; omega))
      have hn' : ¬ (c.toNat : Int) = 61 := by simpa using hn
      have HC : Hid ((c == 61) = false) := beq_eq_false_iff_ne.2 hc
      clear hc
      go_enter Tryz.func197, Tryz.ntmps197
      go_wp2_with (go_at_call 194; refine (hI _).mono ?_; rintro e w1 ⟨rfl, hw⟩; rw [hw]; clear hw)
      go_ret
      exact ⟨ret_bool (by rw [HG.out, HC.out]; show ((c.toNat : Int) == 61 || _) = _; rw [hn]), rfl⟩
theorem HasPrefix_l (l p : List UInt8) (w : World) :
    Calls Tryz.prog 127 #[.string (str l), .string (str p)] w fun e w' => e = .returned (.bool (p.isPrefixOf l)) ∧ w' = w := by
  have h := Tryz.strings_HasPrefix (str l) (str p) w
  rw [str_data, str_data] at h
  exact h
theorem CutPrefix_l (l p : List UInt8) (w : World) :
    Calls Tryz.prog 122 #[.string (str l), .string (str p)] w fun e w' => e = .returned (.tuple #[.string (str (if p.isPrefixOf l then l.drop p.length else l)), .bool (p.isPrefixOf l)]) ∧ w' = w := by
  have h := Tryz.strings_CutPrefix (str l) (str p) w
  rw [str_data, str_data] at h
  exact h
end Go.Proofs.YtiodaahncadodaaGreatDoor
