/- Texts laid as one. -/
import Derived.Test.YtiodaahncadodaaGreatDoorKGround
import Derived.Test.YtiodaahncadodaaGreatDoorKRfM
import Derived.Test.YtiodaahncadodaaGreatDoorKAscii
import Derived.Test.YtiodaahncadodaaGreatDoorKShelf
set_option maxRecDepth 100000
set_option maxHeartbeats 4000000
set_option linter.unusedVariables false
set_option linter.unusedSimpArgs false
namespace Go.Proofs.YtiodaahncadodaaGreatDoor
open Go.RowKit
theorem zay {l m : List UInt8} (h : ¬ l = m) : ((str l).toList == m) = false:=by rw [zaE];exact beq_eq_false_iff_ne.2 h
theorem zap {l m : List UInt8} (h : l = m) : ((str l).toList == m) = true:=by rw [zaE,h];exact beq_self_eq_true m
theorem zd4 (l : List UInt8) (w : World) :
  Calls Tryz.prog 196 #[.string (str l)] w fun e w'=>e = .returned (.int .i32 (Rf.zdL Rf.zbj l)) ∧ w' = w:=by
 by_cases h0 : l = [97,109,112]
 ·have HL : Hid (Rf.zdL Rf.zbj l = 38):=by show _ = _;rw [h0];decide +kernel
  have q0:=zap h0
  clear h0
  go_enter Tryz.func196,Tryz.ntmps196
  go_wp2
  go_ret
  exact ⟨zaj HL.out.symm,rfl⟩
 have H0 : Hid (¬ l = [97,109,112]):=h0
 have q0:=zay h0
 clear h0
 by_cases h1 : l = [108,116]
 ·have HL : Hid (Rf.zdL Rf.zbj l = 60):=by show _ = _;rw [h1];decide +kernel
  have q1:=zap h1
  clear h1
  go_enter Tryz.func196,Tryz.ntmps196
  go_wp2
  go_ret
  exact ⟨zaj HL.out.symm,rfl⟩
 have H1 : Hid (¬ l = [108,116]):=h1
 have q1:=zay h1
 clear h1
 by_cases h2 : l = [103,116]
 ·have HL : Hid (Rf.zdL Rf.zbj l = 62):=by show _ = _;rw [h2];decide +kernel
  have q2:=zap h2
  clear h2
  go_enter Tryz.func196,Tryz.ntmps196
  go_wp2
  go_ret
  exact ⟨zaj HL.out.symm,rfl⟩
 have H2 : Hid (¬ l = [103,116]):=h2
 have q2:=zay h2
 clear h2
 by_cases h3 : l = [113,117,111,116]
 ·have HL : Hid (Rf.zdL Rf.zbj l = 34):=by show _ = _;rw [h3];decide +kernel
  have q3:=zap h3
  clear h3
  go_enter Tryz.func196,Tryz.ntmps196
  go_wp2
  go_ret
  exact ⟨zaj HL.out.symm,rfl⟩
 have H3 : Hid (¬ l = [113,117,111,116]):=h3
 have q3:=zay h3
 clear h3
 by_cases h4 : l = [110,98,115,112]
 ·have HL : Hid (Rf.zdL Rf.zbj l = 160):=by show _ = _;rw [h4];decide +kernel
  have q4:=zap h4
  clear h4
  go_enter Tryz.func196,Tryz.ntmps196
  go_wp2
  go_ret
  exact ⟨zaj HL.out.symm,rfl⟩
 have H4 : Hid (¬ l = [110,98,115,112]):=h4
 have q4:=zay h4
 clear h4
 by_cases h5 : l = [99,111,112,121]
 ·have HL : Hid (Rf.zdL Rf.zbj l = 169):=by show _ = _;rw [h5];decide +kernel
  have q5:=zap h5
  clear h5
  go_enter Tryz.func196,Tryz.ntmps196
  go_wp2
  go_ret
  exact ⟨zaj HL.out.symm,rfl⟩
 have H5 : Hid (¬ l = [99,111,112,121]):=h5
 have q5:=zay h5
 clear h5
 by_cases h6 : l = [114,101,103]
 ·have HL : Hid (Rf.zdL Rf.zbj l = 174):=by show _ = _;rw [h6];decide +kernel
  have q6:=zap h6
  clear h6
  go_enter Tryz.func196,Tryz.ntmps196
  go_wp2
  go_ret
  exact ⟨zaj HL.out.symm,rfl⟩
 have H6 : Hid (¬ l = [114,101,103]):=h6
 have q6:=zay h6
 clear h6
 have HL : Hid (Rf.zdL Rf.zbj l = 0):=by
  show _ = _
  unfold Rf.zbj
  simp only [Rf.zdL]
  rw [if_neg H0.out,if_neg H1.out,if_neg H2.out,if_neg H3.out,if_neg H4.out,if_neg H5.out,if_neg H6.out]
 go_enter Tryz.func196,Tryz.ntmps196
 go_wp2
 go_ret
 exact ⟨zaj HL.out.symm,rfl⟩
theorem zif (l : List UInt8) (w : World) :
  Calls Tryz.prog 206 #[.string (str l)] w fun e w'=>e = .returned (.int .i32 (Rf.zdL Rf.zmw l)) ∧ w' = w:=by
 by_cases h0 : l = [97,112,111,115]
 ·have HL : Hid (Rf.zdL Rf.zmw l = 39):=by show _ = _;rw [h0];decide +kernel
  have q0:=zap h0
  clear h0
  go_enter Tryz.func206,Tryz.ntmps206
  go_wp2
  go_ret
  exact ⟨zaj HL.out.symm,rfl⟩
 have H0 : Hid (¬ l = [97,112,111,115]):=h0
 have q0:=zay h0
 clear h0
 by_cases h1 : l = [99,101,110,116]
 ·have HL : Hid (Rf.zdL Rf.zmw l = 162):=by show _ = _;rw [h1];decide +kernel
  have q1:=zap h1
  clear h1
  go_enter Tryz.func206,Tryz.ntmps206
  go_wp2
  go_ret
  exact ⟨zaj HL.out.symm,rfl⟩
 have H1 : Hid (¬ l = [99,101,110,116]):=h1
 have q1:=zay h1
 clear h1
 by_cases h2 : l = [112,111,117,110,100]
 ·have HL : Hid (Rf.zdL Rf.zmw l = 163):=by show _ = _;rw [h2];decide +kernel
  have q2:=zap h2
  clear h2
  go_enter Tryz.func206,Tryz.ntmps206
  go_wp2
  go_ret
  exact ⟨zaj HL.out.symm,rfl⟩
 have H2 : Hid (¬ l = [112,111,117,110,100]):=h2
 have q2:=zay h2
 clear h2
 by_cases h3 : l = [121,101,110]
 ·have HL : Hid (Rf.zdL Rf.zmw l = 165):=by show _ = _;rw [h3];decide +kernel
  have q3:=zap h3
  clear h3
  go_enter Tryz.func206,Tryz.ntmps206
  go_wp2
  go_ret
  exact ⟨zaj HL.out.symm,rfl⟩
 have H3 : Hid (¬ l = [121,101,110]):=h3
 have q3:=zay h3
 clear h3
 by_cases h4 : l = [115,101,99,116]
 ·have HL : Hid (Rf.zdL Rf.zmw l = 167):=by show _ = _;rw [h4];decide +kernel
  have q4:=zap h4
  clear h4
  go_enter Tryz.func206,Tryz.ntmps206
  go_wp2
  go_ret
  exact ⟨zaj HL.out.symm,rfl⟩
 have H4 : Hid (¬ l = [115,101,99,116]):=h4
 have q4:=zay h4
 clear h4
 by_cases h5 : l = [100,101,103]
 ·have HL : Hid (Rf.zdL Rf.zmw l = 176):=by show _ = _;rw [h5];decide +kernel
  have q5:=zap h5
  clear h5
  go_enter Tryz.func206,Tryz.ntmps206
  go_wp2
  go_ret
  exact ⟨zaj HL.out.symm,rfl⟩
 have H5 : Hid (¬ l = [100,101,103]):=h5
 have q5:=zay h5
 clear h5
 by_cases h6 : l = [112,108,117,115,109,110]
 ·have HL : Hid (Rf.zdL Rf.zmw l = 177):=by show _ = _;rw [h6];decide +kernel
  have q6:=zap h6
  clear h6
  go_enter Tryz.func206,Tryz.ntmps206
  go_wp2
  go_ret
  exact ⟨zaj HL.out.symm,rfl⟩
 have H6 : Hid (¬ l = [112,108,117,115,109,110]):=h6
 have q6:=zay h6
 clear h6
 by_cases h7 : l = [112,97,114,97]
 ·have HL : Hid (Rf.zdL Rf.zmw l = 182):=by show _ = _;rw [h7];decide +kernel
  have q7:=zap h7
  clear h7
  go_enter Tryz.func206,Tryz.ntmps206
  go_wp2
  go_ret
  exact ⟨zaj HL.out.symm,rfl⟩
 have H7 : Hid (¬ l = [112,97,114,97]):=h7
 have q7:=zay h7
 clear h7
 by_cases h8 : l = [109,105,100,100,111,116]
 ·have HL : Hid (Rf.zdL Rf.zmw l = 183):=by show _ = _;rw [h8];decide +kernel
  have q8:=zap h8
  clear h8
  go_enter Tryz.func206,Tryz.ntmps206
  go_wp2
  go_ret
  exact ⟨zaj HL.out.symm,rfl⟩
 have H8 : Hid (¬ l = [109,105,100,100,111,116]):=h8
 have q8:=zay h8
 clear h8
 by_cases h9 : l = [108,97,113,117,111]
 ·have HL : Hid (Rf.zdL Rf.zmw l = 171):=by show _ = _;rw [h9];decide +kernel
  have q9:=zap h9
  clear h9
  go_enter Tryz.func206,Tryz.ntmps206
  go_wp2
  go_ret
  exact ⟨zaj HL.out.symm,rfl⟩
 have H9 : Hid (¬ l = [108,97,113,117,111]):=h9
 have q9:=zay h9
 clear h9
 by_cases h10 : l = [114,97,113,117,111]
 ·have HL : Hid (Rf.zdL Rf.zmw l = 187):=by show _ = _;rw [h10];decide +kernel
  have q10:=zap h10
  clear h10
  go_enter Tryz.func206,Tryz.ntmps206
  go_wp2
  go_ret
  exact ⟨zaj HL.out.symm,rfl⟩
 have H10 : Hid (¬ l = [114,97,113,117,111]):=h10
 have q10:=zay h10
 clear h10
 by_cases h11 : l = [102,114,97,99,49,50]
 ·have HL : Hid (Rf.zdL Rf.zmw l = 189):=by show _ = _;rw [h11];decide +kernel
  have q11:=zap h11
  clear h11
  go_enter Tryz.func206,Tryz.ntmps206
  go_wp2
  go_ret
  exact ⟨zaj HL.out.symm,rfl⟩
 have H11 : Hid (¬ l = [102,114,97,99,49,50]):=h11
 have q11:=zay h11
 clear h11
 by_cases h12 : l = [116,105,109,101,115]
 ·have HL : Hid (Rf.zdL Rf.zmw l = 215):=by show _ = _;rw [h12];decide +kernel
  have q12:=zap h12
  clear h12
  go_enter Tryz.func206,Tryz.ntmps206
  go_wp2
  go_ret
  exact ⟨zaj HL.out.symm,rfl⟩
 have H12 : Hid (¬ l = [116,105,109,101,115]):=h12
 have q12:=zay h12
 clear h12
 by_cases h13 : l = [100,105,118,105,100,101]
 ·have HL : Hid (Rf.zdL Rf.zmw l = 247):=by show _ = _;rw [h13];decide +kernel
  have q13:=zap h13
  clear h13
  go_enter Tryz.func206,Tryz.ntmps206
  go_wp2
  go_ret
  exact ⟨zaj HL.out.symm,rfl⟩
 have H13 : Hid (¬ l = [100,105,118,105,100,101]):=h13
 have q13:=zay h13
 clear h13
 have HL : Hid (Rf.zdL Rf.zmw l = 0):=by
  show _ = _
  unfold Rf.zmw
  simp only [Rf.zdL]
  rw [if_neg H0.out,if_neg H1.out,if_neg H2.out,if_neg H3.out,if_neg H4.out,if_neg H5.out,if_neg H6.out,if_neg H7.out,if_neg H8.out,if_neg H9.out,if_neg H10.out,if_neg H11.out,if_neg H12.out,if_neg H13.out]
 go_enter Tryz.func206,Tryz.ntmps206
 go_wp2
 go_ret
 exact ⟨zaj HL.out.symm,rfl⟩
theorem zig (l : List UInt8) (w : World) :
  Calls Tryz.prog 208 #[.string (str l)] w fun e w'=>e = .returned (.int .i32 (Rf.zdL Rf.zmx l)) ∧ w' = w:=by
 by_cases h0 : l = [110,100,97,115,104]
 ·have HL : Hid (Rf.zdL Rf.zmx l = 8211):=by show _ = _;rw [h0];decide +kernel
  have q0:=zap h0
  clear h0
  go_enter Tryz.func208,Tryz.ntmps208
  go_wp2
  go_ret
  exact ⟨zaj HL.out.symm,rfl⟩
 have H0 : Hid (¬ l = [110,100,97,115,104]):=h0
 have q0:=zay h0
 clear h0
 by_cases h1 : l = [109,100,97,115,104]
 ·have HL : Hid (Rf.zdL Rf.zmx l = 8212):=by show _ = _;rw [h1];decide +kernel
  have q1:=zap h1
  clear h1
  go_enter Tryz.func208,Tryz.ntmps208
  go_wp2
  go_ret
  exact ⟨zaj HL.out.symm,rfl⟩
 have H1 : Hid (¬ l = [109,100,97,115,104]):=h1
 have q1:=zay h1
 clear h1
 by_cases h2 : l = [108,115,113,117,111]
 ·have HL : Hid (Rf.zdL Rf.zmx l = 8216):=by show _ = _;rw [h2];decide +kernel
  have q2:=zap h2
  clear h2
  go_enter Tryz.func208,Tryz.ntmps208
  go_wp2
  go_ret
  exact ⟨zaj HL.out.symm,rfl⟩
 have H2 : Hid (¬ l = [108,115,113,117,111]):=h2
 have q2:=zay h2
 clear h2
 by_cases h3 : l = [114,115,113,117,111]
 ·have HL : Hid (Rf.zdL Rf.zmx l = 8217):=by show _ = _;rw [h3];decide +kernel
  have q3:=zap h3
  clear h3
  go_enter Tryz.func208,Tryz.ntmps208
  go_wp2
  go_ret
  exact ⟨zaj HL.out.symm,rfl⟩
 have H3 : Hid (¬ l = [114,115,113,117,111]):=h3
 have q3:=zay h3
 clear h3
 by_cases h4 : l = [108,100,113,117,111]
 ·have HL : Hid (Rf.zdL Rf.zmx l = 8220):=by show _ = _;rw [h4];decide +kernel
  have q4:=zap h4
  clear h4
  go_enter Tryz.func208,Tryz.ntmps208
  go_wp2
  go_ret
  exact ⟨zaj HL.out.symm,rfl⟩
 have H4 : Hid (¬ l = [108,100,113,117,111]):=h4
 have q4:=zay h4
 clear h4
 by_cases h5 : l = [114,100,113,117,111]
 ·have HL : Hid (Rf.zdL Rf.zmx l = 8221):=by show _ = _;rw [h5];decide +kernel
  have q5:=zap h5
  clear h5
  go_enter Tryz.func208,Tryz.ntmps208
  go_wp2
  go_ret
  exact ⟨zaj HL.out.symm,rfl⟩
 have H5 : Hid (¬ l = [114,100,113,117,111]):=h5
 have q5:=zay h5
 clear h5
 by_cases h6 : l = [98,117,108,108]
 ·have HL : Hid (Rf.zdL Rf.zmx l = 8226):=by show _ = _;rw [h6];decide +kernel
  have q6:=zap h6
  clear h6
  go_enter Tryz.func208,Tryz.ntmps208
  go_wp2
  go_ret
  exact ⟨zaj HL.out.symm,rfl⟩
 have H6 : Hid (¬ l = [98,117,108,108]):=h6
 have q6:=zay h6
 clear h6
 by_cases h7 : l = [104,101,108,108,105,112]
 ·have HL : Hid (Rf.zdL Rf.zmx l = 8230):=by show _ = _;rw [h7];decide +kernel
  have q7:=zap h7
  clear h7
  go_enter Tryz.func208,Tryz.ntmps208
  go_wp2
  go_ret
  exact ⟨zaj HL.out.symm,rfl⟩
 have H7 : Hid (¬ l = [104,101,108,108,105,112]):=h7
 have q7:=zay h7
 clear h7
 by_cases h8 : l = [101,117,114,111]
 ·have HL : Hid (Rf.zdL Rf.zmx l = 8364):=by show _ = _;rw [h8];decide +kernel
  have q8:=zap h8
  clear h8
  go_enter Tryz.func208,Tryz.ntmps208
  go_wp2
  go_ret
  exact ⟨zaj HL.out.symm,rfl⟩
 have H8 : Hid (¬ l = [101,117,114,111]):=h8
 have q8:=zay h8
 clear h8
 by_cases h9 : l = [116,114,97,100,101]
 ·have HL : Hid (Rf.zdL Rf.zmx l = 8482):=by show _ = _;rw [h9];decide +kernel
  have q9:=zap h9
  clear h9
  go_enter Tryz.func208,Tryz.ntmps208
  go_wp2
  go_ret
  exact ⟨zaj HL.out.symm,rfl⟩
 have H9 : Hid (¬ l = [116,114,97,100,101]):=h9
 have q9:=zay h9
 clear h9
 by_cases h10 : l = [108,97,114,114]
 ·have HL : Hid (Rf.zdL Rf.zmx l = 8592):=by show _ = _;rw [h10];decide +kernel
  have q10:=zap h10
  clear h10
  go_enter Tryz.func208,Tryz.ntmps208
  go_wp2
  go_ret
  exact ⟨zaj HL.out.symm,rfl⟩
 have H10 : Hid (¬ l = [108,97,114,114]):=h10
 have q10:=zay h10
 clear h10
 by_cases h11 : l = [114,97,114,114]
 ·have HL : Hid (Rf.zdL Rf.zmx l = 8594):=by show _ = _;rw [h11];decide +kernel
  have q11:=zap h11
  clear h11
  go_enter Tryz.func208,Tryz.ntmps208
  go_wp2
  go_ret
  exact ⟨zaj HL.out.symm,rfl⟩
 have H11 : Hid (¬ l = [114,97,114,114]):=h11
 have q11:=zay h11
 clear h11
 by_cases h12 : l = [104,101,97,114,116,115]
 ·have HL : Hid (Rf.zdL Rf.zmx l = 9829):=by show _ = _;rw [h12];decide +kernel
  have q12:=zap h12
  clear h12
  go_enter Tryz.func208,Tryz.ntmps208
  go_wp2
  go_ret
  exact ⟨zaj HL.out.symm,rfl⟩
 have H12 : Hid (¬ l = [104,101,97,114,116,115]):=h12
 have q12:=zay h12
 clear h12
 have HL : Hid (Rf.zdL Rf.zmx l = 0):=by
  show _ = _
  unfold Rf.zmx
  simp only [Rf.zdL]
  rw [if_neg H0.out,if_neg H1.out,if_neg H2.out,if_neg H3.out,if_neg H4.out,if_neg H5.out,if_neg H6.out,if_neg H7.out,if_neg H8.out,if_neg H9.out,if_neg H10.out,if_neg H11.out,if_neg H12.out]
 go_enter Tryz.func208,Tryz.ntmps208
 go_wp2
 go_ret
 exact ⟨zaj HL.out.symm,rfl⟩
theorem zgs (l : List UInt8) (w : World) :
  Calls Tryz.prog 207 #[.string (str l)] w fun e w'=>e = .returned (.int .i32 (Rf.zdL Rf.zfv l)) ∧ w' = w:=by
 by_cases h0 : l = [97,103,114,97,118,101]
 ·have HL : Hid (Rf.zdL Rf.zfv l = 224):=by show _ = _;rw [h0];decide +kernel
  have q0:=zap h0
  clear h0
  go_enter Tryz.func207,Tryz.ntmps207
  go_wp2
  go_ret
  exact ⟨zaj HL.out.symm,rfl⟩
 have H0 : Hid (¬ l = [97,103,114,97,118,101]):=h0
 have q0:=zay h0
 clear h0
 by_cases h1 : l = [97,97,99,117,116,101]
 ·have HL : Hid (Rf.zdL Rf.zfv l = 225):=by show _ = _;rw [h1];decide +kernel
  have q1:=zap h1
  clear h1
  go_enter Tryz.func207,Tryz.ntmps207
  go_wp2
  go_ret
  exact ⟨zaj HL.out.symm,rfl⟩
 have H1 : Hid (¬ l = [97,97,99,117,116,101]):=h1
 have q1:=zay h1
 clear h1
 by_cases h2 : l = [97,99,105,114,99]
 ·have HL : Hid (Rf.zdL Rf.zfv l = 226):=by show _ = _;rw [h2];decide +kernel
  have q2:=zap h2
  clear h2
  go_enter Tryz.func207,Tryz.ntmps207
  go_wp2
  go_ret
  exact ⟨zaj HL.out.symm,rfl⟩
 have H2 : Hid (¬ l = [97,99,105,114,99]):=h2
 have q2:=zay h2
 clear h2
 by_cases h3 : l = [97,117,109,108]
 ·have HL : Hid (Rf.zdL Rf.zfv l = 228):=by show _ = _;rw [h3];decide +kernel
  have q3:=zap h3
  clear h3
  go_enter Tryz.func207,Tryz.ntmps207
  go_wp2
  go_ret
  exact ⟨zaj HL.out.symm,rfl⟩
 have H3 : Hid (¬ l = [97,117,109,108]):=h3
 have q3:=zay h3
 clear h3
 by_cases h4 : l = [97,114,105,110,103]
 ·have HL : Hid (Rf.zdL Rf.zfv l = 229):=by show _ = _;rw [h4];decide +kernel
  have q4:=zap h4
  clear h4
  go_enter Tryz.func207,Tryz.ntmps207
  go_wp2
  go_ret
  exact ⟨zaj HL.out.symm,rfl⟩
 have H4 : Hid (¬ l = [97,114,105,110,103]):=h4
 have q4:=zay h4
 clear h4
 by_cases h5 : l = [97,101,108,105,103]
 ·have HL : Hid (Rf.zdL Rf.zfv l = 230):=by show _ = _;rw [h5];decide +kernel
  have q5:=zap h5
  clear h5
  go_enter Tryz.func207,Tryz.ntmps207
  go_wp2
  go_ret
  exact ⟨zaj HL.out.symm,rfl⟩
 have H5 : Hid (¬ l = [97,101,108,105,103]):=h5
 have q5:=zay h5
 clear h5
 by_cases h6 : l = [99,99,101,100,105,108]
 ·have HL : Hid (Rf.zdL Rf.zfv l = 231):=by show _ = _;rw [h6];decide +kernel
  have q6:=zap h6
  clear h6
  go_enter Tryz.func207,Tryz.ntmps207
  go_wp2
  go_ret
  exact ⟨zaj HL.out.symm,rfl⟩
 have H6 : Hid (¬ l = [99,99,101,100,105,108]):=h6
 have q6:=zay h6
 clear h6
 by_cases h7 : l = [101,103,114,97,118,101]
 ·have HL : Hid (Rf.zdL Rf.zfv l = 232):=by show _ = _;rw [h7];decide +kernel
  have q7:=zap h7
  clear h7
  go_enter Tryz.func207,Tryz.ntmps207
  go_wp2
  go_ret
  exact ⟨zaj HL.out.symm,rfl⟩
 have H7 : Hid (¬ l = [101,103,114,97,118,101]):=h7
 have q7:=zay h7
 clear h7
 by_cases h8 : l = [101,97,99,117,116,101]
 ·have HL : Hid (Rf.zdL Rf.zfv l = 233):=by show _ = _;rw [h8];decide +kernel
  have q8:=zap h8
  clear h8
  go_enter Tryz.func207,Tryz.ntmps207
  go_wp2
  go_ret
  exact ⟨zaj HL.out.symm,rfl⟩
 have H8 : Hid (¬ l = [101,97,99,117,116,101]):=h8
 have q8:=zay h8
 clear h8
 by_cases h9 : l = [101,99,105,114,99]
 ·have HL : Hid (Rf.zdL Rf.zfv l = 234):=by show _ = _;rw [h9];decide +kernel
  have q9:=zap h9
  clear h9
  go_enter Tryz.func207,Tryz.ntmps207
  go_wp2
  go_ret
  exact ⟨zaj HL.out.symm,rfl⟩
 have H9 : Hid (¬ l = [101,99,105,114,99]):=h9
 have q9:=zay h9
 clear h9
 by_cases h10 : l = [105,97,99,117,116,101]
 ·have HL : Hid (Rf.zdL Rf.zfv l = 237):=by show _ = _;rw [h10];decide +kernel
  have q10:=zap h10
  clear h10
  go_enter Tryz.func207,Tryz.ntmps207
  go_wp2
  go_ret
  exact ⟨zaj HL.out.symm,rfl⟩
 have H10 : Hid (¬ l = [105,97,99,117,116,101]):=h10
 have q10:=zay h10
 clear h10
 by_cases h11 : l = [110,116,105,108,100,101]
 ·have HL : Hid (Rf.zdL Rf.zfv l = 241):=by show _ = _;rw [h11];decide +kernel
  have q11:=zap h11
  clear h11
  go_enter Tryz.func207,Tryz.ntmps207
  go_wp2
  go_ret
  exact ⟨zaj HL.out.symm,rfl⟩
 have H11 : Hid (¬ l = [110,116,105,108,100,101]):=h11
 have q11:=zay h11
 clear h11
 by_cases h12 : l = [111,97,99,117,116,101]
 ·have HL : Hid (Rf.zdL Rf.zfv l = 243):=by show _ = _;rw [h12];decide +kernel
  have q12:=zap h12
  clear h12
  go_enter Tryz.func207,Tryz.ntmps207
  go_wp2
  go_ret
  exact ⟨zaj HL.out.symm,rfl⟩
 have H12 : Hid (¬ l = [111,97,99,117,116,101]):=h12
 have q12:=zay h12
 clear h12
 by_cases h13 : l = [111,117,109,108]
 ·have HL : Hid (Rf.zdL Rf.zfv l = 246):=by show _ = _;rw [h13];decide +kernel
  have q13:=zap h13
  clear h13
  go_enter Tryz.func207,Tryz.ntmps207
  go_wp2
  go_ret
  exact ⟨zaj HL.out.symm,rfl⟩
 have H13 : Hid (¬ l = [111,117,109,108]):=h13
 have q13:=zay h13
 clear h13
 by_cases h14 : l = [111,115,108,97,115,104]
 ·have HL : Hid (Rf.zdL Rf.zfv l = 248):=by show _ = _;rw [h14];decide +kernel
  have q14:=zap h14
  clear h14
  go_enter Tryz.func207,Tryz.ntmps207
  go_wp2
  go_ret
  exact ⟨zaj HL.out.symm,rfl⟩
 have H14 : Hid (¬ l = [111,115,108,97,115,104]):=h14
 have q14:=zay h14
 clear h14
 by_cases h15 : l = [117,97,99,117,116,101]
 ·have HL : Hid (Rf.zdL Rf.zfv l = 250):=by show _ = _;rw [h15];decide +kernel
  have q15:=zap h15
  clear h15
  go_enter Tryz.func207,Tryz.ntmps207
  go_wp2
  go_ret
  exact ⟨zaj HL.out.symm,rfl⟩
 have H15 : Hid (¬ l = [117,97,99,117,116,101]):=h15
 have q15:=zay h15
 clear h15
 by_cases h16 : l = [117,117,109,108]
 ·have HL : Hid (Rf.zdL Rf.zfv l = 252):=by show _ = _;rw [h16];decide +kernel
  have q16:=zap h16
  clear h16
  go_enter Tryz.func207,Tryz.ntmps207
  go_wp2
  go_ret
  exact ⟨zaj HL.out.symm,rfl⟩
 have H16 : Hid (¬ l = [117,117,109,108]):=h16
 have q16:=zay h16
 clear h16
 by_cases h17 : l = [115,122,108,105,103]
 ·have HL : Hid (Rf.zdL Rf.zfv l = 223):=by show _ = _;rw [h17];decide +kernel
  have q17:=zap h17
  clear h17
  go_enter Tryz.func207,Tryz.ntmps207
  go_wp2
  go_ret
  exact ⟨zaj HL.out.symm,rfl⟩
 have H17 : Hid (¬ l = [115,122,108,105,103]):=h17
 have q17:=zay h17
 clear h17
 by_cases h18 : l = [65,117,109,108]
 ·have HL : Hid (Rf.zdL Rf.zfv l = 196):=by show _ = _;rw [h18];decide +kernel
  have q18:=zap h18
  clear h18
  go_enter Tryz.func207,Tryz.ntmps207
  go_wp2
  go_ret
  exact ⟨zaj HL.out.symm,rfl⟩
 have H18 : Hid (¬ l = [65,117,109,108]):=h18
 have q18:=zay h18
 clear h18
 by_cases h19 : l = [79,117,109,108]
 ·have HL : Hid (Rf.zdL Rf.zfv l = 214):=by show _ = _;rw [h19];decide +kernel
  have q19:=zap h19
  clear h19
  go_enter Tryz.func207,Tryz.ntmps207
  go_wp2
  go_ret
  exact ⟨zaj HL.out.symm,rfl⟩
 have H19 : Hid (¬ l = [79,117,109,108]):=h19
 have q19:=zay h19
 clear h19
 by_cases h20 : l = [85,117,109,108]
 ·have HL : Hid (Rf.zdL Rf.zfv l = 220):=by show _ = _;rw [h20];decide +kernel
  have q20:=zap h20
  clear h20
  go_enter Tryz.func207,Tryz.ntmps207
  go_wp2
  go_ret
  exact ⟨zaj HL.out.symm,rfl⟩
 have H20 : Hid (¬ l = [85,117,109,108]):=h20
 have q20:=zay h20
 clear h20
 by_cases h21 : l = [69,97,99,117,116,101]
 ·have HL : Hid (Rf.zdL Rf.zfv l = 201):=by show _ = _;rw [h21];decide +kernel
  have q21:=zap h21
  clear h21
  go_enter Tryz.func207,Tryz.ntmps207
  go_wp2
  go_ret
  exact ⟨zaj HL.out.symm,rfl⟩
 have H21 : Hid (¬ l = [69,97,99,117,116,101]):=h21
 have q21:=zay h21
 clear h21
 have HL : Hid (Rf.zdL Rf.zfv l = 0):=by
  show _ = _
  unfold Rf.zfv
  simp only [Rf.zdL]
  rw [if_neg H0.out,if_neg H1.out,if_neg H2.out,if_neg H3.out,if_neg H4.out,if_neg H5.out,if_neg H6.out,if_neg H7.out,if_neg H8.out,if_neg H9.out,if_neg H10.out,if_neg H11.out,if_neg H12.out,if_neg H13.out,if_neg H14.out,if_neg H15.out,if_neg H16.out,if_neg H17.out,if_neg H18.out,if_neg H19.out,if_neg H20.out,if_neg H21.out]
 go_enter Tryz.func207,Tryz.ntmps207
 go_wp2
 go_ret
 exact ⟨zaj HL.out.symm,rfl⟩
theorem zeB (c : UInt8) (w : World) :
  Calls Tryz.prog 123 #[.int .u8 c.toNat] w fun e w'=>e = .returned (.bool (Rf.letZ (Asc.bt c))) ∧ w' = w:=zlk _ _
theorem zd5 (c : UInt8) (w : World) :
  Calls Tryz.prog 188 #[.int .u8 c.toNat] w fun e w'=>e = .returned (.bool (Rf.zmA c)) ∧ w' = w:=zh8 _ _
theorem zeU (c : UInt8) (w : World) :
  Calls Tryz.prog 194 #[.int .u8 c.toNat] w fun e w'=>e = .returned (.bool (Rf.ofName c)) ∧ w' = w:=by
 have HN : Hid (Rf.ofName c = (Rf.letZ (Asc.bt c) || Rf.zmA c)):=rfl
 cases hx : Rf.letZ (Asc.bt c)
 ·go_enter Tryz.func194,Tryz.ntmps194
  go_wp2_with (first
   | (go_at_call 123;refine (zeB c _).mono ?_;rintro e w1 ⟨rfl,hw⟩;rw [hw];clear hw)
   | (go_at_call 188;refine (zd5 c _).mono ?_;rintro e w1 ⟨rfl,hw⟩;rw [hw];clear hw))
  go_ret
  exact ⟨zac (by rw [HN.out,hx];rfl),rfl⟩
 ·go_enter Tryz.func194,Tryz.ntmps194
  go_wp2_with (first
   | (go_at_call 123;refine (zeB c _).mono ?_;rintro e w1 ⟨rfl,hw⟩;rw [hw];clear hw)
   | (go_at_call 188;refine (zd5 c _).mono ?_;rintro e w1 ⟨rfl,hw⟩;rw [hw];clear hw))
  go_ret
  exact ⟨zac (by rw [HN.out,hx];rfl),rfl⟩
theorem hexB_n (c : UInt8) (n : Int) (h : (c.toNat : Int) = n) : Rf.hexB c = Asc.zfp n:=by unfold Rf.hexB Asc.bt;rw [h]
theorem digB_n (c : UInt8) (n : Int) (h : (c.toNat : Int) = n) : Rf.zmA c = Asc.zhj n:=by unfold Rf.zmA Asc.bt;rw [h]
theorem zgt (c : UInt8) (w : World) :
  Calls Tryz.prog 190 #[.int .u8 c.toNat] w fun e w'=>e = .returned (.bool (Rf.hexB c)) ∧ w' = w:=by
 have hb:=zcY c
 have hI:=zd5 c
 rw [hexB_n c _ rfl]
 rw [digB_n c _ rfl] at hI
 generalize (c.toNat : Int) = n at hb hI
 obtain ⟨hb0,hb1⟩:=hb
 rcases (show n < 48 ∨ (48 ≤ n ∧ n ≤ 57) ∨ (57 < n ∧ n < 65) ∨ (65 ≤ n ∧ n ≤ 70) ∨ (70 < n ∧ n < 97) ∨ (97 ≤ n ∧ n ≤ 102) ∨ 102 < n from by omega) with h | h | h | h | h | h | h
 ·have hd : Asc.zhj n = false:=decide_eq_false (by omega)
  have HV : Hid (Asc.zfp n = false):=by
   show _ = _
   unfold Asc.zfp
   simp only [ne_eq,Bool.or_eq_true,Bool.or_eq_false_iff,decide_eq_true_eq,decide_eq_false_iff_not]
   omega
  go_enter Tryz.func190,Tryz.ntmps190
  go_wp2_with (go_at_call 188;refine (hI _).mono ?_;rintro e w1 ⟨rfl,hw⟩;rw [hw];clear hw)
  go_ret
  exact ⟨zac (by first | exact HV.out.symm | (rw [HV.out];simp;omega)),rfl⟩
 ·have hd : Asc.zhj n = true:=decide_eq_true (by omega)
  have HV : Hid (Asc.zfp n = true):=by
   show _ = _
   unfold Asc.zfp
   simp only [ne_eq,Bool.or_eq_true,Bool.or_eq_false_iff,decide_eq_true_eq,decide_eq_false_iff_not]
   omega
  go_enter Tryz.func190,Tryz.ntmps190
  go_wp2_with (go_at_call 188;refine (hI _).mono ?_;rintro e w1 ⟨rfl,hw⟩;rw [hw];clear hw)
  go_ret
  exact ⟨zac (by first | exact HV.out.symm | (rw [HV.out];simp;omega)),rfl⟩
 ·have hd : Asc.zhj n = false:=decide_eq_false (by omega)
  have HV : Hid (Asc.zfp n = false):=by
   show _ = _
   unfold Asc.zfp
   simp only [ne_eq,Bool.or_eq_true,Bool.or_eq_false_iff,decide_eq_true_eq,decide_eq_false_iff_not]
   omega
  go_enter Tryz.func190,Tryz.ntmps190
  go_wp2_with (go_at_call 188;refine (hI _).mono ?_;rintro e w1 ⟨rfl,hw⟩;rw [hw];clear hw)
  go_ret
  exact ⟨zac (by first | exact HV.out.symm | (rw [HV.out];simp;omega)),rfl⟩
 ·have hd : Asc.zhj n = false:=decide_eq_false (by omega)
  have HV : Hid (Asc.zfp n = true):=by
   show _ = _
   unfold Asc.zfp
   simp only [ne_eq,Bool.or_eq_true,Bool.or_eq_false_iff,decide_eq_true_eq,decide_eq_false_iff_not]
   omega
  go_enter Tryz.func190,Tryz.ntmps190
  go_wp2_with (go_at_call 188;refine (hI _).mono ?_;rintro e w1 ⟨rfl,hw⟩;rw [hw];clear hw)
  go_ret
  exact ⟨zac (by first | exact HV.out.symm | (rw [HV.out];simp;omega)),rfl⟩
 ·have hd : Asc.zhj n = false:=decide_eq_false (by omega)
  have HV : Hid (Asc.zfp n = false):=by
   show _ = _
   unfold Asc.zfp
   simp only [ne_eq,Bool.or_eq_true,Bool.or_eq_false_iff,decide_eq_true_eq,decide_eq_false_iff_not]
   omega
  go_enter Tryz.func190,Tryz.ntmps190
  go_wp2_with (go_at_call 188;refine (hI _).mono ?_;rintro e w1 ⟨rfl,hw⟩;rw [hw];clear hw)
  go_ret
  exact ⟨zac (by first | exact HV.out.symm | (rw [HV.out];simp;omega)),rfl⟩
 ·have hd : Asc.zhj n = false:=decide_eq_false (by omega)
  have HV : Hid (Asc.zfp n = true):=by
   show _ = _
   unfold Asc.zfp
   simp only [ne_eq,Bool.or_eq_true,Bool.or_eq_false_iff,decide_eq_true_eq,decide_eq_false_iff_not]
   omega
  go_enter Tryz.func190,Tryz.ntmps190
  go_wp2_with (go_at_call 188;refine (hI _).mono ?_;rintro e w1 ⟨rfl,hw⟩;rw [hw];clear hw)
  go_ret
  exact ⟨zac (by first | exact HV.out.symm | (rw [HV.out];simp;omega)),rfl⟩
 ·have hd : Asc.zhj n = false:=decide_eq_false (by omega)
  have HV : Hid (Asc.zfp n = false):=by
   show _ = _
   unfold Asc.zfp
   simp only [ne_eq,Bool.or_eq_true,Bool.or_eq_false_iff,decide_eq_true_eq,decide_eq_false_iff_not]
   omega
  go_enter Tryz.func190,Tryz.ntmps190
  go_wp2_with (go_at_call 188;refine (hI _).mono ?_;rintro e w1 ⟨rfl,hw⟩;rw [hw];clear hw)
  go_ret
  exact ⟨zac (by first | exact HV.out.symm | (rw [HV.out];simp;omega)),rfl⟩
theorem zb3 (p : UInt8 → Bool) (l : List UInt8) (k : Nat) (h : k < l.length) (hk : (l.take k).all p = true) (hp : p l[k] = false) : (l.takeWhile p).length = k:=by
 have e : l = l.take k ++ l.drop k:=(List.take_append_drop k l).symm
 have hd : l.drop k = l[k] :: l.drop (k + 1):=List.drop_eq_getElem_cons h
 have h1 : l.takeWhile p = l.take k:=by
  conv=>lhs;rw [e]
  rw [List.takeWhile_append_of_pos (fun a ha=>List.all_eq_true.1 hk a ha),hd,List.takeWhile_cons,hp]
  simp
 rw [h1,List.length_take]
 omega
theorem zm9 (p : UInt8 → Bool) : ∀ l : List UInt8,l.all p = true → l.takeWhile p = l
 | [],_=>rfl
 | c :: r,h=>by
  rw [List.all_cons,Bool.and_eq_true] at h
  rw [List.takeWhile_cons,h.1,if_pos rfl,zm9 p r h.2]
theorem zeV (p : UInt8 → Bool) (l : List UInt8) (h : l.all p = true) : (l.takeWhile p).length = l.length:=by
 have e:=zm9 p l h
 rw [e]
theorem za7 (p : UInt8 → Bool) (l : List UInt8) (k : Nat) (h : k < l.length) (hk : (l.take k).all p = true) (hp : p l[k] = true) : (l.take (k + 1)).all p = true:=by
 rw [List.take_succ_eq_append_getElem h,List.all_append,hk]
 simp [hp]
theorem zrP (s : ByteArray) (w : World) (hs : s.size ≤ 1000000000) :
  Calls Tryz.prog 192 #[.string s,.func (.func 188) #[] #[]] w fun e w'=>e = .returned (.int .i64 (s.data.toList.takeWhile Rf.zmA).length) ∧ w' = w:=by
 go_enter Tryz.func192,Tryz.ntmps192
 go_wp2
 go_loop [8] (fun i=>∃ k : Nat,k ≤ s.size ∧ i = .int .i64 k ∧ Hid ((s.data.toList.take k).all Rf.zmA = true)) (fun i=>s.size - (intOf i).toNat)
 case atStart=>exact ⟨0,Nat.zero_le _,rfl,rfl⟩
 case round =>
  obtain ⟨k,hk,rfl,HE⟩:=hrel
  by_cases hlt : k < s.size
  ·have hI:=zd5 s[k]
   cases hx : Rf.zmA s[k]
   ·have HN : Hid ((s.data.toList.takeWhile Rf.zmA).length = k):=zb3 _ _ k hlt HE.out hx
    go_wp2_with (go_at_call 188;refine (hI _).mono ?_;rintro e w1 ⟨rfl,hw⟩;rw [hw];clear hw)
    go_ret
    exact ⟨zaj (by rw [HN.out]),rfl⟩
   ·have HN : Hid ((s.data.toList.take (k + 1)).all Rf.zmA = true):=za7 _ _ k hlt HE.out hx
    go_wp2_with (go_at_call 188;refine (hI _).mono ?_;rintro e w1 ⟨rfl,hw⟩;rw [hw];clear hw)
    go_round
    case rel=>exact ⟨k + 1,by omega,by go_num,HN⟩
    case measure=>simp [intOf];omega
  ·have HN : Hid ((s.data.toList.takeWhile Rf.zmA).length = s.size):=by
    have h:=HE.out
    rw [zb8 s k (by omega)] at h
    show _ = _
    rw [zeV _ _ h]
    rfl
   go_wp2
   go_ret
   exact ⟨zaj (by rw [HN.out]),rfl⟩
theorem zna (s : ByteArray) (w : World) (hs : s.size ≤ 1000000000) :
  Calls Tryz.prog 192 #[.string s,.func (.func 190) #[] #[]] w fun e w'=>e = .returned (.int .i64 (s.data.toList.takeWhile Rf.hexB).length) ∧ w' = w:=by
 go_enter Tryz.func192,Tryz.ntmps192
 go_wp2
 go_loop [8] (fun i=>∃ k : Nat,k ≤ s.size ∧ i = .int .i64 k ∧ Hid ((s.data.toList.take k).all Rf.hexB = true)) (fun i=>s.size - (intOf i).toNat)
 case atStart=>exact ⟨0,Nat.zero_le _,rfl,rfl⟩
 case round =>
  obtain ⟨k,hk,rfl,HE⟩:=hrel
  by_cases hlt : k < s.size
  ·have hI:=zgt s[k]
   cases hx : Rf.hexB s[k]
   ·have HN : Hid ((s.data.toList.takeWhile Rf.hexB).length = k):=zb3 _ _ k hlt HE.out hx
    go_wp2_with (go_at_call 190;refine (hI _).mono ?_;rintro e w1 ⟨rfl,hw⟩;rw [hw];clear hw)
    go_ret
    exact ⟨zaj (by rw [HN.out]),rfl⟩
   ·have HN : Hid ((s.data.toList.take (k + 1)).all Rf.hexB = true):=za7 _ _ k hlt HE.out hx
    go_wp2_with (go_at_call 190;refine (hI _).mono ?_;rintro e w1 ⟨rfl,hw⟩;rw [hw];clear hw)
    go_round
    case rel=>exact ⟨k + 1,by omega,by go_num,HN⟩
    case measure=>simp [intOf];omega
  ·have HN : Hid ((s.data.toList.takeWhile Rf.hexB).length = s.size):=by
    have h:=HE.out
    rw [zb8 s k (by omega)] at h
    show _ = _
    rw [zeV _ _ h]
    rfl
   go_wp2
   go_ret
   exact ⟨zaj (by rw [HN.out]),rfl⟩
theorem zpv (s : ByteArray) (w : World) (hs : s.size ≤ 1000000000) :
  Calls Tryz.prog 192 #[.string s,.func (.func 194) #[] #[]] w fun e w'=>e = .returned (.int .i64 (s.data.toList.takeWhile Rf.ofName).length) ∧ w' = w:=by
 go_enter Tryz.func192,Tryz.ntmps192
 go_wp2
 go_loop [8] (fun i=>∃ k : Nat,k ≤ s.size ∧ i = .int .i64 k ∧ Hid ((s.data.toList.take k).all Rf.ofName = true)) (fun i=>s.size - (intOf i).toNat)
 case atStart=>exact ⟨0,Nat.zero_le _,rfl,rfl⟩
 case round =>
  obtain ⟨k,hk,rfl,HE⟩:=hrel
  by_cases hlt : k < s.size
  ·have hI:=zeU s[k]
   cases hx : Rf.ofName s[k]
   ·have HN : Hid ((s.data.toList.takeWhile Rf.ofName).length = k):=zb3 _ _ k hlt HE.out hx
    go_wp2_with (go_at_call 194;refine (hI _).mono ?_;rintro e w1 ⟨rfl,hw⟩;rw [hw];clear hw)
    go_ret
    exact ⟨zaj (by rw [HN.out]),rfl⟩
   ·have HN : Hid ((s.data.toList.take (k + 1)).all Rf.ofName = true):=za7 _ _ k hlt HE.out hx
    go_wp2_with (go_at_call 194;refine (hI _).mono ?_;rintro e w1 ⟨rfl,hw⟩;rw [hw];clear hw)
    go_round
    case rel=>exact ⟨k + 1,by omega,by go_num,HN⟩
    case measure=>simp [intOf];omega
  ·have HN : Hid ((s.data.toList.takeWhile Rf.ofName).length = s.size):=by
    have h:=HE.out
    rw [zb8 s k (by omega)] at h
    show _ = _
    rw [zeV _ _ h]
    rfl
   go_wp2
   go_ret
   exact ⟨zaj (by rw [HN.out]),rfl⟩
theorem znb (l : List UInt8) (m : Int) : Asc.zdX l m = 0 ∨ Asc.zdX l m = 3 ∨ Asc.zdX l m = 5:=by
 unfold Asc.zdX
 repeat' split
 all_goals omega
theorem znc (l : List UInt8) : Asc.zfr l = 0 ∨ Asc.zfr l = 3 ∨ Asc.zfr l = 5:=by
 unfold Asc.zfr
 repeat' split
 all_goals omega
theorem zgH (m : Int) : ∀ (l : List UInt8) (n x : Int),Asc.zdx l = true → 0 ≤ n → n ≤ m → Asc.zbE m n l = some x → 0 ≤ x ∧ x ≤ m
 | [],n,x,_,h0,h1,h=>by
  rw [Asc.zbE] at h
  cases h
  exact ⟨h0,h1⟩
 | c :: r,n,x,ha,h0,h1,h=>by
  have hc:=Asc.allDig_at (c :: r) 0 (by simp) ha
  have hc' : 48 ≤ Asc.bt c ∧ Asc.bt c ≤ 57:=hc
  have hr : Asc.zdx r = true:=by
   unfold Asc.zdx at *
   rw [List.all_cons,Bool.and_eq_true] at ha
   exact ha.2
  rw [Asc.zbE] at h
  split at h
  ·cases h
  ·exact zgH m r _ x hr (by omega) (by omega) h
theorem znd (l : List UInt8) : 0 ≤ Asc.zdW l 4294967295 ∧ Asc.zdW l 4294967295 ≤ 4294967295:=by
 cases hf : Asc.zcA l
 ·rw [(Asc.num_form l _ hf).1];omega
 ·cases e : Asc.zbE 4294967295 0 l with
  | none=>rw [(Asc.zpe l _ hf (by omega) e).1];omega
  | some x =>
   rw [(Asc.num_ok l _ x hf (by omega) e).1]
   exact zgH _ l 0 x (Asc.zru l hf) (by omega) (by omega) e
theorem zjA (s : ByteArray) (w : World) (hs : s.size ≤ 1000000000) :
  Calls Tryz.prog 189 #[.string s] w fun e w'=>e = .returned (.int .u32 (Rf.zmB s.data.toList)) ∧ w' = w:=by
 have hI:=zlt s 4294967295
 have hb:=znd s.data.toList
 have HD : Hid (Rf.zmB s.data.toList = if Asc.zdX s.data.toList 4294967295 = 0 then Asc.zdW s.data.toList 4294967295 else 4294967295):=rfl
 rcases znb s.data.toList 4294967295 with h | h | h
 all_goals
  rw [h] at hI
  have HE : Hid (Asc.zdX s.data.toList 4294967295 = _):=h
  clear h
  generalize Asc.zdW s.data.toList 4294967295 = x at hb hI HD
  obtain ⟨hb0,hb1⟩:=hb
  go_enter Tryz.func189,Tryz.ntmps189
  go_wp2_with (go_at_call 199;refine (hI _ hs (by omega)).mono ?_;rintro e w1 ⟨rfl,hw⟩;rw [hw];clear hw)
  go_ret
  refine ⟨zaj ?_,rfl⟩
  rw [HD.out,HE.out]
  simp
 all_goals omega
theorem zc5 (s : ByteArray) (w : World) (hs : s.size ≤ 1000000000) :
  Calls Tryz.prog 191 #[.string s] w fun e w'=>e = .returned (.int .u32 (Rf.zmC s.data.toList)) ∧ w' = w:=by
 have hI:=zrv s
 have HD : Hid (Rf.zmC s.data.toList = if Asc.zfr s.data.toList = 0 then Asc.zfq s.data.toList else 4294967295):=rfl
 rcases znc s.data.toList with h | h | h
 all_goals
  rw [h] at hI
  have HE : Hid (Asc.zfr s.data.toList = _):=h
  clear h
  generalize Asc.zfq s.data.toList = x at hI HD
  go_enter Tryz.func191,Tryz.ntmps191
  go_wp2_with (go_at_call 200;refine (hI _ hs).mono ?_;rintro e w1 ⟨rfl,hw⟩;rw [hw];clear hw)
  go_ret
  refine ⟨zaj ?_,rfl⟩
  rw [HD.out,HE.out]
  simp
theorem zlu (l : List UInt8) (w : World) :
  Calls Tryz.prog 197 #[.string (str l)] w fun e w'=>e = .returned (.bool (Rf.zdy l)) ∧ w' = w:=by
 have hz:=zad l
 cases l with
 | nil =>
  have hne : ((str ([] : List UInt8)).toList.isEmpty) = true:=by rw [zaE];rfl
  go_enter Tryz.func197,Tryz.ntmps197
  go_wp2
  go_ret
  exact ⟨rfl,rfl⟩
 | cons c r =>
  have hne : ((str (c :: r)).toList.isEmpty) = false:=by rw [zaE];rfl
  have hI:=zeU c
  have HG : Hid (Rf.zdy (c :: r) = (c == 61 || Rf.ofName c)):=rfl
  by_cases hc : c = 61
  ·subst hc
   go_enter Tryz.func197,Tryz.ntmps197
   go_wp2_with (go_at_call 194;refine (hI _).mono ?_;rintro e w1 ⟨rfl,hw⟩;rw [hw];clear hw)
   go_ret
   exact ⟨rfl,rfl⟩
  ·have hn : ((c.toNat : Int) == 61) = false:=by
    rw [beq_eq_false_iff_ne]
    intro e
    exact hc (UInt8.toNat_inj.1 (by show c.toNat = 61;omega))
   have hn' : ¬ (c.toNat : Int) = 61:=by simpa using hn
   have HC : Hid ((c == 61) = false):=beq_eq_false_iff_ne.2 hc
   clear hc
   go_enter Tryz.func197,Tryz.ntmps197
   go_wp2_with (go_at_call 194;refine (hI _).mono ?_;rintro e w1 ⟨rfl,hw⟩;rw [hw];clear hw)
   go_ret
   exact ⟨zac (by rw [HG.out,HC.out];show ((c.toNat : Int) == 61 || _) = _;rw [hn]),rfl⟩
theorem zaQ (l p : List UInt8) (w : World) :
  Calls Tryz.prog 127 #[.string (str l),.string (str p)] w fun e w'=>e = .returned (.bool (p.isPrefixOf l)) ∧ w' = w:=by
 have h:=Tryz.strings_HasPrefix (str l) (str p) w
 rw [zam,zam] at h
 exact h
theorem zcJ (l p : List UInt8) (w : World) :
  Calls Tryz.prog 122 #[.string (str l),.string (str p)] w fun e w'=>e = .returned (.tuple #[.string (str (if p.isPrefixOf l then l.drop p.length else l)),.bool (p.isPrefixOf l)]) ∧ w' = w:=by
 have h:=Tryz.strings_CutPrefix (str l) (str p) w
 rw [zam,zam] at h
 exact h
end Go.Proofs.YtiodaahncadodaaGreatDoor
