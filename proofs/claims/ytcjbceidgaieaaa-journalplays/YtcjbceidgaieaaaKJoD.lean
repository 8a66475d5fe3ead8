/- The contract of the document's Snapshot. -/
import Derived.Test.YtcjbceidgaieaaaKJoC
set_option linter.unusedVariables false
set_option linter.unusedSimpArgs false
namespace Go.Proofs.Ytcjbceidgaieaaa
open Go.RowKit
set_option maxHeartbeats 4000000 in
set_option maxRecDepth 100000 in
theorem RSnap_stateYes {W : World} {P : Nat → Prop} {kb rb : Nat} {d : Dk.D} {gs : List (List UInt8)} (h : RK W P kb rb d gs) (hg : gs ≠ []) {v : Value} {rs : List (List UInt8)} (hv : RBs W v rs) (hz : ∀ r ∈ rs, r.length ≤ maxLen) (hn : rs.length ≤ 1000) (ha : Jn.All rs) :
    Calls Try.prog 49 #[ptr kb 0, v] W (RKPost W P kb rb (13, d, gs)) := by
  have C1 := Rframes_yes hv hz hn ha
  obtain ⟨va, vc, rfl⟩ := hv.form
  have hgl := Jn.frames_length gs
  have hgs := h.small
  have hg0 : gs.length ≠ 0 := fun hx => hg (List.eq_nil_of_length_eq_zero hx)
  have HH := hide9 h
  clear h hv hz ha hg
  go_enter Try.func49, Try.ntmps49
  go_wp2_with (go_at_call 73; refine C1.mono ?_; rintro e w1 ⟨L, a1, c1, HL, rfl, ho1, hB1⟩; obtain ⟨-, d2, -, -, -, -, -⟩ := (HH.out.below hB1).cells (n := (Jn.frames gs).length) (by exact (rfl : _ = _)); clear C1)
  go_ret
  exact RKPost.same HH.out hB1
set_option maxHeartbeats 4000000 in
set_option maxRecDepth 100000 in
theorem RSnap_stateNo {W : World} {P : Nat → Prop} {kb rb : Nat} {d : Dk.D} {gs : List (List UInt8)} (h : RK W P kb rb d gs) (hg : gs ≠ []) {v : Value} {rs : List (List UInt8)} (hv : RBs W v rs) (hz : ∀ r ∈ rs, r.length ≤ maxLen) (hn : rs.length ≤ 1000) (ha : ¬ Jn.All rs) :
    Calls Try.prog 49 #[ptr kb 0, v] W (RKPost W P kb rb (13, d, gs)) := by
  have C1 := Rframes_no hv hz hn ha
  obtain ⟨va, vc, rfl⟩ := hv.form
  have hgl := Jn.frames_length gs
  have hgs := h.small
  have hg0 : gs.length ≠ 0 := fun hx => hg (List.eq_nil_of_length_eq_zero hx)
  have HH := hide9 h
  clear h hv hz ha hg
  go_enter Try.func49, Try.ntmps49
  go_wp2_with (go_at_call 73; refine C1.mono ?_; rintro e w1 ⟨rfl, hB1⟩; obtain ⟨-, d2, -, -, -, -, -⟩ := (HH.out.below hB1).cells (n := (Jn.frames gs).length) (by exact (rfl : _ = _)); clear C1)
  go_ret
  exact RKPost.same HH.out hB1
set_option maxHeartbeats 4000000 in
set_option maxRecDepth 100000 in
theorem RSnap_arg {W : World} {P : Nat → Prop} {kb rb : Nat} {d : Dk.D} (h : RK W P kb rb d []) {v : Value} {rs : List (List UInt8)} (hv : RBs W v rs) (hz : ∀ r ∈ rs, r.length ≤ maxLen) (hn : rs.length ≤ 1000) (ha : ¬ Jn.All rs) :
    Calls Try.prog 49 #[ptr kb 0, v] W (RKPost W P kb rb (1, d, [])) := by
  have C1 := Rframes_no hv hz hn ha
  obtain ⟨va, vc, rfl⟩ := hv.form
  have HH := hide9 h
  clear h hv hz ha
  go_enter Try.func49, Try.ntmps49
  go_wp2_with (go_at_call 73; refine C1.mono ?_; rintro e w1 ⟨rfl, hB1⟩; have d2 : w1.cell? ⟨kb, 2, none⟩ = some (.int .i64 0) := ((HH.out.below hB1).cells (n := 0) (by exact (rfl : _ = _))).2.1; clear C1)
  go_ret
  exact RKPost.same HH.out hB1
set_option maxHeartbeats 4000000 in
set_option maxRecDepth 100000 in
theorem RSnap_full {W : World} {P : Nat → Prop} {kb rb : Nat} {d : Dk.D} (h : RK W P kb rb d []) {v : Value} {rs : List (List UInt8)} (hv : RBs W v rs) (hz : ∀ r ∈ rs, r.length ≤ maxLen) (hn : rs.length ≤ 1000) (ha : Jn.All rs) (hf : d.left < ((Jn.frames rs).length : Int)) :
    Calls Try.prog 49 #[ptr kb 0, v] W (RKPost W P kb rb (11, d, [])) := by
  have C1 := Rframes_yes hv hz hn ha
  obtain ⟨va, vc, rfl⟩ := hv.form
  have hm := frames_most rs ha
  have hm2 : (Jn.frames rs).length ≤ 16392000 := by omega
  obtain ⟨lf, HLF⟩ : ∃ lf, Hid (d.left = lf) := ⟨_, rfl⟩
  rw [HLF.out] at hf
  have HF := hide9 hf
  have HH := hide9 h
  clear h hv hz ha hf hm
  go_enter Try.func49, Try.ntmps49
  go_wp2_with (first
    | (go_at_call 73; refine C1.mono ?_; rintro e w1 ⟨L, a1, c1, HL, rfl, ho1, hB1⟩; have hLl : L.length ≤ 16392000 := (by rw [HL.out]; exact hm2); have hf : lf < (L.length : Int) := (by rw [HL.out]; exact HF.out); have H1 := hide9 (HH.out.below hB1); have d2 : w1.cell? ⟨kb, 2, none⟩ = some (.int .i64 0) := (H1.out.cells (n := 0) (by exact (rfl : _ = _))).2.1; have d0 := (H1.out.cells (n := 0) (by exact (rfl : _ = _))).1; have CL := H1.out.rleft HLF; have HO1 := hide9 ho1; have HB1 := hide9 hB1; clear C1 ho1 hB1)
    | (go_at_call 28; refine CL.mono ?_; rintro e w2 ⟨rfl, hB2⟩; clear CL))
  go_ret
  exact RKPost.same HH.out (bel HB1.out hB2)
set_option maxHeartbeats 4000000 in
set_option maxRecDepth 100000 in
theorem RSnap_00 {W : World} {P : Nat → Prop} {kb rb : Nat} {d d1 : Dk.D} {c : Int} (h : RK W P kb rb d []) {v : Value} {rs : List (List UInt8)} (hv : RBs W v rs) (hz : ∀ r ∈ rs, r.length ≤ maxLen) (hn : rs.length ≤ 1000) (ha : Jn.All rs) (hf : ((Jn.frames rs).length : Int) ≤ d.left) (hrt : d.root = 0) (hc : c ≠ 0) (E1 : Hid (d.append 1 (Jn.frames rs) = (c, d1))) :
    Calls Try.prog 49 #[ptr kb 0, v] W (RKPost W P kb rb (c, d1, [])) := by
  have C1 := Rframes_yes hv hz hn ha
  obtain ⟨va, vc, rfl⟩ := hv.form
  have hm := frames_most rs ha
  have hm2 : (Jn.frames rs).length ≤ 16392000 := by omega
  obtain ⟨lf, HLF⟩ : ∃ lf, Hid (d.left = lf) := ⟨_, rfl⟩
  rw [HLF.out] at hf
  have HF := hide9 hf
  have HH := hide9 h
  clear h hv hz ha hf hm
  have hcb : (c == 0) = false := by simpa using hc
  go_enter Try.func49, Try.ntmps49
  go_wp2_with (first
    | (go_at_call 73; refine C1.mono ?_; rintro e w1 ⟨L, a1, c1, HL, rfl, ho1, hB1⟩; have hLl : L.length ≤ 16392000 := (by rw [HL.out]; exact hm2); have hf : (L.length : Int) ≤ lf := (by rw [HL.out]; exact HF.out); have H1 := hide9 (HH.out.below hB1); have d2 : w1.cell? ⟨kb, 2, none⟩ = some (.int .i64 0) := (H1.out.cells (n := 0) (by exact (rfl : _ = _))).2.1; have d0 := (H1.out.cells (n := 0) (by exact (rfl : _ = _))).1; have CL := H1.out.rleft HLF; have HO1 := hide9 ho1; have HB1 := hide9 hB1; clear C1 ho1 hB1)
    | (go_at_call 28; refine CL.mono ?_; rintro e w2 ⟨rfl, hB2⟩; have H2 := hide9 (H1.out.below hB2); have e0 := (H2.out.cells (n := 0) (by exact (rfl : _ = _))).1; have y6 := H2.out.re.root; rw [hrt] at y6; have HQ := hide9 (rq_new HH.out.new HH.out.re.lt (HO1.out.low9 hB2)); have HB := hide9 (bel HB1.out hB2); have CA := H2.out.app 1 HQ.out (by unfold maxLen; omega) (r := (c, d1)) (by rw [HL.out]; exact E1); clear CL hB2 H1 d0 d2 HO1 HB1)
    | (go_at_call 70; refine CA.mono ?_; rintro e w3 ⟨rfl, hK, hO⟩; have H3 := hide9 hK; have HO3 := hide9 (hO); have e0 := (H3.out.cells (n := 0) (by exact (rfl : _ = _))).1; clear CA hK hO H2; skip))
  go_ret
  exact ⟨rfl, H3.out, (Own.of HB.out).trans (HO3.out.mono9 (fun k hk => .inl hk)) (fun k hk => .inl hk)⟩
set_option maxHeartbeats 4000000 in
set_option maxRecDepth 100000 in
theorem RSnap_01 {W : World} {P : Nat → Prop} {kb rb : Nat} {d d1 d2 : Dk.D} {c : Int} (h : RK W P kb rb d []) {v : Value} {rs : List (List UInt8)} (hv : RBs W v rs) (hz : ∀ r ∈ rs, r.length ≤ maxLen) (hn : rs.length ≤ 1000) (ha : Jn.All rs) (hf : ((Jn.frames rs).length : Int) ≤ d.left) (hrt : d.root = 0) (hc : c ≠ 0) (E1 : Hid (d.append 1 (Jn.frames rs) = (0, d1))) (E2 : Hid (d1.sync 1 = (c, d2))) :
    Calls Try.prog 49 #[ptr kb 0, v] W (RKPost W P kb rb (c, d2, [])) := by
  have C1 := Rframes_yes hv hz hn ha
  obtain ⟨va, vc, rfl⟩ := hv.form
  have hm := frames_most rs ha
  have hm2 : (Jn.frames rs).length ≤ 16392000 := by omega
  obtain ⟨lf, HLF⟩ : ∃ lf, Hid (d.left = lf) := ⟨_, rfl⟩
  rw [HLF.out] at hf
  have HF := hide9 hf
  have HH := hide9 h
  clear h hv hz ha hf hm
  have hcb : (c == 0) = false := by simpa using hc
  go_enter Try.func49, Try.ntmps49
  go_wp2_with (first
    | (go_at_call 73; refine C1.mono ?_; rintro e w1 ⟨L, a1, c1, HL, rfl, ho1, hB1⟩; have hLl : L.length ≤ 16392000 := (by rw [HL.out]; exact hm2); have hf : (L.length : Int) ≤ lf := (by rw [HL.out]; exact HF.out); have H1 := hide9 (HH.out.below hB1); have d2 : w1.cell? ⟨kb, 2, none⟩ = some (.int .i64 0) := (H1.out.cells (n := 0) (by exact (rfl : _ = _))).2.1; have d0 := (H1.out.cells (n := 0) (by exact (rfl : _ = _))).1; have CL := H1.out.rleft HLF; have HO1 := hide9 ho1; have HB1 := hide9 hB1; clear C1 ho1 hB1)
    | (go_at_call 28; refine CL.mono ?_; rintro e w2 ⟨rfl, hB2⟩; have H2 := hide9 (H1.out.below hB2); have e0 := (H2.out.cells (n := 0) (by exact (rfl : _ = _))).1; have y6 := H2.out.re.root; rw [hrt] at y6; have HQ := hide9 (rq_new HH.out.new HH.out.re.lt (HO1.out.low9 hB2)); have HB := hide9 (bel HB1.out hB2); have CA := H2.out.app 1 HQ.out (by unfold maxLen; omega) (r := (0, d1)) (by rw [HL.out]; exact E1); clear CL hB2 H1 d0 d2 HO1 HB1)
    | (go_at_call 70; refine CA.mono ?_; rintro e w3 ⟨rfl, hK, hO⟩; have H3 := hide9 hK; have HO3 := hide9 (hO); have e0 := (H3.out.cells (n := 0) (by exact (rfl : _ = _))).1; clear CA hK hO H2; have CA := H3.out.sync 1 E2; skip)
    | (go_at_call 47; refine CA.mono ?_; rintro e w4 ⟨rfl, hK, hO⟩; have H4 := hide9 hK; have HO4 := hide9 (HO3.out.trans hO (fun k hk => .inl hk)); have e0 := (H4.out.cells (n := 0) (by exact (rfl : _ = _))).1; clear CA hK hO H3; skip))
  go_ret
  exact ⟨rfl, H4.out, (Own.of HB.out).trans (HO4.out.mono9 (fun k hk => .inl hk)) (fun k hk => .inl hk)⟩
set_option maxHeartbeats 4000000 in
set_option maxRecDepth 100000 in
theorem RSnap_02 {W : World} {P : Nat → Prop} {kb rb : Nat} {d d1 d2 d3 : Dk.D} {c : Int} (h : RK W P kb rb d []) {v : Value} {rs : List (List UInt8)} (hv : RBs W v rs) (hz : ∀ r ∈ rs, r.length ≤ maxLen) (hn : rs.length ≤ 1000) (ha : Jn.All rs) (hf : ((Jn.frames rs).length : Int) ≤ d.left) (hrt : d.root = 0) (hc : c ≠ 0) (E1 : Hid (d.append 1 (Jn.frames rs) = (0, d1))) (E2 : Hid (d1.sync 1 = (0, d2))) (E3 : Hid (d2.switch 1 = (c, d3))) :
    Calls Try.prog 49 #[ptr kb 0, v] W (RKPost W P kb rb (c, d3, [])) := by
  have C1 := Rframes_yes hv hz hn ha
  obtain ⟨va, vc, rfl⟩ := hv.form
  have hm := frames_most rs ha
  have hm2 : (Jn.frames rs).length ≤ 16392000 := by omega
  obtain ⟨lf, HLF⟩ : ∃ lf, Hid (d.left = lf) := ⟨_, rfl⟩
  rw [HLF.out] at hf
  have HF := hide9 hf
  have HH := hide9 h
  clear h hv hz ha hf hm
  have hcb : (c == 0) = false := by simpa using hc
  go_enter Try.func49, Try.ntmps49
  go_wp2_with (first
    | (go_at_call 73; refine C1.mono ?_; rintro e w1 ⟨L, a1, c1, HL, rfl, ho1, hB1⟩; have hLl : L.length ≤ 16392000 := (by rw [HL.out]; exact hm2); have hf : (L.length : Int) ≤ lf := (by rw [HL.out]; exact HF.out); have H1 := hide9 (HH.out.below hB1); have d2 : w1.cell? ⟨kb, 2, none⟩ = some (.int .i64 0) := (H1.out.cells (n := 0) (by exact (rfl : _ = _))).2.1; have d0 := (H1.out.cells (n := 0) (by exact (rfl : _ = _))).1; have CL := H1.out.rleft HLF; have HO1 := hide9 ho1; have HB1 := hide9 hB1; clear C1 ho1 hB1)
    | (go_at_call 28; refine CL.mono ?_; rintro e w2 ⟨rfl, hB2⟩; have H2 := hide9 (H1.out.below hB2); have e0 := (H2.out.cells (n := 0) (by exact (rfl : _ = _))).1; have y6 := H2.out.re.root; rw [hrt] at y6; have HQ := hide9 (rq_new HH.out.new HH.out.re.lt (HO1.out.low9 hB2)); have HB := hide9 (bel HB1.out hB2); have CA := H2.out.app 1 HQ.out (by unfold maxLen; omega) (r := (0, d1)) (by rw [HL.out]; exact E1); clear CL hB2 H1 d0 d2 HO1 HB1)
    | (go_at_call 70; refine CA.mono ?_; rintro e w3 ⟨rfl, hK, hO⟩; have H3 := hide9 hK; have HO3 := hide9 (hO); have e0 := (H3.out.cells (n := 0) (by exact (rfl : _ = _))).1; clear CA hK hO H2; have CA := H3.out.sync 1 E2; skip)
    | (go_at_call 47; refine CA.mono ?_; rintro e w4 ⟨rfl, hK, hO⟩; have H4 := hide9 hK; have HO4 := hide9 (HO3.out.trans hO (fun k hk => .inl hk)); have e0 := (H4.out.cells (n := 0) (by exact (rfl : _ = _))).1; clear CA hK hO H3; have CA := H4.out.switch 1 E3; skip)
    | (go_at_call 69; refine CA.mono ?_; rintro e w5 ⟨rfl, hK, hO⟩; have H5 := hide9 hK; have HO5 := hide9 (HO4.out.trans hO (fun k hk => .inl hk)); have e0 := (H5.out.cells (n := 0) (by exact (rfl : _ = _))).1; clear CA hK hO H4; skip))
  go_ret
  exact ⟨rfl, H5.out, (Own.of HB.out).trans (HO5.out.mono9 (fun k hk => .inl hk)) (fun k hk => .inl hk)⟩
set_option maxHeartbeats 4000000 in
set_option maxRecDepth 100000 in
theorem RSnap_03 {W : World} {P : Nat → Prop} {kb rb : Nat} {d d1 d2 d3 d4 : Dk.D} {c : Int} (h : RK W P kb rb d []) {v : Value} {rs : List (List UInt8)} (hv : RBs W v rs) (hz : ∀ r ∈ rs, r.length ≤ maxLen) (hn : rs.length ≤ 1000) (ha : Jn.All rs) (hf : ((Jn.frames rs).length : Int) ≤ d.left) (hrt : d.root = 0) (hc : c ≠ 0) (E1 : Hid (d.append 1 (Jn.frames rs) = (0, d1))) (E2 : Hid (d1.sync 1 = (0, d2))) (E3 : Hid (d2.switch 1 = (0, d3))) (E4 : Hid (d3.trunc 0 0 = (c, d4))) :
    Calls Try.prog 49 #[ptr kb 0, v] W (RKPost W P kb rb (c, d4, [])) := by
  have C1 := Rframes_yes hv hz hn ha
  obtain ⟨va, vc, rfl⟩ := hv.form
  have hm := frames_most rs ha
  have hm2 : (Jn.frames rs).length ≤ 16392000 := by omega
  obtain ⟨lf, HLF⟩ : ∃ lf, Hid (d.left = lf) := ⟨_, rfl⟩
  rw [HLF.out] at hf
  have HF := hide9 hf
  have HH := hide9 h
  clear h hv hz ha hf hm
  have hcb : (c == 0) = false := by simpa using hc
  go_enter Try.func49, Try.ntmps49
  go_wp2_with (first
    | (go_at_call 73; refine C1.mono ?_; rintro e w1 ⟨L, a1, c1, HL, rfl, ho1, hB1⟩; have hLl : L.length ≤ 16392000 := (by rw [HL.out]; exact hm2); have hf : (L.length : Int) ≤ lf := (by rw [HL.out]; exact HF.out); have H1 := hide9 (HH.out.below hB1); have d2 : w1.cell? ⟨kb, 2, none⟩ = some (.int .i64 0) := (H1.out.cells (n := 0) (by exact (rfl : _ = _))).2.1; have d0 := (H1.out.cells (n := 0) (by exact (rfl : _ = _))).1; have CL := H1.out.rleft HLF; have HO1 := hide9 ho1; have HB1 := hide9 hB1; clear C1 ho1 hB1)
    | (go_at_call 28; refine CL.mono ?_; rintro e w2 ⟨rfl, hB2⟩; have H2 := hide9 (H1.out.below hB2); have e0 := (H2.out.cells (n := 0) (by exact (rfl : _ = _))).1; have y6 := H2.out.re.root; rw [hrt] at y6; have HQ := hide9 (rq_new HH.out.new HH.out.re.lt (HO1.out.low9 hB2)); have HB := hide9 (bel HB1.out hB2); have CA := H2.out.app 1 HQ.out (by unfold maxLen; omega) (r := (0, d1)) (by rw [HL.out]; exact E1); clear CL hB2 H1 d0 d2 HO1 HB1)
    | (go_at_call 70; refine CA.mono ?_; rintro e w3 ⟨rfl, hK, hO⟩; have H3 := hide9 hK; have HO3 := hide9 (hO); have e0 := (H3.out.cells (n := 0) (by exact (rfl : _ = _))).1; clear CA hK hO H2; have CA := H3.out.sync 1 E2; skip)
    | (go_at_call 47; refine CA.mono ?_; rintro e w4 ⟨rfl, hK, hO⟩; have H4 := hide9 hK; have HO4 := hide9 (HO3.out.trans hO (fun k hk => .inl hk)); have e0 := (H4.out.cells (n := 0) (by exact (rfl : _ = _))).1; clear CA hK hO H3; have CA := H4.out.switch 1 E3; skip)
    | (go_at_call 69; refine CA.mono ?_; rintro e w5 ⟨rfl, hK, hO⟩; have H5 := hide9 hK; have HO5 := hide9 (HO4.out.trans hO (fun k hk => .inl hk)); have e0 := (H5.out.cells (n := 0) (by exact (rfl : _ = _))).1; clear CA hK hO H4; have CA := H5.out.trunc 0 0 E4; skip)
    | (go_at_call 46; refine CA.mono ?_; rintro e w6 ⟨rfl, hK, hO⟩; have H6 := hide9 hK; have HO6 := hide9 (HO5.out.trans hO (fun k hk => .inl hk)); have e0 := (H6.out.cells (n := 0) (by exact (rfl : _ = _))).1; clear CA hK hO H5; skip))
  go_ret
  exact ⟨rfl, H6.out, (Own.of HB.out).trans (HO6.out.mono9 (fun k hk => .inl hk)) (fun k hk => .inl hk)⟩
set_option maxHeartbeats 4000000 in
set_option maxRecDepth 100000 in
theorem RSnap_04 {W : World} {P : Nat → Prop} {kb rb : Nat} {d d1 d2 d3 d4 d5 : Dk.D} {c : Int} (h : RK W P kb rb d []) {v : Value} {rs : List (List UInt8)} (hv : RBs W v rs) (hz : ∀ r ∈ rs, r.length ≤ maxLen) (hn : rs.length ≤ 1000) (ha : Jn.All rs) (hf : ((Jn.frames rs).length : Int) ≤ d.left) (hrt : d.root = 0) (hc : c ≠ 0) (E1 : Hid (d.append 1 (Jn.frames rs) = (0, d1))) (E2 : Hid (d1.sync 1 = (0, d2))) (E3 : Hid (d2.switch 1 = (0, d3))) (E4 : Hid (d3.trunc 0 0 = (0, d4))) (E5 : Hid (d4.sync 0 = (c, d5))) :
    Calls Try.prog 49 #[ptr kb 0, v] W (RKPost W P kb rb (c, d5, [])) := by
  have C1 := Rframes_yes hv hz hn ha
  obtain ⟨va, vc, rfl⟩ := hv.form
  have hm := frames_most rs ha
  have hm2 : (Jn.frames rs).length ≤ 16392000 := by omega
  obtain ⟨lf, HLF⟩ : ∃ lf, Hid (d.left = lf) := ⟨_, rfl⟩
  rw [HLF.out] at hf
  have HF := hide9 hf
  have HH := hide9 h
  clear h hv hz ha hf hm
  have hcb : (c == 0) = false := by simpa using hc
  go_enter Try.func49, Try.ntmps49
  go_wp2_with (first
    | (go_at_call 73; refine C1.mono ?_; rintro e w1 ⟨L, a1, c1, HL, rfl, ho1, hB1⟩; have hLl : L.length ≤ 16392000 := (by rw [HL.out]; exact hm2); have hf : (L.length : Int) ≤ lf := (by rw [HL.out]; exact HF.out); have H1 := hide9 (HH.out.below hB1); have d2 : w1.cell? ⟨kb, 2, none⟩ = some (.int .i64 0) := (H1.out.cells (n := 0) (by exact (rfl : _ = _))).2.1; have d0 := (H1.out.cells (n := 0) (by exact (rfl : _ = _))).1; have CL := H1.out.rleft HLF; have HO1 := hide9 ho1; have HB1 := hide9 hB1; clear C1 ho1 hB1)
    | (go_at_call 28; refine CL.mono ?_; rintro e w2 ⟨rfl, hB2⟩; have H2 := hide9 (H1.out.below hB2); have e0 := (H2.out.cells (n := 0) (by exact (rfl : _ = _))).1; have y6 := H2.out.re.root; rw [hrt] at y6; have HQ := hide9 (rq_new HH.out.new HH.out.re.lt (HO1.out.low9 hB2)); have HB := hide9 (bel HB1.out hB2); have CA := H2.out.app 1 HQ.out (by unfold maxLen; omega) (r := (0, d1)) (by rw [HL.out]; exact E1); clear CL hB2 H1 d0 d2 HO1 HB1)
    | (go_at_call 70; refine CA.mono ?_; rintro e w3 ⟨rfl, hK, hO⟩; have H3 := hide9 hK; have HO3 := hide9 (hO); have e0 := (H3.out.cells (n := 0) (by exact (rfl : _ = _))).1; clear CA hK hO H2; have CA := H3.out.sync 1 E2; skip)
    | (go_at_call 47; refine CA.mono ?_; rintro e w4 ⟨rfl, hK, hO⟩; have H4 := hide9 hK; have HO4 := hide9 (HO3.out.trans hO (fun k hk => .inl hk)); have e0 := (H4.out.cells (n := 0) (by exact (rfl : _ = _))).1; clear CA hK hO H3; have CA := H4.out.switch 1 E3; skip)
    | (go_at_call 69; refine CA.mono ?_; rintro e w5 ⟨rfl, hK, hO⟩; have H5 := hide9 hK; have HO5 := hide9 (HO4.out.trans hO (fun k hk => .inl hk)); have e0 := (H5.out.cells (n := 0) (by exact (rfl : _ = _))).1; clear CA hK hO H4; have CA := H5.out.trunc 0 0 E4; skip)
    | (go_at_call 46; refine CA.mono ?_; rintro e w6 ⟨rfl, hK, hO⟩; have H6 := hide9 hK; have HO6 := hide9 (HO5.out.trans hO (fun k hk => .inl hk)); have e0 := (H6.out.cells (n := 0) (by exact (rfl : _ = _))).1; clear CA hK hO H5; have CA := H6.out.sync 0 E5; skip)
    | (go_at_call 47; refine CA.mono ?_; rintro e w7 ⟨rfl, hK, hO⟩; have H7 := hide9 hK; have HO7 := hide9 (HO6.out.trans hO (fun k hk => .inl hk)); have e0 := (H7.out.cells (n := 0) (by exact (rfl : _ = _))).1; clear CA hK hO H6; skip))
  go_ret
  exact ⟨rfl, H7.out, (Own.of HB.out).trans (HO7.out.mono9 (fun k hk => .inl hk)) (fun k hk => .inl hk)⟩
set_option maxHeartbeats 4000000 in
set_option maxRecDepth 100000 in
theorem RSnap_05 {W : World} {P : Nat → Prop} {kb rb : Nat} {d d1 d2 d3 d4 d5 : Dk.D} (h : RK W P kb rb d []) {v : Value} {rs : List (List UInt8)} (hv : RBs W v rs) (hz : ∀ r ∈ rs, r.length ≤ maxLen) (hn : rs.length ≤ 1000) (ha : Jn.All rs) (hf : ((Jn.frames rs).length : Int) ≤ d.left) (hrt : d.root = 0) (E1 : Hid (d.append 1 (Jn.frames rs) = (0, d1))) (E2 : Hid (d1.sync 1 = (0, d2))) (E3 : Hid (d2.switch 1 = (0, d3))) (E4 : Hid (d3.trunc 0 0 = (0, d4))) (E5 : Hid (d4.sync 0 = (0, d5))) :
    Calls Try.prog 49 #[ptr kb 0, v] W (RKPost W P kb rb (0, d5, [])) := by
  have C1 := Rframes_yes hv hz hn ha
  obtain ⟨va, vc, rfl⟩ := hv.form
  have hm := frames_most rs ha
  have hm2 : (Jn.frames rs).length ≤ 16392000 := by omega
  obtain ⟨lf, HLF⟩ : ∃ lf, Hid (d.left = lf) := ⟨_, rfl⟩
  rw [HLF.out] at hf
  have HF := hide9 hf
  have HH := hide9 h
  clear h hv hz ha hf hm
  go_enter Try.func49, Try.ntmps49
  go_wp2_with (first
    | (go_at_call 73; refine C1.mono ?_; rintro e w1 ⟨L, a1, c1, HL, rfl, ho1, hB1⟩; have hLl : L.length ≤ 16392000 := (by rw [HL.out]; exact hm2); have hf : (L.length : Int) ≤ lf := (by rw [HL.out]; exact HF.out); have H1 := hide9 (HH.out.below hB1); have d2 : w1.cell? ⟨kb, 2, none⟩ = some (.int .i64 0) := (H1.out.cells (n := 0) (by exact (rfl : _ = _))).2.1; have d0 := (H1.out.cells (n := 0) (by exact (rfl : _ = _))).1; have CL := H1.out.rleft HLF; have HO1 := hide9 ho1; have HB1 := hide9 hB1; clear C1 ho1 hB1)
    | (go_at_call 28; refine CL.mono ?_; rintro e w2 ⟨rfl, hB2⟩; have H2 := hide9 (H1.out.below hB2); have e0 := (H2.out.cells (n := 0) (by exact (rfl : _ = _))).1; have y6 := H2.out.re.root; rw [hrt] at y6; have HQ := hide9 (rq_new HH.out.new HH.out.re.lt (HO1.out.low9 hB2)); have HB := hide9 (bel HB1.out hB2); have CA := H2.out.app 1 HQ.out (by unfold maxLen; omega) (r := (0, d1)) (by rw [HL.out]; exact E1); clear CL hB2 H1 d0 d2 HO1 HB1)
    | (go_at_call 70; refine CA.mono ?_; rintro e w3 ⟨rfl, hK, hO⟩; have H3 := hide9 hK; have HO3 := hide9 (hO); have e0 := (H3.out.cells (n := 0) (by exact (rfl : _ = _))).1; clear CA hK hO H2; have CA := H3.out.sync 1 E2; skip)
    | (go_at_call 47; refine CA.mono ?_; rintro e w4 ⟨rfl, hK, hO⟩; have H4 := hide9 hK; have HO4 := hide9 (HO3.out.trans hO (fun k hk => .inl hk)); have e0 := (H4.out.cells (n := 0) (by exact (rfl : _ = _))).1; clear CA hK hO H3; have CA := H4.out.switch 1 E3; skip)
    | (go_at_call 69; refine CA.mono ?_; rintro e w5 ⟨rfl, hK, hO⟩; have H5 := hide9 hK; have HO5 := hide9 (HO4.out.trans hO (fun k hk => .inl hk)); have e0 := (H5.out.cells (n := 0) (by exact (rfl : _ = _))).1; clear CA hK hO H4; have CA := H5.out.trunc 0 0 E4; skip)
    | (go_at_call 46; refine CA.mono ?_; rintro e w6 ⟨rfl, hK, hO⟩; have H6 := hide9 hK; have HO6 := hide9 (HO5.out.trans hO (fun k hk => .inl hk)); have e0 := (H6.out.cells (n := 0) (by exact (rfl : _ = _))).1; clear CA hK hO H5; have CA := H6.out.sync 0 E5; skip)
    | (go_at_call 47; refine CA.mono ?_; rintro e w7 ⟨rfl, hK, hO⟩; have H7 := hide9 hK; have HO7 := hide9 (HO6.out.trans hO (fun k hk => .inl hk)); have e0 := (H7.out.cells (n := 0) (by exact (rfl : _ = _))).1; clear CA hK hO H6; skip))
  go_ret
  exact ⟨rfl, H7.out, (Own.of HB.out).trans (HO7.out.mono9 (fun k hk => .inl hk)) (fun k hk => .inl hk)⟩
set_option maxHeartbeats 4000000 in
set_option maxRecDepth 100000 in
theorem RSnap_10 {W : World} {P : Nat → Prop} {kb rb : Nat} {d d1 : Dk.D} {c : Int} (h : RK W P kb rb d []) {v : Value} {rs : List (List UInt8)} (hv : RBs W v rs) (hz : ∀ r ∈ rs, r.length ≤ maxLen) (hn : rs.length ≤ 1000) (ha : Jn.All rs) (hf : ((Jn.frames rs).length : Int) ≤ d.left) (hrt : d.root = 1) (hc : c ≠ 0) (E1 : Hid (d.append 0 (Jn.frames rs) = (c, d1))) :
    Calls Try.prog 49 #[ptr kb 0, v] W (RKPost W P kb rb (c, d1, [])) := by
  have C1 := Rframes_yes hv hz hn ha
  obtain ⟨va, vc, rfl⟩ := hv.form
  have hm := frames_most rs ha
  have hm2 : (Jn.frames rs).length ≤ 16392000 := by omega
  obtain ⟨lf, HLF⟩ : ∃ lf, Hid (d.left = lf) := ⟨_, rfl⟩
  rw [HLF.out] at hf
  have HF := hide9 hf
  have HH := hide9 h
  clear h hv hz ha hf hm
  have hcb : (c == 0) = false := by simpa using hc
  go_enter Try.func49, Try.ntmps49
  go_wp2_with (first
    | (go_at_call 73; refine C1.mono ?_; rintro e w1 ⟨L, a1, c1, HL, rfl, ho1, hB1⟩; have hLl : L.length ≤ 16392000 := (by rw [HL.out]; exact hm2); have hf : (L.length : Int) ≤ lf := (by rw [HL.out]; exact HF.out); have H1 := hide9 (HH.out.below hB1); have d2 : w1.cell? ⟨kb, 2, none⟩ = some (.int .i64 0) := (H1.out.cells (n := 0) (by exact (rfl : _ = _))).2.1; have d0 := (H1.out.cells (n := 0) (by exact (rfl : _ = _))).1; have CL := H1.out.rleft HLF; have HO1 := hide9 ho1; have HB1 := hide9 hB1; clear C1 ho1 hB1)
    | (go_at_call 28; refine CL.mono ?_; rintro e w2 ⟨rfl, hB2⟩; have H2 := hide9 (H1.out.below hB2); have e0 := (H2.out.cells (n := 0) (by exact (rfl : _ = _))).1; have y6 := H2.out.re.root; rw [hrt] at y6; have HQ := hide9 (rq_new HH.out.new HH.out.re.lt (HO1.out.low9 hB2)); have HB := hide9 (bel HB1.out hB2); have CA := H2.out.app 0 HQ.out (by unfold maxLen; omega) (r := (c, d1)) (by rw [HL.out]; exact E1); clear CL hB2 H1 d0 d2 HO1 HB1)
    | (go_at_call 70; refine CA.mono ?_; rintro e w3 ⟨rfl, hK, hO⟩; have H3 := hide9 hK; have HO3 := hide9 (hO); have e0 := (H3.out.cells (n := 0) (by exact (rfl : _ = _))).1; clear CA hK hO H2; skip))
  go_ret
  exact ⟨rfl, H3.out, (Own.of HB.out).trans (HO3.out.mono9 (fun k hk => .inl hk)) (fun k hk => .inl hk)⟩
set_option maxHeartbeats 4000000 in
set_option maxRecDepth 100000 in
theorem RSnap_11 {W : World} {P : Nat → Prop} {kb rb : Nat} {d d1 d2 : Dk.D} {c : Int} (h : RK W P kb rb d []) {v : Value} {rs : List (List UInt8)} (hv : RBs W v rs) (hz : ∀ r ∈ rs, r.length ≤ maxLen) (hn : rs.length ≤ 1000) (ha : Jn.All rs) (hf : ((Jn.frames rs).length : Int) ≤ d.left) (hrt : d.root = 1) (hc : c ≠ 0) (E1 : Hid (d.append 0 (Jn.frames rs) = (0, d1))) (E2 : Hid (d1.sync 0 = (c, d2))) :
    Calls Try.prog 49 #[ptr kb 0, v] W (RKPost W P kb rb (c, d2, [])) := by
  have C1 := Rframes_yes hv hz hn ha
  obtain ⟨va, vc, rfl⟩ := hv.form
  have hm := frames_most rs ha
  have hm2 : (Jn.frames rs).length ≤ 16392000 := by omega
  obtain ⟨lf, HLF⟩ : ∃ lf, Hid (d.left = lf) := ⟨_, rfl⟩
  rw [HLF.out] at hf
  have HF := hide9 hf
  have HH := hide9 h
  clear h hv hz ha hf hm
  have hcb : (c == 0) = false := by simpa using hc
  go_enter Try.func49, Try.ntmps49
  go_wp2_with (first
    | (go_at_call 73; refine C1.mono ?_; rintro e w1 ⟨L, a1, c1, HL, rfl, ho1, hB1⟩; have hLl : L.length ≤ 16392000 := (by rw [HL.out]; exact hm2); have hf : (L.length : Int) ≤ lf := (by rw [HL.out]; exact HF.out); have H1 := hide9 (HH.out.below hB1); have d2 : w1.cell? ⟨kb, 2, none⟩ = some (.int .i64 0) := (H1.out.cells (n := 0) (by exact (rfl : _ = _))).2.1; have d0 := (H1.out.cells (n := 0) (by exact (rfl : _ = _))).1; have CL := H1.out.rleft HLF; have HO1 := hide9 ho1; have HB1 := hide9 hB1; clear C1 ho1 hB1)
    | (go_at_call 28; refine CL.mono ?_; rintro e w2 ⟨rfl, hB2⟩; have H2 := hide9 (H1.out.below hB2); have e0 := (H2.out.cells (n := 0) (by exact (rfl : _ = _))).1; have y6 := H2.out.re.root; rw [hrt] at y6; have HQ := hide9 (rq_new HH.out.new HH.out.re.lt (HO1.out.low9 hB2)); have HB := hide9 (bel HB1.out hB2); have CA := H2.out.app 0 HQ.out (by unfold maxLen; omega) (r := (0, d1)) (by rw [HL.out]; exact E1); clear CL hB2 H1 d0 d2 HO1 HB1)
    | (go_at_call 70; refine CA.mono ?_; rintro e w3 ⟨rfl, hK, hO⟩; have H3 := hide9 hK; have HO3 := hide9 (hO); have e0 := (H3.out.cells (n := 0) (by exact (rfl : _ = _))).1; clear CA hK hO H2; have CA := H3.out.sync 0 E2; skip)
    | (go_at_call 47; refine CA.mono ?_; rintro e w4 ⟨rfl, hK, hO⟩; have H4 := hide9 hK; have HO4 := hide9 (HO3.out.trans hO (fun k hk => .inl hk)); have e0 := (H4.out.cells (n := 0) (by exact (rfl : _ = _))).1; clear CA hK hO H3; skip))
  go_ret
  exact ⟨rfl, H4.out, (Own.of HB.out).trans (HO4.out.mono9 (fun k hk => .inl hk)) (fun k hk => .inl hk)⟩
set_option maxHeartbeats 4000000 in
set_option maxRecDepth 100000 in
theorem RSnap_12 {W : World} {P : Nat → Prop} {kb rb : Nat} {d d1 d2 d3 : Dk.D} {c : Int} (h : RK W P kb rb d []) {v : Value} {rs : List (List UInt8)} (hv : RBs W v rs) (hz : ∀ r ∈ rs, r.length ≤ maxLen) (hn : rs.length ≤ 1000) (ha : Jn.All rs) (hf : ((Jn.frames rs).length : Int) ≤ d.left) (hrt : d.root = 1) (hc : c ≠ 0) (E1 : Hid (d.append 0 (Jn.frames rs) = (0, d1))) (E2 : Hid (d1.sync 0 = (0, d2))) (E3 : Hid (d2.switch 0 = (c, d3))) :
    Calls Try.prog 49 #[ptr kb 0, v] W (RKPost W P kb rb (c, d3, [])) := by
  have C1 := Rframes_yes hv hz hn ha
  obtain ⟨va, vc, rfl⟩ := hv.form
  have hm := frames_most rs ha
  have hm2 : (Jn.frames rs).length ≤ 16392000 := by omega
  obtain ⟨lf, HLF⟩ : ∃ lf, Hid (d.left = lf) := ⟨_, rfl⟩
  rw [HLF.out] at hf
  have HF := hide9 hf
  have HH := hide9 h
  clear h hv hz ha hf hm
  have hcb : (c == 0) = false := by simpa using hc
  go_enter Try.func49, Try.ntmps49
  go_wp2_with (first
    | (go_at_call 73; refine C1.mono ?_; rintro e w1 ⟨L, a1, c1, HL, rfl, ho1, hB1⟩; have hLl : L.length ≤ 16392000 := (by rw [HL.out]; exact hm2); have hf : (L.length : Int) ≤ lf := (by rw [HL.out]; exact HF.out); have H1 := hide9 (HH.out.below hB1); have d2 : w1.cell? ⟨kb, 2, none⟩ = some (.int .i64 0) := (H1.out.cells (n := 0) (by exact (rfl : _ = _))).2.1; have d0 := (H1.out.cells (n := 0) (by exact (rfl : _ = _))).1; have CL := H1.out.rleft HLF; have HO1 := hide9 ho1; have HB1 := hide9 hB1; clear C1 ho1 hB1)
    | (go_at_call 28; refine CL.mono ?_; rintro e w2 ⟨rfl, hB2⟩; have H2 := hide9 (H1.out.below hB2); have e0 := (H2.out.cells (n := 0) (by exact (rfl : _ = _))).1; have y6 := H2.out.re.root; rw [hrt] at y6; have HQ := hide9 (rq_new HH.out.new HH.out.re.lt (HO1.out.low9 hB2)); have HB := hide9 (bel HB1.out hB2); have CA := H2.out.app 0 HQ.out (by unfold maxLen; omega) (r := (0, d1)) (by rw [HL.out]; exact E1); clear CL hB2 H1 d0 d2 HO1 HB1)
    | (go_at_call 70; refine CA.mono ?_; rintro e w3 ⟨rfl, hK, hO⟩; have H3 := hide9 hK; have HO3 := hide9 (hO); have e0 := (H3.out.cells (n := 0) (by exact (rfl : _ = _))).1; clear CA hK hO H2; have CA := H3.out.sync 0 E2; skip)
    | (go_at_call 47; refine CA.mono ?_; rintro e w4 ⟨rfl, hK, hO⟩; have H4 := hide9 hK; have HO4 := hide9 (HO3.out.trans hO (fun k hk => .inl hk)); have e0 := (H4.out.cells (n := 0) (by exact (rfl : _ = _))).1; clear CA hK hO H3; have CA := H4.out.switch 0 E3; skip)
    | (go_at_call 69; refine CA.mono ?_; rintro e w5 ⟨rfl, hK, hO⟩; have H5 := hide9 hK; have HO5 := hide9 (HO4.out.trans hO (fun k hk => .inl hk)); have e0 := (H5.out.cells (n := 0) (by exact (rfl : _ = _))).1; clear CA hK hO H4; skip))
  go_ret
  exact ⟨rfl, H5.out, (Own.of HB.out).trans (HO5.out.mono9 (fun k hk => .inl hk)) (fun k hk => .inl hk)⟩
set_option maxHeartbeats 4000000 in
set_option maxRecDepth 100000 in
theorem RSnap_13 {W : World} {P : Nat → Prop} {kb rb : Nat} {d d1 d2 d3 d4 : Dk.D} {c : Int} (h : RK W P kb rb d []) {v : Value} {rs : List (List UInt8)} (hv : RBs W v rs) (hz : ∀ r ∈ rs, r.length ≤ maxLen) (hn : rs.length ≤ 1000) (ha : Jn.All rs) (hf : ((Jn.frames rs).length : Int) ≤ d.left) (hrt : d.root = 1) (hc : c ≠ 0) (E1 : Hid (d.append 0 (Jn.frames rs) = (0, d1))) (E2 : Hid (d1.sync 0 = (0, d2))) (E3 : Hid (d2.switch 0 = (0, d3))) (E4 : Hid (d3.trunc 1 0 = (c, d4))) :
    Calls Try.prog 49 #[ptr kb 0, v] W (RKPost W P kb rb (c, d4, [])) := by
  have C1 := Rframes_yes hv hz hn ha
  obtain ⟨va, vc, rfl⟩ := hv.form
  have hm := frames_most rs ha
  have hm2 : (Jn.frames rs).length ≤ 16392000 := by omega
  obtain ⟨lf, HLF⟩ : ∃ lf, Hid (d.left = lf) := ⟨_, rfl⟩
  rw [HLF.out] at hf
  have HF := hide9 hf
  have HH := hide9 h
  clear h hv hz ha hf hm
  have hcb : (c == 0) = false := by simpa using hc
  go_enter Try.func49, Try.ntmps49
  go_wp2_with (first
    | (go_at_call 73; refine C1.mono ?_; rintro e w1 ⟨L, a1, c1, HL, rfl, ho1, hB1⟩; have hLl : L.length ≤ 16392000 := (by rw [HL.out]; exact hm2); have hf : (L.length : Int) ≤ lf := (by rw [HL.out]; exact HF.out); have H1 := hide9 (HH.out.below hB1); have d2 : w1.cell? ⟨kb, 2, none⟩ = some (.int .i64 0) := (H1.out.cells (n := 0) (by exact (rfl : _ = _))).2.1; have d0 := (H1.out.cells (n := 0) (by exact (rfl : _ = _))).1; have CL := H1.out.rleft HLF; have HO1 := hide9 ho1; have HB1 := hide9 hB1; clear C1 ho1 hB1)
    | (go_at_call 28; refine CL.mono ?_; rintro e w2 ⟨rfl, hB2⟩; have H2 := hide9 (H1.out.below hB2); have e0 := (H2.out.cells (n := 0) (by exact (rfl : _ = _))).1; have y6 := H2.out.re.root; rw [hrt] at y6; have HQ := hide9 (rq_new HH.out.new HH.out.re.lt (HO1.out.low9 hB2)); have HB := hide9 (bel HB1.out hB2); have CA := H2.out.app 0 HQ.out (by unfold maxLen; omega) (r := (0, d1)) (by rw [HL.out]; exact E1); clear CL hB2 H1 d0 d2 HO1 HB1)
    | (go_at_call 70; refine CA.mono ?_; rintro e w3 ⟨rfl, hK, hO⟩; have H3 := hide9 hK; have HO3 := hide9 (hO); have e0 := (H3.out.cells (n := 0) (by exact (rfl : _ = _))).1; clear CA hK hO H2; have CA := H3.out.sync 0 E2; skip)
    | (go_at_call 47; refine CA.mono ?_; rintro e w4 ⟨rfl, hK, hO⟩; have H4 := hide9 hK; have HO4 := hide9 (HO3.out.trans hO (fun k hk => .inl hk)); have e0 := (H4.out.cells (n := 0) (by exact (rfl : _ = _))).1; clear CA hK hO H3; have CA := H4.out.switch 0 E3; skip)
    | (go_at_call 69; refine CA.mono ?_; rintro e w5 ⟨rfl, hK, hO⟩; have H5 := hide9 hK; have HO5 := hide9 (HO4.out.trans hO (fun k hk => .inl hk)); have e0 := (H5.out.cells (n := 0) (by exact (rfl : _ = _))).1; clear CA hK hO H4; have CA := H5.out.trunc 1 0 E4; skip)
    | (go_at_call 46; refine CA.mono ?_; rintro e w6 ⟨rfl, hK, hO⟩; have H6 := hide9 hK; have HO6 := hide9 (HO5.out.trans hO (fun k hk => .inl hk)); have e0 := (H6.out.cells (n := 0) (by exact (rfl : _ = _))).1; clear CA hK hO H5; skip))
  go_ret
  exact ⟨rfl, H6.out, (Own.of HB.out).trans (HO6.out.mono9 (fun k hk => .inl hk)) (fun k hk => .inl hk)⟩
set_option maxHeartbeats 4000000 in
set_option maxRecDepth 100000 in
theorem RSnap_14 {W : World} {P : Nat → Prop} {kb rb : Nat} {d d1 d2 d3 d4 d5 : Dk.D} {c : Int} (h : RK W P kb rb d []) {v : Value} {rs : List (List UInt8)} (hv : RBs W v rs) (hz : ∀ r ∈ rs, r.length ≤ maxLen) (hn : rs.length ≤ 1000) (ha : Jn.All rs) (hf : ((Jn.frames rs).length : Int) ≤ d.left) (hrt : d.root = 1) (hc : c ≠ 0) (E1 : Hid (d.append 0 (Jn.frames rs) = (0, d1))) (E2 : Hid (d1.sync 0 = (0, d2))) (E3 : Hid (d2.switch 0 = (0, d3))) (E4 : Hid (d3.trunc 1 0 = (0, d4))) (E5 : Hid (d4.sync 1 = (c, d5))) :
    Calls Try.prog 49 #[ptr kb 0, v] W (RKPost W P kb rb (c, d5, [])) := by
  have C1 := Rframes_yes hv hz hn ha
  obtain ⟨va, vc, rfl⟩ := hv.form
  have hm := frames_most rs ha
  have hm2 : (Jn.frames rs).length ≤ 16392000 := by omega
  obtain ⟨lf, HLF⟩ : ∃ lf, Hid (d.left = lf) := ⟨_, rfl⟩
  rw [HLF.out] at hf
  have HF := hide9 hf
  have HH := hide9 h
  clear h hv hz ha hf hm
  have hcb : (c == 0) = false := by simpa using hc
  go_enter Try.func49, Try.ntmps49
  go_wp2_with (first
    | (go_at_call 73; refine C1.mono ?_; rintro e w1 ⟨L, a1, c1, HL, rfl, ho1, hB1⟩; have hLl : L.length ≤ 16392000 := (by rw [HL.out]; exact hm2); have hf : (L.length : Int) ≤ lf := (by rw [HL.out]; exact HF.out); have H1 := hide9 (HH.out.below hB1); have d2 : w1.cell? ⟨kb, 2, none⟩ = some (.int .i64 0) := (H1.out.cells (n := 0) (by exact (rfl : _ = _))).2.1; have d0 := (H1.out.cells (n := 0) (by exact (rfl : _ = _))).1; have CL := H1.out.rleft HLF; have HO1 := hide9 ho1; have HB1 := hide9 hB1; clear C1 ho1 hB1)
    | (go_at_call 28; refine CL.mono ?_; rintro e w2 ⟨rfl, hB2⟩; have H2 := hide9 (H1.out.below hB2); have e0 := (H2.out.cells (n := 0) (by exact (rfl : _ = _))).1; have y6 := H2.out.re.root; rw [hrt] at y6; have HQ := hide9 (rq_new HH.out.new HH.out.re.lt (HO1.out.low9 hB2)); have HB := hide9 (bel HB1.out hB2); have CA := H2.out.app 0 HQ.out (by unfold maxLen; omega) (r := (0, d1)) (by rw [HL.out]; exact E1); clear CL hB2 H1 d0 d2 HO1 HB1)
    | (go_at_call 70; refine CA.mono ?_; rintro e w3 ⟨rfl, hK, hO⟩; have H3 := hide9 hK; have HO3 := hide9 (hO); have e0 := (H3.out.cells (n := 0) (by exact (rfl : _ = _))).1; clear CA hK hO H2; have CA := H3.out.sync 0 E2; skip)
    | (go_at_call 47; refine CA.mono ?_; rintro e w4 ⟨rfl, hK, hO⟩; have H4 := hide9 hK; have HO4 := hide9 (HO3.out.trans hO (fun k hk => .inl hk)); have e0 := (H4.out.cells (n := 0) (by exact (rfl : _ = _))).1; clear CA hK hO H3; have CA := H4.out.switch 0 E3; skip)
    | (go_at_call 69; refine CA.mono ?_; rintro e w5 ⟨rfl, hK, hO⟩; have H5 := hide9 hK; have HO5 := hide9 (HO4.out.trans hO (fun k hk => .inl hk)); have e0 := (H5.out.cells (n := 0) (by exact (rfl : _ = _))).1; clear CA hK hO H4; have CA := H5.out.trunc 1 0 E4; skip)
    | (go_at_call 46; refine CA.mono ?_; rintro e w6 ⟨rfl, hK, hO⟩; have H6 := hide9 hK; have HO6 := hide9 (HO5.out.trans hO (fun k hk => .inl hk)); have e0 := (H6.out.cells (n := 0) (by exact (rfl : _ = _))).1; clear CA hK hO H5; have CA := H6.out.sync 1 E5; skip)
    | (go_at_call 47; refine CA.mono ?_; rintro e w7 ⟨rfl, hK, hO⟩; have H7 := hide9 hK; have HO7 := hide9 (HO6.out.trans hO (fun k hk => .inl hk)); have e0 := (H7.out.cells (n := 0) (by exact (rfl : _ = _))).1; clear CA hK hO H6; skip))
  go_ret
  exact ⟨rfl, H7.out, (Own.of HB.out).trans (HO7.out.mono9 (fun k hk => .inl hk)) (fun k hk => .inl hk)⟩
set_option maxHeartbeats 4000000 in
set_option maxRecDepth 100000 in
theorem RSnap_15 {W : World} {P : Nat → Prop} {kb rb : Nat} {d d1 d2 d3 d4 d5 : Dk.D} (h : RK W P kb rb d []) {v : Value} {rs : List (List UInt8)} (hv : RBs W v rs) (hz : ∀ r ∈ rs, r.length ≤ maxLen) (hn : rs.length ≤ 1000) (ha : Jn.All rs) (hf : ((Jn.frames rs).length : Int) ≤ d.left) (hrt : d.root = 1) (E1 : Hid (d.append 0 (Jn.frames rs) = (0, d1))) (E2 : Hid (d1.sync 0 = (0, d2))) (E3 : Hid (d2.switch 0 = (0, d3))) (E4 : Hid (d3.trunc 1 0 = (0, d4))) (E5 : Hid (d4.sync 1 = (0, d5))) :
    Calls Try.prog 49 #[ptr kb 0, v] W (RKPost W P kb rb (0, d5, [])) := by
  have C1 := Rframes_yes hv hz hn ha
  obtain ⟨va, vc, rfl⟩ := hv.form
  have hm := frames_most rs ha
  have hm2 : (Jn.frames rs).length ≤ 16392000 := by omega
  obtain ⟨lf, HLF⟩ : ∃ lf, Hid (d.left = lf) := ⟨_, rfl⟩
  rw [HLF.out] at hf
  have HF := hide9 hf
  have HH := hide9 h
  clear h hv hz ha hf hm
  go_enter Try.func49, Try.ntmps49
  go_wp2_with (first
    | (go_at_call 73; refine C1.mono ?_; rintro e w1 ⟨L, a1, c1, HL, rfl, ho1, hB1⟩; have hLl : L.length ≤ 16392000 := (by rw [HL.out]; exact hm2); have hf : (L.length : Int) ≤ lf := (by rw [HL.out]; exact HF.out); have H1 := hide9 (HH.out.below hB1); have d2 : w1.cell? ⟨kb, 2, none⟩ = some (.int .i64 0) := (H1.out.cells (n := 0) (by exact (rfl : _ = _))).2.1; have d0 := (H1.out.cells (n := 0) (by exact (rfl : _ = _))).1; have CL := H1.out.rleft HLF; have HO1 := hide9 ho1; have HB1 := hide9 hB1; clear C1 ho1 hB1)
    | (go_at_call 28; refine CL.mono ?_; rintro e w2 ⟨rfl, hB2⟩; have H2 := hide9 (H1.out.below hB2); have e0 := (H2.out.cells (n := 0) (by exact (rfl : _ = _))).1; have y6 := H2.out.re.root; rw [hrt] at y6; have HQ := hide9 (rq_new HH.out.new HH.out.re.lt (HO1.out.low9 hB2)); have HB := hide9 (bel HB1.out hB2); have CA := H2.out.app 0 HQ.out (by unfold maxLen; omega) (r := (0, d1)) (by rw [HL.out]; exact E1); clear CL hB2 H1 d0 d2 HO1 HB1)
    | (go_at_call 70; refine CA.mono ?_; rintro e w3 ⟨rfl, hK, hO⟩; have H3 := hide9 hK; have HO3 := hide9 (hO); have e0 := (H3.out.cells (n := 0) (by exact (rfl : _ = _))).1; clear CA hK hO H2; have CA := H3.out.sync 0 E2; skip)
    | (go_at_call 47; refine CA.mono ?_; rintro e w4 ⟨rfl, hK, hO⟩; have H4 := hide9 hK; have HO4 := hide9 (HO3.out.trans hO (fun k hk => .inl hk)); have e0 := (H4.out.cells (n := 0) (by exact (rfl : _ = _))).1; clear CA hK hO H3; have CA := H4.out.switch 0 E3; skip)
    | (go_at_call 69; refine CA.mono ?_; rintro e w5 ⟨rfl, hK, hO⟩; have H5 := hide9 hK; have HO5 := hide9 (HO4.out.trans hO (fun k hk => .inl hk)); have e0 := (H5.out.cells (n := 0) (by exact (rfl : _ = _))).1; clear CA hK hO H4; have CA := H5.out.trunc 1 0 E4; skip)
    | (go_at_call 46; refine CA.mono ?_; rintro e w6 ⟨rfl, hK, hO⟩; have H6 := hide9 hK; have HO6 := hide9 (HO5.out.trans hO (fun k hk => .inl hk)); have e0 := (H6.out.cells (n := 0) (by exact (rfl : _ = _))).1; clear CA hK hO H5; have CA := H6.out.sync 1 E5; skip)
    | (go_at_call 47; refine CA.mono ?_; rintro e w7 ⟨rfl, hK, hO⟩; have H7 := hide9 hK; have HO7 := hide9 (HO6.out.trans hO (fun k hk => .inl hk)); have e0 := (H7.out.cells (n := 0) (by exact (rfl : _ = _))).1; clear CA hK hO H6; skip))
  go_ret
  exact ⟨rfl, H7.out, (Own.of HB.out).trans (HO7.out.mono9 (fun k hk => .inl hk)) (fun k hk => .inl hk)⟩
theorem RSnapJ_any {W : World} {P : Nat → Prop} {kb rb : Nat} {d : Dk.D} {gs : List (List UInt8)} (h : RK W P kb rb d gs) {v : Value} {rs : List (List UInt8)} (hv : RBs W v rs) (hz : ∀ r ∈ rs, r.length ≤ maxLen) (hn : rs.length ≤ 1000) (hon : d.on = true) {r : Int × Dk.D} (e : Hid (Jn.snaps d gs rs = r)) :
    Calls Try.prog 49 #[ptr kb 0, v] W (RKPost W P kb rb (r.1, r.2, gs)) := by
  have e' := e.out
  unfold Jn.snaps at e'
  by_cases hg : gs = []
  · subst hg
    rw [if_neg (by simp)] at e'
    by_cases ha : Jn.All rs
    · by_cases hf : d.left < ((Jn.frames rs).length : Int)
      · have hF : Jn.fits d 0 rs = 11 := by rw [Jn.fits_all ha, if_pos (by omega)]
        rw [hF] at e'
        simp only [ne_eq, Int.reduceEq, not_false_eq_true, if_true] at e'
        subst e'
        exact RSnap_full h hv hz hn ha hf
      · have hF : Jn.fits d 0 rs = 0 := by rw [Jn.fits_all ha, if_neg (by omega)]
        rw [hF] at e'
        simp only [ne_eq, not_true_eq_false, if_false] at e'
        unfold Jn.snap at e'
        rw [if_neg (by simp [hon])] at e'
        unfold Jn.write Jn.snap3 Jn.cut at e'
        have hle : ((Jn.frames rs).length : Int) ≤ d.left := by omega
        rcases h.fine.root with hrt | hrt
        · rw [hrt] at e'
          simp only [show (1 : Int) - 0 = 1 by decide] at e'
          obtain ⟨c1, d1, E1⟩ : ∃ c1 d1, d.append 1 (Jn.frames rs) = (c1, d1) := ⟨_, _, rfl⟩
          simp only [E1] at e'
          by_cases hc1 : c1 = 0
          rotate_left
          · have : r = (c1, d1) := by rw [← e'] <;> simp [hc1]
            subst this
            exact RSnap_00 h hv hz hn ha hle hrt hc1 (by exact E1)
          subst hc1
          simp only [ne_eq, not_true_eq_false, if_false] at e'
          obtain ⟨c2, d2, E2⟩ : ∃ c2 d2, d1.sync 1 = (c2, d2) := ⟨_, _, rfl⟩
          simp only [E2] at e'
          by_cases hc2 : c2 = 0
          rotate_left
          · have : r = (c2, d2) := by rw [← e'] <;> simp [hc2]
            subst this
            exact RSnap_01 h hv hz hn ha hle hrt hc2 (by exact E1) (by exact E2)
          subst hc2
          simp only [ne_eq, not_true_eq_false, if_false] at e'
          obtain ⟨c3, d3, E3⟩ : ∃ c3 d3, d2.switch 1 = (c3, d3) := ⟨_, _, rfl⟩
          simp only [E3] at e'
          by_cases hc3 : c3 = 0
          rotate_left
          · have : r = (c3, d3) := by rw [← e'] <;> simp [hc3]
            subst this
            exact RSnap_02 h hv hz hn ha hle hrt hc3 (by exact E1) (by exact E2) (by exact E3)
          subst hc3
          simp only [ne_eq, not_true_eq_false, if_false] at e'
          obtain ⟨c4, d4, E4⟩ : ∃ c4 d4, d3.trunc 0 0 = (c4, d4) := ⟨_, _, rfl⟩
          simp only [E4] at e'
          by_cases hc4 : c4 = 0
          rotate_left
          · have : r = (c4, d4) := by rw [← e'] <;> simp [hc4]
            subst this
            exact RSnap_03 h hv hz hn ha hle hrt hc4 (by exact E1) (by exact E2) (by exact E3) (by exact E4)
          subst hc4
          simp only [ne_eq, not_true_eq_false, if_false] at e'
          obtain ⟨c5, d5, E5⟩ : ∃ c5 d5, d4.sync 0 = (c5, d5) := ⟨_, _, rfl⟩
          simp only [E5] at e'
          by_cases hc5 : c5 = 0
          rotate_left
          · have : r = (c5, d5) := by rw [← e'] <;> simp [hc5]
            subst this
            exact RSnap_04 h hv hz hn ha hle hrt hc5 (by exact E1) (by exact E2) (by exact E3) (by exact E4) (by exact E5)
          subst hc5
          subst e'
          exact RSnap_05 h hv hz hn ha hle hrt (by exact E1) (by exact E2) (by exact E3) (by exact E4) (by exact E5)
        · rw [hrt] at e'
          simp only [show (1 : Int) - 1 = 0 by decide] at e'
          obtain ⟨c1, d1, E1⟩ : ∃ c1 d1, d.append 0 (Jn.frames rs) = (c1, d1) := ⟨_, _, rfl⟩
          simp only [E1] at e'
          by_cases hc1 : c1 = 0
          rotate_left
          · have : r = (c1, d1) := by rw [← e'] <;> simp [hc1]
            subst this
            exact RSnap_10 h hv hz hn ha hle hrt hc1 (by exact E1)
          subst hc1
          simp only [ne_eq, not_true_eq_false, if_false] at e'
          obtain ⟨c2, d2, E2⟩ : ∃ c2 d2, d1.sync 0 = (c2, d2) := ⟨_, _, rfl⟩
          simp only [E2] at e'
          by_cases hc2 : c2 = 0
          rotate_left
          · have : r = (c2, d2) := by rw [← e'] <;> simp [hc2]
            subst this
            exact RSnap_11 h hv hz hn ha hle hrt hc2 (by exact E1) (by exact E2)
          subst hc2
          simp only [ne_eq, not_true_eq_false, if_false] at e'
          obtain ⟨c3, d3, E3⟩ : ∃ c3 d3, d2.switch 0 = (c3, d3) := ⟨_, _, rfl⟩
          simp only [E3] at e'
          by_cases hc3 : c3 = 0
          rotate_left
          · have : r = (c3, d3) := by rw [← e'] <;> simp [hc3]
            subst this
            exact RSnap_12 h hv hz hn ha hle hrt hc3 (by exact E1) (by exact E2) (by exact E3)
          subst hc3
          simp only [ne_eq, not_true_eq_false, if_false] at e'
          obtain ⟨c4, d4, E4⟩ : ∃ c4 d4, d3.trunc 1 0 = (c4, d4) := ⟨_, _, rfl⟩
          simp only [E4] at e'
          by_cases hc4 : c4 = 0
          rotate_left
          · have : r = (c4, d4) := by rw [← e'] <;> simp [hc4]
            subst this
            exact RSnap_13 h hv hz hn ha hle hrt hc4 (by exact E1) (by exact E2) (by exact E3) (by exact E4)
          subst hc4
          simp only [ne_eq, not_true_eq_false, if_false] at e'
          obtain ⟨c5, d5, E5⟩ : ∃ c5 d5, d4.sync 1 = (c5, d5) := ⟨_, _, rfl⟩
          simp only [E5] at e'
          by_cases hc5 : c5 = 0
          rotate_left
          · have : r = (c5, d5) := by rw [← e'] <;> simp [hc5]
            subst this
            exact RSnap_14 h hv hz hn ha hle hrt hc5 (by exact E1) (by exact E2) (by exact E3) (by exact E4) (by exact E5)
          subst hc5
          subst e'
          exact RSnap_15 h hv hz hn ha hle hrt (by exact E1) (by exact E2) (by exact E3) (by exact E4) (by exact E5)
    · rw [Jn.fits_arg ha] at e'
      simp only [ne_eq, Int.reduceEq, not_false_eq_true, if_true] at e'
      subst e'
      exact RSnap_arg h hv hz hn ha
  · rw [if_pos hg] at e'
    subst e'
    by_cases ha : Jn.All rs
    · exact RSnap_stateYes h hg hv hz hn ha
    · exact RSnap_stateNo h hg hv hz hn ha
end Go.Proofs.Ytcjbceidgaieaaa
