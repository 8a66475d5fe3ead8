/- The contract of the document's Commit. -/
import Derived.Test.YtcjbceidgaieaaaKJoB2
set_option linter.unusedVariables false
set_option linter.unusedSimpArgs false
namespace Go.Proofs.Ytcjbceidgaieaaa
open Go.RowKit
theorem RE.root {W : World} {P : Nat → Prop} {rb : Nat} {d : Dk.D} (h : RE W P rb d) : W.cell? ⟨rb, 6, none⟩ = some (.int .i64 d.root) := by
  obtain ⟨fv, b0, s0, b1, s1, hr⟩ := h
  exact hr.cell 6
theorem RK.app {W : World} {P : Nat → Prop} {kb rb : Nat} {d : Dk.D} {gs : List (List UInt8)} (h : RK W P kb rb d gs) (f : Int) {y : Value} {l : List UInt8} (hy : RQ W P rb y l) (hl : l.length ≤ maxLen) {r : Int × Dk.D} (e : Hid (d.append f l = r)) : Calls Try.prog 70 #[ptr rb 0, .int .i64 f, y] W fun e w' => e = .returned (.int .i64 r.1) ∧ RK w' P kb rb r.2 gs ∧ Own (fun k => k = rb) W w' := by
  have hC := RAppend_any h.re h.new f y l hy.rd (fun w' hO => hy.rd.keep (fun k e hk => hO.block k hk (hy.bl k e).2.1)) hl
  rw [e.out] at hC
  refine hC.mono ?_
  rintro e w' ⟨rfl, hR, hO⟩
  exact ⟨rfl, h.disk hR hO, hO⟩
theorem RK.sync {W : World} {P : Nat → Prop} {kb rb : Nat} {d : Dk.D} {gs : List (List UInt8)} (h : RK W P kb rb d gs) (f : Int) {r : Int × Dk.D} (e : Hid (d.sync f = r)) : Calls Try.prog 47 #[ptr rb 0, .int .i64 f] W fun e w' => e = .returned (.int .i64 r.1) ∧ RK w' P kb rb r.2 gs ∧ Own (fun k => k = rb) W w' := by
  have hC := RSync_any h.re h.new f
  rw [e.out] at hC
  refine hC.mono ?_
  rintro e w' ⟨rfl, hR, hO⟩
  exact ⟨rfl, h.disk hR hO, hO⟩
theorem RK.trunc {W : World} {P : Nat → Prop} {kb rb : Nat} {d : Dk.D} {gs : List (List UInt8)} (h : RK W P kb rb d gs) (f n : Int) {r : Int × Dk.D} (e : Hid (d.trunc f n = r)) : Calls Try.prog 46 #[ptr rb 0, .int .i64 f, .int .i64 n] W fun e w' => e = .returned (.int .i64 r.1) ∧ RK w' P kb rb r.2 gs ∧ Own (fun k => k = rb) W w' := by
  have hC := RTruncate_any h.re f n
  rw [e.out] at hC
  refine hC.mono ?_
  rintro e w' ⟨rfl, hR, hO⟩
  exact ⟨rfl, h.disk hR hO, hO⟩
theorem RK.switch {W : World} {P : Nat → Prop} {kb rb : Nat} {d : Dk.D} {gs : List (List UInt8)} (h : RK W P kb rb d gs) (f : Int) {r : Int × Dk.D} (e : Hid (d.switch f = r)) : Calls Try.prog 69 #[ptr rb 0, .int .i64 f] W fun e w' => e = .returned (.int .i64 r.1) ∧ RK w' P kb rb r.2 gs ∧ Own (fun k => k = rb) W w' := by
  have hC := RSwitch_any h.re f
  rw [e.out] at hC
  refine hC.mono ?_
  rintro e w' ⟨rfl, hR, hO⟩
  exact ⟨rfl, h.disk hR hO, hO⟩
theorem put_root (d : Dk.D) (f : Int) (c : Dk.Cn) : (d.put f c).root = d.root := by unfold Dk.D.put; split <;> rfl
theorem act_root (d : Dk.D) (f ask : Int) (does : Dk.D → Dk.D) (h : (does d).root = d.root) : (d.act f ask does).2.root = d.root := by
  unfold Dk.D.act
  split
  · rfl
  · split
    · rfl
    · split
      · show (if d.behind = true then does d else d).root = d.root
        split
        · exact h
        · rfl
      · exact h
theorem append_root (d : Dk.D) (f : Int) (l : List UInt8) : (d.append f l).2.root = d.root := act_root d f _ _ (put_root d f _)
theorem trunc_root (d : Dk.D) (f n : Int) : (d.trunc f n).2.root = d.root := act_root d f _ _ (put_root d f _)
theorem sync_root (d : Dk.D) (f : Int) : (d.sync f).2.root = d.root := act_root d f _ _ (put_root d f _)
set_option maxHeartbeats 4000000 in
set_option maxRecDepth 100000 in
theorem RCommit_none {W : World} {P : Nat → Prop} {kb rb : Nat} {d : Dk.D} (h : RK W P kb rb d []) :
    Calls Try.prog 48 #[ptr kb 0] W (RKPost W P kb rb (0, d, [])) := by
  obtain ⟨d0, d2, ga, gc, d1, dq, df⟩ := h.cells (n := 0) (by exact (rfl : _ = _))
  have d2' : W.cell? ⟨kb, 2, none⟩ = some (.int .i64 0) := d2
  have HH := hide9 h
  clear h d0 d2 d1 dq df
  go_enter Try.func48, Try.ntmps48
  go_wp2
  go_ret
  exact RKPost.same HH.out (Below.refl _ _)
set_option maxHeartbeats 4000000 in
set_option maxRecDepth 100000 in
theorem RCommit_err {W : World} {P : Nat → Prop} {kb rb : Nat} {d d1 : Dk.D} {gs : List (List UInt8)} (h : RK W P kb rb d gs) (hg : gs ≠ []) {c : Int} (hc : c ≠ 0) (e : Hid (d.append d.root (Jn.frames gs) = (c, d1))) :
    Calls Try.prog 48 #[ptr kb 0] W (RKPost W P kb rb (c, d1, gs)) := by
  obtain ⟨gl, HGL⟩ : ∃ gl, Hid ((Jn.frames gs).length = gl) := ⟨_, rfl⟩
  have hs := h.small
  obtain ⟨-, k2, -, -, -, -, -⟩ := h.cells HGL
  have HD1 : Hid (d1.root = d.root) := by have := append_root d d.root (Jn.frames gs); rw [e.out] at this; exact this
  have H9 := hide9 (h.below (bel_drew W))
  obtain ⟨gv, hbk, xq⟩ := H9.out.ex
  obtain ⟨ga, gc, hgv⟩ := xq.rd.form
  rw [HGL.out] at hgv
  subst hgv
  have H1 : Hid (W.drew.heap[kb]? = some (.cells #[ptr rb 0, .slice ga gl gc, .int .i64 (gs.length : Int)] 43 (0, 0))) := hbk
  have CA := hide9 (H9.out.app d.root xq (by unfold maxLen; omega) e)
  have y6 := H9.out.re.root
  have HLT := hide9 H9.out.lt
  have HNE := hide9 h.ne
  have hnb : ((gs.length : Int) == 0) = false := by
    have : gs.length ≠ 0 := fun hx => hg (List.eq_nil_of_length_eq_zero hx)
    simpa using hg
  have hcb : (c == 0) = false := by simpa using hc
  clear h hg xq e hbk H9
  generalize d.root = rt at *
  go_enter Try.func48, Try.ntmps48
  go_wp2
  obtain ⟨S, hS1⟩ : ∃ S : World → Prop, ∀ W', S W' ↔ (W'.heap[kb]? = some (.cells #[ptr rb 0, .slice ga gl gc, .int .i64 (gs.length : Int)] 43 (0, 0)) ∧ W'.cell? ⟨rb, 6, none⟩ = some (.int .i64 rt)) := ⟨_, fun _ => Iff.rfl⟩
  refine wp_region_held_drew (S := S) (by kernel_rfl) ((hS1 _).2 ⟨H1.out, y6⟩) (fun hS => ?_)
  refine takeH9 0 9 (ptr kb 0) rfl rfl (by kernel_rfl) (by kernel_rfl) (by kernel_rfl) (fun _ _ _ h => h) (Or.inl ⟨by kernel_rfl, fun W _ => by go_simp⟩) hS ?_
  try simp only [Act.put, List.setIfInBounds_toArray, List.set_cons_zero, List.set_cons_succ]
  refine takeH9 1 10 (.pointer (some ⟨kb, 0, none⟩)) rfl rfl (by kernel_rfl) (by kernel_rfl) (by kernel_rfl) (fun _ _ _ h => h) (Or.inl ⟨by kernel_rfl, fun W _ => by go_simp⟩) hS ?_
  try simp only [Act.put, List.setIfInBounds_toArray, List.set_cons_zero, List.set_cons_succ]
  refine takeH9 2 11 (.pointer (some ⟨kb, 0, none⟩)) rfl rfl (by kernel_rfl) (by kernel_rfl) (by kernel_rfl) (fun _ _ _ h => h) (Or.inl ⟨by kernel_rfl, fun W _ => by go_simp⟩) hS ?_
  try simp only [Act.put, List.setIfInBounds_toArray, List.set_cons_zero, List.set_cons_succ]
  refine takeH9 3 12 (ptr rb 0) rfl rfl (by kernel_rfl) (by kernel_rfl) (by kernel_rfl) (fun _ _ _ h => h) (Or.inl ⟨by kernel_rfl, fun W h => by have hcx : W.cell? ⟨kb, 0, none⟩ = some (ptr rb 0) := Lib.cell_of_heap ((hS1 W).1 h).1 0; go_simp⟩) hS ?_
  try simp only [Act.put, List.setIfInBounds_toArray, List.set_cons_zero, List.set_cons_succ]
  refine takeH9 4 13 (ptr kb 0) rfl rfl (by kernel_rfl) (by kernel_rfl) (by kernel_rfl) (fun _ _ _ h => h) (Or.inl ⟨by kernel_rfl, fun W _ => by go_simp⟩) hS ?_
  try simp only [Act.put, List.setIfInBounds_toArray, List.set_cons_zero, List.set_cons_succ]
  refine takeH9 5 14 (.pointer (some ⟨kb, 0, none⟩)) rfl rfl (by kernel_rfl) (by kernel_rfl) (by kernel_rfl) (fun _ _ _ h => h) (Or.inl ⟨by kernel_rfl, fun W _ => by go_simp⟩) hS ?_
  try simp only [Act.put, List.setIfInBounds_toArray, List.set_cons_zero, List.set_cons_succ]
  refine takeH9 6 15 (.pointer (some ⟨kb, 0, none⟩)) rfl rfl (by kernel_rfl) (by kernel_rfl) (by kernel_rfl) (fun _ _ _ h => h) (Or.inl ⟨by kernel_rfl, fun W _ => by go_simp⟩) hS ?_
  try simp only [Act.put, List.setIfInBounds_toArray, List.set_cons_zero, List.set_cons_succ]
  refine takeH9 7 16 (ptr rb 0) rfl rfl (by kernel_rfl) (by kernel_rfl) (by kernel_rfl) (fun _ _ _ h => h) (Or.inl ⟨by kernel_rfl, fun W h => by have hcx : W.cell? ⟨kb, 0, none⟩ = some (ptr rb 0) := Lib.cell_of_heap ((hS1 W).1 h).1 0; go_simp⟩) hS ?_
  try simp only [Act.put, List.setIfInBounds_toArray, List.set_cons_zero, List.set_cons_succ]
  refine takeH9 8 17 (.pointer (some ⟨rb, 0, none⟩)) rfl rfl (by kernel_rfl) (by kernel_rfl) (by kernel_rfl) (fun _ _ _ h => h) (Or.inl ⟨by kernel_rfl, fun W _ => by go_simp⟩) hS ?_
  try simp only [Act.put, List.setIfInBounds_toArray, List.set_cons_zero, List.set_cons_succ]
  refine takeH9 9 18 (.pointer (some ⟨rb, 6, none⟩)) rfl rfl (by kernel_rfl) (by kernel_rfl) (by kernel_rfl) (fun _ _ _ h => h) (Or.inl ⟨by kernel_rfl, fun W _ => by go_simp⟩) hS ?_
  try simp only [Act.put, List.setIfInBounds_toArray, List.set_cons_zero, List.set_cons_succ]
  refine takeH9 10 19 (.int .i64 rt) rfl rfl (by kernel_rfl) (by kernel_rfl) (by kernel_rfl) (fun _ _ _ h => h) (Or.inl ⟨by kernel_rfl, fun W h => by have hcx := ((hS1 W).1 h).2; go_simp⟩) hS ?_
  try simp only [Act.put, List.setIfInBounds_toArray, List.set_cons_zero, List.set_cons_succ]
  refine takeH9 11 20 (ptr kb 0) rfl rfl (by kernel_rfl) (by kernel_rfl) (by kernel_rfl) (fun _ _ _ h => h) (Or.inl ⟨by kernel_rfl, fun W _ => by go_simp⟩) hS ?_
  try simp only [Act.put, List.setIfInBounds_toArray, List.set_cons_zero, List.set_cons_succ]
  refine takeH9 12 21 (.pointer (some ⟨kb, 0, none⟩)) rfl rfl (by kernel_rfl) (by kernel_rfl) (by kernel_rfl) (fun _ _ _ h => h) (Or.inl ⟨by kernel_rfl, fun W _ => by go_simp⟩) hS ?_
  try simp only [Act.put, List.setIfInBounds_toArray, List.set_cons_zero, List.set_cons_succ]
  refine takeH9 13 22 (.pointer (some ⟨kb, 1, none⟩)) rfl rfl (by kernel_rfl) (by kernel_rfl) (by kernel_rfl) (fun _ _ _ h => h) (Or.inl ⟨by kernel_rfl, fun W _ => by go_simp⟩) hS ?_
  try simp only [Act.put, List.setIfInBounds_toArray, List.set_cons_zero, List.set_cons_succ]
  refine takeH9 14 23 (.slice ga gl gc) rfl rfl (by kernel_rfl) (by kernel_rfl) (by kernel_rfl) (fun _ _ _ h => h) (Or.inl ⟨by kernel_rfl, fun W h => by have hcx : W.cell? ⟨kb, 1, none⟩ = some (.slice ga gl gc) := Lib.cell_of_heap ((hS1 W).1 h).1 1; go_simp⟩) hS ?_
  try simp only [Act.put, List.setIfInBounds_toArray, List.set_cons_zero, List.set_cons_succ]
  refine wpAnyH_ready (rs := [15]) (by kernel_rfl) (by simp) ?_
  refine AllReadyH.cons rfl (fun K hK => ?_) AllReadyH.nil
  go_simp
  refine (CA.out).mono ?_
  rintro e w2 ⟨rfl, hK2, hO2⟩
  have HB2 : Hid (w2.heap[kb]? = some (.cells #[ptr rb 0, .slice ga gl gc, .int .i64 (gs.length : Int)] 43 (0, 0))) := (hO2.block kb HLT.out HNE.out).trans H1.out
  have z6 := hK2.re.root
  rw [HD1.out] at z6
  have HK2 := hide9 hK2
  have HO2 := hide9 ((Own.of (bel_drew W)).trans hO2 (fun k hk => .inl hk))
  clear hK2 hO2
  refine hK.out _ _ ((hS1 _).2 ⟨HB2.out, z6⟩) (fun hS => ?_)
  clear hK K
  try simp only [Act.put, List.setIfInBounds_toArray, List.set_cons_zero, List.set_cons_succ]
  refine takeH9 16 3 (.int .i64 c) rfl rfl (by kernel_rfl) (by kernel_rfl) (by kernel_rfl) (fun _ _ _ h => h) (Or.inl ⟨by kernel_rfl, fun W _ => by go_simp⟩) hS ?_
  try simp only [Act.put, List.setIfInBounds_toArray, List.set_cons_zero, List.set_cons_succ]
  refine wpAnyH_done (by kernel_rfl) ?_ _
  clear hS hS1 H1 CA y6
  go_wp2
  go_ret
  exact ⟨rfl, HK2.out, HO2.out.mono9 (fun k hk => .inl hk)⟩
set_option maxHeartbeats 4000000 in
set_option maxRecDepth 100000 in
theorem RCommit_late {W : World} {P : Nat → Prop} {kb rb : Nat} {d d1 d2 : Dk.D} {gs : List (List UInt8)} (h : RK W P kb rb d gs) (hg : gs ≠ []) {c : Int} (hc : c ≠ 0) (e : Hid (d.append d.root (Jn.frames gs) = (0, d1))) (e2 : Hid (d1.sync d.root = (c, d2))) :
    Calls Try.prog 48 #[ptr kb 0] W (RKPost W P kb rb (c, d2, gs)) := by
  obtain ⟨gl, HGL⟩ : ∃ gl, Hid ((Jn.frames gs).length = gl) := ⟨_, rfl⟩
  have hs := h.small
  obtain ⟨-, k2, -, -, -, -, -⟩ := h.cells HGL
  have HD1 : Hid (d1.root = d.root) := by have := append_root d d.root (Jn.frames gs); rw [e.out] at this; exact this
  have HD2 : Hid (d2.root = d.root) := by have := sync_root d1 d.root; rw [e2.out] at this; exact this.trans HD1.out
  have H9 := hide9 (h.below (bel_drew W))
  obtain ⟨gv, hbk, xq⟩ := H9.out.ex
  obtain ⟨ga, gc, hgv⟩ := xq.rd.form
  rw [HGL.out] at hgv
  subst hgv
  have H1 : Hid (W.drew.heap[kb]? = some (.cells #[ptr rb 0, .slice ga gl gc, .int .i64 (gs.length : Int)] 43 (0, 0))) := hbk
  have CA := hide9 (H9.out.app d.root xq (by unfold maxLen; omega) e)
  have y6 := H9.out.re.root
  have HLT := hide9 H9.out.lt
  have HNE := hide9 h.ne
  have hnb : ((gs.length : Int) == 0) = false := by
    have : gs.length ≠ 0 := fun hx => hg (List.eq_nil_of_length_eq_zero hx)
    simpa using hg
  have hcb : (c == 0) = false := by simpa using hc
  clear h hg xq e hbk H9
  generalize d.root = rt at *
  go_enter Try.func48, Try.ntmps48
  go_wp2
  obtain ⟨S, hS1⟩ : ∃ S : World → Prop, ∀ W', S W' ↔ (W'.heap[kb]? = some (.cells #[ptr rb 0, .slice ga gl gc, .int .i64 (gs.length : Int)] 43 (0, 0)) ∧ W'.cell? ⟨rb, 6, none⟩ = some (.int .i64 rt)) := ⟨_, fun _ => Iff.rfl⟩
  refine wp_region_held_drew (S := S) (by kernel_rfl) ((hS1 _).2 ⟨H1.out, y6⟩) (fun hS => ?_)
  refine takeH9 0 9 (ptr kb 0) rfl rfl (by kernel_rfl) (by kernel_rfl) (by kernel_rfl) (fun _ _ _ h => h) (Or.inl ⟨by kernel_rfl, fun W _ => by go_simp⟩) hS ?_
  try simp only [Act.put, List.setIfInBounds_toArray, List.set_cons_zero, List.set_cons_succ]
  refine takeH9 1 10 (.pointer (some ⟨kb, 0, none⟩)) rfl rfl (by kernel_rfl) (by kernel_rfl) (by kernel_rfl) (fun _ _ _ h => h) (Or.inl ⟨by kernel_rfl, fun W _ => by go_simp⟩) hS ?_
  try simp only [Act.put, List.setIfInBounds_toArray, List.set_cons_zero, List.set_cons_succ]
  refine takeH9 2 11 (.pointer (some ⟨kb, 0, none⟩)) rfl rfl (by kernel_rfl) (by kernel_rfl) (by kernel_rfl) (fun _ _ _ h => h) (Or.inl ⟨by kernel_rfl, fun W _ => by go_simp⟩) hS ?_
  try simp only [Act.put, List.setIfInBounds_toArray, List.set_cons_zero, List.set_cons_succ]
  refine takeH9 3 12 (ptr rb 0) rfl rfl (by kernel_rfl) (by kernel_rfl) (by kernel_rfl) (fun _ _ _ h => h) (Or.inl ⟨by kernel_rfl, fun W h => by have hcx : W.cell? ⟨kb, 0, none⟩ = some (ptr rb 0) := Lib.cell_of_heap ((hS1 W).1 h).1 0; go_simp⟩) hS ?_
  try simp only [Act.put, List.setIfInBounds_toArray, List.set_cons_zero, List.set_cons_succ]
  refine takeH9 4 13 (ptr kb 0) rfl rfl (by kernel_rfl) (by kernel_rfl) (by kernel_rfl) (fun _ _ _ h => h) (Or.inl ⟨by kernel_rfl, fun W _ => by go_simp⟩) hS ?_
  try simp only [Act.put, List.setIfInBounds_toArray, List.set_cons_zero, List.set_cons_succ]
  refine takeH9 5 14 (.pointer (some ⟨kb, 0, none⟩)) rfl rfl (by kernel_rfl) (by kernel_rfl) (by kernel_rfl) (fun _ _ _ h => h) (Or.inl ⟨by kernel_rfl, fun W _ => by go_simp⟩) hS ?_
  try simp only [Act.put, List.setIfInBounds_toArray, List.set_cons_zero, List.set_cons_succ]
  refine takeH9 6 15 (.pointer (some ⟨kb, 0, none⟩)) rfl rfl (by kernel_rfl) (by kernel_rfl) (by kernel_rfl) (fun _ _ _ h => h) (Or.inl ⟨by kernel_rfl, fun W _ => by go_simp⟩) hS ?_
  try simp only [Act.put, List.setIfInBounds_toArray, List.set_cons_zero, List.set_cons_succ]
  refine takeH9 7 16 (ptr rb 0) rfl rfl (by kernel_rfl) (by kernel_rfl) (by kernel_rfl) (fun _ _ _ h => h) (Or.inl ⟨by kernel_rfl, fun W h => by have hcx : W.cell? ⟨kb, 0, none⟩ = some (ptr rb 0) := Lib.cell_of_heap ((hS1 W).1 h).1 0; go_simp⟩) hS ?_
  try simp only [Act.put, List.setIfInBounds_toArray, List.set_cons_zero, List.set_cons_succ]
  refine takeH9 8 17 (.pointer (some ⟨rb, 0, none⟩)) rfl rfl (by kernel_rfl) (by kernel_rfl) (by kernel_rfl) (fun _ _ _ h => h) (Or.inl ⟨by kernel_rfl, fun W _ => by go_simp⟩) hS ?_
  try simp only [Act.put, List.setIfInBounds_toArray, List.set_cons_zero, List.set_cons_succ]
  refine takeH9 9 18 (.pointer (some ⟨rb, 6, none⟩)) rfl rfl (by kernel_rfl) (by kernel_rfl) (by kernel_rfl) (fun _ _ _ h => h) (Or.inl ⟨by kernel_rfl, fun W _ => by go_simp⟩) hS ?_
  try simp only [Act.put, List.setIfInBounds_toArray, List.set_cons_zero, List.set_cons_succ]
  refine takeH9 10 19 (.int .i64 rt) rfl rfl (by kernel_rfl) (by kernel_rfl) (by kernel_rfl) (fun _ _ _ h => h) (Or.inl ⟨by kernel_rfl, fun W h => by have hcx := ((hS1 W).1 h).2; go_simp⟩) hS ?_
  try simp only [Act.put, List.setIfInBounds_toArray, List.set_cons_zero, List.set_cons_succ]
  refine takeH9 11 20 (ptr kb 0) rfl rfl (by kernel_rfl) (by kernel_rfl) (by kernel_rfl) (fun _ _ _ h => h) (Or.inl ⟨by kernel_rfl, fun W _ => by go_simp⟩) hS ?_
  try simp only [Act.put, List.setIfInBounds_toArray, List.set_cons_zero, List.set_cons_succ]
  refine takeH9 12 21 (.pointer (some ⟨kb, 0, none⟩)) rfl rfl (by kernel_rfl) (by kernel_rfl) (by kernel_rfl) (fun _ _ _ h => h) (Or.inl ⟨by kernel_rfl, fun W _ => by go_simp⟩) hS ?_
  try simp only [Act.put, List.setIfInBounds_toArray, List.set_cons_zero, List.set_cons_succ]
  refine takeH9 13 22 (.pointer (some ⟨kb, 1, none⟩)) rfl rfl (by kernel_rfl) (by kernel_rfl) (by kernel_rfl) (fun _ _ _ h => h) (Or.inl ⟨by kernel_rfl, fun W _ => by go_simp⟩) hS ?_
  try simp only [Act.put, List.setIfInBounds_toArray, List.set_cons_zero, List.set_cons_succ]
  refine takeH9 14 23 (.slice ga gl gc) rfl rfl (by kernel_rfl) (by kernel_rfl) (by kernel_rfl) (fun _ _ _ h => h) (Or.inl ⟨by kernel_rfl, fun W h => by have hcx : W.cell? ⟨kb, 1, none⟩ = some (.slice ga gl gc) := Lib.cell_of_heap ((hS1 W).1 h).1 1; go_simp⟩) hS ?_
  try simp only [Act.put, List.setIfInBounds_toArray, List.set_cons_zero, List.set_cons_succ]
  refine wpAnyH_ready (rs := [15]) (by kernel_rfl) (by simp) ?_
  refine AllReadyH.cons rfl (fun K hK => ?_) AllReadyH.nil
  go_simp
  refine (CA.out).mono ?_
  rintro e w2 ⟨rfl, hK2, hO2⟩
  have HB2 : Hid (w2.heap[kb]? = some (.cells #[ptr rb 0, .slice ga gl gc, .int .i64 (gs.length : Int)] 43 (0, 0))) := (hO2.block kb HLT.out HNE.out).trans H1.out
  have z6 := hK2.re.root
  rw [HD1.out] at z6
  have HK2 := hide9 hK2
  have HO2 := hide9 ((Own.of (bel_drew W)).trans hO2 (fun k hk => .inl hk))
  clear hK2 hO2
  refine hK.out _ _ ((hS1 _).2 ⟨HB2.out, z6⟩) (fun hS => ?_)
  clear hK K
  try simp only [Act.put, List.setIfInBounds_toArray, List.set_cons_zero, List.set_cons_succ]
  refine takeH9 16 3 (.int .i64 0) rfl rfl (by kernel_rfl) (by kernel_rfl) (by kernel_rfl) (fun _ _ _ h => h) (Or.inl ⟨by kernel_rfl, fun W _ => by go_simp⟩) hS ?_
  try simp only [Act.put, List.setIfInBounds_toArray, List.set_cons_zero, List.set_cons_succ]
  refine wpAnyH_done (by kernel_rfl) ?_ _
  clear hS hS1 H1 CA y6
  have H2 := hide9 (HK2.out.below (bel_drew w2))
  have CS := hide9 (H2.out.sync rt e2)
  have HB3 : Hid (w2.drew.heap[kb]? = some (.cells #[ptr rb 0, .slice ga gl gc, .int .i64 (gs.length : Int)] 43 (0, 0))) := HB2.out
  have HLT2 := hide9 H2.out.lt
  go_wp2
  obtain ⟨S, hS1⟩ : ∃ S : World → Prop, ∀ W', S W' ↔ (W'.heap[kb]? = some (.cells #[ptr rb 0, .slice ga gl gc, .int .i64 (gs.length : Int)] 43 (0, 0)) ∧ W'.cell? ⟨rb, 6, none⟩ = some (.int .i64 rt)) := ⟨_, fun _ => Iff.rfl⟩
  refine wp_region_held_drew (S := S) (by kernel_rfl) ((hS1 _).2 ⟨HB3.out, z6⟩) (fun hS => ?_)
  refine takeH9 0 27 (ptr kb 0) rfl rfl (by kernel_rfl) (by kernel_rfl) (by kernel_rfl) (fun _ _ _ h => h) (Or.inl ⟨by kernel_rfl, fun W _ => by go_simp⟩) hS ?_
  try simp only [Act.put, List.setIfInBounds_toArray, List.set_cons_zero, List.set_cons_succ]
  refine takeH9 1 28 (.pointer (some ⟨kb, 0, none⟩)) rfl rfl (by kernel_rfl) (by kernel_rfl) (by kernel_rfl) (fun _ _ _ h => h) (Or.inl ⟨by kernel_rfl, fun W _ => by go_simp⟩) hS ?_
  try simp only [Act.put, List.setIfInBounds_toArray, List.set_cons_zero, List.set_cons_succ]
  refine takeH9 2 29 (.pointer (some ⟨kb, 0, none⟩)) rfl rfl (by kernel_rfl) (by kernel_rfl) (by kernel_rfl) (fun _ _ _ h => h) (Or.inl ⟨by kernel_rfl, fun W _ => by go_simp⟩) hS ?_
  try simp only [Act.put, List.setIfInBounds_toArray, List.set_cons_zero, List.set_cons_succ]
  refine takeH9 3 30 (ptr rb 0) rfl rfl (by kernel_rfl) (by kernel_rfl) (by kernel_rfl) (fun _ _ _ h => h) (Or.inl ⟨by kernel_rfl, fun W h => by have hcx : W.cell? ⟨kb, 0, none⟩ = some (ptr rb 0) := Lib.cell_of_heap ((hS1 W).1 h).1 0; go_simp⟩) hS ?_
  try simp only [Act.put, List.setIfInBounds_toArray, List.set_cons_zero, List.set_cons_succ]
  refine takeH9 4 31 (ptr kb 0) rfl rfl (by kernel_rfl) (by kernel_rfl) (by kernel_rfl) (fun _ _ _ h => h) (Or.inl ⟨by kernel_rfl, fun W _ => by go_simp⟩) hS ?_
  try simp only [Act.put, List.setIfInBounds_toArray, List.set_cons_zero, List.set_cons_succ]
  refine takeH9 5 32 (.pointer (some ⟨kb, 0, none⟩)) rfl rfl (by kernel_rfl) (by kernel_rfl) (by kernel_rfl) (fun _ _ _ h => h) (Or.inl ⟨by kernel_rfl, fun W _ => by go_simp⟩) hS ?_
  try simp only [Act.put, List.setIfInBounds_toArray, List.set_cons_zero, List.set_cons_succ]
  refine takeH9 6 33 (.pointer (some ⟨kb, 0, none⟩)) rfl rfl (by kernel_rfl) (by kernel_rfl) (by kernel_rfl) (fun _ _ _ h => h) (Or.inl ⟨by kernel_rfl, fun W _ => by go_simp⟩) hS ?_
  try simp only [Act.put, List.setIfInBounds_toArray, List.set_cons_zero, List.set_cons_succ]
  refine takeH9 7 34 (ptr rb 0) rfl rfl (by kernel_rfl) (by kernel_rfl) (by kernel_rfl) (fun _ _ _ h => h) (Or.inl ⟨by kernel_rfl, fun W h => by have hcx : W.cell? ⟨kb, 0, none⟩ = some (ptr rb 0) := Lib.cell_of_heap ((hS1 W).1 h).1 0; go_simp⟩) hS ?_
  try simp only [Act.put, List.setIfInBounds_toArray, List.set_cons_zero, List.set_cons_succ]
  refine takeH9 8 35 (.pointer (some ⟨rb, 0, none⟩)) rfl rfl (by kernel_rfl) (by kernel_rfl) (by kernel_rfl) (fun _ _ _ h => h) (Or.inl ⟨by kernel_rfl, fun W _ => by go_simp⟩) hS ?_
  try simp only [Act.put, List.setIfInBounds_toArray, List.set_cons_zero, List.set_cons_succ]
  refine takeH9 9 36 (.pointer (some ⟨rb, 6, none⟩)) rfl rfl (by kernel_rfl) (by kernel_rfl) (by kernel_rfl) (fun _ _ _ h => h) (Or.inl ⟨by kernel_rfl, fun W _ => by go_simp⟩) hS ?_
  try simp only [Act.put, List.setIfInBounds_toArray, List.set_cons_zero, List.set_cons_succ]
  refine takeH9 10 37 (.int .i64 rt) rfl rfl (by kernel_rfl) (by kernel_rfl) (by kernel_rfl) (fun _ _ _ h => h) (Or.inl ⟨by kernel_rfl, fun W h => by have hcx := ((hS1 W).1 h).2; go_simp⟩) hS ?_
  try simp only [Act.put, List.setIfInBounds_toArray, List.set_cons_zero, List.set_cons_succ]
  refine wpAnyH_ready (rs := [11]) (by kernel_rfl) (by simp) ?_
  refine AllReadyH.cons rfl (fun K hK => ?_) AllReadyH.nil
  go_simp
  refine (CS.out).mono ?_
  rintro e w3 ⟨rfl, hK3, hO3⟩
  have HB4 : Hid (w3.heap[kb]? = some (.cells #[ptr rb 0, .slice ga gl gc, .int .i64 (gs.length : Int)] 43 (0, 0))) := (hO3.block kb HLT2.out HNE.out).trans HB3.out
  have u6 := hK3.re.root
  rw [HD2.out] at u6
  have HK3 := hide9 hK3
  have HO3 := hide9 ((HO2.out.trans (Own.of (T := fun _ => False) (bel_drew w2)) (fun k hk => hk.elim)).trans hO3 (fun k hk => .inl hk))
  clear hK3 hO3
  refine hK.out _ _ ((hS1 _).2 ⟨HB4.out, u6⟩) (fun hS => ?_)
  clear hK K
  try simp only [Act.put, List.setIfInBounds_toArray, List.set_cons_zero, List.set_cons_succ]
  refine takeH9 12 3 (.int .i64 c) rfl rfl (by kernel_rfl) (by kernel_rfl) (by kernel_rfl) (fun _ _ _ h => h) (Or.inl ⟨by kernel_rfl, fun W _ => by go_simp⟩) hS ?_
  try simp only [Act.put, List.setIfInBounds_toArray, List.set_cons_zero, List.set_cons_succ]
  refine wpAnyH_done (by kernel_rfl) ?_ _
  clear hS hS1 CS z6 u6
  go_wp2
  go_ret
  exact ⟨rfl, HK3.out, HO3.out.mono9 (fun k hk => .inl hk)⟩
set_option maxHeartbeats 4000000 in
set_option maxRecDepth 100000 in
theorem RCommit_yes {W : World} {P : Nat → Prop} {kb rb : Nat} {d d1 d2 : Dk.D} {gs : List (List UInt8)} (h : RK W P kb rb d gs) (hg : gs ≠ []) (e : Hid (d.append d.root (Jn.frames gs) = (0, d1))) (e2 : Hid (d1.sync d.root = (0, d2))) :
    Calls Try.prog 48 #[ptr kb 0] W (RKPost W P kb rb (0, d2, [])) := by
  obtain ⟨gl, HGL⟩ : ∃ gl, Hid ((Jn.frames gs).length = gl) := ⟨_, rfl⟩
  have hs := h.small
  obtain ⟨-, k2, -, -, -, -, -⟩ := h.cells HGL
  have HD1 : Hid (d1.root = d.root) := by have := append_root d d.root (Jn.frames gs); rw [e.out] at this; exact this
  have HD2 : Hid (d2.root = d.root) := by have := sync_root d1 d.root; rw [e2.out] at this; exact this.trans HD1.out
  have H9 := hide9 (h.below (bel_drew W))
  obtain ⟨gv, hbk, xq⟩ := H9.out.ex
  obtain ⟨ga, gc, hgv⟩ := xq.rd.form
  rw [HGL.out] at hgv
  subst hgv
  have H1 : Hid (W.drew.heap[kb]? = some (.cells #[ptr rb 0, .slice ga gl gc, .int .i64 (gs.length : Int)] 43 (0, 0))) := hbk
  have CA := hide9 (H9.out.app d.root xq (by unfold maxLen; omega) e)
  have y6 := H9.out.re.root
  have HLT := hide9 H9.out.lt
  have HNE := hide9 h.ne
  have hnb : ((gs.length : Int) == 0) = false := by
    have : gs.length ≠ 0 := fun hx => hg (List.eq_nil_of_length_eq_zero hx)
    simpa using hg
  clear h hg xq e hbk H9
  generalize d.root = rt at *
  go_enter Try.func48, Try.ntmps48
  go_wp2
  obtain ⟨S, hS1⟩ : ∃ S : World → Prop, ∀ W', S W' ↔ (W'.heap[kb]? = some (.cells #[ptr rb 0, .slice ga gl gc, .int .i64 (gs.length : Int)] 43 (0, 0)) ∧ W'.cell? ⟨rb, 6, none⟩ = some (.int .i64 rt)) := ⟨_, fun _ => Iff.rfl⟩
  refine wp_region_held_drew (S := S) (by kernel_rfl) ((hS1 _).2 ⟨H1.out, y6⟩) (fun hS => ?_)
  refine takeH9 0 9 (ptr kb 0) rfl rfl (by kernel_rfl) (by kernel_rfl) (by kernel_rfl) (fun _ _ _ h => h) (Or.inl ⟨by kernel_rfl, fun W _ => by go_simp⟩) hS ?_
  try simp only [Act.put, List.setIfInBounds_toArray, List.set_cons_zero, List.set_cons_succ]
  refine takeH9 1 10 (.pointer (some ⟨kb, 0, none⟩)) rfl rfl (by kernel_rfl) (by kernel_rfl) (by kernel_rfl) (fun _ _ _ h => h) (Or.inl ⟨by kernel_rfl, fun W _ => by go_simp⟩) hS ?_
  try simp only [Act.put, List.setIfInBounds_toArray, List.set_cons_zero, List.set_cons_succ]
  refine takeH9 2 11 (.pointer (some ⟨kb, 0, none⟩)) rfl rfl (by kernel_rfl) (by kernel_rfl) (by kernel_rfl) (fun _ _ _ h => h) (Or.inl ⟨by kernel_rfl, fun W _ => by go_simp⟩) hS ?_
  try simp only [Act.put, List.setIfInBounds_toArray, List.set_cons_zero, List.set_cons_succ]
  refine takeH9 3 12 (ptr rb 0) rfl rfl (by kernel_rfl) (by kernel_rfl) (by kernel_rfl) (fun _ _ _ h => h) (Or.inl ⟨by kernel_rfl, fun W h => by have hcx : W.cell? ⟨kb, 0, none⟩ = some (ptr rb 0) := Lib.cell_of_heap ((hS1 W).1 h).1 0; go_simp⟩) hS ?_
  try simp only [Act.put, List.setIfInBounds_toArray, List.set_cons_zero, List.set_cons_succ]
  refine takeH9 4 13 (ptr kb 0) rfl rfl (by kernel_rfl) (by kernel_rfl) (by kernel_rfl) (fun _ _ _ h => h) (Or.inl ⟨by kernel_rfl, fun W _ => by go_simp⟩) hS ?_
  try simp only [Act.put, List.setIfInBounds_toArray, List.set_cons_zero, List.set_cons_succ]
  refine takeH9 5 14 (.pointer (some ⟨kb, 0, none⟩)) rfl rfl (by kernel_rfl) (by kernel_rfl) (by kernel_rfl) (fun _ _ _ h => h) (Or.inl ⟨by kernel_rfl, fun W _ => by go_simp⟩) hS ?_
  try simp only [Act.put, List.setIfInBounds_toArray, List.set_cons_zero, List.set_cons_succ]
  refine takeH9 6 15 (.pointer (some ⟨kb, 0, none⟩)) rfl rfl (by kernel_rfl) (by kernel_rfl) (by kernel_rfl) (fun _ _ _ h => h) (Or.inl ⟨by kernel_rfl, fun W _ => by go_simp⟩) hS ?_
  try simp only [Act.put, List.setIfInBounds_toArray, List.set_cons_zero, List.set_cons_succ]
  refine takeH9 7 16 (ptr rb 0) rfl rfl (by kernel_rfl) (by kernel_rfl) (by kernel_rfl) (fun _ _ _ h => h) (Or.inl ⟨by kernel_rfl, fun W h => by have hcx : W.cell? ⟨kb, 0, none⟩ = some (ptr rb 0) := Lib.cell_of_heap ((hS1 W).1 h).1 0; go_simp⟩) hS ?_
  try simp only [Act.put, List.setIfInBounds_toArray, List.set_cons_zero, List.set_cons_succ]
  refine takeH9 8 17 (.pointer (some ⟨rb, 0, none⟩)) rfl rfl (by kernel_rfl) (by kernel_rfl) (by kernel_rfl) (fun _ _ _ h => h) (Or.inl ⟨by kernel_rfl, fun W _ => by go_simp⟩) hS ?_
  try simp only [Act.put, List.setIfInBounds_toArray, List.set_cons_zero, List.set_cons_succ]
  refine takeH9 9 18 (.pointer (some ⟨rb, 6, none⟩)) rfl rfl (by kernel_rfl) (by kernel_rfl) (by kernel_rfl) (fun _ _ _ h => h) (Or.inl ⟨by kernel_rfl, fun W _ => by go_simp⟩) hS ?_
  try simp only [Act.put, List.setIfInBounds_toArray, List.set_cons_zero, List.set_cons_succ]
  refine takeH9 10 19 (.int .i64 rt) rfl rfl (by kernel_rfl) (by kernel_rfl) (by kernel_rfl) (fun _ _ _ h => h) (Or.inl ⟨by kernel_rfl, fun W h => by have hcx := ((hS1 W).1 h).2; go_simp⟩) hS ?_
  try simp only [Act.put, List.setIfInBounds_toArray, List.set_cons_zero, List.set_cons_succ]
  refine takeH9 11 20 (ptr kb 0) rfl rfl (by kernel_rfl) (by kernel_rfl) (by kernel_rfl) (fun _ _ _ h => h) (Or.inl ⟨by kernel_rfl, fun W _ => by go_simp⟩) hS ?_
  try simp only [Act.put, List.setIfInBounds_toArray, List.set_cons_zero, List.set_cons_succ]
  refine takeH9 12 21 (.pointer (some ⟨kb, 0, none⟩)) rfl rfl (by kernel_rfl) (by kernel_rfl) (by kernel_rfl) (fun _ _ _ h => h) (Or.inl ⟨by kernel_rfl, fun W _ => by go_simp⟩) hS ?_
  try simp only [Act.put, List.setIfInBounds_toArray, List.set_cons_zero, List.set_cons_succ]
  refine takeH9 13 22 (.pointer (some ⟨kb, 1, none⟩)) rfl rfl (by kernel_rfl) (by kernel_rfl) (by kernel_rfl) (fun _ _ _ h => h) (Or.inl ⟨by kernel_rfl, fun W _ => by go_simp⟩) hS ?_
  try simp only [Act.put, List.setIfInBounds_toArray, List.set_cons_zero, List.set_cons_succ]
  refine takeH9 14 23 (.slice ga gl gc) rfl rfl (by kernel_rfl) (by kernel_rfl) (by kernel_rfl) (fun _ _ _ h => h) (Or.inl ⟨by kernel_rfl, fun W h => by have hcx : W.cell? ⟨kb, 1, none⟩ = some (.slice ga gl gc) := Lib.cell_of_heap ((hS1 W).1 h).1 1; go_simp⟩) hS ?_
  try simp only [Act.put, List.setIfInBounds_toArray, List.set_cons_zero, List.set_cons_succ]
  refine wpAnyH_ready (rs := [15]) (by kernel_rfl) (by simp) ?_
  refine AllReadyH.cons rfl (fun K hK => ?_) AllReadyH.nil
  go_simp
  refine (CA.out).mono ?_
  rintro e w2 ⟨rfl, hK2, hO2⟩
  have HB2 : Hid (w2.heap[kb]? = some (.cells #[ptr rb 0, .slice ga gl gc, .int .i64 (gs.length : Int)] 43 (0, 0))) := (hO2.block kb HLT.out HNE.out).trans H1.out
  have z6 := hK2.re.root
  rw [HD1.out] at z6
  have HK2 := hide9 hK2
  have HO2 := hide9 ((Own.of (bel_drew W)).trans hO2 (fun k hk => .inl hk))
  clear hK2 hO2
  refine hK.out _ _ ((hS1 _).2 ⟨HB2.out, z6⟩) (fun hS => ?_)
  clear hK K
  try simp only [Act.put, List.setIfInBounds_toArray, List.set_cons_zero, List.set_cons_succ]
  refine takeH9 16 3 (.int .i64 0) rfl rfl (by kernel_rfl) (by kernel_rfl) (by kernel_rfl) (fun _ _ _ h => h) (Or.inl ⟨by kernel_rfl, fun W _ => by go_simp⟩) hS ?_
  try simp only [Act.put, List.setIfInBounds_toArray, List.set_cons_zero, List.set_cons_succ]
  refine wpAnyH_done (by kernel_rfl) ?_ _
  clear hS hS1 H1 CA y6
  have H2 := hide9 (HK2.out.below (bel_drew w2))
  have CS := hide9 (H2.out.sync rt e2)
  have HB3 : Hid (w2.drew.heap[kb]? = some (.cells #[ptr rb 0, .slice ga gl gc, .int .i64 (gs.length : Int)] 43 (0, 0))) := HB2.out
  have HLT2 := hide9 H2.out.lt
  go_wp2
  obtain ⟨S, hS1⟩ : ∃ S : World → Prop, ∀ W', S W' ↔ (W'.heap[kb]? = some (.cells #[ptr rb 0, .slice ga gl gc, .int .i64 (gs.length : Int)] 43 (0, 0)) ∧ W'.cell? ⟨rb, 6, none⟩ = some (.int .i64 rt)) := ⟨_, fun _ => Iff.rfl⟩
  refine wp_region_held_drew (S := S) (by kernel_rfl) ((hS1 _).2 ⟨HB3.out, z6⟩) (fun hS => ?_)
  refine takeH9 0 27 (ptr kb 0) rfl rfl (by kernel_rfl) (by kernel_rfl) (by kernel_rfl) (fun _ _ _ h => h) (Or.inl ⟨by kernel_rfl, fun W _ => by go_simp⟩) hS ?_
  try simp only [Act.put, List.setIfInBounds_toArray, List.set_cons_zero, List.set_cons_succ]
  refine takeH9 1 28 (.pointer (some ⟨kb, 0, none⟩)) rfl rfl (by kernel_rfl) (by kernel_rfl) (by kernel_rfl) (fun _ _ _ h => h) (Or.inl ⟨by kernel_rfl, fun W _ => by go_simp⟩) hS ?_
  try simp only [Act.put, List.setIfInBounds_toArray, List.set_cons_zero, List.set_cons_succ]
  refine takeH9 2 29 (.pointer (some ⟨kb, 0, none⟩)) rfl rfl (by kernel_rfl) (by kernel_rfl) (by kernel_rfl) (fun _ _ _ h => h) (Or.inl ⟨by kernel_rfl, fun W _ => by go_simp⟩) hS ?_
  try simp only [Act.put, List.setIfInBounds_toArray, List.set_cons_zero, List.set_cons_succ]
  refine takeH9 3 30 (ptr rb 0) rfl rfl (by kernel_rfl) (by kernel_rfl) (by kernel_rfl) (fun _ _ _ h => h) (Or.inl ⟨by kernel_rfl, fun W h => by have hcx : W.cell? ⟨kb, 0, none⟩ = some (ptr rb 0) := Lib.cell_of_heap ((hS1 W).1 h).1 0; go_simp⟩) hS ?_
  try simp only [Act.put, List.setIfInBounds_toArray, List.set_cons_zero, List.set_cons_succ]
  refine takeH9 4 31 (ptr kb 0) rfl rfl (by kernel_rfl) (by kernel_rfl) (by kernel_rfl) (fun _ _ _ h => h) (Or.inl ⟨by kernel_rfl, fun W _ => by go_simp⟩) hS ?_
  try simp only [Act.put, List.setIfInBounds_toArray, List.set_cons_zero, List.set_cons_succ]
  refine takeH9 5 32 (.pointer (some ⟨kb, 0, none⟩)) rfl rfl (by kernel_rfl) (by kernel_rfl) (by kernel_rfl) (fun _ _ _ h => h) (Or.inl ⟨by kernel_rfl, fun W _ => by go_simp⟩) hS ?_
  try simp only [Act.put, List.setIfInBounds_toArray, List.set_cons_zero, List.set_cons_succ]
  refine takeH9 6 33 (.pointer (some ⟨kb, 0, none⟩)) rfl rfl (by kernel_rfl) (by kernel_rfl) (by kernel_rfl) (fun _ _ _ h => h) (Or.inl ⟨by kernel_rfl, fun W _ => by go_simp⟩) hS ?_
  try simp only [Act.put, List.setIfInBounds_toArray, List.set_cons_zero, List.set_cons_succ]
  refine takeH9 7 34 (ptr rb 0) rfl rfl (by kernel_rfl) (by kernel_rfl) (by kernel_rfl) (fun _ _ _ h => h) (Or.inl ⟨by kernel_rfl, fun W h => by have hcx : W.cell? ⟨kb, 0, none⟩ = some (ptr rb 0) := Lib.cell_of_heap ((hS1 W).1 h).1 0; go_simp⟩) hS ?_
  try simp only [Act.put, List.setIfInBounds_toArray, List.set_cons_zero, List.set_cons_succ]
  refine takeH9 8 35 (.pointer (some ⟨rb, 0, none⟩)) rfl rfl (by kernel_rfl) (by kernel_rfl) (by kernel_rfl) (fun _ _ _ h => h) (Or.inl ⟨by kernel_rfl, fun W _ => by go_simp⟩) hS ?_
  try simp only [Act.put, List.setIfInBounds_toArray, List.set_cons_zero, List.set_cons_succ]
  refine takeH9 9 36 (.pointer (some ⟨rb, 6, none⟩)) rfl rfl (by kernel_rfl) (by kernel_rfl) (by kernel_rfl) (fun _ _ _ h => h) (Or.inl ⟨by kernel_rfl, fun W _ => by go_simp⟩) hS ?_
  try simp only [Act.put, List.setIfInBounds_toArray, List.set_cons_zero, List.set_cons_succ]
  refine takeH9 10 37 (.int .i64 rt) rfl rfl (by kernel_rfl) (by kernel_rfl) (by kernel_rfl) (fun _ _ _ h => h) (Or.inl ⟨by kernel_rfl, fun W h => by have hcx := ((hS1 W).1 h).2; go_simp⟩) hS ?_
  try simp only [Act.put, List.setIfInBounds_toArray, List.set_cons_zero, List.set_cons_succ]
  refine wpAnyH_ready (rs := [11]) (by kernel_rfl) (by simp) ?_
  refine AllReadyH.cons rfl (fun K hK => ?_) AllReadyH.nil
  go_simp
  refine (CS.out).mono ?_
  rintro e w3 ⟨rfl, hK3, hO3⟩
  have HB4 : Hid (w3.heap[kb]? = some (.cells #[ptr rb 0, .slice ga gl gc, .int .i64 (gs.length : Int)] 43 (0, 0))) := (hO3.block kb HLT2.out HNE.out).trans HB3.out
  have u6 := hK3.re.root
  rw [HD2.out] at u6
  have HK3 := hide9 hK3
  have HO3 := hide9 ((HO2.out.trans (Own.of (T := fun _ => False) (bel_drew w2)) (fun k hk => hk.elim)).trans hO3 (fun k hk => .inl hk))
  clear hK3 hO3
  refine hK.out _ _ ((hS1 _).2 ⟨HB4.out, u6⟩) (fun hS => ?_)
  clear hK K
  try simp only [Act.put, List.setIfInBounds_toArray, List.set_cons_zero, List.set_cons_succ]
  refine takeH9 12 3 (.int .i64 0) rfl rfl (by kernel_rfl) (by kernel_rfl) (by kernel_rfl) (fun _ _ _ h => h) (Or.inl ⟨by kernel_rfl, fun W _ => by go_simp⟩) hS ?_
  try simp only [Act.put, List.setIfInBounds_toArray, List.set_cons_zero, List.set_cons_succ]
  refine wpAnyH_done (by kernel_rfl) ?_ _
  clear hS hS1 CS z6 u6
  obtain ⟨-, p2, pa, pc, p1, -, pf⟩ := HK3.out.cells HGL
  have pf1 := pf 1
  have pf2 := pf 2
  have H4 := hide9 (HK3.out.set (gs' := []) (g' := .slice none 0 0) ⟨(OwnsBytes.nil w3 0).reads, fun k e => by cases e⟩ (by simp [Jn.frames]))
  clear pf
  go_wp2
  go_ret
  exact ⟨rfl, H4.out, (HO3.out.mono9 (fun k hk => .inl hk)).trans ((own_two kb w3 _ _).mono9 (fun k hk => .inr hk)) (fun k hk => .inl hk)⟩
theorem RCommitJ_any {W : World} {P : Nat → Prop} {kb rb : Nat} {d : Dk.D} {gs : List (List UInt8)} (h : RK W P kb rb d gs) (hon : d.on = true) {r : Int × Dk.D} (e : Hid (Jn.commits d gs = r)) :
    Calls Try.prog 48 #[ptr kb 0] W (RKPost W P kb rb (r.1, r.2, if r.1 = 0 then [] else gs)) := by
  have e' := e.out
  unfold Jn.commits at e'
  by_cases hg : gs = []
  · subst hg
    rw [if_pos rfl] at e'
    subst e'
    exact RCommit_none h
  · rw [if_neg hg, if_neg (by simp [hon])] at e'
    unfold Jn.write at e'
    obtain ⟨c1, d1, E1⟩ : ∃ c1 d1, d.append d.root (Jn.frames gs) = (c1, d1) := ⟨_, _, rfl⟩
    simp only [E1] at e'
    by_cases hc1 : c1 = 0
    · subst hc1
      simp only [ne_eq, not_true_eq_false, if_false] at e'
      obtain ⟨c2, d2, E2⟩ : ∃ c2 d2, d1.sync d.root = (c2, d2) := ⟨_, _, rfl⟩
      rw [E2] at e'
      subst e'
      by_cases hc2 : c2 = 0
      · subst hc2
        exact RCommit_yes h hg (by exact E1) (by exact E2)
      · show Calls _ _ _ _ (RKPost W P kb rb (c2, d2, if c2 = 0 then [] else gs))
        rw [if_neg hc2]
        exact RCommit_late h hg hc2 (by exact E1) (by exact E2)
    · have : r = (c1, d1) := by rw [← e']; simp [hc1]
      subst this
      show Calls _ _ _ _ (RKPost W P kb rb (c1, d1, if c1 = 0 then [] else gs))
      rw [if_neg hc1]
      exact RCommit_err h hg hc1 (by exact E1)
end Go.Proofs.Ytcjbceidgaieaaa
