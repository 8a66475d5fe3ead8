/- The contracts of mend, empty and Open. -/
import Derived.Test.YtnnlmnjbmbflpaaJnE
set_option linter.unusedVariables false
set_option linter.unusedSimpArgs false
namespace Go.Proofs.Ytnnlmnjbmbflpaa
open Go.RowKit
set_option maxHeartbeats 2000000 in
set_option maxRecDepth 100000 in
theorem mend_any {w : World} {T : Nat → Prop} {b : Nat} {d : Dk.D} (h : DskE w T b d) (f : Int) (hf : f = 0 ∨ f = 1) (hon : d.on = true) {r : Int × Dk.D} (e : Hid (Jn.mend d f = r)) {rs : List (List UInt8)} (hr : Hid (Jn.recs d f = rs)) :
    Calls Try.prog 56 #[ptr b 0, .int .i64 f] w (fun e w' => ∃ u T', e = .returned (.tuple #[u, .int .i64 r.1]) ∧ Dp w T T' b r.2 w' ∧ (r.1 = 0 → Rs (fun k => T' k ∨ k < w.heap.size) w' u rs)) := by
  obtain ⟨l, hl⟩ : ∃ l, Hid ((d.at f).now = l) := ⟨_, rfl⟩
  have hlen : l.length ≤ 1048576 := by rw [← hl.out]; exact (h.fine.at f).now
  have H1 := h.read f hf hon hl
  have e' := e.out
  unfold Jn.mend at e'
  have hrs : Jn.scan l = rs := by rw [← hl.out]; exact hr.out
  rw [hr.out, hl.out] at e'
  have HD := hide9 h
  have hss : (Jn.frames rs).length ≤ l.length := by rw [← hrs]; exact Jn.scan_size l
  have HL := hide9 h.low
  clear e hr h
  obtain ⟨S, HS⟩ : ∃ S, Hid ((Jn.frames rs).length = S) := ⟨_, rfl⟩
  rw [HS.out] at e' hss
  obtain ⟨q, dq⟩ := r
  by_cases hq : S = l.length
  · rw [if_pos hq] at e'
    cases e'
    clear hf hon
    go_enter Try.func56, Try.ntmps56
    go_wp2_with (first
      | (go_at_call 20; refine H1.mono ?_; rintro e w1 ⟨a, c, rfl, ho1, hB1⟩; have H2 := Scan_any ho1.reads (by omega); rw [hrs, HS.out] at H2; clear H1)
      | (go_at_call 38; refine H2.mono ?_; rintro e w2 ⟨u, rfl, ho2, hB2⟩))
    go_ret2
    exact ⟨_, T, rfl, (Dp.refl HD.out).behind (bel hB1 hB2), fun _ => ho2.rs (T := fun k => T k ∨ k < w.heap.size) (fun k hk => Nat.lt_of_lt_of_le (hk.elim (HL.out k) id) hB1.size)⟩
  · rw [if_neg hq] at e'
    have E := hide9 e'
    clear e' hf hon
    by_cases hc : q = 0
    · subst hc
      go_enter Try.func56, Try.ntmps56
      go_wp2_with (first
        | (go_at_call 20; refine H1.mono ?_; rintro e w1 ⟨a, c, rfl, ho1, hB1⟩; have H2 := Scan_any ho1.reads (by omega); rw [hrs, HS.out] at H2; clear H1)
        | (go_at_call 38; refine H2.mono ?_; rintro e w2 ⟨u, rfl, ho2, hB2⟩; have H3 := cut_any (HD.out.below (bel hB1 hB2)) f S E; clear H2)
        | (go_at_call 70; refine H3.mono ?_; rintro e w3 ⟨T3, rfl, hD3⟩; clear H3))
      go_ret2
      exact ⟨_, T3, rfl, Dp.ahead (bel hB1 hB2) hD3, fun _ => (ho2.rs (T := fun k => T k ∨ k < w.heap.size) (fun k hk => Nat.lt_of_lt_of_le (hk.elim (HL.out k) id) hB1.size)).dp9 hD3⟩
    · have hcb : (q == 0) = false := by simpa using hc
      go_enter Try.func56, Try.ntmps56
      go_wp2_with (first
        | (go_at_call 20; refine H1.mono ?_; rintro e w1 ⟨a, c, rfl, ho1, hB1⟩; have H2 := Scan_any ho1.reads (by omega); rw [hrs, HS.out] at H2; clear H1)
        | (go_at_call 38; refine H2.mono ?_; rintro e w2 ⟨u, rfl, ho2, hB2⟩; have H3 := cut_any (HD.out.below (bel hB1 hB2)) f S E; clear H2)
        | (go_at_call 70; refine H3.mono ?_; rintro e w3 ⟨T3, rfl, hD3⟩; clear H3))
      go_ret2
      exact ⟨_, T3, rfl, Dp.ahead (bel hB1 hB2) hD3, fun hx => absurd hx hc⟩
set_option maxHeartbeats 2000000 in
set_option maxRecDepth 100000 in
theorem empty_any {w : World} {T : Nat → Prop} {b : Nat} {d : Dk.D} (h : DskE w T b d) (f : Int) (hf : f = 0 ∨ f = 1) (hon : d.on = true) {r : Int × Dk.D} (e : Hid (Jn.empty d f = r)) :
    Calls Try.prog 57 #[ptr b 0, .int .i64 f] w (fun e w' => ∃ T', e = .returned (.int .i64 r.1) ∧ Dp w T T' b r.2 w') := by
  obtain ⟨l, hl⟩ : ∃ l, Hid ((d.at f).now = l) := ⟨_, rfl⟩
  have hlen : l.length ≤ 1048576 := by rw [← hl.out]; exact (h.fine.at f).now
  have H1 := h.read f hf hon hl
  have e' := e.out
  unfold Jn.empty at e'
  rw [hl.out] at e'
  have HD := hide9 h
  clear e h
  obtain ⟨q, dq⟩ := r
  by_cases hq : l.length = 0
  · rw [if_pos hq] at e'
    cases e'
    rw [hq] at H1
    clear hf hon
    go_enter Try.func57, Try.ntmps57
    go_wp2_with (go_at_call 20; refine H1.mono ?_; rintro e w1 ⟨a, c, rfl, ho1, hB1⟩)
    go_ret
    exact ⟨T, rfl, (Dp.refl HD.out).behind hB1⟩
  · rw [if_neg hq] at e'
    have E := hide9 e'
    clear e' hf hon
    go_enter Try.func57, Try.ntmps57
    go_wp2_with (first
      | (go_at_call 20; refine H1.mono ?_; rintro e w1 ⟨a, c, rfl, ho1, hB1⟩; have H3 := cut_any (HD.out.below hB1) f 0 E; clear H1)
      | (go_at_call 70; refine H3.mono ?_; rintro e w3 ⟨T3, rfl, hD3⟩; clear H3))
    go_ret
    exact ⟨T3, rfl, Dp.ahead hB1 hD3⟩
end Go.Proofs.Ytnnlmnjbmbflpaa
