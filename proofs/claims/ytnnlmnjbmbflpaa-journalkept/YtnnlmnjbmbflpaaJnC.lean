/- The contract of first. -/
import Derived.Test.YtnnlmnjbmbflpaaJnB
set_option linter.unusedVariables false
set_option linter.unusedSimpArgs false
namespace Go.Proofs.Ytnnlmnjbmbflpaa
open Go.RowKit
theorem Jn.isRec_iff (l : List UInt8) : (decide (1 ≤ (l.length : Int)) && decide ((l.length : Int) ≤ 16384)) = true ↔ Jn.isRec l := by
  unfold Jn.isRec
  simp
  omega
set_option maxHeartbeats 4000000 in
set_option maxRecDepth 100000 in
theorem first_any {w : World} {v : Value} {l : List UInt8} (hv : RB w v l) (hl : l.length ≤ 1000000000) :
    Calls Try.prog 67 #[v] w fun e w' => ∃ u, e = .returned (.tuple #[u, .bool (Jn.first l).isSome]) ∧ (∀ r, Jn.first l = some r → RB w u r) ∧ Below w.heap.size w w' := by
  obtain ⟨a, cp, rfl⟩ := RB.form hv
  by_cases h8 : l.length < 8
  · have HE : Hid (Jn.first l = none) := by
      show Jn.first l = none
      unfold Jn.first
      rw [if_pos h8]
    go_enter Try.func67, Try.ntmps67
    go_wp2
    go_ret2
    rw [HE.out]
    exact ⟨_, rfl, fun r hr => (by cases hr), Below.refl _ _⟩
  · obtain ⟨s1, q1⟩ := cut_to hv 4 (by omega)
    obtain ⟨ma, mc, s2, q2⟩ := cut_mid hv 4 8 (by omega) (by omega)
    obtain ⟨na, nc, s3, q3, _⟩ := cut_from hv 8 (by omega)
    have s1 : ∀ W', (Instr.slice 27 (.slice a l.length cp) none (some (.int .i64 4)) none).run Try.prog W' = .ok (.slice a 4 cp) W' := s1
    have s2 : ∀ W', (Instr.slice 27 (.slice a l.length cp) (some (.int .i64 4)) (some (.int .i64 8)) none).run Try.prog W' = .ok (.slice ma 4 mc) W' := s2
    have s3 : ∀ W', (Instr.slice 27 (.slice a l.length cp) (some (.int .i64 8)) none none).run Try.prog W' = .ok (.slice na (l.length - 8) nc) W' := s3
    obtain ⟨m, HM⟩ : ∃ m, Hid (m = l.length - 8) := ⟨_, rfl⟩
    rw [← HM.out] at s3 q3
    obtain ⟨n, HN⟩ : ∃ n, Hid (n = Jn.num (l.take 4)) := ⟨_, rfl⟩
    have C1 : ∀ W, Below w.heap.size w W → Calls Try.prog 88 #[.slice a 4 cp] W fun e w' => e = .returned (.int .u32 (n : Int)) ∧ w' = W := fun W hW => by rw [HN.out]; exact read_any (q1.below hW) (by simp; omega)
    have hn32 : n < 4294967296 := by rw [HN.out]; exact Jn.num_lt _ (by simp; omega)
    have C2 := isRecord_any (n : Int)
    have HE : Hid (Jn.first l = if n < 1 ∨ 16384 < n ∨ m < n then none else if Jn.num ((l.drop 4).take 4) = Jn.crc (l.take 4 ++ (l.drop 8).take n) then some ((l.drop 8).take n) else none) := by
      show Jn.first l = _
      unfold Jn.first
      rw [if_neg h8, ← HN.out, ← HM.out]
    by_cases hr : 1 ≤ n ∧ n ≤ 16384
    · rw [show (decide (1 ≤ (n : Int)) && decide ((n : Int) ≤ 16384)) = true by simp; omega] at C2
      by_cases hb : n ≤ m
      · obtain ⟨s4, q4⟩ := cut_to q3 n (by rw [List.length_drop, ← HM.out]; exact hb)
        have C3 : ∀ W, Below w.heap.size w W → Calls Try.prog 88 #[.slice ma 4 mc] W fun e w' => e = .returned (.int .u32 (Jn.num ((l.drop 4).take 4) : Int)) ∧ w' = W := fun W hW => read_any (q2.below hW) (by simp; omega)
        have C4 : ∀ W B, Below w.heap.size w W → B = W.heap.size → Calls Try.prog 87 #[.slice (some ⟨B, 0, none⟩) 2 2] (W.alloc (.cells #[.slice a 4 cp, .slice na n nc] 27)) fun e w' => e = .returned (.int .u32 (Jn.crc (l.take 4 ++ (l.drop 8).take n) : Int)) ∧ Below W.heap.size W w' := fun W B hW e => by rw [e]; exact Crc_two (q1.below hW) (q4.below hW) (by simp; omega) (by simp; omega)
        rw [if_neg (by omega)] at HE
        have hx : Jn.num ((l.drop 4).take 4) < 4294967296 := Jn.num_lt _ (by simp; omega)
        have hy := Jn.crc_lt (l.take 4 ++ (l.drop 8).take n)
        generalize Jn.num ((l.drop 4).take 4) = x at *
        generalize Jn.crc (l.take 4 ++ (l.drop 8).take n) = y at *
        have H4 := hide9 q4
        replace C1 := hide9 C1
        replace C2 := hide9 C2
        replace C3 := hide9 C3
        replace C4 := hide9 C4
        clear q1 q2 q3 q4 hv
        go_enter Try.func67, Try.ntmps67
        go_wp2
        go_quiet (fail)
        have hB := below_drewN (Below.refl w.heap.size w) nq
        generalize w.drewN nq = W at *
        clear s1 s2 s3
        go_wp2_with (first
          | (go_at_call 88; refine (C1.out _ hB).mono ?_; rintro e w2 ⟨rfl, he⟩; replace he := he.symm; subst he; clear C1)
          | (go_at_call 63; refine (C2.out _).mono ?_; rintro e w3 ⟨rfl, he⟩; replace he := he.symm; subst he)
          | (go_at_call 88; refine (C3.out _ hB).mono ?_; rintro e w4 ⟨rfl, he⟩; replace he := he.symm; subst he)
          | (go_at_call 87; refine (C4.out _ _ hB rfl).mono ?_; rintro e w5 ⟨rfl, hB5⟩))
        go_ret2
        rw [HE.out]
        by_cases hxy : x = y
        · subst hxy
          rw [if_pos rfl]
          refine ⟨.slice na n nc, by simp, fun r hr => ?_, bel hB hB5⟩
          cases hr
          exact H4.out
        · rw [if_neg hxy]
          refine ⟨.slice na n nc, by simp; omega, fun r hr => (by cases hr), bel hB hB5⟩
      · rw [if_pos (by omega)] at HE
        replace C1 := hide9 C1
        replace C2 := hide9 C2
        clear q1 q2 q3 hv
        go_enter Try.func67, Try.ntmps67
        go_wp2
        go_quiet (fail)
        have hB := below_drewN (Below.refl w.heap.size w) nq
        generalize w.drewN nq = W at *
        clear s1 s2 s3
        go_wp2_with (first
          | (go_at_call 88; refine (C1.out _ hB).mono ?_; rintro e w2 ⟨rfl, he⟩; replace he := he.symm; subst he; clear C1)
          | (go_at_call 63; refine (C2.out _).mono ?_; rintro e w3 ⟨rfl, he⟩; replace he := he.symm; subst he))
        go_ret2
        rw [HE.out]
        exact ⟨_, rfl, fun r hr => (by cases hr), hB⟩
    · rw [show (decide (1 ≤ (n : Int)) && decide ((n : Int) ≤ 16384)) = false by simp; omega] at C2
      rw [if_pos (by omega)] at HE
      replace C1 := hide9 C1
      replace C2 := hide9 C2
      clear q1 q2 q3 hv
      go_enter Try.func67, Try.ntmps67
      go_wp2
      go_quiet (fail)
      have hB := below_drewN (Below.refl w.heap.size w) nq
      generalize w.drewN nq = W at *
      clear s1 s2 s3
      go_wp2_with (first
        | (go_at_call 88; refine (C1.out _ hB).mono ?_; rintro e w2 ⟨rfl, he⟩; replace he := he.symm; subst he; clear C1)
        | (go_at_call 63; refine (C2.out _).mono ?_; rintro e w3 ⟨rfl, he⟩; replace he := he.symm; subst he))
      go_ret2
      rw [HE.out]
      exact ⟨_, rfl, fun r hr => (by cases hr), hB⟩
end Go.Proofs.Ytnnlmnjbmbflpaa
