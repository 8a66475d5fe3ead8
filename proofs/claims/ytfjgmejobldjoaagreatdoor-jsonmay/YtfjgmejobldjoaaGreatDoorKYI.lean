/- The contract of the parser's escaped. -/
import Derived.Test.YtfjgmejobldjoaaGreatDoorKYH
set_option linter.unusedVariables false
set_option linter.unusedSimpArgs false
namespace Go.Proofs.YtfjgmejobldjoaaGreatDoor
open Go.RowKit
theorem ne_byte {c d : UInt8} (h : c ≠ d) : ((c.toNat : Int) == (d.toNat : Int)) = false := beq_eq_false_iff_ne.2 fun e => h (byte_eq_int.1 e)
theorem simple_no (c : UInt8) : Jsn.simple c = none → c ≠ 34 ∧ c ≠ 92 ∧ c ≠ 47 ∧ c ≠ 98 ∧ c ≠ 116 ∧ c ≠ 110 ∧ c ≠ 102 ∧ c ≠ 114 := by revert c; apply Jsn.byte_all; decide +kernel
theorem simple_yes (c : UInt8) : ∀ x, Jsn.simple c = some x → (c = 34 ∧ x = 34) ∨ (c = 92 ∧ x = 92) ∨ (c = 47 ∧ x = 47) ∨ (c = 98 ∧ x = 8) ∨ (c = 116 ∧ x = 9) ∨ (c = 110 ∧ x = 10) ∨ (c = 102 ∧ x = 12) ∨ (c = 114 ∧ x = 13) := by
  intro x
  unfold Jsn.simple
  intro h
  repeat' (split at h)
  all_goals first | (cases h; done) | (have e := Option.some.inj h; subst e; simp_all)
set_option maxHeartbeats 2000000 in
theorem escaped_any {b n : Nat} {s r : List UInt8} {x : UInt8} {w : World} (h : Ps b s (x :: r) n w) :
    Calls Tryz.prog 114 #[.pointer (some ⟨b, 0, none⟩)] w fun e w' => Kept b w w' ∧ Ans (Jsn.escR (r.length + 1) r) (fun v z => e = .returned (.int .i32 v) ∧ Ps b s z n w') (fun y k => e = boom s y k) := by
  obtain ⟨f, hf, c1⟩ := h.c1
  simp only [List.length_cons] at hf
  have f1 := h.free 1
  have hlen := h.len
  have hT := h.tail f hf
  have hKT := Kept.set b 1 w (.int .i64 ((f : Int) + 1))
  have hpb : .panicked [{ v := .iface 45 (.agg #[.int .i64 3, .int .i64 (f : Int)]), recovered := false }] = boom s 3 (r.length + 1) := by
    obtain rfl : f = s.length - (r.length + 1) := by omega
    rfl
  cases r with
  | nil =>
    go_enter Tryz.func114, Tryz.ntmps114
    go_wp2_with (first
      | (go_at_call 115; refine (next_end hT).mono ?_; rintro e w2 ⟨rfl, hK2⟩))
    exact ⟨rfl, hKT.trans hK2, rfl⟩
  | cons c t =>
    have hX : Jsn.escR ((c :: t).length + 1) (c :: t) = (match Jsn.simple c with | some x => .ok x t | none => if c = 117 then Jsn.signR ((c :: t).length + 1) t else .err 3 ((c :: t).length + 1)) := rfl
    have hN := next_ok hT
    cases hsm : Jsn.simple c with
    | some v =>
      rw [hsm] at hX
      replace hX : Jsn.escR ((c :: t).length + 1) (c :: t) = .ok v t := hX
      rw [hX]
      clear hX
      rcases simple_yes c v hsm with ⟨rfl, rfl⟩ | ⟨rfl, rfl⟩ | ⟨rfl, rfl⟩ | ⟨rfl, rfl⟩ | ⟨rfl, rfl⟩ | ⟨rfl, rfl⟩ | ⟨rfl, rfl⟩ | ⟨rfl, rfl⟩
      · clear hsm
        go_enter Tryz.func114, Tryz.ntmps114
        go_wp2_with (first
          | (go_at_call 115; refine hN.mono ?_; rintro e w2 ⟨rfl, hP2, hK2⟩))
        go_ret
        exact ⟨hKT.trans hK2, rfl, hP2⟩
      · clear hsm
        go_enter Tryz.func114, Tryz.ntmps114
        go_wp2_with (first
          | (go_at_call 115; refine hN.mono ?_; rintro e w2 ⟨rfl, hP2, hK2⟩))
        go_ret
        exact ⟨hKT.trans hK2, rfl, hP2⟩
      · clear hsm
        go_enter Tryz.func114, Tryz.ntmps114
        go_wp2_with (first
          | (go_at_call 115; refine hN.mono ?_; rintro e w2 ⟨rfl, hP2, hK2⟩))
        go_ret
        exact ⟨hKT.trans hK2, rfl, hP2⟩
      · clear hsm
        go_enter Tryz.func114, Tryz.ntmps114
        go_wp2_with (first
          | (go_at_call 115; refine hN.mono ?_; rintro e w2 ⟨rfl, hP2, hK2⟩))
        go_ret
        exact ⟨hKT.trans hK2, rfl, hP2⟩
      · clear hsm
        go_enter Tryz.func114, Tryz.ntmps114
        go_wp2_with (first
          | (go_at_call 115; refine hN.mono ?_; rintro e w2 ⟨rfl, hP2, hK2⟩))
        go_ret
        exact ⟨hKT.trans hK2, rfl, hP2⟩
      · clear hsm
        go_enter Tryz.func114, Tryz.ntmps114
        go_wp2_with (first
          | (go_at_call 115; refine hN.mono ?_; rintro e w2 ⟨rfl, hP2, hK2⟩))
        go_ret
        exact ⟨hKT.trans hK2, rfl, hP2⟩
      · clear hsm
        go_enter Tryz.func114, Tryz.ntmps114
        go_wp2_with (first
          | (go_at_call 115; refine hN.mono ?_; rintro e w2 ⟨rfl, hP2, hK2⟩))
        go_ret
        exact ⟨hKT.trans hK2, rfl, hP2⟩
      · clear hsm
        go_enter Tryz.func114, Tryz.ntmps114
        go_wp2_with (first
          | (go_at_call 115; refine hN.mono ?_; rintro e w2 ⟨rfl, hP2, hK2⟩))
        go_ret
        exact ⟨hKT.trans hK2, rfl, hP2⟩
    | none =>
      rw [hsm] at hX
      obtain ⟨n0, n1, n2, n3, n4, n5, n6, n7⟩ := simple_no c hsm
      clear hsm
      have q0 : ((c.toNat : Int) == 34) = false := ne_byte n0
      have q1 : ((c.toNat : Int) == 92) = false := ne_byte n1
      have q2 : ((c.toNat : Int) == 47) = false := ne_byte n2
      have q3 : ((c.toNat : Int) == 98) = false := ne_byte n3
      have q4 : ((c.toNat : Int) == 116) = false := ne_byte n4
      have q5 : ((c.toNat : Int) == 110) = false := ne_byte n5
      have q6 : ((c.toNat : Int) == 102) = false := ne_byte n6
      have q7 : ((c.toNat : Int) == 114) = false := ne_byte n7
      clear n0 n1 n2 n3 n4 n5 n6 n7
      by_cases hu : c = 117
      · replace hX : Jsn.escR ((c :: t).length + 1) (c :: t) = Jsn.signR ((c :: t).length + 1) t := by rw [hX]; exact if_pos hu
        subst hu
        cases hz : Jsn.signR ((117 :: t).length + 1) t with
        | err y k =>
          rw [hz] at hX
          rw [hX]
          clear hX
          go_enter Tryz.func114, Tryz.ntmps114
          go_wp2_with (first
            | (go_at_call 115; refine hN.mono ?_; rintro e w2 ⟨rfl, hP2, hK2⟩)
            | (go_at_call 132; refine (sign_any (m := (117 :: t).length + 1) hP2 f (by simp only [List.length_cons] at hf ⊢; omega)).mono ?_; rintro e w3 ⟨hK3, hA⟩; rw [hz] at hA; replace hA : e = boom s y k := hA; subst hA))
          exact ⟨rfl, (hKT.trans hK2).trans hK3, rfl⟩
        | ok v z =>
          rw [hz] at hX
          rw [hX]
          clear hX
          go_enter Tryz.func114, Tryz.ntmps114
          go_wp2_with (first
            | (go_at_call 115; refine hN.mono ?_; rintro e w2 ⟨rfl, hP2, hK2⟩)
            | (go_at_call 132; refine (sign_any (m := (117 :: t).length + 1) hP2 f (by simp only [List.length_cons] at hf ⊢; omega)).mono ?_; rintro e w3 ⟨hK3, hA⟩; rw [hz] at hA; obtain ⟨rfl, hP3⟩ := hA))
          go_ret
          exact ⟨(hKT.trans hK2).trans hK3, rfl, hP3⟩
      · replace hX : Jsn.escR ((c :: t).length + 1) (c :: t) = .err 3 ((c :: t).length + 1) := by rw [hX]; exact if_neg hu
        rw [hX]
        clear hX
        have q8 : ((c.toNat : Int) == 117) = false := ne_byte hu
        go_enter Tryz.func114, Tryz.ntmps114
        go_wp2_with (first
          | (go_at_call 115; refine hN.mono ?_; rintro e w2 ⟨rfl, hP2, hK2⟩))
        exact ⟨rfl, hKT.trans hK2, hpb⟩
end Go.Proofs.YtfjgmejobldjoaaGreatDoor
