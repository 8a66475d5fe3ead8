/- The contract of refs.Next. -/
import Derived.Test.YtdllcnifkiebjaaDoorRfH
import Derived.Test.YtdllcnifkiebjaaDoorRfNx
set_option linter.unusedVariables false
set_option linter.unusedSimpArgs false
namespace Go.Proofs.YtdllcnifkiebjaaDoor
open Go.RowKit
def nxV (r : Int × Nat × Bool) : Value := .tuple #[.int .i32 r.1, .int .i64 r.2.1, .bool r.2.2]
set_option maxHeartbeats 1000000 in
set_option maxRecDepth 100000 in
theorem Next_amp (t : List UInt8) (a : Bool) (w : World) (hz : t.length ≤ 1000000000) (hW : Win w) :
    Calls Tryd.prog 15 #[.string (str (38 :: t)), .bool a] w fun e w' => e = .returned (nxV (Rf.nx a (38 :: t))) ∧ Below w.heap.size w w' := by
  have hC : ∀ W, Calls Tryd.prog 27 #[.string (str (38 :: t)), .string (str [38])] W fun e w' => e = .returned (.tuple #[.string (str t), .bool true]) ∧ w' = W := fun W => CutPrefix_l (38 :: t) [38] W
  rw [Rf.nx_amp a t]
  unfold Rf.next
  have h1 := fun W hW => number_any t W hz hW
  have h2 := fun W => wholeName_any t W hz
  have h3 := fun W => shortName_any t a W hz
  have hl1 : Rf.numSz t ≤ t.length := by
    obtain ⟨p, h1, _, h3⟩ := Rf.num_low t
    have := congrArg List.length h3
    rw [List.length_append, h1] at this
    omega
  have hl2 : Rf.whSz t ≤ t.length := by
    obtain ⟨p, h1, _, h3⟩ := Rf.wh_low t
    have := congrArg List.length h3
    rw [List.length_append, h1] at this
    omega
  have hl3 : (Rf.sh a t).2 ≤ t.length := by
    obtain ⟨p, h1, _, h3⟩ := Rf.sh_low a t
    have := congrArg List.length h3
    rw [List.length_append, h1] at this
    omega
  generalize Rf.numSz t = n1 at *
  generalize Rf.numSg t = x1 at *
  generalize Rf.whSz t = n2 at *
  generalize Rf.whSg t = x2 at *
  generalize Rf.sh a t = r3 at *
  obtain ⟨x3, n3⟩ := r3
  simp only at h3 hl3
  by_cases hn1 : n1 = 0
  · subst hn1
    by_cases hn2 : n2 = 0
    · subst hn2
      by_cases hn3 : n3 = 0
      · subst hn3
        go_enter Tryd.func15, Tryd.ntmps15
        go_wp2_with (first
          | (go_at_call 27; refine (hC _).mono ?_; rintro e w1 ⟨rfl, hw⟩; rw [hw]; clear hw)
          | (go_at_call 28; refine (h1 _ hW).mono ?_; rintro e w1 ⟨rfl, hw⟩; rw [hw]; clear hw)
          | (go_at_call 29; refine (h2 _).mono ?_; rintro e w2 ⟨rfl, hb2⟩)
          | (go_at_call 30; refine (h3 _).mono ?_; rintro e w3 ⟨rfl, hw⟩; rw [hw]; clear hw))
        go_ret3
        exact ⟨rfl, hb2⟩
      · have hq : ((n3 : Int) == 0) = false := by rw [beq_eq_false_iff_ne]; omega
        have hq2 : ¬ (n3 : Int) = 0 := by omega
        go_enter Tryd.func15, Tryd.ntmps15
        go_wp2_with (first
          | (go_at_call 27; refine (hC _).mono ?_; rintro e w1 ⟨rfl, hw⟩; rw [hw]; clear hw)
          | (go_at_call 28; refine (h1 _ hW).mono ?_; rintro e w1 ⟨rfl, hw⟩; rw [hw]; clear hw)
          | (go_at_call 29; refine (h2 _).mono ?_; rintro e w2 ⟨rfl, hb2⟩)
          | (go_at_call 30; refine (h3 _).mono ?_; rintro e w3 ⟨rfl, hw⟩; rw [hw]; clear hw))
        go_ret3
        exact ⟨by simp [nxV, hn3]; omega, hb2⟩
    · have hq : ((n2 : Int) == 0) = false := by rw [beq_eq_false_iff_ne]; omega
      have hq2 : ¬ (n2 : Int) = 0 := by omega
      go_enter Tryd.func15, Tryd.ntmps15
      go_wp2_with (first
        | (go_at_call 27; refine (hC _).mono ?_; rintro e w1 ⟨rfl, hw⟩; rw [hw]; clear hw)
        | (go_at_call 28; refine (h1 _ hW).mono ?_; rintro e w1 ⟨rfl, hw⟩; rw [hw]; clear hw)
        | (go_at_call 29; refine (h2 _).mono ?_; rintro e w2 ⟨rfl, hb2⟩))
      all_goals first | (exfalso; omega) | (go_ret3; exact ⟨by simp [nxV, hn2]; omega, hb2⟩)
  · have hq : ((n1 : Int) == 0) = false := by rw [beq_eq_false_iff_ne]; omega
    have hq2 : ¬ (n1 : Int) = 0 := by omega
    go_enter Tryd.func15, Tryd.ntmps15
    go_wp2_with (first
      | (go_at_call 27; refine (hC _).mono ?_; rintro e w1 ⟨rfl, hw⟩; rw [hw]; clear hw)
      | (go_at_call 28; refine (h1 _ hW).mono ?_; rintro e w1 ⟨rfl, hw⟩; rw [hw]; clear hw))
    all_goals first | (exfalso; omega) | (go_ret3; exact ⟨by simp [nxV, hn1]; omega, Below.refl _ _⟩)
set_option maxHeartbeats 400000 in
theorem Next_not (l : List UInt8) (a : Bool) (w : World) (h : [38].isPrefixOf l = false) :
    Calls Tryd.prog 15 #[.string (str l), .bool a] w fun e w' => e = .returned (nxV (Rf.nx a l)) ∧ Below w.heap.size w w' := by
  have hC : ∀ W, Calls Tryd.prog 27 #[.string (str l), .string (str [38])] W fun e w' => e = .returned (.tuple #[.string (str l), .bool false]) ∧ w' = W := fun W => by
    have := CutPrefix_l l [38] W
    rw [h] at this
    exact this
  rw [Rf.nx_none a l h]
  clear h
  go_enter Tryd.func15, Tryd.ntmps15
  go_wp2_with (go_at_call 27; refine (hC _).mono ?_; rintro e w1 ⟨rfl, hw⟩; rw [hw]; clear hw)
  go_ret3
  exact ⟨rfl, Below.refl _ _⟩
theorem Next_any (l : List UInt8) (a : Bool) (w : World) (hz : l.length ≤ 1000000000) (hW : Win w) :
    Calls Tryd.prog 15 #[.string (str l), .bool a] w fun e w' => e = .returned (nxV (Rf.nx a l)) ∧ Below w.heap.size w w' := by
  cases h : [38].isPrefixOf l
  · exact Next_not l a w h
  · obtain ⟨t, rfl⟩ := Rf.amp_form l h
    exact Next_amp t a w (by simp at hz; omega) hW
end Go.Proofs.YtdllcnifkiebjaaDoor
