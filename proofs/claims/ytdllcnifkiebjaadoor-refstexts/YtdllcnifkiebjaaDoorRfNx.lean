/- What Next answers, as a plain function. -/
import Derived.Test.YtdllcnifkiebjaaDoorRfText
set_option linter.unusedVariables false
namespace Rf
/-- Next's three results. -/
def nx (a : Bool) : List UInt8 → Int × Nat × Bool
  | [] => (0, 0, false)
  | c :: t => if c = 38 ∧ (next a t).2 ≠ 0 then ((next a t).1, (next a t).2 + 1, true) else (0, 0, false)
theorem nx_cons (a : Bool) (c : UInt8) (t : List UInt8) : nx a (c :: t) = if c = 38 ∧ (next a t).2 ≠ 0 then ((next a t).1, (next a t).2 + 1, true) else (0, 0, false) := rfl
theorem nx_none (a : Bool) (l : List UInt8) (h : [38].isPrefixOf l = false) : nx a l = (0, 0, false) := by
  cases l with
  | nil => rfl
  | cons c t =>
    rw [nx, if_neg]
    rintro ⟨e, _⟩
    subst e
    simp [List.isPrefixOf] at h
theorem nx_amp (a : Bool) (t : List UInt8) : nx a (38 :: t) = if (next a t).2 = 0 then (0, 0, false) else ((next a t).1, (next a t).2 + 1, true) := by
  rw [nx]
  by_cases h : (next a t).2 = 0
  · rw [if_neg (by simp [h]), if_pos h]
  · rw [if_pos ⟨rfl, h⟩, if_neg h]
theorem amp_form (l : List UInt8) (h : [38].isPrefixOf l = true) : ∃ t, l = 38 :: t := by
  obtain ⟨r, rfl⟩ := List.isPrefixOf_iff_prefix.1 h
  exact ⟨r, rfl⟩
theorem num_sg (t : List UInt8) (h : numSz t = 0) : numSg t = 0 := by
  unfold numSz at h
  unfold numSg
  cases hi : isNo t
  · rfl
  · rw [hi, if_pos rfl] at h
    have : 1 ≤ fr (isHx t) := by unfold fr; split <;> omega
    omega
theorem wh_sg (t : List UInt8) (h : whSz t = 0) : whSg t = 0 := by
  unfold whSz at h
  unfold whSg
  cases hi : isWh t
  · rfl
  · rw [hi, if_pos rfl] at h
    omega
/-- How a text goes on: dec by nx. -/
theorem dec_nx (a : Bool) (l : List UInt8) (h : (nx a l).2.2 = true) : dec a l = Go.Lib.encodeRune (nx a l).1 ++ dec a (l.drop (nx a l).2.1) := by
  cases l with
  | nil => cases h
  | cons c t =>
    rw [nx_cons] at *
    by_cases hc : c = 38 ∧ (next a t).2 ≠ 0
    · rw [if_pos hc]
      obtain ⟨rfl, hn⟩ := hc
      rw [dec_some a t hn]
      rfl
    · rw [if_neg hc] at h
      cases h
theorem dec_nx_no (a : Bool) (c : UInt8) (t : List UInt8) (h : (nx a (c :: t)).2.2 = false) : dec a (c :: t) = c :: dec a t := by
  rw [nx_cons] at h
  by_cases hc : c = 38
  · subst hc
    by_cases hn : (next a t).2 = 0
    · exact dec_none a t hn
    · rw [if_pos ⟨rfl, hn⟩] at h; cases h
  · exact dec_other a c t hc
theorem nx_len (a : Bool) (l : List UInt8) : (nx a l).2.1 ≤ l.length ∧ ((nx a l).2.2 = true → 1 ≤ (nx a l).2.1) := by
  cases l with
  | nil => exact ⟨Nat.le_refl _, fun h => by cases h⟩
  | cons c t =>
    rw [nx_cons]
    have := next_len a t
    by_cases hc : c = 38 ∧ (next a t).2 ≠ 0
    · rw [if_pos hc]
      simp only [List.length_cons]
      exact ⟨by omega, fun _ => by omega⟩
    · rw [if_neg hc]
      exact ⟨Nat.zero_le _, fun h => by cases h⟩
theorem next_bd (a : Bool) (t : List UInt8) : 0 ≤ (next a t).1 ∧ (next a t).1 ≤ 1114111 := by
  have look_pos : ∀ (T : Tab) (s : List UInt8), (∀ p ∈ T, 0 ≤ p.2) → 0 ≤ look T s := by
    intro T
    induction T with
    | nil => intro s _; exact Int.le_refl 0
    | cons p r ih =>
      intro s h
      rw [look]
      split
      · exact h p (List.mem_cons_self ..)
      · exact ih s fun q hq => h q (List.mem_cons_of_mem _ hq)
  unfold next
  split
  · rename_i h
    unfold numSg
    split
    · rename_i hi
      have hd : digs t ≠ [] := by
        unfold isNo at hi
        rw [Bool.and_eq_true] at hi
        intro e
        rw [e] at hi
        simp at hi
      have := numSign_bd _ (val_bd t hd).1
      exact ⟨this.1, this.2.1⟩
    · exact ⟨Int.le_refl 0, by show (0 : Int) ≤ 1114111; omega⟩
  split
  · unfold whSg
    split
    · have h1 := look_bd 65535 (by omega) names (wn t) names_bd
      have h2 := look_pos names (wn t) (by decide +kernel)
      exact ⟨h2, by show look names (wn t) ≤ _; omega⟩
    · exact ⟨Int.le_refl 0, by show (0 : Int) ≤ 1114111; omega⟩
  · have key : ∀ l : List Nat, 0 ≤ (shL a t l).1 ∧ (shL a t l).1 ≤ 1114111 := by
      intro l
      induction l with
      | nil => exact ⟨Int.le_refl 0, by show (0 : Int) ≤ 1114111; omega⟩
      | cons k r ih =>
        rw [shL]
        split
        · unfold shP
          split
          · exact ⟨Int.le_refl 0, by show (0 : Int) ≤ 1114111; omega⟩
          · have h1 := look_bd 65535 (by omega) shortT (t.take k) short_bd
            have h2 := look_pos shortT (t.take k) (by decide +kernel)
            exact ⟨h2, by show look shortT (t.take k) ≤ _; omega⟩
        · exact ih
    exact key _
theorem nx_bd (a : Bool) (l : List UInt8) : 0 ≤ (nx a l).1 ∧ (nx a l).1 ≤ 1114111 := by
  cases l with
  | nil => exact ⟨Int.le_refl 0, by show (0 : Int) ≤ 1114111; omega⟩
  | cons c t =>
    rw [nx_cons]
    by_cases hc : c = 38 ∧ (next a t).2 ≠ 0
    · rw [if_pos hc]
      exact next_bd a t
    · rw [if_neg hc]
      exact ⟨Int.le_refl 0, by show (0 : Int) ≤ 1114111; omega⟩
end Rf
