/- Plain facts: what was split is joined; no part holds the byte. -/
import Derived.Test.YtlkhjloeonbjaaaGreatDoorAscSplit
import Derived.Test.YtlkhjloeonbjaaaGreatDoorAscJoin
namespace Asc
open Go
theorem join_snoc (ts : List (List UInt8)) (t sep : List UInt8) : Lib.join (ts ++ [t]) sep = if ts = [] then t else Lib.join ts sep ++ sep ++ t := by
  have h := join_next (ts ++ [t]) sep t ts.length (by simp)
  rw [List.take_of_length_le (by simp), List.take_left] at h
  rw [h]
  by_cases hz : ts = []
  · subst hz
    rfl
  · rw [if_neg hz, if_neg (by intro e; exact hz (List.eq_nil_of_length_eq_zero e))]
theorem join_more (ts : List (List UInt8)) (t u sep : List UInt8) : Lib.join (ts ++ [t ++ u]) sep = Lib.join (ts ++ [t]) sep ++ u := by
  rw [join_snoc, join_snoc]
  split <;> simp [List.append_assoc]
theorem join_new (ts : List (List UInt8)) (t u sep : List UInt8) : Lib.join (ts ++ [t] ++ [u]) sep = Lib.join (ts ++ [t]) sep ++ sep ++ u := by
  rw [join_snoc (ts ++ [t]) u, if_neg (by simp)]
theorem join_split (b : UInt8) (l : List UInt8) : Lib.join (split l b) [b] = l := by
  refine snoc_ind (P := fun l => Lib.join (split l b) [b] = l) ?_ ?_ l
  · rfl
  · intro l c ih
    unfold split at *
    rw [sst_snoc]
    unfold sstep
    by_cases h : c = b
    · rw [if_pos h]
      show Lib.join ((sst b l).1 ++ [(sst b l).2] ++ [[]]) [b] = l ++ [c]
      rw [join_new, ih, h]
      simp
    · rw [if_neg h]
      show Lib.join ((sst b l).1 ++ [(sst b l).2 ++ [c]]) [b] = l ++ [c]
      rw [join_more, ih]
theorem split_free (b : UInt8) (l : List UInt8) : ∀ p ∈ split l b, ∀ c ∈ p, c ≠ b := by
  have h : (∀ p ∈ (sst b l).1, ∀ c ∈ p, c ≠ b) ∧ ∀ c ∈ (sst b l).2, c ≠ b := by
    refine snoc_ind (P := fun l => (∀ p ∈ (sst b l).1, ∀ c ∈ p, c ≠ b) ∧ ∀ c ∈ (sst b l).2, c ≠ b) ?_ ?_ l
    · exact ⟨by simp [sst], by simp [sst]⟩
    · rintro l c ⟨h1, h2⟩
      rw [sst_snoc]
      unfold sstep
      by_cases hc : c = b
      · rw [if_pos hc]
        refine ⟨?_, by simp⟩
        intro p hp
        rcases List.mem_append.1 hp with hp | hp
        · exact h1 p hp
        · rw [List.mem_singleton] at hp
          subst hp
          exact h2
      · rw [if_neg hc]
        refine ⟨h1, ?_⟩
        intro x hx
        rcases List.mem_append.1 hx with hx | hx
        · exact h2 x hx
        · rw [List.mem_singleton] at hx
          subst hx
          exact hc
  intro p hp
  unfold split at hp
  rcases List.mem_append.1 hp with hp | hp
  · exact h.1 p hp
  · rw [List.mem_singleton] at hp
    subst hp
    exact h.2
theorem split_pos (b : UInt8) (l : List UInt8) : 0 < (split l b).length := by unfold split; simp
theorem split_len (b : UInt8) (l : List UInt8) : (split l b).length ≤ l.length + 1 := by
  have := (sst_len b l).1
  unfold split
  rw [List.length_append]
  simp
  omega
theorem split_part (b : UInt8) (l : List UInt8) : ∀ p ∈ split l b, p.length ≤ l.length := by
  refine snoc_ind (P := fun l => ∀ p ∈ split l b, p.length ≤ l.length) ?_ ?_ l
  · intro p hp
    simp [split, sst] at hp
    subst hp
    simp
  · intro l c ih p hp
    unfold split at hp ih
    rw [sst_snoc] at hp
    unfold sstep at hp
    rw [List.length_append]
    by_cases hc : c = b
    · rw [if_pos hc] at hp
      rcases List.mem_append.1 hp with hp | hp
      · have := ih p hp
        omega
      · rw [List.mem_singleton] at hp
        subst hp
        simp
    · rw [if_neg hc] at hp
      rcases List.mem_append.1 hp with hp | hp
      · have := ih p (List.mem_append.2 (.inl hp))
        omega
      · rw [List.mem_singleton] at hp
        subst hp
        have := ih (sst b l).2 (List.mem_append.2 (.inr (List.mem_singleton.2 rfl)))
        rw [List.length_append]
        simp
        omega
end Asc
