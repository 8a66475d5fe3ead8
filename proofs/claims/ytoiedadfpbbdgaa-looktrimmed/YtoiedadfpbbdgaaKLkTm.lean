/- What is plain is no longer than what its nodes hold, and has no blank at its ends: in plain functions. -/
import Derived.Test.YtoiedadfpbbdgaaKLkM
import Derived.Test.YtoiedadfpbbdgaaKMath
set_option linter.unusedVariables false
namespace Lk
open Tre
def mAt (a : At) : Nat := a.2.length + 2
def mNd (n : Nd) : Nat := n.text.length + 1 + (n.attrs.map mAt).sum
def mTo (ns : List Nd) (j : Nat) : Nat := ((ns.take j).map mNd).sum
theorem mTo_next (ns : List Nd) (j : Nat) (h : j < ns.length) : mTo ns (j + 1) = mTo ns j + mNd (ndAt ns j) := by
  unfold mTo
  rw [List.take_add_one, ndAt_get h]
  simp
theorem mTo_sum {ns : List Nd} : ∀ n, n ≤ ns.length → mTo ns n = sumTo (fun i => mNd (ndAt ns i)) n
  | 0, _ => by simp [mTo, sumTo]
  | n + 1, h => by rw [mTo_next ns n (by omega), mTo_sum n (by omega), sumTo]
theorem sum_le_mul {l : List Nat} {M : Nat} (h : ∀ x ∈ l, x ≤ M) : l.sum ≤ l.length * M := by
  induction l with
  | nil => simp
  | cons a l ih =>
    rw [List.sum_cons, List.length_cons, Nat.succ_mul]
    have := h a (List.mem_cons_self ..)
    have := ih (fun x hx => h x (List.mem_cons_of_mem _ hx))
    omega
theorem aSum_le (ats : List At) (j : Nat) (ha : ∀ a ∈ ats, a.2.length ≤ 140737488351232) : ((ats.take j).map mAt).sum ≤ j * 140737488351234 := by
  refine Nat.le_trans (sum_le_mul (M := 140737488351234) (fun x hx => ?_)) ?_
  · obtain ⟨a, h, rfl⟩ := List.mem_map.1 hx
    have := ha a (List.mem_of_mem_take h)
    unfold mAt
    omega
  · refine Nat.mul_le_mul_right _ ?_
    rw [List.length_map, List.length_take]
    exact Nat.min_le_left _ _
theorem mNd_le {n : Nd} (ht : n.text.length ≤ 140737488351232) (hl : n.attrs.length ≤ 100) (ha : ∀ a ∈ n.attrs, a.2.length ≤ 140737488351232) : mNd n ≤ 15000000000000000 := by
  have h := aSum_le n.attrs n.attrs.length ha
  rw [List.take_length] at h
  unfold mNd
  have : n.attrs.length * 140737488351234 ≤ 100 * 140737488351234 := Nat.mul_le_mul_right _ hl
  omega
theorem mTo_le {ns : List Nd} (j : Nat) (hj : j ≤ ns.length) (h : ∀ i, i < ns.length → mNd (ndAt ns i) ≤ 15000000000000000) : mTo ns j ≤ j * 15000000000000000 := by
  rw [mTo_sum j hj, ← sumTo_const]
  exact sumTo_le j (fun i hi => h i (by omega))
theorem attr_sum {ats : List At} (q : Bs) (h : (attrF ats q).2 = true) : (attrF ats q).1.length + 2 ≤ (ats.map mAt).sum := by
  induction ats with
  | nil => cases h
  | cons a l ih =>
    rw [attrF] at h ⊢
    rw [List.map_cons, List.sum_cons]
    split at h
    · rename_i e
      rw [if_pos e]
      unfold mAt
      simp only
      omega
    · rename_i e
      rw [if_neg e]
      have := ih h
      omega
theorem stands_sum (n : Nd) : (stands n).length ≤ 1 + (n.attrs.map mAt).sum := by
  unfold stands
  split
  · simp only [List.length_cons, List.length_nil]; omega
  · split
    · unfold image
      split
      · rename_i h
        have := attr_sum altN h
        omega
      · split
        · rename_i h
          have := attr_sum srcN h
          simp only [List.length_cons, List.length_append, List.length_nil]
          omega
        · exact Nat.zero_le _
    · exact Nat.zero_le _
theorem trim_shorter (l : Bs) : (Asc.trim l).length ≤ l.length := by
  unfold Asc.trim
  obtain ⟨r, hr⟩ := Asc.trimR_prefix (Asc.trimL l)
  have h1 := congrArg List.length hr
  rw [List.length_append] at h1
  have h2 : (Asc.trimL l).length ≤ l.length := (List.dropWhile_suffix _).length_le
  omega
theorem plain_most (ns : List Nd) (at_ : Int) : (plainR ns at_).length ≤ mTo ns ns.length := by
  unfold plainR
  split
  · rename_i h
    obtain ⟨i, rfl, hi, hm⟩ := place_yes h
    rw [Int.toNat_natCast]
    refine Nat.le_trans (trim_shorter _) (Nat.le_trans (told_len hm true hi) ?_)
    rw [mTo_sum _ (Nat.le_refl _)]
    refine sumTo_le _ (fun j hj => ?_)
    unfold ownK mNd
    split
    · omega
    · rw [if_pos rfl]
      have := stands_sum (ndAt ns j)
      omega
  · exact Nat.zero_le _
theorem trim_head (l : Bs) (c : UInt8) (h : (Asc.trim l).head? = some c) : Asc.isBlank c = false := by
  unfold Asc.trim at h
  obtain ⟨r, hr⟩ := Asc.trimR_prefix (Asc.trimL l)
  refine Asc.trimL_idem l c ?_
  rw [hr]
  cases ht : Asc.trimR (Asc.trimL l) with
  | nil => rw [ht] at h; cases h
  | cons a t => rw [ht] at h; exact h
theorem trim_last (l : Bs) (c : UInt8) (h : (Asc.trim l).getLast? = some c) : Asc.isBlank c = false := Asc.trimR_last_ok (Asc.trimL l) c h
theorem plain_head (ns : List Nd) (at_ : Int) (c : UInt8) (h : (plainR ns at_).head? = some c) : Asc.isBlank c = false := by
  unfold plainR at h
  split at h
  · exact trim_head _ c h
  · cases h
theorem plain_last (ns : List Nd) (at_ : Int) (c : UInt8) (h : (plainR ns at_).getLast? = some c) : Asc.isBlank c = false := by
  unfold plainR at h
  split at h
  · exact trim_last _ c h
  · cases h
end Lk
