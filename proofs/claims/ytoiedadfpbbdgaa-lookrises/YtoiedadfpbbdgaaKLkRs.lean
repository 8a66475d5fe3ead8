/- Places below rise; whether a node is among them: in plain functions. -/
import Derived.Test.YtoiedadfpbbdgaaKLkM
set_option linter.unusedVariables false
namespace Lk
open Tre
theorem belowTo_lt (ns : List Nd) (top n : Nat) {k : Int} (h : k ∈ belowTo ns top n) : k < (n : Int) := by
  obtain ⟨i, rfl, hi, _⟩ := (belowTo_mem ns top k n).1 h
  omega
theorem belowTo_up (ns : List Nd) (top : Nat) : ∀ n, (belowTo ns top n).Pairwise (· < ·)
  | 0 => List.Pairwise.nil
  | n + 1 => by
    rw [belowTo, List.pairwise_append]
    refine ⟨belowTo_up ns top n, ?_, fun a ha b hb => ?_⟩
    · split <;> simp
    · have := belowTo_lt ns top n ha
      split at hb
      · rw [List.mem_singleton] at hb
        omega
      · cases hb
/-- Whether a place is the node's own, or among the first j below it. -/
def inF (ns : List Nd) (top j : Nat) (k : Int) : Bool := (k == (top : Int)) || ((belowL ns top).take j).contains k
theorem inF_start (ns : List Nd) (top : Nat) (k : Int) : inF ns top 0 k = if k = (top : Int) then true else false := by
  unfold inF
  by_cases h : k = (top : Int)
  · simp [h]
  · simp [h]
theorem inF_step (ns : List Nd) (top j : Nat) (hj : j < (belowL ns top).length) (k : Int) : inF ns top (j + 1) k = if k = (belowL ns top)[j] then true else inF ns top j k := by
  unfold inF
  rw [List.take_succ_eq_append_getElem hj]
  by_cases h : k = (belowL ns top)[j]
  · rw [if_pos h, ← h]
    simp
  · rw [if_neg h, List.contains_eq_mem, List.contains_eq_mem]
    congr 1
    rw [decide_eq_decide, List.mem_append, List.mem_singleton]
    exact ⟨fun x => x.resolve_right h, .inl⟩
theorem below_up (ns : List Nd) (top : Nat) : (belowL ns top).Pairwise (· < ·) := belowTo_up ns top ns.length
theorem below_at {ns : List Nd} {top j : Nat} (hj : j < (belowL ns top).length) : ∃ x : Nat, (belowL ns top)[j] = (x : Int) ∧ x < ns.length ∧ top < x ∧ (ndAt ns x).kind = 2 ∧ und ns top x = true := by
  obtain ⟨i, h⟩ := (belowTo_mem ns top _ ns.length).1 (List.getElem_mem hj)
  exact ⟨i, h⟩
theorem sorted_take {l : List Int} (h : l.Pairwise (· < ·)) {j : Nat} (hj : j < l.length) {k : Int} (hk : k ∈ l) (hlt : k < l[j]) : k ∈ l.take j := by
  obtain ⟨i, hi, rfl⟩ := List.getElem_of_mem hk
  by_cases hij : i < j
  · exact List.mem_take_iff_getElem.2 ⟨i, by omega, rfl⟩
  · exfalso
    by_cases e : i = j
    · subst e
      omega
    · have := List.pairwise_iff_getElem.1 h j i hj hi (by omega)
      omega
theorem up_in {ns : List Nd} (hm : mayB ns = true) {top x : Nat} (hx : x < ns.length) (ht : top < x) (hu : und ns top x = true) : (ndAt ns x).up = (top : Int) ∨ (ndAt ns x).up ∈ belowL ns top := by
  obtain ⟨h1, h2⟩ := may_up hm hx (by omega)
  obtain ⟨u, hue⟩ : ∃ u : Nat, (ndAt ns x).up = (u : Int) := ⟨(ndAt ns x).up.toNat, by omega⟩
  rw [und_up hm hx ht, hue, Int.toNat_natCast] at hu
  rw [hue]
  by_cases hut : top < u
  · right
    have hk := may_kind hm (by omega : u < ns.length) (by omega)
    have h3 := up_kind hm hx (by omega) hue
    have hk2 : (ndAt ns u).kind = 2 := by
      rcases hk with h | h
      · exact h
      · exact absurd h h3
    exact (belowTo_mem ns top _ ns.length).2 ⟨u, rfl, by omega, hut, hk2, hu⟩
  · left
    rw [und_low hut] at hu
    have : u = top := by simpa using hu
    omega
theorem inF_up {ns : List Nd} (hm : mayB ns = true) {top j : Nat} (hj : j < (belowL ns top).length) : inF ns top j (ndAt ns (belowL ns top)[j].toNat).up = true := by
  obtain ⟨x, hx, hn, ht, _, hu⟩ := below_at hj
  unfold inF
  rcases up_in hm hn ht hu with h | h
  · rw [hx, Int.toNat_natCast, h]
    simp
  · have hlt : (ndAt ns x).up < (belowL ns top)[j] := by
      rw [hx]
      exact (may_up hm hn (by omega)).2
    have := sorted_take (below_up ns top) hj h hlt
    rw [hx, Int.toNat_natCast]
    rw [Bool.or_eq_true]
    right
    simpa using this
theorem inF_all {ns : List Nd} (hm : mayB ns = true) {top i : Nat} (hi : i < ns.length) (ht : top < i) (hk : (ndAt ns i).kind = 2) : inF ns top (belowL ns top).length (ndAt ns i).up = inF ns top (belowL ns top).length (i : Int) := by
  have hI : inF ns top (belowL ns top).length (i : Int) = und ns top i := by
    unfold inF
    rw [List.take_length]
    have hne : ((i : Int) == (top : Int)) = false := by rw [beq_eq_false_iff_ne]; omega
    rw [hne, Bool.false_or]
    cases hu : und ns top i
    · rw [List.contains_eq_mem, decide_eq_false_iff_not]
      intro h
      obtain ⟨x, hx, _, _, _, h5⟩ := (belowTo_mem ns top _ ns.length).1 h
      have : x = i := by omega
      subst this
      rw [hu] at h5
      cases h5
    · rw [List.contains_eq_mem, decide_eq_true_eq]
      exact (belowTo_mem ns top _ ns.length).2 ⟨i, rfl, hi, ht, hk, hu⟩
  rw [hI]
  unfold inF
  rw [List.take_length]
  cases hu : und ns top i
  · rw [Bool.or_eq_false_iff]
    obtain ⟨h1, h2⟩ := may_up hm hi (by omega)
    obtain ⟨u, hue⟩ : ∃ u : Nat, (ndAt ns i).up = (u : Int) := ⟨(ndAt ns i).up.toNat, by omega⟩
    rw [und_up hm hi ht, hue, Int.toNat_natCast] at hu
    rw [hue]
    refine ⟨?_, ?_⟩
    · rw [beq_eq_false_iff_ne]
      intro e
      have : u = top := by omega
      subst this
      rw [und_self] at hu
      cases hu
    · rw [List.contains_eq_mem, decide_eq_false_iff_not]
      intro h
      obtain ⟨x, hx, _, _, _, h5⟩ := (belowTo_mem ns top _ ns.length).1 h
      have : x = u := by omega
      subst this
      rw [hu] at h5
      cases h5
  · rcases up_in hm hi ht hu with h | h
    · rw [h]
      simp
    · rw [Bool.or_eq_true]
      right
      simpa using h
/-- What was the last place ahead of the j-th. -/
def lastF (ns : List Nd) (top : Nat) : Nat → Int
  | 0 => (top : Int)
  | j + 1 => ((belowL ns top)[j]?).getD 0
theorem lastF_next {ns : List Nd} {top j : Nat} (hj : j < (belowL ns top).length) : lastF ns top (j + 1) = (belowL ns top)[j] := by
  show ((belowL ns top)[j]?).getD 0 = _
  rw [List.getElem?_eq_getElem hj]
  rfl
theorem lastF_lt {ns : List Nd} {top j : Nat} (hj : j < (belowL ns top).length) : lastF ns top j < (belowL ns top)[j] := by
  cases j with
  | zero =>
    obtain ⟨x, hx, _, ht, _⟩ := below_at hj
    show (top : Int) < _
    rw [hx]
    omega
  | succ j =>
    rw [lastF_next (by omega)]
    exact List.pairwise_iff_getElem.1 (below_up ns top) j (j + 1) (by omega) hj (by omega)
theorem kid_in {ns : List Nd} (hm : mayB ns = true) {i : Nat} (hi : i < ns.length) {k : Int} (hk : k ∈ kidsE ns i) : ∃ x : Nat, k = (x : Int) ∧ x < ns.length ∧ (ndAt ns x).up = (i : Int) ∧ inF ns i (belowL ns i).length k = true := by
  rw [← kids_below hm hi, List.mem_filter] at hk
  obtain ⟨x, rfl, hx, _⟩ := (belowTo_mem ns i _ ns.length).1 hk.1
  refine ⟨x, rfl, hx, ?_, ?_⟩
  · have := hk.2
    unfold upIs at this
    rw [Int.toNat_natCast] at this
    simpa using this
  · unfold inF
    rw [List.take_length, Bool.or_eq_true]
    right
    simpa using hk.1
end Lk
