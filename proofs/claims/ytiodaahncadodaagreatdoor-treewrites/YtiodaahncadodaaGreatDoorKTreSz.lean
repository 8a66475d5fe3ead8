/- A tree's text is no longer than what its nodes add to it, each once. -/
import Derived.Test.YtiodaahncadodaaGreatDoorKTreM
set_option linter.unusedVariables false
namespace Tre
def sumTo (f : Nat → Nat) : Nat → Nat
  | 0 => 0
  | n + 1 => sumTo f n + f n
theorem sumTo_congr {f g : Nat → Nat} : ∀ n, (∀ i, i < n → f i = g i) → sumTo f n = sumTo g n
  | 0, _ => rfl
  | n + 1, h => by rw [sumTo, sumTo, sumTo_congr n (fun i hi => h i (by omega)), h n (by omega)]
theorem sumTo_le {f g : Nat → Nat} : ∀ n, (∀ i, i < n → f i ≤ g i) → sumTo f n ≤ sumTo g n
  | 0, _ => Nat.le_refl _
  | n + 1, h => by
    rw [sumTo, sumTo]
    have := sumTo_le n (fun i hi => h i (by omega))
    have := h n (by omega)
    omega
theorem sumTo_add (f g : Nat → Nat) : ∀ n, sumTo (fun i => f i + g i) n = sumTo f n + sumTo g n
  | 0 => rfl
  | n + 1 => by
    rw [sumTo, sumTo, sumTo, sumTo_add f g n]
    omega
theorem sumTo_const (c : Nat) : ∀ n, sumTo (fun _ => c) n = n * c
  | 0 => by simp [sumTo]
  | n + 1 => by rw [sumTo, sumTo_const c n, Nat.succ_mul]
theorem sumTo_none {f : Nat → Nat} : ∀ n, (∀ i, i < n → f i = 0) → sumTo f n = 0
  | 0, _ => rfl
  | n + 1, h => by rw [sumTo, sumTo_none n (fun i hi => h i (by omega)), h n (by omega)]
theorem sumTo_one (x : Int) (c : Nat) : ∀ n : Nat, 0 ≤ x → x < (n : Int) → sumTo (fun i => if x = (i : Int) then c else 0) n = c
  | 0, h, h2 => by omega
  | n + 1, h, h2 => by
    rw [sumTo]
    by_cases e : x = (n : Int)
    · rw [if_pos e, sumTo_none n (fun i hi => if_neg (by omega)), Nat.zero_add]
    · rw [if_neg e, sumTo_one x c n h (by omega)]
      omega
theorem kids_sum {ns : List Nd} (f : Nat → Nat) (N : Nat) (h0 : (ndAt ns 0).up < 0) : ∀ m, (∀ j, j < m → j ≠ 0 → 0 ≤ (ndAt ns j).up ∧ (ndAt ns j).up < (N : Int)) →
    sumTo (fun u => ((kidsTo ns u m).map fun k => f k.toNat).sum) N = sumTo (fun j => if j = 0 then 0 else f j) m
  | 0, _ => sumTo_none N (fun i _ => by simp [kidsTo])
  | m + 1, h => by
    have ih := kids_sum f N h0 m (fun j hj => h j (by omega))
    have e : sumTo (fun u => ((kidsTo ns u (m + 1)).map fun k => f k.toNat).sum) N = sumTo (fun u => ((kidsTo ns u m).map fun k => f k.toNat).sum + (if (ndAt ns m).up = (u : Int) then f m else 0)) N := by
      refine sumTo_congr N (fun u hu => ?_)
      rw [kidsTo, List.map_append, List.sum_append]
      congr 1
      split <;> simp
    rw [e, sumTo_add, ih, sumTo]
    congr 1
    by_cases hm : m = 0
    · rw [if_pos hm]
      subst hm
      exact sumTo_none N (fun i _ => if_neg (by omega))
    · rw [if_neg hm]
      have := h m (by omega) hm
      exact sumTo_one _ _ N this.1 this.2
theorem kidsTo_has {ns : List Nd} {u j : Nat} (hu : (ndAt ns j).up = (u : Int)) : ∀ n, j < n → (j : Int) ∈ kidsTo ns u n
  | 0, h => by omega
  | n + 1, h => by
    rw [kidsTo, List.mem_append]
    by_cases e : j = n
    · subst e
      rw [if_pos hu]
      exact .inr (List.mem_cons_self ..)
    · exact .inl (kidsTo_has hu n (by omega))
/-- What a node adds by itself. -/
def own (ns : List Nd) (i : Nat) : Nat := if (ndAt ns i).kind = 3 then (if rawB ns (ndAt ns i) = true then (ndAt ns i).text.length else (Rf.enc false (ndAt ns i).text).length) else (Tk.tagText (startTok (ndAt ns i))).length + (if isVoid (ndAt ns i).name = true then 0 else (Tk.tagText (endTok (ndAt ns i))).length)
theorem inner_len (ns : List Nd) (i : Nat) : (innerT ns i).length = ((ndAt ns i).kids.map fun k => (nodeT ns k.toNat).length).sum := by
  unfold innerT
  rw [List.length_flatMap]
theorem node_len {ns : List Nd} (h : mayB ns = true) {i : Nat} (hi : i < ns.length) : (nodeT ns i).length ≤ own ns i + (innerT ns i).length := by
  unfold own
  by_cases hk : (ndAt ns i).kind = 3
  · rw [node_text h hi hk, if_pos hk]
    split <;> omega
  · rw [node_elem h hi hk, if_neg hk]
    simp only [List.length_append]
    split
    · simp only [List.length_nil]; omega
    · omega
theorem root_up {ns : List Nd} (h : mayB ns = true) : (ndAt ns 0).up < 0 := by
  have hl := ((mayB_iff ns).1 h).1.1
  have hs := may_shape h (i := 0) (by omega)
  unfold shapeB rootB at hs
  simp only [if_pos, Bool.and_eq_true, beq_iff_eq] at hs
  have := hs.2.1
  omega
theorem root_len {ns : List Nd} (h : mayB ns = true) : (nodeT ns 0).length ≤ sumTo (own ns) ns.length := by
  have hl := ((mayB_iff ns).1 h).1.1
  have h1 : sumTo (fun i => (nodeT ns i).length) ns.length ≤ sumTo (fun i => own ns i + ((kidsTo ns i ns.length).map fun k => (nodeT ns k.toNat).length).sum) ns.length :=
    sumTo_le _ (fun i hi => by
      have := node_len h hi
      rw [inner_len, may_kids h hi] at this
      exact this)
  rw [sumTo_add, kids_sum (fun i => (nodeT ns i).length) ns.length (root_up h) ns.length (fun j hj h0 => by have := may_up h hj h0; omega)] at h1
  have h2 : ∀ n, 1 ≤ n → sumTo (fun i => (nodeT ns i).length) n = (nodeT ns 0).length + sumTo (fun j => if j = 0 then 0 else (nodeT ns j).length) n := by
    intro n hn
    induction n with
    | zero => omega
    | succ n ih =>
      by_cases e : n = 0
      · subst e
        simp [sumTo]
      · rw [sumTo, sumTo, ih (by omega), if_neg e]
        omega
  have h3 := h2 ns.length hl
  omega
theorem le_sum_of_mem {l : List Nat} {x : Nat} (h : x ∈ l) : x ≤ l.sum := by
  induction l with
  | nil => cases h
  | cons y l ih =>
    rw [List.sum_cons]
    rcases List.mem_cons.1 h with rfl | h
    · omega
    · have := ih h; omega
theorem up_kind {ns : List Nd} (h : mayB ns = true) {i u : Nat} (hi : i < ns.length) (h0 : i ≠ 0) (hu : (ndAt ns i).up = (u : Int)) : (ndAt ns u).kind ≠ 3 := by
  have hs := may_shape h hi
  unfold shapeB liesB at hs
  rw [if_neg h0] at hs
  simp only [Bool.and_eq_true] at hs
  have h2 := hs.1.2.2
  rw [hu] at h2
  simpa using h2
theorem all_len {ns : List Nd} (h : mayB ns = true) : ∀ i, i < ns.length → (nodeT ns i).length ≤ sumTo (own ns) ns.length := by
  intro i
  induction i using Nat.strongRecOn with
  | ind i ih =>
    intro hi
    by_cases h0 : i = 0
    · subst h0; exact root_len h
    · have hu := may_up h hi h0
      obtain ⟨u, hue⟩ : ∃ u : Nat, (ndAt ns i).up = (u : Int) := ⟨(ndAt ns i).up.toNat, by omega⟩
      have hui : u < i := by omega
      have h1 := ih u hui (by omega)
      rw [node_elem h (by omega : u < ns.length) (up_kind h hi h0 hue)] at h1
      have h2 : (nodeT ns i).length ≤ (innerT ns u).length := by
        rw [inner_len, may_kids h (by omega : u < ns.length)]
        refine le_sum_of_mem (List.mem_map.2 ⟨(i : Int), kidsTo_has hue _ hi, ?_⟩)
        have : ((i : Int)).toNat = i := by omega
        rw [this]
      simp only [List.length_append] at h1
      omega
/-- .. and no more than so many times what one adds at most. -/
theorem all_len_le {ns : List Nd} (h : mayB ns = true) (M : Nat) (hM : ∀ i, i < ns.length → own ns i ≤ M) : ∀ i, i < ns.length → (nodeT ns i).length ≤ 4096 * M := fun i hi => by
  have h1 := all_len h i hi
  have h2 := sumTo_le ns.length hM
  rw [sumTo_const] at h2
  have h3 := ((mayB_iff ns).1 h).1.2
  exact Nat.le_trans (Nat.le_trans h1 h2) (Nat.mul_le_mul_right _ h3)
theorem inner_le {ns : List Nd} (h : mayB ns = true) (M : Nat) (hM : ∀ i, i < ns.length → own ns i ≤ M) {i : Nat} (hi : i < ns.length) (hk : (ndAt ns i).kind ≠ 3) : (innerT ns i).length ≤ 4096 * M := by
  have h1 := all_len_le h M hM i hi
  rw [node_elem h hi hk] at h1
  simp only [List.length_append] at h1
  omega
end Tre
