/- The document's words for texts of bytes, as plain functions on lists of bytes, and what the loops need of them: blanks and words. -/
namespace Asc
def isBlank (c : UInt8) : Bool := c == 9 || c == 10 || c == 12 || c == 13 || c == 32
/-- One byte more: the words that are whole, and the one that is under way. -/
def wstep (st : List (List UInt8) × List UInt8) (c : UInt8) : List (List UInt8) × List UInt8 :=
  if isBlank c then (if st.2.isEmpty then (st.1, []) else (st.1 ++ [st.2], [])) else (st.1, st.2 ++ [c])
def wfin (st : List (List UInt8) × List UInt8) : List (List UInt8) := if st.2.isEmpty then st.1 else st.1 ++ [st.2]
def wst (l : List UInt8) : List (List UInt8) × List UInt8 := l.foldl wstep ([], [])
def words (l : List UInt8) : List (List UInt8) := wfin (wst l)
theorem take_snoc (l : List UInt8) (k : Nat) (h : k < l.length) : l.take (k + 1) = l.take k ++ [l[k]] := by
  rw [List.take_succ_eq_append_getElem h]
theorem wst_snoc (l : List UInt8) (c : UInt8) : wst (l ++ [c]) = wstep (wst l) c := by simp [wst, List.foldl_append]
theorem snoc_ind {α : Type} {P : List α → Prop} (h0 : P []) (h1 : ∀ l c, P l → P (l ++ [c])) (l : List α) : P l := by
  rw [← List.reverse_reverse l]
  induction l.reverse with
  | nil => exact h0
  | cons c r ih => rw [List.reverse_cons]; exact h1 _ _ ih
theorem wst_len (l : List UInt8) : (wst l).1.length + (wst l).2.length ≤ l.length := by
  refine snoc_ind (P := fun l => (wst l).1.length + (wst l).2.length ≤ l.length) ?_ ?_ l
  · simp [wst]
  · intro l c ih
    rw [wst_snoc]
    unfold wstep
    split
    · split
      · simp; omega
      · rename_i h
        have : (wst l).2 ≠ [] := by simpa using h
        have := List.length_pos_iff.2 this
        simp; omega
    · simp; omega
theorem words_len (l : List UInt8) : (words l).length ≤ l.length := by
  have := wst_len l
  unfold words wfin
  split
  · omega
  · rename_i h
    have : (wst l).2 ≠ [] := by simpa using h
    have := List.length_pos_iff.2 this
    simp; omega
theorem wst_next (l : List UInt8) (k : Nat) (h : k < l.length) : wst (l.take (k + 1)) = wstep (wst (l.take k)) l[k] := by
  rw [take_snoc l k h, wst_snoc]
theorem len_drop (l : List UInt8) (k f : Nat) (h : k ≤ l.length) : ((l.take k).drop f).length = k - f := by
  rw [List.length_drop, List.length_take]; omega
theorem word_blank (l : List UInt8) (k f : Nat) (h : k < l.length) (hb : isBlank l[k] = true) (hf : f < k) (hc : (wst (l.take k)).2 = (l.take k).drop f) :
    wst (l.take (k + 1)) = ((wst (l.take k)).1 ++ [(l.take k).drop f], []) := by
  rw [wst_next l k h]
  unfold wstep
  have : ((l.take k).drop f).isEmpty = false := by
    rw [Bool.eq_false_iff]
    intro e
    have := len_drop l k f (by omega)
    rw [List.isEmpty_iff.1 e] at this
    simp at this
    omega
  rw [if_pos hb, hc, this]
  rfl
theorem word_gap (l : List UInt8) (k f : Nat) (h : k < l.length) (hb : isBlank l[k] = true) (hf : ¬ f < k) (hc : (wst (l.take k)).2 = (l.take k).drop f) :
    wst (l.take (k + 1)) = ((wst (l.take k)).1, []) := by
  rw [wst_next l k h]
  unfold wstep
  have : (l.take k).drop f = [] := by
    apply List.drop_eq_nil_of_le
    rw [List.length_take]; omega
  rw [if_pos hb, hc, this]
  rfl
theorem word_on (l : List UInt8) (k f : Nat) (h : k < l.length) (hb : isBlank l[k] = false) (hf : f ≤ k) (hc : (wst (l.take k)).2 = (l.take k).drop f) :
    wst (l.take (k + 1)) = ((wst (l.take k)).1, (l.take (k + 1)).drop f) := by
  rw [wst_next l k h]
  unfold wstep
  rw [hb, hc, take_snoc l k h, List.drop_append_of_le_length (by rw [List.length_take]; omega)]
  rfl
theorem words_more (l : List UInt8) (k f : Nat) (h : ¬ k < l.length) (hk : k ≤ l.length) (hf : f < l.length) (hc : (wst (l.take k)).2 = (l.take k).drop f) :
    words l = (wst (l.take k)).1 ++ [(l.take l.length).drop f] := by
  have : k = l.length := by omega
  subst this
  rw [List.take_length] at hc ⊢
  unfold words wfin
  rw [hc]
  have : (l.drop f).isEmpty = false := by
    rw [Bool.eq_false_iff]
    intro e
    have := List.length_drop (i := f) (l := l)
    rw [List.isEmpty_iff.1 e] at this
    simp at this
    omega
  rw [this]
  rfl
theorem words_done (l : List UInt8) (k f : Nat) (h : ¬ k < l.length) (hk : k ≤ l.length) (hf : ¬ f < l.length) (hc : (wst (l.take k)).2 = (l.take k).drop f) :
    words l = (wst (l.take k)).1 := by
  have : k = l.length := by omega
  subst this
  rw [List.take_length] at hc ⊢
  unfold words wfin
  rw [hc, List.drop_eq_nil_of_le (by omega)]
  rfl
end Asc
