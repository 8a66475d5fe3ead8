/- Texts laid as one. -/
import Derived.Lib.Join
/- The document's words for texts of bytes, as plain functions on lists of bytes, and what the loops need of them: blanks and words. -/
namespace Asc
def isBlank (c : UInt8) : Bool := c == 9 || c == 10 || c == 12 || c == 13 || c == 32
/-- One byte more: the words that are whole, and the one that is under way. -/
def wstep (st : List (List UInt8) × List UInt8) (c : UInt8) : List (List UInt8) × List UInt8 :=
  if isBlank c then (if st.2.isEmpty then (st.1, []) else (st.1 ++ [st.2], [])) else (st.1, st.2 ++ [c])
def wfin (st : List (List UInt8) × List UInt8) : List (List UInt8) := if st.2.isEmpty then st.1 else st.1 ++ [st.2]
def wst (l : List UInt8) : List (List UInt8) × List UInt8 := l.foldl wstep ([], [])
def words (l : List UInt8) : List (List UInt8) := wfin (wst l)
theorem take_snoc (l : List UInt8) (k : Nat) (h : k < l.length) : l.take (k + 1) = l.take k ++ [l[k]] := by
  rw [List.take_succ_eq_append_getElem h]
theorem wst_snoc (l : List UInt8) (c : UInt8) : wst (l ++ [c]) = wstep (wst l) c := by simp [wst, List.foldl_append]
theorem snoc_ind {α : Type} {P : List α → Prop} (h0 : P []) (h1 : ∀ l c, P l → P (l ++ [c])) (l : List α) : P l := by
  rw [← List.reverse_reverse l]
  induction l.reverse with
  | nil => exact h0
  | cons c r ih => rw [List.reverse_cons]; exact h1 _ _ ih
theorem wst_len (l : List UInt8) : (wst l).1.length + (wst l).2.length ≤ l.length := by
  refine snoc_ind (P := fun l => (wst l).1.length + (wst l).2.length ≤ l.length) ?_ ?_ l
  · simp [wst]
  · intro l c ih
    rw [wst_snoc]
    unfold wstep
    split
    · split
      · simp; omega
      · rename_i h
        have : (wst l).2 ≠ [] := by simpa using h
        have := List.length_pos_iff.2 this
        simp; omega
    · simp; omega
theorem words_len (l : List UInt8) : (words l).length ≤ l.length := by
  have := wst_len l
  unfold words wfin
  split
  · omega
  · rename_i h
    have : (wst l).2 ≠ [] := by simpa using h
    have := List.length_pos_iff.2 this
    simp; omega
theorem wst_next (l : List UInt8) (k : Nat) (h : k < l.length) : wst (l.take (k + 1)) = wstep (wst (l.take k)) l[k] := by
  rw [take_snoc l k h, wst_snoc]
theorem len_drop (l : List UInt8) (k f : Nat) (h : k ≤ l.length) : ((l.take k).drop f).length = k - f := by
  rw [List.length_drop, List.length_take]; omega
theorem word_blank (l : List UInt8) (k f : Nat) (h : k < l.length) (hb : isBlank l[k] = true) (hf : f < k) (hc : (wst (l.take k)).2 = (l.take k).drop f) :
    wst (l.take (k + 1)) = ((wst (l.take k)).1 ++ [(l.take k).drop f], []) := by
  rw [wst_next l k h]
  unfold wstep
  have : ((l.take k).drop f).isEmpty = false := by
    rw [Bool.eq_false_iff]
    intro e
    have := len_drop l k f (by omega)
    rw [List.isEmpty_iff.1 e] at this
    simp at this
    omega
  rw [if_pos hb, hc, this]
  rfl
theorem word_gap (l : List UInt8) (k f : Nat) (h : k < l.length) (hb : isBlank l[k] = true) (hf : ¬ f < k) (hc : (wst (l.take k)).2 = (l.take k).drop f) :
    wst (l.take (k + 1)) = ((wst (l.take k)).1, []) := by
  rw [wst_next l k h]
  unfold wstep
  have : (l.take k).drop f = [] := by
    apply List.drop_eq_nil_of_le
    rw [List.length_take]; omega
  rw [if_pos hb, hc, this]
  rfl
theorem word_on (l : List UInt8) (k f : Nat) (h : k < l.length) (hb : isBlank l[k] = false) (hf : f ≤ k) (hc : (wst (l.take k)).2 = (l.take k).drop f) :
    wst (l.take (k + 1)) = ((wst (l.take k)).1, (l.take (k + 1)).drop f) := by
  rw [wst_next l k h]
  unfold wstep
  rw [hb, hc, take_snoc l k h, List.drop_append_of_le_length (by rw [List.length_take]; omega)]
  rfl
theorem words_more (l : List UInt8) (k f : Nat) (h : ¬ k < l.length) (hk : k ≤ l.length) (hf : f < l.length) (hc : (wst (l.take k)).2 = (l.take k).drop f) :
    words l = (wst (l.take k)).1 ++ [(l.take l.length).drop f] := by
  have : k = l.length := by omega
  subst this
  rw [List.take_length] at hc ⊢
  unfold words wfin
  rw [hc]
  have : (l.drop f).isEmpty = false := by
    rw [Bool.eq_false_iff]
    intro e
    have := List.length_drop (i := f) (l := l)
    rw [List.isEmpty_iff.1 e] at this
    simp at this
    omega
  rw [this]
  rfl
theorem words_done (l : List UInt8) (k f : Nat) (h : ¬ k < l.length) (hk : k ≤ l.length) (hf : ¬ f < l.length) (hc : (wst (l.take k)).2 = (l.take k).drop f) :
    words l = (wst (l.take k)).1 := by
  have : k = l.length := by omega
  subst this
  rw [List.take_length] at hc ⊢
  unfold words wfin
  rw [hc, List.drop_eq_nil_of_le (by omega)]
  rfl
end Asc
/- Plain functions: bytes to lower, hex digits and hex numbers. -/
namespace Asc
def lowN (n : Int) : Int := if 65 ≤ n ∧ n ≤ 90 then n + 32 else n
def lowerC (c : UInt8) : UInt8 := if 65 ≤ c ∧ c ≤ 90 then c + 32 else c
def lower (l : List UInt8) : List UInt8 := l.map lowerC
theorem lowN_byte (c : UInt8) : lowN (c.toNat : Int) = ((lowerC c).toNat : Int) := by
  unfold lowN lowerC
  have e : ((65 : Int) ≤ (c.toNat : Int) ∧ (c.toNat : Int) ≤ 90) ↔ (65 ≤ c ∧ c ≤ 90) := by
    rw [UInt8.le_iff_toNat_le, UInt8.le_iff_toNat_le]
    simp
    omega
  by_cases h : 65 ≤ c ∧ c ≤ 90
  · rw [if_pos (e.2 h), if_pos h]
    have := e.2 h
    rw [UInt8.toNat_add]
    simp
    omega
  · rw [if_neg (fun x => h (e.1 x)), if_neg h]
theorem lowN_bd (n : Int) (h0 : 0 ≤ n) (h1 : n ≤ 255) : 0 ≤ lowN n ∧ lowN n ≤ 255 := by unfold lowN; split <;> omega
theorem lower_snoc (l : List UInt8) (c : UInt8) : lower (l ++ [c]) = lower l ++ [lowerC c] := by simp [lower]
/-- A hex digit's number, and whether it is one. -/
def hexOk (n : Int) : Bool := decide (48 ≤ n ∧ n ≤ 57) || decide (97 ≤ n ∧ n ≤ 102) || decide (65 ≤ n ∧ n ≤ 70)
def hexV (n : Int) : Int := if 48 ≤ n ∧ n ≤ 57 then n - 48 else if 97 ≤ n ∧ n ≤ 102 then n - 87 else if 65 ≤ n ∧ n ≤ 70 then n - 55 else 0
theorem hexV_bd (n : Int) : 0 ≤ hexV n ∧ hexV n ≤ 15 := by unfold hexV; split; omega; split; omega; split <;> omega
theorem hex_digit (n : Int) (h : 48 ≤ lowN n) (h2 : lowN n ≤ 57) : hexV n = lowN n - 48 ∧ hexOk n = true := by
  have e : lowN n = n := by unfold lowN at *; split at h <;> omega
  rw [e] at h h2
  unfold hexV hexOk
  rw [if_pos ⟨h, h2⟩, e]
  simp [h, h2]
theorem hex_letter (n : Int) (h : 97 ≤ lowN n) (h2 : lowN n ≤ 102) : hexV n = lowN n - 97 + 10 ∧ hexOk n = true := by
  unfold lowN at *
  unfold hexV hexOk
  split at h
  · rw [if_pos (by assumption)] at h2
    rw [if_neg (by omega), if_neg (by omega), if_pos (by omega)]
    refine ⟨by omega, ?_⟩
    simp only [Bool.or_eq_true, decide_eq_true_eq]
    omega
  · rw [if_neg (by assumption)] at h2
    rw [if_neg (by omega), if_pos (by omega)]
    refine ⟨by omega, ?_⟩
    simp only [Bool.or_eq_true, decide_eq_true_eq]
    omega
theorem hex_none (n : Int) (h : lowN n < 48 ∨ (57 < lowN n ∧ lowN n < 97) ∨ 102 < lowN n) : hexV n = 0 ∧ hexOk n = false := by
  have hn : ¬ (48 ≤ n ∧ n ≤ 57) ∧ ¬ (97 ≤ n ∧ n ≤ 102) ∧ ¬ (65 ≤ n ∧ n ≤ 70) := by
    unfold lowN at h
    split at h <;> omega
  unfold hexV hexOk
  rw [if_neg hn.1, if_neg hn.2.1, if_neg hn.2.2, decide_eq_false hn.1, decide_eq_false hn.2.1, decide_eq_false hn.2.2]
  exact ⟨rfl, rfl⟩
def bt (c : UInt8) : Int := (c.toNat : Int)
def allHex (l : List UInt8) : Bool := l.all fun c => hexOk (bt c)
/-- The number, as far as it stays below 2^32. -/
def hexFold : Int → List UInt8 → Option Int
  | n, [] => some n
  | n, c :: r => if 268435455 < n then none else hexFold (n * 16 + hexV (bt c)) r
/-- The document's Hex: the number and the error's number. -/
def hexNum (l : List UInt8) : Int := if allHex l = true ∧ l ≠ [] then (hexFold 0 l).getD 0 else 0
def hexErr (l : List UInt8) : Int := if allHex l = true ∧ l ≠ [] then (match hexFold 0 l with | some _ => 0 | none => 5) else 3
theorem drop_at (l : List UInt8) (k : Nat) (h : k < l.length) : l.drop k = l[k] :: l.drop (k + 1) := List.drop_eq_getElem_cons h
theorem hexFold_next (l : List UInt8) (k : Nat) (n : Int) (h : k < l.length) (hn : n ≤ 268435455) : hexFold n (l.drop k) = hexFold (n * 16 + hexV (bt l[k])) (l.drop (k + 1)) := by
  rw [drop_at l k h, hexFold, if_neg (by omega)]
theorem hexFold_stop (l : List UInt8) (k : Nat) (n : Int) (h : k < l.length) (hn : 268435455 < n) : hexFold n (l.drop k) = none := by
  rw [drop_at l k h, hexFold, if_pos hn]
theorem hexFold_end (l : List UInt8) (k : Nat) (n : Int) (h : l.length ≤ k) : hexFold n (l.drop k) = some n := by
  rw [List.drop_eq_nil_of_le h, hexFold]
theorem hex_form (l : List UInt8) (h : ¬ (allHex l = true ∧ l ≠ [])) : hexNum l = 0 ∧ hexErr l = 3 := by
  unfold hexNum hexErr; rw [if_neg h, if_neg h]; exact ⟨rfl, rfl⟩
theorem hex_many (l : List UInt8) (h : allHex l = true ∧ l ≠ []) (hf : hexFold 0 l = none) : hexNum l = 0 ∧ hexErr l = 5 := by
  unfold hexNum hexErr; rw [if_pos h, if_pos h, hf]; exact ⟨rfl, rfl⟩
theorem hex_ok (l : List UInt8) (n : Int) (h : allHex l = true ∧ l ≠ []) (hf : hexFold 0 l = some n) : hexNum l = n ∧ hexErr l = 0 := by
  unfold hexNum hexErr; rw [if_pos h, if_pos h, hf]; exact ⟨rfl, rfl⟩
theorem allHex_take (l : List UInt8) (k : Nat) (h : k < l.length) : allHex (l.take (k + 1)) = (allHex (l.take k) && hexOk (bt l[k])) := by
  unfold allHex
  rw [List.take_succ_eq_append_getElem h, List.all_append]
  simp
theorem allHex_not (l : List UInt8) (k : Nat) (h : k < l.length) (hn : hexOk (bt l[k]) = false) : allHex l = false := by
  unfold allHex
  rw [List.all_eq_false]
  exact ⟨l[k], List.getElem_mem h, by simp [hn]⟩
def hexForm (l : List UInt8) : Bool := allHex l && !l.isEmpty
theorem hexForm_no (l : List UInt8) (h : hexForm l = false) : ¬ (allHex l = true ∧ l ≠ []) := by
  rintro ⟨h1, h2⟩
  unfold hexForm at h
  rw [h1] at h
  simp at h
  exact h2 h
theorem hexForm_yes (l : List UInt8) (h : hexForm l = true) : allHex l = true ∧ l ≠ [] := by
  unfold hexForm at h
  rw [Bool.and_eq_true] at h
  exact ⟨h.1, by have := h.2; intro e; rw [e] at this; simp at this⟩
end Asc
/- Plain functions: a text split at a byte. -/
namespace Asc
/-- One byte more: the parts that are whole, and the one that is under way. -/
def sstep (b : UInt8) (st : List (List UInt8) × List UInt8) (c : UInt8) : List (List UInt8) × List UInt8 :=
  if c = b then (st.1 ++ [st.2], []) else (st.1, st.2 ++ [c])
def sst (b : UInt8) (l : List UInt8) : List (List UInt8) × List UInt8 := l.foldl (sstep b) ([], [])
def split (l : List UInt8) (b : UInt8) : List (List UInt8) := (sst b l).1 ++ [(sst b l).2]
theorem sst_snoc (b : UInt8) (l : List UInt8) (c : UInt8) : sst b (l ++ [c]) = sstep b (sst b l) c := by simp [sst, List.foldl_append]
theorem sst_next (b : UInt8) (l : List UInt8) (k : Nat) (h : k < l.length) : sst b (l.take (k + 1)) = sstep b (sst b (l.take k)) l[k] := by
  rw [take_snoc l k h, sst_snoc]
theorem sst_len (b : UInt8) (l : List UInt8) : (sst b l).1.length ≤ l.length ∧ (sst b l).2.length ≤ l.length := by
  refine snoc_ind (P := fun l => (sst b l).1.length ≤ l.length ∧ (sst b l).2.length ≤ l.length) ?_ ?_ l
  · simp [sst]
  · intro l c ih
    rw [sst_snoc]
    unfold sstep
    split
    · simp; omega
    · simp; omega
theorem split_cut (b : UInt8) (l : List UInt8) (k f : Nat) (h : k < l.length) (hb : l[k] = b) (hc : (sst b (l.take k)).2 = (l.take k).drop f) :
    sst b (l.take (k + 1)) = ((sst b (l.take k)).1 ++ [(l.take k).drop f], []) := by
  rw [sst_next b l k h, sstep, if_pos hb, hc]
theorem split_on (b : UInt8) (l : List UInt8) (k f : Nat) (h : k < l.length) (hb : ¬ l[k] = b) (hf : f ≤ k) (hc : (sst b (l.take k)).2 = (l.take k).drop f) :
    sst b (l.take (k + 1)) = ((sst b (l.take k)).1, (l.take (k + 1)).drop f) := by
  rw [sst_next b l k h, sstep, if_neg hb, hc, take_snoc l k h, List.drop_append_of_le_length (by rw [List.length_take]; omega)]
end Asc
/- Plain facts: parts joined. -/
namespace Asc
open Go
theorem join_next (ts : List (List UInt8)) (sep t : List UInt8) (k : Nat) (h : ts[k]? = some t) : Lib.join (ts.take (k + 1)) sep = if k = 0 then t else Lib.join (ts.take k) sep ++ sep ++ t := by
  cases ts with
  | nil => simp at h
  | cons x r =>
    cases k with
    | zero =>
      simp at h
      subst h
      rw [if_pos rfl]
      exact Lib.join_one x sep
    | succ k =>
      rw [if_neg (by omega), List.take_succ_cons, List.take_succ_cons, Lib.join_cons, Lib.join_cons, Lib.joinTail_take_succ sep r k t (by simpa using h)]
      simp [List.append_assoc]
theorem join_len (ts : List (List UInt8)) (sep : List UInt8) : (Lib.join ts sep).length ≤ sep.length * ts.length + Lib.lens ts := by
  cases ts with
  | nil => simp [Lib.join_nil]
  | cons x r =>
    rw [Lib.join_cons, List.length_append, Lib.joinTail_length, List.length_cons, Nat.mul_succ]
    simp only [Lib.lens, List.map_cons, List.sum_cons]
    omega
theorem join_take_le (ts : List (List UInt8)) (sep : List UInt8) (k : Nat) : (Lib.join (ts.take k) sep).length ≤ (Lib.join ts sep).length := by
  cases ts with
  | nil => simp
  | cons x r =>
    cases k with
    | zero => simp [Lib.join_nil]
    | succ k =>
      rw [List.take_succ_cons, Lib.join_cons, Lib.join_cons, List.length_append, List.length_append]
      have := Lib.joinTail_take_le sep r k
      omega
theorem lens_snoc (ts : List (List UInt8)) (t : List UInt8) : Lib.lens (ts ++ [t]) = Lib.lens ts + t.length := by simp [Lib.lens]
theorem wst_lens (l : List UInt8) : Lib.lens (wst l).1 + (wst l).2.length ≤ l.length := by
  refine snoc_ind (P := fun l => Lib.lens (wst l).1 + (wst l).2.length ≤ l.length) ?_ ?_ l
  · simp [wst, Lib.lens]
  · intro l c ih
    rw [wst_snoc]
    unfold wstep
    split
    · split
      · simp; omega
      · rw [lens_snoc]; simp; omega
    · simp; omega
theorem words_lens (l : List UInt8) : Lib.lens (words l) ≤ l.length := by
  have := wst_lens l
  unfold words wfin
  split
  · omega
  · rw [lens_snoc]; omega
def squeeze (l : List UInt8) : List UInt8 := Lib.join (words l) [32]
theorem squeeze_len (l : List UInt8) : (squeeze l).length ≤ 2 * l.length := by
  have h1 := join_len (words l) [32]
  have h2 := words_len l
  have h3 := words_lens l
  unfold squeeze
  simp only [List.length_singleton, Nat.one_mul] at h1
  omega
end Asc
/- Plain facts: what was split is joined; no part holds the byte. -/
namespace Asc
open Go
theorem join_snoc (ts : List (List UInt8)) (t sep : List UInt8) : Lib.join (ts ++ [t]) sep = if ts = [] then t else Lib.join ts sep ++ sep ++ t := by
  have h := join_next (ts ++ [t]) sep t ts.length (by simp)
  rw [List.take_of_length_le (by simp), List.take_left] at h
  rw [h]
  by_cases hz : ts = []
  · subst hz
    rfl
  · rw [if_neg hz, if_neg (by intro e; exact hz (List.eq_nil_of_length_eq_zero e))]
theorem join_more (ts : List (List UInt8)) (t u sep : List UInt8) : Lib.join (ts ++ [t ++ u]) sep = Lib.join (ts ++ [t]) sep ++ u := by
  rw [join_snoc, join_snoc]
  split <;> simp [List.append_assoc]
theorem join_new (ts : List (List UInt8)) (t u sep : List UInt8) : Lib.join (ts ++ [t] ++ [u]) sep = Lib.join (ts ++ [t]) sep ++ sep ++ u := by
  rw [join_snoc (ts ++ [t]) u, if_neg (by simp)]
theorem join_split (b : UInt8) (l : List UInt8) : Lib.join (split l b) [b] = l := by
  refine snoc_ind (P := fun l => Lib.join (split l b) [b] = l) ?_ ?_ l
  · rfl
  · intro l c ih
    unfold split at *
    rw [sst_snoc]
    unfold sstep
    by_cases h : c = b
    · rw [if_pos h]
      show Lib.join ((sst b l).1 ++ [(sst b l).2] ++ [[]]) [b] = l ++ [c]
      rw [join_new, ih, h]
      simp
    · rw [if_neg h]
      show Lib.join ((sst b l).1 ++ [(sst b l).2 ++ [c]]) [b] = l ++ [c]
      rw [join_more, ih]
theorem split_free (b : UInt8) (l : List UInt8) : ∀ p ∈ split l b, ∀ c ∈ p, c ≠ b := by
  have h : (∀ p ∈ (sst b l).1, ∀ c ∈ p, c ≠ b) ∧ ∀ c ∈ (sst b l).2, c ≠ b := by
    refine snoc_ind (P := fun l => (∀ p ∈ (sst b l).1, ∀ c ∈ p, c ≠ b) ∧ ∀ c ∈ (sst b l).2, c ≠ b) ?_ ?_ l
    · exact ⟨by simp [sst], by simp [sst]⟩
    · rintro l c ⟨h1, h2⟩
      rw [sst_snoc]
      unfold sstep
      by_cases hc : c = b
      · rw [if_pos hc]
        refine ⟨?_, by simp⟩
        intro p hp
        rcases List.mem_append.1 hp with hp | hp
        · exact h1 p hp
        · rw [List.mem_singleton] at hp
          subst hp
          exact h2
      · rw [if_neg hc]
        refine ⟨h1, ?_⟩
        intro x hx
        rcases List.mem_append.1 hx with hx | hx
        · exact h2 x hx
        · rw [List.mem_singleton] at hx
          subst hx
          exact hc
  intro p hp
  unfold split at hp
  rcases List.mem_append.1 hp with hp | hp
  · exact h.1 p hp
  · rw [List.mem_singleton] at hp
    subst hp
    exact h.2
theorem split_pos (b : UInt8) (l : List UInt8) : 0 < (split l b).length := by unfold split; simp
theorem split_len (b : UInt8) (l : List UInt8) : (split l b).length ≤ l.length + 1 := by
  have := (sst_len b l).1
  unfold split
  rw [List.length_append]
  simp
  omega
theorem split_part (b : UInt8) (l : List UInt8) : ∀ p ∈ split l b, p.length ≤ l.length := by
  refine snoc_ind (P := fun l => ∀ p ∈ split l b, p.length ≤ l.length) ?_ ?_ l
  · intro p hp
    simp [split, sst] at hp
    subst hp
    simp
  · intro l c ih p hp
    unfold split at hp ih
    rw [sst_snoc] at hp
    unfold sstep at hp
    rw [List.length_append]
    by_cases hc : c = b
    · rw [if_pos hc] at hp
      rcases List.mem_append.1 hp with hp | hp
      · have := ih p hp
        omega
      · rw [List.mem_singleton] at hp
        subst hp
        simp
    · rw [if_neg hc] at hp
      rcases List.mem_append.1 hp with hp | hp
      · have := ih p (List.mem_append.2 (.inl hp))
        omega
      · rw [List.mem_singleton] at hp
        subst hp
        have := ih (sst b l).2 (List.mem_append.2 (.inr (List.mem_singleton.2 rfl)))
        rw [List.length_append]
        simp
        omega
end Asc
/- Plain functions: decimal numbers. -/
namespace Asc
def isDig (n : Int) : Bool := decide (48 ≤ n ∧ n ≤ 57)
def allDig (l : List UInt8) : Bool := l.all fun c => isDig (bt c)
def digForm (l : List UInt8) : Bool := allDig l && !l.isEmpty
/-- The number, as far as it stays at most 'most'. -/
def numFold (most : Int) : Int → List UInt8 → Option Int
  | n, [] => some n
  | n, c :: r => if most < n * 10 + (bt c - 48) then none else numFold most (n * 10 + (bt c - 48)) r
def numNum (l : List UInt8) (most : Int) : Int := if digForm l = true then (if most < 0 then 0 else (numFold most 0 l).getD 0) else 0
def numErr (l : List UInt8) (most : Int) : Int := if digForm l = true then (if most < 0 then 5 else (match numFold most 0 l with | some _ => 0 | none => 5)) else 3
theorem num_form (l : List UInt8) (most : Int) (h : digForm l = false) : numNum l most = 0 ∧ numErr l most = 3 := by
  unfold numNum numErr; rw [h]; exact ⟨rfl, rfl⟩
theorem num_neg (l : List UInt8) (most : Int) (h : digForm l = true) (hm : most < 0) : numNum l most = 0 ∧ numErr l most = 5 := by
  unfold numNum numErr; rw [if_pos h, if_pos h, if_pos hm, if_pos hm]; exact ⟨rfl, rfl⟩
theorem num_many (l : List UInt8) (most : Int) (h : digForm l = true) (hm : 0 ≤ most) (hf : numFold most 0 l = none) : numNum l most = 0 ∧ numErr l most = 5 := by
  unfold numNum numErr; rw [if_pos h, if_pos h, if_neg (by omega), if_neg (by omega), hf]; exact ⟨rfl, rfl⟩
theorem num_ok (l : List UInt8) (most n : Int) (h : digForm l = true) (hm : 0 ≤ most) (hf : numFold most 0 l = some n) : numNum l most = n ∧ numErr l most = 0 := by
  unfold numNum numErr; rw [if_pos h, if_pos h, if_neg (by omega), if_neg (by omega), hf]; exact ⟨rfl, rfl⟩
theorem numFold_next (most : Int) (l : List UInt8) (k : Nat) (n : Int) (h : k < l.length) (hn : ¬ most < n * 10 + (bt l[k] - 48)) : numFold most n (l.drop k) = numFold most (n * 10 + (bt l[k] - 48)) (l.drop (k + 1)) := by
  rw [drop_at l k h, numFold, if_neg hn]
theorem numFold_stop (most : Int) (l : List UInt8) (k : Nat) (n : Int) (h : k < l.length) (hn : most < n * 10 + (bt l[k] - 48)) : numFold most n (l.drop k) = none := by
  rw [drop_at l k h, numFold, if_pos hn]
theorem numFold_end (most : Int) (l : List UInt8) (k : Nat) (n : Int) (h : l.length ≤ k) : numFold most n (l.drop k) = some n := by
  rw [List.drop_eq_nil_of_le h, numFold]
theorem allDig_take (l : List UInt8) (k : Nat) (h : k < l.length) : allDig (l.take (k + 1)) = (allDig (l.take k) && isDig (bt l[k])) := by
  unfold allDig
  rw [List.take_succ_eq_append_getElem h, List.all_append]
  simp
theorem allDig_not (l : List UInt8) (k : Nat) (h : k < l.length) (hn : isDig (bt l[k]) = false) : allDig l = false := by
  unfold allDig
  rw [List.all_eq_false]
  exact ⟨l[k], List.getElem_mem h, by simp [hn]⟩
theorem allDig_at (l : List UInt8) (k : Nat) (h : k < l.length) (ha : allDig l = true) : 48 ≤ bt l[k] ∧ bt l[k] ≤ 57 := by
  unfold allDig at ha
  have := List.all_eq_true.1 ha l[k] (List.getElem_mem h)
  simpa [isDig] using this
theorem digForm_all (l : List UInt8) (h : digForm l = true) : allDig l = true := by
  unfold digForm at h
  rw [Bool.and_eq_true] at h
  exact h.1
/-- The step past the greatest, as the program asks it. -/
theorem past (n most d : Int) (h0 : 0 ≤ d) (h1 : d ≤ 9) : (most < n * 10 + d) ↔ (most / 10 < n ∨ (n = most / 10 ∧ most % 10 < d)) := by omega
end Asc
/- Plain functions: a text without the blanks at its ends. -/
namespace Asc
def trimL (l : List UInt8) : List UInt8 := l.dropWhile isBlank
def trimR (l : List UInt8) : List UInt8 := (l.reverse.dropWhile isBlank).reverse
def trim (l : List UInt8) : List UInt8 := trimR (trimL l)
theorem trimL_next (l : List UInt8) (f : Nat) (h : f < l.length) (hb : isBlank l[f] = true) : trimL (l.drop (f + 1)) = trimL (l.drop f) := by
  unfold trimL
  rw [List.drop_eq_getElem_cons h, List.dropWhile_cons_of_pos hb]
theorem trimL_stop (l : List UInt8) (f : Nat) (h : f < l.length) (hb : isBlank l[f] = false) : trimL (l.drop f) = l.drop f := by
  unfold trimL
  rw [List.drop_eq_getElem_cons h, List.dropWhile_cons_of_neg (by simp [hb])]
theorem trimL_end (l : List UInt8) (f : Nat) (h : l.length ≤ f) : trimL (l.drop f) = l.drop f := by
  rw [List.drop_eq_nil_of_le h]; rfl
theorem trimR_blank (a : List UInt8) (c : UInt8) (h : isBlank c = true) : trimR (a ++ [c]) = trimR a := by
  unfold trimR
  rw [List.reverse_append, List.reverse_singleton, List.singleton_append, List.dropWhile_cons_of_pos h]
theorem trimR_stop (a : List UInt8) (c : UInt8) (h : isBlank c = false) : trimR (a ++ [c]) = a ++ [c] := by
  unfold trimR
  rw [List.reverse_append, List.reverse_singleton, List.singleton_append, List.dropWhile_cons_of_neg (by simp [h])]
  simp
theorem part_snoc (l : List UInt8) (f t : Nat) (h : t < l.length) (hf : f ≤ t) : (l.take (t + 1)).drop f = (l.take t).drop f ++ [l[t]] := by
  rw [List.take_succ_eq_append_getElem h, List.drop_append_of_le_length (by rw [List.length_take]; omega)]
theorem trimR_next (l : List UInt8) (f t : Nat) (h : t < l.length) (hf : f ≤ t) (hb : isBlank l[t] = true) : trimR ((l.take t).drop f) = trimR ((l.take (t + 1)).drop f) := by
  rw [part_snoc l f t h hf, trimR_blank _ _ hb]
theorem trimR_done (l : List UInt8) (f t : Nat) (h : t < l.length) (hf : f ≤ t) (hb : isBlank l[t] = false) : trimR ((l.take (t + 1)).drop f) = (l.take (t + 1)).drop f := by
  rw [part_snoc l f t h hf, trimR_stop _ _ hb]
theorem trimR_empty (l : List UInt8) (f t : Nat) (h : t ≤ f) : trimR ((l.take t).drop f) = (l.take t).drop f := by
  rw [List.drop_eq_nil_of_le (by rw [List.length_take]; omega)]; rfl
end Asc
