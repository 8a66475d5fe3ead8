/- Signs as bytes: the document's words as plain functions on lists of bytes, and what the walks and the promises need of them. -/
import Derived.Lib.DecodeNEq
import Derived.Lib.RuneBytes
set_option linter.unusedVariables false
set_option linter.unusedSimpArgs false
namespace Utf
open Go.Lib
def at' (l : List UInt8) (i : Nat) : Nat := (l.getD i 0).toNat
theorem at_lt (l : List UInt8) (i : Nat) : at' l i < 256 := (l.getD i 0).toNat_lt
/-- How many bytes a sign has that begins with this one (0: there is none), and between which two its second byte lies. -/
def sz (b : Nat) : Nat := if b < 128 then 1 else if b < 194 then 0 else if b < 224 then 2 else if b < 240 then 3 else if b < 245 then 4 else 0
def lo (b : Nat) : Nat := if b = 224 then 160 else if b = 240 then 144 else 128
def hi (b : Nat) : Nat := if b = 237 then 159 else if b = 244 then 143 else 191
/-- The length of the sign at the beginning, or of the largest good part, and whether it is a sign. -/
def partN (n b0 b1 b2 b3 : Nat) : Nat × Bool :=
  if sz b0 = 1 then (1, true)
  else if sz b0 = 0 then (1, false)
  else if ¬ (1 < n ∧ lo b0 ≤ b1 ∧ b1 ≤ hi b0) then (1, false)
  else if sz b0 = 2 then (2, true)
  else if ¬ (2 < n ∧ 128 ≤ b2 ∧ b2 ≤ 191) then (2, false)
  else if sz b0 = 3 then (3, true)
  else if ¬ (3 < n ∧ 128 ≤ b3 ∧ b3 ≤ 191) then (3, false)
  else (4, true)
def part (l : List UInt8) : Nat × Bool := partN l.length (at' l 0) (at' l 1) (at' l 2) (at' l 3)
def dec (l : List UInt8) : Nat × Nat := decodeN l.length (at' l 0) (at' l 1) (at' l 2) (at' l 3)
theorem partN_pos (n b0 b1 b2 b3 : Nat) : 1 ≤ (partN n b0 b1 b2 b3).1 := by
  unfold partN
  repeat' split
  all_goals simp
theorem partN_le4 (n b0 b1 b2 b3 : Nat) : (partN n b0 b1 b2 b3).1 ≤ 4 := by
  unfold partN
  repeat' split
  all_goals simp
theorem partN_len (n b0 b1 b2 b3 : Nat) (h : 1 ≤ n) : (partN n b0 b1 b2 b3).1 ≤ n := by
  unfold partN
  repeat' split
  all_goals simp
  all_goals omega
theorem part_pos (l : List UInt8) : 1 ≤ (part l).1 := partN_pos ..
theorem part_le4 (l : List UInt8) : (part l).1 ≤ 4 := partN_le4 ..
theorem part_len (l : List UInt8) (h : l ≠ []) : (part l).1 ≤ l.length := partN_len _ _ _ _ _ (by cases l <;> simp at h ⊢)
theorem class_cases (b : Nat) (h : b < 256) : b < 128 ∨ (128 ≤ b ∧ b < 194) ∨ (194 ≤ b ∧ b < 224) ∨ b = 224 ∨ ((225 ≤ b ∧ b < 237) ∨ (238 ≤ b ∧ b < 240)) ∨ b = 237 ∨ b = 240 ∨ (241 ≤ b ∧ b < 244) ∨ b = 244 ∨ 245 ≤ b := by omega
theorem decodeN_none (n b0 b1 b2 b3 : Nat) (hb : (128 ≤ b0 ∧ b0 < 194) ∨ (245 ≤ b0 ∧ b0 < 256)) (h1 : b1 < 256) (h2 : b2 < 256) (h3 : b3 < 256) : decodeN n b0 b1 b2 b3 = (65533, 1) := by
  unfold decodeN
  repeat' split
  all_goals first | rfl | (exfalso; omega)
set_option maxHeartbeats 1000000 in
theorem decodeN_part (n b0 b1 b2 b3 : Nat) (hn : 1 ≤ n) (h0 : b0 < 256) (h1 : b1 < 256) (h2 : b2 < 256) (h3 : b3 < 256) :
    ((partN n b0 b1 b2 b3).2 = true → (decodeN n b0 b1 b2 b3).2 = (partN n b0 b1 b2 b3).1) ∧ ((partN n b0 b1 b2 b3).2 = false → decodeN n b0 b1 b2 b3 = (65533, 1)) := by
  rcases class_cases b0 h0 with h | h | h | h | h | h | h | h | h | h
  · have : sz b0 = 1 := by unfold sz; simp [h]
    have hd : decodeN n b0 b1 b2 b3 = (b0, 1) := by unfold decodeN; simp [h]
    simp [partN, this, hd]
  · have : sz b0 = 0 := by unfold sz; rw [if_neg (by omega), if_pos h.2]
    simp [partN, this, decodeN_none n b0 b1 b2 b3 (.inl h) h1 h2 h3]
  · have e : sz b0 = 2 := by unfold sz; rw [if_neg (by omega), if_neg (by omega), if_pos h.2]
    have f : lo b0 = 128 := by unfold lo; rw [if_neg (by omega), if_neg (by omega)]
    have g : hi b0 = 191 := by unfold hi; rw [if_neg (by omega), if_neg (by omega)]
    rw [← slow_C2 n b0 b1 b2 b3 hn h1 h2 h3 h]
    unfold partN slowN
    rw [e, f, g]
    repeat' split
    all_goals first | (exfalso; omega) | simp
  · have e : sz b0 = 3 := by subst h; rfl
    have f : lo b0 = 160 := by subst h; rfl
    have g : hi b0 = 191 := by subst h; rfl
    rw [← slow_E0 n b0 b1 b2 b3 hn h1 h2 h3 h]
    unfold partN slowN
    rw [e, f, g]
    repeat' split
    all_goals first | (exfalso; omega) | simp
  · have e : sz b0 = 3 := by unfold sz; rw [if_neg (by omega), if_neg (by omega), if_neg (by omega), if_pos (by omega)]
    have f : lo b0 = 128 := by unfold lo; rw [if_neg (by omega), if_neg (by omega)]
    have g : hi b0 = 191 := by unfold hi; rw [if_neg (by omega), if_neg (by omega)]
    rw [← slow_E1 n b0 b1 b2 b3 hn h1 h2 h3 h]
    unfold partN slowN
    rw [e, f, g]
    repeat' split
    all_goals first | (exfalso; omega) | simp
  · have e : sz b0 = 3 := by subst h; rfl
    have f : lo b0 = 128 := by subst h; rfl
    have g : hi b0 = 159 := by subst h; rfl
    rw [← slow_ED n b0 b1 b2 b3 hn h1 h2 h3 h]
    unfold partN slowN
    rw [e, f, g]
    repeat' split
    all_goals first | (exfalso; omega) | simp
  · have e : sz b0 = 4 := by subst h; rfl
    have f : lo b0 = 144 := by subst h; rfl
    have g : hi b0 = 191 := by subst h; rfl
    rw [← slow_F0 n b0 b1 b2 b3 hn h1 h2 h3 h]
    unfold partN slowN
    rw [e, f, g]
    repeat' split
    all_goals first | (exfalso; omega) | simp
  · have e : sz b0 = 4 := by unfold sz; rw [if_neg (by omega), if_neg (by omega), if_neg (by omega), if_neg (by omega), if_pos (by omega)]
    have f : lo b0 = 128 := by unfold lo; rw [if_neg (by omega), if_neg (by omega)]
    have g : hi b0 = 191 := by unfold hi; rw [if_neg (by omega), if_neg (by omega)]
    rw [← slow_F1 n b0 b1 b2 b3 hn h1 h2 h3 h]
    unfold partN slowN
    rw [e, f, g]
    repeat' split
    all_goals first | (exfalso; omega) | simp
  · have e : sz b0 = 4 := by subst h; rfl
    have f : lo b0 = 128 := by subst h; rfl
    have g : hi b0 = 143 := by subst h; rfl
    rw [← slow_F4 n b0 b1 b2 b3 hn h1 h2 h3 h]
    unfold partN slowN
    rw [e, f, g]
    repeat' split
    all_goals first | (exfalso; omega) | simp
  · have : sz b0 = 0 := by unfold sz; rw [if_neg (by omega), if_neg (by omega), if_neg (by omega), if_neg (by omega), if_neg (by omega)]
    simp [partN, this, decodeN_none n b0 b1 b2 b3 (.inr ⟨h, h0⟩) h1 h2 h3]
theorem len_pos {l : List UInt8} (h : l ≠ []) : 1 ≤ l.length := by cases l <;> simp at h ⊢
theorem dec_whole (l : List UInt8) (h : l ≠ []) (hw : (part l).2 = true) : (dec l).2 = (part l).1 :=
  (decodeN_part _ _ _ _ _ (len_pos h) (at_lt l 0) (at_lt l 1) (at_lt l 2) (at_lt l 3)).1 hw
theorem dec_bad (l : List UInt8) (h : l ≠ []) (hw : (part l).2 = false) : dec l = (65533, 1) :=
  (decodeN_part _ _ _ _ _ (len_pos h) (at_lt l 0) (at_lt l 1) (at_lt l 2) (at_lt l 3)).2 hw
/-- Behind the first byte of a part stand bytes that begin no sign. -/
theorem part_cont (l : List UInt8) (j : Nat) (h1 : 1 ≤ j) (h2 : j < (part l).1) : 128 ≤ at' l j ∧ at' l j ≤ 191 := by
  have h4 := part_le4 l
  have hl : 128 ≤ lo (at' l 0) := by
    unfold lo
    repeat' split
    all_goals omega
  have hh : hi (at' l 0) ≤ 191 := by
    unfold hi
    repeat' split
    all_goals omega
  unfold part partN at h2
  revert h2
  repeat' split
  all_goals intro h2
  all_goals simp only at h2
  all_goals try omega
  · obtain rfl : j = 1 := by omega
    omega
  · obtain rfl : j = 1 := by omega
    omega
  · obtain rfl | rfl : j = 1 ∨ j = 2 := by omega
    · omega
    · omega
  · obtain rfl | rfl : j = 1 ∨ j = 2 := by omega
    · omega
    · omega
  · obtain rfl | rfl | rfl : j = 1 ∨ j = 2 ∨ j = 3 := by omega
    · omega
    · omega
    · omega
theorem dec_cont (l : List UInt8) (h : 128 ≤ at' l 0 ∧ at' l 0 ≤ 191) : dec l = (65533, 1) :=
  decodeN_none _ _ _ _ _ (.inl ⟨h.1, by omega⟩) (at_lt l 1) (at_lt l 2) (at_lt l 3)
theorem at_drop (l : List UInt8) (k i : Nat) : at' (l.drop k) i = at' l (k + i) := by
  unfold at'
  simp [List.getD_eq_getElem?_getD, List.getElem?_drop]
theorem at_take (l : List UInt8) (k i : Nat) (h : i < k) : at' (l.take k) i = at' l i := by
  unfold at'
  simp [List.getD_eq_getElem?_getD, List.getElem?_take, h]
theorem at_append (l r : List UInt8) (i : Nat) (h : i < l.length) : at' (l ++ r) i = at' l i := by
  unfold at'
  simp [List.getD_eq_getElem?_getD, List.getElem?_append_left h]
/-- A part stays one where what is behind it is cut off. -/
theorem part_take (l : List UInt8) (k : Nat) (h : l ≠ []) (hk : (part l).1 ≤ k) : part (l.take k) = part l := by
  by_cases hkl : l.length ≤ k
  · rw [List.take_of_length_le hkl]
  have hp := part_pos l
  have hlen : (l.take k).length = k := by rw [List.length_take]; omega
  have a0 : at' (l.take k) 0 = at' l 0 := at_take l k 0 (by omega)
  have a1 : 1 < k → at' (l.take k) 1 = at' l 1 := fun h => at_take l k 1 h
  have a2 : 2 < k → at' (l.take k) 2 = at' l 2 := fun h => at_take l k 2 h
  have a3 : 3 < k → at' (l.take k) 3 = at' l 3 := fun h => at_take l k 3 h
  unfold part at *
  rw [hlen, a0]
  generalize hb0 : at' l 0 = b0 at *
  by_cases c1 : 1 < k
  · rw [a1 c1]
    by_cases c2 : 2 < k
    · rw [a2 c2]
      by_cases c3 : 3 < k
      · rw [a3 c3]
        unfold partN
        have e1 : 1 < l.length := by omega
        have e2 : 2 < l.length := by omega
        have e3 : 3 < l.length := by omega
        simp [c1, c2, c3, e1, e2, e3]
      · have e1 : 1 < l.length := by omega
        have e2 : 2 < l.length := by omega
        revert hk
        unfold partN
        repeat' split
        all_goals first | (intro hk; rfl) | (intro hk; simp only at hk; exfalso; omega)
    · revert hk
      unfold partN
      repeat' split
      all_goals first | (intro hk; rfl) | (intro hk; simp only at hk; exfalso; omega)
  · revert hk
    unfold partN
    repeat' split
    all_goals first | (intro hk; rfl) | (intro hk; simp only at hk; exfalso; omega)
/-- Is a number a sign? -/
def right (c : Int) : Bool := decide (0 ≤ c ∧ c ≤ 1114111 ∧ (c < 55296 ∨ 57343 < c))
def mend (c : Int) : Int := if right c then c else 65533
theorem encode_mend (c : Int) : encodeRune (mend c) = encodeRune c := by
  unfold mend
  split
  · rfl
  · rename_i h
    have h' : ¬ (0 ≤ c ∧ c ≤ 1114111 ∧ (c < 55296 ∨ 57343 < c)) := by simpa [right] using h
    unfold encodeRune
    congr 1
    have : encodeRuneZ c = [239, 191, 189] := by
      unfold encodeRuneZ
      rw [if_neg (by omega), if_neg (by omega), if_neg (by omega), if_neg (by omega)]
    rw [this]
    rfl
end Utf
