/- Texts laid as one. -/
import Derived.Lib.DecodeNEq
import Derived.Lib.RuneBytes
import Derived.Lib.Join
import Derived.Lib.ItoaNum
import Derived.Lib.ReplaceLaws
import Derived.Lib.TrimUEq
import Derived.Shelf.GgClosure.StringsTrimFunc
import Derived.Lib.IndexAny
import Derived.Lib.Strings
/- Signs as bytes: the document's words as plain functions on lists of bytes, and what the walks and the promises need of them. -/
set_option linter.unusedVariables false
set_option linter.unusedSimpArgs false
namespace Utf
open Go.Lib
def at' (l : List UInt8) (i : Nat) : Nat := (l.getD i 0).toNat
theorem at_lt (l : List UInt8) (i : Nat) : at' l i < 256 := (l.getD i 0).toNat_lt
/-- How many bytes a sign has that begins with this one (0: there is none), and between which two its second byte lies. -/
def sz (b : Nat) : Nat := if b < 128 then 1 else if b < 194 then 0 else if b < 224 then 2 else if b < 240 then 3 else if b < 245 then 4 else 0
def lo (b : Nat) : Nat := if b = 224 then 160 else if b = 240 then 144 else 128
def hi (b : Nat) : Nat := if b = 237 then 159 else if b = 244 then 143 else 191
/-- The length of the sign at the beginning, or of the largest good part, and whether it is a sign. -/
def partN (n b0 b1 b2 b3 : Nat) : Nat × Bool :=
  if sz b0 = 1 then (1, true)
  else if sz b0 = 0 then (1, false)
  else if ¬ (1 < n ∧ lo b0 ≤ b1 ∧ b1 ≤ hi b0) then (1, false)
  else if sz b0 = 2 then (2, true)
  else if ¬ (2 < n ∧ 128 ≤ b2 ∧ b2 ≤ 191) then (2, false)
  else if sz b0 = 3 then (3, true)
  else if ¬ (3 < n ∧ 128 ≤ b3 ∧ b3 ≤ 191) then (3, false)
  else (4, true)
def part (l : List UInt8) : Nat × Bool := partN l.length (at' l 0) (at' l 1) (at' l 2) (at' l 3)
def dec (l : List UInt8) : Nat × Nat := decodeN l.length (at' l 0) (at' l 1) (at' l 2) (at' l 3)
theorem partN_pos (n b0 b1 b2 b3 : Nat) : 1 ≤ (partN n b0 b1 b2 b3).1 := by
  unfold partN
  repeat' split
  all_goals simp
theorem partN_le4 (n b0 b1 b2 b3 : Nat) : (partN n b0 b1 b2 b3).1 ≤ 4 := by
  unfold partN
  repeat' split
  all_goals simp
theorem partN_len (n b0 b1 b2 b3 : Nat) (h : 1 ≤ n) : (partN n b0 b1 b2 b3).1 ≤ n := by
  unfold partN
  repeat' split
  all_goals simp
  all_goals omega
theorem part_pos (l : List UInt8) : 1 ≤ (part l).1 := partN_pos ..
theorem part_le4 (l : List UInt8) : (part l).1 ≤ 4 := partN_le4 ..
theorem part_len (l : List UInt8) (h : l ≠ []) : (part l).1 ≤ l.length := partN_len _ _ _ _ _ (by cases l <;> simp at h ⊢)
theorem class_cases (b : Nat) (h : b < 256) : b < 128 ∨ (128 ≤ b ∧ b < 194) ∨ (194 ≤ b ∧ b < 224) ∨ b = 224 ∨ ((225 ≤ b ∧ b < 237) ∨ (238 ≤ b ∧ b < 240)) ∨ b = 237 ∨ b = 240 ∨ (241 ≤ b ∧ b < 244) ∨ b = 244 ∨ 245 ≤ b := by omega
theorem decodeN_none (n b0 b1 b2 b3 : Nat) (hb : (128 ≤ b0 ∧ b0 < 194) ∨ (245 ≤ b0 ∧ b0 < 256)) (h1 : b1 < 256) (h2 : b2 < 256) (h3 : b3 < 256) : decodeN n b0 b1 b2 b3 = (65533, 1) := by
  unfold decodeN
  repeat' split
  all_goals first | rfl | (exfalso; omega)
set_option maxHeartbeats 1000000 in
theorem decodeN_part (n b0 b1 b2 b3 : Nat) (hn : 1 ≤ n) (h0 : b0 < 256) (h1 : b1 < 256) (h2 : b2 < 256) (h3 : b3 < 256) :
    ((partN n b0 b1 b2 b3).2 = true → (decodeN n b0 b1 b2 b3).2 = (partN n b0 b1 b2 b3).1) ∧ ((partN n b0 b1 b2 b3).2 = false → decodeN n b0 b1 b2 b3 = (65533, 1)) := by
  rcases class_cases b0 h0 with h | h | h | h | h | h | h | h | h | h
  · have : sz b0 = 1 := by unfold sz; simp [h]
    have hd : decodeN n b0 b1 b2 b3 = (b0, 1) := by unfold decodeN; simp [h]
    simp [partN, this, hd]
  · have : sz b0 = 0 := by unfold sz; rw [if_neg (by omega), if_pos h.2]
    simp [partN, this, decodeN_none n b0 b1 b2 b3 (.inl h) h1 h2 h3]
  · have e : sz b0 = 2 := by unfold sz; rw [if_neg (by omega), if_neg (by omega), if_pos h.2]
    have f : lo b0 = 128 := by unfold lo; rw [if_neg (by omega), if_neg (by omega)]
    have g : hi b0 = 191 := by unfold hi; rw [if_neg (by omega), if_neg (by omega)]
    rw [← slow_C2 n b0 b1 b2 b3 hn h1 h2 h3 h]
    unfold partN slowN
    rw [e, f, g]
    repeat' split
    all_goals first | (exfalso; omega) | simp
  · have e : sz b0 = 3 := by subst h; rfl
    have f : lo b0 = 160 := by subst h; rfl
    have g : hi b0 = 191 := by subst h; rfl
    rw [← slow_E0 n b0 b1 b2 b3 hn h1 h2 h3 h]
    unfold partN slowN
    rw [e, f, g]
    repeat' split
    all_goals first | (exfalso; omega) | simp
  · have e : sz b0 = 3 := by unfold sz; rw [if_neg (by omega), if_neg (by omega), if_neg (by omega), if_pos (by omega)]
    have f : lo b0 = 128 := by unfold lo; rw [if_neg (by omega), if_neg (by omega)]
    have g : hi b0 = 191 := by unfold hi; rw [if_neg (by omega), if_neg (by omega)]
    rw [← slow_E1 n b0 b1 b2 b3 hn h1 h2 h3 h]
    unfold partN slowN
    rw [e, f, g]
    repeat' split
    all_goals first | (exfalso; omega) | simp
  · have e : sz b0 = 3 := by subst h; rfl
    have f : lo b0 = 128 := by subst h; rfl
    have g : hi b0 = 159 := by subst h; rfl
    rw [← slow_ED n b0 b1 b2 b3 hn h1 h2 h3 h]
    unfold partN slowN
    rw [e, f, g]
    repeat' split
    all_goals first | (exfalso; omega) | simp
  · have e : sz b0 = 4 := by subst h; rfl
    have f : lo b0 = 144 := by subst h; rfl
    have g : hi b0 = 191 := by subst h; rfl
    rw [← slow_F0 n b0 b1 b2 b3 hn h1 h2 h3 h]
    unfold partN slowN
    rw [e, f, g]
    repeat' split
    all_goals first | (exfalso; omega) | simp
  · have e : sz b0 = 4 := by unfold sz; rw [if_neg (by omega), if_neg (by omega), if_neg (by omega), if_neg (by omega), if_pos (by omega)]
    have f : lo b0 = 128 := by unfold lo; rw [if_neg (by omega), if_neg (by omega)]
    have g : hi b0 = 191 := by unfold hi; rw [if_neg (by omega), if_neg (by omega)]
    rw [← slow_F1 n b0 b1 b2 b3 hn h1 h2 h3 h]
    unfold partN slowN
    rw [e, f, g]
    repeat' split
    all_goals first | (exfalso; omega) | simp
  · have e : sz b0 = 4 := by subst h; rfl
    have f : lo b0 = 128 := by subst h; rfl
    have g : hi b0 = 143 := by subst h; rfl
    rw [← slow_F4 n b0 b1 b2 b3 hn h1 h2 h3 h]
    unfold partN slowN
    rw [e, f, g]
    repeat' split
    all_goals first | (exfalso; omega) | simp
  · have : sz b0 = 0 := by unfold sz; rw [if_neg (by omega), if_neg (by omega), if_neg (by omega), if_neg (by omega), if_neg (by omega)]
    simp [partN, this, decodeN_none n b0 b1 b2 b3 (.inr ⟨h, h0⟩) h1 h2 h3]
theorem len_pos {l : List UInt8} (h : l ≠ []) : 1 ≤ l.length := by cases l <;> simp at h ⊢
theorem dec_whole (l : List UInt8) (h : l ≠ []) (hw : (part l).2 = true) : (dec l).2 = (part l).1 :=
  (decodeN_part _ _ _ _ _ (len_pos h) (at_lt l 0) (at_lt l 1) (at_lt l 2) (at_lt l 3)).1 hw
theorem dec_bad (l : List UInt8) (h : l ≠ []) (hw : (part l).2 = false) : dec l = (65533, 1) :=
  (decodeN_part _ _ _ _ _ (len_pos h) (at_lt l 0) (at_lt l 1) (at_lt l 2) (at_lt l 3)).2 hw
/-- Behind the first byte of a part stand bytes that begin no sign. -/
theorem part_cont (l : List UInt8) (j : Nat) (h1 : 1 ≤ j) (h2 : j < (part l).1) : 128 ≤ at' l j ∧ at' l j ≤ 191 := by
  have h4 := part_le4 l
  have hl : 128 ≤ lo (at' l 0) := by
    unfold lo
    repeat' split
    all_goals omega
  have hh : hi (at' l 0) ≤ 191 := by
    unfold hi
    repeat' split
    all_goals omega
  unfold part partN at h2
  revert h2
  repeat' split
  all_goals intro h2
  all_goals simp only at h2
  all_goals try omega
  · obtain rfl : j = 1 := by omega
    omega
  · obtain rfl : j = 1 := by omega
    omega
  · obtain rfl | rfl : j = 1 ∨ j = 2 := by omega
    · omega
    · omega
  · obtain rfl | rfl : j = 1 ∨ j = 2 := by omega
    · omega
    · omega
  · obtain rfl | rfl | rfl : j = 1 ∨ j = 2 ∨ j = 3 := by omega
    · omega
    · omega
    · omega
theorem dec_cont (l : List UInt8) (h : 128 ≤ at' l 0 ∧ at' l 0 ≤ 191) : dec l = (65533, 1) :=
  decodeN_none _ _ _ _ _ (.inl ⟨h.1, by omega⟩) (at_lt l 1) (at_lt l 2) (at_lt l 3)
theorem at_drop (l : List UInt8) (k i : Nat) : at' (l.drop k) i = at' l (k + i) := by
  unfold at'
  simp [List.getD_eq_getElem?_getD, List.getElem?_drop]
theorem at_take (l : List UInt8) (k i : Nat) (h : i < k) : at' (l.take k) i = at' l i := by
  unfold at'
  simp [List.getD_eq_getElem?_getD, List.getElem?_take, h]
theorem at_append (l r : List UInt8) (i : Nat) (h : i < l.length) : at' (l ++ r) i = at' l i := by
  unfold at'
  simp [List.getD_eq_getElem?_getD, List.getElem?_append_left h]
/-- A part stays one where what is behind it is cut off. -/
theorem part_take (l : List UInt8) (k : Nat) (h : l ≠ []) (hk : (part l).1 ≤ k) : part (l.take k) = part l := by
  by_cases hkl : l.length ≤ k
  · rw [List.take_of_length_le hkl]
  have hp := part_pos l
  have hlen : (l.take k).length = k := by rw [List.length_take]; omega
  have a0 : at' (l.take k) 0 = at' l 0 := at_take l k 0 (by omega)
  have a1 : 1 < k → at' (l.take k) 1 = at' l 1 := fun h => at_take l k 1 h
  have a2 : 2 < k → at' (l.take k) 2 = at' l 2 := fun h => at_take l k 2 h
  have a3 : 3 < k → at' (l.take k) 3 = at' l 3 := fun h => at_take l k 3 h
  unfold part at *
  rw [hlen, a0]
  generalize hb0 : at' l 0 = b0 at *
  by_cases c1 : 1 < k
  · rw [a1 c1]
    by_cases c2 : 2 < k
    · rw [a2 c2]
      by_cases c3 : 3 < k
      · rw [a3 c3]
        unfold partN
        have e1 : 1 < l.length := by omega
        have e2 : 2 < l.length := by omega
        have e3 : 3 < l.length := by omega
        simp [c1, c2, c3, e1, e2, e3]
      · have e1 : 1 < l.length := by omega
        have e2 : 2 < l.length := by omega
        revert hk
        unfold partN
        repeat' split
        all_goals first | (intro hk; rfl) | (intro hk; simp only at hk; exfalso; omega)
    · revert hk
      unfold partN
      repeat' split
      all_goals first | (intro hk; rfl) | (intro hk; simp only at hk; exfalso; omega)
  · revert hk
    unfold partN
    repeat' split
    all_goals first | (intro hk; rfl) | (intro hk; simp only at hk; exfalso; omega)
/-- Is a number a sign? -/
def right (c : Int) : Bool := decide (0 ≤ c ∧ c ≤ 1114111 ∧ (c < 55296 ∨ 57343 < c))
def mend (c : Int) : Int := if right c then c else 65533
theorem encode_mend (c : Int) : encodeRune (mend c) = encodeRune c := by
  unfold mend
  split
  · rfl
  · rename_i h
    have h' : ¬ (0 ≤ c ∧ c ≤ 1114111 ∧ (c < 55296 ∨ 57343 < c)) := by simpa [right] using h
    unfold encodeRune
    congr 1
    have : encodeRuneZ c = [239, 191, 189] := by
      unfold encodeRuneZ
      rw [if_neg (by omega), if_neg (by omega), if_neg (by omega), if_neg (by omega)]
    rw [this]
    rfl
end Utf
/- Texts, gone through sign by sign: whether bytes are a text, they mended, their signs, and where a beginning may end; and the promises that follow. -/
set_option linter.unusedVariables false
set_option linter.unusedSimpArgs false
namespace Utf
open Go.Lib
theorem rest_lt (l : List UInt8) (h : l ≠ []) : (l.drop (part l).1).length < l.length := by
  have := part_pos l; have := len_pos h
  rw [List.length_drop]; omega
def isText (l : List UInt8) : Bool :=
  if h : l = [] then true else (part l).2 && isText (l.drop (part l).1)
termination_by l.length
decreasing_by exact rest_lt l h
def rep (l : List UInt8) : List UInt8 :=
  if h : l = [] then [] else encodeRune (dec l).1 ++ rep (l.drop (part l).1)
termination_by l.length
decreasing_by exact rest_lt l h
def signs (l : List UInt8) : List Nat :=
  if h : l = [] then [] else (dec l).1 :: signs (l.drop (part l).1)
termination_by l.length
decreasing_by exact rest_lt l h
def cut (l : List UInt8) (most : Int) : Nat :=
  if h : l = [] then 0 else if ((part l).1 : Int) > most then 0 else (part l).1 + cut (l.drop (part l).1) (most - (part l).1)
termination_by l.length
decreasing_by exact rest_lt l h
theorem ind {P : List UInt8 → Prop} (h0 : P []) (h1 : ∀ l, l ≠ [] → P (l.drop (part l).1) → P l) (l : List UInt8) : P l := by
  generalize hn : l.length = n
  induction n using Nat.strongRecOn generalizing l with
  | ind n ih =>
    by_cases h : l = []
    · subst h; exact h0
    · exact h1 l h (ih _ (hn ▸ rest_lt l h) _ rfl)
theorem isText_nil : isText [] = true := by rw [isText]; simp
theorem isText_go (l : List UInt8) (h : l ≠ []) : isText l = ((part l).2 && isText (l.drop (part l).1)) := by rw [isText]; simp [h]
theorem rep_nil : rep [] = [] := by rw [rep]; simp
theorem rep_go (l : List UInt8) (h : l ≠ []) : rep l = encodeRune (dec l).1 ++ rep (l.drop (part l).1) := by rw [rep]; simp [h]
theorem signs_nil : signs [] = [] := by rw [signs]; simp
theorem signs_go (l : List UInt8) (h : l ≠ []) : signs l = (dec l).1 :: signs (l.drop (part l).1) := by rw [signs]; simp [h]
theorem cut_nil (m : Int) : cut [] m = 0 := by rw [cut]; simp
theorem cut_stop (l : List UInt8) (m : Int) (hm : ((part l).1 : Int) > m) : cut l m = 0 := by
  by_cases h : l = []
  · subst h; exact cut_nil m
  · rw [cut]; simp [h, hm]
theorem cut_go (l : List UInt8) (m : Int) (h : l ≠ []) (hm : ¬ ((part l).1 : Int) > m) : cut l m = (part l).1 + cut (l.drop (part l).1) (m - (part l).1) := by rw [cut]; simp [h, hm]
/-! ### a sign's bytes tell it -/
theorem byteZ (x : Int) (h0 : 0 ≤ x) (h1 : x < 256) : (x.toNat.toUInt8).toNat = x.toNat := by
  simp
  omega
theorem byte_eq {x : Int} {c : UInt8} (h : x = (c.toNat : Int)) : x.toNat.toUInt8 = c := by
  subst h
  simp
theorem at0 (a : UInt8) (l : List UInt8) : at' (a :: l) 0 = a.toNat := rfl
theorem at1 (a b : UInt8) (l : List UInt8) : at' (a :: b :: l) 1 = b.toNat := rfl
theorem at2 (a b c : UInt8) (l : List UInt8) : at' (a :: b :: c :: l) 2 = c.toNat := rfl
theorem at3 (a b c d : UInt8) (l : List UInt8) : at' (a :: b :: c :: d :: l) 3 = d.toNat := rfl
theorem sz_1 {b : Nat} (h : b < 128) : sz b = 1 := by unfold sz; rw [if_pos h]
theorem sz_2 {b : Nat} (h : 194 ≤ b ∧ b < 224) : sz b = 2 := by unfold sz; rw [if_neg (by omega), if_neg (by omega), if_pos h.2]
theorem sz_3 {b : Nat} (h : 224 ≤ b ∧ b < 240) : sz b = 3 := by unfold sz; rw [if_neg (by omega), if_neg (by omega), if_neg (by omega), if_pos h.2]
theorem sz_4 {b : Nat} (h : 240 ≤ b ∧ b < 245) : sz b = 4 := by unfold sz; rw [if_neg (by omega), if_neg (by omega), if_neg (by omega), if_neg (by omega), if_pos h.2]
theorem sz_inv (b : Nat) (h : sz b ≠ 0) : (sz b = 1 ∧ b < 128) ∨ (sz b = 2 ∧ 194 ≤ b ∧ b < 224) ∨ (sz b = 3 ∧ 224 ≤ b ∧ b < 240) ∨ (sz b = 4 ∧ 240 ≤ b ∧ b < 245) := by
  unfold sz at *
  revert h
  repeat' split
  all_goals omega
theorem lo_lt (b : Nat) : (b = 224 → lo b = 160) ∧ (b = 240 → lo b = 144) ∧ 128 ≤ lo b ∧ (b ≠ 224 → b ≠ 240 → lo b = 128) := by
  unfold lo
  repeat' split
  all_goals omega
theorem hi_lt (b : Nat) : (b = 237 → hi b = 159) ∧ (b = 244 → hi b = 143) ∧ hi b ≤ 191 ∧ (b ≠ 237 → b ≠ 244 → hi b = 191) := by
  unfold hi
  repeat' split
  all_goals omega
theorem part_1 (n b0 b1 b2 b3 : Nat) (h : b0 < 128) : partN n b0 b1 b2 b3 = (1, true) := by
  unfold partN; rw [if_pos (sz_1 h)]
theorem part_2 (n b0 b1 b2 b3 : Nat) (hn : 1 < n) (h : 194 ≤ b0 ∧ b0 < 224) (h1 : 128 ≤ b1 ∧ b1 ≤ 191) : partN n b0 b1 b2 b3 = (2, true) := by
  have a := lo_lt b0; have b := hi_lt b0
  unfold partN; rw [sz_2 h, if_neg (by omega), if_neg (by omega), if_neg (by omega), if_pos rfl]
theorem part_3 (n b0 b1 b2 b3 : Nat) (hn : 2 < n) (h : 224 ≤ b0 ∧ b0 < 240) (h1 : lo b0 ≤ b1 ∧ b1 ≤ hi b0) (h2 : 128 ≤ b2 ∧ b2 ≤ 191) : partN n b0 b1 b2 b3 = (3, true) := by
  unfold partN; rw [sz_3 h, if_neg (by omega), if_neg (by omega), if_neg (by omega), if_neg (by omega), if_neg (by omega), if_pos rfl]
theorem part_4 (n b0 b1 b2 b3 : Nat) (hn : 3 < n) (h : 240 ≤ b0 ∧ b0 < 245) (h1 : lo b0 ≤ b1 ∧ b1 ≤ hi b0) (h2 : 128 ≤ b2 ∧ b2 ≤ 191) (h3 : 128 ≤ b3 ∧ b3 ≤ 191) : partN n b0 b1 b2 b3 = (4, true) := by
  unfold partN; rw [sz_4 h, if_neg (by omega), if_neg (by omega), if_neg (by omega), if_neg (by omega), if_neg (by omega), if_neg (by omega), if_neg (by omega)]
theorem dec_1 (n b0 b1 b2 b3 : Nat) (h : b0 < 128) : decodeN n b0 b1 b2 b3 = (b0, 1) := by unfold decodeN; rw [if_pos h]
theorem dec_2 (n b0 b1 b2 b3 : Nat) (hn : 1 < n) (h : 194 ≤ b0 ∧ b0 < 224) (h1 : 128 ≤ b1 ∧ b1 ≤ 191) : decodeN n b0 b1 b2 b3 = (b0 % 32 * 64 + b1 % 64, 2) := by
  unfold decodeN; rw [if_neg (by omega), if_pos (by omega), if_pos (by omega)]
theorem dec_3 (n b0 b1 b2 b3 : Nat) (hn : 2 < n) (h : 224 ≤ b0 ∧ b0 < 240) (h1 : lo b0 ≤ b1 ∧ b1 ≤ hi b0) (h2 : 128 ≤ b2 ∧ b2 ≤ 191) : decodeN n b0 b1 b2 b3 = (b0 % 16 * 4096 + b1 % 64 * 64 + b2 % 64, 3) := by
  have a := lo_lt b0; have b := hi_lt b0
  unfold decodeN; rw [if_neg (by omega), if_neg (by omega), if_pos (by omega), if_pos (by omega)]
theorem dec_4 (n b0 b1 b2 b3 : Nat) (hn : 3 < n) (h : 240 ≤ b0 ∧ b0 < 245) (h1 : lo b0 ≤ b1 ∧ b1 ≤ hi b0) (h2 : 128 ≤ b2 ∧ b2 ≤ 191) (h3 : 128 ≤ b3 ∧ b3 ≤ 191) : decodeN n b0 b1 b2 b3 = (b0 % 8 * 262144 + b1 % 64 * 4096 + b2 % 64 * 64 + b3 % 64, 4) := by
  have a := lo_lt b0; have b := hi_lt b0
  unfold decodeN; rw [if_neg (by omega), if_neg (by omega), if_neg (by omega), if_pos (by omega), if_pos (by omega)]
/-- What is put is next. -/
theorem put_next_right (c : Int) (r : List UInt8) (hc : right c = true) :
    part (encodeRune c ++ r) = ((encodeRune c).length, true) ∧ ((dec (encodeRune c ++ r)).1 : Int) = c := by
  have hr : 0 ≤ c ∧ c ≤ 1114111 ∧ (c < 55296 ∨ 57343 < c) := by simpa [right] using hc
  by_cases h1 : c ≤ 127
  · have e : encodeRune c = [c.toNat.toUInt8] := by unfold encodeRune; rw [encodeRuneZ_one hr.1 h1]; rfl
    have b0 := byteZ c hr.1 (by omega)
    rw [e]
    simp only [List.cons_append, List.nil_append, part, dec, at0, b0, List.length_cons, List.length_nil]
    rw [part_1 _ _ _ _ _ (by omega), dec_1 _ _ _ _ _ (by omega)]
    exact ⟨rfl, by simp only; omega⟩
  by_cases h2 : c ≤ 2047
  · have e : encodeRune c = [(192 + c / 64).toNat.toUInt8, (128 + c % 64).toNat.toUInt8] := by unfold encodeRune; rw [encodeRuneZ_two (by omega) h2]; rfl
    have b0 := byteZ (192 + c / 64) (by omega) (by omega)
    have b1 := byteZ (128 + c % 64) (by omega) (by omega)
    rw [e]
    simp only [List.cons_append, List.nil_append, part, dec, at0, at1, b0, b1, List.length_cons, List.length_nil]
    rw [part_2 _ _ _ _ _ (by omega) (by omega) (by omega), dec_2 _ _ _ _ _ (by omega) (by omega) (by omega)]
    exact ⟨rfl, by simp only; omega⟩
  by_cases h3 : c ≤ 65535
  · have e : encodeRune c = [(224 + c / 4096).toNat.toUInt8, (128 + c / 64 % 64).toNat.toUInt8, (128 + c % 64).toNat.toUInt8] := by unfold encodeRune; rw [encodeRuneZ_three (by omega)]; rfl
    have b0 := byteZ (224 + c / 4096) (by omega) (by omega)
    have b1 := byteZ (128 + c / 64 % 64) (by omega) (by omega)
    have b2 := byteZ (128 + c % 64) (by omega) (by omega)
    have a := lo_lt (224 + c / 4096).toNat; have b := hi_lt (224 + c / 4096).toNat
    rw [e]
    simp only [List.cons_append, List.nil_append, part, dec, at0, at1, at2, b0, b1, b2, List.length_cons, List.length_nil]
    have hb : lo (224 + c / 4096).toNat ≤ (128 + c / 64 % 64).toNat ∧ (128 + c / 64 % 64).toNat ≤ hi (224 + c / 4096).toNat := by
      constructor
      · by_cases q : (224 + c / 4096).toNat = 224
        · rw [a.1 q]; omega
        · rw [a.2.2.2 q (by omega)]; omega
      · by_cases q : (224 + c / 4096).toNat = 237
        · rw [b.1 q]; omega
        · rw [b.2.2.2 q (by omega)]; omega
    rw [part_3 _ _ _ _ _ (by omega) (by omega) hb (by omega), dec_3 _ _ _ _ _ (by omega) (by omega) hb (by omega)]
    exact ⟨rfl, by simp only; omega⟩
  · have e : encodeRune c = [(240 + c / 262144).toNat.toUInt8, (128 + c / 4096 % 64).toNat.toUInt8, (128 + c / 64 % 64).toNat.toUInt8, (128 + c % 64).toNat.toUInt8] := by unfold encodeRune; rw [encodeRuneZ_four (by omega) hr.2.1]; rfl
    have b0 := byteZ (240 + c / 262144) (by omega) (by omega)
    have b1 := byteZ (128 + c / 4096 % 64) (by omega) (by omega)
    have b2 := byteZ (128 + c / 64 % 64) (by omega) (by omega)
    have b3 := byteZ (128 + c % 64) (by omega) (by omega)
    have a := lo_lt (240 + c / 262144).toNat; have b := hi_lt (240 + c / 262144).toNat
    rw [e]
    simp only [List.cons_append, List.nil_append, part, dec, at0, at1, at2, at3, b0, b1, b2, b3, List.length_cons, List.length_nil]
    have hb : lo (240 + c / 262144).toNat ≤ (128 + c / 4096 % 64).toNat ∧ (128 + c / 4096 % 64).toNat ≤ hi (240 + c / 262144).toNat := by
      constructor
      · by_cases q : (240 + c / 262144).toNat = 240
        · rw [a.2.1 q]; omega
        · rw [a.2.2.2 (by omega) q]; omega
      · by_cases q : (240 + c / 262144).toNat = 244
        · rw [b.2.1 q]; omega
        · rw [b.2.2.2 (by omega) q]; omega
    rw [part_4 _ _ _ _ _ (by omega) (by omega) hb (by omega) (by omega), dec_4 _ _ _ _ _ (by omega) (by omega) hb (by omega) (by omega)]
    exact ⟨rfl, by simp only; omega⟩
theorem right_mend (c : Int) : right (mend c) = true := by
  unfold mend
  split
  · assumption
  · rfl
theorem put_next (c : Int) (r : List UInt8) :
    part (encodeRune c ++ r) = ((encodeRune c).length, true) ∧ ((dec (encodeRune c ++ r)).1 : Int) = mend c := by
  rw [← encode_mend c]
  exact put_next_right (mend c) r (right_mend c)
theorem enc_ne (c : Int) (r : List UInt8) : encodeRune c ++ r ≠ [] := by
  intro e
  have h := (put_next c r).1
  have h2 := part_pos (encodeRune c ++ r)
  rw [List.append_eq_nil_iff] at e
  rw [h, e.1] at h2
  simp at h2
/-- A whole part tells a sign, and is that sign's bytes. -/
theorem whole (l : List UInt8) (h : l ≠ []) (hw : (part l).2 = true) : right (dec l).1 = true ∧ encodeRune (dec l).1 = l.take (part l).1 := by
  have hn := len_pos h
  have x0 := at_lt l 0; have x1 := at_lt l 1; have x2 := at_lt l 2; have x3 := at_lt l 3
  have c0 : 0 < l.length → (at' l 0 : Int) = (l.getD 0 0).toNat := fun _ => rfl
  unfold part partN at hw
  by_cases s1 : sz (at' l 0) = 1
  · have hb : at' l 0 < 128 := by rcases sz_inv _ (by omega : sz (at' l 0) ≠ 0) with q | q | q | q <;> omega
    obtain ⟨a, r, rfl⟩ : ∃ a r, l = a :: r := by cases l with | nil => simp at hn | cons a r => exact ⟨a, r, rfl⟩
    simp only [at0] at hb
    have hp : part (a :: r) = (1, true) := by unfold part; rw [at0, part_1 _ _ _ _ _ hb]
    have hd : dec (a :: r) = (a.toNat, 1) := by unfold dec; rw [at0, dec_1 _ _ _ _ _ hb]
    rw [hp, hd]
    refine ⟨by simp only [right, decide_eq_true_eq]; omega, ?_⟩
    unfold encodeRune
    rw [encodeRuneZ_one (by omega) (by omega)]
    simp only [List.map, List.take_succ_cons, List.take_zero]
    rw [byte_eq rfl]
  rw [if_neg s1] at hw
  by_cases s0 : sz (at' l 0) = 0
  · rw [if_pos s0] at hw; cases hw
  rw [if_neg s0] at hw
  split at hw
  · cases hw
  rename_i k1
  have k1' : 1 < l.length ∧ lo (at' l 0) ≤ at' l 1 ∧ at' l 1 ≤ hi (at' l 0) := by omega
  clear k1
  have a' := lo_lt (at' l 0); have b' := hi_lt (at' l 0)
  by_cases s2 : sz (at' l 0) = 2
  · have hb : 194 ≤ at' l 0 ∧ at' l 0 < 224 := by rcases sz_inv _ s0 with q | q | q | q <;> omega
    obtain ⟨a, b, r, rfl⟩ : ∃ a b r, l = a :: b :: r := by
      match l, k1' with
      | a :: b :: r, _ => exact ⟨a, b, r, rfl⟩
      | [a], q => simp at q
      | [], q => simp at q
    simp only [at0, at1] at hb k1' a' b' x0 x1
    have h1 : 128 ≤ b.toNat ∧ b.toNat ≤ 191 := by omega
    have hp : part (a :: b :: r) = (2, true) := by unfold part; rw [at0, at1, part_2 _ _ _ _ _ k1'.1 hb h1]
    have hd : dec (a :: b :: r) = (a.toNat % 32 * 64 + b.toNat % 64, 2) := by unfold dec; rw [at0, at1, dec_2 _ _ _ _ _ k1'.1 hb h1]
    rw [hp, hd]
    refine ⟨by simp only [right, decide_eq_true_eq]; omega, ?_⟩
    unfold encodeRune
    rw [encodeRuneZ_two (by omega) (by omega)]
    simp only [List.map, List.take_succ_cons, List.take_zero]
    rw [byte_eq (c := a) (by omega), byte_eq (c := b) (by omega)]
  rw [if_neg s2] at hw
  split at hw
  · cases hw
  rename_i k2
  have k2' : 2 < l.length ∧ 128 ≤ at' l 2 ∧ at' l 2 ≤ 191 := by omega
  clear k2
  by_cases s3 : sz (at' l 0) = 3
  · have hb : 224 ≤ at' l 0 ∧ at' l 0 < 240 := by rcases sz_inv _ s0 with q | q | q | q <;> omega
    obtain ⟨a, b, c, r, rfl⟩ : ∃ a b c r, l = a :: b :: c :: r := by
      match l, k2' with
      | a :: b :: c :: r, _ => exact ⟨a, b, c, r, rfl⟩
      | [a, b], q => simp at q
      | [a], q => simp at q
      | [], q => simp at q
    simp only [at0, at1, at2] at hb k1' k2' a' b' x0 x1 x2
    have hp : part (a :: b :: c :: r) = (3, true) := by unfold part; rw [at0, at1, at2, part_3 _ _ _ _ _ k2'.1 hb k1'.2 k2'.2]
    have hd : dec (a :: b :: c :: r) = (a.toNat % 16 * 4096 + b.toNat % 64 * 64 + c.toNat % 64, 3) := by unfold dec; rw [at0, at1, at2, dec_3 _ _ _ _ _ k2'.1 hb k1'.2 k2'.2]
    rw [hp, hd]
    have hr : ∀ N : Nat, N = a.toNat % 16 * 4096 + b.toNat % 64 * 64 + c.toNat % 64 → (2048 ≤ N ∧ N < 55296) ∨ (57343 < N ∧ N ≤ 65535) := by
      intro N hN
      omega
    have hr' := hr _ rfl
    clear hr
    refine ⟨by simp only [right, decide_eq_true_eq]; omega, ?_⟩
    unfold encodeRune
    rw [encodeRuneZ_three (by simp only; omega)]
    simp only [List.map, List.take_succ_cons, List.take_zero]
    rw [byte_eq (c := a) (by omega), byte_eq (c := b) (by omega), byte_eq (c := c) (by omega)]
  rw [if_neg s3] at hw
  split at hw
  · cases hw
  rename_i k3
  have k3' : 3 < l.length ∧ 128 ≤ at' l 3 ∧ at' l 3 ≤ 191 := by omega
  clear k3
  have hb : 240 ≤ at' l 0 ∧ at' l 0 < 245 := by rcases sz_inv _ s0 with q | q | q | q <;> omega
  obtain ⟨a, b, c, d, r, rfl⟩ : ∃ a b c d r, l = a :: b :: c :: d :: r := by
    match l, k3' with
    | a :: b :: c :: d :: r, _ => exact ⟨a, b, c, d, r, rfl⟩
    | [a, b, c], q => simp at q
    | [a, b], q => simp at q
    | [a], q => simp at q
    | [], q => simp at q
  simp only [at0, at1, at2, at3] at hb k1' k2' k3' a' b' x0 x1 x2 x3
  have hp : part (a :: b :: c :: d :: r) = (4, true) := by unfold part; rw [at0, at1, at2, at3, part_4 _ _ _ _ _ k3'.1 hb k1'.2 k2'.2 k3'.2]
  have hd : dec (a :: b :: c :: d :: r) = (a.toNat % 8 * 262144 + b.toNat % 64 * 4096 + c.toNat % 64 * 64 + d.toNat % 64, 4) := by unfold dec; rw [at0, at1, at2, at3, dec_4 _ _ _ _ _ k3'.1 hb k1'.2 k2'.2 k3'.2]
  rw [hp, hd]
  have hr' : 65536 ≤ a.toNat % 8 * 262144 + b.toNat % 64 * 4096 + c.toNat % 64 * 64 + d.toNat % 64 ∧ a.toNat % 8 * 262144 + b.toNat % 64 * 4096 + c.toNat % 64 * 64 + d.toNat % 64 ≤ 1114111 := by omega
  refine ⟨by simp only [right, decide_eq_true_eq]; omega, ?_⟩
  unfold encodeRune
  rw [encodeRuneZ_four (by simp only; omega) (by simp only; omega)]
  simp only [List.map, List.take_succ_cons, List.take_zero]
  rw [byte_eq (c := a) (by omega), byte_eq (c := b) (by omega), byte_eq (c := c) (by omega), byte_eq (c := d) (by omega)]
theorem dec_right (l : List UInt8) (h : l ≠ []) : right (dec l).1 = true := by
  cases hw : (part l).2
  · rw [dec_bad l h hw]; rfl
  · exact (whole l h hw).1
theorem mend_right {c : Int} (h : right c = true) : mend c = c := by unfold mend; rw [if_pos h]
/-! ### what follows -/
theorem isText_put (c : Int) (r : List UInt8) : isText (encodeRune c ++ r) = isText r := by
  rw [isText_go _ (enc_ne c r), (put_next c r).1]
  simp
theorem rep_put (c : Int) (r : List UInt8) : rep (encodeRune c ++ r) = encodeRune c ++ rep r := by
  rw [rep_go _ (enc_ne c r), (put_next c r).2, (put_next c r).1, encode_mend]
  simp
theorem rep_text (l : List UInt8) : isText (rep l) = true := by
  refine ind (P := fun l => isText (rep l) = true) ?_ ?_ l
  · rw [rep_nil, isText_nil]
  · intro l h ih
    rw [rep_go l h, isText_put]; exact ih
theorem rep_rep (l : List UInt8) : rep (rep l) = rep l := by
  refine ind (P := fun l => rep (rep l) = rep l) ?_ ?_ l
  · rw [rep_nil, rep_nil]
  · intro l h ih
    rw [rep_go l h, rep_put, ih]
theorem rep_self (l : List UInt8) : isText l = true → rep l = l := by
  refine ind (P := fun l => isText l = true → rep l = l) ?_ ?_ l
  · intro _; exact rep_nil
  · intro l h ih ht
    rw [isText_go l h, Bool.and_eq_true] at ht
    rw [rep_go l h, ih ht.2, (whole l h ht.1).2, List.take_append_drop]
theorem rep_eq (l : List UInt8) : (rep l = l) = (isText l = true) := by
  apply propext
  constructor
  · intro e; have := rep_text l; rw [e] at this; exact this
  · exact rep_self l
theorem enc_bad : encodeRune ((65533 : Nat) : Int) = [239, 191, 189] := by decide
theorem enc_len (c : Int) : (encodeRune c).length ≤ 4 ∧ 1 ≤ (encodeRune c).length := by
  have h := (put_next c []).1
  have h1 := part_le4 (encodeRune c ++ []); have h2 := part_pos (encodeRune c ++ [])
  rw [h] at h1 h2
  exact ⟨h1, h2⟩
theorem rep_len (l : List UInt8) : (rep l).length ≤ 3 * l.length := by
  refine ind (P := fun l => (rep l).length ≤ 3 * l.length) ?_ ?_ l
  · rw [rep_nil]; simp
  · intro l h ih
    rw [rep_go l h, List.length_append]
    have hp := part_pos l; have hl := part_len l h
    rw [List.length_drop] at ih
    cases hw : (part l).2
    · rw [dec_bad l h hw, enc_bad]
      simp only [List.length_cons, List.length_nil]
      omega
    · rw [(whole l h hw).2, List.length_take]
      omega
theorem signs_rep (l : List UInt8) : (signs l).flatMap (fun c : Nat => encodeRune (c : Int)) = rep l := by
  refine ind (P := fun l => (signs l).flatMap (fun c : Nat => encodeRune (c : Int)) = rep l) ?_ ?_ l
  · rw [signs_nil, rep_nil]; rfl
  · intro l h ih
    rw [signs_go l h, rep_go l h, List.flatMap_cons, ih]
theorem signs_len (l : List UInt8) : (signs l).length ≤ l.length := by
  refine ind (P := fun l => (signs l).length ≤ l.length) ?_ ?_ l
  · rw [signs_nil]; exact Nat.le_refl _
  · intro l h ih
    rw [signs_go l h, List.length_cons]
    have := rest_lt l h
    omega
theorem right_lt {c : Nat} (h : right (c : Int) = true) : c ≤ 1114111 := by
  have hr : 0 ≤ (c : Int) ∧ (c : Int) ≤ 1114111 ∧ ((c : Int) < 55296 ∨ 57343 < (c : Int)) := by simpa [right] using h
  omega
/-! ### beginnings -/
theorem cut_len (l : List UInt8) (m : Int) : cut l m ≤ l.length := by
  revert m
  refine ind (P := fun l => ∀ m, cut l m ≤ l.length) ?_ ?_ l
  · intro m; rw [cut_nil]; exact Nat.zero_le _
  · intro l h ih m
    by_cases hm : ((part l).1 : Int) > m
    · rw [cut_stop l m hm]; exact Nat.zero_le _
    · rw [cut_go l m h hm]
      have := ih (m - (part l).1)
      have := part_len l h
      rw [List.length_drop] at *
      omega
theorem cut_le (l : List UInt8) (m : Int) (h0 : 0 ≤ m) : (cut l m : Int) ≤ m := by
  revert m
  refine ind (P := fun l => ∀ m, 0 ≤ m → (cut l m : Int) ≤ m) ?_ ?_ l
  · intro m h0; rw [cut_nil]; exact h0
  · intro l h ih m h0
    by_cases hm : ((part l).1 : Int) > m
    · rw [cut_stop l m hm]; exact h0
    · rw [cut_go l m h hm]
      have := ih (m - (part l).1) (by omega)
      omega
theorem cut_near (l : List UInt8) (m : Int) : cut l m = l.length ∨ (cut l m : Int) > m - 4 := by
  revert m
  refine ind (P := fun l => ∀ m, cut l m = l.length ∨ (cut l m : Int) > m - 4) ?_ ?_ l
  · intro m; rw [cut_nil]; left; rfl
  · intro l h ih m
    by_cases hm : ((part l).1 : Int) > m
    · rw [cut_stop l m hm]
      have := part_le4 l
      right; omega
    · rw [cut_go l m h hm]
      have h2 := part_len l h
      rcases ih (m - (part l).1) with q | q
      · left; rw [q, List.length_drop]; omega
      · right; omega
theorem take_cut_go (l : List UInt8) (m : Int) (h : l ≠ []) (hm : ¬ ((part l).1 : Int) > m) :
    l.take (cut l m) ≠ [] ∧ part (l.take (cut l m)) = part l ∧ (l.take (cut l m)).drop (part l).1 = (l.drop (part l).1).take (cut (l.drop (part l).1) (m - (part l).1)) := by
  have hp := part_pos l; have h2 := part_len l h
  rw [cut_go l m h hm]
  refine ⟨?_, part_take l _ h (by omega), ?_⟩
  · intro e
    have := congrArg List.length e
    rw [List.length_take, List.length_nil] at this
    omega
  · rw [List.drop_take]
    congr 1
    omega
theorem cut_text (l : List UInt8) (m : Int) (ht : isText l = true) : isText (l.take (cut l m)) = true := by
  revert m ht
  refine ind (P := fun l => ∀ m, isText l = true → isText (l.take (cut l m)) = true) ?_ ?_ l
  · intro m _; rw [List.take_nil, isText_nil]
  · intro l h ih m ht
    rw [isText_go l h, Bool.and_eq_true] at ht
    by_cases hm : ((part l).1 : Int) > m
    · rw [cut_stop l m hm, List.take_zero, isText_nil]
    · obtain ⟨h1, h2, h3⟩ := take_cut_go l m h hm
      rw [isText_go _ h1, h2, h3, ht.1, ih _ ht.2]
      rfl
theorem cut_cut (l : List UInt8) (m : Int) : cut (l.take (cut l m)) m = cut l m := by
  revert m
  refine ind (P := fun l => ∀ m, cut (l.take (cut l m)) m = cut l m) ?_ ?_ l
  · intro m; rw [List.take_nil]
  · intro l h ih m
    by_cases hm : ((part l).1 : Int) > m
    · rw [cut_stop l m hm, List.take_zero, cut_nil]
    · obtain ⟨h1, h2, h3⟩ := take_cut_go l m h hm
      rw [cut_go _ m h1 (by rw [h2]; exact hm), h2, h3, ih, ← cut_go l m h hm]
/-! ### the program's own way through a text: a stop at each byte of a part that is no sign -/
theorem bad_iff (l : List UInt8) (h : l ≠ []) (hc : (dec l).1 = 65533) : (part l).2 = true ↔ l.take 3 = [239, 191, 189] := by
  constructor
  · intro hw
    have e := (whole l h hw).2
    rw [hc, enc_bad] at e
    have h3 : (part l).1 = 3 := by
      have := congrArg List.length e
      rw [List.length_take] at this
      have := part_len l h
      simp only [List.length_cons, List.length_nil] at *
      omega
    rw [h3] at e
    exact e.symm
  · intro e
    have : l = encodeRune ((65533 : Nat) : Int) ++ l.drop 3 := by
      rw [enc_bad, ← e, List.take_append_drop]
    rw [this, (put_next _ _).1]
theorem ok_of_other (l : List UInt8) (h : l ≠ []) (hc : (dec l).1 ≠ 65533) : (part l).2 = true := by
  cases hw : (part l).2
  · rw [dec_bad l h hw] at hc; exact absurd rfl hc
  · rfl
theorem dec_step (l : List UInt8) (h : l ≠ []) : 1 ≤ (dec l).2 ∧ (dec l).2 ≤ (part l).1 := by
  cases hw : (part l).2
  · rw [dec_bad l h hw]; exact ⟨Nat.le_refl _, part_pos l⟩
  · rw [dec_whole l h hw]; exact ⟨part_pos l, Nat.le_refl _⟩
end Utf
/- The document's words for texts of bytes, as plain functions on lists of bytes, and what the loops need of them: blanks and words. -/
namespace Asc
def isBlank (c : UInt8) : Bool := c == 9 || c == 10 || c == 12 || c == 13 || c == 32
/-- One byte more: the words that are whole, and the one that is under way. -/
def wstep (st : List (List UInt8) × List UInt8) (c : UInt8) : List (List UInt8) × List UInt8 :=
  if isBlank c then (if st.2.isEmpty then (st.1, []) else (st.1 ++ [st.2], [])) else (st.1, st.2 ++ [c])
def wfin (st : List (List UInt8) × List UInt8) : List (List UInt8) := if st.2.isEmpty then st.1 else st.1 ++ [st.2]
def wst (l : List UInt8) : List (List UInt8) × List UInt8 := l.foldl wstep ([], [])
def words (l : List UInt8) : List (List UInt8) := wfin (wst l)
theorem take_snoc (l : List UInt8) (k : Nat) (h : k < l.length) : l.take (k + 1) = l.take k ++ [l[k]] := by
  rw [List.take_succ_eq_append_getElem h]
theorem wst_snoc (l : List UInt8) (c : UInt8) : wst (l ++ [c]) = wstep (wst l) c := by simp [wst, List.foldl_append]
theorem snoc_ind {α : Type} {P : List α → Prop} (h0 : P []) (h1 : ∀ l c, P l → P (l ++ [c])) (l : List α) : P l := by
  rw [← List.reverse_reverse l]
  induction l.reverse with
  | nil => exact h0
  | cons c r ih => rw [List.reverse_cons]; exact h1 _ _ ih
theorem wst_len (l : List UInt8) : (wst l).1.length + (wst l).2.length ≤ l.length := by
  refine snoc_ind (P := fun l => (wst l).1.length + (wst l).2.length ≤ l.length) ?_ ?_ l
  · simp [wst]
  · intro l c ih
    rw [wst_snoc]
    unfold wstep
    split
    · split
      · simp; omega
      · rename_i h
        have : (wst l).2 ≠ [] := by simpa using h
        have := List.length_pos_iff.2 this
        simp; omega
    · simp; omega
theorem words_len (l : List UInt8) : (words l).length ≤ l.length := by
  have := wst_len l
  unfold words wfin
  split
  · omega
  · rename_i h
    have : (wst l).2 ≠ [] := by simpa using h
    have := List.length_pos_iff.2 this
    simp; omega
theorem wst_next (l : List UInt8) (k : Nat) (h : k < l.length) : wst (l.take (k + 1)) = wstep (wst (l.take k)) l[k] := by
  rw [take_snoc l k h, wst_snoc]
theorem len_drop (l : List UInt8) (k f : Nat) (h : k ≤ l.length) : ((l.take k).drop f).length = k - f := by
  rw [List.length_drop, List.length_take]; omega
theorem word_blank (l : List UInt8) (k f : Nat) (h : k < l.length) (hb : isBlank l[k] = true) (hf : f < k) (hc : (wst (l.take k)).2 = (l.take k).drop f) :
    wst (l.take (k + 1)) = ((wst (l.take k)).1 ++ [(l.take k).drop f], []) := by
  rw [wst_next l k h]
  unfold wstep
  have : ((l.take k).drop f).isEmpty = false := by
    rw [Bool.eq_false_iff]
    intro e
    have := len_drop l k f (by omega)
    rw [List.isEmpty_iff.1 e] at this
    simp at this
    omega
  rw [if_pos hb, hc, this]
  rfl
theorem word_gap (l : List UInt8) (k f : Nat) (h : k < l.length) (hb : isBlank l[k] = true) (hf : ¬ f < k) (hc : (wst (l.take k)).2 = (l.take k).drop f) :
    wst (l.take (k + 1)) = ((wst (l.take k)).1, []) := by
  rw [wst_next l k h]
  unfold wstep
  have : (l.take k).drop f = [] := by
    apply List.drop_eq_nil_of_le
    rw [List.length_take]; omega
  rw [if_pos hb, hc, this]
  rfl
theorem word_on (l : List UInt8) (k f : Nat) (h : k < l.length) (hb : isBlank l[k] = false) (hf : f ≤ k) (hc : (wst (l.take k)).2 = (l.take k).drop f) :
    wst (l.take (k + 1)) = ((wst (l.take k)).1, (l.take (k + 1)).drop f) := by
  rw [wst_next l k h]
  unfold wstep
  rw [hb, hc, take_snoc l k h, List.drop_append_of_le_length (by rw [List.length_take]; omega)]
  rfl
theorem words_more (l : List UInt8) (k f : Nat) (h : ¬ k < l.length) (hk : k ≤ l.length) (hf : f < l.length) (hc : (wst (l.take k)).2 = (l.take k).drop f) :
    words l = (wst (l.take k)).1 ++ [(l.take l.length).drop f] := by
  have : k = l.length := by omega
  subst this
  rw [List.take_length] at hc ⊢
  unfold words wfin
  rw [hc]
  have : (l.drop f).isEmpty = false := by
    rw [Bool.eq_false_iff]
    intro e
    have := List.length_drop (i := f) (l := l)
    rw [List.isEmpty_iff.1 e] at this
    simp at this
    omega
  rw [this]
  rfl
theorem words_done (l : List UInt8) (k f : Nat) (h : ¬ k < l.length) (hk : k ≤ l.length) (hf : ¬ f < l.length) (hc : (wst (l.take k)).2 = (l.take k).drop f) :
    words l = (wst (l.take k)).1 := by
  have : k = l.length := by omega
  subst this
  rw [List.take_length] at hc ⊢
  unfold words wfin
  rw [hc, List.drop_eq_nil_of_le (by omega)]
  rfl
end Asc
/- Plain functions: bytes to lower, hex digits and hex numbers. -/
namespace Asc
def lowN (n : Int) : Int := if 65 ≤ n ∧ n ≤ 90 then n + 32 else n
def lowerC (c : UInt8) : UInt8 := if 65 ≤ c ∧ c ≤ 90 then c + 32 else c
def lower (l : List UInt8) : List UInt8 := l.map lowerC
theorem lowN_byte (c : UInt8) : lowN (c.toNat : Int) = ((lowerC c).toNat : Int) := by
  unfold lowN lowerC
  have e : ((65 : Int) ≤ (c.toNat : Int) ∧ (c.toNat : Int) ≤ 90) ↔ (65 ≤ c ∧ c ≤ 90) := by
    rw [UInt8.le_iff_toNat_le, UInt8.le_iff_toNat_le]
    simp
    omega
  by_cases h : 65 ≤ c ∧ c ≤ 90
  · rw [if_pos (e.2 h), if_pos h]
    have := e.2 h
    rw [UInt8.toNat_add]
    simp
    omega
  · rw [if_neg (fun x => h (e.1 x)), if_neg h]
theorem lowN_bd (n : Int) (h0 : 0 ≤ n) (h1 : n ≤ 255) : 0 ≤ lowN n ∧ lowN n ≤ 255 := by unfold lowN; split <;> omega
theorem lower_snoc (l : List UInt8) (c : UInt8) : lower (l ++ [c]) = lower l ++ [lowerC c] := by simp [lower]
/-- A hex digit's number, and whether it is one. -/
def hexOk (n : Int) : Bool := decide (48 ≤ n ∧ n ≤ 57) || decide (97 ≤ n ∧ n ≤ 102) || decide (65 ≤ n ∧ n ≤ 70)
def hexV (n : Int) : Int := if 48 ≤ n ∧ n ≤ 57 then n - 48 else if 97 ≤ n ∧ n ≤ 102 then n - 87 else if 65 ≤ n ∧ n ≤ 70 then n - 55 else 0
theorem hexV_bd (n : Int) : 0 ≤ hexV n ∧ hexV n ≤ 15 := by unfold hexV; split; omega; split; omega; split <;> omega
theorem hex_digit (n : Int) (h : 48 ≤ lowN n) (h2 : lowN n ≤ 57) : hexV n = lowN n - 48 ∧ hexOk n = true := by
  have e : lowN n = n := by unfold lowN at *; split at h <;> omega
  rw [e] at h h2
  unfold hexV hexOk
  rw [if_pos ⟨h, h2⟩, e]
  simp [h, h2]
theorem hex_letter (n : Int) (h : 97 ≤ lowN n) (h2 : lowN n ≤ 102) : hexV n = lowN n - 97 + 10 ∧ hexOk n = true := by
  unfold lowN at *
  unfold hexV hexOk
  split at h
  · rw [if_pos (by assumption)] at h2
    rw [if_neg (by omega), if_neg (by omega), if_pos (by omega)]
    refine ⟨by omega, ?_⟩
    simp only [Bool.or_eq_true, decide_eq_true_eq]
    omega
  · rw [if_neg (by assumption)] at h2
    rw [if_neg (by omega), if_pos (by omega)]
    refine ⟨by omega, ?_⟩
    simp only [Bool.or_eq_true, decide_eq_true_eq]
    omega
theorem hex_none (n : Int) (h : lowN n < 48 ∨ (57 < lowN n ∧ lowN n < 97) ∨ 102 < lowN n) : hexV n = 0 ∧ hexOk n = false := by
  have hn : ¬ (48 ≤ n ∧ n ≤ 57) ∧ ¬ (97 ≤ n ∧ n ≤ 102) ∧ ¬ (65 ≤ n ∧ n ≤ 70) := by
    unfold lowN at h
    split at h <;> omega
  unfold hexV hexOk
  rw [if_neg hn.1, if_neg hn.2.1, if_neg hn.2.2, decide_eq_false hn.1, decide_eq_false hn.2.1, decide_eq_false hn.2.2]
  exact ⟨rfl, rfl⟩
def bt (c : UInt8) : Int := (c.toNat : Int)
def allHex (l : List UInt8) : Bool := l.all fun c => hexOk (bt c)
/-- The number, as far as it stays below 2^32. -/
def hexFold : Int → List UInt8 → Option Int
  | n, [] => some n
  | n, c :: r => if 268435455 < n then none else hexFold (n * 16 + hexV (bt c)) r
/-- The document's Hex: the number and the error's number. -/
def hexNum (l : List UInt8) : Int := if allHex l = true ∧ l ≠ [] then (hexFold 0 l).getD 0 else 0
def hexErr (l : List UInt8) : Int := if allHex l = true ∧ l ≠ [] then (match hexFold 0 l with | some _ => 0 | none => 5) else 3
theorem drop_at (l : List UInt8) (k : Nat) (h : k < l.length) : l.drop k = l[k] :: l.drop (k + 1) := List.drop_eq_getElem_cons h
theorem hexFold_next (l : List UInt8) (k : Nat) (n : Int) (h : k < l.length) (hn : n ≤ 268435455) : hexFold n (l.drop k) = hexFold (n * 16 + hexV (bt l[k])) (l.drop (k + 1)) := by
  rw [drop_at l k h, hexFold, if_neg (by omega)]
theorem hexFold_stop (l : List UInt8) (k : Nat) (n : Int) (h : k < l.length) (hn : 268435455 < n) : hexFold n (l.drop k) = none := by
  rw [drop_at l k h, hexFold, if_pos hn]
theorem hexFold_end (l : List UInt8) (k : Nat) (n : Int) (h : l.length ≤ k) : hexFold n (l.drop k) = some n := by
  rw [List.drop_eq_nil_of_le h, hexFold]
theorem hex_form (l : List UInt8) (h : ¬ (allHex l = true ∧ l ≠ [])) : hexNum l = 0 ∧ hexErr l = 3 := by
  unfold hexNum hexErr; rw [if_neg h, if_neg h]; exact ⟨rfl, rfl⟩
theorem hex_many (l : List UInt8) (h : allHex l = true ∧ l ≠ []) (hf : hexFold 0 l = none) : hexNum l = 0 ∧ hexErr l = 5 := by
  unfold hexNum hexErr; rw [if_pos h, if_pos h, hf]; exact ⟨rfl, rfl⟩
theorem hex_ok (l : List UInt8) (n : Int) (h : allHex l = true ∧ l ≠ []) (hf : hexFold 0 l = some n) : hexNum l = n ∧ hexErr l = 0 := by
  unfold hexNum hexErr; rw [if_pos h, if_pos h, hf]; exact ⟨rfl, rfl⟩
theorem allHex_take (l : List UInt8) (k : Nat) (h : k < l.length) : allHex (l.take (k + 1)) = (allHex (l.take k) && hexOk (bt l[k])) := by
  unfold allHex
  rw [List.take_succ_eq_append_getElem h, List.all_append]
  simp
theorem allHex_not (l : List UInt8) (k : Nat) (h : k < l.length) (hn : hexOk (bt l[k]) = false) : allHex l = false := by
  unfold allHex
  rw [List.all_eq_false]
  exact ⟨l[k], List.getElem_mem h, by simp [hn]⟩
def hexForm (l : List UInt8) : Bool := allHex l && !l.isEmpty
theorem hexForm_no (l : List UInt8) (h : hexForm l = false) : ¬ (allHex l = true ∧ l ≠ []) := by
  rintro ⟨h1, h2⟩
  unfold hexForm at h
  rw [h1] at h
  simp at h
  exact h2 h
theorem hexForm_yes (l : List UInt8) (h : hexForm l = true) : allHex l = true ∧ l ≠ [] := by
  unfold hexForm at h
  rw [Bool.and_eq_true] at h
  exact ⟨h.1, by have := h.2; intro e; rw [e] at this; simp at this⟩
end Asc
/- Plain functions: a text split at a byte. -/
namespace Asc
/-- One byte more: the parts that are whole, and the one that is under way. -/
def sstep (b : UInt8) (st : List (List UInt8) × List UInt8) (c : UInt8) : List (List UInt8) × List UInt8 :=
  if c = b then (st.1 ++ [st.2], []) else (st.1, st.2 ++ [c])
def sst (b : UInt8) (l : List UInt8) : List (List UInt8) × List UInt8 := l.foldl (sstep b) ([], [])
def split (l : List UInt8) (b : UInt8) : List (List UInt8) := (sst b l).1 ++ [(sst b l).2]
theorem sst_snoc (b : UInt8) (l : List UInt8) (c : UInt8) : sst b (l ++ [c]) = sstep b (sst b l) c := by simp [sst, List.foldl_append]
theorem sst_next (b : UInt8) (l : List UInt8) (k : Nat) (h : k < l.length) : sst b (l.take (k + 1)) = sstep b (sst b (l.take k)) l[k] := by
  rw [take_snoc l k h, sst_snoc]
theorem sst_len (b : UInt8) (l : List UInt8) : (sst b l).1.length ≤ l.length ∧ (sst b l).2.length ≤ l.length := by
  refine snoc_ind (P := fun l => (sst b l).1.length ≤ l.length ∧ (sst b l).2.length ≤ l.length) ?_ ?_ l
  · simp [sst]
  · intro l c ih
    rw [sst_snoc]
    unfold sstep
    split
    · simp; omega
    · simp; omega
theorem split_cut (b : UInt8) (l : List UInt8) (k f : Nat) (h : k < l.length) (hb : l[k] = b) (hc : (sst b (l.take k)).2 = (l.take k).drop f) :
    sst b (l.take (k + 1)) = ((sst b (l.take k)).1 ++ [(l.take k).drop f], []) := by
  rw [sst_next b l k h, sstep, if_pos hb, hc]
theorem split_on (b : UInt8) (l : List UInt8) (k f : Nat) (h : k < l.length) (hb : ¬ l[k] = b) (hf : f ≤ k) (hc : (sst b (l.take k)).2 = (l.take k).drop f) :
    sst b (l.take (k + 1)) = ((sst b (l.take k)).1, (l.take (k + 1)).drop f) := by
  rw [sst_next b l k h, sstep, if_neg hb, hc, take_snoc l k h, List.drop_append_of_le_length (by rw [List.length_take]; omega)]
end Asc
/- Plain facts: parts joined. -/
namespace Asc
open Go
theorem join_next (ts : List (List UInt8)) (sep t : List UInt8) (k : Nat) (h : ts[k]? = some t) : Lib.join (ts.take (k + 1)) sep = if k = 0 then t else Lib.join (ts.take k) sep ++ sep ++ t := by
  cases ts with
  | nil => simp at h
  | cons x r =>
    cases k with
    | zero =>
      simp at h
      subst h
      rw [if_pos rfl]
      exact Lib.join_one x sep
    | succ k =>
      rw [if_neg (by omega), List.take_succ_cons, List.take_succ_cons, Lib.join_cons, Lib.join_cons, Lib.joinTail_take_succ sep r k t (by simpa using h)]
      simp [List.append_assoc]
theorem join_len (ts : List (List UInt8)) (sep : List UInt8) : (Lib.join ts sep).length ≤ sep.length * ts.length + Lib.lens ts := by
  cases ts with
  | nil => simp [Lib.join_nil]
  | cons x r =>
    rw [Lib.join_cons, List.length_append, Lib.joinTail_length, List.length_cons, Nat.mul_succ]
    simp only [Lib.lens, List.map_cons, List.sum_cons]
    omega
theorem join_take_le (ts : List (List UInt8)) (sep : List UInt8) (k : Nat) : (Lib.join (ts.take k) sep).length ≤ (Lib.join ts sep).length := by
  cases ts with
  | nil => simp
  | cons x r =>
    cases k with
    | zero => simp [Lib.join_nil]
    | succ k =>
      rw [List.take_succ_cons, Lib.join_cons, Lib.join_cons, List.length_append, List.length_append]
      have := Lib.joinTail_take_le sep r k
      omega
theorem lens_snoc (ts : List (List UInt8)) (t : List UInt8) : Lib.lens (ts ++ [t]) = Lib.lens ts + t.length := by simp [Lib.lens]
theorem wst_lens (l : List UInt8) : Lib.lens (wst l).1 + (wst l).2.length ≤ l.length := by
  refine snoc_ind (P := fun l => Lib.lens (wst l).1 + (wst l).2.length ≤ l.length) ?_ ?_ l
  · simp [wst, Lib.lens]
  · intro l c ih
    rw [wst_snoc]
    unfold wstep
    split
    · split
      · simp; omega
      · rw [lens_snoc]; simp; omega
    · simp; omega
theorem words_lens (l : List UInt8) : Lib.lens (words l) ≤ l.length := by
  have := wst_lens l
  unfold words wfin
  split
  · omega
  · rw [lens_snoc]; omega
def squeeze (l : List UInt8) : List UInt8 := Lib.join (words l) [32]
theorem squeeze_len (l : List UInt8) : (squeeze l).length ≤ 2 * l.length := by
  have h1 := join_len (words l) [32]
  have h2 := words_len l
  have h3 := words_lens l
  unfold squeeze
  simp only [List.length_singleton, Nat.one_mul] at h1
  omega
end Asc
/- Plain facts: what was split is joined; no part holds the byte. -/
namespace Asc
open Go
theorem join_snoc (ts : List (List UInt8)) (t sep : List UInt8) : Lib.join (ts ++ [t]) sep = if ts = [] then t else Lib.join ts sep ++ sep ++ t := by
  have h := join_next (ts ++ [t]) sep t ts.length (by simp)
  rw [List.take_of_length_le (by simp), List.take_left] at h
  rw [h]
  by_cases hz : ts = []
  · subst hz
    rfl
  · rw [if_neg hz, if_neg (by intro e; exact hz (List.eq_nil_of_length_eq_zero e))]
theorem join_more (ts : List (List UInt8)) (t u sep : List UInt8) : Lib.join (ts ++ [t ++ u]) sep = Lib.join (ts ++ [t]) sep ++ u := by
  rw [join_snoc, join_snoc]
  split <;> simp [List.append_assoc]
theorem join_new (ts : List (List UInt8)) (t u sep : List UInt8) : Lib.join (ts ++ [t] ++ [u]) sep = Lib.join (ts ++ [t]) sep ++ sep ++ u := by
  rw [join_snoc (ts ++ [t]) u, if_neg (by simp)]
theorem join_split (b : UInt8) (l : List UInt8) : Lib.join (split l b) [b] = l := by
  refine snoc_ind (P := fun l => Lib.join (split l b) [b] = l) ?_ ?_ l
  · rfl
  · intro l c ih
    unfold split at *
    rw [sst_snoc]
    unfold sstep
    by_cases h : c = b
    · rw [if_pos h]
      show Lib.join ((sst b l).1 ++ [(sst b l).2] ++ [[]]) [b] = l ++ [c]
      rw [join_new, ih, h]
      simp
    · rw [if_neg h]
      show Lib.join ((sst b l).1 ++ [(sst b l).2 ++ [c]]) [b] = l ++ [c]
      rw [join_more, ih]
theorem split_free (b : UInt8) (l : List UInt8) : ∀ p ∈ split l b, ∀ c ∈ p, c ≠ b := by
  have h : (∀ p ∈ (sst b l).1, ∀ c ∈ p, c ≠ b) ∧ ∀ c ∈ (sst b l).2, c ≠ b := by
    refine snoc_ind (P := fun l => (∀ p ∈ (sst b l).1, ∀ c ∈ p, c ≠ b) ∧ ∀ c ∈ (sst b l).2, c ≠ b) ?_ ?_ l
    · exact ⟨by simp [sst], by simp [sst]⟩
    · rintro l c ⟨h1, h2⟩
      rw [sst_snoc]
      unfold sstep
      by_cases hc : c = b
      · rw [if_pos hc]
        refine ⟨?_, by simp⟩
        intro p hp
        rcases List.mem_append.1 hp with hp | hp
        · exact h1 p hp
        · rw [List.mem_singleton] at hp
          subst hp
          exact h2
      · rw [if_neg hc]
        refine ⟨h1, ?_⟩
        intro x hx
        rcases List.mem_append.1 hx with hx | hx
        · exact h2 x hx
        · rw [List.mem_singleton] at hx
          subst hx
          exact hc
  intro p hp
  unfold split at hp
  rcases List.mem_append.1 hp with hp | hp
  · exact h.1 p hp
  · rw [List.mem_singleton] at hp
    subst hp
    exact h.2
theorem split_pos (b : UInt8) (l : List UInt8) : 0 < (split l b).length := by unfold split; simp
theorem split_len (b : UInt8) (l : List UInt8) : (split l b).length ≤ l.length + 1 := by
  have := (sst_len b l).1
  unfold split
  rw [List.length_append]
  simp
  omega
theorem split_part (b : UInt8) (l : List UInt8) : ∀ p ∈ split l b, p.length ≤ l.length := by
  refine snoc_ind (P := fun l => ∀ p ∈ split l b, p.length ≤ l.length) ?_ ?_ l
  · intro p hp
    simp [split, sst] at hp
    subst hp
    simp
  · intro l c ih p hp
    unfold split at hp ih
    rw [sst_snoc] at hp
    unfold sstep at hp
    rw [List.length_append]
    by_cases hc : c = b
    · rw [if_pos hc] at hp
      rcases List.mem_append.1 hp with hp | hp
      · have := ih p hp
        omega
      · rw [List.mem_singleton] at hp
        subst hp
        simp
    · rw [if_neg hc] at hp
      rcases List.mem_append.1 hp with hp | hp
      · have := ih p (List.mem_append.2 (.inl hp))
        omega
      · rw [List.mem_singleton] at hp
        subst hp
        have := ih (sst b l).2 (List.mem_append.2 (.inr (List.mem_singleton.2 rfl)))
        rw [List.length_append]
        simp
        omega
end Asc
/- Plain functions: decimal numbers. -/
namespace Asc
def isDig (n : Int) : Bool := decide (48 ≤ n ∧ n ≤ 57)
def allDig (l : List UInt8) : Bool := l.all fun c => isDig (bt c)
def digForm (l : List UInt8) : Bool := allDig l && !l.isEmpty
/-- The number, as far as it stays at most 'most'. -/
def numFold (most : Int) : Int → List UInt8 → Option Int
  | n, [] => some n
  | n, c :: r => if most < n * 10 + (bt c - 48) then none else numFold most (n * 10 + (bt c - 48)) r
def numNum (l : List UInt8) (most : Int) : Int := if digForm l = true then (if most < 0 then 0 else (numFold most 0 l).getD 0) else 0
def numErr (l : List UInt8) (most : Int) : Int := if digForm l = true then (if most < 0 then 5 else (match numFold most 0 l with | some _ => 0 | none => 5)) else 3
theorem num_form (l : List UInt8) (most : Int) (h : digForm l = false) : numNum l most = 0 ∧ numErr l most = 3 := by
  unfold numNum numErr; rw [h]; exact ⟨rfl, rfl⟩
theorem num_neg (l : List UInt8) (most : Int) (h : digForm l = true) (hm : most < 0) : numNum l most = 0 ∧ numErr l most = 5 := by
  unfold numNum numErr; rw [if_pos h, if_pos h, if_pos hm, if_pos hm]; exact ⟨rfl, rfl⟩
theorem num_many (l : List UInt8) (most : Int) (h : digForm l = true) (hm : 0 ≤ most) (hf : numFold most 0 l = none) : numNum l most = 0 ∧ numErr l most = 5 := by
  unfold numNum numErr; rw [if_pos h, if_pos h, if_neg (by omega), if_neg (by omega), hf]; exact ⟨rfl, rfl⟩
theorem num_ok (l : List UInt8) (most n : Int) (h : digForm l = true) (hm : 0 ≤ most) (hf : numFold most 0 l = some n) : numNum l most = n ∧ numErr l most = 0 := by
  unfold numNum numErr; rw [if_pos h, if_pos h, if_neg (by omega), if_neg (by omega), hf]; exact ⟨rfl, rfl⟩
theorem numFold_next (most : Int) (l : List UInt8) (k : Nat) (n : Int) (h : k < l.length) (hn : ¬ most < n * 10 + (bt l[k] - 48)) : numFold most n (l.drop k) = numFold most (n * 10 + (bt l[k] - 48)) (l.drop (k + 1)) := by
  rw [drop_at l k h, numFold, if_neg hn]
theorem numFold_stop (most : Int) (l : List UInt8) (k : Nat) (n : Int) (h : k < l.length) (hn : most < n * 10 + (bt l[k] - 48)) : numFold most n (l.drop k) = none := by
  rw [drop_at l k h, numFold, if_pos hn]
theorem numFold_end (most : Int) (l : List UInt8) (k : Nat) (n : Int) (h : l.length ≤ k) : numFold most n (l.drop k) = some n := by
  rw [List.drop_eq_nil_of_le h, numFold]
theorem allDig_take (l : List UInt8) (k : Nat) (h : k < l.length) : allDig (l.take (k + 1)) = (allDig (l.take k) && isDig (bt l[k])) := by
  unfold allDig
  rw [List.take_succ_eq_append_getElem h, List.all_append]
  simp
theorem allDig_not (l : List UInt8) (k : Nat) (h : k < l.length) (hn : isDig (bt l[k]) = false) : allDig l = false := by
  unfold allDig
  rw [List.all_eq_false]
  exact ⟨l[k], List.getElem_mem h, by simp [hn]⟩
theorem allDig_at (l : List UInt8) (k : Nat) (h : k < l.length) (ha : allDig l = true) : 48 ≤ bt l[k] ∧ bt l[k] ≤ 57 := by
  unfold allDig at ha
  have := List.all_eq_true.1 ha l[k] (List.getElem_mem h)
  simpa [isDig] using this
theorem digForm_all (l : List UInt8) (h : digForm l = true) : allDig l = true := by
  unfold digForm at h
  rw [Bool.and_eq_true] at h
  exact h.1
/-- The step past the greatest, as the program asks it. -/
theorem past (n most d : Int) (h0 : 0 ≤ d) (h1 : d ≤ 9) : (most < n * 10 + d) ↔ (most / 10 < n ∨ (n = most / 10 ∧ most % 10 < d)) := by omega
end Asc
/- Plain facts: a number's digits are read as it, and what is read is written as it, but for zeros ahead. -/
namespace Asc
open Go
def valF (n : Int) (l : List UInt8) : Int := l.foldl (fun n c => n * 10 + (bt c - 48)) n
theorem allDig_cons (c : UInt8) (r : List UInt8) (h : allDig (c :: r) = true) : 48 ≤ bt c ∧ bt c ≤ 57 ∧ allDig r = true := by
  unfold allDig at *
  rw [List.all_cons, Bool.and_eq_true] at h
  refine ⟨?_, ?_, h.2⟩
  · have := h.1; simp [isDig] at this; omega
  · have := h.1; simp [isDig] at this; omega
theorem valF_cons (n : Int) (c : UInt8) (r : List UInt8) : valF n (c :: r) = valF (n * 10 + (bt c - 48)) r := rfl
theorem valF_snoc (n : Int) (l : List UInt8) (c : UInt8) : valF n (l ++ [c]) = valF n l * 10 + (bt c - 48) := by simp [valF, List.foldl_append]
theorem valF_ge (l : List UInt8) : ∀ n : Int, 0 ≤ n → allDig l = true → n ≤ valF n l := by
  induction l with
  | nil => intro n _ _; exact Int.le_refl _
  | cons c r ih =>
    intro n hn h
    obtain ⟨h1, h2, h3⟩ := allDig_cons c r h
    rw [valF_cons]
    have := ih (n * 10 + (bt c - 48)) (by omega) h3
    omega
theorem numFold_val (most : Int) (l : List UInt8) : ∀ n : Int, 0 ≤ n → n ≤ most → allDig l = true → numFold most n l = if valF n l ≤ most then some (valF n l) else none := by
  induction l with
  | nil => intro n _ hm _; rw [numFold, show valF n [] = n from rfl, if_pos hm]
  | cons c r ih =>
    intro n hn hm h
    obtain ⟨h1, h2, h3⟩ := allDig_cons c r h
    rw [numFold, valF_cons]
    by_cases hp : most < n * 10 + (bt c - 48)
    · have := valF_ge r (n * 10 + (bt c - 48)) (by omega) h3
      rw [if_pos hp, if_neg (by omega)]
    · rw [if_neg hp, ih _ (by omega) (by omega) h3]
theorem digit_bt (d : Nat) (h : d < 10) : bt (UInt8.ofNat (48 + d)) = 48 + d := by
  unfold bt
  rw [UInt8.toNat_ofNat']
  omega
theorem allDig_snoc (l : List UInt8) (c : UInt8) : allDig (l ++ [c]) = (allDig l && isDig (bt c)) := by
  unfold allDig
  rw [List.all_append]
  simp
theorem isDig_digit (d : Nat) (h : d < 10) : isDig (bt (UInt8.ofNat (48 + d))) = true := by
  rw [digit_bt d h]
  exact decide_eq_true (by omega)
theorem dec_facts (u : Nat) : allDig (Lib.decDigits u) = true ∧ valF 0 (Lib.decDigits u) = u ∧ Lib.decDigits u ≠ [] := by
  induction u using Nat.strongRecOn with
  | _ u ih =>
    by_cases h : u < 10
    · rw [Lib.decDigits, dif_pos h]
      refine ⟨?_, ?_, by simp⟩
      · have := allDig_snoc [] (UInt8.ofNat (48 + u))
        rw [isDig_digit u h] at this
        exact this
      · rw [valF_cons, digit_bt u h]
        show (0 : Int) * 10 + (48 + (u : Int) - 48) = u
        omega
    · obtain ⟨h1, h2, _⟩ := ih (u / 10) (by omega)
      rw [Lib.decDigits, dif_neg h]
      refine ⟨?_, ?_, by simp⟩
      · rw [allDig_snoc, h1, isDig_digit _ (by omega)]
        rfl
      · rw [valF_snoc, h2, digit_bt _ (by omega)]
        omega
theorem zeros_facts (j : Nat) (l : List UInt8) : (allDig (List.replicate j 48 ++ l) = allDig l) ∧ valF 0 (List.replicate j 48 ++ l) = valF 0 l := by
  induction j with
  | zero => exact ⟨rfl, rfl⟩
  | succ j ih =>
    rw [List.replicate_succ, List.cons_append]
    constructor
    · have : allDig (48 :: (List.replicate j 48 ++ l)) = (isDig (bt 48) && allDig (List.replicate j 48 ++ l)) := rfl
      rw [this, ih.1]
      rfl
    · rw [valF_cons, show (0 : Int) * 10 + (bt 48 - 48) = 0 from by decide, ih.2]
theorem form_of (l : List UInt8) (h : allDig l = true) (hn : l ≠ []) : digForm l = true := by
  unfold digForm
  rw [h]
  cases l with
  | nil => exact absurd rfl hn
  | cons _ _ => rfl
/-- A number's digits, zeros ahead or not, are read as it. -/
theorem read_digits (j u : Nat) (most : Int) (h : (u : Int) ≤ most) : numNum (List.replicate j 48 ++ Lib.decDigits u) most = u ∧ numErr (List.replicate j 48 ++ Lib.decDigits u) most = 0 := by
  obtain ⟨h1, h2, h3⟩ := dec_facts u
  obtain ⟨z1, z2⟩ := zeros_facts j (Lib.decDigits u)
  rw [h1] at z1
  rw [h2] at z2
  refine num_ok _ most u (form_of _ z1 (by simp [h3])) (by omega) ?_
  rw [numFold_val most _ 0 (by omega) (by omega) z1, z2, if_pos h]
def strip : List UInt8 → List UInt8
  | [] => []
  | [c] => [c]
  | c :: d :: r => if c = 48 then strip (d :: r) else c :: d :: r
theorem strip_facts (l : List UInt8) (hn : l ≠ []) (ha : allDig l = true) : allDig (strip l) = true ∧ valF 0 (strip l) = valF 0 l ∧ strip l ≠ [] ∧ ((strip l).length = 1 ∨ (strip l).head? ≠ some 48) := by
  induction l with
  | nil => exact absurd rfl hn
  | cons c r ih =>
    cases r with
    | nil => exact ⟨ha, rfl, hn, .inl rfl⟩
    | cons d r =>
      rw [strip]
      by_cases hc : c = 48
      · rw [if_pos hc]
        obtain ⟨a1, a2, a3⟩ := allDig_cons c (d :: r) ha
        obtain ⟨b1, b2, b3, b4⟩ := ih (by simp) a3
        refine ⟨b1, ?_, b3, b4⟩
        rw [b2, valF_cons 0 c, hc, show (0 : Int) * 10 + (bt 48 - 48) = 0 from by decide]
      · rw [if_neg hc]
        exact ⟨ha, rfl, by simp, .inr (by simp [hc])⟩
theorem bt_digit (c : UInt8) (h0 : 48 ≤ bt c) : UInt8.ofNat (48 + (bt c - 48).toNat) = c := by
  apply UInt8.toNat_inj.1
  rw [UInt8.toNat_ofNat']
  have := c.toNat_lt
  unfold bt at *
  omega
theorem head_pos (l : List UInt8) (hn : l ≠ []) (ha : allDig l = true) (hh : l.head? ≠ some 48) : 1 ≤ valF 0 l := by
  cases l with
  | nil => exact absurd rfl hn
  | cons c r =>
    obtain ⟨h1, h2, h3⟩ := allDig_cons c r ha
    have hc : bt c ≠ 48 := by
      intro e
      apply hh
      have : c = 48 := by
        apply UInt8.toNat_inj.1
        unfold bt at e
        have : (48 : UInt8).toNat = 48 := rfl
        omega
      rw [this]
      rfl
    rw [valF_cons]
    have := valF_ge r ((0 : Int) * 10 + (bt c - 48)) (by omega) h3
    omega
theorem dec_of_good (l : List UInt8) : l ≠ [] → allDig l = true → (l.length = 1 ∨ l.head? ≠ some 48) → Lib.decDigits (valF 0 l).toNat = l := by
  refine snoc_ind (P := fun l => l ≠ [] → allDig l = true → (l.length = 1 ∨ l.head? ≠ some 48) → Lib.decDigits (valF 0 l).toNat = l) ?_ ?_ l
  · intro h; exact absurd rfl h
  · intro a c ih _ ha hg
    rw [allDig_snoc, Bool.and_eq_true] at ha
    have hd : 48 ≤ bt c ∧ bt c ≤ 57 := by have := ha.2; simp [isDig] at this; exact this
    rw [valF_snoc]
    cases a with
    | nil =>
      show Lib.decDigits ((0 : Int) * 10 + (bt c - 48)).toNat = [c]
      rw [Lib.decDigits, dif_pos (by omega), show ((0 : Int) * 10 + (bt c - 48)).toNat = (bt c - 48).toNat from by omega, bt_digit c hd.1]
    | cons b r =>
      have hh : (b :: r).head? ≠ some 48 := by
        rcases hg with hg | hg
        · simp at hg
        · simpa using hg
      have hp := head_pos (b :: r) (by simp) ha.1 hh
      have hi := ih (by simp) ha.1 (.inr hh)
      rw [Lib.decDigits, dif_neg (by omega), show (valF 0 (b :: r) * 10 + (bt c - 48)).toNat / 10 = (valF 0 (b :: r)).toNat from by omega, hi, show (valF 0 (b :: r) * 10 + (bt c - 48)).toNat % 10 = (bt c - 48).toNat from by omega, bt_digit c hd.1]
/-- What is read is written as it, but for zeros ahead. -/
theorem read_back (l : List UInt8) (most : Int) (hm : 0 ≤ most) (h : numErr l most = 0) : 0 ≤ numNum l most ∧ numNum l most ≤ most ∧ Lib.itoa (numNum l most) = strip l ∧ l ≠ [] := by
  cases hf : digForm l with
  | false => rw [(num_form l most hf).2] at h; cases h
  | true =>
    have ha := digForm_all l hf
    have hn : l ≠ [] := by intro e; rw [e] at hf; cases hf
    have hv := numFold_val most l 0 (by omega) hm ha
    by_cases hle : valF 0 l ≤ most
    · rw [if_pos hle] at hv
      have h2 := num_ok l most _ hf hm hv
      rw [h2.1]
      have hg := valF_ge l 0 (by omega) ha
      refine ⟨hg, hle, ?_, hn⟩
      obtain ⟨s1, s2, s3, s4⟩ := strip_facts l hn ha
      have := dec_of_good (strip l) s3 s1 s4
      rw [s2] at this
      rw [Lib.itoa, if_neg (by omega), this]
    · rw [if_neg hle] at hv
      rw [(num_many l most hf hm hv).2] at h
      cases h
end Asc
/- Plain functions: a text without the blanks at its ends. -/
namespace Asc
def trimL (l : List UInt8) : List UInt8 := l.dropWhile isBlank
def trimR (l : List UInt8) : List UInt8 := (l.reverse.dropWhile isBlank).reverse
def trim (l : List UInt8) : List UInt8 := trimR (trimL l)
theorem trimL_next (l : List UInt8) (f : Nat) (h : f < l.length) (hb : isBlank l[f] = true) : trimL (l.drop (f + 1)) = trimL (l.drop f) := by
  unfold trimL
  rw [List.drop_eq_getElem_cons h, List.dropWhile_cons_of_pos hb]
theorem trimL_stop (l : List UInt8) (f : Nat) (h : f < l.length) (hb : isBlank l[f] = false) : trimL (l.drop f) = l.drop f := by
  unfold trimL
  rw [List.drop_eq_getElem_cons h, List.dropWhile_cons_of_neg (by simp [hb])]
theorem trimL_end (l : List UInt8) (f : Nat) (h : l.length ≤ f) : trimL (l.drop f) = l.drop f := by
  rw [List.drop_eq_nil_of_le h]; rfl
theorem trimR_blank (a : List UInt8) (c : UInt8) (h : isBlank c = true) : trimR (a ++ [c]) = trimR a := by
  unfold trimR
  rw [List.reverse_append, List.reverse_singleton, List.singleton_append, List.dropWhile_cons_of_pos h]
theorem trimR_stop (a : List UInt8) (c : UInt8) (h : isBlank c = false) : trimR (a ++ [c]) = a ++ [c] := by
  unfold trimR
  rw [List.reverse_append, List.reverse_singleton, List.singleton_append, List.dropWhile_cons_of_neg (by simp [h])]
  simp
theorem part_snoc (l : List UInt8) (f t : Nat) (h : t < l.length) (hf : f ≤ t) : (l.take (t + 1)).drop f = (l.take t).drop f ++ [l[t]] := by
  rw [List.take_succ_eq_append_getElem h, List.drop_append_of_le_length (by rw [List.length_take]; omega)]
theorem trimR_next (l : List UInt8) (f t : Nat) (h : t < l.length) (hf : f ≤ t) (hb : isBlank l[t] = true) : trimR ((l.take t).drop f) = trimR ((l.take (t + 1)).drop f) := by
  rw [part_snoc l f t h hf, trimR_blank _ _ hb]
theorem trimR_done (l : List UInt8) (f t : Nat) (h : t < l.length) (hf : f ≤ t) (hb : isBlank l[t] = false) : trimR ((l.take (t + 1)).drop f) = (l.take (t + 1)).drop f := by
  rw [part_snoc l f t h hf, trimR_stop _ _ hb]
theorem trimR_empty (l : List UInt8) (f t : Nat) (h : t ≤ f) : trimR ((l.take t).drop f) = (l.take t).drop f := by
  rw [List.drop_eq_nil_of_le (by rw [List.length_take]; omega)]; rfl
end Asc
/- Plain facts: to lower twice is once; trimmed and squeezed, too; words have no blanks. -/
namespace Asc
open Go
theorem lowerC_twice (c : UInt8) : lowerC (lowerC c) = lowerC c := by
  unfold lowerC
  by_cases h : 65 ≤ c ∧ c ≤ 90
  · rw [if_pos h, if_neg]
    intro h2
    have h3 := h.1
    have h4 := h.2
    have h5 := h2.2
    rw [UInt8.le_iff_toNat_le] at h3 h4 h5
    rw [UInt8.toNat_add] at h5
    have e1 : (65 : UInt8).toNat = 65 := rfl
    have e2 : (90 : UInt8).toNat = 90 := rfl
    have e3 : (32 : UInt8).toNat = 32 := rfl
    omega
  · rw [if_neg h, if_neg h]
theorem lower_twice (l : List UInt8) : lower (lower l) = lower l := by
  unfold lower
  rw [List.map_map]
  apply List.map_congr_left
  intro c _
  exact lowerC_twice c
/-- No blank in it. -/
def Bare (l : List UInt8) : Prop := ∀ c ∈ l, isBlank c = false
theorem wst_bare (l : List UInt8) : (∀ w ∈ (wst l).1, w ≠ [] ∧ Bare w) ∧ Bare (wst l).2 := by
  refine snoc_ind (P := fun l => (∀ w ∈ (wst l).1, w ≠ [] ∧ Bare w) ∧ Bare (wst l).2) ?_ ?_ l
  · exact ⟨by simp [wst], by intro c hc; simp [wst] at hc⟩
  · rintro l c ⟨h1, h2⟩
    rw [wst_snoc]
    unfold wstep
    by_cases hb : isBlank c = true
    · rw [if_pos hb]
      by_cases he : (wst l).2.isEmpty = true
      · rw [if_pos he]
        exact ⟨h1, by intro c hc; cases hc⟩
      · rw [if_neg he]
        refine ⟨?_, by intro c hc; cases hc⟩
        intro w hw
        rcases List.mem_append.1 hw with hw | hw
        · exact h1 w hw
        · rw [List.mem_singleton] at hw
          subst hw
          exact ⟨by intro e; rw [e] at he; exact he rfl, h2⟩
    · rw [if_neg hb]
      refine ⟨h1, ?_⟩
      intro x hx
      rcases List.mem_append.1 hx with hx | hx
      · exact h2 x hx
      · rw [List.mem_singleton] at hx
        subst hx
        simpa using hb
theorem words_bare (l : List UInt8) : ∀ w ∈ words l, w ≠ [] ∧ Bare w := by
  obtain ⟨h1, h2⟩ := wst_bare l
  unfold words wfin
  split
  · exact h1
  · rename_i he
    intro w hw
    rcases List.mem_append.1 hw with hw | hw
    · exact h1 w hw
    · rw [List.mem_singleton] at hw
      subst hw
      exact ⟨by intro e; rw [e] at he; exact he rfl, h2⟩
/-- A word under way goes on. -/
theorem fold_bare (l : List UInt8) (h : Bare l) : ∀ st : List (List UInt8) × List UInt8, l.foldl wstep st = (st.1, st.2 ++ l) := by
  induction l with
  | nil => intro st; simp
  | cons c r ih =>
    intro st
    have hc := h c List.mem_cons_self
    rw [List.foldl_cons, ih (fun x hx => h x (List.mem_cons_of_mem _ hx)), wstep, hc]
    simp
theorem words_one (w : List UInt8) (hn : w ≠ []) (h : Bare w) : words w = [w] := by
  unfold words wst
  rw [fold_bare w h]
  simp [wfin, hn]
theorem trimL_bare (w : List UInt8) (h : Bare w) : trimL w = w := by
  cases w with
  | nil => rfl
  | cons c r => exact List.dropWhile_cons_of_neg (by rw [h c List.mem_cons_self]; decide)
theorem trimR_bare (w : List UInt8) (h : Bare w) : trimR w = w := by
  unfold trimR
  have hb : Bare w.reverse := fun c hc => h c (List.mem_reverse.1 hc)
  have e : w.reverse.dropWhile isBlank = w.reverse := trimL_bare w.reverse hb
  rw [e, List.reverse_reverse]
theorem trim_bare (w : List UInt8) (h : Bare w) : trim w = w := by
  unfold trim
  rw [trimL_bare w h, trimR_bare w h]
/-- The words behind a joined list of words: they are that list. -/
theorem fold_tail (r : List (List UInt8)) (h : ∀ w ∈ r, w ≠ [] ∧ Bare w) : ∀ (ts : List (List UInt8)) (t : List UInt8), t ≠ [] → wfin ((Lib.joinTail [32] r).foldl wstep (ts, t)) = ts ++ t :: r := by
  induction r with
  | nil =>
    intro ts t ht
    simp [Lib.joinTail, wfin, ht]
  | cons w r ih =>
    intro ts t ht
    obtain ⟨h1, h2⟩ := h w List.mem_cons_self
    have e : Lib.joinTail [32] (w :: r) = 32 :: (w ++ Lib.joinTail [32] r) := by simp [Lib.joinTail]
    rw [e, List.foldl_cons, List.foldl_append, fold_bare w h2]
    have e2 : wstep (ts, t) 32 = (ts ++ [t], []) := by
      unfold wstep
      rw [if_pos (by decide), if_neg (by simpa using ht)]
    rw [e2, List.nil_append, ih (fun x hx => h x (List.mem_cons_of_mem _ hx)) (ts ++ [t]) w h1]
    simp
theorem words_join (ws : List (List UInt8)) (h : ∀ w ∈ ws, w ≠ [] ∧ Bare w) : words (Lib.join ws [32]) = ws := by
  cases ws with
  | nil => rfl
  | cons w r =>
    obtain ⟨h1, h2⟩ := h w List.mem_cons_self
    rw [Lib.join_cons]
    unfold words wst
    rw [List.foldl_append, fold_bare w h2, List.nil_append, fold_tail r (fun x hx => h x (List.mem_cons_of_mem _ hx)) [] w h1]
    rfl
theorem words_squeeze (l : List UInt8) : words (squeeze l) = words l := words_join _ (words_bare l)
theorem squeeze_twice (l : List UInt8) : squeeze (squeeze l) = squeeze l := by
  show Lib.join (words (squeeze l)) [32] = Lib.join (words l) [32]
  rw [words_squeeze]
/-- Neither its first byte nor its last is a blank. -/
theorem trimL_head (l : List UInt8) (h : ∀ c, l.head? = some c → isBlank c = false) : trimL l = l := by
  cases l with
  | nil => rfl
  | cons c r => exact List.dropWhile_cons_of_neg (by rw [h c rfl]; decide)
theorem trimR_last (l : List UInt8) (h : ∀ c, l.getLast? = some c → isBlank c = false) : trimR l = l := by
  unfold trimR
  have e : l.reverse.dropWhile isBlank = l.reverse := trimL_head l.reverse (fun c hc => h c (by rw [List.head?_reverse] at hc; exact hc))
  rw [e, List.reverse_reverse]
theorem head_bare (w r : List UInt8) (hn : w ≠ []) (h : Bare w) : ∀ c, (w ++ r).head? = some c → isBlank c = false := by
  intro c hc
  cases w with
  | nil => exact absurd rfl hn
  | cons x y =>
    simp at hc
    subst hc
    exact h x List.mem_cons_self
theorem last_tail (r : List (List UInt8)) (h : ∀ w ∈ r, w ≠ [] ∧ Bare w) : ∀ a : List UInt8, a ≠ [] → (∀ c, a.getLast? = some c → isBlank c = false) → ∀ c, (a ++ Lib.joinTail [32] r).getLast? = some c → isBlank c = false := by
  induction r with
  | nil => intro a _ ha c hc; simp [Lib.joinTail] at hc; exact ha c hc
  | cons w r ih =>
    intro a han ha c hc
    obtain ⟨h1, h2⟩ := h w List.mem_cons_self
    have e : a ++ Lib.joinTail [32] (w :: r) = (a ++ 32 :: w) ++ Lib.joinTail [32] r := by simp [Lib.joinTail]
    rw [e] at hc
    refine ih (fun x hx => h x (List.mem_cons_of_mem _ hx)) (a ++ 32 :: w) (by simp) ?_ c hc
    intro d hd
    rw [show a ++ 32 :: w = (a ++ [32]) ++ w from by simp, List.getLast?_append] at hd
    cases hl : w.getLast? with
    | none => exact absurd (List.getLast?_eq_none_iff.1 hl) h1
    | some x =>
      rw [hl] at hd
      simp at hd
      subst hd
      exact h2 x (List.mem_of_getLast? hl)
theorem trim_squeeze (l : List UInt8) : trim (squeeze l) = squeeze l := by
  have hw := words_bare l
  unfold squeeze
  cases he : words l with
  | nil => rfl
  | cons w r =>
    rw [he] at hw
    obtain ⟨h1, h2⟩ := hw w List.mem_cons_self
    unfold trim
    rw [Lib.join_cons, trimL_head _ (head_bare w _ h1 h2)]
    exact trimR_last _ (last_tail r (fun x hx => hw x (List.mem_cons_of_mem _ hx)) w h1 (fun c hc => h2 c (List.mem_of_getLast? hc)))
theorem trimR_prefix (l : List UInt8) : ∃ r, l = trimR l ++ r := by
  unfold trimR
  have := List.takeWhile_append_dropWhile (p := isBlank) (l := l.reverse)
  refine ⟨(l.reverse.takeWhile isBlank).reverse, ?_⟩
  rw [← List.reverse_append, this, List.reverse_reverse]
theorem trimL_idem (l : List UInt8) : ∀ c, (trimL l).head? = some c → isBlank c = false := by
  intro c hc
  unfold trimL at hc
  have := List.head?_dropWhile_not isBlank l
  rw [hc] at this
  simpa using this
theorem trimR_last_ok (l : List UInt8) : ∀ c, (trimR l).getLast? = some c → isBlank c = false := by
  intro c hc
  unfold trimR at hc
  rw [List.getLast?_reverse] at hc
  exact trimL_idem l.reverse c hc
theorem trim_twice (l : List UInt8) : trim (trim l) = trim l := by
  show trimR (trimL (trim l)) = trim l
  have h1 : trimL (trim l) = trim l := by
    apply trimL_head
    intro c hc
    obtain ⟨r, hr⟩ := trimR_prefix (trimL l)
    apply trimL_idem l c
    rw [hr]
    have : (trimR (trimL l)).head? = some c := hc
    cases ht : trimR (trimL l) with
    | nil => rw [ht] at this; cases this
    | cons x y => rw [ht] at this; simpa using this
  rw [h1]
  exact trimR_last _ (trimR_last_ok (trimL l))
end Asc
/- Plain functions: bytes marked and unmarked, pairs' text, a text's pairs. -/
namespace Pct
open Go
def plainN (n : Int) : Bool := decide (n = 45 ∨ n = 46 ∨ n = 95 ∨ n = 126) || decide ((65 ≤ n ∧ n ≤ 90) ∨ (97 ≤ n ∧ n ≤ 122)) || decide (48 ≤ n ∧ n ≤ 57)
def plain (c : UInt8) : Bool := plainN c.toNat
def hexU (k : Nat) : UInt8 := [48, 49, 50, 51, 52, 53, 54, 55, 56, 57, 65, 66, 67, 68, 69, 70].getD k 0
def mk (c : UInt8) : List UInt8 := [37, hexU (c.toNat / 16), hexU (c.toNat % 16)]
def stays (free : List UInt8) (c : UInt8) : Bool := plain c || free.contains c
def one (free : List UInt8) (c : UInt8) : List UInt8 := if stays free c then [c] else mk c
def mark (free l : List UInt8) : List UInt8 := l.flatMap (one free)
theorem one_yes {free : List UInt8} {c : UInt8} (h : stays free c = true) : one free c = [c] := by unfold one; rw [if_pos h]
theorem one_no {free : List UInt8} {c : UInt8} (h : stays free c = false) : one free c = mk c := by unfold one; rw [h]; rfl
theorem mark_nil (free : List UInt8) : mark free [] = [] := rfl
theorem mark_cons (free : List UInt8) (c : UInt8) (l : List UInt8) : mark free (c :: l) = one free c ++ mark free l := by simp [mark]
theorem mark_next (free l : List UInt8) (k : Nat) (h : k < l.length) : mark free (l.take (k + 1)) = mark free (l.take k) ++ one free l[k] := by
  unfold mark
  rw [Asc.take_snoc l k h, List.flatMap_append, List.flatMap_cons, List.flatMap_nil, List.append_nil]
theorem one_len (free : List UInt8) (c : UInt8) : (one free c).length ≤ 3 := by unfold one mk; split <;> simp
theorem mark_len (free : List UInt8) : ∀ l : List UInt8, (mark free l).length ≤ 3 * l.length
  | [] => by simp [mark]
  | c :: l => by
    have := mark_len free l
    have := one_len free c
    rw [mark_cons, List.length_append, List.length_cons]
    omega
/-- The byte that a text begins with, or that its first mark tells, and how many bytes that takes. -/
def first (l : List UInt8) : UInt8 × Nat :=
  if l.getD 0 0 = 37 ∧ 3 ≤ l.length ∧ Asc.hexOk (Asc.bt (l.getD 1 0)) = true ∧ Asc.hexOk (Asc.bt (l.getD 2 0)) = true then (UInt8.ofNat (Asc.hexV (Asc.bt (l.getD 1 0)) * 16 + Asc.hexV (Asc.bt (l.getD 2 0))).toNat, 3) else (l.getD 0 0, 1)
theorem first_size (l : List UInt8) : (first l).2 = 1 ∨ ((first l).2 = 3 ∧ 3 ≤ l.length) := by
  unfold first
  split
  · exact .inr ⟨rfl, by simp_all⟩
  · exact .inl rfl
def unmark (l : List UInt8) : List UInt8 := if _h : l = [] then [] else (first l).1 :: unmark (l.drop (first l).2)
termination_by l.length
decreasing_by
  have h1 := first_size l
  have h2 : 0 < l.length := List.length_pos_iff.2 (by assumption)
  rw [List.length_drop]
  omega
theorem unmark_nil : unmark [] = [] := by rw [unmark]; simp
theorem unmark_go (l : List UInt8) (h : l ≠ []) : unmark l = (first l).1 :: unmark (l.drop (first l).2) := by rw [unmark]; simp [h]
theorem unmark_len (l : List UInt8) : (unmark l).length ≤ l.length := by
  by_cases h : l = []
  · subst h; rw [unmark_nil]; simp
  · have h1 := first_size l
    have h2 : 0 < l.length := List.length_pos_iff.2 (by assumption)
    have ih := unmark_len (l.drop (first l).2)
    rw [unmark_go l h, List.length_cons]
    rw [List.length_drop] at ih
    omega
termination_by l.length
decreasing_by
  rw [List.length_drop]
  omega
theorem unmark_at (l : List UInt8) (k : Nat) (h : k < l.length) : unmark (l.drop k) = (first (l.drop k)).1 :: unmark (l.drop (k + (first (l.drop k)).2)) := by
  rw [unmark_go _ (by intro e; have := congrArg List.length e; simp at this; omega), List.drop_drop]
theorem bytes {P : UInt8 → Prop} (h : ∀ n : Fin 256, P (UInt8.ofNat n.val)) (c : UInt8) : P c := by
  have := h ⟨c.toNat, c.toNat_lt⟩
  simpa using this
theorem hexU_ok : ∀ k : Fin 16, Asc.hexOk (Asc.bt (hexU k.val)) = true ∧ Asc.hexV (Asc.bt (hexU k.val)) = k.val ∧ plain (hexU k.val) = true := by decide
theorem hexU_at (k : Nat) (h : k < 16) : Asc.hexOk (Asc.bt (hexU k)) = true ∧ Asc.hexV (Asc.bt (hexU k)) = k ∧ plain (hexU k) = true := hexU_ok ⟨k, h⟩
theorem first_mk (c : UInt8) (x : List UInt8) : first (mk c ++ x) = (c, 3) := by
  have hc := c.toNat_lt
  have h1 := hexU_at (c.toNat / 16) (by omega)
  have h2 := hexU_at (c.toNat % 16) (by omega)
  unfold first mk
  simp only [List.cons_append, List.nil_append, List.getD_cons_zero, List.getD_cons_succ, List.length_cons]
  rw [if_pos ⟨by simp, by omega, h1.1, h2.1⟩, h1.2.1, h2.2.1]
  have e : ((((c.toNat / 16 : Nat) : Int) * 16 + ((c.toNat % 16 : Nat) : Int)).toNat) = c.toNat := by omega
  rw [e]
  simp
theorem first_other (c : UInt8) (x : List UInt8) (h : c ≠ 37) : first (c :: x) = (c, 1) := by
  unfold first
  rw [if_neg (by rintro ⟨e, _⟩; exact h (by simpa using e))]
  rfl
theorem plain_37 : plain 37 = false := by decide
theorem unmark_mark (free : List UInt8) (hf : free.contains 37 = false) : ∀ (l x : List UInt8), unmark (mark free l ++ x) = l ++ unmark x
  | [], x => rfl
  | c :: l, x => by
    rw [mark_cons, List.append_assoc]
    cases hs : stays free c
    · rw [one_no hs, unmark_go _ (by simp [mk]), first_mk]
      show c :: unmark ((mk c ++ (mark free l ++ x)).drop 3) = _
      rw [show (mk c ++ (mark free l ++ x)).drop 3 = mark free l ++ x from rfl, unmark_mark free hf l x]
      rfl
    · have hc : c ≠ 37 := by
        intro e
        subst e
        unfold stays at hs
        rw [plain_37, hf] at hs
        cases hs
      rw [one_yes hs, unmark_go _ (by simp), List.cons_append, first_other _ _ hc]
      show c :: unmark (([] ++ (mark free l ++ x))) = _
      rw [List.nil_append, unmark_mark free hf l x]
      rfl
theorem unmark_back (free : List UInt8) (hf : free.contains 37 = false) (l : List UInt8) : unmark (mark free l) = l := by
  have := unmark_mark free hf l []
  rwa [List.append_nil, unmark_nil, List.append_nil] at this
theorem mark_bytes (free : List UInt8) : ∀ (l : List UInt8), ∀ b ∈ mark free l, b = 37 ∨ plain b = true ∨ free.contains b = true
  | [], b, h => by simp [mark] at h
  | c :: l, b, h => by
    rw [mark_cons, List.mem_append] at h
    rcases h with h | h
    · cases hs : stays free c
      · rw [one_no hs] at h
        have hc := c.toNat_lt
        have h1 := hexU_at (c.toNat / 16) (by omega)
        have h2 := hexU_at (c.toNat % 16) (by omega)
        simp only [mk, List.mem_cons, List.not_mem_nil, or_false] at h
        rcases h with rfl | rfl | rfl
        · exact .inl rfl
        · exact .inr (.inl h1.2.2)
        · exact .inr (.inl h2.2.2)
      · rw [one_yes hs, List.mem_singleton] at h
        subst h
        unfold stays at hs
        rw [Bool.or_eq_true] at hs
        exact .inr hs
    · exact mark_bytes free l b h
/-- Each byte of one kind, another one. -/
def turned (l : List UInt8) (f t : UInt8) : List UInt8 := l.map fun c => if c = f then t else c
theorem turned_len (l : List UInt8) (f t : UInt8) : (turned l f t).length = l.length := by simp [turned]
theorem turned_back (l : List UInt8) (f t : UInt8) (h : ∀ c ∈ l, c ≠ t) : turned (turned l f t) t f = l := by
  unfold turned
  rw [List.map_map]
  conv => rhs; rw [← List.map_id l]
  apply List.map_congr_left
  intro c hc
  have := h c hc
  simp only [Function.comp, id]
  by_cases e : c = f
  · subst e; simp
  · simp [e, this]
/-- A name's, or a value's, text in a form; and what such a text tells. -/
def part (l : List UInt8) : List UInt8 := turned (mark [32] l) 32 43
def read (l : List UInt8) : List UInt8 := Utf.rep (unmark (turned l 43 32))
theorem part_len (l : List UInt8) : (part l).length ≤ 3 * l.length := by unfold part; rw [turned_len]; exact mark_len _ l
theorem read_len (l : List UInt8) : (read l).length ≤ 3 * l.length := by
  have h1 := Utf.rep_len (unmark (turned l 43 32))
  have h2 := unmark_len (turned l 43 32)
  rw [turned_len] at h2
  unfold read
  omega
theorem read_nil : read [] = [] := by unfold read turned; rw [List.map_nil, unmark_nil, Utf.rep_nil]
theorem read_text (l : List UInt8) : Utf.isText (read l) = true := Utf.rep_text _
theorem mark_43 (l : List UInt8) : ∀ c ∈ mark [32] l, c ≠ 43 := by
  intro c hc e
  subst e
  rcases mark_bytes _ _ _ hc with h | h | h
  · exact absurd h (by decide)
  · exact absurd h (by decide)
  · exact absurd h (by decide)
theorem read_part (l : List UInt8) (h : Utf.isText l = true) : read (part l) = l := by
  unfold read part
  rw [turned_back _ _ _ (mark_43 l), unmark_back _ (by decide), Utf.rep_self l h]
theorem part_bytes (l : List UInt8) : ∀ b ∈ part l, b ≠ 38 ∧ b ≠ 61 := by
  intro b hb
  unfold part turned at hb
  rw [List.mem_map] at hb
  obtain ⟨c, hc, rfl⟩ := hb
  by_cases e : c = 32
  · rw [if_pos e]; decide
  · rw [if_neg e]
    rcases mark_bytes _ _ _ hc with h | h | h
    · subst h; decide
    · refine ⟨?_, ?_⟩ <;> (rintro rfl; exact absurd h (by decide))
    · simp at h
      exact absurd h e
abbrev Pr := List UInt8 × List UInt8
def text (p : Pr) : List UInt8 := part p.1 ++ [61] ++ part p.2
def form (l : List Pr) : List UInt8 := Lib.join (l.map text) [38]
def pairOf (t : List UInt8) : Pr := (read (Lib.cut t [61]).1, read (Lib.cut t [61]).2.1)
def pairs (ts : List (List UInt8)) : List Pr := (ts.filter fun t => !t.isEmpty).map pairOf
def parse (l : List UInt8) : List Pr := pairs (Asc.split l 38)
theorem pairs_empty (ts : List (List UInt8)) (k : Nat) (h : ts[k]? = some []) : pairs (ts.take (k + 1)) = pairs (ts.take k) := by
  unfold pairs
  rw [List.take_add_one, h]
  simp
theorem pairs_more (ts : List (List UInt8)) (k : Nat) (t : List UInt8) (h : ts[k]? = some t) (ht : t ≠ []) : pairs (ts.take (k + 1)) = pairs (ts.take k) ++ [pairOf t] := by
  unfold pairs
  rw [List.take_add_one, h]
  simp [ht]
theorem pairs_le (ts : List (List UInt8)) : (pairs ts).length ≤ ts.length := by
  unfold pairs
  rw [List.length_map]
  exact List.length_filter_le _ _
theorem pairs_texts (ts : List (List UInt8)) : ∀ p ∈ pairs ts, Utf.isText p.1 = true ∧ Utf.isText p.2 = true := by
  intro p hp
  unfold pairs at hp
  rw [List.mem_map] at hp
  obtain ⟨t, _, rfl⟩ := hp
  exact ⟨read_text _, read_text _⟩
/-- Cut at the first byte of a kind. -/
theorem cut_at (t : List UInt8) (b : UInt8) (n : Nat) (h : t[n]? = some b) (hn : ∀ j, j < n → t[j]? ≠ some b) : Lib.cut t [b] = (t.take n, t.drop (n + 1), true) := by
  unfold Lib.cut
  rw [Lib.index_one]
  have hi : Lib.indexByte t b = n := by
    have hg := Lib.indexByte_ge t b
    rcases Int.lt_or_le (Lib.indexByte t b) 0 with hx | hx
    · exact absurd h (Lib.indexByte_none (by omega) n)
    · obtain ⟨h1, h2⟩ := Lib.indexByte_some (l := t) (c := b) (o := (Lib.indexByte t b).toNat) (by omega)
      rcases Nat.lt_trichotomy (Lib.indexByte t b).toNat n with hl | hl | hl
      · exact absurd h1 (hn _ hl)
      · omega
      · exact absurd h (h2 n hl)
  rw [hi, if_pos (by omega)]
  simp
theorem cut_none (t : List UInt8) (b : UInt8) (hn : ∀ j : Nat, t[j]? ≠ some b) : Lib.cut t [b] = (t, [], false) := by
  unfold Lib.cut
  rw [Lib.index_one]
  have hg := Lib.indexByte_ge t b
  rcases Int.lt_or_le (Lib.indexByte t b) 0 with hx | hx
  · rw [if_neg (by omega)]
  · obtain ⟨h1, _⟩ := Lib.indexByte_some (l := t) (c := b) (o := (Lib.indexByte t b).toNat) (by omega)
    exact absurd h1 (hn _)
theorem pair_text (p : Pr) (h1 : Utf.isText p.1 = true) (h2 : Utf.isText p.2 = true) : pairOf (text p) = p := by
  have hc : Lib.cut (text p) [61] = (part p.1, part p.2, true) := by
    have e1 : (text p)[(part p.1).length]? = some 61 := by
      unfold text
      rw [List.append_assoc, List.getElem?_append_right (Nat.le_refl _)]
      simp
    have e2 : ∀ j, j < (part p.1).length → (text p)[j]? ≠ some 61 := by
      intro j hj e
      unfold text at e
      rw [List.append_assoc, List.getElem?_append_left hj] at e
      exact (part_bytes p.1 61 (List.mem_of_getElem? e)).2 rfl
    rw [cut_at (text p) 61 _ e1 e2]
    unfold text
    simp
  unfold pairOf
  rw [hc, read_part _ h1, read_part _ h2]
theorem text_ne (p : Pr) : text p ≠ [] := by unfold text; simp
theorem text_38 (p : Pr) : ∀ c ∈ text p, c ≠ 38 := by
  intro c hc
  unfold text at hc
  simp only [List.mem_append, List.mem_singleton] at hc
  rcases hc with (hc | hc) | hc
  · exact (part_bytes _ c hc).1
  · subst hc; decide
  · exact (part_bytes _ c hc).1
/-- A text with no such byte goes on in the part under way. -/
theorem fold_free (b : UInt8) : ∀ (t : List UInt8) (st : List (List UInt8) × List UInt8), (∀ c ∈ t, c ≠ b) → t.foldl (Asc.sstep b) st = (st.1, st.2 ++ t)
  | [], st, _ => by simp
  | c :: t, st, h => by
    rw [List.foldl_cons, fold_free b t _ (fun x hx => h x (List.mem_cons_of_mem _ hx))]
    unfold Asc.sstep
    rw [if_neg (h c (List.mem_cons_self ..))]
    simp
theorem split_join (b : UInt8) (ts : List (List UInt8)) (h : ∀ t ∈ ts, ∀ c ∈ t, c ≠ b) (hn : ts ≠ []) : Asc.split (Lib.join ts [b]) b = ts := by
  have key : ∀ us : List (List UInt8), (∀ t ∈ us, ∀ c ∈ t, c ≠ b) → us ≠ [] → Asc.sst b (Lib.join us [b]) = (us.dropLast, us.getLastD []) := by
    intro us
    refine Asc.snoc_ind (P := fun us => (∀ t ∈ us, ∀ c ∈ t, c ≠ b) → us ≠ [] → Asc.sst b (Lib.join us [b]) = (us.dropLast, us.getLastD [])) ?_ ?_ us
    · intro _ hh; exact absurd rfl hh
    · intro us t ih hf _
      have hft : ∀ c ∈ t, c ≠ b := hf t (by simp)
      rw [Asc.join_snoc]
      by_cases hu : us = []
      · subst hu
        rw [if_pos rfl]
        unfold Asc.sst
        rw [fold_free b t _ hft]
        simp
      · rw [if_neg hu]
        have := ih (fun x hx => hf x (by simp [hx])) hu
        unfold Asc.sst at this ⊢
        rw [List.foldl_append, List.foldl_append, this, List.foldl_cons, List.foldl_nil, fold_free b t _ hft]
        unfold Asc.sstep
        rw [if_pos rfl]
        simp only [List.nil_append, List.dropLast_concat]
        rw [show us.dropLast ++ [us.getLastD []] = us from by
          cases us with
          | nil => exact absurd rfl hu
          | cons x r => rw [List.getLastD_cons, ← List.getLast_eq_getLastD]; exact List.dropLast_concat_getLast (by simp)]
        simp
  unfold Asc.split
  rw [key ts h hn]
  show ts.dropLast ++ [ts.getLastD []] = ts
  cases ts with
  | nil => exact absurd rfl hn
  | cons x r => rw [List.getLastD_cons, ← List.getLast_eq_getLastD]; exact List.dropLast_concat_getLast (by simp)
theorem parse_form (l : List Pr) (h : ∀ p ∈ l, Utf.isText p.1 = true ∧ Utf.isText p.2 = true) : parse (form l) = l := by
  unfold parse form
  by_cases hl : l = []
  · subst hl; rfl
  · rw [split_join 38 _ (by
      intro t ht
      rw [List.mem_map] at ht
      obtain ⟨p, _, rfl⟩ := ht
      exact text_38 p) (by simpa using hl)]
    unfold pairs
    rw [List.filter_eq_self.2 (by
      intro t ht
      rw [List.mem_map] at ht
      obtain ⟨p, _, rfl⟩ := ht
      simpa using text_ne p), List.map_map]
    conv => rhs; rw [← List.map_id l]
    apply List.map_congr_left
    intro p hp
    exact pair_text p (h p hp).1 (h p hp).2
theorem count_split (b : UInt8) (l : List UInt8) : (Asc.split l b).length = l.count b + 1 := by
  have : (Asc.sst b l).1.length = l.count b := by
    refine Asc.snoc_ind (P := fun l => (Asc.sst b l).1.length = l.count b) ?_ ?_ l
    · simp [Asc.sst]
    · intro l c ih
      rw [Asc.sst_snoc, List.count_append]
      unfold Asc.sstep
      by_cases hc : c = b
      · subst hc; simp [ih]
      · rw [if_neg hc]; simp [ih, hc]
  unfold Asc.split
  rw [List.length_append, this]
  rfl
theorem form_count (l : List Pr) : (form l).count 38 = l.length - 1 := by
  by_cases hl : l = []
  · subst hl; rfl
  · have := count_split 38 (form l)
    unfold form at this ⊢
    rw [split_join 38 _ (by
      intro t ht
      rw [List.mem_map] at ht
      obtain ⟨p, _, rfl⟩ := ht
      exact text_38 p) (by simpa using hl), List.length_map] at this
    omega
/-- One byte for another, by strings.ReplaceAll. -/
theorem replaceK_map (a b : UInt8) : ∀ (n : Nat) (l : List UInt8), l.length ≤ n → ∀ k, l.count a ≤ k → Lib.replaceK [a] [b] k l = turned l a b
  | 0, l, hn, k, hk => by
    have : l = [] := List.eq_nil_of_length_eq_zero (by omega)
    subst this
    cases k with
    | zero => rfl
    | succ k => simp [Lib.replaceK, Lib.index, turned]
  | n + 1, l, hn, k, hk => by
    have hnone : Lib.indexByte l a = -1 → turned l a b = l := by
      intro h
      unfold turned
      conv => rhs; rw [← List.map_id l]
      apply List.map_congr_left
      intro c hc
      have : c ≠ a := by
        rintro rfl
        obtain ⟨j, hj⟩ := List.mem_iff_getElem?.1 hc
        exact Lib.indexByte_none h j hj
      simp [this]
    have hg := Lib.indexByte_ge l a
    rcases Int.lt_or_le (Lib.indexByte l a) 0 with hx | hx
    · cases k with
      | zero => rw [Lib.replaceK, hnone (by omega)]
      | succ k => rw [Lib.replaceK, Lib.index_one, hnone (by omega), if_pos (by rw [beq_iff_eq]; omega)]
    · obtain ⟨h1, h2⟩ := Lib.indexByte_some (l := l) (c := a) (o := (Lib.indexByte l a).toNat) (by omega)
      obtain ⟨i, hi⟩ : ∃ i : Nat, Lib.indexByte l a = i := ⟨_, (Int.toNat_of_nonneg hx).symm⟩
      rw [hi, Int.toNat_natCast] at h1 h2
      have hil : i < l.length := (List.getElem?_eq_some_iff.1 h1).1
      have hparts : l = l.take i ++ a :: l.drop (i + 1) := by
        have e : l[i] = a := (List.getElem?_eq_some_iff.1 h1).2
        rw [← e, ← List.drop_eq_getElem_cons hil, List.take_append_drop]
      have hcnt : (l.drop (i + 1)).count a + 1 ≤ l.count a := by
        conv => rhs; rw [hparts]
        rw [List.count_append, List.count_cons_self]
        omega
      cases k with
      | zero => omega
      | succ k =>
        rw [Lib.replaceK_hit _ _ _ _ i (by rw [Lib.index_one]; exact hi), replaceK_map a b n _ (by simp; omega) k (by simp only [List.length_singleton]; omega)]
        conv => rhs; rw [hparts]
        unfold turned
        rw [List.map_append, List.map_cons, if_pos rfl]
        have : (l.take i).map (fun c => if c = a then b else c) = l.take i := by
          conv => rhs; rw [← List.map_id (l.take i)]
          apply List.map_congr_left
          intro c hc
          have : c ≠ a := by
            rintro rfl
            obtain ⟨j, hj⟩ := List.mem_iff_getElem?.1 hc
            have hji : j < i := by
              have := (List.getElem?_eq_some_iff.1 hj).1
              rw [List.length_take] at this
              omega
            rw [List.getElem?_take_of_lt hji] at hj
            exact h2 j hji hj
          simp [this]
        rw [this]
        simp
theorem replaceAll_map (a b : UInt8) (hab : a ≠ b) (l : List UInt8) : Lib.replaceAll l [a] [b] = turned l a b := by
  unfold Lib.replaceAll Lib.replace
  rw [if_neg (by simpa using hab)]
  refine replaceK_map a b _ l (Nat.le_refl _) _ ?_
  unfold Lib.replaceNum
  rw [if_pos (.inl (by omega)), Lib.count_one]
  exact Nat.le_refl _
end Pct
/- The bytes up to 32 at both ends of a text: what strings.TrimFunc leaves, as a plain function on lists of bytes. -/
namespace Url
open Go Go.Lib
def low (c : UInt8) : Bool := decide (c.toNat ≤ 32)
def rtrim (l : List UInt8) : List UInt8 := (l.reverse.dropWhile low).reverse
def ends (l : List UInt8) : List UInt8 := rtrim (l.dropWhile low)
/-- The rune is up to 32. -/
def lowR (r : Nat) : Bool := decide (r ≤ 32)
theorem rtrim_low (l : List UInt8) (c : UInt8) (h : low c = true) : rtrim (l ++ [c]) = rtrim l := by simp [rtrim, h]
theorem rtrim_stop (l : List UInt8) (c : UInt8) (h : low c = false) : rtrim (l ++ [c]) = l ++ [c] := by simp [rtrim, h]
theorem rtrim_nil : rtrim [] = [] := rfl
theorem decodeN_ge (n b0 b1 b2 b3 : Nat) (h : 128 ≤ b0) : 128 ≤ (decodeN n b0 b1 b2 b3).1 := by
  unfold decodeN
  rw [if_neg (by omega)]
  repeat' split
  all_goals (simp only []; omega)
theorem decodeN_high (n b0 b1 b2 b3 : Nat) (h : 128 ≤ b0) : lowR (decodeN n b0 b1 b2 b3).1 = false := by
  have := decodeN_ge n b0 b1 b2 b3 h
  exact decide_eq_false (by omega)
theorem at_getD (l : List UInt8) (k : Nat) (h : k < l.length) : l.getD k 0 = l[k] := by simp [List.getD, h]
theorem left_ends (s : ByteArray) : ∀ (f pos : Nat), s.size ≤ pos + f →
    (if idxFuncFrom lowR false s f pos = -1 then [] else s.data.toList.drop (idxFuncFrom lowR false s f pos).toNat) = (s.data.toList.drop pos).dropWhile low
  | 0, pos, h => by
    have hd : s.data.toList.drop pos = [] := List.drop_of_length_le (by rw [← size_eq]; omega)
    rw [hd]
    simp [idxFuncFrom]
  | f + 1, pos, h => by
    by_cases hp : pos < s.size
    · have hpl : pos < s.data.toList.length := by rw [← size_eq]; exact hp
      rw [List.drop_eq_getElem_cons hpl]
      unfold idxFuncFrom
      rw [if_pos hp, decode_N, at_getD _ _ hpl]
      by_cases hb : s.data.toList[pos].toNat < 128
      · rw [decodeN_ascii _ _ _ _ _ hb]
        cases hl : low s.data.toList[pos]
        · have hr : lowR s.data.toList[pos].toNat = false := hl
          simp only [hr, if_true]
          rw [List.dropWhile_cons_of_neg (by rw [hl]; decide), if_neg (by omega), Int.toNat_natCast, ← List.drop_eq_getElem_cons hpl]
        · have hr : lowR s.data.toList[pos].toNat = true := hl
          simp only [hr, Bool.true_eq_false, if_false]
          rw [List.dropWhile_cons_of_pos hl]
          exact left_ends s f (pos + 1) (by omega)
      · have hr := decodeN_high (s.data.toList.length - pos) s.data.toList[pos].toNat (s.data.toList.getD (pos + 1) 0).toNat (s.data.toList.getD (pos + 2) 0).toNat (s.data.toList.getD (pos + 3) 0).toNat (by omega)
        have hl : low s.data.toList[pos] = false := decide_eq_false (by omega)
        simp only [hr, if_true]
        rw [List.dropWhile_cons_of_neg (by rw [hl]; decide), if_neg (by omega), Int.toNat_natCast, ← List.drop_eq_getElem_cons hpl]
    · have hd : s.data.toList.drop pos = [] := List.drop_of_length_le (by rw [← size_eq]; omega)
      rw [idxFuncFrom_end _ _ _ _ _ hp, if_pos rfl, hd]
      rfl
theorem trimLeft_ends (s : ByteArray) : (trimLeftF lowR s).data.toList = s.data.toList.dropWhile low := by
  have h := left_ends s s.size 0 (by omega)
  rw [List.drop_zero] at h
  rw [← h]
  unfold trimLeftF idxFunc
  split
  · rfl
  · rw [extract_data]
    rw [List.take_of_length_le]
    rw [List.length_drop, ← size_eq]
    omega
theorem right_ends (s : ByteArray) : ∀ (f i : Nat), i ≤ f → i ≤ s.data.toList.length → OpenAt s.data.toList i →
    rtrim (s.data.toList.take i) = s.data.toList.take (if 0 ≤ lastIdxFuncFrom lowR false s f i then (lastIdxFuncFrom lowR false s f i).toNat + (decodeL (s.data.toList.drop (lastIdxFuncFrom lowR false s f i).toNat)).2 else 0)
  | 0, i, hf, _, _ => by
    obtain rfl : i = 0 := by omega
    simp [lastIdxFuncFrom, rtrim]
  | f + 1, i, hf, hil, ho => by
    by_cases hi : 0 < i
    · have hlt : i - 1 < s.data.toList.length := by omega
      have hsn : s.data.toList.take i = s.data.toList.take (i - 1) ++ [s.data.toList[i - 1]] := by
        have := List.take_succ_eq_append_getElem hlt
        rw [show i - 1 + 1 = i by omega] at this
        exact this
      have hw := decodeLastL_width (s.data.toList.take i) (by rw [List.length_take]; omega)
      rw [List.length_take, Nat.min_eq_left hil] at hw
      have stop : lowR (decodeLastL (s.data.toList.take i)).1 = false → low s.data.toList[i - 1] = false → rtrim (s.data.toList.take i) = s.data.toList.take (if 0 ≤ lastIdxFuncFrom lowR false s (f + 1) i then (lastIdxFuncFrom lowR false s (f + 1) i).toNat + (decodeL (s.data.toList.drop (lastIdxFuncFrom lowR false s (f + 1) i).toNat)).2 else 0) := by
        intro h1 h2
        simp only [lastIdxFuncFrom, if_pos hi, h1, if_true]
        rw [if_pos (by omega), Int.toNat_natCast, fw_width _ i hi hil ho, Nat.sub_add_cancel hw.2]
        rw [hsn]
        exact rtrim_stop _ _ h2
      rcases last_cases s.data.toList i hi hil with ⟨ha, hd⟩ | ⟨ha, hd⟩ | ⟨ha, st, hst, hd, hsum⟩
      · rw [at_getD _ _ hlt] at ha hd
        cases hl : low s.data.toList[i - 1]
        · exact stop (by rw [hd]; exact hl) hl
        · have hr : lowR s.data.toList[i - 1].toNat = true := hl
          simp only [lastIdxFuncFrom, if_pos hi, hd, hr, Bool.true_eq_false, if_false]
          rw [hsn, rtrim_low _ _ hl]
          exact right_ends s f (i - 1) (by omega) (by omega) (.inr (by rw [at_getD _ _ hlt]; omega))
      · rw [at_getD _ _ hlt] at ha
        exact stop (by rw [hd]; rfl) (decide_eq_false (by omega))
      · rw [at_getD _ _ hlt] at ha
        refine stop ?_ (decide_eq_false (by omega))
        rw [hd]
        rw [decodeL_N, getD_dropU, Nat.add_zero, getD_takeU _ i st hst] at hsum ⊢
        by_cases hb : (s.data.toList.getD st 0).toNat < 128
        · rw [decodeN_ascii _ _ _ _ _ hb] at hsum
          have : st = i - 1 := by simp only [] at hsum; omega
          subst this
          rw [at_getD _ _ hlt] at hb
          omega
        · exact decodeN_high _ _ _ _ _ (by omega)
    · obtain rfl : i = 0 := by omega
      rw [lastIdxFuncFrom_zero]
      simp [rtrim]
theorem lastIdx_lt (s : ByteArray) : ∀ (f i : Nat), i ≤ s.size → 0 ≤ lastIdxFuncFrom lowR false s f i → lastIdxFuncFrom lowR false s f i < i
  | 0, _, _, h => by simp [lastIdxFuncFrom] at h
  | f + 1, i, hi, h => by
    unfold lastIdxFuncFrom at h ⊢
    by_cases hp : 0 < i
    · rw [if_pos hp] at h ⊢
      have hw := decodeLastL_width (s.data.toList.take i) (by rw [List.length_take, ← size_eq]; omega)
      rw [List.length_take, ← size_eq, Nat.min_eq_left hi] at hw
      split at h
      · rename_i h1
        rw [if_pos h1]
        omega
      · rename_i h1
        rw [if_neg h1]
        have := lastIdx_lt s f _ (by omega) h
        omega
    · rw [if_neg hp] at h
      omega
theorem trimRight_ends (s : ByteArray) : (trimRightF lowR s).data.toList = rtrim s.data.toList := by
  have h := right_ends s s.size s.size (Nat.le_refl _) (by rw [← size_eq]; exact Nat.le_refl _) (.inl (size_eq s))
  rw [List.take_of_length_le (by rw [← size_eq]; exact Nat.le_refl _)] at h
  rw [h]
  unfold trimRightF rightEndF lastIdxFunc
  rw [extract_data, List.drop_zero, Nat.sub_zero]
  congr 1
  split
  · rename_i h0
    congr 2
    have hlt := lastIdx_lt s s.size s.size (Nat.le_refl _) h0
    have hx : s.extract (lastIdxFuncFrom lowR false s s.size s.size).toNat s.size = ⟨(s.data.toList.drop (lastIdxFuncFrom lowR false s s.size s.size).toNat).toArray⟩ := by
      rw [extract_eq, List.take_of_length_le (by rw [List.length_drop, ← size_eq]; exact Nat.le_refl _)]
    have hxs : (⟨(s.data.toList.drop (lastIdxFuncFrom lowR false s s.size s.size).toNat).toArray⟩ : ByteArray).size ≠ 0 := by
      rw [size_eq]
      simp only [List.length_drop]
      rw [← size_eq]
      omega
    rw [hx]
    unfold decodeGoB decodeL
    rw [if_neg hxs]
  · rfl
/-- What strings.TrimFunc leaves. -/
theorem trimF_ends (s : ByteArray) : (trimF lowR s).data.toList = ends s.data.toList := by
  unfold trimF ends
  rw [trimRight_ends, trimLeft_ends]
end Url
/- The document's words for URLs, as plain functions on lists of bytes: cleaned texts, marks for a path, a query, a fragment, parts, dots, paths. -/
namespace Url
open Go
def inner (c : UInt8) : Bool := !(c == 9 || c == 10 || c == 13)
def clean (l : List UInt8) : List UInt8 := (ends l).filter inner
theorem rtrim_prefix (l : List UInt8) : ∃ r, l = rtrim l ++ r := by
  refine ⟨(l.reverse.takeWhile low).reverse, ?_⟩
  unfold rtrim
  rw [← List.reverse_append, List.takeWhile_append_dropWhile, List.reverse_reverse]
theorem head_drop (l : List UInt8) : ∀ c, (l.dropWhile low).head? = some c → low c = false := by
  intro c h
  have := List.head?_dropWhile_not low l
  rw [h] at this
  simpa using this
theorem head_ends (l : List UInt8) : ∀ c, (ends l).head? = some c → low c = false := by
  intro c h
  obtain ⟨r, hr⟩ := rtrim_prefix (l.dropWhile low)
  apply head_drop l
  rw [hr]
  unfold ends at h
  cases hx : rtrim (l.dropWhile low) with
  | nil => rw [hx] at h; simp at h
  | cons a t => rw [hx] at h; simpa using h
theorem last_ends (l : List UInt8) : ∀ c, (ends l).getLast? = some c → low c = false := by
  intro c h
  unfold ends rtrim at h
  rw [List.getLast?_reverse] at h
  exact head_drop _ c h
theorem drop_self (l : List UInt8) (h : ∀ c, l.head? = some c → low c = false) : l.dropWhile low = l := by
  cases l with
  | nil => rfl
  | cons a t => rw [List.dropWhile_cons_of_neg]; rw [h a rfl]; decide
theorem rtrim_self (l : List UInt8) (h : ∀ c, l.getLast? = some c → low c = false) : rtrim l = l := by
  unfold rtrim
  rw [drop_self _ (by rw [List.head?_reverse]; exact h), List.reverse_reverse]
theorem ends_self (l : List UInt8) (h1 : ∀ c, l.head? = some c → low c = false) (h2 : ∀ c, l.getLast? = some c → low c = false) : ends l = l := by
  unfold ends
  rw [drop_self l h1, rtrim_self l h2]
theorem inner_of {c : UInt8} (h : low c = false) : inner c = true := by
  have : ¬ c.toNat ≤ 32 := of_decide_eq_false h
  unfold inner
  have h9 : (c == 9) = false := beq_eq_false_iff_ne.2 (by rintro rfl; simp at this)
  have h10 : (c == 10) = false := beq_eq_false_iff_ne.2 (by rintro rfl; simp at this)
  have h13 : (c == 13) = false := beq_eq_false_iff_ne.2 (by rintro rfl; simp at this)
  rw [h9, h10, h13]
  rfl
theorem filter_head (l : List UInt8) (h : ∀ c, l.head? = some c → low c = false) : ∀ c, (l.filter inner).head? = some c → low c = false := by
  intro c hc
  cases l with
  | nil => simp at hc
  | cons a t =>
    rw [List.filter_cons_of_pos (inner_of (h a rfl))] at hc
    exact h c (by simpa using hc)
theorem filter_last (l : List UInt8) (h : ∀ c, l.getLast? = some c → low c = false) : ∀ c, (l.filter inner).getLast? = some c → low c = false := by
  intro c hc
  rw [← List.head?_reverse, ← List.filter_reverse] at hc
  exact filter_head l.reverse (by rw [List.head?_reverse]; exact h) c hc
theorem clean_clean (l : List UInt8) : clean (clean l) = clean l := by
  unfold clean
  rw [ends_self _ (filter_head _ (head_ends l)) (filter_last _ (last_ends l)), List.filter_filter]
  simp
theorem ends_len (l : List UInt8) : (ends l).length ≤ l.length := by
  obtain ⟨r, hr⟩ := rtrim_prefix (l.dropWhile low)
  have h1 : (l.dropWhile low).length = (ends l).length + r.length := by rw [hr, List.length_append]; rfl
  have h2 := (List.dropWhile_sublist low (l := l)).length_le
  omega
theorem clean_len (l : List UInt8) : (clean l).length ≤ l.length := Nat.le_trans (List.length_filter_le _ _) (ends_len l)
/-- What has bytes above 32 alone is cleaned. -/
theorem clean_high (l : List UInt8) (h : ∀ c ∈ l, 32 < c.toNat) : clean l = l := by
  have hl : ∀ c ∈ l, low c = false := fun c hc => decide_eq_false (by have := h c hc; omega)
  unfold clean
  rw [ends_self l (fun c hc => hl c (List.mem_of_mem_head? (by rw [hc]; rfl))) (fun c hc => hl c (List.mem_of_getLast? hc))]
  exact List.filter_eq_self.2 fun c hc => inner_of (hl c hc)
def slash (c : UInt8) : Bool := c == 47 || c == 92
def freeP : List UInt8 := [33, 36, 37, 38, 40, 41, 42, 43, 44, 47, 58, 59, 61, 64, 91, 92, 93, 94, 124, 39]
def freeQ : List UInt8 := [33, 36, 37, 38, 40, 41, 42, 43, 44, 47, 58, 59, 61, 64, 91, 92, 93, 94, 124, 63, 96, 123, 125]
def freeF : List UInt8 := [33, 36, 37, 38, 40, 41, 42, 43, 44, 47, 58, 59, 61, 64, 91, 92, 93, 94, 124, 39, 35, 63, 123, 125]
def moreP : List UInt8 := [35, 63, 96, 123, 125]
def moreQ : List UInt8 := [35, 39]
def moreF : List UInt8 := [96]
/-- A byte that stands as its mark. -/
def marks (more : List UInt8) (c : UInt8) : Bool := decide (c.toNat ≤ 32) || decide (126 < c.toNat) || [34, 60, 62].contains c || more.contains c
theorem stays_P : ∀ c, Pct.stays freeP c = !marks moreP c := Pct.bytes (by decide +kernel)
theorem stays_Q : ∀ c, Pct.stays freeQ c = !marks moreQ c := Pct.bytes (by decide +kernel)
theorem stays_F : ∀ c, Pct.stays freeF c = !marks moreF c := Pct.bytes (by decide +kernel)
theorem alone_P : ∀ c, marks moreP c = true → Pct.mark [] [c] = Pct.mk c := Pct.bytes (by decide +kernel)
theorem alone_Q : ∀ c, marks moreQ c = true → Pct.mark [] [c] = Pct.mk c := Pct.bytes (by decide +kernel)
theorem alone_F : ∀ c, marks moreF c = true → Pct.mark [] [c] = Pct.mk c := Pct.bytes (by decide +kernel)
/-- The bytes of a mark. -/
theorem mk_bytes : ∀ c, ∀ b ∈ Pct.mk c, b = 37 ∨ (48 ≤ b.toNat ∧ b.toNat ≤ 57) ∨ (65 ≤ b.toNat ∧ b.toNat ≤ 70) := Pct.bytes (by decide +kernel)
theorem mk_stay (free : List UInt8) (h : free.contains 37 = true) (c : UInt8) : ∀ b ∈ Pct.mk c, Pct.stays free b = true := by
  intro b hb
  unfold Pct.stays Pct.plain Pct.plainN
  rcases mk_bytes c b hb with rfl | h1 | h1
  · rw [h]; simp
  · simp only [Bool.or_eq_true, decide_eq_true_eq]; left; right; omega
  · simp only [Bool.or_eq_true, decide_eq_true_eq]; left; left; right; omega
/-- What is marked has bytes that stay alone, and stays so. -/
theorem mark_stay (free : List UInt8) (h : free.contains 37 = true) : ∀ l : List UInt8, ∀ b ∈ Pct.mark free l, Pct.stays free b = true
  | [], b, hb => by simp [Pct.mark] at hb
  | c :: l, b, hb => by
    rw [Pct.mark_cons, List.mem_append] at hb
    rcases hb with hb | hb
    · cases hs : Pct.stays free c
      · rw [Pct.one_no hs] at hb
        exact mk_stay free h c b hb
      · rw [Pct.one_yes hs, List.mem_singleton] at hb
        rw [hb]
        exact hs
    · exact mark_stay free h l b hb
theorem mark_self (free : List UInt8) : ∀ l : List UInt8, (∀ b ∈ l, Pct.stays free b = true) → Pct.mark free l = l
  | [], _ => rfl
  | c :: l, h => by
    rw [Pct.mark_cons, Pct.one_yes (h c (List.mem_cons_self ..)), mark_self free l (fun b hb => h b (List.mem_cons_of_mem _ hb))]
    rfl
theorem mark_append (free a b : List UInt8) : Pct.mark free (a ++ b) = Pct.mark free a ++ Pct.mark free b := by simp [Pct.mark]
/-- A split text, marked part by part. -/
theorem one_47 (c : UInt8) (h : c ≠ 47) : ∀ b ∈ Pct.one freeP c, b ≠ 47 := by
  intro b hb
  cases hs : Pct.stays freeP c
  · rw [Pct.one_no hs] at hb
    rcases mk_bytes c b hb with rfl | h1 | h1
    · decide
    · rintro rfl; simp at h1
    · rintro rfl; simp at h1
  · rw [Pct.one_yes hs, List.mem_singleton] at hb
    rw [hb]
    exact h
theorem one_is47 : Pct.one freeP 47 = [47] := by decide +kernel
theorem sst_mark (l : List UInt8) : Asc.sst 47 (Pct.mark freeP l) = ((Asc.sst 47 l).1.map (Pct.mark freeP), Pct.mark freeP (Asc.sst 47 l).2) := by
  refine Asc.snoc_ind (P := fun l => Asc.sst 47 (Pct.mark freeP l) = ((Asc.sst 47 l).1.map (Pct.mark freeP), Pct.mark freeP (Asc.sst 47 l).2)) ?_ ?_ l
  · rfl
  · intro l c ih
    rw [mark_append, Asc.sst_snoc]
    have h1 : Pct.mark freeP [c] = Pct.one freeP c := by simp [Pct.mark]
    rw [h1]
    unfold Asc.sst at ih ⊢
    rw [List.foldl_append, ih]
    by_cases hc : c = 47
    · subst hc
      rw [one_is47]
      simp [Asc.sstep, Pct.mark]
    · rw [Pct.fold_free 47 _ _ (one_47 c hc)]
      unfold Asc.sstep
      rw [if_neg hc]
      simp [mark_append, h1]
theorem split_mark (l : List UInt8) : Asc.split (Pct.mark freeP l) 47 = (Asc.split l 47).map (Pct.mark freeP) := by
  unfold Asc.split
  rw [sst_mark]
  simp
/-- Of how many dots a text is; none, if of anything else. -/
def cnt : List UInt8 → Option Nat
  | [] => some 0
  | [a] => if a = 46 then some 1 else none
  | [a, b] => if a = 46 then (cnt [b]).map (· + 1) else none
  | a :: b :: c :: r => if a = 46 then (cnt (b :: c :: r)).map (· + 1) else if Asc.lowerC a = 37 ∧ Asc.lowerC b = 50 ∧ Asc.lowerC c = 101 then (cnt r).map (· + 1) else none
def dots (l : List UInt8) : Nat := match cnt l with | some 1 => 1 | some 2 => 2 | _ => 0
theorem cnt_dot (r : List UInt8) : cnt (46 :: r) = (cnt r).map (· + 1) := by
  match r with
  | [] => rfl
  | [b] => rfl
  | b :: c :: r => rw [cnt, if_pos rfl]
theorem cnt_mark (a b c : UInt8) (r : List UInt8) (h0 : a ≠ 46) (h : Asc.lowerC a = 37 ∧ Asc.lowerC b = 50 ∧ Asc.lowerC c = 101) : cnt (a :: b :: c :: r) = (cnt r).map (· + 1) := by
  rw [cnt, if_neg h0, if_pos h]
theorem cnt_none (a : UInt8) (r : List UInt8) (h0 : a ≠ 46) (h : ¬ Asc.lower ((a :: r).take 3) = [37, 50, 101]) : cnt (a :: r) = none := by
  match r with
  | [] => rw [cnt, if_neg h0]
  | [b] => rw [cnt, if_neg h0]
  | b :: c :: r =>
    rw [cnt, if_neg h0, if_neg]
    intro hh
    apply h
    simp [Asc.lower, hh.1, hh.2.1, hh.2.2]
/-- %2e to a dot, from the left. -/
def undot : List UInt8 → List UInt8
  | [] => []
  | [a] => [a]
  | [a, b] => [a, b]
  | a :: b :: c :: r => if a = 37 ∧ b = 50 ∧ c = 101 then 46 :: undot r else a :: undot (b :: c :: r)
theorem undot_hit (r : List UInt8) : undot (37 :: 50 :: 101 :: r) = 46 :: undot r := by rw [undot, if_pos ⟨rfl, rfl, rfl⟩]
theorem undot_miss (a : UInt8) (r : List UInt8) (h : [37, 50, 101].isPrefixOf (a :: r) = false) : undot (a :: r) = a :: undot r := by
  match r with
  | [] => rfl
  | [b] => rfl
  | b :: c :: r =>
    rw [undot, if_neg]
    rintro ⟨rfl, rfl, rfl⟩
    simp [List.isPrefixOf] at h
theorem undot_take (t : List UInt8) (i : Nat) (h : Lib.NoOcc t [37, 50, 101] i) (hi : i ≤ t.length) : undot t = t.take i ++ undot (t.drop i) := by
  induction i generalizing t with
  | zero => simp
  | succ i ih =>
    cases t with
    | nil => simp at hi
    | cons a r =>
      have h0 : [37, 50, 101].isPrefixOf (a :: r) = false := by simpa [Lib.occAt] using h 0 (by omega)
      rw [undot_miss a r h0, ih r (fun j hj => by simpa [Lib.occAt] using h (j + 1) (by omega)) (by simpa using hi)]
      rfl
theorem occ_drop (t : List UInt8) (i : Nat) (h : Lib.occAt t [37, 50, 101] i = true) : t.drop i = 37 :: 50 :: 101 :: t.drop (i + 3) := by
  unfold Lib.occAt at h
  rw [List.isPrefixOf_iff_prefix] at h
  obtain ⟨r, hr⟩ := h
  rw [← List.drop_drop, ← hr]
  rfl
theorem undot_none (t : List UInt8) (h : ∀ j, j ≤ t.length → Lib.occAt t [37, 50, 101] j = false) : undot t = t := by
  have := undot_take t t.length (fun j hj => h j (by omega)) (Nat.le_refl _)
  rw [this, List.take_length, List.drop_length]
  simp [undot]
theorem replaceK_undot : ∀ (n : Nat) (t : List UInt8) (k : Nat), t.length ≤ n → Lib.countFrom [37, 50, 101] (t.length + 1) t ≤ k → Lib.replaceK [37, 50, 101] [46] k t = undot t
  | n, t, k, hn, hk => by
    rcases Lib.index_spec t [37, 50, 101] with ⟨h1, h2⟩ | ⟨i, h1, h2, h3, h4⟩
    · rw [undot_none t h2]
      cases k with
      | zero => rfl
      | succ k => rw [Lib.replaceK, h1]; rfl
    · have hd := occ_drop t i h3
      have hl : i + 3 ≤ t.length := by
        have := congrArg List.length hd
        simp at this
        omega
      have hu : undot t = t.take i ++ [46] ++ undot (t.drop (i + 3)) := by
        rw [undot_take t i h4 h2, hd, undot_hit]
        simp
      cases n with
      | zero => omega
      | succ n =>
        rw [Lib.countFrom, h1] at hk
        have hne : ((i : Int) == -1) = false := by rw [beq_eq_false_iff_ne]; omega
        rw [hne] at hk
        simp only [Bool.false_eq_true, if_false, Int.toNat_natCast] at hk
        change 1 + Lib.countFrom [37, 50, 101] t.length (t.drop (i + 3)) ≤ k at hk
        cases k with
        | zero => omega
        | succ k =>
          rw [Lib.replaceK_hit _ _ _ _ i h1, hu]
          congr 1
          refine replaceK_undot n (t.drop (i + 3)) k (by rw [List.length_drop]; omega) ?_
          have hm : Lib.countFrom [37, 50, 101] ((t.drop (i + 3)).length + 1) (t.drop (i + 3)) = Lib.countFrom [37, 50, 101] t.length (t.drop (i + 3)) := count_fuel _ _ _ (Nat.lt_succ_self _) (by rw [List.length_drop]; omega)
          rw [hm]
          omega
where
  count_fuel (t : List UInt8) : ∀ (f g : Nat), t.length < f → t.length < g → Lib.countFrom [37, 50, 101] f t = Lib.countFrom [37, 50, 101] g t
  | 0, _, h, _ => by omega
  | _ + 1, 0, _, h => by omega
  | f + 1, g + 1, hf, hg => by
    rw [Lib.countFrom, Lib.countFrom]
    rcases Lib.index_spec t [37, 50, 101] with ⟨h1, _⟩ | ⟨i, h1, h2, h3, h4⟩
    · rw [h1]; rfl
    · have hd := occ_drop t i h3
      have hl : i + 3 ≤ t.length := by
        have := congrArg List.length hd
        simp at this
        omega
      rw [h1]
      split
      · rfl
      · congr 1
        exact count_fuel _ f g (by simp; omega) (by simp; omega)
theorem replaceAll_undot (t : List UInt8) : Lib.replaceAll t [37, 50, 101] [46] = undot t := by
  unfold Lib.replaceAll Lib.replace Lib.replaceNum
  rw [if_neg (by decide), if_pos (.inl (by decide))]
  exact replaceK_undot t.length t _ (Nat.le_refl _) (Nat.le_refl _)
theorem lowerC_46 : ∀ c : UInt8, Asc.lowerC c = 46 ↔ c = 46 := Pct.bytes (by decide +kernel)
theorem lowerC_37 : ∀ c : UInt8, Asc.lowerC c = 37 → c ≠ 46 := Pct.bytes (by decide +kernel)
theorem undot_cnt : ∀ (m : Nat) (l : List UInt8) (n : Nat), l.length ≤ m → (undot (Asc.lower l) = List.replicate n 46 ↔ cnt l = some n)
  | _, [], n, _ => by
    cases n with
    | zero => simp [undot, cnt, Asc.lower]
    | succ n => simp [undot, cnt, Asc.lower, List.replicate]
  | 0, a :: r, n, h => by simp at h
  | m + 1, a :: r, n, h => by
    by_cases ha : a = 46
    · subst ha
      have hp : [37, 50, 101].isPrefixOf (Asc.lower (46 :: r)) = false := by simp [Asc.lower, List.isPrefixOf]; intro h37; exact absurd h37 (by decide)
      have : undot (Asc.lower (46 :: r)) = 46 :: undot (Asc.lower r) := undot_miss _ _ hp
      rw [this, cnt_dot]
      cases n with
      | zero => cases cnt r <;> simp
      | succ n =>
        have ih := undot_cnt m r n (by simpa using h)
        rw [List.replicate_succ, List.cons.injEq]
        simp only [true_and]
        rw [ih]
        cases cnt r <;> simp
    · by_cases hh : Asc.lower ((a :: r).take 3) = [37, 50, 101]
      · match r with
        | [] => simp [Asc.lower] at hh
        | [b] => simp [Asc.lower] at hh
        | b :: c :: r =>
          simp [Asc.lower] at hh
          obtain ⟨h1, h2, h3⟩ := hh
          rw [cnt_mark a b c r ha ⟨h1, h2, h3⟩]
          have : undot (Asc.lower (a :: b :: c :: r)) = 46 :: undot (Asc.lower r) := by
            show undot (Asc.lowerC a :: Asc.lowerC b :: Asc.lowerC c :: Asc.lower r) = _
            rw [h1, h2, h3, undot_hit]
          rw [this]
          cases n with
          | zero => cases cnt r <;> simp
          | succ n =>
            have ih := undot_cnt m r n (by simp at h; omega)
            rw [List.replicate_succ, List.cons.injEq]
            simp only [true_and]
            rw [ih]
            cases cnt r <;> simp
      · rw [cnt_none a r ha hh]
        have hp : [37, 50, 101].isPrefixOf (Asc.lowerC a :: Asc.lower r) = false := by
          rw [Bool.eq_false_iff]
          intro hp
          apply hh
          rw [List.isPrefixOf_iff_prefix] at hp
          obtain ⟨t, ht⟩ := hp
          have : Asc.lower ((a :: r).take 3) = (Asc.lowerC a :: Asc.lower r).take 3 := by
            show ((a :: r).take 3).map Asc.lowerC = _
            rw [List.map_take]
            rfl
          rw [this, ← ht]
          rfl
        have : undot (Asc.lower (a :: r)) = Asc.lowerC a :: undot (Asc.lower r) := undot_miss _ _ hp
        rw [this]
        constructor
        · intro e
          cases n with
          | zero => simp at e
          | succ n =>
            rw [List.replicate_succ, List.cons.injEq] at e
            exact absurd ((lowerC_46 a).1 e.1) ha
        · intro e
          cases e
/-- The program's dots. -/
theorem dots_undot (l : List UInt8) : dots l = if undot (Asc.lower l) = [46] then 1 else if undot (Asc.lower l) = [46, 46] then 2 else 0 := by
  have h1 := undot_cnt l.length l 1 (Nat.le_refl _)
  have h2 := undot_cnt l.length l 2 (Nat.le_refl _)
  have e1 : List.replicate 1 (46 : UInt8) = [46] := rfl
  have e2 : List.replicate 2 (46 : UInt8) = [46, 46] := rfl
  rw [e1] at h1
  rw [e2] at h2
  unfold dots
  by_cases c1 : undot (Asc.lower l) = [46]
  · rw [if_pos c1, h1.1 c1]; rfl
  · rw [if_neg c1]
    by_cases c2 : undot (Asc.lower l) = [46, 46]
    · rw [if_pos c2, h2.1 c2]; rfl
    · rw [if_neg c2]
      have n1 : cnt l ≠ some 1 := fun e => c1 (h1.2 e)
      have n2 : cnt l ≠ some 2 := fun e => c2 (h2.2 e)
      split
      · contradiction
      · contradiction
      · rfl
end Url
/- Plain functions: the parts of a path that are kept, and the path. -/
namespace Url
open Go
/-- One part more. -/
def pstep (k : List (List UInt8)) (p : List UInt8) (last : Bool) : List (List UInt8) :=
  if dots p = 0 then k ++ [p] else (if dots p = 2 then k.dropLast else k) ++ (if last then [[]] else [])
def fold (ps : List (List UInt8)) : List (List UInt8) := ps.foldl (fun k p => pstep k p false) []
/-- The parts that are kept of the first n ones. -/
def st (ps : List (List UInt8)) (n : Nat) : List (List UInt8) :=
  if n < ps.length then fold (ps.take n) else pstep (fold ps.dropLast) (ps.getLast?.getD []) true
def kept (ps : List (List UInt8)) : List (List UInt8) := st ps ps.length
def pparts (l : List UInt8) : List (List UInt8) := Asc.split (Pct.mark freeP (Lib.trimPrefix (Pct.turned l 92 47) [47])) 47
def path (l : List UInt8) : List UInt8 := 47 :: Lib.join (kept (pparts l)) [47]
theorem st_zero (ps : List (List UInt8)) (h : ps ≠ []) : st ps 0 = [] := by
  unfold st
  rw [if_pos (List.length_pos_iff.2 h)]
  rfl
theorem last_at (ps : List (List UInt8)) (k : Nat) (h : k < ps.length) (hl : k + 1 = ps.length) : ps.getLast?.getD [] = ps[k] ∧ ps.dropLast = ps.take k := by
  refine ⟨?_, ?_⟩
  · rw [List.getLast?_eq_getElem?, List.getElem?_eq_getElem (by omega)]
    simp only [Option.getD_some]
    congr 1
    omega
  · rw [List.dropLast_eq_take, ← hl]
    rfl
theorem st_next (ps : List (List UInt8)) (k : Nat) (h : k < ps.length) : st ps (k + 1) = pstep (st ps k) ps[k] (decide (k + 1 = ps.length)) := by
  by_cases hl : k + 1 = ps.length
  · obtain ⟨h1, h2⟩ := last_at ps k h hl
    unfold st
    rw [if_neg (by omega), if_pos h, h1, h2, decide_eq_true hl]
  · unfold st
    rw [if_pos (by omega), if_pos h, decide_eq_false hl]
    unfold fold
    rw [List.take_succ_eq_append_getElem h, List.foldl_append]
    rfl
theorem st_len (ps : List (List UInt8)) (hne : ps ≠ []) : ∀ k, k ≤ ps.length → (st ps k).length ≤ k
  | 0, _ => by rw [st_zero ps hne]; simp
  | k + 1, h => by
    have ih := st_len ps hne k (by omega)
    rw [st_next ps k (by omega)]
    unfold pstep
    split
    · simp; omega
    · have h1 : (if dots ps[k] = 2 then (st ps k).dropLast else st ps k).length ≤ k := by
        split
        · simp; omega
        · exact ih
      have h2 : (if decide (k + 1 = ps.length) = true then [([] : List UInt8)] else []).length ≤ 1 := by split <;> simp
      rw [List.length_append]
      omega
/-- What is kept was a part, or is empty. -/
theorem mem_pstep {k : List (List UInt8)} {p : List UInt8} {b : Bool} {x : List UInt8} (h : x ∈ pstep k p b) : x ∈ k ∨ (x = p ∧ dots p = 0) ∨ x = [] := by
  unfold pstep at h
  split at h
  · rename_i hd
    rw [List.mem_append, List.mem_singleton] at h
    rcases h with h | h
    · exact .inl h
    · exact .inr (.inl ⟨h, hd⟩)
  · rw [List.mem_append] at h
    rcases h with h | h
    · split at h
      · exact .inl ((List.dropLast_sublist _).subset h)
      · exact .inl h
    · split at h
      · exact .inr (.inr (by simpa using h))
      · simp at h
theorem mem_st (ps : List (List UInt8)) (hne : ps ≠ []) : ∀ k, k ≤ ps.length → ∀ x ∈ st ps k, (x ∈ ps ∨ x = []) ∧ dots x = 0
  | 0, _, x, hx => by rw [st_zero ps hne] at hx; simp at hx
  | k + 1, h, x, hx => by
    rw [st_next ps k (by omega)] at hx
    rcases mem_pstep hx with h1 | ⟨h1, h2⟩ | h1
    · exact mem_st ps hne k (by omega) x h1
    · subst h1
      exact ⟨.inl (List.getElem_mem _), h2⟩
    · subst h1
      exact ⟨.inr rfl, rfl⟩
theorem kept_ne (ps : List (List UInt8)) (hne : ps ≠ []) : kept ps ≠ [] := by
  have hl := List.length_pos_iff.2 hne
  unfold kept
  have := st_next ps (ps.length - 1) (by omega)
  rw [show ps.length - 1 + 1 = ps.length by omega, decide_eq_true rfl] at this
  rw [this]
  unfold pstep
  split
  · simp
  · simp
/-- Parts of which none is dots are kept. -/
theorem st_plain (ps : List (List UInt8)) (hne : ps ≠ []) (h : ∀ p ∈ ps, dots p = 0) : ∀ k, k ≤ ps.length → st ps k = ps.take k
  | 0, _ => by rw [st_zero ps hne]; simp
  | k + 1, hk => by
    rw [st_next ps k (by omega), st_plain ps hne h k (by omega), List.take_succ_eq_append_getElem (by omega)]
    unfold pstep
    rw [if_pos (h _ (List.getElem_mem _))]
theorem kept_plain (ps : List (List UInt8)) (hne : ps ≠ []) (h : ∀ p ∈ ps, dots p = 0) : kept ps = ps := by
  unfold kept
  rw [st_plain ps hne h _ (Nat.le_refl _), List.take_length]
theorem pparts_ne (l : List UInt8) : pparts l ≠ [] := by
  have := Asc.split_pos 47 (Pct.mark freeP (Lib.trimPrefix (Pct.turned l 92 47) [47]))
  intro h
  unfold pparts at h
  rw [h] at this
  simp at this
/-- What holds of each byte of a text holds of each byte of its parts. -/
theorem split_mem (b : UInt8) (l : List UInt8) : ∀ p ∈ Asc.split l b, ∀ c ∈ p, c ∈ l := by
  have key : ∀ l : List UInt8, (∀ p ∈ (Asc.sst b l).1, ∀ c ∈ p, c ∈ l) ∧ ∀ c ∈ (Asc.sst b l).2, c ∈ l := by
    intro l
    refine Asc.snoc_ind (P := fun l => (∀ p ∈ (Asc.sst b l).1, ∀ c ∈ p, c ∈ l) ∧ ∀ c ∈ (Asc.sst b l).2, c ∈ l) ?_ ?_ l
    · simp [Asc.sst]
    · intro l x ih
      rw [Asc.sst_snoc]
      unfold Asc.sstep
      split
      · refine ⟨fun p hp c hc => ?_, by simp⟩
        rw [List.mem_append, List.mem_singleton] at hp
        rw [List.mem_append]
        rcases hp with hp | hp
        · exact .inl (ih.1 p hp c hc)
        · subst hp; exact .inl (ih.2 c hc)
      · refine ⟨fun p hp c hc => List.mem_append.2 (.inl (ih.1 p hp c hc)), fun c hc => ?_⟩
        rw [List.mem_append] at hc ⊢
        rcases hc with hc | hc
        · exact .inl (ih.2 c hc)
        · exact .inr hc
  intro p hp c hc
  unfold Asc.split at hp
  rw [List.mem_append, List.mem_singleton] at hp
  rcases hp with hp | hp
  · exact (key l).1 p hp c hc
  · subst hp; exact (key l).2 c hc
theorem turned_92 (l : List UInt8) : ∀ c ∈ Pct.turned l 92 47, c ≠ 92 := by
  intro c hc
  unfold Pct.turned at hc
  rw [List.mem_map] at hc
  obtain ⟨x, _, rfl⟩ := hc
  split
  · decide
  · assumption
theorem trimPrefix_mem (l p : List UInt8) : ∀ c ∈ Lib.trimPrefix l p, c ∈ l := by
  intro c hc
  unfold Lib.trimPrefix at hc
  split at hc
  · exact List.mem_of_mem_drop hc
  · exact hc
theorem mark_92 (l : List UInt8) (h : ∀ c ∈ l, c ≠ 92) : ∀ b ∈ Pct.mark freeP l, b ≠ 92 := by
  intro b hb
  unfold Pct.mark at hb
  rw [List.mem_flatMap] at hb
  obtain ⟨c, hc, hb⟩ := hb
  cases hs : Pct.stays freeP c
  · rw [Pct.one_no hs] at hb
    rcases mk_bytes c b hb with rfl | h1 | h1
    · decide
    · rintro rfl; simp at h1
    · rintro rfl; simp at h1
  · rw [Pct.one_yes hs, List.mem_singleton] at hb
    rw [hb]
    exact h c hc
/-- The bytes of what is kept of a path's text. -/
theorem kept_bytes (l : List UInt8) : ∀ p ∈ kept (pparts l), dots p = 0 ∧ ∀ c ∈ p, c ≠ 47 ∧ c ≠ 92 ∧ Pct.stays freeP c = true := by
  intro p hp
  obtain ⟨h1, h2⟩ := mem_st (pparts l) (pparts_ne l) _ (Nat.le_refl _) p hp
  refine ⟨h2, ?_⟩
  rcases h1 with h1 | h1
  · intro c hc
    have hm := split_mem 47 _ p h1 c hc
    exact ⟨Asc.split_free 47 _ p h1 c hc, mark_92 _ (fun x hx => turned_92 l x (trimPrefix_mem _ _ x hx)) c hm, mark_stay freeP (by decide) _ c hm⟩
  · subst h1; simp
theorem join_mem (ts : List (List UInt8)) (b : UInt8) : ∀ c ∈ Lib.join ts [b], c = b ∨ ∃ t ∈ ts, c ∈ t := by
  refine Asc.snoc_ind (P := fun ts => ∀ c ∈ Lib.join ts [b], c = b ∨ ∃ t ∈ ts, c ∈ t) ?_ ?_ ts
  · intro c hc; rw [Lib.join_nil] at hc; simp at hc
  · intro ts t ih c hc
    rw [Asc.join_snoc] at hc
    split at hc
    · exact .inr ⟨t, by simp, hc⟩
    · rw [List.mem_append, List.mem_append, List.mem_singleton] at hc
      rcases hc with (hc | hc) | hc
      · rcases ih c hc with h | ⟨x, hx, hc⟩
        · exact .inl h
        · exact .inr ⟨x, by simp [hx], hc⟩
      · exact .inl hc
      · exact .inr ⟨t, by simp, hc⟩
/-- The bytes of a path. -/
theorem path_bytes (l : List UInt8) : ∀ c ∈ path l, c ≠ 92 ∧ Pct.stays freeP c = true := by
  intro c hc
  unfold path at hc
  rw [List.mem_cons] at hc
  have h47 : (47 : UInt8) ≠ 92 ∧ Pct.stays freeP 47 = true := by decide
  rcases hc with rfl | hc
  · exact h47
  · rcases join_mem _ _ c hc with rfl | ⟨t, ht, hc⟩
    · exact h47
    · exact ((kept_bytes l t ht).2 c hc).2
theorem turned_self (l : List UInt8) (h : ∀ c ∈ l, c ≠ 92) : Pct.turned l 92 47 = l := by
  unfold Pct.turned
  conv => rhs; rw [← List.map_id l]
  apply List.map_congr_left
  intro c hc
  rw [if_neg (h c hc)]
  rfl
theorem pparts_path (l : List UInt8) : pparts (path l) = kept (pparts l) := by
  have hb := path_bytes l
  unfold pparts
  rw [turned_self _ (fun c hc => (hb c hc).1)]
  have h1 : Lib.trimPrefix (path l) [47] = Lib.join (kept (pparts l)) [47] := by
    unfold Lib.trimPrefix Lib.hasPrefix path
    rw [if_pos (by simp [List.isPrefixOf])]
    rfl
  rw [h1, mark_self _ _ (fun b hb' => (hb b (by unfold path; exact List.mem_cons_of_mem _ hb')).2)]
  exact Pct.split_join 47 _ (fun t ht c hc => ((kept_bytes l t ht).2 c hc).1) (kept_ne _ (pparts_ne l))
theorem path_path (l : List UInt8) : path (path l) = path l := by
  show 47 :: Lib.join (kept (pparts (path l))) [47] = path l
  rw [pparts_path, kept_plain _ (kept_ne _ (pparts_ne l)) (fun p hp => (kept_bytes l p hp).1)]
  rfl
theorem mark_lens (free : List UInt8) (l : List UInt8) : (Pct.mark free l).length ≤ 3 * l.length := Pct.mark_len free l
theorem pparts_count (l : List UInt8) : (pparts l).length ≤ 3 * l.length + 1 := by
  have h1 := Asc.split_len 47 (Pct.mark freeP (Lib.trimPrefix (Pct.turned l 92 47) [47]))
  have h2 := Pct.mark_len freeP (Lib.trimPrefix (Pct.turned l 92 47) [47])
  have h3 : (Lib.trimPrefix (Pct.turned l 92 47) [47]).length ≤ l.length := by
    unfold Lib.trimPrefix
    split
    · simp [Pct.turned]
    · simp [Pct.turned]
  unfold pparts
  omega
theorem lens_dropLast (k : List (List UInt8)) : Lib.lens k.dropLast ≤ Lib.lens k := by
  refine Asc.snoc_ind (P := fun k => Lib.lens k.dropLast ≤ Lib.lens k) ?_ ?_ k
  · simp
  · intro k t _
    rw [List.dropLast_concat, Asc.lens_snoc]
    omega
theorem lens_pstep (k : List (List UInt8)) (p : List UInt8) (b : Bool) : Lib.lens (pstep k p b) ≤ Lib.lens k + p.length := by
  have h := lens_dropLast k
  unfold pstep
  split
  · rw [Asc.lens_snoc]; omega
  · have h0 : ∀ x : List (List UInt8), Lib.lens (x ++ if b = true then [[]] else []) = Lib.lens x := by
      intro x
      split
      · rw [Asc.lens_snoc]; rfl
      · rw [List.append_nil]
    rw [h0]
    split <;> omega
theorem lens_take (ps : List (List UInt8)) (k : Nat) (h : k < ps.length) : Lib.lens (ps.take (k + 1)) = Lib.lens (ps.take k) + ps[k].length := by
  rw [List.take_succ_eq_append_getElem h, Asc.lens_snoc]
theorem st_lens (ps : List (List UInt8)) (hne : ps ≠ []) : ∀ k, k ≤ ps.length → Lib.lens (st ps k) ≤ Lib.lens (ps.take k)
  | 0, _ => by rw [st_zero ps hne]; simp [Lib.lens]
  | k + 1, h => by
    have ih := st_lens ps hne k (by omega)
    rw [st_next ps k (by omega), lens_take ps k (by omega)]
    exact Nat.le_trans (lens_pstep _ _ _) (by omega)
theorem split_lens (b : UInt8) (l : List UInt8) : Lib.lens (Asc.split l b) ≤ l.length := by
  have key : ∀ l : List UInt8, Lib.lens (Asc.sst b l).1 + (Asc.sst b l).2.length ≤ l.length := by
    intro l
    refine Asc.snoc_ind (P := fun l => Lib.lens (Asc.sst b l).1 + (Asc.sst b l).2.length ≤ l.length) ?_ ?_ l
    · simp [Asc.sst, Lib.lens]
    · intro l c ih
      rw [Asc.sst_snoc]
      unfold Asc.sstep
      split
      · rw [Asc.lens_snoc]; simp; omega
      · simp; omega
  unfold Asc.split
  rw [Asc.lens_snoc]
  exact key l
theorem kept_size (l : List UInt8) : (Lib.join (kept (pparts l)) [47]).length ≤ 6 * l.length + 1 := by
  have h1 := Asc.join_len (kept (pparts l)) [47]
  have h2 := st_len (pparts l) (pparts_ne l) _ (Nat.le_refl _)
  have h3 := st_lens (pparts l) (pparts_ne l) _ (Nat.le_refl _)
  rw [List.take_length] at h3
  have h4 := pparts_count l
  have h5 := split_lens 47 (Pct.mark freeP (Lib.trimPrefix (Pct.turned l 92 47) [47]))
  have h6 := Pct.mark_len freeP (Lib.trimPrefix (Pct.turned l 92 47) [47])
  have h7 : (Lib.trimPrefix (Pct.turned l 92 47) [47]).length ≤ l.length := by
    unfold Lib.trimPrefix
    split
    · simp [Pct.turned]
    · simp [Pct.turned]
  unfold pparts at h3 h4 h2 h1 ⊢
  unfold kept at h1 ⊢
  simp only [List.length_cons, List.length_nil] at h1
  omega
end Url
/- Plain functions: names of hosts, URLs of texts, texts of URLs. -/
namespace Url
open Go
structure U where
  sch : List UInt8
  host : List UInt8
  port : Int
  path : List UInt8
  query : List UInt8
  frag : List UInt8
  hq : Bool
  hf : Bool
def zero : U := ⟨[], [], 0, [], [], [], false, false⟩
def http : List UInt8 := [104, 116, 116, 112]
def https : List UInt8 := [104, 116, 116, 112, 115]
def isLet (c : UInt8) : Bool := decide ((65 ≤ c.toNat ∧ c.toNat ≤ 90) ∨ (97 ≤ c.toNat ∧ c.toNat ≤ 122))
def isDig (c : UInt8) : Bool := decide (48 ≤ c.toNat ∧ c.toNat ≤ 57)
def schB (c : UInt8) : Bool := c == 43 || c == 45 || c == 46 || isLet c || isDig c
def isScheme (s : List UInt8) : Bool := s.all schB && (match s with | [] => false | c :: _ => isLet c)
/-- What stands ahead of the first byte of some; and from it on. -/
def upto (e l : List UInt8) : List UInt8 := l.takeWhile fun c => !e.contains c
def rest (e l : List UInt8) : List UInt8 := l.dropWhile fun c => !e.contains c
def hasB (b : UInt8) (l : List UInt8) : Bool := l.head? == some b
def nameB (c : UInt8) : Bool := decide (97 ≤ c.toNat ∧ c.toNat ≤ 122) || isDig c || c == 45 || c == 95
def isLabel (p : List UInt8) : Bool := p.all nameB && decide (1 ≤ p.length ∧ p.length ≤ 63)
def isByte (p : List UInt8) : Bool := decide (Asc.numErr p 255 = 0) && decide (Lib.itoa (Asc.numNum p 255) = p)
def isAddr (ps : List (List UInt8)) : Bool := ps.all isByte && decide (ps.length = 4)
def lastP (ps : List (List UInt8)) : List UInt8 := ps.getLast?.getD []
def isName (h : List UInt8) : Bool := decide (h.length ≤ 253) && ((Asc.split h 46).all isLabel && (!Asc.digForm (lastP (Asc.split h 46)) || isAddr (Asc.split h 46)))
def hostT (l : List UInt8) : List UInt8 := Asc.lower (Pct.unmark l)
def hostE (l : List UInt8) : Int := if hostT l = [] then 4 else if isName (hostT l) = true then 0 else 17
def host (l : List UInt8) : List UInt8 := if hostE l = 0 then hostT l else []
def own (s : List UInt8) : Int := if s = https then 443 else 80
def portE (d : List UInt8) : Int := if d = [] ∨ Asc.numErr d 65535 = 0 then 0 else 3
def port (s d : List UInt8) : Int := if d = [] then 0 else if Asc.numNum d 65535 = own s then 0 else Asc.numNum d 65535
def str (u : U) : List UInt8 :=
  u.sch ++ [58, 47, 47] ++ u.host ++ (if u.port ≠ 0 then 58 :: Lib.itoa u.port else []) ++ u.path ++ (if u.hq = true then 63 :: u.query else []) ++ (if u.hf = true then 35 :: u.frag else [])
/-- What is left behind the query. -/
def behind (l : List UInt8) : List UInt8 := if hasB 63 (rest [63, 35] l) = true then rest [35] ((rest [63, 35] l).drop 1) else rest [63, 35] l
def tail (u : U) (l : List UInt8) : U :=
  { sch := u.sch, host := u.host, port := u.port, path := path (upto [63, 35] l),
    query := if hasB 63 (rest [63, 35] l) = true then Pct.mark freeQ (upto [35] ((rest [63, 35] l).drop 1)) else [],
    frag := if hasB 35 (behind l) = true then Pct.mark freeF ((behind l).drop 1) else [],
    hq := hasB 63 (rest [63, 35] l), hf := hasB 35 (behind l) }
/-- The scheme of a text, its error, and what is left behind it. -/
def sch (c : List UInt8) : List UInt8 := Asc.lower (upto [58] c)
def schE (c : List UInt8) : Int := if hasB 58 (rest [58] c) = true ∧ isScheme (sch c) = true then (if sch c = http ∨ sch c = https then 0 else 16) else 3
def schR (c : List UInt8) : List UInt8 := (rest [58] c).drop 1
/-- The place behind it. -/
def unsl (r : List UInt8) : List UInt8 := r.dropWhile slash
def place (r : List UInt8) : List UInt8 := upto [47, 92, 63, 35] (unsl r)
def placeR (r : List UInt8) : List UInt8 := rest [47, 92, 63, 35] (unsl r)
def nameT (r : List UInt8) : List UInt8 := upto [58] (place r)
def portT (r : List UInt8) : List UInt8 := (rest [58] (place r)).drop 1
def placeE (r : List UInt8) : Int :=
  if (unsl r).length = r.length then 3 else if (place r).contains 64 = true then 3 else if hostE (nameT r) ≠ 0 then hostE (nameT r) else portE (portT r)
def put (s r : List UInt8) : U := { zero with sch := s, host := host (nameT r), port := port s (portT r) }
def whole (c : List UInt8) : U := tail (put (sch c) (schR c)) (placeR (schR c))
def perr (l : List UInt8) : Int :=
  if 2048 < (clean l).length then 5 else if schE (clean l) ≠ 0 then schE (clean l) else if placeE (schR (clean l)) ≠ 0 then placeE (schR (clean l)) else if 2048 < (str (whole (clean l))).length then 5 else 0
def parse (l : List UInt8) : U := if perr l = 0 then whole (clean l) else zero
def bare (u : U) : U := { u with frag := [], hf := false }
def origin (u : U) : List UInt8 := str { zero with sch := u.sch, host := u.host, port := u.port }
def same (a b : U) : Bool := a.sch == b.sch && a.host == b.host && a.port == b.port && a.path == b.path && a.query == b.query && a.frag == b.frag && a.hq == b.hq && a.hf == b.hf
def may (u : U) : Bool := decide (perr (str u) = 0) && same (parse (str u)) u
theorem same_iff (a b : U) : same a b = true ↔ a = b := by
  cases a; cases b
  simp only [same, Bool.and_eq_true, beq_iff_eq, U.mk.injEq]
  constructor
  · rintro ⟨⟨⟨⟨⟨⟨⟨h1, h2⟩, h3⟩, h4⟩, h5⟩, h6⟩, h7⟩, h8⟩; exact ⟨h1, h2, h3, h4, h5, h6, h7, h8⟩
  · rintro ⟨h1, h2, h3, h4, h5, h6, h7, h8⟩; exact ⟨⟨⟨⟨⟨⟨⟨h1, h2⟩, h3⟩, h4⟩, h5⟩, h6⟩, h7⟩, h8⟩
theorem same_self (a : U) : same a a = true := (same_iff a a).2 rfl
theorem upto_rest (e l : List UInt8) : upto e l ++ rest e l = l := List.takeWhile_append_dropWhile
theorem upto_not (e l : List UInt8) : ∀ c ∈ upto e l, e.contains c = false := by
  induction l with
  | nil => intro c hc; simp [upto] at hc
  | cons x t ih =>
    intro c hc
    unfold upto at ih hc
    rw [List.takeWhile_cons] at hc
    cases hx : e.contains x
    · rw [hx] at hc
      rw [if_pos (by rfl), List.mem_cons] at hc
      rcases hc with rfl | hc
      · exact hx
      · exact ih c hc
    · rw [hx] at hc
      simp at hc
theorem rest_head (e l : List UInt8) : ∀ c, (rest e l).head? = some c → e.contains c = true := by
  intro c h
  have := List.head?_dropWhile_not (fun c => !e.contains c) l
  unfold rest at h
  rw [h] at this
  simpa using this
theorem upto_of (e a b : List UInt8) (h : ∀ c ∈ a, e.contains c = false) (hb : ∀ c, b.head? = some c → e.contains c = true) : upto e (a ++ b) = a ∧ rest e (a ++ b) = b := by
  unfold upto rest
  induction a with
  | nil =>
    cases b with
    | nil => exact ⟨rfl, rfl⟩
    | cons x t =>
      have hx := hb x rfl
      simp only [List.nil_append, List.takeWhile_cons, List.dropWhile_cons, hx]
      simp
  | cons x t ih =>
    have hx := h x (List.mem_cons_self ..)
    have := ih (fun c hc => h c (List.mem_cons_of_mem _ hc))
    simp only [List.cons_append, List.takeWhile_cons, List.dropWhile_cons, hx, Bool.not_false, if_true, this]
    exact ⟨trivial, trivial⟩
theorem rest_len (e l : List UInt8) : (rest e l).length ≤ l.length := (List.dropWhile_sublist _).length_le
theorem upto_len (e l : List UInt8) : (upto e l).length ≤ l.length := (List.takeWhile_sublist _).length_le
/-- strings.IndexAny's number. -/
theorem index_cut (e : List UInt8) : ∀ l : List UInt8, (Lib.indexAny l e < 0 → upto e l = l ∧ rest e l = []) ∧ (0 ≤ Lib.indexAny l e → upto e l = l.take (Lib.indexAny l e).toNat ∧ rest e l = l.drop (Lib.indexAny l e).toNat ∧ Lib.indexAny l e < l.length)
  | [] => by simp [Lib.indexAny, upto, rest]
  | c :: l => by
    have ih := index_cut e l
    have hge := Lib.indexAny_ge e l
    unfold Lib.indexAny
    unfold upto rest at ih ⊢
    by_cases hc : e.contains c = true
    · rw [if_pos hc]
      simp only [List.takeWhile_cons, List.dropWhile_cons, hc]
      simp
    · have hc' : e.contains c = false := by simpa using hc
      rw [if_neg hc]
      simp only [List.takeWhile_cons, List.dropWhile_cons, hc', Bool.not_false, if_true]
      by_cases hm : Lib.indexAny l e = -1
      · have := ih.1 (by omega)
        rw [hm, this.1, this.2]
        refine ⟨fun _ => ⟨rfl, rfl⟩, fun h => ?_⟩
        rw [if_pos (by rfl)] at h
        omega
      · have hb : (Lib.indexAny l e == -1) = false := beq_eq_false_iff_ne.2 hm
        obtain ⟨h1, h2, h3⟩ := ih.2 (by omega)
        rw [hb]
        simp only [Bool.false_eq_true, if_false]
        refine ⟨fun h => by omega, fun _ => ?_⟩
        rw [show (Lib.indexAny l e + 1).toNat = (Lib.indexAny l e).toNat + 1 by omega, List.take_succ_cons, List.drop_succ_cons, h1, h2]
        refine ⟨rfl, rfl, ?_⟩
        simp only [List.length_cons]
        omega
end Url
/- Plain functions: what is parsed is a good URL; a good URL is parsed of its text. -/
namespace Url
open Go
theorem unmark_plain : ∀ l : List UInt8, (∀ c ∈ l, c ≠ 37) → Pct.unmark l = l
  | [], _ => Pct.unmark_nil
  | c :: r, h => by
    rw [Pct.unmark_go _ (by simp), Pct.first_other c r (h c (List.mem_cons_self ..))]
    show c :: Pct.unmark r = c :: r
    rw [unmark_plain r (fun x hx => h x (List.mem_cons_of_mem _ hx))]
/-- A URL as it is parsed. -/
structure Good (u : U) : Prop where
  sch : u.sch = http ∨ u.sch = https
  host : isName u.host = true
  port : 0 ≤ u.port ∧ u.port ≤ 65535 ∧ u.port ≠ own u.sch
  path : ∃ l, u.path = path l
  query : ∀ c ∈ u.query, Pct.stays freeQ c = true
  frag : ∀ c ∈ u.frag, Pct.stays freeF c = true
  noq : u.hq = false → u.query = []
  nof : u.hf = false → u.frag = []
  len : (str u).length ≤ 2048
theorem nameB_bytes {c : UInt8} (h : nameB c = true) : (97 ≤ c.toNat ∧ c.toNat ≤ 122) ∨ (48 ≤ c.toNat ∧ c.toNat ≤ 57) ∨ c.toNat = 45 ∨ c.toNat = 95 := by
  unfold nameB isDig at h
  simp only [Bool.or_eq_true, decide_eq_true_eq, beq_iff_eq] at h
  rcases h with ((h | h) | h) | h
  · exact .inl h
  · exact .inr (.inl h)
  · subst h; exact .inr (.inr (.inl rfl))
  · subst h; exact .inr (.inr (.inr rfl))
theorem name_bytes {h : List UInt8} (hn : isName h = true) : ∀ c ∈ h, nameB c = true ∨ c = 46 := by
  intro c hc
  unfold isName at hn
  simp only [Bool.and_eq_true] at hn
  have hl := List.all_eq_true.1 hn.2.1
  have hj := Asc.join_split 46 h
  rw [← hj] at hc
  rcases join_mem _ _ c hc with h1 | ⟨t, ht, hc⟩
  · exact .inr h1
  · have := hl t ht
    unfold isLabel at this
    simp only [Bool.and_eq_true] at this
    exact .inl (List.all_eq_true.1 this.1 c hc)
theorem name_ne {h : List UInt8} (hn : isName h = true) : h ≠ [] := by
  rintro rfl
  exact absurd hn (by decide)
theorem name_low {h : List UInt8} (hn : isName h = true) : ∀ c ∈ h, 45 ≤ c.toNat ∧ c.toNat ≤ 122 ∧ c.toNat ≠ 47 ∧ c.toNat ≠ 58 ∧ c.toNat ≠ 63 ∧ c.toNat ≠ 64 ∧ c.toNat ≠ 92 ∧ ¬ (65 ≤ c.toNat ∧ c.toNat ≤ 90) := by
  intro c hc
  rcases name_bytes hn c hc with h | rfl
  · have := nameB_bytes h
    omega
  · decide
theorem host_self {h : List UInt8} (hn : isName h = true) : hostT h = h := by
  have hb := name_low hn
  unfold hostT
  rw [unmark_plain h (fun c hc => by
    have := hb c hc
    rintro rfl
    simp at this)]
  unfold Asc.lower
  conv => rhs; rw [← List.map_id h]
  apply List.map_congr_left
  intro c hc
  have := hb c hc
  unfold Asc.lowerC
  rw [if_neg (by
    intro h
    have h1 : (65 : UInt8).toNat ≤ c.toNat := h.1
    have h2 : c.toNat ≤ (90 : UInt8).toNat := h.2
    have e1 : (65 : UInt8).toNat = 65 := rfl
    have e2 : (90 : UInt8).toNat = 90 := rfl
    omega)]
  rfl
theorem itoa_digits (n : Int) (h : 0 ≤ n) : Lib.itoa n = Lib.decDigits n.toNat ∧ Asc.allDig (Lib.itoa n) = true ∧ Lib.itoa n ≠ [] := by
  have e : Lib.itoa n = Lib.decDigits n.toNat := by
    rw [Lib.itoa, if_neg (by omega)]
  have := Asc.dec_facts n.toNat
  rw [e]
  exact ⟨rfl, this.1, this.2.2⟩
theorem itoa_byte (n : Int) (h : 0 ≤ n) : ∀ c ∈ Lib.itoa n, 48 ≤ c.toNat ∧ c.toNat ≤ 57 := by
  intro c hc
  have := List.all_eq_true.1 (itoa_digits n h).2.1 c hc
  unfold Asc.isDig Asc.bt at this
  have := of_decide_eq_true this
  omega
theorem itoa_read (n : Int) (h : 0 ≤ n) (h2 : n ≤ 65535) : Asc.numNum (Lib.itoa n) 65535 = n ∧ Asc.numErr (Lib.itoa n) 65535 = 0 := by
  have := Asc.read_digits 0 n.toNat 65535 (by omega)
  rw [List.replicate_zero, List.nil_append, ← (itoa_digits n h).1] at this
  exact ⟨by rw [this.1]; omega, this.2⟩
theorem stays_sign {more free : List UInt8} (hs : ∀ c, Pct.stays free c = !marks more c) {c : UInt8} (h : Pct.stays free c = true) : 33 ≤ c.toNat ∧ c.toNat ≤ 126 ∧ more.contains c = false := by
  rw [hs] at h
  have hm : marks more c = false := by simpa using h
  unfold marks at hm
  simp only [Bool.or_eq_false_iff, decide_eq_false_iff_not] at hm
  exact ⟨by omega, by omega, hm.2⟩
theorem path_signs (l : List UInt8) : ∀ c ∈ path l, 33 ≤ c.toNat ∧ c.toNat ≤ 126 ∧ c ≠ 63 ∧ c ≠ 35 := by
  intro c hc
  obtain ⟨h1, h2, h3⟩ := stays_sign stays_P (path_bytes l c hc).2
  refine ⟨h1, h2, ?_, ?_⟩
  · rintro rfl; exact absurd h3 (by decide)
  · rintro rfl; exact absurd h3 (by decide)
def portP (u : U) : List UInt8 := if u.port ≠ 0 then 58 :: Lib.itoa u.port else []
def queryP (u : U) : List UInt8 := if u.hq = true then 63 :: u.query else []
def fragP (u : U) : List UInt8 := if u.hf = true then 35 :: u.frag else []
theorem str_parts (u : U) : str u = u.sch ++ (58 :: ([47, 47] ++ ((u.host ++ portP u) ++ (u.path ++ (queryP u ++ fragP u))))) := by
  unfold str portP queryP fragP
  simp
/-- The bytes of a good URL's text. -/
theorem good_signs {u : U} (g : Good u) : ∀ c ∈ str u, 33 ≤ c.toNat ∧ c.toNat ≤ 126 := by
  intro c hc
  rw [str_parts] at hc
  simp only [List.mem_append, List.mem_cons] at hc
  rcases hc with hc | rfl | hc | (hc | hc) | hc | hc | hc
  · rcases g.sch with h | h
    · rw [h] at hc
      exact (by decide : ∀ c ∈ http, 33 ≤ c.toNat ∧ c.toNat ≤ 126) c hc
    · rw [h] at hc
      exact (by decide : ∀ c ∈ https, 33 ≤ c.toNat ∧ c.toNat ≤ 126) c hc
  · decide
  · rcases hc with rfl | rfl | hc
    · decide
    · decide
    · simp at hc
  · have := name_low g.host c hc
    omega
  · unfold portP at hc
    split at hc
    · rw [List.mem_cons] at hc
      rcases hc with rfl | hc
      · decide
      · have := itoa_byte u.port g.port.1 c hc
        omega
    · simp at hc
  · obtain ⟨l, hl⟩ := g.path
    rw [hl] at hc
    have := path_signs l c hc
    omega
  · unfold queryP at hc
    split at hc
    · rw [List.mem_cons] at hc
      rcases hc with rfl | hc
      · decide
      · have := stays_sign stays_Q (g.query c hc)
        omega
    · simp at hc
  · unfold fragP at hc
    split at hc
    · rw [List.mem_cons] at hc
      rcases hc with rfl | hc
      · decide
      · have := stays_sign stays_F (g.frag c hc)
        omega
    · simp at hc
theorem notin {e : List UInt8} {c : UInt8} (h : ∀ x ∈ e, c ≠ x) : e.contains c = false := by
  rw [Bool.eq_false_iff]
  intro hc
  exact h c (List.contains_iff_mem.1 hc) rfl
theorem byte_ne {c x : UInt8} (h : c.toNat ≠ x.toNat) : c ≠ x := fun e => h (by rw [e])
/-- The steps of the parse of a good URL's text. -/
theorem good_sch {u : U} (g : Good u) : upto [58] (str u) = u.sch ∧ rest [58] (str u) = 58 :: ([47, 47] ++ ((u.host ++ portP u) ++ (u.path ++ (queryP u ++ fragP u)))) := by
  rw [str_parts]
  refine upto_of [58] _ _ ?_ ?_
  · rcases g.sch with h | h
    · rw [h]; decide
    · rw [h]; decide
  · intro c hc
    simp only [List.head?_cons, Option.some.injEq] at hc
    subst hc
    decide
theorem good_schE {u : U} (g : Good u) : schE (str u) = 0 ∧ sch (str u) = u.sch ∧ schR (str u) = [47, 47] ++ ((u.host ++ portP u) ++ (u.path ++ (queryP u ++ fragP u))) := by
  obtain ⟨h1, h2⟩ := good_sch g
  have hs : sch (str u) = u.sch := by
    unfold sch
    rw [h1]
    rcases g.sch with h | h
    · rw [h]; decide
    · rw [h]; decide
  refine ⟨?_, hs, ?_⟩
  · unfold schE
    rw [hs, h2, if_pos, if_pos g.sch]
    refine ⟨by simp [hasB], ?_⟩
    rcases g.sch with h | h
    · rw [h]; decide
    · rw [h]; decide
  · unfold schR
    rw [h2]
    rfl
theorem unsl_two (h t : List UInt8) (hh : ∀ c, h.head? = some c → slash c = false) (hn : h ≠ []) : unsl ([47, 47] ++ (h ++ t)) = h ++ t := by
  unfold unsl
  show ((47 : UInt8) :: 47 :: (h ++ t)).dropWhile slash = h ++ t
  rw [List.dropWhile_cons_of_pos (by decide), List.dropWhile_cons_of_pos (by decide)]
  cases h with
  | nil => exact absurd rfl hn
  | cons a r => rw [List.cons_append, List.dropWhile_cons_of_neg (by rw [hh a rfl]; decide)]
theorem portP_bytes {u : U} (g : Good u) : ∀ c ∈ portP u, 48 ≤ c.toNat ∧ c.toNat ≤ 58 := by
  intro c hc
  unfold portP at hc
  split at hc
  · rw [List.mem_cons] at hc
    rcases hc with rfl | hc
    · decide
    · have := itoa_byte u.port g.port.1 c hc
      omega
  · simp at hc
theorem good_place {u : U} (g : Good u) : unsl (schR (str u)) = (u.host ++ portP u) ++ (u.path ++ (queryP u ++ fragP u)) ∧ place (schR (str u)) = u.host ++ portP u ∧ placeR (schR (str u)) = u.path ++ (queryP u ++ fragP u) := by
  have hr := (good_schE g).2.2
  have hn := name_ne g.host
  have hu : unsl (schR (str u)) = (u.host ++ portP u) ++ (u.path ++ (queryP u ++ fragP u)) := by
    rw [hr]
    refine unsl_two _ _ (fun c hc => ?_) (by simp [hn])
    have hm : c ∈ u.host := by
      cases hh : u.host with
      | nil => exact absurd hh hn
      | cons a r => rw [hh] at hc; simp at hc; subst hc; simp
    have := name_low g.host c hm
    unfold slash
    rw [beq_eq_false_iff_ne.2 (byte_ne (by show c.toNat ≠ 47; omega)), beq_eq_false_iff_ne.2 (byte_ne (by show c.toNat ≠ 92; omega))]
    rfl
  have hp : upto [47, 92, 63, 35] ((u.host ++ portP u) ++ (u.path ++ (queryP u ++ fragP u))) = u.host ++ portP u ∧ rest [47, 92, 63, 35] ((u.host ++ portP u) ++ (u.path ++ (queryP u ++ fragP u))) = u.path ++ (queryP u ++ fragP u) := by
    refine upto_of _ _ _ (fun c hc => ?_) (fun c hc => ?_)
    · rw [List.mem_append] at hc
      have hh : c.toNat ≠ 47 ∧ c.toNat ≠ 92 ∧ c.toNat ≠ 63 ∧ c.toNat ≠ 35 := by
        rcases hc with hc | hc
        · have := name_low g.host c hc; omega
        · have := portP_bytes g c hc; omega
      apply notin
      intro x hx
      simp only [List.mem_cons, List.not_mem_nil, or_false] at hx
      rcases hx with rfl | rfl | rfl | rfl
      · exact byte_ne hh.1
      · exact byte_ne hh.2.1
      · exact byte_ne hh.2.2.1
      · exact byte_ne hh.2.2.2
    · obtain ⟨l, hl⟩ := g.path
      rw [hl] at hc
      unfold path at hc
      rw [List.cons_append, List.head?_cons] at hc
      cases hc
      decide
  unfold place placeR
  rw [hu]
  exact ⟨rfl, hp⟩
theorem good_name {u : U} (g : Good u) : nameT (schR (str u)) = u.host ∧ portT (schR (str u)) = (portP u).drop 1 := by
  have hpl := (good_place g).2.1
  have : upto [58] (u.host ++ portP u) = u.host ∧ rest [58] (u.host ++ portP u) = portP u := by
    refine upto_of _ _ _ (fun c hc => ?_) (fun c hc => ?_)
    · have := name_low g.host c hc
      apply notin
      intro x hx
      simp only [List.mem_cons, List.not_mem_nil, or_false] at hx
      subst hx
      exact byte_ne (by show c.toNat ≠ 58; omega)
    · unfold portP at hc
      split at hc
      · simp only [List.head?_cons, Option.some.injEq] at hc
        subst hc
        decide
      · simp at hc
  unfold nameT portT
  rw [hpl, this.1, this.2]
  exact ⟨rfl, rfl⟩
theorem good_host {u : U} (g : Good u) : hostE u.host = 0 ∧ host u.host = u.host := by
  have hs := host_self g.host
  have h0 : hostE u.host = 0 := by
    unfold hostE
    rw [hs, if_neg (name_ne g.host), if_pos g.host]
  refine ⟨h0, ?_⟩
  unfold host
  rw [h0, if_pos rfl, hs]
theorem good_port {u : U} (g : Good u) : portE ((portP u).drop 1) = 0 ∧ port u.sch ((portP u).drop 1) = u.port := by
  unfold portP
  by_cases hp : u.port = 0
  · rw [if_neg (fun h => h hp)]
    refine ⟨if_pos (.inl rfl), ?_⟩
    rw [hp]
    exact if_pos rfl
  · rw [if_pos hp]
    show portE (Lib.itoa u.port) = 0 ∧ port u.sch (Lib.itoa u.port) = u.port
    obtain ⟨h1, h2⟩ := itoa_read u.port g.port.1 g.port.2.1
    refine ⟨if_pos (.inr h2), ?_⟩
    unfold port
    rw [if_neg (itoa_digits u.port g.port.1).2.2, h1, if_neg g.port.2.2]
theorem good_placeE {u : U} (g : Good u) : placeE (schR (str u)) = 0 := by
  obtain ⟨h1, h2, h3⟩ := good_place g
  obtain ⟨n1, n2⟩ := good_name g
  unfold placeE
  rw [h1, h2, n1, n2, (good_schE g).2.2, if_neg (by simp only [List.length_append, List.length_cons, List.length_nil]; omega), if_neg, if_neg (fun h => h (good_host g).1)]
  · exact (good_port g).1
  · intro hc
    have hm := List.contains_iff_mem.1 hc
    rw [List.mem_append] at hm
    rcases hm with hm | hm
    · have := name_low g.host _ hm
      simp at this
    · have := portP_bytes g _ hm
      simp at this
theorem good_tail {u : U} (g : Good u) (v : U) (h1 : v.sch = u.sch) (h2 : v.host = u.host) (h3 : v.port = u.port) : tail v (u.path ++ (queryP u ++ fragP u)) = u := by
  obtain ⟨l, hl⟩ := g.path
  have hu : upto [63, 35] (u.path ++ (queryP u ++ fragP u)) = u.path ∧ rest [63, 35] (u.path ++ (queryP u ++ fragP u)) = queryP u ++ fragP u := by
    refine upto_of _ _ _ (fun c hc => ?_) (fun c hc => ?_)
    · rw [hl] at hc
      have := path_signs l c hc
      apply notin
      intro x hx
      simp only [List.mem_cons, List.not_mem_nil, or_false] at hx
      rcases hx with rfl | rfl
      · exact this.2.2.1
      · exact this.2.2.2
    · unfold queryP fragP at hc
      split at hc
      · simp only [List.cons_append, List.head?_cons, Option.some.injEq] at hc
        subst hc
        decide
      · split at hc
        · simp only [List.nil_append, List.head?_cons, Option.some.injEq] at hc
          subst hc
          decide
        · simp at hc
  have hF : fragP u = [] ∨ ∃ f, fragP u = 35 :: f := by
    unfold fragP
    split
    · exact .inr ⟨_, rfl⟩
    · exact .inl rfl
  have hpath : path u.path = u.path := by rw [hl, path_path]
  have hq : hasB 63 (queryP u ++ fragP u) = u.hq ∧ behind (u.path ++ (queryP u ++ fragP u)) = fragP u ∧ (if hasB 63 (queryP u ++ fragP u) = true then Pct.mark freeQ (upto [35] ((queryP u ++ fragP u).drop 1)) else []) = u.query := by
    unfold behind
    rw [hu.2]
    cases hh : u.hq
    · have e : queryP u = [] := by unfold queryP; rw [hh]; rfl
      rw [e, List.nil_append]
      have hb : hasB 63 (fragP u) = false := by
        rcases hF with h | ⟨f, h⟩
        · rw [h]; rfl
        · rw [h]; rfl
      rw [hb]
      exact ⟨rfl, rfl, (g.noq hh).symm⟩
    · have e : queryP u = 63 :: u.query := by unfold queryP; rw [hh]; rfl
      rw [e]
      have hb : hasB 63 (63 :: u.query ++ fragP u) = true := by simp [hasB]
      have hd : (63 :: u.query ++ fragP u).drop 1 = u.query ++ fragP u := rfl
      have hx : upto [35] (u.query ++ fragP u) = u.query ∧ rest [35] (u.query ++ fragP u) = fragP u := by
        refine upto_of _ _ _ (fun c hc => ?_) (fun c hc => ?_)
        · have := (stays_sign stays_Q (g.query c hc)).2.2
          apply notin
          intro x hx
          simp only [List.mem_cons, List.not_mem_nil, or_false] at hx
          subst hx
          rintro rfl
          exact absurd this (by decide)
        · rcases hF with h | ⟨f, h⟩
          · rw [h] at hc; simp at hc
          · rw [h] at hc
            simp only [List.head?_cons, Option.some.injEq] at hc
            subst hc
            decide
      rw [hb, if_pos rfl, if_pos rfl, hd, hx.1, hx.2]
      exact ⟨rfl, rfl, mark_self _ _ g.query⟩
  have hf : hasB 35 (fragP u) = u.hf ∧ (if hasB 35 (fragP u) = true then Pct.mark freeF ((fragP u).drop 1) else []) = u.frag := by
    unfold fragP
    cases hh : u.hf
    · exact ⟨rfl, (g.nof hh).symm⟩
    · refine ⟨rfl, ?_⟩
      show Pct.mark freeF u.frag = u.frag
      exact mark_self _ _ g.frag
  unfold tail
  rw [hu.1, hu.2, hpath, hq.2.1, hq.2.2, hf.2, hq.1, hf.1, h1, h2, h3]
/-- A good URL is parsed of its text. -/
theorem good_parse {u : U} (g : Good u) : perr (str u) = 0 ∧ parse (str u) = u := by
  have hc : clean (str u) = str u := clean_high _ (fun c hc => by have := good_signs g c hc; omega)
  have hw : whole (str u) = u := by
    unfold whole
    rw [(good_place g).2.2]
    refine good_tail g _ ?_ ?_ ?_
    · exact (good_schE g).2.1
    · show host (nameT (schR (str u))) = u.host
      rw [(good_name g).1]
      exact (good_host g).2
    · show port (sch (str u)) (portT (schR (str u))) = u.port
      rw [(good_schE g).2.1, (good_name g).2]
      exact (good_port g).2
  have hp : perr (str u) = 0 := by
    have hl := g.len
    unfold perr
    rw [hc, if_neg (by omega), if_neg (fun h => h (good_schE g).1), if_neg (fun h => h (good_placeE g)), hw, if_neg (by omega)]
  refine ⟨hp, ?_⟩
  unfold parse
  rw [if_pos hp, hc, hw]
theorem good_may {u : U} (g : Good u) : may u = true := by
  obtain ⟨h1, h2⟩ := good_parse g
  unfold may
  rw [h1, h2, same_self]
  rfl
theorem good_bare {u : U} (g : Good u) : Good (bare u) := by
  refine ⟨g.sch, g.host, g.port, g.path, g.query, by simp [bare], g.noq, fun _ => rfl, ?_⟩
  have hl := g.len
  have e : str u = str (bare u) ++ fragP u := by
    have e1 : portP (bare u) = portP u := rfl
    have e2 : queryP (bare u) = queryP u := rfl
    have e3 : fragP (bare u) = [] := rfl
    rw [str_parts u, str_parts (bare u), e1, e2, e3]
    simp [bare]
  rw [e, List.length_append] at hl
  omega
theorem mark_stays_Q (l : List UInt8) : ∀ c ∈ Pct.mark freeQ l, Pct.stays freeQ c = true := mark_stay freeQ (by decide) l
theorem mark_stays_F (l : List UInt8) : ∀ c ∈ Pct.mark freeF l, Pct.stays freeF c = true := mark_stay freeF (by decide) l
theorem own_ne {s : List UInt8} (h : s = http ∨ s = https) : own s ≠ 0 := by
  rcases h with h | h
  · rw [h]; decide
  · rw [h]; decide
/-- What is parsed is a good URL. -/
theorem parse_good {l : List UInt8} (h : perr l = 0) : Good (parse l) := by
  unfold parse
  rw [if_pos h]
  generalize hc : clean l = c at h ⊢
  unfold perr at h
  rw [hc] at h
  by_cases h1 : 2048 < c.length
  · rw [if_pos h1] at h; omega
  rw [if_neg h1] at h
  by_cases h2 : schE c = 0
  · rw [if_neg (fun x => x h2)] at h
    by_cases h3 : placeE (schR c) = 0
    · rw [if_neg (fun x => x h3)] at h
      by_cases h4 : 2048 < (str (whole c)).length
      · rw [if_pos h4] at h; omega
      have hs : sch c = http ∨ sch c = https := by
        unfold schE at h2
        split at h2
        · split at h2
          · assumption
          · omega
        · omega
      have hpl : hostE (nameT (schR c)) = 0 ∧ portE (portT (schR c)) = 0 := by
        unfold placeE at h3
        split at h3
        · omega
        · split at h3
          · omega
          · split at h3
            · rename_i hx; exact absurd h3 hx
            · rename_i hx
              exact ⟨by simpa using hx, h3⟩
      have hh : isName (host (nameT (schR c))) = true := by
        unfold host
        rw [hpl.1, if_pos rfl]
        have := hpl.1
        unfold hostE at this
        split at this
        · omega
        · split at this
          · assumption
          · omega
      have hpo : 0 ≤ port (sch c) (portT (schR c)) ∧ port (sch c) (portT (schR c)) ≤ 65535 ∧ port (sch c) (portT (schR c)) ≠ own (sch c) := by
        have ho := own_ne hs
        have hp := hpl.2
        unfold port
        unfold portE at hp
        by_cases hd : portT (schR c) = []
        · rw [if_pos hd]
          exact ⟨by omega, by omega, fun e => ho e.symm⟩
        · rw [if_neg hd]
          have hn : Asc.numErr (portT (schR c)) 65535 = 0 := by
            by_cases hn : Asc.numErr (portT (schR c)) 65535 = 0
            · exact hn
            · rw [if_neg (fun x => x.elim hd hn)] at hp
              omega
          have hrb := Asc.read_back _ 65535 (by decide) hn
          split
          · exact ⟨by omega, by omega, fun e => ho e.symm⟩
          · rename_i hx
            exact ⟨hrb.1, hrb.2.1, hx⟩
      refine ⟨hs, hh, hpo, ⟨_, rfl⟩, ?_, ?_, ?_, ?_, by omega⟩
      · show ∀ c_1 ∈ (if hasB 63 (rest [63, 35] (placeR (schR c))) = true then Pct.mark freeQ (upto [35] ((rest [63, 35] (placeR (schR c))).drop 1)) else []), _
        intro x hx
        split at hx
        · exact mark_stays_Q _ x hx
        · simp at hx
      · show ∀ c_1 ∈ (if hasB 35 (behind (placeR (schR c))) = true then Pct.mark freeF ((behind (placeR (schR c))).drop 1) else []), _
        intro x hx
        split at hx
        · exact mark_stays_F _ x hx
        · simp at hx
      · intro hx
        have hx' : hasB 63 (rest [63, 35] (placeR (schR c))) = false := hx
        show (if hasB 63 (rest [63, 35] (placeR (schR c))) = true then Pct.mark freeQ (upto [35] ((rest [63, 35] (placeR (schR c))).drop 1)) else []) = []
        rw [hx']
        rfl
      · intro hx
        have hx' : hasB 35 (behind (placeR (schR c))) = false := hx
        show (if hasB 35 (behind (placeR (schR c))) = true then Pct.mark freeF ((behind (placeR (schR c))).drop 1) else []) = []
        rw [hx']
        rfl
    · rw [if_pos h3] at h
      exact absurd h h3
  · rw [if_pos h2] at h
    exact absurd h h2
/-- The probe. -/
def probe : List UInt8 := [72, 84, 84, 80, 58, 47, 47, 69, 120, 46, 111, 114, 103, 58, 56, 48, 47, 97, 47, 46, 47, 98, 47, 46, 46, 47, 99, 63, 120, 35, 121]
def probeU : U := ⟨http, [101, 120, 46, 111, 114, 103], 0, [47, 97, 47, 99], [120], [121], true, true⟩
theorem probe_host : hostT [69, 120, 46, 111, 114, 103] = [101, 120, 46, 111, 114, 103] := by
  unfold hostT
  rw [unmark_plain _ (by decide)]
  decide
theorem probe_yes : perr probe = 0 ∧ parse probe = probeU := by
  have hc : clean probe = probe := by decide +kernel
  have hE : schE probe = 0 := by decide +kernel
  have hR : schR probe = probe.drop 5 := by decide +kernel
  have hS : sch probe = http := by decide +kernel
  have hN : nameT (probe.drop 5) = [69, 120, 46, 111, 114, 103] := by decide +kernel
  have hP : portT (probe.drop 5) = [56, 48] := by decide +kernel
  have hT : placeR (probe.drop 5) = [47, 97, 47, 46, 47, 98, 47, 46, 46, 47, 99, 63, 120, 35, 121] := by decide +kernel
  have hh : hostE [69, 120, 46, 111, 114, 103] = 0 := by
    unfold hostE
    rw [probe_host]
    decide +kernel
  have hpl : placeE (probe.drop 5) = 0 := by
    unfold placeE
    rw [hN, hP, hh]
    decide +kernel
  have hw : whole probe = probeU := by
    unfold whole put
    rw [hR, hN, hP, hT, hS]
    unfold host
    rw [hh, if_pos rfl, probe_host]
    unfold tail
    have e1 : port http [56, 48] = 0 := by decide +kernel
    rw [e1]
    have e2 : upto [63, 35] [47, 97, 47, 46, 47, 98, 47, 46, 46, 47, 99, 63, 120, 35, 121] = [47, 97, 47, 46, 47, 98, 47, 46, 46, 47, 99] := by decide +kernel
    have e3 : rest [63, 35] [47, 97, 47, 46, 47, 98, 47, 46, 46, 47, 99, 63, 120, 35, 121] = [63, 120, 35, 121] := by decide +kernel
    have e4 : path [47, 97, 47, 46, 47, 98, 47, 46, 46, 47, 99] = [47, 97, 47, 99] := by decide +kernel
    have e5 : behind [47, 97, 47, 46, 47, 98, 47, 46, 46, 47, 99, 63, 120, 35, 121] = [35, 121] := by decide +kernel
    rw [e2, e3, e4, e5]
    rfl
  have hp : perr probe = 0 := by
    unfold perr
    rw [hc, hE, hR, hpl, hw]
    rfl
  refine ⟨hp, ?_⟩
  unfold parse
  rw [if_pos hp, hc, hw]
end Url
/- Plain functions: the reference's way to a text's scheme. -/
namespace Url
open Go
theorem schB_lower : ∀ c : UInt8, schB (Asc.lowerC c) = schB c := Pct.bytes (by decide +kernel)
theorem isLet_lower : ∀ c : UInt8, isLet (Asc.lowerC c) = isLet c := Pct.bytes (by decide +kernel)
theorem schB_58 : schB 58 = false := by decide
theorem schB_parts : ∀ c : UInt8, schB c = (isLet c || (isDig c || ([43, 45, 46] : List UInt8).contains c)) := Pct.bytes (by decide +kernel)
theorem isScheme_lower (s : List UInt8) : isScheme (Asc.lower s) = isScheme s := by
  unfold isScheme Asc.lower
  rw [List.all_map]
  have h1 : (schB ∘ Asc.lowerC) = schB := funext schB_lower
  rw [h1]
  cases s with
  | nil => rfl
  | cons a r =>
    simp only [List.map_cons]
    rw [isLet_lower]
/-- How many bytes of a scheme a text begins with. -/
def scN (l : List UInt8) : Nat := match l with | [] => 0 | a :: r => if isLet a = true then 1 + (r.takeWhile schB).length else 0
def schemeN (l : List UInt8) : Nat := if scN l = 0 ∨ scN l = l.length ∨ l.getD (scN l) 0 ≠ 58 then 0 else scN l + 1
theorem take_all_schB (r : List UInt8) : ∀ c ∈ r.takeWhile schB, schB c = true := by
  induction r with
  | nil => simp
  | cons x t ih =>
    intro c hc
    rw [List.takeWhile_cons] at hc
    split at hc
    · rw [List.mem_cons] at hc
      rcases hc with rfl | hc
      · assumption
      · exact ih c hc
    · simp at hc
theorem scN_le (l : List UInt8) : scN l ≤ l.length := by
  unfold scN
  split
  · simp
  · rename_i a r
    split
    · have := (List.takeWhile_sublist schB (l := r)).length_le
      simp
      omega
    · simp
theorem isLet_schB {c : UInt8} (h : isLet c = true) : schB c = true := by rw [schB_parts, h]; rfl
/-- Where the scheme's bytes end with a colon, they are what stands ahead of the first one. -/
theorem scN_yes (l : List UInt8) (h0 : scN l ≠ 0) (hb : l.getD (scN l) 0 = 58) (hn : scN l ≠ l.length) : hasB 58 (rest [58] l) = true ∧ isScheme (upto [58] l) = true ∧ (upto [58] l).length = scN l := by
  have hle := scN_le l
  cases l with
  | nil => exact absurd rfl h0
  | cons a r =>
    unfold scN at h0 hb hn hle
    by_cases ha : isLet a = true
    · simp only [ha, if_true] at h0 hb hn hle
      have hsplit : a :: r = (a :: r.takeWhile schB) ++ r.dropWhile schB := by simp
      have hk : 1 + (r.takeWhile schB).length < (a :: r).length := by omega
      have hd : ∃ t, r.dropWhile schB = 58 :: t := by
        cases hr : r.dropWhile schB with
        | nil =>
          have := congrArg List.length hsplit
          rw [hr] at this
          simp at this hk
          omega
        | cons x t =>
          have e : (a :: r).getD (1 + (r.takeWhile schB).length) 0 = x := by
            conv => lhs; rw [hsplit, hr]
            rw [List.getD_eq_getElem?_getD, List.getElem?_append_right (by simp; omega)]
            simp
            rw [show 1 + (r.takeWhile schB).length - ((r.takeWhile schB).length + 1) = 0 by omega]
            rfl
          rw [e] at hb
          exact ⟨t, by rw [hb]⟩
      obtain ⟨t, ht⟩ := hd
      have hall : ∀ c ∈ a :: r.takeWhile schB, schB c = true := by
        intro c hc
        rw [List.mem_cons] at hc
        rcases hc with rfl | hc
        · exact isLet_schB ha
        · exact take_all_schB r c hc
      have hu : upto [58] ((a :: r.takeWhile schB) ++ 58 :: t) = a :: r.takeWhile schB ∧ rest [58] ((a :: r.takeWhile schB) ++ 58 :: t) = 58 :: t := by
        refine upto_of _ _ _ (fun c hc => ?_) (fun c hc => ?_)
        · have hs := hall c hc
          rw [Bool.eq_false_iff]
          intro hm
          have := List.contains_iff_mem.1 hm
          rw [List.mem_singleton] at this
          rw [this, schB_58] at hs
          cases hs
        · simp only [List.head?_cons, Option.some.injEq] at hc
          subst hc
          decide
      rw [← ht, ← hsplit] at hu
      rw [hu.1, hu.2]
      refine ⟨by rw [ht]; rfl, ?_, ?_⟩
      · unfold isScheme
        rw [List.all_eq_true.2 hall, Bool.true_and]
        exact ha
      · unfold scN
        simp only [ha, if_true, List.length_cons]
        omega
    · simp only [ha] at h0
      exact absurd rfl h0
theorem takeWhile_to (a t : List UInt8) (h : ∀ c ∈ a, schB c = true) : ((a ++ 58 :: t).takeWhile schB) = a := by
  induction a with
  | nil => simp [schB_58]
  | cons x r ih =>
    rw [List.cons_append, List.takeWhile_cons_of_pos (h x (List.mem_cons_self ..)), ih (fun c hc => h c (List.mem_cons_of_mem _ hc))]
theorem scN_no (l : List UInt8) (h1 : hasB 58 (rest [58] l) = true) (h2 : isScheme (upto [58] l) = true) : scN l ≠ 0 ∧ l.getD (scN l) 0 = 58 ∧ scN l ≠ l.length ∧ scN l = (upto [58] l).length := by
  have hs := upto_rest [58] l
  generalize upto [58] l = p at hs h2
  generalize rest [58] l = q at hs h1
  subst hs
  cases q with
  | nil => cases h1
  | cons x t =>
    have hx : x = 58 := by simpa [hasB] using h1
    subst hx
    cases p with
    | nil => cases h2
    | cons a r =>
      unfold isScheme at h2
      simp only [Bool.and_eq_true] at h2
      have hall := List.all_eq_true.1 h2.1
      have e : scN (a :: r ++ 58 :: t) = 1 + r.length := by
        show (if isLet a = true then 1 + ((r ++ 58 :: t).takeWhile schB).length else 0) = _
        rw [if_pos h2.2, takeWhile_to r t (fun c hc => hall c (List.mem_cons_of_mem _ hc))]
      rw [e]
      refine ⟨by omega, ?_, ?_, ?_⟩
      · rw [List.getD_eq_getElem?_getD, List.getElem?_append_right (by simp; omega)]
        simp
        rw [show 1 + r.length - (r.length + 1) = 0 by omega]
        rfl
      · simp
        omega
      · simp
        omega
/-- The reference's way and the program's are one. -/
theorem schemeN_zero (l : List UInt8) : schemeN l = 0 ↔ ¬ (hasB 58 (rest [58] l) = true ∧ isScheme (sch l) = true) := by
  have hl : isScheme (sch l) = isScheme (upto [58] l) := isScheme_lower _
  rw [hl]
  unfold schemeN
  constructor
  · intro h hh
    obtain ⟨a, b, c, _⟩ := scN_no l hh.1 hh.2
    rw [if_neg (fun x => x.elim a (fun y => y.elim c (fun z => z b)))] at h
    omega
  · intro h
    by_cases hc : scN l = 0 ∨ scN l = l.length ∨ l.getD (scN l) 0 ≠ 58
    · rw [if_pos hc]
    · exfalso
      have h0 : scN l ≠ 0 := fun e => hc (.inl e)
      have h1 : scN l ≠ l.length := fun e => hc (.inr (.inl e))
      have h2 : l.getD (scN l) 0 = 58 := by
        by_cases e : l.getD (scN l) 0 = 58
        · exact e
        · exact absurd (.inr (.inr e)) hc
      obtain ⟨a, b, _⟩ := scN_yes l h0 h2 h1
      exact h ⟨a, b⟩
theorem schemeN_pos (l : List UInt8) (h1 : hasB 58 (rest [58] l) = true) (h2 : isScheme (sch l) = true) : schemeN l = (upto [58] l).length + 1 ∧ l.take (upto [58] l).length = upto [58] l ∧ l.drop ((upto [58] l).length + 1) = schR l ∧ (upto [58] l).length + 1 ≤ l.length := by
  have hl : isScheme (sch l) = isScheme (upto [58] l) := isScheme_lower _
  rw [hl] at h2
  obtain ⟨a, b, c, d⟩ := scN_no l h1 h2
  have hs := upto_rest [58] l
  refine ⟨?_, ?_, ?_, ?_⟩
  · unfold schemeN
    rw [if_neg (fun x => x.elim a (fun y => y.elim c (fun z => z b))), d]
  · conv => lhs; arg 2; rw [← hs]
    simp
  · unfold schR
    conv => lhs; arg 2; rw [← hs]
    rw [← List.drop_drop]
    simp
  · have := scN_le l
    omega
end Url
/- Plain functions: links by bases, keys, links from one URL to another; and what follows of them. -/
namespace Url
open Go
/-- A text that begins with a slash; with two. -/
def slashed (l : List UInt8) : Bool := match l with | [] => false | c :: _ => slash c
def slashed2 (l : List UInt8) : Bool := slashed l && slashed (l.drop 1)
/-- How many slashes a text begins with. -/
def nsl (l : List UInt8) : Nat := l.length - (unsl l).length
theorem unsl_le (l : List UInt8) : (unsl l).length ≤ l.length := (List.dropWhile_sublist _).length_le
theorem nsl_cons_yes {c : UInt8} (h : slash c = true) (l : List UInt8) : nsl (c :: l) = nsl l + 1 := by
  have hl := unsl_le l
  unfold nsl unsl at *
  rw [List.dropWhile_cons_of_pos h, List.length_cons]
  omega
theorem nsl_cons_no {c : UInt8} (h : slash c = false) (l : List UInt8) : nsl (c :: l) = 0 := by
  unfold nsl unsl
  rw [List.dropWhile_cons_of_neg (by rw [h]; decide)]
  omega
theorem nsl_zero (l : List UInt8) : nsl l = 0 ↔ slashed l = false := by
  cases l with
  | nil => exact ⟨fun _ => rfl, fun _ => rfl⟩
  | cons c t =>
    cases h : slash c
    · rw [nsl_cons_no h]; exact ⟨fun _ => h, fun _ => rfl⟩
    · rw [nsl_cons_yes h]
      constructor
      · intro hx; omega
      · intro hx; have : slash c = false := hx; rw [h] at this; cases this
theorem nsl_two (l : List UInt8) : 2 ≤ nsl l ↔ slashed2 l = true := by
  cases l with
  | nil => exact ⟨fun h => absurd h (by decide), fun h => absurd h (by decide)⟩
  | cons c t =>
    unfold slashed2
    cases h : slash c
    · rw [nsl_cons_no h]
      have e : slashed (c :: t) = false := h
      rw [e]
      exact ⟨fun h => by omega, fun h => by cases h⟩
    · rw [nsl_cons_yes h]
      have e : slashed (c :: t) = true := h
      rw [e, Bool.true_and]
      show 2 ≤ nsl t + 1 ↔ slashed t = true
      have := nsl_zero t
      cases hs : slashed t
      · rw [hs] at this
        have := this.2 rfl
        exact ⟨fun h => by omega, fun h => by cases h⟩
      · rw [hs] at this
        have : ¬ nsl t = 0 := fun h => by cases this.1 h
        exact ⟨fun _ => rfl, fun _ => by omega⟩
/-- Whether a text begins with a scheme, of whatever kind. -/
def hasSch (c : List UInt8) : Bool := hasB 58 (rest [58] c) && isScheme (sch c)
theorem hasSch_iff (c : List UInt8) : hasSch c = true ↔ hasB 58 (rest [58] c) = true ∧ isScheme (sch c) = true := by
  unfold hasSch
  rw [Bool.and_eq_true]
theorem schR_lt {c : List UInt8} (h : hasSch c = true) : (schR c).length < c.length := by
  have h1 := ((hasSch_iff c).1 h).1
  have h2 := rest_len [58] c
  unfold schR
  unfold hasB at h1
  rw [List.length_drop]
  cases hr : rest [58] c with
  | nil => rw [hr] at h1; cases h1
  | cons a t => rw [hr] at h2; rw [List.length_cons] at h2 ⊢; omega
/-- A path up to its last slash. -/
def dirOf (p : List UInt8) : List UInt8 := (p.reverse.dropWhile (· != 47)).reverse
/-- What stays of a base, ahead of a link. -/
def stay (b : U) (c : List UInt8) : List UInt8 :=
  match c with
  | [] => b.path ++ queryP b
  | x :: _ => if x = 35 then b.path ++ queryP b else if x = 63 then b.path else if slash x = true then [] else dirOf b.path
def turned (b : U) (c : List UInt8) : U := tail b (stay b c ++ c)
/-- The URL of a link, with its error. -/
def join (b : U) (l : List UInt8) : Int × U :=
  if may b = false then (1, zero)
  else if 2048 < (clean l).length then (5, zero)
  else if _h : hasSch (clean l) = true then
    if sch (clean l) = b.sch ∧ slashed (schR (clean l)) = false then join b (schR (clean l)) else (perr (clean l), parse (clean l))
  else if slashed2 (clean l) = true then (perr (b.sch ++ 58 :: clean l), parse (b.sch ++ 58 :: clean l))
  else if 2048 < (str (turned b (clean l))).length then (5, zero) else (0, turned b (clean l))
termination_by l.length
decreasing_by exact Nat.lt_of_lt_of_le (schR_lt _h) (clean_len l)
theorem join_bad {b : U} (l : List UInt8) (h : may b = false) : join b l = (1, zero) := by rw [join, if_pos h]
theorem join_long {b : U} {l : List UInt8} (h : may b = true) (hl : 2048 < (clean l).length) : join b l = (5, zero) := by rw [join, if_neg (by rw [h]; decide), if_pos hl]
theorem join_again {b : U} {l : List UInt8} (h : may b = true) (hl : ¬ 2048 < (clean l).length) (hs : hasSch (clean l) = true) (h1 : sch (clean l) = b.sch) (h2 : slashed (schR (clean l)) = false) : join b l = join b (schR (clean l)) := by
  rw [join, if_neg (by rw [h]; decide), if_neg hl, dif_pos hs, if_pos ⟨h1, h2⟩]
theorem join_parse {b : U} {l : List UInt8} (h : may b = true) (hl : ¬ 2048 < (clean l).length) (hs : hasSch (clean l) = true) (h1 : ¬ (sch (clean l) = b.sch ∧ slashed (schR (clean l)) = false)) : join b l = (perr (clean l), parse (clean l)) := by
  rw [join, if_neg (by rw [h]; decide), if_neg hl, dif_pos hs, if_neg h1]
theorem join_place {b : U} {l : List UInt8} (h : may b = true) (hl : ¬ 2048 < (clean l).length) (hs : hasSch (clean l) = false) (h2 : slashed2 (clean l) = true) : join b l = (perr (b.sch ++ 58 :: clean l), parse (b.sch ++ 58 :: clean l)) := by
  rw [join, if_neg (by rw [h]; decide), if_neg hl, dif_neg (by rw [hs]; decide), if_pos h2]
theorem join_much {b : U} {l : List UInt8} (h : may b = true) (hl : ¬ 2048 < (clean l).length) (hs : hasSch (clean l) = false) (h2 : slashed2 (clean l) = false) (h3 : 2048 < (str (turned b (clean l))).length) : join b l = (5, zero) := by
  rw [join, if_neg (by rw [h]; decide), if_neg hl, dif_neg (by rw [hs]; decide), if_neg (by rw [h2]; decide), if_pos h3]
theorem join_turned {b : U} {l : List UInt8} (h : may b = true) (hl : ¬ 2048 < (clean l).length) (hs : hasSch (clean l) = false) (h2 : slashed2 (clean l) = false) (h3 : ¬ 2048 < (str (turned b (clean l))).length) : join b l = (0, turned b (clean l)) := by
  rw [join, if_neg (by rw [h]; decide), if_neg hl, dif_neg (by rw [hs]; decide), if_neg (by rw [h2]; decide), if_neg h3]
/-- What may be is good. -/
theorem may_good {u : U} (h : may u = true) : Good u := by
  unfold may at h
  rw [Bool.and_eq_true] at h
  have h1 := of_decide_eq_true h.1
  have h2 := (same_iff _ _).1 h.2
  rw [← h2]
  exact parse_good h1
/-- What stands behind a path, taken apart. -/
theorem upto_path {b : U} (g : Good b) (c : List UInt8) (hc : ∀ x, c.head? = some x → x = 63 ∨ x = 35) : upto [63, 35] (b.path ++ c) = b.path ∧ rest [63, 35] (b.path ++ c) = c := by
  obtain ⟨l, hl⟩ := g.path
  refine upto_of _ _ _ (fun x hx => ?_) (fun x hx => ?_)
  · rw [hl] at hx
    have := path_signs l x hx
    apply notin
    intro y hy
    simp only [List.mem_cons, List.not_mem_nil, or_false] at hy
    rcases hy with rfl | rfl
    · exact this.2.2.1
    · exact this.2.2.2
  · rcases hc x hx with rfl | rfl <;> decide
theorem path_self {b : U} (g : Good b) : path b.path = b.path := by
  obtain ⟨l, hl⟩ := g.path
  rw [hl, path_path]
theorem upto_head (c : List UInt8) (hc : ∀ x, c.head? = some x → x = 63 ∨ x = 35) : upto [63, 35] c = [] ∧ rest [63, 35] c = c := by
  have := upto_of [63, 35] [] c (fun x hx => by cases hx) (fun x hx => by rcases hc x hx with rfl | rfl <;> decide)
  simpa using this
theorem turned_query {b : U} (g : Good b) (r : List UInt8) : turned b (63 :: r) = { tail b (63 :: r) with path := b.path } := by
  have e : stay b (63 :: r) = b.path := rfl
  have h := upto_path g (63 :: r) (fun x hx => by simp at hx; exact .inl hx.symm)
  have k := upto_head (63 :: r) (fun x hx => by simp at hx; exact .inl hx.symm)
  unfold turned
  rw [e]
  unfold tail behind
  rw [h.1, h.2, k.2, path_self g]
theorem query_apart {b : U} (g : Good b) (f : List UInt8) (hf : ∀ x, f.head? = some x → x = 35) : upto [35] (b.query ++ f) = b.query ∧ rest [35] (b.query ++ f) = f := by
  refine upto_of _ _ _ (fun c hc => ?_) (fun c hc => ?_)
  · have := (stays_sign stays_Q (g.query c hc)).2.2
    apply notin
    intro x hx
    simp only [List.mem_cons, List.not_mem_nil, or_false] at hx
    subst hx
    rintro rfl
    exact absurd this (by decide)
  · rw [hf c hc]; decide
theorem turned_frag {b : U} (g : Good b) (r : List UInt8) : turned b (35 :: r) = { tail b (35 :: r) with path := b.path, hq := b.hq, query := b.query } := by
  have e : stay b (35 :: r) = b.path ++ queryP b := rfl
  have k := upto_head (35 :: r) (fun x hx => by simp at hx; exact .inr hx.symm)
  unfold turned
  rw [e, List.append_assoc]
  have hb : behind (35 :: r) = 35 :: r := by
    unfold behind
    rw [k.2]
    rfl
  cases hq : b.hq
  · have e2 : queryP b = [] := by unfold queryP; rw [hq]; rfl
    have h := upto_path g (35 :: r) (fun x hx => by simp at hx; exact .inr hx.symm)
    rw [e2, List.nil_append]
    have hb2 : behind (b.path ++ 35 :: r) = 35 :: r := by
      unfold behind
      rw [h.2]
      rfl
    unfold tail
    rw [hb, hb2, h.1, h.2, path_self g, g.noq hq]
    rfl
  · have e2 : queryP b = 63 :: b.query := by unfold queryP; rw [hq]; rfl
    have h := upto_path g (63 :: b.query ++ 35 :: r) (fun x hx => by simp at hx; exact .inl hx.symm)
    have q := query_apart g (35 :: r) (fun x hx => by simp at hx; exact hx.symm)
    rw [e2]
    have hd : (63 :: b.query ++ 35 :: r).drop 1 = b.query ++ 35 :: r := rfl
    have hh : hasB 63 (63 :: b.query ++ 35 :: r) = true := rfl
    have hb2 : behind (b.path ++ (63 :: b.query ++ 35 :: r)) = 35 :: r := by
      unfold behind
      rw [h.2, hh, if_pos rfl, hd, q.2]
    unfold tail
    rw [hb, hb2, h.1, h.2, path_self g, hh, if_pos rfl, hd, q.1, mark_self _ _ g.query]
theorem turned_nil {b : U} (g : Good b) : turned b [] = bare b := by
  have gb := good_bare g
  have := good_tail gb b rfl rfl rfl
  unfold turned
  rw [show stay b [] = b.path ++ queryP b from rfl, List.append_nil]
  have e : (bare b).path ++ (queryP (bare b) ++ fragP (bare b)) = b.path ++ queryP b := by
    show b.path ++ (queryP b ++ []) = _
    rw [List.append_nil]
  rw [e] at this
  exact this
theorem turned_slash (b : U) {x : UInt8} (h : slash x = true) (r : List UInt8) : turned b (x :: r) = tail b (x :: r) := by
  have h1 : x ≠ 35 := by rintro rfl; cases h
  have h2 : x ≠ 63 := by rintro rfl; cases h
  unfold turned stay
  simp only
  rw [if_neg h1, if_neg h2, if_pos h, List.nil_append]
theorem turned_else (b : U) {x : UInt8} (h1 : x ≠ 35) (h2 : x ≠ 63) (h : slash x = false) (r : List UInt8) : turned b (x :: r) = tail b (dirOf b.path ++ x :: r) := by
  unfold turned stay
  simp only
  rw [if_neg h1, if_neg h2, if_neg (by rw [h]; decide)]
/-- What is turned is good, if it is not too long. -/
theorem tail_good {b : U} (g : Good b) (l : List UInt8) (hl : ¬ 2048 < (str (tail b l)).length) : Good (tail b l) := by
  refine ⟨g.sch, g.host, g.port, ⟨_, rfl⟩, ?_, ?_, ?_, ?_, by omega⟩
  · show ∀ c ∈ (if hasB 63 (rest [63, 35] l) = true then Pct.mark freeQ (upto [35] ((rest [63, 35] l).drop 1)) else []), _
    intro x hx
    split at hx
    · exact mark_stays_Q _ x hx
    · simp at hx
  · show ∀ c ∈ (if hasB 35 (behind l) = true then Pct.mark freeF ((behind l).drop 1) else []), _
    intro x hx
    split at hx
    · exact mark_stays_F _ x hx
    · simp at hx
  · intro hx
    have hx' : hasB 63 (rest [63, 35] l) = false := hx
    show (if hasB 63 (rest [63, 35] l) = true then Pct.mark freeQ (upto [35] ((rest [63, 35] l).drop 1)) else []) = []
    rw [hx']
    rfl
  · intro hx
    have hx' : hasB 35 (behind l) = false := hx
    show (if hasB 35 (behind l) = true then Pct.mark freeF ((behind l).drop 1) else []) = []
    rw [hx']
    rfl
theorem parse_either (l : List UInt8) : (perr l ≠ 0 ∧ parse l = zero) ∨ (perr l = 0 ∧ Good (parse l)) := by
  by_cases h : perr l = 0
  · exact .inr ⟨h, parse_good h⟩
  · exact .inl ⟨h, if_neg h⟩
/-- What Join gives may be. -/
theorem join_either (b : U) (g : Good b) : ∀ (n : Nat) (l : List UInt8), l.length ≤ n → ((join b l).1 ≠ 0 ∧ (join b l).2 = zero) ∨ ((join b l).1 = 0 ∧ Good (join b l).2)
  | n, l, hn => by
    have hm := good_may g
    by_cases hl : 2048 < (clean l).length
    · rw [join_long hm hl]; exact .inl ⟨by decide, rfl⟩
    cases hs : hasSch (clean l)
    · cases h2 : slashed2 (clean l)
      · by_cases h3 : 2048 < (str (turned b (clean l))).length
        · rw [join_much hm hl hs h2 h3]; exact .inl ⟨by decide, rfl⟩
        · rw [join_turned hm hl hs h2 h3]; exact .inr ⟨rfl, tail_good g _ h3⟩
      · rw [join_place hm hl hs h2]
        exact parse_either _
    · by_cases h1 : sch (clean l) = b.sch ∧ slashed (schR (clean l)) = false
      · rw [join_again hm hl hs h1.1 h1.2]
        have := schR_lt hs
        have := clean_len l
        cases n with
        | zero => omega
        | succ n => exact join_either b g n _ (by omega)
      · rw [join_parse hm hl hs h1]
        exact parse_either _
/-- It hangs on the base's fragment not at all. -/
theorem join_bare (b : U) (g : Good b) : ∀ (n : Nat) (l : List UInt8), l.length ≤ n → join (bare b) l = join b l
  | n, l, hn => by
    have hm := good_may g
    have hm2 := good_may (good_bare g)
    have ht : ∀ c, turned (bare b) c = turned b c := fun c => rfl
    by_cases hl : 2048 < (clean l).length
    · rw [join_long hm hl, join_long hm2 hl]
    cases hs : hasSch (clean l)
    · cases h2 : slashed2 (clean l)
      · by_cases h3 : 2048 < (str (turned b (clean l))).length
        · rw [join_much hm hl hs h2 h3, join_much hm2 hl hs h2 (by rw [ht]; exact h3)]
        · rw [join_turned hm hl hs h2 h3, join_turned hm2 hl hs h2 (by rw [ht]; exact h3), ht]
      · rw [join_place hm hl hs h2, join_place hm2 hl hs h2]
        rfl
    · by_cases h1 : sch (clean l) = b.sch ∧ slashed (schR (clean l)) = false
      · rw [join_again hm hl hs h1.1 h1.2, join_again hm2 hl hs h1.1 h1.2]
        have := schR_lt hs
        have := clean_len l
        cases n with
        | zero => omega
        | succ n => exact join_bare b g n _ (by omega)
      · rw [join_parse hm hl hs h1, join_parse hm2 hl hs h1]
/-- A good URL is joined to itself, by any base. -/
theorem good_clean {u : U} (g : Good u) : clean (str u) = str u := clean_high _ (fun c hc => by have := good_signs g c hc; omega)
theorem good_hasSch {u : U} (g : Good u) : hasSch (str u) = true := by
  have h := (good_schE g).1
  unfold schE at h
  rw [hasSch_iff]
  by_cases hx : hasB 58 (rest [58] (str u)) = true ∧ isScheme (sch (str u)) = true
  · exact hx
  · rw [if_neg hx] at h
    cases h
theorem join_self {b u : U} (gb : Good b) (g : Good u) : join b (str u) = (0, u) := by
  have hc := good_clean g
  have hl := g.len
  have hr := (good_schE g).2.2
  obtain ⟨p1, p2⟩ := good_parse g
  rw [join_parse (good_may gb) (by rw [hc]; omega) (by rw [hc]; exact good_hasSch g) (by
    rw [hc, hr]
    rintro ⟨_, h⟩
    have h2 : (true : Bool) = false := h
    cases h2), hc, p1, p2]
end Url
/- Plain functions: links from one URL to another, joined back; what the program's own steps come to. -/
namespace Url
open Go
def key (u : U) : List UInt8 := str (bare u)
def link (b u : U) : List UInt8 :=
  if may b = true ∧ may u = true then
    if origin u = origin b ∧ slashed2 u.path = false then (str u).drop (origin u).length
    else if u.sch = b.sch then (str u).drop (u.sch.length + 1) else str u
  else str u
theorem origin_parts (u : U) : origin u = u.sch ++ (58 :: ([47, 47] ++ (u.host ++ portP u))) := by
  unfold origin
  rw [str_parts]
  show u.sch ++ (58 :: ([47, 47] ++ ((u.host ++ portP u) ++ ([] ++ ([] ++ []))))) = _
  simp
theorem str_origin (u : U) : str u = origin u ++ (u.path ++ (queryP u ++ fragP u)) := by
  rw [origin_parts, str_parts]
  simp
theorem key_origin (u : U) : key u = origin u ++ (u.path ++ queryP u) := by
  unfold key
  rw [str_origin]
  show origin u ++ (u.path ++ (queryP u ++ [])) = _
  simp
theorem path_cons {u : U} (g : Good u) : ∃ p, u.path = 47 :: p := by
  obtain ⟨l, hl⟩ := g.path
  unfold path at hl
  exact ⟨_, hl⟩
def rooted (u : U) : U := { zero with sch := u.sch, host := u.host, port := u.port, path := [47] }
theorem str_rooted (u : U) : str (rooted u) = origin u ++ [47] := by
  rw [str_origin]
  show origin u ++ ([47] ++ ([] ++ [])) = _
  simp
theorem good_rooted {u : U} (g : Good u) : Good (rooted u) := by
  refine ⟨g.sch, g.host, g.port, ⟨[], show ([47] : List UInt8) = path [] by decide +kernel⟩, by simp [rooted, zero], by simp [rooted, zero], fun _ => rfl, fun _ => rfl, ?_⟩
  have hl := g.len
  obtain ⟨p, hp⟩ := path_cons g
  rw [str_origin, hp] at hl
  rw [str_rooted]
  simp only [List.length_append, List.length_cons, List.length_nil] at hl ⊢
  omega
theorem origin_inj {a b : U} (ga : Good a) (gb : Good b) (h : origin a = origin b) : a.sch = b.sch ∧ a.host = b.host ∧ a.port = b.port := by
  have h1 := (good_parse (good_rooted ga)).2
  have h2 := (good_parse (good_rooted gb)).2
  rw [str_rooted, h, ← str_rooted, h2] at h1
  have := congrArg (fun u : U => (u.sch, u.host, u.port)) h1
  simp only [rooted, Prod.mk.injEq] at this
  exact ⟨this.1.symm, this.2.1.symm, this.2.2.symm⟩
theorem origin_iff {a b : U} (ga : Good a) (gb : Good b) : origin a = origin b ↔ a.sch = b.sch ∧ a.host = b.host ∧ a.port = b.port := by
  refine ⟨origin_inj ga gb, fun ⟨h1, h2, h3⟩ => ?_⟩
  unfold origin
  rw [h1, h2, h3]
theorem hasSch_slash (t : List UInt8) : hasSch (47 :: t) = false := by
  unfold hasSch sch
  rw [isScheme_lower]
  have : isScheme (upto [58] (47 :: t)) = false := by
    unfold upto
    rw [List.takeWhile_cons]
    show (List.all _ schB && isLet 47) = false
    rw [show isLet 47 = false by decide, Bool.and_false]
  rw [this, Bool.and_false]
theorem qf_head (u : U) : slashed (queryP u ++ fragP u) = false := by
  unfold queryP fragP
  cases u.hq
  · cases u.hf
    · rfl
    · rfl
  · rfl
theorem slashed2_path {u : U} (h : slashed2 u.path = false) (hp : ∃ p, u.path = 47 :: p) : slashed2 (u.path ++ (queryP u ++ fragP u)) = false := by
  obtain ⟨p, hp⟩ := hp
  rw [hp] at h ⊢
  cases p with
  | nil =>
    show (slash 47 && slashed (queryP u ++ fragP u)) = false
    rw [qf_head, Bool.and_false]
  | cons a r => exact h
theorem drop_origin (u : U) : (str u).drop (origin u).length = u.path ++ (queryP u ++ fragP u) := by
  rw [str_origin, List.drop_left]
theorem drop_sch (u : U) : (str u).drop (u.sch.length + 1) = [47, 47] ++ ((u.host ++ portP u) ++ (u.path ++ (queryP u ++ fragP u))) := by
  rw [str_parts, ← List.drop_drop, List.drop_left]
  rfl
theorem sch_drop (u : U) : u.sch ++ 58 :: (str u).drop (u.sch.length + 1) = str u := by
  rw [drop_sch, ← str_parts]
theorem clean_sub {u : U} (g : Good u) (n : Nat) : clean ((str u).drop n) = (str u).drop n :=
  clean_high _ (fun c hc => by have := good_signs g c (List.mem_of_mem_drop hc); omega)
/-- A link is joined to the URL. -/
theorem join_link {b u : U} (gb : Good b) (g : Good u) : join b (link b u) = (0, u) := by
  have hl := g.len
  have hm := good_may gb
  unfold link
  rw [if_pos ⟨hm, good_may g⟩]
  by_cases h1 : origin u = origin b ∧ slashed2 u.path = false
  · rw [if_pos h1]
    have hc := clean_sub g (origin u).length
    obtain ⟨p, hp⟩ := path_cons g
    have ho := origin_inj g gb h1.1
    have h2 := slashed2_path h1.2 ⟨p, hp⟩
    have ht : turned b (u.path ++ (queryP u ++ fragP u)) = u := by
      rw [hp, List.cons_append, turned_slash b rfl, ← List.cons_append, ← hp]
      exact good_tail g b ho.1.symm ho.2.1.symm ho.2.2.symm
    have hd := drop_origin u
    rw [join_turned hm (by rw [hc, List.length_drop]; omega) (by rw [hc, hd, hp]; exact hasSch_slash _) (by rw [hc, hd]; exact h2) (by rw [hc, hd, ht]; omega), hc, hd, ht]
  · rw [if_neg h1]
    by_cases h2 : u.sch = b.sch
    · rw [if_pos h2]
      have hc := clean_sub g (u.sch.length + 1)
      have hd := drop_sch u
      obtain ⟨p1, p2⟩ := good_parse g
      rw [join_place hm (by rw [hc, List.length_drop]; omega) (by rw [hc, hd]; exact hasSch_slash _) (by rw [hc, hd]; rfl), hc, ← h2, sch_drop, p1, p2]
    · rw [if_neg h2]
      exact join_self gb g
theorem link_len (b u : U) : (link b u).length ≤ (str u).length := by
  unfold link
  split
  · split
    · rw [List.length_drop]; omega
    · split
      · rw [List.length_drop]; omega
      · exact Nat.le_refl _
  · exact Nat.le_refl _
/-- Keys. -/
theorem key_parse {u : U} (g : Good u) : perr (key u) = 0 ∧ parse (key u) = bare u := good_parse (good_bare g)
theorem key_bare (u : U) : key (bare u) = key u := rfl
/-- What the program's steps come to. -/
theorem trim_front (a b : List UInt8) : Lib.trimPrefix (a ++ b) a = b := by
  unfold Lib.trimPrefix Lib.hasPrefix
  simp
theorem dirOf_prefix (p : List UInt8) : p.take (dirOf p).length = dirOf p ∧ (dirOf p).length ≤ p.length := by
  have h : dirOf p ++ (p.reverse.takeWhile (· != 47)).reverse = p := by
    unfold dirOf
    rw [← List.reverse_append, List.takeWhile_append_dropWhile, List.reverse_reverse]
  constructor
  · conv => lhs; arg 2; rw [← h]
    rw [List.take_left]
  · have := congrArg List.length h
    rw [List.length_append] at this
    omega
theorem dirOf_hit (p : List UInt8) (k : Nat) (h : k < p.length) (hx : p[k] = 47) : dirOf (p.take (k + 1)) = p.take (k + 1) := by
  unfold dirOf
  rw [← List.take_append_getElem h, List.reverse_append, hx]
  simp
theorem dirOf_miss (p : List UInt8) (k : Nat) (h : k < p.length) (hx : p[k] ≠ 47) : dirOf (p.take (k + 1)) = dirOf (p.take k) := by
  unfold dirOf
  rw [← List.take_append_getElem h, List.reverse_append]
  have : (p[k] != 47) = true := by simpa using hx
  simp [this]
def trimmed (cs l : List UInt8) : List UInt8 := ((l.reverse.dropWhile cs.contains).reverse).dropWhile cs.contains
theorem drop_all (p : UInt8 → Bool) : ∀ l : List UInt8, l.dropWhile p = [] ↔ l.all p = true
  | [] => by simp
  | a :: l => by
    rw [List.dropWhile_cons, List.all_cons]
    cases h : p a
    · simp
    · simp only [if_true, Bool.true_and]
      exact drop_all p l
theorem trimmed_nil (cs l : List UInt8) : trimmed cs l = [] ↔ l.all cs.contains = true := by
  unfold trimmed
  rw [drop_all, List.all_reverse]
  constructor
  · intro h
    have h2 := List.head?_dropWhile_not cs.contains l.reverse
    cases hd : l.reverse.dropWhile cs.contains with
    | nil =>
      have := (drop_all cs.contains l.reverse).1 hd
      rw [List.all_reverse] at this
      exact this
    | cons a r =>
      rw [hd] at h h2
      rw [List.all_cons, Bool.and_eq_true] at h
      rw [List.head?_cons] at h2
      have h3 : (!cs.contains a) = true := by simpa using h2
      rw [h.1] at h3
      cases h3
  · intro h
    have : l.reverse.dropWhile cs.contains = [] := (drop_all _ _).2 (by rw [List.all_reverse]; exact h)
    rw [this]
    rfl
def signs : List UInt8 := [97, 98, 99, 100, 101, 102, 103, 104, 105, 106, 107, 108, 109, 110, 111, 112, 113, 114, 115, 116, 117, 118, 119, 120, 121, 122, 48, 49, 50, 51, 52, 53, 54, 55, 56, 57, 43, 45, 46]
theorem signs_lower : ∀ c : UInt8, signs.contains (Asc.lowerC c) = schB (Asc.lowerC c) := Pct.bytes (by decide +kernel)
theorem all_signs (l : List UInt8) : (Asc.lower l).all signs.contains = (Asc.lower l).all schB := by
  unfold Asc.lower
  rw [List.all_map, List.all_map]
  congr 1
  funext c
  exact signs_lower c
end Url
