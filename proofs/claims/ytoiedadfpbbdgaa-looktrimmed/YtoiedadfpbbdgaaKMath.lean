/- Texts laid as one. -/
import Derived.Lib.DecodeNEq
import Derived.Lib.RuneBytes
import Derived.Lib.Join
/- Signs as bytes: the document's words as plain functions on lists of bytes, and what the walks and the promises need of them. -/
set_option linter.unusedVariables false
set_option linter.unusedSimpArgs false
namespace Utf
open Go.Lib
def at' (l : List UInt8) (i : Nat) : Nat := (l.getD i 0).toNat
theorem at_lt (l : List UInt8) (i : Nat) : at' l i < 256 := (l.getD i 0).toNat_lt
/-- How many bytes a sign has that begins with this one (0: there is none), and between which two its second byte lies. -/
def sz (b : Nat) : Nat := if b < 128 then 1 else if b < 194 then 0 else if b < 224 then 2 else if b < 240 then 3 else if b < 245 then 4 else 0
def lo (b : Nat) : Nat := if b = 224 then 160 else if b = 240 then 144 else 128
def hi (b : Nat) : Nat := if b = 237 then 159 else if b = 244 then 143 else 191
/-- The length of the sign at the beginning, or of the largest good part, and whether it is a sign. -/
def partN (n b0 b1 b2 b3 : Nat) : Nat × Bool :=
  if sz b0 = 1 then (1, true)
  else if sz b0 = 0 then (1, false)
  else if ¬ (1 < n ∧ lo b0 ≤ b1 ∧ b1 ≤ hi b0) then (1, false)
  else if sz b0 = 2 then (2, true)
  else if ¬ (2 < n ∧ 128 ≤ b2 ∧ b2 ≤ 191) then (2, false)
  else if sz b0 = 3 then (3, true)
  else if ¬ (3 < n ∧ 128 ≤ b3 ∧ b3 ≤ 191) then (3, false)
  else (4, true)
def part (l : List UInt8) : Nat × Bool := partN l.length (at' l 0) (at' l 1) (at' l 2) (at' l 3)
def dec (l : List UInt8) : Nat × Nat := decodeN l.length (at' l 0) (at' l 1) (at' l 2) (at' l 3)
theorem partN_pos (n b0 b1 b2 b3 : Nat) : 1 ≤ (partN n b0 b1 b2 b3).1 := by
  unfold partN
  repeat' split
  all_goals simp
theorem partN_le4 (n b0 b1 b2 b3 : Nat) : (partN n b0 b1 b2 b3).1 ≤ 4 := by
  unfold partN
  repeat' split
  all_goals simp
theorem partN_len (n b0 b1 b2 b3 : Nat) (h : 1 ≤ n) : (partN n b0 b1 b2 b3).1 ≤ n := by
  unfold partN
  repeat' split
  all_goals simp
  all_goals omega
theorem part_pos (l : List UInt8) : 1 ≤ (part l).1 := partN_pos ..
theorem part_le4 (l : List UInt8) : (part l).1 ≤ 4 := partN_le4 ..
theorem part_len (l : List UInt8) (h : l ≠ []) : (part l).1 ≤ l.length := partN_len _ _ _ _ _ (by cases l <;> simp at h ⊢)
theorem class_cases (b : Nat) (h : b < 256) : b < 128 ∨ (128 ≤ b ∧ b < 194) ∨ (194 ≤ b ∧ b < 224) ∨ b = 224 ∨ ((225 ≤ b ∧ b < 237) ∨ (238 ≤ b ∧ b < 240)) ∨ b = 237 ∨ b = 240 ∨ (241 ≤ b ∧ b < 244) ∨ b = 244 ∨ 245 ≤ b := by omega
theorem decodeN_none (n b0 b1 b2 b3 : Nat) (hb : (128 ≤ b0 ∧ b0 < 194) ∨ (245 ≤ b0 ∧ b0 < 256)) (h1 : b1 < 256) (h2 : b2 < 256) (h3 : b3 < 256) : decodeN n b0 b1 b2 b3 = (65533, 1) := by
  unfold decodeN
  repeat' split
  all_goals first | rfl | (exfalso; omega)
set_option maxHeartbeats 1000000 in
theorem decodeN_part (n b0 b1 b2 b3 : Nat) (hn : 1 ≤ n) (h0 : b0 < 256) (h1 : b1 < 256) (h2 : b2 < 256) (h3 : b3 < 256) :
    ((partN n b0 b1 b2 b3).2 = true → (decodeN n b0 b1 b2 b3).2 = (partN n b0 b1 b2 b3).1) ∧ ((partN n b0 b1 b2 b3).2 = false → decodeN n b0 b1 b2 b3 = (65533, 1)) := by
  rcases class_cases b0 h0 with h | h | h | h | h | h | h | h | h | h
  · have : sz b0 = 1 := by unfold sz; simp [h]
    have hd : decodeN n b0 b1 b2 b3 = (b0, 1) := by unfold decodeN; simp [h]
    simp [partN, this, hd]
  · have : sz b0 = 0 := by unfold sz; rw [if_neg (by omega), if_pos h.2]
    simp [partN, this, decodeN_none n b0 b1 b2 b3 (.inl h) h1 h2 h3]
  · have e : sz b0 = 2 := by unfold sz; rw [if_neg (by omega), if_neg (by omega), if_pos h.2]
    have f : lo b0 = 128 := by unfold lo; rw [if_neg (by omega), if_neg (by omega)]
    have g : hi b0 = 191 := by unfold hi; rw [if_neg (by omega), if_neg (by omega)]
    rw [← slow_C2 n b0 b1 b2 b3 hn h1 h2 h3 h]
    unfold partN slowN
    rw [e, f, g]
    repeat' split
    all_goals first | (exfalso; omega) | simp
  · have e : sz b0 = 3 := by subst h; rfl
    have f : lo b0 = 160 := by subst h; rfl
    have g : hi b0 = 191 := by subst h; rfl
    rw [← slow_E0 n b0 b1 b2 b3 hn h1 h2 h3 h]
    unfold partN slowN
    rw [e, f, g]
    repeat' split
    all_goals first | (exfalso; omega) | simp
  · have e : sz b0 = 3 := by unfold sz; rw [if_neg (by omega), if_neg (by omega), if_neg (by omega), if_pos (by omega)]
    have f : lo b0 = 128 := by unfold lo; rw [if_neg (by omega), if_neg (by omega)]
    have g : hi b0 = 191 := by unfold hi; rw [if_neg (by omega), if_neg (by omega)]
    rw [← slow_E1 n b0 b1 b2 b3 hn h1 h2 h3 h]
    unfold partN slowN
    rw [e, f, g]
    repeat' split
    all_goals first | (exfalso; omega) | simp
  · have e : sz b0 = 3 := by subst h; rfl
    have f : lo b0 = 128 := by subst h; rfl
    have g : hi b0 = 159 := by subst h; rfl
    rw [← slow_ED n b0 b1 b2 b3 hn h1 h2 h3 h]
    unfold partN slowN
    rw [e, f, g]
    repeat' split
    all_goals first | (exfalso; omega) | simp
  · have e : sz b0 = 4 := by subst h; rfl
    have f : lo b0 = 144 := by subst h; rfl
    have g : hi b0 = 191 := by subst h; rfl
    rw [← slow_F0 n b0 b1 b2 b3 hn h1 h2 h3 h]
    unfold partN slowN
    rw [e, f, g]
    repeat' split
    all_goals first | (exfalso; omega) | simp
  · have e : sz b0 = 4 := by unfold sz; rw [if_neg (by omega), if_neg (by omega), if_neg (by omega), if_neg (by omega), if_pos (by omega)]
    have f : lo b0 = 128 := by unfold lo; rw [if_neg (by omega), if_neg (by omega)]
    have g : hi b0 = 191 := by unfold hi; rw [if_neg (by omega), if_neg (by omega)]
    rw [← slow_F1 n b0 b1 b2 b3 hn h1 h2 h3 h]
    unfold partN slowN
    rw [e, f, g]
    repeat' split
    all_goals first | (exfalso; omega) | simp
  · have e : sz b0 = 4 := by subst h; rfl
    have f : lo b0 = 128 := by subst h; rfl
    have g : hi b0 = 143 := by subst h; rfl
    rw [← slow_F4 n b0 b1 b2 b3 hn h1 h2 h3 h]
    unfold partN slowN
    rw [e, f, g]
    repeat' split
    all_goals first | (exfalso; omega) | simp
  · have : sz b0 = 0 := by unfold sz; rw [if_neg (by omega), if_neg (by omega), if_neg (by omega), if_neg (by omega), if_neg (by omega)]
    simp [partN, this, decodeN_none n b0 b1 b2 b3 (.inr ⟨h, h0⟩) h1 h2 h3]
theorem len_pos {l : List UInt8} (h : l ≠ []) : 1 ≤ l.length := by cases l <;> simp at h ⊢
theorem dec_whole (l : List UInt8) (h : l ≠ []) (hw : (part l).2 = true) : (dec l).2 = (part l).1 :=
  (decodeN_part _ _ _ _ _ (len_pos h) (at_lt l 0) (at_lt l 1) (at_lt l 2) (at_lt l 3)).1 hw
theorem dec_bad (l : List UInt8) (h : l ≠ []) (hw : (part l).2 = false) : dec l = (65533, 1) :=
  (decodeN_part _ _ _ _ _ (len_pos h) (at_lt l 0) (at_lt l 1) (at_lt l 2) (at_lt l 3)).2 hw
/-- Behind the first byte of a part stand bytes that begin no sign. -/
theorem part_cont (l : List UInt8) (j : Nat) (h1 : 1 ≤ j) (h2 : j < (part l).1) : 128 ≤ at' l j ∧ at' l j ≤ 191 := by
  have h4 := part_le4 l
  have hl : 128 ≤ lo (at' l 0) := by
    unfold lo
    repeat' split
    all_goals omega
  have hh : hi (at' l 0) ≤ 191 := by
    unfold hi
    repeat' split
    all_goals omega
  unfold part partN at h2
  revert h2
  repeat' split
  all_goals intro h2
  all_goals simp only at h2
  all_goals try omega
  · obtain rfl : j = 1 := by omega
    omega
  · obtain rfl : j = 1 := by omega
    omega
  · obtain rfl | rfl : j = 1 ∨ j = 2 := by omega
    · omega
    · omega
  · obtain rfl | rfl : j = 1 ∨ j = 2 := by omega
    · omega
    · omega
  · obtain rfl | rfl | rfl : j = 1 ∨ j = 2 ∨ j = 3 := by omega
    · omega
    · omega
    · omega
theorem dec_cont (l : List UInt8) (h : 128 ≤ at' l 0 ∧ at' l 0 ≤ 191) : dec l = (65533, 1) :=
  decodeN_none _ _ _ _ _ (.inl ⟨h.1, by omega⟩) (at_lt l 1) (at_lt l 2) (at_lt l 3)
theorem at_drop (l : List UInt8) (k i : Nat) : at' (l.drop k) i = at' l (k + i) := by
  unfold at'
  simp [List.getD_eq_getElem?_getD, List.getElem?_drop]
theorem at_take (l : List UInt8) (k i : Nat) (h : i < k) : at' (l.take k) i = at' l i := by
  unfold at'
  simp [List.getD_eq_getElem?_getD, List.getElem?_take, h]
theorem at_append (l r : List UInt8) (i : Nat) (h : i < l.length) : at' (l ++ r) i = at' l i := by
  unfold at'
  simp [List.getD_eq_getElem?_getD, List.getElem?_append_left h]
/-- A part stays one where what is behind it is cut off. -/
theorem part_take (l : List UInt8) (k : Nat) (h : l ≠ []) (hk : (part l).1 ≤ k) : part (l.take k) = part l := by
  by_cases hkl : l.length ≤ k
  · rw [List.take_of_length_le hkl]
  have hp := part_pos l
  have hlen : (l.take k).length = k := by rw [List.length_take]; omega
  have a0 : at' (l.take k) 0 = at' l 0 := at_take l k 0 (by omega)
  have a1 : 1 < k → at' (l.take k) 1 = at' l 1 := fun h => at_take l k 1 h
  have a2 : 2 < k → at' (l.take k) 2 = at' l 2 := fun h => at_take l k 2 h
  have a3 : 3 < k → at' (l.take k) 3 = at' l 3 := fun h => at_take l k 3 h
  unfold part at *
  rw [hlen, a0]
  generalize hb0 : at' l 0 = b0 at *
  by_cases c1 : 1 < k
  · rw [a1 c1]
    by_cases c2 : 2 < k
    · rw [a2 c2]
      by_cases c3 : 3 < k
      · rw [a3 c3]
        unfold partN
        have e1 : 1 < l.length := by omega
        have e2 : 2 < l.length := by omega
        have e3 : 3 < l.length := by omega
        simp [c1, c2, c3, e1, e2, e3]
      · have e1 : 1 < l.length := by omega
        have e2 : 2 < l.length := by omega
        revert hk
        unfold partN
        repeat' split
        all_goals first | (intro hk; rfl) | (intro hk; simp only at hk; exfalso; omega)
    · revert hk
      unfold partN
      repeat' split
      all_goals first | (intro hk; rfl) | (intro hk; simp only at hk; exfalso; omega)
  · revert hk
    unfold partN
    repeat' split
    all_goals first | (intro hk; rfl) | (intro hk; simp only at hk; exfalso; omega)
/-- Is a number a sign? -/
def right (c : Int) : Bool := decide (0 ≤ c ∧ c ≤ 1114111 ∧ (c < 55296 ∨ 57343 < c))
def mend (c : Int) : Int := if right c then c else 65533
theorem encode_mend (c : Int) : encodeRune (mend c) = encodeRune c := by
  unfold mend
  split
  · rfl
  · rename_i h
    have h' : ¬ (0 ≤ c ∧ c ≤ 1114111 ∧ (c < 55296 ∨ 57343 < c)) := by simpa [right] using h
    unfold encodeRune
    congr 1
    have : encodeRuneZ c = [239, 191, 189] := by
      unfold encodeRuneZ
      rw [if_neg (by omega), if_neg (by omega), if_neg (by omega), if_neg (by omega)]
    rw [this]
    rfl
end Utf
/- Texts, gone through sign by sign: whether bytes are a text, they mended, their signs, and where a beginning may end; and the promises that follow. -/
set_option linter.unusedVariables false
set_option linter.unusedSimpArgs false
namespace Utf
open Go.Lib
theorem rest_lt (l : List UInt8) (h : l ≠ []) : (l.drop (part l).1).length < l.length := by
  have := part_pos l; have := len_pos h
  rw [List.length_drop]; omega
def isText (l : List UInt8) : Bool :=
  if h : l = [] then true else (part l).2 && isText (l.drop (part l).1)
termination_by l.length
decreasing_by exact rest_lt l h
def rep (l : List UInt8) : List UInt8 :=
  if h : l = [] then [] else encodeRune (dec l).1 ++ rep (l.drop (part l).1)
termination_by l.length
decreasing_by exact rest_lt l h
def signs (l : List UInt8) : List Nat :=
  if h : l = [] then [] else (dec l).1 :: signs (l.drop (part l).1)
termination_by l.length
decreasing_by exact rest_lt l h
def cut (l : List UInt8) (most : Int) : Nat :=
  if h : l = [] then 0 else if ((part l).1 : Int) > most then 0 else (part l).1 + cut (l.drop (part l).1) (most - (part l).1)
termination_by l.length
decreasing_by exact rest_lt l h
theorem ind {P : List UInt8 → Prop} (h0 : P []) (h1 : ∀ l, l ≠ [] → P (l.drop (part l).1) → P l) (l : List UInt8) : P l := by
  generalize hn : l.length = n
  induction n using Nat.strongRecOn generalizing l with
  | ind n ih =>
    by_cases h : l = []
    · subst h; exact h0
    · exact h1 l h (ih _ (hn ▸ rest_lt l h) _ rfl)
theorem isText_nil : isText [] = true := by rw [isText]; simp
theorem isText_go (l : List UInt8) (h : l ≠ []) : isText l = ((part l).2 && isText (l.drop (part l).1)) := by rw [isText]; simp [h]
theorem rep_nil : rep [] = [] := by rw [rep]; simp
theorem rep_go (l : List UInt8) (h : l ≠ []) : rep l = encodeRune (dec l).1 ++ rep (l.drop (part l).1) := by rw [rep]; simp [h]
theorem signs_nil : signs [] = [] := by rw [signs]; simp
theorem signs_go (l : List UInt8) (h : l ≠ []) : signs l = (dec l).1 :: signs (l.drop (part l).1) := by rw [signs]; simp [h]
theorem cut_nil (m : Int) : cut [] m = 0 := by rw [cut]; simp
theorem cut_stop (l : List UInt8) (m : Int) (hm : ((part l).1 : Int) > m) : cut l m = 0 := by
  by_cases h : l = []
  · subst h; exact cut_nil m
  · rw [cut]; simp [h, hm]
theorem cut_go (l : List UInt8) (m : Int) (h : l ≠ []) (hm : ¬ ((part l).1 : Int) > m) : cut l m = (part l).1 + cut (l.drop (part l).1) (m - (part l).1) := by rw [cut]; simp [h, hm]
/-! ### a sign's bytes tell it -/
theorem byteZ (x : Int) (h0 : 0 ≤ x) (h1 : x < 256) : (x.toNat.toUInt8).toNat = x.toNat := by
  simp
  omega
theorem byte_eq {x : Int} {c : UInt8} (h : x = (c.toNat : Int)) : x.toNat.toUInt8 = c := by
  subst h
  simp
theorem at0 (a : UInt8) (l : List UInt8) : at' (a :: l) 0 = a.toNat := rfl
theorem at1 (a b : UInt8) (l : List UInt8) : at' (a :: b :: l) 1 = b.toNat := rfl
theorem at2 (a b c : UInt8) (l : List UInt8) : at' (a :: b :: c :: l) 2 = c.toNat := rfl
theorem at3 (a b c d : UInt8) (l : List UInt8) : at' (a :: b :: c :: d :: l) 3 = d.toNat := rfl
theorem sz_1 {b : Nat} (h : b < 128) : sz b = 1 := by unfold sz; rw [if_pos h]
theorem sz_2 {b : Nat} (h : 194 ≤ b ∧ b < 224) : sz b = 2 := by unfold sz; rw [if_neg (by omega), if_neg (by omega), if_pos h.2]
theorem sz_3 {b : Nat} (h : 224 ≤ b ∧ b < 240) : sz b = 3 := by unfold sz; rw [if_neg (by omega), if_neg (by omega), if_neg (by omega), if_pos h.2]
theorem sz_4 {b : Nat} (h : 240 ≤ b ∧ b < 245) : sz b = 4 := by unfold sz; rw [if_neg (by omega), if_neg (by omega), if_neg (by omega), if_neg (by omega), if_pos h.2]
theorem sz_inv (b : Nat) (h : sz b ≠ 0) : (sz b = 1 ∧ b < 128) ∨ (sz b = 2 ∧ 194 ≤ b ∧ b < 224) ∨ (sz b = 3 ∧ 224 ≤ b ∧ b < 240) ∨ (sz b = 4 ∧ 240 ≤ b ∧ b < 245) := by
  unfold sz at *
  revert h
  repeat' split
  all_goals omega
theorem lo_lt (b : Nat) : (b = 224 → lo b = 160) ∧ (b = 240 → lo b = 144) ∧ 128 ≤ lo b ∧ (b ≠ 224 → b ≠ 240 → lo b = 128) := by
  unfold lo
  repeat' split
  all_goals omega
theorem hi_lt (b : Nat) : (b = 237 → hi b = 159) ∧ (b = 244 → hi b = 143) ∧ hi b ≤ 191 ∧ (b ≠ 237 → b ≠ 244 → hi b = 191) := by
  unfold hi
  repeat' split
  all_goals omega
theorem part_1 (n b0 b1 b2 b3 : Nat) (h : b0 < 128) : partN n b0 b1 b2 b3 = (1, true) := by
  unfold partN; rw [if_pos (sz_1 h)]
theorem part_2 (n b0 b1 b2 b3 : Nat) (hn : 1 < n) (h : 194 ≤ b0 ∧ b0 < 224) (h1 : 128 ≤ b1 ∧ b1 ≤ 191) : partN n b0 b1 b2 b3 = (2, true) := by
  have a := lo_lt b0; have b := hi_lt b0
  unfold partN; rw [sz_2 h, if_neg (by omega), if_neg (by omega), if_neg (by omega), if_pos rfl]
theorem part_3 (n b0 b1 b2 b3 : Nat) (hn : 2 < n) (h : 224 ≤ b0 ∧ b0 < 240) (h1 : lo b0 ≤ b1 ∧ b1 ≤ hi b0) (h2 : 128 ≤ b2 ∧ b2 ≤ 191) : partN n b0 b1 b2 b3 = (3, true) := by
  unfold partN; rw [sz_3 h, if_neg (by omega), if_neg (by omega), if_neg (by omega), if_neg (by omega), if_neg (by omega), if_pos rfl]
theorem part_4 (n b0 b1 b2 b3 : Nat) (hn : 3 < n) (h : 240 ≤ b0 ∧ b0 < 245) (h1 : lo b0 ≤ b1 ∧ b1 ≤ hi b0) (h2 : 128 ≤ b2 ∧ b2 ≤ 191) (h3 : 128 ≤ b3 ∧ b3 ≤ 191) : partN n b0 b1 b2 b3 = (4, true) := by
  unfold partN; rw [sz_4 h, if_neg (by omega), if_neg (by omega), if_neg (by omega), if_neg (by omega), if_neg (by omega), if_neg (by omega), if_neg (by omega)]
theorem dec_1 (n b0 b1 b2 b3 : Nat) (h : b0 < 128) : decodeN n b0 b1 b2 b3 = (b0, 1) := by unfold decodeN; rw [if_pos h]
theorem dec_2 (n b0 b1 b2 b3 : Nat) (hn : 1 < n) (h : 194 ≤ b0 ∧ b0 < 224) (h1 : 128 ≤ b1 ∧ b1 ≤ 191) : decodeN n b0 b1 b2 b3 = (b0 % 32 * 64 + b1 % 64, 2) := by
  unfold decodeN; rw [if_neg (by omega), if_pos (by omega), if_pos (by omega)]
theorem dec_3 (n b0 b1 b2 b3 : Nat) (hn : 2 < n) (h : 224 ≤ b0 ∧ b0 < 240) (h1 : lo b0 ≤ b1 ∧ b1 ≤ hi b0) (h2 : 128 ≤ b2 ∧ b2 ≤ 191) : decodeN n b0 b1 b2 b3 = (b0 % 16 * 4096 + b1 % 64 * 64 + b2 % 64, 3) := by
  have a := lo_lt b0; have b := hi_lt b0
  unfold decodeN; rw [if_neg (by omega), if_neg (by omega), if_pos (by omega), if_pos (by omega)]
theorem dec_4 (n b0 b1 b2 b3 : Nat) (hn : 3 < n) (h : 240 ≤ b0 ∧ b0 < 245) (h1 : lo b0 ≤ b1 ∧ b1 ≤ hi b0) (h2 : 128 ≤ b2 ∧ b2 ≤ 191) (h3 : 128 ≤ b3 ∧ b3 ≤ 191) : decodeN n b0 b1 b2 b3 = (b0 % 8 * 262144 + b1 % 64 * 4096 + b2 % 64 * 64 + b3 % 64, 4) := by
  have a := lo_lt b0; have b := hi_lt b0
  unfold decodeN; rw [if_neg (by omega), if_neg (by omega), if_neg (by omega), if_pos (by omega), if_pos (by omega)]
/-- What is put is next. -/
theorem put_next_right (c : Int) (r : List UInt8) (hc : right c = true) :
    part (encodeRune c ++ r) = ((encodeRune c).length, true) ∧ ((dec (encodeRune c ++ r)).1 : Int) = c := by
  have hr : 0 ≤ c ∧ c ≤ 1114111 ∧ (c < 55296 ∨ 57343 < c) := by simpa [right] using hc
  by_cases h1 : c ≤ 127
  · have e : encodeRune c = [c.toNat.toUInt8] := by unfold encodeRune; rw [encodeRuneZ_one hr.1 h1]; rfl
    have b0 := byteZ c hr.1 (by omega)
    rw [e]
    simp only [List.cons_append, List.nil_append, part, dec, at0, b0, List.length_cons, List.length_nil]
    rw [part_1 _ _ _ _ _ (by omega), dec_1 _ _ _ _ _ (by omega)]
    exact ⟨rfl, by simp only; omega⟩
  by_cases h2 : c ≤ 2047
  · have e : encodeRune c = [(192 + c / 64).toNat.toUInt8, (128 + c % 64).toNat.toUInt8] := by unfold encodeRune; rw [encodeRuneZ_two (by omega) h2]; rfl
    have b0 := byteZ (192 + c / 64) (by omega) (by omega)
    have b1 := byteZ (128 + c % 64) (by omega) (by omega)
    rw [e]
    simp only [List.cons_append, List.nil_append, part, dec, at0, at1, b0, b1, List.length_cons, List.length_nil]
    rw [part_2 _ _ _ _ _ (by omega) (by omega) (by omega), dec_2 _ _ _ _ _ (by omega) (by omega) (by omega)]
    exact ⟨rfl, by simp only; omega⟩
  by_cases h3 : c ≤ 65535
  · have e : encodeRune c = [(224 + c / 4096).toNat.toUInt8, (128 + c / 64 % 64).toNat.toUInt8, (128 + c % 64).toNat.toUInt8] := by unfold encodeRune; rw [encodeRuneZ_three (by omega)]; rfl
    have b0 := byteZ (224 + c / 4096) (by omega) (by omega)
    have b1 := byteZ (128 + c / 64 % 64) (by omega) (by omega)
    have b2 := byteZ (128 + c % 64) (by omega) (by omega)
    have a := lo_lt (224 + c / 4096).toNat; have b := hi_lt (224 + c / 4096).toNat
    rw [e]
    simp only [List.cons_append, List.nil_append, part, dec, at0, at1, at2, b0, b1, b2, List.length_cons, List.length_nil]
    have hb : lo (224 + c / 4096).toNat ≤ (128 + c / 64 % 64).toNat ∧ (128 + c / 64 % 64).toNat ≤ hi (224 + c / 4096).toNat := by
      constructor
      · by_cases q : (224 + c / 4096).toNat = 224
        · rw [a.1 q]; omega
        · rw [a.2.2.2 q (by omega)]; omega
      · by_cases q : (224 + c / 4096).toNat = 237
        · rw [b.1 q]; omega
        · rw [b.2.2.2 q (by omega)]; omega
    rw [part_3 _ _ _ _ _ (by omega) (by omega) hb (by omega), dec_3 _ _ _ _ _ (by omega) (by omega) hb (by omega)]
    exact ⟨rfl, by simp only; omega⟩
  · have e : encodeRune c = [(240 + c / 262144).toNat.toUInt8, (128 + c / 4096 % 64).toNat.toUInt8, (128 + c / 64 % 64).toNat.toUInt8, (128 + c % 64).toNat.toUInt8] := by unfold encodeRune; rw [encodeRuneZ_four (by omega) hr.2.1]; rfl
    have b0 := byteZ (240 + c / 262144) (by omega) (by omega)
    have b1 := byteZ (128 + c / 4096 % 64) (by omega) (by omega)
    have b2 := byteZ (128 + c / 64 % 64) (by omega) (by omega)
    have b3 := byteZ (128 + c % 64) (by omega) (by omega)
    have a := lo_lt (240 + c / 262144).toNat; have b := hi_lt (240 + c / 262144).toNat
    rw [e]
    simp only [List.cons_append, List.nil_append, part, dec, at0, at1, at2, at3, b0, b1, b2, b3, List.length_cons, List.length_nil]
    have hb : lo (240 + c / 262144).toNat ≤ (128 + c / 4096 % 64).toNat ∧ (128 + c / 4096 % 64).toNat ≤ hi (240 + c / 262144).toNat := by
      constructor
      · by_cases q : (240 + c / 262144).toNat = 240
        · rw [a.2.1 q]; omega
        · rw [a.2.2.2 (by omega) q]; omega
      · by_cases q : (240 + c / 262144).toNat = 244
        · rw [b.2.1 q]; omega
        · rw [b.2.2.2 (by omega) q]; omega
    rw [part_4 _ _ _ _ _ (by omega) (by omega) hb (by omega) (by omega), dec_4 _ _ _ _ _ (by omega) (by omega) hb (by omega) (by omega)]
    exact ⟨rfl, by simp only; omega⟩
theorem right_mend (c : Int) : right (mend c) = true := by
  unfold mend
  split
  · assumption
  · rfl
theorem put_next (c : Int) (r : List UInt8) :
    part (encodeRune c ++ r) = ((encodeRune c).length, true) ∧ ((dec (encodeRune c ++ r)).1 : Int) = mend c := by
  rw [← encode_mend c]
  exact put_next_right (mend c) r (right_mend c)
theorem enc_ne (c : Int) (r : List UInt8) : encodeRune c ++ r ≠ [] := by
  intro e
  have h := (put_next c r).1
  have h2 := part_pos (encodeRune c ++ r)
  rw [List.append_eq_nil_iff] at e
  rw [h, e.1] at h2
  simp at h2
/-- A whole part tells a sign, and is that sign's bytes. -/
theorem whole (l : List UInt8) (h : l ≠ []) (hw : (part l).2 = true) : right (dec l).1 = true ∧ encodeRune (dec l).1 = l.take (part l).1 := by
  have hn := len_pos h
  have x0 := at_lt l 0; have x1 := at_lt l 1; have x2 := at_lt l 2; have x3 := at_lt l 3
  have c0 : 0 < l.length → (at' l 0 : Int) = (l.getD 0 0).toNat := fun _ => rfl
  unfold part partN at hw
  by_cases s1 : sz (at' l 0) = 1
  · have hb : at' l 0 < 128 := by rcases sz_inv _ (by omega : sz (at' l 0) ≠ 0) with q | q | q | q <;> omega
    obtain ⟨a, r, rfl⟩ : ∃ a r, l = a :: r := by cases l with | nil => simp at hn | cons a r => exact ⟨a, r, rfl⟩
    simp only [at0] at hb
    have hp : part (a :: r) = (1, true) := by unfold part; rw [at0, part_1 _ _ _ _ _ hb]
    have hd : dec (a :: r) = (a.toNat, 1) := by unfold dec; rw [at0, dec_1 _ _ _ _ _ hb]
    rw [hp, hd]
    refine ⟨by simp only [right, decide_eq_true_eq]; omega, ?_⟩
    unfold encodeRune
    rw [encodeRuneZ_one (by omega) (by omega)]
    simp only [List.map, List.take_succ_cons, List.take_zero]
    rw [byte_eq rfl]
  rw [if_neg s1] at hw
  by_cases s0 : sz (at' l 0) = 0
  · rw [if_pos s0] at hw; cases hw
  rw [if_neg s0] at hw
  split at hw
  · cases hw
  rename_i k1
  have k1' : 1 < l.length ∧ lo (at' l 0) ≤ at' l 1 ∧ at' l 1 ≤ hi (at' l 0) := by omega
  clear k1
  have a' := lo_lt (at' l 0); have b' := hi_lt (at' l 0)
  by_cases s2 : sz (at' l 0) = 2
  · have hb : 194 ≤ at' l 0 ∧ at' l 0 < 224 := by rcases sz_inv _ s0 with q | q | q | q <;> omega
    obtain ⟨a, b, r, rfl⟩ : ∃ a b r, l = a :: b :: r := by
      match l, k1' with
      | a :: b :: r, _ => exact ⟨a, b, r, rfl⟩
      | [a], q => simp at q
      | [], q => simp at q
    simp only [at0, at1] at hb k1' a' b' x0 x1
    have h1 : 128 ≤ b.toNat ∧ b.toNat ≤ 191 := by omega
    have hp : part (a :: b :: r) = (2, true) := by unfold part; rw [at0, at1, part_2 _ _ _ _ _ k1'.1 hb h1]
    have hd : dec (a :: b :: r) = (a.toNat % 32 * 64 + b.toNat % 64, 2) := by unfold dec; rw [at0, at1, dec_2 _ _ _ _ _ k1'.1 hb h1]
    rw [hp, hd]
    refine ⟨by simp only [right, decide_eq_true_eq]; omega, ?_⟩
    unfold encodeRune
    rw [encodeRuneZ_two (by omega) (by omega)]
    simp only [List.map, List.take_succ_cons, List.take_zero]
    rw [byte_eq (c := a) (by omega), byte_eq (c := b) (by omega)]
  rw [if_neg s2] at hw
  split at hw
  · cases hw
  rename_i k2
  have k2' : 2 < l.length ∧ 128 ≤ at' l 2 ∧ at' l 2 ≤ 191 := by omega
  clear k2
  by_cases s3 : sz (at' l 0) = 3
  · have hb : 224 ≤ at' l 0 ∧ at' l 0 < 240 := by rcases sz_inv _ s0 with q | q | q | q <;> omega
    obtain ⟨a, b, c, r, rfl⟩ : ∃ a b c r, l = a :: b :: c :: r := by
      match l, k2' with
      | a :: b :: c :: r, _ => exact ⟨a, b, c, r, rfl⟩
      | [a, b], q => simp at q
      | [a], q => simp at q
      | [], q => simp at q
    simp only [at0, at1, at2] at hb k1' k2' a' b' x0 x1 x2
    have hp : part (a :: b :: c :: r) = (3, true) := by unfold part; rw [at0, at1, at2, part_3 _ _ _ _ _ k2'.1 hb k1'.2 k2'.2]
    have hd : dec (a :: b :: c :: r) = (a.toNat % 16 * 4096 + b.toNat % 64 * 64 + c.toNat % 64, 3) := by unfold dec; rw [at0, at1, at2, dec_3 _ _ _ _ _ k2'.1 hb k1'.2 k2'.2]
    rw [hp, hd]
    have hr : ∀ N : Nat, N = a.toNat % 16 * 4096 + b.toNat % 64 * 64 + c.toNat % 64 → (2048 ≤ N ∧ N < 55296) ∨ (57343 < N ∧ N ≤ 65535) := by
      intro N hN
      omega
    have hr' := hr _ rfl
    clear hr
    refine ⟨by simp only [right, decide_eq_true_eq]; omega, ?_⟩
    unfold encodeRune
    rw [encodeRuneZ_three (by simp only; omega)]
    simp only [List.map, List.take_succ_cons, List.take_zero]
    rw [byte_eq (c := a) (by omega), byte_eq (c := b) (by omega), byte_eq (c := c) (by omega)]
  rw [if_neg s3] at hw
  split at hw
  · cases hw
  rename_i k3
  have k3' : 3 < l.length ∧ 128 ≤ at' l 3 ∧ at' l 3 ≤ 191 := by omega
  clear k3
  have hb : 240 ≤ at' l 0 ∧ at' l 0 < 245 := by rcases sz_inv _ s0 with q | q | q | q <;> omega
  obtain ⟨a, b, c, d, r, rfl⟩ : ∃ a b c d r, l = a :: b :: c :: d :: r := by
    match l, k3' with
    | a :: b :: c :: d :: r, _ => exact ⟨a, b, c, d, r, rfl⟩
    | [a, b, c], q => simp at q
    | [a, b], q => simp at q
    | [a], q => simp at q
    | [], q => simp at q
  simp only [at0, at1, at2, at3] at hb k1' k2' k3' a' b' x0 x1 x2 x3
  have hp : part (a :: b :: c :: d :: r) = (4, true) := by unfold part; rw [at0, at1, at2, at3, part_4 _ _ _ _ _ k3'.1 hb k1'.2 k2'.2 k3'.2]
  have hd : dec (a :: b :: c :: d :: r) = (a.toNat % 8 * 262144 + b.toNat % 64 * 4096 + c.toNat % 64 * 64 + d.toNat % 64, 4) := by unfold dec; rw [at0, at1, at2, at3, dec_4 _ _ _ _ _ k3'.1 hb k1'.2 k2'.2 k3'.2]
  rw [hp, hd]
  have hr' : 65536 ≤ a.toNat % 8 * 262144 + b.toNat % 64 * 4096 + c.toNat % 64 * 64 + d.toNat % 64 ∧ a.toNat % 8 * 262144 + b.toNat % 64 * 4096 + c.toNat % 64 * 64 + d.toNat % 64 ≤ 1114111 := by omega
  refine ⟨by simp only [right, decide_eq_true_eq]; omega, ?_⟩
  unfold encodeRune
  rw [encodeRuneZ_four (by simp only; omega) (by simp only; omega)]
  simp only [List.map, List.take_succ_cons, List.take_zero]
  rw [byte_eq (c := a) (by omega), byte_eq (c := b) (by omega), byte_eq (c := c) (by omega), byte_eq (c := d) (by omega)]
theorem dec_right (l : List UInt8) (h : l ≠ []) : right (dec l).1 = true := by
  cases hw : (part l).2
  · rw [dec_bad l h hw]; rfl
  · exact (whole l h hw).1
theorem mend_right {c : Int} (h : right c = true) : mend c = c := by unfold mend; rw [if_pos h]
/-! ### what follows -/
theorem isText_put (c : Int) (r : List UInt8) : isText (encodeRune c ++ r) = isText r := by
  rw [isText_go _ (enc_ne c r), (put_next c r).1]
  simp
theorem rep_put (c : Int) (r : List UInt8) : rep (encodeRune c ++ r) = encodeRune c ++ rep r := by
  rw [rep_go _ (enc_ne c r), (put_next c r).2, (put_next c r).1, encode_mend]
  simp
theorem rep_text (l : List UInt8) : isText (rep l) = true := by
  refine ind (P := fun l => isText (rep l) = true) ?_ ?_ l
  · rw [rep_nil, isText_nil]
  · intro l h ih
    rw [rep_go l h, isText_put]; exact ih
theorem rep_rep (l : List UInt8) : rep (rep l) = rep l := by
  refine ind (P := fun l => rep (rep l) = rep l) ?_ ?_ l
  · rw [rep_nil, rep_nil]
  · intro l h ih
    rw [rep_go l h, rep_put, ih]
theorem rep_self (l : List UInt8) : isText l = true → rep l = l := by
  refine ind (P := fun l => isText l = true → rep l = l) ?_ ?_ l
  · intro _; exact rep_nil
  · intro l h ih ht
    rw [isText_go l h, Bool.and_eq_true] at ht
    rw [rep_go l h, ih ht.2, (whole l h ht.1).2, List.take_append_drop]
theorem rep_eq (l : List UInt8) : (rep l = l) = (isText l = true) := by
  apply propext
  constructor
  · intro e; have := rep_text l; rw [e] at this; exact this
  · exact rep_self l
theorem enc_bad : encodeRune ((65533 : Nat) : Int) = [239, 191, 189] := by decide
theorem enc_len (c : Int) : (encodeRune c).length ≤ 4 ∧ 1 ≤ (encodeRune c).length := by
  have h := (put_next c []).1
  have h1 := part_le4 (encodeRune c ++ []); have h2 := part_pos (encodeRune c ++ [])
  rw [h] at h1 h2
  exact ⟨h1, h2⟩
theorem rep_len (l : List UInt8) : (rep l).length ≤ 3 * l.length := by
  refine ind (P := fun l => (rep l).length ≤ 3 * l.length) ?_ ?_ l
  · rw [rep_nil]; simp
  · intro l h ih
    rw [rep_go l h, List.length_append]
    have hp := part_pos l; have hl := part_len l h
    rw [List.length_drop] at ih
    cases hw : (part l).2
    · rw [dec_bad l h hw, enc_bad]
      simp only [List.length_cons, List.length_nil]
      omega
    · rw [(whole l h hw).2, List.length_take]
      omega
theorem signs_rep (l : List UInt8) : (signs l).flatMap (fun c : Nat => encodeRune (c : Int)) = rep l := by
  refine ind (P := fun l => (signs l).flatMap (fun c : Nat => encodeRune (c : Int)) = rep l) ?_ ?_ l
  · rw [signs_nil, rep_nil]; rfl
  · intro l h ih
    rw [signs_go l h, rep_go l h, List.flatMap_cons, ih]
theorem signs_len (l : List UInt8) : (signs l).length ≤ l.length := by
  refine ind (P := fun l => (signs l).length ≤ l.length) ?_ ?_ l
  · rw [signs_nil]; exact Nat.le_refl _
  · intro l h ih
    rw [signs_go l h, List.length_cons]
    have := rest_lt l h
    omega
theorem right_lt {c : Nat} (h : right (c : Int) = true) : c ≤ 1114111 := by
  have hr : 0 ≤ (c : Int) ∧ (c : Int) ≤ 1114111 ∧ ((c : Int) < 55296 ∨ 57343 < (c : Int)) := by simpa [right] using h
  omega
/-! ### beginnings -/
theorem cut_len (l : List UInt8) (m : Int) : cut l m ≤ l.length := by
  revert m
  refine ind (P := fun l => ∀ m, cut l m ≤ l.length) ?_ ?_ l
  · intro m; rw [cut_nil]; exact Nat.zero_le _
  · intro l h ih m
    by_cases hm : ((part l).1 : Int) > m
    · rw [cut_stop l m hm]; exact Nat.zero_le _
    · rw [cut_go l m h hm]
      have := ih (m - (part l).1)
      have := part_len l h
      rw [List.length_drop] at *
      omega
theorem cut_le (l : List UInt8) (m : Int) (h0 : 0 ≤ m) : (cut l m : Int) ≤ m := by
  revert m
  refine ind (P := fun l => ∀ m, 0 ≤ m → (cut l m : Int) ≤ m) ?_ ?_ l
  · intro m h0; rw [cut_nil]; exact h0
  · intro l h ih m h0
    by_cases hm : ((part l).1 : Int) > m
    · rw [cut_stop l m hm]; exact h0
    · rw [cut_go l m h hm]
      have := ih (m - (part l).1) (by omega)
      omega
theorem cut_near (l : List UInt8) (m : Int) : cut l m = l.length ∨ (cut l m : Int) > m - 4 := by
  revert m
  refine ind (P := fun l => ∀ m, cut l m = l.length ∨ (cut l m : Int) > m - 4) ?_ ?_ l
  · intro m; rw [cut_nil]; left; rfl
  · intro l h ih m
    by_cases hm : ((part l).1 : Int) > m
    · rw [cut_stop l m hm]
      have := part_le4 l
      right; omega
    · rw [cut_go l m h hm]
      have h2 := part_len l h
      rcases ih (m - (part l).1) with q | q
      · left; rw [q, List.length_drop]; omega
      · right; omega
theorem take_cut_go (l : List UInt8) (m : Int) (h : l ≠ []) (hm : ¬ ((part l).1 : Int) > m) :
    l.take (cut l m) ≠ [] ∧ part (l.take (cut l m)) = part l ∧ (l.take (cut l m)).drop (part l).1 = (l.drop (part l).1).take (cut (l.drop (part l).1) (m - (part l).1)) := by
  have hp := part_pos l; have h2 := part_len l h
  rw [cut_go l m h hm]
  refine ⟨?_, part_take l _ h (by omega), ?_⟩
  · intro e
    have := congrArg List.length e
    rw [List.length_take, List.length_nil] at this
    omega
  · rw [List.drop_take]
    congr 1
    omega
theorem cut_text (l : List UInt8) (m : Int) (ht : isText l = true) : isText (l.take (cut l m)) = true := by
  revert m ht
  refine ind (P := fun l => ∀ m, isText l = true → isText (l.take (cut l m)) = true) ?_ ?_ l
  · intro m _; rw [List.take_nil, isText_nil]
  · intro l h ih m ht
    rw [isText_go l h, Bool.and_eq_true] at ht
    by_cases hm : ((part l).1 : Int) > m
    · rw [cut_stop l m hm, List.take_zero, isText_nil]
    · obtain ⟨h1, h2, h3⟩ := take_cut_go l m h hm
      rw [isText_go _ h1, h2, h3, ht.1, ih _ ht.2]
      rfl
theorem cut_cut (l : List UInt8) (m : Int) : cut (l.take (cut l m)) m = cut l m := by
  revert m
  refine ind (P := fun l => ∀ m, cut (l.take (cut l m)) m = cut l m) ?_ ?_ l
  · intro m; rw [List.take_nil]
  · intro l h ih m
    by_cases hm : ((part l).1 : Int) > m
    · rw [cut_stop l m hm, List.take_zero, cut_nil]
    · obtain ⟨h1, h2, h3⟩ := take_cut_go l m h hm
      rw [cut_go _ m h1 (by rw [h2]; exact hm), h2, h3, ih, ← cut_go l m h hm]
/-! ### the program's own way through a text: a stop at each byte of a part that is no sign -/
theorem bad_iff (l : List UInt8) (h : l ≠ []) (hc : (dec l).1 = 65533) : (part l).2 = true ↔ l.take 3 = [239, 191, 189] := by
  constructor
  · intro hw
    have e := (whole l h hw).2
    rw [hc, enc_bad] at e
    have h3 : (part l).1 = 3 := by
      have := congrArg List.length e
      rw [List.length_take] at this
      have := part_len l h
      simp only [List.length_cons, List.length_nil] at *
      omega
    rw [h3] at e
    exact e.symm
  · intro e
    have : l = encodeRune ((65533 : Nat) : Int) ++ l.drop 3 := by
      rw [enc_bad, ← e, List.take_append_drop]
    rw [this, (put_next _ _).1]
theorem ok_of_other (l : List UInt8) (h : l ≠ []) (hc : (dec l).1 ≠ 65533) : (part l).2 = true := by
  cases hw : (part l).2
  · rw [dec_bad l h hw] at hc; exact absurd rfl hc
  · rfl
theorem dec_step (l : List UInt8) (h : l ≠ []) : 1 ≤ (dec l).2 ∧ (dec l).2 ≤ (part l).1 := by
  cases hw : (part l).2
  · rw [dec_bad l h hw]; exact ⟨Nat.le_refl _, part_pos l⟩
  · rw [dec_whole l h hw]; exact ⟨part_pos l, Nat.le_refl _⟩
end Utf
/- The document's words for texts of bytes, as plain functions on lists of bytes, and what the loops need of them: blanks and words. -/
namespace Asc
def isBlank (c : UInt8) : Bool := c == 9 || c == 10 || c == 12 || c == 13 || c == 32
/-- One byte more: the words that are whole, and the one that is under way. -/
def wstep (st : List (List UInt8) × List UInt8) (c : UInt8) : List (List UInt8) × List UInt8 :=
  if isBlank c then (if st.2.isEmpty then (st.1, []) else (st.1 ++ [st.2], [])) else (st.1, st.2 ++ [c])
def wfin (st : List (List UInt8) × List UInt8) : List (List UInt8) := if st.2.isEmpty then st.1 else st.1 ++ [st.2]
def wst (l : List UInt8) : List (List UInt8) × List UInt8 := l.foldl wstep ([], [])
def words (l : List UInt8) : List (List UInt8) := wfin (wst l)
theorem take_snoc (l : List UInt8) (k : Nat) (h : k < l.length) : l.take (k + 1) = l.take k ++ [l[k]] := by
  rw [List.take_succ_eq_append_getElem h]
theorem wst_snoc (l : List UInt8) (c : UInt8) : wst (l ++ [c]) = wstep (wst l) c := by simp [wst, List.foldl_append]
theorem snoc_ind {α : Type} {P : List α → Prop} (h0 : P []) (h1 : ∀ l c, P l → P (l ++ [c])) (l : List α) : P l := by
  rw [← List.reverse_reverse l]
  induction l.reverse with
  | nil => exact h0
  | cons c r ih => rw [List.reverse_cons]; exact h1 _ _ ih
theorem wst_len (l : List UInt8) : (wst l).1.length + (wst l).2.length ≤ l.length := by
  refine snoc_ind (P := fun l => (wst l).1.length + (wst l).2.length ≤ l.length) ?_ ?_ l
  · simp [wst]
  · intro l c ih
    rw [wst_snoc]
    unfold wstep
    split
    · split
      · simp; omega
      · rename_i h
        have : (wst l).2 ≠ [] := by simpa using h
        have := List.length_pos_iff.2 this
        simp; omega
    · simp; omega
theorem words_len (l : List UInt8) : (words l).length ≤ l.length := by
  have := wst_len l
  unfold words wfin
  split
  · omega
  · rename_i h
    have : (wst l).2 ≠ [] := by simpa using h
    have := List.length_pos_iff.2 this
    simp; omega
theorem wst_next (l : List UInt8) (k : Nat) (h : k < l.length) : wst (l.take (k + 1)) = wstep (wst (l.take k)) l[k] := by
  rw [take_snoc l k h, wst_snoc]
theorem len_drop (l : List UInt8) (k f : Nat) (h : k ≤ l.length) : ((l.take k).drop f).length = k - f := by
  rw [List.length_drop, List.length_take]; omega
theorem word_blank (l : List UInt8) (k f : Nat) (h : k < l.length) (hb : isBlank l[k] = true) (hf : f < k) (hc : (wst (l.take k)).2 = (l.take k).drop f) :
    wst (l.take (k + 1)) = ((wst (l.take k)).1 ++ [(l.take k).drop f], []) := by
  rw [wst_next l k h]
  unfold wstep
  have : ((l.take k).drop f).isEmpty = false := by
    rw [Bool.eq_false_iff]
    intro e
    have := len_drop l k f (by omega)
    rw [List.isEmpty_iff.1 e] at this
    simp at this
    omega
  rw [if_pos hb, hc, this]
  rfl
theorem word_gap (l : List UInt8) (k f : Nat) (h : k < l.length) (hb : isBlank l[k] = true) (hf : ¬ f < k) (hc : (wst (l.take k)).2 = (l.take k).drop f) :
    wst (l.take (k + 1)) = ((wst (l.take k)).1, []) := by
  rw [wst_next l k h]
  unfold wstep
  have : (l.take k).drop f = [] := by
    apply List.drop_eq_nil_of_le
    rw [List.length_take]; omega
  rw [if_pos hb, hc, this]
  rfl
theorem word_on (l : List UInt8) (k f : Nat) (h : k < l.length) (hb : isBlank l[k] = false) (hf : f ≤ k) (hc : (wst (l.take k)).2 = (l.take k).drop f) :
    wst (l.take (k + 1)) = ((wst (l.take k)).1, (l.take (k + 1)).drop f) := by
  rw [wst_next l k h]
  unfold wstep
  rw [hb, hc, take_snoc l k h, List.drop_append_of_le_length (by rw [List.length_take]; omega)]
  rfl
theorem words_more (l : List UInt8) (k f : Nat) (h : ¬ k < l.length) (hk : k ≤ l.length) (hf : f < l.length) (hc : (wst (l.take k)).2 = (l.take k).drop f) :
    words l = (wst (l.take k)).1 ++ [(l.take l.length).drop f] := by
  have : k = l.length := by omega
  subst this
  rw [List.take_length] at hc ⊢
  unfold words wfin
  rw [hc]
  have : (l.drop f).isEmpty = false := by
    rw [Bool.eq_false_iff]
    intro e
    have := List.length_drop (i := f) (l := l)
    rw [List.isEmpty_iff.1 e] at this
    simp at this
    omega
  rw [this]
  rfl
theorem words_done (l : List UInt8) (k f : Nat) (h : ¬ k < l.length) (hk : k ≤ l.length) (hf : ¬ f < l.length) (hc : (wst (l.take k)).2 = (l.take k).drop f) :
    words l = (wst (l.take k)).1 := by
  have : k = l.length := by omega
  subst this
  rw [List.take_length] at hc ⊢
  unfold words wfin
  rw [hc, List.drop_eq_nil_of_le (by omega)]
  rfl
end Asc
/- Plain functions: bytes to lower, hex digits and hex numbers. -/
namespace Asc
def lowN (n : Int) : Int := if 65 ≤ n ∧ n ≤ 90 then n + 32 else n
def lowerC (c : UInt8) : UInt8 := if 65 ≤ c ∧ c ≤ 90 then c + 32 else c
def lower (l : List UInt8) : List UInt8 := l.map lowerC
theorem lowN_byte (c : UInt8) : lowN (c.toNat : Int) = ((lowerC c).toNat : Int) := by
  unfold lowN lowerC
  have e : ((65 : Int) ≤ (c.toNat : Int) ∧ (c.toNat : Int) ≤ 90) ↔ (65 ≤ c ∧ c ≤ 90) := by
    rw [UInt8.le_iff_toNat_le, UInt8.le_iff_toNat_le]
    simp
    omega
  by_cases h : 65 ≤ c ∧ c ≤ 90
  · rw [if_pos (e.2 h), if_pos h]
    have := e.2 h
    rw [UInt8.toNat_add]
    simp
    omega
  · rw [if_neg (fun x => h (e.1 x)), if_neg h]
theorem lowN_bd (n : Int) (h0 : 0 ≤ n) (h1 : n ≤ 255) : 0 ≤ lowN n ∧ lowN n ≤ 255 := by unfold lowN; split <;> omega
theorem lower_snoc (l : List UInt8) (c : UInt8) : lower (l ++ [c]) = lower l ++ [lowerC c] := by simp [lower]
/-- A hex digit's number, and whether it is one. -/
def hexOk (n : Int) : Bool := decide (48 ≤ n ∧ n ≤ 57) || decide (97 ≤ n ∧ n ≤ 102) || decide (65 ≤ n ∧ n ≤ 70)
def hexV (n : Int) : Int := if 48 ≤ n ∧ n ≤ 57 then n - 48 else if 97 ≤ n ∧ n ≤ 102 then n - 87 else if 65 ≤ n ∧ n ≤ 70 then n - 55 else 0
theorem hexV_bd (n : Int) : 0 ≤ hexV n ∧ hexV n ≤ 15 := by unfold hexV; split; omega; split; omega; split <;> omega
theorem hex_digit (n : Int) (h : 48 ≤ lowN n) (h2 : lowN n ≤ 57) : hexV n = lowN n - 48 ∧ hexOk n = true := by
  have e : lowN n = n := by unfold lowN at *; split at h <;> omega
  rw [e] at h h2
  unfold hexV hexOk
  rw [if_pos ⟨h, h2⟩, e]
  simp [h, h2]
theorem hex_letter (n : Int) (h : 97 ≤ lowN n) (h2 : lowN n ≤ 102) : hexV n = lowN n - 97 + 10 ∧ hexOk n = true := by
  unfold lowN at *
  unfold hexV hexOk
  split at h
  · rw [if_pos (by assumption)] at h2
    rw [if_neg (by omega), if_neg (by omega), if_pos (by omega)]
    refine ⟨by omega, ?_⟩
    simp only [Bool.or_eq_true, decide_eq_true_eq]
    omega
  · rw [if_neg (by assumption)] at h2
    rw [if_neg (by omega), if_pos (by omega)]
    refine ⟨by omega, ?_⟩
    simp only [Bool.or_eq_true, decide_eq_true_eq]
    omega
theorem hex_none (n : Int) (h : lowN n < 48 ∨ (57 < lowN n ∧ lowN n < 97) ∨ 102 < lowN n) : hexV n = 0 ∧ hexOk n = false := by
  have hn : ¬ (48 ≤ n ∧ n ≤ 57) ∧ ¬ (97 ≤ n ∧ n ≤ 102) ∧ ¬ (65 ≤ n ∧ n ≤ 70) := by
    unfold lowN at h
    split at h <;> omega
  unfold hexV hexOk
  rw [if_neg hn.1, if_neg hn.2.1, if_neg hn.2.2, decide_eq_false hn.1, decide_eq_false hn.2.1, decide_eq_false hn.2.2]
  exact ⟨rfl, rfl⟩
def bt (c : UInt8) : Int := (c.toNat : Int)
def allHex (l : List UInt8) : Bool := l.all fun c => hexOk (bt c)
/-- The number, as far as it stays below 2^32. -/
def hexFold : Int → List UInt8 → Option Int
  | n, [] => some n
  | n, c :: r => if 268435455 < n then none else hexFold (n * 16 + hexV (bt c)) r
/-- The document's Hex: the number and the error's number. -/
def hexNum (l : List UInt8) : Int := if allHex l = true ∧ l ≠ [] then (hexFold 0 l).getD 0 else 0
def hexErr (l : List UInt8) : Int := if allHex l = true ∧ l ≠ [] then (match hexFold 0 l with | some _ => 0 | none => 5) else 3
theorem drop_at (l : List UInt8) (k : Nat) (h : k < l.length) : l.drop k = l[k] :: l.drop (k + 1) := List.drop_eq_getElem_cons h
theorem hexFold_next (l : List UInt8) (k : Nat) (n : Int) (h : k < l.length) (hn : n ≤ 268435455) : hexFold n (l.drop k) = hexFold (n * 16 + hexV (bt l[k])) (l.drop (k + 1)) := by
  rw [drop_at l k h, hexFold, if_neg (by omega)]
theorem hexFold_stop (l : List UInt8) (k : Nat) (n : Int) (h : k < l.length) (hn : 268435455 < n) : hexFold n (l.drop k) = none := by
  rw [drop_at l k h, hexFold, if_pos hn]
theorem hexFold_end (l : List UInt8) (k : Nat) (n : Int) (h : l.length ≤ k) : hexFold n (l.drop k) = some n := by
  rw [List.drop_eq_nil_of_le h, hexFold]
theorem hex_form (l : List UInt8) (h : ¬ (allHex l = true ∧ l ≠ [])) : hexNum l = 0 ∧ hexErr l = 3 := by
  unfold hexNum hexErr; rw [if_neg h, if_neg h]; exact ⟨rfl, rfl⟩
theorem hex_many (l : List UInt8) (h : allHex l = true ∧ l ≠ []) (hf : hexFold 0 l = none) : hexNum l = 0 ∧ hexErr l = 5 := by
  unfold hexNum hexErr; rw [if_pos h, if_pos h, hf]; exact ⟨rfl, rfl⟩
theorem hex_ok (l : List UInt8) (n : Int) (h : allHex l = true ∧ l ≠ []) (hf : hexFold 0 l = some n) : hexNum l = n ∧ hexErr l = 0 := by
  unfold hexNum hexErr; rw [if_pos h, if_pos h, hf]; exact ⟨rfl, rfl⟩
theorem allHex_take (l : List UInt8) (k : Nat) (h : k < l.length) : allHex (l.take (k + 1)) = (allHex (l.take k) && hexOk (bt l[k])) := by
  unfold allHex
  rw [List.take_succ_eq_append_getElem h, List.all_append]
  simp
theorem allHex_not (l : List UInt8) (k : Nat) (h : k < l.length) (hn : hexOk (bt l[k]) = false) : allHex l = false := by
  unfold allHex
  rw [List.all_eq_false]
  exact ⟨l[k], List.getElem_mem h, by simp [hn]⟩
def hexForm (l : List UInt8) : Bool := allHex l && !l.isEmpty
theorem hexForm_no (l : List UInt8) (h : hexForm l = false) : ¬ (allHex l = true ∧ l ≠ []) := by
  rintro ⟨h1, h2⟩
  unfold hexForm at h
  rw [h1] at h
  simp at h
  exact h2 h
theorem hexForm_yes (l : List UInt8) (h : hexForm l = true) : allHex l = true ∧ l ≠ [] := by
  unfold hexForm at h
  rw [Bool.and_eq_true] at h
  exact ⟨h.1, by have := h.2; intro e; rw [e] at this; simp at this⟩
end Asc
/- Plain functions: a text split at a byte. -/
namespace Asc
/-- One byte more: the parts that are whole, and the one that is under way. -/
def sstep (b : UInt8) (st : List (List UInt8) × List UInt8) (c : UInt8) : List (List UInt8) × List UInt8 :=
  if c = b then (st.1 ++ [st.2], []) else (st.1, st.2 ++ [c])
def sst (b : UInt8) (l : List UInt8) : List (List UInt8) × List UInt8 := l.foldl (sstep b) ([], [])
def split (l : List UInt8) (b : UInt8) : List (List UInt8) := (sst b l).1 ++ [(sst b l).2]
theorem sst_snoc (b : UInt8) (l : List UInt8) (c : UInt8) : sst b (l ++ [c]) = sstep b (sst b l) c := by simp [sst, List.foldl_append]
theorem sst_next (b : UInt8) (l : List UInt8) (k : Nat) (h : k < l.length) : sst b (l.take (k + 1)) = sstep b (sst b (l.take k)) l[k] := by
  rw [take_snoc l k h, sst_snoc]
theorem sst_len (b : UInt8) (l : List UInt8) : (sst b l).1.length ≤ l.length ∧ (sst b l).2.length ≤ l.length := by
  refine snoc_ind (P := fun l => (sst b l).1.length ≤ l.length ∧ (sst b l).2.length ≤ l.length) ?_ ?_ l
  · simp [sst]
  · intro l c ih
    rw [sst_snoc]
    unfold sstep
    split
    · simp; omega
    · simp; omega
theorem split_cut (b : UInt8) (l : List UInt8) (k f : Nat) (h : k < l.length) (hb : l[k] = b) (hc : (sst b (l.take k)).2 = (l.take k).drop f) :
    sst b (l.take (k + 1)) = ((sst b (l.take k)).1 ++ [(l.take k).drop f], []) := by
  rw [sst_next b l k h, sstep, if_pos hb, hc]
theorem split_on (b : UInt8) (l : List UInt8) (k f : Nat) (h : k < l.length) (hb : ¬ l[k] = b) (hf : f ≤ k) (hc : (sst b (l.take k)).2 = (l.take k).drop f) :
    sst b (l.take (k + 1)) = ((sst b (l.take k)).1, (l.take (k + 1)).drop f) := by
  rw [sst_next b l k h, sstep, if_neg hb, hc, take_snoc l k h, List.drop_append_of_le_length (by rw [List.length_take]; omega)]
end Asc
/- Plain facts: parts joined. -/
namespace Asc
open Go
theorem join_next (ts : List (List UInt8)) (sep t : List UInt8) (k : Nat) (h : ts[k]? = some t) : Lib.join (ts.take (k + 1)) sep = if k = 0 then t else Lib.join (ts.take k) sep ++ sep ++ t := by
  cases ts with
  | nil => simp at h
  | cons x r =>
    cases k with
    | zero =>
      simp at h
      subst h
      rw [if_pos rfl]
      exact Lib.join_one x sep
    | succ k =>
      rw [if_neg (by omega), List.take_succ_cons, List.take_succ_cons, Lib.join_cons, Lib.join_cons, Lib.joinTail_take_succ sep r k t (by simpa using h)]
      simp [List.append_assoc]
theorem join_len (ts : List (List UInt8)) (sep : List UInt8) : (Lib.join ts sep).length ≤ sep.length * ts.length + Lib.lens ts := by
  cases ts with
  | nil => simp [Lib.join_nil]
  | cons x r =>
    rw [Lib.join_cons, List.length_append, Lib.joinTail_length, List.length_cons, Nat.mul_succ]
    simp only [Lib.lens, List.map_cons, List.sum_cons]
    omega
theorem join_take_le (ts : List (List UInt8)) (sep : List UInt8) (k : Nat) : (Lib.join (ts.take k) sep).length ≤ (Lib.join ts sep).length := by
  cases ts with
  | nil => simp
  | cons x r =>
    cases k with
    | zero => simp [Lib.join_nil]
    | succ k =>
      rw [List.take_succ_cons, Lib.join_cons, Lib.join_cons, List.length_append, List.length_append]
      have := Lib.joinTail_take_le sep r k
      omega
theorem lens_snoc (ts : List (List UInt8)) (t : List UInt8) : Lib.lens (ts ++ [t]) = Lib.lens ts + t.length := by simp [Lib.lens]
theorem wst_lens (l : List UInt8) : Lib.lens (wst l).1 + (wst l).2.length ≤ l.length := by
  refine snoc_ind (P := fun l => Lib.lens (wst l).1 + (wst l).2.length ≤ l.length) ?_ ?_ l
  · simp [wst, Lib.lens]
  · intro l c ih
    rw [wst_snoc]
    unfold wstep
    split
    · split
      · simp; omega
      · rw [lens_snoc]; simp; omega
    · simp; omega
theorem words_lens (l : List UInt8) : Lib.lens (words l) ≤ l.length := by
  have := wst_lens l
  unfold words wfin
  split
  · omega
  · rw [lens_snoc]; omega
def squeeze (l : List UInt8) : List UInt8 := Lib.join (words l) [32]
theorem squeeze_len (l : List UInt8) : (squeeze l).length ≤ 2 * l.length := by
  have h1 := join_len (words l) [32]
  have h2 := words_len l
  have h3 := words_lens l
  unfold squeeze
  simp only [List.length_singleton, Nat.one_mul] at h1
  omega
end Asc
/- Plain functions: decimal numbers. -/
namespace Asc
def isDig (n : Int) : Bool := decide (48 ≤ n ∧ n ≤ 57)
def allDig (l : List UInt8) : Bool := l.all fun c => isDig (bt c)
def digForm (l : List UInt8) : Bool := allDig l && !l.isEmpty
/-- The number, as far as it stays at most 'most'. -/
def numFold (most : Int) : Int → List UInt8 → Option Int
  | n, [] => some n
  | n, c :: r => if most < n * 10 + (bt c - 48) then none else numFold most (n * 10 + (bt c - 48)) r
def numNum (l : List UInt8) (most : Int) : Int := if digForm l = true then (if most < 0 then 0 else (numFold most 0 l).getD 0) else 0
def numErr (l : List UInt8) (most : Int) : Int := if digForm l = true then (if most < 0 then 5 else (match numFold most 0 l with | some _ => 0 | none => 5)) else 3
theorem num_form (l : List UInt8) (most : Int) (h : digForm l = false) : numNum l most = 0 ∧ numErr l most = 3 := by
  unfold numNum numErr; rw [h]; exact ⟨rfl, rfl⟩
theorem num_neg (l : List UInt8) (most : Int) (h : digForm l = true) (hm : most < 0) : numNum l most = 0 ∧ numErr l most = 5 := by
  unfold numNum numErr; rw [if_pos h, if_pos h, if_pos hm, if_pos hm]; exact ⟨rfl, rfl⟩
theorem num_many (l : List UInt8) (most : Int) (h : digForm l = true) (hm : 0 ≤ most) (hf : numFold most 0 l = none) : numNum l most = 0 ∧ numErr l most = 5 := by
  unfold numNum numErr; rw [if_pos h, if_pos h, if_neg (by omega), if_neg (by omega), hf]; exact ⟨rfl, rfl⟩
theorem num_ok (l : List UInt8) (most n : Int) (h : digForm l = true) (hm : 0 ≤ most) (hf : numFold most 0 l = some n) : numNum l most = n ∧ numErr l most = 0 := by
  unfold numNum numErr; rw [if_pos h, if_pos h, if_neg (by omega), if_neg (by omega), hf]; exact ⟨rfl, rfl⟩
theorem numFold_next (most : Int) (l : List UInt8) (k : Nat) (n : Int) (h : k < l.length) (hn : ¬ most < n * 10 + (bt l[k] - 48)) : numFold most n (l.drop k) = numFold most (n * 10 + (bt l[k] - 48)) (l.drop (k + 1)) := by
  rw [drop_at l k h, numFold, if_neg hn]
theorem numFold_stop (most : Int) (l : List UInt8) (k : Nat) (n : Int) (h : k < l.length) (hn : most < n * 10 + (bt l[k] - 48)) : numFold most n (l.drop k) = none := by
  rw [drop_at l k h, numFold, if_pos hn]
theorem numFold_end (most : Int) (l : List UInt8) (k : Nat) (n : Int) (h : l.length ≤ k) : numFold most n (l.drop k) = some n := by
  rw [List.drop_eq_nil_of_le h, numFold]
theorem allDig_take (l : List UInt8) (k : Nat) (h : k < l.length) : allDig (l.take (k + 1)) = (allDig (l.take k) && isDig (bt l[k])) := by
  unfold allDig
  rw [List.take_succ_eq_append_getElem h, List.all_append]
  simp
theorem allDig_not (l : List UInt8) (k : Nat) (h : k < l.length) (hn : isDig (bt l[k]) = false) : allDig l = false := by
  unfold allDig
  rw [List.all_eq_false]
  exact ⟨l[k], List.getElem_mem h, by simp [hn]⟩
theorem allDig_at (l : List UInt8) (k : Nat) (h : k < l.length) (ha : allDig l = true) : 48 ≤ bt l[k] ∧ bt l[k] ≤ 57 := by
  unfold allDig at ha
  have := List.all_eq_true.1 ha l[k] (List.getElem_mem h)
  simpa [isDig] using this
theorem digForm_all (l : List UInt8) (h : digForm l = true) : allDig l = true := by
  unfold digForm at h
  rw [Bool.and_eq_true] at h
  exact h.1
/-- The step past the greatest, as the program asks it. -/
theorem past (n most d : Int) (h0 : 0 ≤ d) (h1 : d ≤ 9) : (most < n * 10 + d) ↔ (most / 10 < n ∨ (n = most / 10 ∧ most % 10 < d)) := by omega
end Asc
/- Plain functions: a text without the blanks at its ends. -/
namespace Asc
def trimL (l : List UInt8) : List UInt8 := l.dropWhile isBlank
def trimR (l : List UInt8) : List UInt8 := (l.reverse.dropWhile isBlank).reverse
def trim (l : List UInt8) : List UInt8 := trimR (trimL l)
theorem trimL_next (l : List UInt8) (f : Nat) (h : f < l.length) (hb : isBlank l[f] = true) : trimL (l.drop (f + 1)) = trimL (l.drop f) := by
  unfold trimL
  rw [List.drop_eq_getElem_cons h, List.dropWhile_cons_of_pos hb]
theorem trimL_stop (l : List UInt8) (f : Nat) (h : f < l.length) (hb : isBlank l[f] = false) : trimL (l.drop f) = l.drop f := by
  unfold trimL
  rw [List.drop_eq_getElem_cons h, List.dropWhile_cons_of_neg (by simp [hb])]
theorem trimL_end (l : List UInt8) (f : Nat) (h : l.length ≤ f) : trimL (l.drop f) = l.drop f := by
  rw [List.drop_eq_nil_of_le h]; rfl
theorem trimR_blank (a : List UInt8) (c : UInt8) (h : isBlank c = true) : trimR (a ++ [c]) = trimR a := by
  unfold trimR
  rw [List.reverse_append, List.reverse_singleton, List.singleton_append, List.dropWhile_cons_of_pos h]
theorem trimR_stop (a : List UInt8) (c : UInt8) (h : isBlank c = false) : trimR (a ++ [c]) = a ++ [c] := by
  unfold trimR
  rw [List.reverse_append, List.reverse_singleton, List.singleton_append, List.dropWhile_cons_of_neg (by simp [h])]
  simp
theorem part_snoc (l : List UInt8) (f t : Nat) (h : t < l.length) (hf : f ≤ t) : (l.take (t + 1)).drop f = (l.take t).drop f ++ [l[t]] := by
  rw [List.take_succ_eq_append_getElem h, List.drop_append_of_le_length (by rw [List.length_take]; omega)]
theorem trimR_next (l : List UInt8) (f t : Nat) (h : t < l.length) (hf : f ≤ t) (hb : isBlank l[t] = true) : trimR ((l.take t).drop f) = trimR ((l.take (t + 1)).drop f) := by
  rw [part_snoc l f t h hf, trimR_blank _ _ hb]
theorem trimR_done (l : List UInt8) (f t : Nat) (h : t < l.length) (hf : f ≤ t) (hb : isBlank l[t] = false) : trimR ((l.take (t + 1)).drop f) = (l.take (t + 1)).drop f := by
  rw [part_snoc l f t h hf, trimR_stop _ _ hb]
theorem trimR_empty (l : List UInt8) (f t : Nat) (h : t ≤ f) : trimR ((l.take t).drop f) = (l.take t).drop f := by
  rw [List.drop_eq_nil_of_le (by rw [List.length_take]; omega)]; rfl
end Asc
/- Plain facts: to lower twice is once; trimmed and squeezed, too; words have no blanks. -/
namespace Asc
open Go
theorem lowerC_twice (c : UInt8) : lowerC (lowerC c) = lowerC c := by
  unfold lowerC
  by_cases h : 65 ≤ c ∧ c ≤ 90
  · rw [if_pos h, if_neg]
    intro h2
    have h3 := h.1
    have h4 := h.2
    have h5 := h2.2
    rw [UInt8.le_iff_toNat_le] at h3 h4 h5
    rw [UInt8.toNat_add] at h5
    have e1 : (65 : UInt8).toNat = 65 := rfl
    have e2 : (90 : UInt8).toNat = 90 := rfl
    have e3 : (32 : UInt8).toNat = 32 := rfl
    omega
  · rw [if_neg h, if_neg h]
theorem lower_twice (l : List UInt8) : lower (lower l) = lower l := by
  unfold lower
  rw [List.map_map]
  apply List.map_congr_left
  intro c _
  exact lowerC_twice c
/-- No blank in it. -/
def Bare (l : List UInt8) : Prop := ∀ c ∈ l, isBlank c = false
theorem wst_bare (l : List UInt8) : (∀ w ∈ (wst l).1, w ≠ [] ∧ Bare w) ∧ Bare (wst l).2 := by
  refine snoc_ind (P := fun l => (∀ w ∈ (wst l).1, w ≠ [] ∧ Bare w) ∧ Bare (wst l).2) ?_ ?_ l
  · exact ⟨by simp [wst], by intro c hc; simp [wst] at hc⟩
  · rintro l c ⟨h1, h2⟩
    rw [wst_snoc]
    unfold wstep
    by_cases hb : isBlank c = true
    · rw [if_pos hb]
      by_cases he : (wst l).2.isEmpty = true
      · rw [if_pos he]
        exact ⟨h1, by intro c hc; cases hc⟩
      · rw [if_neg he]
        refine ⟨?_, by intro c hc; cases hc⟩
        intro w hw
        rcases List.mem_append.1 hw with hw | hw
        · exact h1 w hw
        · rw [List.mem_singleton] at hw
          subst hw
          exact ⟨by intro e; rw [e] at he; exact he rfl, h2⟩
    · rw [if_neg hb]
      refine ⟨h1, ?_⟩
      intro x hx
      rcases List.mem_append.1 hx with hx | hx
      · exact h2 x hx
      · rw [List.mem_singleton] at hx
        subst hx
        simpa using hb
theorem words_bare (l : List UInt8) : ∀ w ∈ words l, w ≠ [] ∧ Bare w := by
  obtain ⟨h1, h2⟩ := wst_bare l
  unfold words wfin
  split
  · exact h1
  · rename_i he
    intro w hw
    rcases List.mem_append.1 hw with hw | hw
    · exact h1 w hw
    · rw [List.mem_singleton] at hw
      subst hw
      exact ⟨by intro e; rw [e] at he; exact he rfl, h2⟩
/-- A word under way goes on. -/
theorem fold_bare (l : List UInt8) (h : Bare l) : ∀ st : List (List UInt8) × List UInt8, l.foldl wstep st = (st.1, st.2 ++ l) := by
  induction l with
  | nil => intro st; simp
  | cons c r ih =>
    intro st
    have hc := h c List.mem_cons_self
    rw [List.foldl_cons, ih (fun x hx => h x (List.mem_cons_of_mem _ hx)), wstep, hc]
    simp
theorem words_one (w : List UInt8) (hn : w ≠ []) (h : Bare w) : words w = [w] := by
  unfold words wst
  rw [fold_bare w h]
  simp [wfin, hn]
theorem trimL_bare (w : List UInt8) (h : Bare w) : trimL w = w := by
  cases w with
  | nil => rfl
  | cons c r => exact List.dropWhile_cons_of_neg (by rw [h c List.mem_cons_self]; decide)
theorem trimR_bare (w : List UInt8) (h : Bare w) : trimR w = w := by
  unfold trimR
  have hb : Bare w.reverse := fun c hc => h c (List.mem_reverse.1 hc)
  have e : w.reverse.dropWhile isBlank = w.reverse := trimL_bare w.reverse hb
  rw [e, List.reverse_reverse]
theorem trim_bare (w : List UInt8) (h : Bare w) : trim w = w := by
  unfold trim
  rw [trimL_bare w h, trimR_bare w h]
/-- The words behind a joined list of words: they are that list. -/
theorem fold_tail (r : List (List UInt8)) (h : ∀ w ∈ r, w ≠ [] ∧ Bare w) : ∀ (ts : List (List UInt8)) (t : List UInt8), t ≠ [] → wfin ((Lib.joinTail [32] r).foldl wstep (ts, t)) = ts ++ t :: r := by
  induction r with
  | nil =>
    intro ts t ht
    simp [Lib.joinTail, wfin, ht]
  | cons w r ih =>
    intro ts t ht
    obtain ⟨h1, h2⟩ := h w List.mem_cons_self
    have e : Lib.joinTail [32] (w :: r) = 32 :: (w ++ Lib.joinTail [32] r) := by simp [Lib.joinTail]
    rw [e, List.foldl_cons, List.foldl_append, fold_bare w h2]
    have e2 : wstep (ts, t) 32 = (ts ++ [t], []) := by
      unfold wstep
      rw [if_pos (by decide), if_neg (by simpa using ht)]
    rw [e2, List.nil_append, ih (fun x hx => h x (List.mem_cons_of_mem _ hx)) (ts ++ [t]) w h1]
    simp
theorem words_join (ws : List (List UInt8)) (h : ∀ w ∈ ws, w ≠ [] ∧ Bare w) : words (Lib.join ws [32]) = ws := by
  cases ws with
  | nil => rfl
  | cons w r =>
    obtain ⟨h1, h2⟩ := h w List.mem_cons_self
    rw [Lib.join_cons]
    unfold words wst
    rw [List.foldl_append, fold_bare w h2, List.nil_append, fold_tail r (fun x hx => h x (List.mem_cons_of_mem _ hx)) [] w h1]
    rfl
theorem words_squeeze (l : List UInt8) : words (squeeze l) = words l := words_join _ (words_bare l)
theorem squeeze_twice (l : List UInt8) : squeeze (squeeze l) = squeeze l := by
  show Lib.join (words (squeeze l)) [32] = Lib.join (words l) [32]
  rw [words_squeeze]
/-- Neither its first byte nor its last is a blank. -/
theorem trimL_head (l : List UInt8) (h : ∀ c, l.head? = some c → isBlank c = false) : trimL l = l := by
  cases l with
  | nil => rfl
  | cons c r => exact List.dropWhile_cons_of_neg (by rw [h c rfl]; decide)
theorem trimR_last (l : List UInt8) (h : ∀ c, l.getLast? = some c → isBlank c = false) : trimR l = l := by
  unfold trimR
  have e : l.reverse.dropWhile isBlank = l.reverse := trimL_head l.reverse (fun c hc => h c (by rw [List.head?_reverse] at hc; exact hc))
  rw [e, List.reverse_reverse]
theorem head_bare (w r : List UInt8) (hn : w ≠ []) (h : Bare w) : ∀ c, (w ++ r).head? = some c → isBlank c = false := by
  intro c hc
  cases w with
  | nil => exact absurd rfl hn
  | cons x y =>
    simp at hc
    subst hc
    exact h x List.mem_cons_self
theorem last_tail (r : List (List UInt8)) (h : ∀ w ∈ r, w ≠ [] ∧ Bare w) : ∀ a : List UInt8, a ≠ [] → (∀ c, a.getLast? = some c → isBlank c = false) → ∀ c, (a ++ Lib.joinTail [32] r).getLast? = some c → isBlank c = false := by
  induction r with
  | nil => intro a _ ha c hc; simp [Lib.joinTail] at hc; exact ha c hc
  | cons w r ih =>
    intro a han ha c hc
    obtain ⟨h1, h2⟩ := h w List.mem_cons_self
    have e : a ++ Lib.joinTail [32] (w :: r) = (a ++ 32 :: w) ++ Lib.joinTail [32] r := by simp [Lib.joinTail]
    rw [e] at hc
    refine ih (fun x hx => h x (List.mem_cons_of_mem _ hx)) (a ++ 32 :: w) (by simp) ?_ c hc
    intro d hd
    rw [show a ++ 32 :: w = (a ++ [32]) ++ w from by simp, List.getLast?_append] at hd
    cases hl : w.getLast? with
    | none => exact absurd (List.getLast?_eq_none_iff.1 hl) h1
    | some x =>
      rw [hl] at hd
      simp at hd
      subst hd
      exact h2 x (List.mem_of_getLast? hl)
theorem trim_squeeze (l : List UInt8) : trim (squeeze l) = squeeze l := by
  have hw := words_bare l
  unfold squeeze
  cases he : words l with
  | nil => rfl
  | cons w r =>
    rw [he] at hw
    obtain ⟨h1, h2⟩ := hw w List.mem_cons_self
    unfold trim
    rw [Lib.join_cons, trimL_head _ (head_bare w _ h1 h2)]
    exact trimR_last _ (last_tail r (fun x hx => hw x (List.mem_cons_of_mem _ hx)) w h1 (fun c hc => h2 c (List.mem_of_getLast? hc)))
theorem trimR_prefix (l : List UInt8) : ∃ r, l = trimR l ++ r := by
  unfold trimR
  have := List.takeWhile_append_dropWhile (p := isBlank) (l := l.reverse)
  refine ⟨(l.reverse.takeWhile isBlank).reverse, ?_⟩
  rw [← List.reverse_append, this, List.reverse_reverse]
theorem trimL_idem (l : List UInt8) : ∀ c, (trimL l).head? = some c → isBlank c = false := by
  intro c hc
  unfold trimL at hc
  have := List.head?_dropWhile_not isBlank l
  rw [hc] at this
  simpa using this
theorem trimR_last_ok (l : List UInt8) : ∀ c, (trimR l).getLast? = some c → isBlank c = false := by
  intro c hc
  unfold trimR at hc
  rw [List.getLast?_reverse] at hc
  exact trimL_idem l.reverse c hc
theorem trim_twice (l : List UInt8) : trim (trim l) = trim l := by
  show trimR (trimL (trim l)) = trim l
  have h1 : trimL (trim l) = trim l := by
    apply trimL_head
    intro c hc
    obtain ⟨r, hr⟩ := trimR_prefix (trimL l)
    apply trimL_idem l c
    rw [hr]
    have : (trimR (trimL l)).head? = some c := hc
    cases ht : trimR (trimL l) with
    | nil => rw [ht] at this; cases this
    | cons x y => rw [ht] at this; simpa using this
  rw [h1]
  exact trimR_last _ (trimR_last_ok (trimL l))
end Asc
