/- Texts laid as one. -/
import Derived.Lib.DecodeNEq
import Derived.Lib.RuneBytes
import Derived.Lib.Join
/- Signs as bytes: the document's words as plain functions on lists of bytes, and what the walks and the promises need of them. -/
set_option linter.unusedVariables false
set_option linter.unusedSimpArgs false
namespace Utf
open Go.Lib
def at' (l : List UInt8) (i : Nat) : Nat := (l.getD i 0).toNat
theorem at_lt (l : List UInt8) (i : Nat) : at' l i < 256 := (l.getD i 0).toNat_lt
/-- How many bytes a sign has that begins with this one (0: there is none), and between which two its second byte lies. -/
def sz (b : Nat) : Nat := if b < 128 then 1 else if b < 194 then 0 else if b < 224 then 2 else if b < 240 then 3 else if b < 245 then 4 else 0
def lo (b : Nat) : Nat := if b = 224 then 160 else if b = 240 then 144 else 128
def hi (b : Nat) : Nat := if b = 237 then 159 else if b = 244 then 143 else 191
/-- The length of the sign at the beginning, or of the largest good part, and whether it is a sign. -/
def partN (n b0 b1 b2 b3 : Nat) : Nat × Bool :=
  if sz b0 = 1 then (1, true)
  else if sz b0 = 0 then (1, false)
  else if ¬ (1 < n ∧ lo b0 ≤ b1 ∧ b1 ≤ hi b0) then (1, false)
  else if sz b0 = 2 then (2, true)
  else if ¬ (2 < n ∧ 128 ≤ b2 ∧ b2 ≤ 191) then (2, false)
  else if sz b0 = 3 then (3, true)
  else if ¬ (3 < n ∧ 128 ≤ b3 ∧ b3 ≤ 191) then (3, false)
  else (4, true)
def part (l : List UInt8) : Nat × Bool := partN l.length (at' l 0) (at' l 1) (at' l 2) (at' l 3)
def dec (l : List UInt8) : Nat × Nat := decodeN l.length (at' l 0) (at' l 1) (at' l 2) (at' l 3)
theorem partN_pos (n b0 b1 b2 b3 : Nat) : 1 ≤ (partN n b0 b1 b2 b3).1 := by
  unfold partN
  repeat' split
  all_goals simp
theorem partN_le4 (n b0 b1 b2 b3 : Nat) : (partN n b0 b1 b2 b3).1 ≤ 4 := by
  unfold partN
  repeat' split
  all_goals simp
theorem partN_len (n b0 b1 b2 b3 : Nat) (h : 1 ≤ n) : (partN n b0 b1 b2 b3).1 ≤ n := by
  unfold partN
  repeat' split
  all_goals simp
  all_goals omega
theorem part_pos (l : List UInt8) : 1 ≤ (part l).1 := partN_pos ..
theorem part_le4 (l : List UInt8) : (part l).1 ≤ 4 := partN_le4 ..
theorem part_len (l : List UInt8) (h : l ≠ []) : (part l).1 ≤ l.length := partN_len _ _ _ _ _ (by cases l <;> simp at h ⊢)
theorem class_cases (b : Nat) (h : b < 256) : b < 128 ∨ (128 ≤ b ∧ b < 194) ∨ (194 ≤ b ∧ b < 224) ∨ b = 224 ∨ ((225 ≤ b ∧ b < 237) ∨ (238 ≤ b ∧ b < 240)) ∨ b = 237 ∨ b = 240 ∨ (241 ≤ b ∧ b < 244) ∨ b = 244 ∨ 245 ≤ b := by omega
theorem decodeN_none (n b0 b1 b2 b3 : Nat) (hb : (128 ≤ b0 ∧ b0 < 194) ∨ (245 ≤ b0 ∧ b0 < 256)) (h1 : b1 < 256) (h2 : b2 < 256) (h3 : b3 < 256) : decodeN n b0 b1 b2 b3 = (65533, 1) := by
  unfold decodeN
  repeat' split
  all_goals first | rfl | (exfalso; omega)
set_option maxHeartbeats 1000000 in
theorem decodeN_part (n b0 b1 b2 b3 : Nat) (hn : 1 ≤ n) (h0 : b0 < 256) (h1 : b1 < 256) (h2 : b2 < 256) (h3 : b3 < 256) :
    ((partN n b0 b1 b2 b3).2 = true → (decodeN n b0 b1 b2 b3).2 = (partN n b0 b1 b2 b3).1) ∧ ((partN n b0 b1 b2 b3).2 = false → decodeN n b0 b1 b2 b3 = (65533, 1)) := by
  rcases class_cases b0 h0 with h | h | h | h | h | h | h | h | h | h
  · have : sz b0 = 1 := by unfold sz; simp [h]
    have hd : decodeN n b0 b1 b2 b3 = (b0, 1) := by unfold decodeN; simp [h]
    simp [partN, this, hd]
  · have : sz b0 = 0 := by unfold sz; rw [if_neg (by omega), if_pos h.2]
    simp [partN, this, decodeN_none n b0 b1 b2 b3 (.inl h) h1 h2 h3]
  · have e : sz b0 = 2 := by unfold sz; rw [if_neg (by omega), if_neg (by omega), if_pos h.2]
    have f : lo b0 = 128 := by unfold lo; rw [if_neg (by omega), if_neg (by omega)]
    have g : hi b0 = 191 := by unfold hi; rw [if_neg (by omega), if_neg (by omega)]
    rw [← slow_C2 n b0 b1 b2 b3 hn h1 h2 h3 h]
    unfold partN slowN
    rw [e, f, g]
    repeat' split
    all_goals first | (exfalso; omega) | simp
  · have e : sz b0 = 3 := by subst h; rfl
    have f : lo b0 = 160 := by subst h; rfl
    have g : hi b0 = 191 := by subst h; rfl
    rw [← slow_E0 n b0 b1 b2 b3 hn h1 h2 h3 h]
    unfold partN slowN
    rw [e, f, g]
    repeat' split
    all_goals first | (exfalso; omega) | simp
  · have e : sz b0 = 3 := by unfold sz; rw [if_neg (by omega), if_neg (by omega), if_neg (by omega), if_pos (by omega)]
    have f : lo b0 = 128 := by unfold lo; rw [if_neg (by omega), if_neg (by omega)]
    have g : hi b0 = 191 := by unfold hi; rw [if_neg (by omega), if_neg (by omega)]
    rw [← slow_E1 n b0 b1 b2 b3 hn h1 h2 h3 h]
    unfold partN slowN
    rw [e, f, g]
    repeat' split
    all_goals first | (exfalso; omega) | simp
  · have e : sz b0 = 3 := by subst h; rfl
    have f : lo b0 = 128 := by subst h; rfl
    have g : hi b0 = 159 := by subst h; rfl
    rw [← slow_ED n b0 b1 b2 b3 hn h1 h2 h3 h]
    unfold partN slowN
    rw [e, f, g]
    repeat' split
    all_goals first | (exfalso; omega) | simp
  · have e : sz b0 = 4 := by subst h; rfl
    have f : lo b0 = 144 := by subst h; rfl
    have g : hi b0 = 191 := by subst h; rfl
    rw [← slow_F0 n b0 b1 b2 b3 hn h1 h2 h3 h]
    unfold partN slowN
    rw [e, f, g]
    repeat' split
    all_goals first | (exfalso; omega) | simp
  · have e : sz b0 = 4 := by unfold sz; rw [if_neg (by omega), if_neg (by omega), if_neg (by omega), if_neg (by omega), if_pos (by omega)]
    have f : lo b0 = 128 := by unfold lo; rw [if_neg (by omega), if_neg (by omega)]
    have g : hi b0 = 191 := by unfold hi; rw [if_neg (by omega), if_neg (by omega)]
    rw [← slow_F1 n b0 b1 b2 b3 hn h1 h2 h3 h]
    unfold partN slowN
    rw [e, f, g]
    repeat' split
    all_goals first | (exfalso; omega) | simp
  · have e : sz b0 = 4 := by subst h; rfl
    have f : lo b0 = 128 := by subst h; rfl
    have g : hi b0 = 143 := by subst h; rfl
    rw [← slow_F4 n b0 b1 b2 b3 hn h1 h2 h3 h]
    unfold partN slowN
    rw [e, f, g]
    repeat' split
    all_goals first | (exfalso; omega) | simp
  · have : sz b0 = 0 := by unfold sz; rw [if_neg (by omega), if_neg (by omega), if_neg (by omega), if_neg (by omega), if_neg (by omega)]
    simp [partN, this, decodeN_none n b0 b1 b2 b3 (.inr ⟨h, h0⟩) h1 h2 h3]
theorem len_pos {l : List UInt8} (h : l ≠ []) : 1 ≤ l.length := by cases l <;> simp at h ⊢
theorem dec_whole (l : List UInt8) (h : l ≠ []) (hw : (part l).2 = true) : (dec l).2 = (part l).1 :=
  (decodeN_part _ _ _ _ _ (len_pos h) (at_lt l 0) (at_lt l 1) (at_lt l 2) (at_lt l 3)).1 hw
theorem dec_bad (l : List UInt8) (h : l ≠ []) (hw : (part l).2 = false) : dec l = (65533, 1) :=
  (decodeN_part _ _ _ _ _ (len_pos h) (at_lt l 0) (at_lt l 1) (at_lt l 2) (at_lt l 3)).2 hw
/-- Behind the first byte of a part stand bytes that begin no sign. -/
theorem part_cont (l : List UInt8) (j : Nat) (h1 : 1 ≤ j) (h2 : j < (part l).1) : 128 ≤ at' l j ∧ at' l j ≤ 191 := by
  have h4 := part_le4 l
  have hl : 128 ≤ lo (at' l 0) := by
    unfold lo
    repeat' split
    all_goals omega
  have hh : hi (at' l 0) ≤ 191 := by
    unfold hi
    repeat' split
    all_goals omega
  unfold part partN at h2
  revert h2
  repeat' split
  all_goals intro h2
  all_goals simp only at h2
  all_goals try omega
  · obtain rfl : j = 1 := by omega
    omega
  · obtain rfl : j = 1 := by omega
    omega
  · obtain rfl | rfl : j = 1 ∨ j = 2 := by omega
    · omega
    · omega
  · obtain rfl | rfl : j = 1 ∨ j = 2 := by omega
    · omega
    · omega
  · obtain rfl | rfl | rfl : j = 1 ∨ j = 2 ∨ j = 3 := by omega
    · omega
    · omega
    · omega
theorem dec_cont (l : List UInt8) (h : 128 ≤ at' l 0 ∧ at' l 0 ≤ 191) : dec l = (65533, 1) :=
  decodeN_none _ _ _ _ _ (.inl ⟨h.1, by omega⟩) (at_lt l 1) (at_lt l 2) (at_lt l 3)
theorem at_drop (l : List UInt8) (k i : Nat) : at' (l.drop k) i = at' l (k + i) := by
  unfold at'
  simp [List.getD_eq_getElem?_getD, List.getElem?_drop]
/-- Is a number a sign? -/
def right (c : Int) : Bool := decide (0 ≤ c ∧ c ≤ 1114111 ∧ (c < 55296 ∨ 57343 < c))
def mend (c : Int) : Int := if right c then c else 65533
theorem encode_mend (c : Int) : encodeRune (mend c) = encodeRune c := by
  unfold mend
  split
  · rfl
  · rename_i h
    have h' : ¬ (0 ≤ c ∧ c ≤ 1114111 ∧ (c < 55296 ∨ 57343 < c)) := by simpa [right] using h
    unfold encodeRune
    congr 1
    have : encodeRuneZ c = [239, 191, 189] := by
      unfold encodeRuneZ
      rw [if_neg (by omega), if_neg (by omega), if_neg (by omega), if_neg (by omega)]
    rw [this]
    rfl
end Utf
/- Texts, gone through sign by sign: whether bytes are a text, they mended, their signs, and where a beginning may end; and the promises that follow. -/
namespace Utf
open Go.Lib
theorem rest_lt (l : List UInt8) (h : l ≠ []) : (l.drop (part l).1).length < l.length := by
  have := part_pos l; have := len_pos h
  rw [List.length_drop]; omega
def isText (l : List UInt8) : Bool :=
  if h : l = [] then true else (part l).2 && isText (l.drop (part l).1)
termination_by l.length
decreasing_by exact rest_lt l h
def rep (l : List UInt8) : List UInt8 :=
  if h : l = [] then [] else encodeRune (dec l).1 ++ rep (l.drop (part l).1)
termination_by l.length
decreasing_by exact rest_lt l h
def cut (l : List UInt8) (most : Int) : Nat :=
  if h : l = [] then 0 else if ((part l).1 : Int) > most then 0 else (part l).1 + cut (l.drop (part l).1) (most - (part l).1)
termination_by l.length
decreasing_by exact rest_lt l h
theorem ind {P : List UInt8 → Prop} (h0 : P []) (h1 : ∀ l, l ≠ [] → P (l.drop (part l).1) → P l) (l : List UInt8) : P l := by
  generalize hn : l.length = n
  induction n using Nat.strongRecOn generalizing l with
  | ind n ih =>
    by_cases h : l = []
    · subst h; exact h0
    · exact h1 l h (ih _ (hn ▸ rest_lt l h) _ rfl)
theorem isText_nil : isText [] = true := by rw [isText]; simp
theorem isText_go (l : List UInt8) (h : l ≠ []) : isText l = ((part l).2 && isText (l.drop (part l).1)) := by rw [isText]; simp [h]
theorem rep_nil : rep [] = [] := by rw [rep]; simp
theorem rep_go (l : List UInt8) (h : l ≠ []) : rep l = encodeRune (dec l).1 ++ rep (l.drop (part l).1) := by rw [rep]; simp [h]
/-! ### a sign's bytes tell it -/
theorem byteZ (x : Int) (h0 : 0 ≤ x) (h1 : x < 256) : (x.toNat.toUInt8).toNat = x.toNat := by
  simp
  omega
theorem byte_eq {x : Int} {c : UInt8} (h : x = (c.toNat : Int)) : x.toNat.toUInt8 = c := by
  subst h
  simp
theorem at0 (a : UInt8) (l : List UInt8) : at' (a :: l) 0 = a.toNat := rfl
theorem at1 (a b : UInt8) (l : List UInt8) : at' (a :: b :: l) 1 = b.toNat := rfl
theorem at2 (a b c : UInt8) (l : List UInt8) : at' (a :: b :: c :: l) 2 = c.toNat := rfl
theorem at3 (a b c d : UInt8) (l : List UInt8) : at' (a :: b :: c :: d :: l) 3 = d.toNat := rfl
theorem sz_1 {b : Nat} (h : b < 128) : sz b = 1 := by unfold sz; rw [if_pos h]
theorem sz_2 {b : Nat} (h : 194 ≤ b ∧ b < 224) : sz b = 2 := by unfold sz; rw [if_neg (by omega), if_neg (by omega), if_pos h.2]
theorem sz_3 {b : Nat} (h : 224 ≤ b ∧ b < 240) : sz b = 3 := by unfold sz; rw [if_neg (by omega), if_neg (by omega), if_neg (by omega), if_pos h.2]
theorem sz_4 {b : Nat} (h : 240 ≤ b ∧ b < 245) : sz b = 4 := by unfold sz; rw [if_neg (by omega), if_neg (by omega), if_neg (by omega), if_neg (by omega), if_pos h.2]
theorem sz_inv (b : Nat) (h : sz b ≠ 0) : (sz b = 1 ∧ b < 128) ∨ (sz b = 2 ∧ 194 ≤ b ∧ b < 224) ∨ (sz b = 3 ∧ 224 ≤ b ∧ b < 240) ∨ (sz b = 4 ∧ 240 ≤ b ∧ b < 245) := by
  unfold sz at *
  revert h
  repeat' split
  all_goals omega
theorem lo_lt (b : Nat) : (b = 224 → lo b = 160) ∧ (b = 240 → lo b = 144) ∧ 128 ≤ lo b ∧ (b ≠ 224 → b ≠ 240 → lo b = 128) := by
  unfold lo
  repeat' split
  all_goals omega
theorem hi_lt (b : Nat) : (b = 237 → hi b = 159) ∧ (b = 244 → hi b = 143) ∧ hi b ≤ 191 ∧ (b ≠ 237 → b ≠ 244 → hi b = 191) := by
  unfold hi
  repeat' split
  all_goals omega
theorem part_1 (n b0 b1 b2 b3 : Nat) (h : b0 < 128) : partN n b0 b1 b2 b3 = (1, true) := by
  unfold partN; rw [if_pos (sz_1 h)]
theorem part_2 (n b0 b1 b2 b3 : Nat) (hn : 1 < n) (h : 194 ≤ b0 ∧ b0 < 224) (h1 : 128 ≤ b1 ∧ b1 ≤ 191) : partN n b0 b1 b2 b3 = (2, true) := by
  have a := lo_lt b0; have b := hi_lt b0
  unfold partN; rw [sz_2 h, if_neg (by omega), if_neg (by omega), if_neg (by omega), if_pos rfl]
theorem part_3 (n b0 b1 b2 b3 : Nat) (hn : 2 < n) (h : 224 ≤ b0 ∧ b0 < 240) (h1 : lo b0 ≤ b1 ∧ b1 ≤ hi b0) (h2 : 128 ≤ b2 ∧ b2 ≤ 191) : partN n b0 b1 b2 b3 = (3, true) := by
  unfold partN; rw [sz_3 h, if_neg (by omega), if_neg (by omega), if_neg (by omega), if_neg (by omega), if_neg (by omega), if_pos rfl]
theorem part_4 (n b0 b1 b2 b3 : Nat) (hn : 3 < n) (h : 240 ≤ b0 ∧ b0 < 245) (h1 : lo b0 ≤ b1 ∧ b1 ≤ hi b0) (h2 : 128 ≤ b2 ∧ b2 ≤ 191) (h3 : 128 ≤ b3 ∧ b3 ≤ 191) : partN n b0 b1 b2 b3 = (4, true) := by
  unfold partN; rw [sz_4 h, if_neg (by omega), if_neg (by omega), if_neg (by omega), if_neg (by omega), if_neg (by omega), if_neg (by omega), if_neg (by omega)]
theorem dec_1 (n b0 b1 b2 b3 : Nat) (h : b0 < 128) : decodeN n b0 b1 b2 b3 = (b0, 1) := by unfold decodeN; rw [if_pos h]
theorem dec_2 (n b0 b1 b2 b3 : Nat) (hn : 1 < n) (h : 194 ≤ b0 ∧ b0 < 224) (h1 : 128 ≤ b1 ∧ b1 ≤ 191) : decodeN n b0 b1 b2 b3 = (b0 % 32 * 64 + b1 % 64, 2) := by
  unfold decodeN; rw [if_neg (by omega), if_pos (by omega), if_pos (by omega)]
theorem dec_3 (n b0 b1 b2 b3 : Nat) (hn : 2 < n) (h : 224 ≤ b0 ∧ b0 < 240) (h1 : lo b0 ≤ b1 ∧ b1 ≤ hi b0) (h2 : 128 ≤ b2 ∧ b2 ≤ 191) : decodeN n b0 b1 b2 b3 = (b0 % 16 * 4096 + b1 % 64 * 64 + b2 % 64, 3) := by
  have a := lo_lt b0; have b := hi_lt b0
  unfold decodeN; rw [if_neg (by omega), if_neg (by omega), if_pos (by omega), if_pos (by omega)]
theorem dec_4 (n b0 b1 b2 b3 : Nat) (hn : 3 < n) (h : 240 ≤ b0 ∧ b0 < 245) (h1 : lo b0 ≤ b1 ∧ b1 ≤ hi b0) (h2 : 128 ≤ b2 ∧ b2 ≤ 191) (h3 : 128 ≤ b3 ∧ b3 ≤ 191) : decodeN n b0 b1 b2 b3 = (b0 % 8 * 262144 + b1 % 64 * 4096 + b2 % 64 * 64 + b3 % 64, 4) := by
  have a := lo_lt b0; have b := hi_lt b0
  unfold decodeN; rw [if_neg (by omega), if_neg (by omega), if_neg (by omega), if_pos (by omega), if_pos (by omega)]
/-- What is put is next. -/
theorem put_next_right (c : Int) (r : List UInt8) (hc : right c = true) :
    part (encodeRune c ++ r) = ((encodeRune c).length, true) ∧ ((dec (encodeRune c ++ r)).1 : Int) = c := by
  have hr : 0 ≤ c ∧ c ≤ 1114111 ∧ (c < 55296 ∨ 57343 < c) := by simpa [right] using hc
  by_cases h1 : c ≤ 127
  · have e : encodeRune c = [c.toNat.toUInt8] := by unfold encodeRune; rw [encodeRuneZ_one hr.1 h1]; rfl
    have b0 := byteZ c hr.1 (by omega)
    rw [e]
    simp only [List.cons_append, List.nil_append, part, dec, at0, b0, List.length_cons, List.length_nil]
    rw [part_1 _ _ _ _ _ (by omega), dec_1 _ _ _ _ _ (by omega)]
    exact ⟨rfl, by simp only; omega⟩
  by_cases h2 : c ≤ 2047
  · have e : encodeRune c = [(192 + c / 64).toNat.toUInt8, (128 + c % 64).toNat.toUInt8] := by unfold encodeRune; rw [encodeRuneZ_two (by omega) h2]; rfl
    have b0 := byteZ (192 + c / 64) (by omega) (by omega)
    have b1 := byteZ (128 + c % 64) (by omega) (by omega)
    rw [e]
    simp only [List.cons_append, List.nil_append, part, dec, at0, at1, b0, b1, List.length_cons, List.length_nil]
    rw [part_2 _ _ _ _ _ (by omega) (by omega) (by omega), dec_2 _ _ _ _ _ (by omega) (by omega) (by omega)]
    exact ⟨rfl, by simp only; omega⟩
  by_cases h3 : c ≤ 65535
  · have e : encodeRune c = [(224 + c / 4096).toNat.toUInt8, (128 + c / 64 % 64).toNat.toUInt8, (128 + c % 64).toNat.toUInt8] := by unfold encodeRune; rw [encodeRuneZ_three (by omega)]; rfl
    have b0 := byteZ (224 + c / 4096) (by omega) (by omega)
    have b1 := byteZ (128 + c / 64 % 64) (by omega) (by omega)
    have b2 := byteZ (128 + c % 64) (by omega) (by omega)
    have a := lo_lt (224 + c / 4096).toNat; have b := hi_lt (224 + c / 4096).toNat
    rw [e]
    simp only [List.cons_append, List.nil_append, part, dec, at0, at1, at2, b0, b1, b2, List.length_cons, List.length_nil]
    have hb : lo (224 + c / 4096).toNat ≤ (128 + c / 64 % 64).toNat ∧ (128 + c / 64 % 64).toNat ≤ hi (224 + c / 4096).toNat := by
      constructor
      · by_cases q : (224 + c / 4096).toNat = 224
        · rw [a.1 q]; omega
        · rw [a.2.2.2 q (by omega)]; omega
      · by_cases q : (224 + c / 4096).toNat = 237
        · rw [b.1 q]; omega
        · rw [b.2.2.2 q (by omega)]; omega
    rw [part_3 _ _ _ _ _ (by omega) (by omega) hb (by omega), dec_3 _ _ _ _ _ (by omega) (by omega) hb (by omega)]
    exact ⟨rfl, by simp only; omega⟩
  · have e : encodeRune c = [(240 + c / 262144).toNat.toUInt8, (128 + c / 4096 % 64).toNat.toUInt8, (128 + c / 64 % 64).toNat.toUInt8, (128 + c % 64).toNat.toUInt8] := by unfold encodeRune; rw [encodeRuneZ_four (by omega) hr.2.1]; rfl
    have b0 := byteZ (240 + c / 262144) (by omega) (by omega)
    have b1 := byteZ (128 + c / 4096 % 64) (by omega) (by omega)
    have b2 := byteZ (128 + c / 64 % 64) (by omega) (by omega)
    have b3 := byteZ (128 + c % 64) (by omega) (by omega)
    have a := lo_lt (240 + c / 262144).toNat; have b := hi_lt (240 + c / 262144).toNat
    rw [e]
    simp only [List.cons_append, List.nil_append, part, dec, at0, at1, at2, at3, b0, b1, b2, b3, List.length_cons, List.length_nil]
    have hb : lo (240 + c / 262144).toNat ≤ (128 + c / 4096 % 64).toNat ∧ (128 + c / 4096 % 64).toNat ≤ hi (240 + c / 262144).toNat := by
      constructor
      · by_cases q : (240 + c / 262144).toNat = 240
        · rw [a.2.1 q]; omega
        · rw [a.2.2.2 (by omega) q]; omega
      · by_cases q : (240 + c / 262144).toNat = 244
        · rw [b.2.1 q]; omega
        · rw [b.2.2.2 (by omega) q]; omega
    rw [part_4 _ _ _ _ _ (by omega) (by omega) hb (by omega) (by omega), dec_4 _ _ _ _ _ (by omega) (by omega) hb (by omega) (by omega)]
    exact ⟨rfl, by simp only; omega⟩
theorem right_mend (c : Int) : right (mend c) = true := by
  unfold mend
  split
  · assumption
  · rfl
theorem put_next (c : Int) (r : List UInt8) :
    part (encodeRune c ++ r) = ((encodeRune c).length, true) ∧ ((dec (encodeRune c ++ r)).1 : Int) = mend c := by
  rw [← encode_mend c]
  exact put_next_right (mend c) r (right_mend c)
theorem enc_ne (c : Int) (r : List UInt8) : encodeRune c ++ r ≠ [] := by
  intro e
  have h := (put_next c r).1
  have h2 := part_pos (encodeRune c ++ r)
  rw [List.append_eq_nil_iff] at e
  rw [h, e.1] at h2
  simp at h2
/-- A whole part tells a sign, and is that sign's bytes. -/
theorem whole (l : List UInt8) (h : l ≠ []) (hw : (part l).2 = true) : right (dec l).1 = true ∧ encodeRune (dec l).1 = l.take (part l).1 := by
  have hn := len_pos h
  have x0 := at_lt l 0; have x1 := at_lt l 1; have x2 := at_lt l 2; have x3 := at_lt l 3
  have c0 : 0 < l.length → (at' l 0 : Int) = (l.getD 0 0).toNat := fun _ => rfl
  unfold part partN at hw
  by_cases s1 : sz (at' l 0) = 1
  · have hb : at' l 0 < 128 := by rcases sz_inv _ (by omega : sz (at' l 0) ≠ 0) with q | q | q | q <;> omega
    obtain ⟨a, r, rfl⟩ : ∃ a r, l = a :: r := by cases l with | nil => simp at hn | cons a r => exact ⟨a, r, rfl⟩
    simp only [at0] at hb
    have hp : part (a :: r) = (1, true) := by unfold part; rw [at0, part_1 _ _ _ _ _ hb]
    have hd : dec (a :: r) = (a.toNat, 1) := by unfold dec; rw [at0, dec_1 _ _ _ _ _ hb]
    rw [hp, hd]
    refine ⟨by simp only [right, decide_eq_true_eq]; omega, ?_⟩
    unfold encodeRune
    rw [encodeRuneZ_one (by omega) (by omega)]
    simp only [List.map, List.take_succ_cons, List.take_zero]
    rw [byte_eq rfl]
  rw [if_neg s1] at hw
  by_cases s0 : sz (at' l 0) = 0
  · rw [if_pos s0] at hw; cases hw
  rw [if_neg s0] at hw
  split at hw
  · cases hw
  rename_i k1
  have k1' : 1 < l.length ∧ lo (at' l 0) ≤ at' l 1 ∧ at' l 1 ≤ hi (at' l 0) := by omega
  clear k1
  have a' := lo_lt (at' l 0); have b' := hi_lt (at' l 0)
  by_cases s2 : sz (at' l 0) = 2
  · have hb : 194 ≤ at' l 0 ∧ at' l 0 < 224 := by rcases sz_inv _ s0 with q | q | q | q <;> omega
    obtain ⟨a, b, r, rfl⟩ : ∃ a b r, l = a :: b :: r := by
      match l, k1' with
      | a :: b :: r, _ => exact ⟨a, b, r, rfl⟩
      | [a], q => simp at q
      | [], q => simp at q
    simp only [at0, at1] at hb k1' a' b' x0 x1
    have h1 : 128 ≤ b.toNat ∧ b.toNat ≤ 191 := by omega
    have hp : part (a :: b :: r) = (2, true) := by unfold part; rw [at0, at1, part_2 _ _ _ _ _ k1'.1 hb h1]
    have hd : dec (a :: b :: r) = (a.toNat % 32 * 64 + b.toNat % 64, 2) := by unfold dec; rw [at0, at1, dec_2 _ _ _ _ _ k1'.1 hb h1]
    rw [hp, hd]
    refine ⟨by simp only [right, decide_eq_true_eq]; omega, ?_⟩
    unfold encodeRune
    rw [encodeRuneZ_two (by omega) (by omega)]
    simp only [List.map, List.take_succ_cons, List.take_zero]
    rw [byte_eq (c := a) (by omega), byte_eq (c := b) (by omega)]
  rw [if_neg s2] at hw
  split at hw
  · cases hw
  rename_i k2
  have k2' : 2 < l.length ∧ 128 ≤ at' l 2 ∧ at' l 2 ≤ 191 := by omega
  clear k2
  by_cases s3 : sz (at' l 0) = 3
  · have hb : 224 ≤ at' l 0 ∧ at' l 0 < 240 := by rcases sz_inv _ s0 with q | q | q | q <;> omega
    obtain ⟨a, b, c, r, rfl⟩ : ∃ a b c r, l = a :: b :: c :: r := by
      match l, k2' with
      | a :: b :: c :: r, _ => exact ⟨a, b, c, r, rfl⟩
      | [a, b], q => simp at q
      | [a], q => simp at q
      | [], q => simp at q
    simp only [at0, at1, at2] at hb k1' k2' a' b' x0 x1 x2
    have hp : part (a :: b :: c :: r) = (3, true) := by unfold part; rw [at0, at1, at2, part_3 _ _ _ _ _ k2'.1 hb k1'.2 k2'.2]
    have hd : dec (a :: b :: c :: r) = (a.toNat % 16 * 4096 + b.toNat % 64 * 64 + c.toNat % 64, 3) := by unfold dec; rw [at0, at1, at2, dec_3 _ _ _ _ _ k2'.1 hb k1'.2 k2'.2]
    rw [hp, hd]
    have hr : ∀ N : Nat, N = a.toNat % 16 * 4096 + b.toNat % 64 * 64 + c.toNat % 64 → (2048 ≤ N ∧ N < 55296) ∨ (57343 < N ∧ N ≤ 65535) := by
      intro N hN
      omega
    have hr' := hr _ rfl
    clear hr
    refine ⟨by simp only [right, decide_eq_true_eq]; omega, ?_⟩
    unfold encodeRune
    rw [encodeRuneZ_three (by simp only; omega)]
    simp only [List.map, List.take_succ_cons, List.take_zero]
    rw [byte_eq (c := a) (by omega), byte_eq (c := b) (by omega), byte_eq (c := c) (by omega)]
  rw [if_neg s3] at hw
  split at hw
  · cases hw
  rename_i k3
  have k3' : 3 < l.length ∧ 128 ≤ at' l 3 ∧ at' l 3 ≤ 191 := by omega
  clear k3
  have hb : 240 ≤ at' l 0 ∧ at' l 0 < 245 := by rcases sz_inv _ s0 with q | q | q | q <;> omega
  obtain ⟨a, b, c, d, r, rfl⟩ : ∃ a b c d r, l = a :: b :: c :: d :: r := by
    match l, k3' with
    | a :: b :: c :: d :: r, _ => exact ⟨a, b, c, d, r, rfl⟩
    | [a, b, c], q => simp at q
    | [a, b], q => simp at q
    | [a], q => simp at q
    | [], q => simp at q
  simp only [at0, at1, at2, at3] at hb k1' k2' k3' a' b' x0 x1 x2 x3
  have hp : part (a :: b :: c :: d :: r) = (4, true) := by unfold part; rw [at0, at1, at2, at3, part_4 _ _ _ _ _ k3'.1 hb k1'.2 k2'.2 k3'.2]
  have hd : dec (a :: b :: c :: d :: r) = (a.toNat % 8 * 262144 + b.toNat % 64 * 4096 + c.toNat % 64 * 64 + d.toNat % 64, 4) := by unfold dec; rw [at0, at1, at2, at3, dec_4 _ _ _ _ _ k3'.1 hb k1'.2 k2'.2 k3'.2]
  rw [hp, hd]
  have hr' : 65536 ≤ a.toNat % 8 * 262144 + b.toNat % 64 * 4096 + c.toNat % 64 * 64 + d.toNat % 64 ∧ a.toNat % 8 * 262144 + b.toNat % 64 * 4096 + c.toNat % 64 * 64 + d.toNat % 64 ≤ 1114111 := by omega
  refine ⟨by simp only [right, decide_eq_true_eq]; omega, ?_⟩
  unfold encodeRune
  rw [encodeRuneZ_four (by simp only; omega) (by simp only; omega)]
  simp only [List.map, List.take_succ_cons, List.take_zero]
  rw [byte_eq (c := a) (by omega), byte_eq (c := b) (by omega), byte_eq (c := c) (by omega), byte_eq (c := d) (by omega)]
theorem dec_right (l : List UInt8) (h : l ≠ []) : right (dec l).1 = true := by
  cases hw : (part l).2
  · rw [dec_bad l h hw]; rfl
  · exact (whole l h hw).1
theorem rep_self (l : List UInt8) : isText l = true → rep l = l := by
  refine ind (P := fun l => isText l = true → rep l = l) ?_ ?_ l
  · intro _; exact rep_nil
  · intro l h ih ht
    rw [isText_go l h, Bool.and_eq_true] at ht
    rw [rep_go l h, ih ht.2, (whole l h ht.1).2, List.take_append_drop]
theorem enc_bad : encodeRune ((65533 : Nat) : Int) = [239, 191, 189] := by decide
theorem enc_len (c : Int) : (encodeRune c).length ≤ 4 ∧ 1 ≤ (encodeRune c).length := by
  have h := (put_next c []).1
  have h1 := part_le4 (encodeRune c ++ []); have h2 := part_pos (encodeRune c ++ [])
  rw [h] at h1 h2
  exact ⟨h1, h2⟩
theorem rep_len (l : List UInt8) : (rep l).length ≤ 3 * l.length := by
  refine ind (P := fun l => (rep l).length ≤ 3 * l.length) ?_ ?_ l
  · rw [rep_nil]; simp
  · intro l h ih
    rw [rep_go l h, List.length_append]
    have hp := part_pos l; have hl := part_len l h
    rw [List.length_drop] at ih
    cases hw : (part l).2
    · rw [dec_bad l h hw, enc_bad]
      simp only [List.length_cons, List.length_nil]
      omega
    · rw [(whole l h hw).2, List.length_take]
      omega
theorem right_lt {c : Nat} (h : right (c : Int) = true) : c ≤ 1114111 := by
  have hr : 0 ≤ (c : Int) ∧ (c : Int) ≤ 1114111 ∧ ((c : Int) < 55296 ∨ 57343 < (c : Int)) := by simpa [right] using h
  omega
theorem ok_of_other (l : List UInt8) (h : l ≠ []) (hc : (dec l).1 ≠ 65533) : (part l).2 = true := by
  cases hw : (part l).2
  · rw [dec_bad l h hw] at hc; exact absurd rfl hc
  · rfl
theorem dec_step (l : List UInt8) (h : l ≠ []) : 1 ≤ (dec l).2 ∧ (dec l).2 ≤ (part l).1 := by
  cases hw : (part l).2
  · rw [dec_bad l h hw]; exact ⟨Nat.le_refl _, part_pos l⟩
  · rw [dec_whole l h hw]; exact ⟨part_pos l, Nat.le_refl _⟩
end Utf
/- The document's words for texts of bytes, as plain functions on lists of bytes, and what the loops need of them: blanks and words. -/
namespace Asc
def isBlank (c : UInt8) : Bool := c == 9 || c == 10 || c == 12 || c == 13 || c == 32
end Asc
/- Plain functions: bytes to lower, hex digits and hex numbers. -/
namespace Asc
def lowN (n : Int) : Int := if 65 ≤ n ∧ n ≤ 90 then n + 32 else n
def lowerC (c : UInt8) : UInt8 := if 65 ≤ c ∧ c ≤ 90 then c + 32 else c
def lower (l : List UInt8) : List UInt8 := l.map lowerC
theorem lowN_byte (c : UInt8) : lowN (c.toNat : Int) = ((lowerC c).toNat : Int) := by
  unfold lowN lowerC
  have e : ((65 : Int) ≤ (c.toNat : Int) ∧ (c.toNat : Int) ≤ 90) ↔ (65 ≤ c ∧ c ≤ 90) := by
    rw [UInt8.le_iff_toNat_le, UInt8.le_iff_toNat_le]
    simp
    omega
  by_cases h : 65 ≤ c ∧ c ≤ 90
  · rw [if_pos (e.2 h), if_pos h]
    have := e.2 h
    rw [UInt8.toNat_add]
    simp
    omega
  · rw [if_neg (fun x => h (e.1 x)), if_neg h]
theorem lowN_bd (n : Int) (h0 : 0 ≤ n) (h1 : n ≤ 255) : 0 ≤ lowN n ∧ lowN n ≤ 255 := by unfold lowN; split <;> omega
theorem lower_snoc (l : List UInt8) (c : UInt8) : lower (l ++ [c]) = lower l ++ [lowerC c] := by simp [lower]
/-- A hex digit's number, and whether it is one. -/
def hexOk (n : Int) : Bool := decide (48 ≤ n ∧ n ≤ 57) || decide (97 ≤ n ∧ n ≤ 102) || decide (65 ≤ n ∧ n ≤ 70)
def hexV (n : Int) : Int := if 48 ≤ n ∧ n ≤ 57 then n - 48 else if 97 ≤ n ∧ n ≤ 102 then n - 87 else if 65 ≤ n ∧ n ≤ 70 then n - 55 else 0
theorem hexV_bd (n : Int) : 0 ≤ hexV n ∧ hexV n ≤ 15 := by unfold hexV; split; omega; split; omega; split <;> omega
theorem hex_digit (n : Int) (h : 48 ≤ lowN n) (h2 : lowN n ≤ 57) : hexV n = lowN n - 48 ∧ hexOk n = true := by
  have e : lowN n = n := by unfold lowN at *; split at h <;> omega
  rw [e] at h h2
  unfold hexV hexOk
  rw [if_pos ⟨h, h2⟩, e]
  simp [h, h2]
theorem hex_letter (n : Int) (h : 97 ≤ lowN n) (h2 : lowN n ≤ 102) : hexV n = lowN n - 97 + 10 ∧ hexOk n = true := by
  unfold lowN at *
  unfold hexV hexOk
  split at h
  · rw [if_pos (by assumption)] at h2
    rw [if_neg (by omega), if_neg (by omega), if_pos (by omega)]
    refine ⟨by omega, ?_⟩
    simp only [Bool.or_eq_true, decide_eq_true_eq]
    omega
  · rw [if_neg (by assumption)] at h2
    rw [if_neg (by omega), if_pos (by omega)]
    refine ⟨by omega, ?_⟩
    simp only [Bool.or_eq_true, decide_eq_true_eq]
    omega
theorem hex_none (n : Int) (h : lowN n < 48 ∨ (57 < lowN n ∧ lowN n < 97) ∨ 102 < lowN n) : hexV n = 0 ∧ hexOk n = false := by
  have hn : ¬ (48 ≤ n ∧ n ≤ 57) ∧ ¬ (97 ≤ n ∧ n ≤ 102) ∧ ¬ (65 ≤ n ∧ n ≤ 70) := by
    unfold lowN at h
    split at h <;> omega
  unfold hexV hexOk
  rw [if_neg hn.1, if_neg hn.2.1, if_neg hn.2.2, decide_eq_false hn.1, decide_eq_false hn.2.1, decide_eq_false hn.2.2]
  exact ⟨rfl, rfl⟩
def bt (c : UInt8) : Int := (c.toNat : Int)
def allHex (l : List UInt8) : Bool := l.all fun c => hexOk (bt c)
/-- The number, as far as it stays below 2^32. -/
def hexFold : Int → List UInt8 → Option Int
  | n, [] => some n
  | n, c :: r => if 268435455 < n then none else hexFold (n * 16 + hexV (bt c)) r
/-- The document's Hex: the number and the error's number. -/
def hexNum (l : List UInt8) : Int := if allHex l = true ∧ l ≠ [] then (hexFold 0 l).getD 0 else 0
def hexErr (l : List UInt8) : Int := if allHex l = true ∧ l ≠ [] then (match hexFold 0 l with | some _ => 0 | none => 5) else 3
theorem drop_at (l : List UInt8) (k : Nat) (h : k < l.length) : l.drop k = l[k] :: l.drop (k + 1) := List.drop_eq_getElem_cons h
theorem hexFold_next (l : List UInt8) (k : Nat) (n : Int) (h : k < l.length) (hn : n ≤ 268435455) : hexFold n (l.drop k) = hexFold (n * 16 + hexV (bt l[k])) (l.drop (k + 1)) := by
  rw [drop_at l k h, hexFold, if_neg (by omega)]
theorem hexFold_stop (l : List UInt8) (k : Nat) (n : Int) (h : k < l.length) (hn : 268435455 < n) : hexFold n (l.drop k) = none := by
  rw [drop_at l k h, hexFold, if_pos hn]
theorem hexFold_end (l : List UInt8) (k : Nat) (n : Int) (h : l.length ≤ k) : hexFold n (l.drop k) = some n := by
  rw [List.drop_eq_nil_of_le h, hexFold]
theorem hex_form (l : List UInt8) (h : ¬ (allHex l = true ∧ l ≠ [])) : hexNum l = 0 ∧ hexErr l = 3 := by
  unfold hexNum hexErr; rw [if_neg h, if_neg h]; exact ⟨rfl, rfl⟩
theorem hex_many (l : List UInt8) (h : allHex l = true ∧ l ≠ []) (hf : hexFold 0 l = none) : hexNum l = 0 ∧ hexErr l = 5 := by
  unfold hexNum hexErr; rw [if_pos h, if_pos h, hf]; exact ⟨rfl, rfl⟩
theorem hex_ok (l : List UInt8) (n : Int) (h : allHex l = true ∧ l ≠ []) (hf : hexFold 0 l = some n) : hexNum l = n ∧ hexErr l = 0 := by
  unfold hexNum hexErr; rw [if_pos h, if_pos h, hf]; exact ⟨rfl, rfl⟩
theorem allHex_take (l : List UInt8) (k : Nat) (h : k < l.length) : allHex (l.take (k + 1)) = (allHex (l.take k) && hexOk (bt l[k])) := by
  unfold allHex
  rw [List.take_succ_eq_append_getElem h, List.all_append]
  simp
theorem allHex_not (l : List UInt8) (k : Nat) (h : k < l.length) (hn : hexOk (bt l[k]) = false) : allHex l = false := by
  unfold allHex
  rw [List.all_eq_false]
  exact ⟨l[k], List.getElem_mem h, by simp [hn]⟩
def hexForm (l : List UInt8) : Bool := allHex l && !l.isEmpty
theorem hexForm_no (l : List UInt8) (h : hexForm l = false) : ¬ (allHex l = true ∧ l ≠ []) := by
  rintro ⟨h1, h2⟩
  unfold hexForm at h
  rw [h1] at h
  simp at h
  exact h2 h
theorem hexForm_yes (l : List UInt8) (h : hexForm l = true) : allHex l = true ∧ l ≠ [] := by
  unfold hexForm at h
  rw [Bool.and_eq_true] at h
  exact ⟨h.1, by have := h.2; intro e; rw [e] at this; simp at this⟩
end Asc
/- Plain facts: parts joined. -/
namespace Asc
open Go
end Asc
/- Plain functions: decimal numbers. -/
namespace Asc
def isDig (n : Int) : Bool := decide (48 ≤ n ∧ n ≤ 57)
def allDig (l : List UInt8) : Bool := l.all fun c => isDig (bt c)
def digForm (l : List UInt8) : Bool := allDig l && !l.isEmpty
/-- The number, as far as it stays at most 'most'. -/
def numFold (most : Int) : Int → List UInt8 → Option Int
  | n, [] => some n
  | n, c :: r => if most < n * 10 + (bt c - 48) then none else numFold most (n * 10 + (bt c - 48)) r
def numNum (l : List UInt8) (most : Int) : Int := if digForm l = true then (if most < 0 then 0 else (numFold most 0 l).getD 0) else 0
def numErr (l : List UInt8) (most : Int) : Int := if digForm l = true then (if most < 0 then 5 else (match numFold most 0 l with | some _ => 0 | none => 5)) else 3
theorem num_form (l : List UInt8) (most : Int) (h : digForm l = false) : numNum l most = 0 ∧ numErr l most = 3 := by
  unfold numNum numErr; rw [h]; exact ⟨rfl, rfl⟩
theorem num_neg (l : List UInt8) (most : Int) (h : digForm l = true) (hm : most < 0) : numNum l most = 0 ∧ numErr l most = 5 := by
  unfold numNum numErr; rw [if_pos h, if_pos h, if_pos hm, if_pos hm]; exact ⟨rfl, rfl⟩
theorem num_many (l : List UInt8) (most : Int) (h : digForm l = true) (hm : 0 ≤ most) (hf : numFold most 0 l = none) : numNum l most = 0 ∧ numErr l most = 5 := by
  unfold numNum numErr; rw [if_pos h, if_pos h, if_neg (by omega), if_neg (by omega), hf]; exact ⟨rfl, rfl⟩
theorem num_ok (l : List UInt8) (most n : Int) (h : digForm l = true) (hm : 0 ≤ most) (hf : numFold most 0 l = some n) : numNum l most = n ∧ numErr l most = 0 := by
  unfold numNum numErr; rw [if_pos h, if_pos h, if_neg (by omega), if_neg (by omega), hf]; exact ⟨rfl, rfl⟩
theorem numFold_next (most : Int) (l : List UInt8) (k : Nat) (n : Int) (h : k < l.length) (hn : ¬ most < n * 10 + (bt l[k] - 48)) : numFold most n (l.drop k) = numFold most (n * 10 + (bt l[k] - 48)) (l.drop (k + 1)) := by
  rw [drop_at l k h, numFold, if_neg hn]
theorem numFold_stop (most : Int) (l : List UInt8) (k : Nat) (n : Int) (h : k < l.length) (hn : most < n * 10 + (bt l[k] - 48)) : numFold most n (l.drop k) = none := by
  rw [drop_at l k h, numFold, if_pos hn]
theorem numFold_end (most : Int) (l : List UInt8) (k : Nat) (n : Int) (h : l.length ≤ k) : numFold most n (l.drop k) = some n := by
  rw [List.drop_eq_nil_of_le h, numFold]
theorem allDig_take (l : List UInt8) (k : Nat) (h : k < l.length) : allDig (l.take (k + 1)) = (allDig (l.take k) && isDig (bt l[k])) := by
  unfold allDig
  rw [List.take_succ_eq_append_getElem h, List.all_append]
  simp
theorem allDig_not (l : List UInt8) (k : Nat) (h : k < l.length) (hn : isDig (bt l[k]) = false) : allDig l = false := by
  unfold allDig
  rw [List.all_eq_false]
  exact ⟨l[k], List.getElem_mem h, by simp [hn]⟩
theorem allDig_at (l : List UInt8) (k : Nat) (h : k < l.length) (ha : allDig l = true) : 48 ≤ bt l[k] ∧ bt l[k] ≤ 57 := by
  unfold allDig at ha
  have := List.all_eq_true.1 ha l[k] (List.getElem_mem h)
  simpa [isDig] using this
theorem digForm_all (l : List UInt8) (h : digForm l = true) : allDig l = true := by
  unfold digForm at h
  rw [Bool.and_eq_true] at h
  exact h.1
end Asc
/- Plain functions: a text without the blanks at its ends. -/
namespace Asc
end Asc
/- Plain facts: to lower twice is once; trimmed and squeezed, too; words have no blanks. -/
namespace Asc
open Go
theorem lowerC_twice (c : UInt8) : lowerC (lowerC c) = lowerC c := by
  unfold lowerC
  by_cases h : 65 ≤ c ∧ c ≤ 90
  · rw [if_pos h, if_neg]
    intro h2
    have h3 := h.1
    have h4 := h.2
    have h5 := h2.2
    rw [UInt8.le_iff_toNat_le] at h3 h4 h5
    rw [UInt8.toNat_add] at h5
    have e1 : (65 : UInt8).toNat = 65 := rfl
    have e2 : (90 : UInt8).toNat = 90 := rfl
    have e3 : (32 : UInt8).toNat = 32 := rfl
    omega
  · rw [if_neg h, if_neg h]
theorem lower_twice (l : List UInt8) : lower (lower l) = lower l := by
  unfold lower
  rw [List.map_map]
  apply List.map_congr_left
  intro c _
  exact lowerC_twice c
end Asc
