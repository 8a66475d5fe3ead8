/- Texts, gone through sign by sign: whether bytes are a text, they mended, their signs, and where a beginning may end; and the promises that follow. -/
import Derived.Test.YtdllcnifkiebjaaDoorUtfMath
set_option linter.unusedVariables false
set_option linter.unusedSimpArgs false
namespace Utf
open Go.Lib
theorem rest_lt (l : List UInt8) (h : l ≠ []) : (l.drop (part l).1).length < l.length := by
  have := part_pos l; have := len_pos h
  rw [List.length_drop]; omega
def isText (l : List UInt8) : Bool :=
  if h : l = [] then true else (part l).2 && isText (l.drop (part l).1)
termination_by l.length
decreasing_by exact rest_lt l h
def rep (l : List UInt8) : List UInt8 :=
  if h : l = [] then [] else encodeRune (dec l).1 ++ rep (l.drop (part l).1)
termination_by l.length
decreasing_by exact rest_lt l h
def signs (l : List UInt8) : List Nat :=
  if h : l = [] then [] else (dec l).1 :: signs (l.drop (part l).1)
termination_by l.length
decreasing_by exact rest_lt l h
def cut (l : List UInt8) (most : Int) : Nat :=
  if h : l = [] then 0 else if ((part l).1 : Int) > most then 0 else (part l).1 + cut (l.drop (part l).1) (most - (part l).1)
termination_by l.length
decreasing_by exact rest_lt l h
theorem ind {P : List UInt8 → Prop} (h0 : P []) (h1 : ∀ l, l ≠ [] → P (l.drop (part l).1) → P l) (l : List UInt8) : P l := by
  generalize hn : l.length = n
  induction n using Nat.strongRecOn generalizing l with
  | ind n ih =>
    by_cases h : l = []
    · subst h; exact h0
    · exact h1 l h (ih _ (hn ▸ rest_lt l h) _ rfl)
theorem isText_nil : isText [] = true := by rw [isText]; simp
theorem isText_go (l : List UInt8) (h : l ≠ []) : isText l = ((part l).2 && isText (l.drop (part l).1)) := by rw [isText]; simp [h]
theorem rep_nil : rep [] = [] := by rw [rep]; simp
theorem rep_go (l : List UInt8) (h : l ≠ []) : rep l = encodeRune (dec l).1 ++ rep (l.drop (part l).1) := by rw [rep]; simp [h]
theorem signs_nil : signs [] = [] := by rw [signs]; simp
theorem signs_go (l : List UInt8) (h : l ≠ []) : signs l = (dec l).1 :: signs (l.drop (part l).1) := by rw [signs]; simp [h]
theorem cut_nil (m : Int) : cut [] m = 0 := by rw [cut]; simp
theorem cut_stop (l : List UInt8) (m : Int) (hm : ((part l).1 : Int) > m) : cut l m = 0 := by
  by_cases h : l = []
  · subst h; exact cut_nil m
  · rw [cut]; simp [h, hm]
theorem cut_go (l : List UInt8) (m : Int) (h : l ≠ []) (hm : ¬ ((part l).1 : Int) > m) : cut l m = (part l).1 + cut (l.drop (part l).1) (m - (part l).1) := by rw [cut]; simp [h, hm]
/-! ### a sign's bytes tell it -/
theorem byteZ (x : Int) (h0 : 0 ≤ x) (h1 : x < 256) : (x.toNat.toUInt8).toNat = x.toNat := by
  simp
  omega
theorem byte_eq {x : Int} {c : UInt8} (h : x = (c.toNat : Int)) : x.toNat.toUInt8 = c := by
  subst h
  simp
theorem at0 (a : UInt8) (l : List UInt8) : at' (a :: l) 0 = a.toNat := rfl
theorem at1 (a b : UInt8) (l : List UInt8) : at' (a :: b :: l) 1 = b.toNat := rfl
theorem at2 (a b c : UInt8) (l : List UInt8) : at' (a :: b :: c :: l) 2 = c.toNat := rfl
theorem at3 (a b c d : UInt8) (l : List UInt8) : at' (a :: b :: c :: d :: l) 3 = d.toNat := rfl
theorem sz_1 {b : Nat} (h : b < 128) : sz b = 1 := by unfold sz; rw [if_pos h]
theorem sz_2 {b : Nat} (h : 194 ≤ b ∧ b < 224) : sz b = 2 := by unfold sz; rw [if_neg (by omega), if_neg (by omega), if_pos h.2]
theorem sz_3 {b : Nat} (h : 224 ≤ b ∧ b < 240) : sz b = 3 := by unfold sz; rw [if_neg (by omega), if_neg (by omega), if_neg (by omega), if_pos h.2]
theorem sz_4 {b : Nat} (h : 240 ≤ b ∧ b < 245) : sz b = 4 := by unfold sz; rw [if_neg (by omega), if_neg (by omega), if_neg (by omega), if_neg (by omega), if_pos h.2]
theorem sz_inv (b : Nat) (h : sz b ≠ 0) : (sz b = 1 ∧ b < 128) ∨ (sz b = 2 ∧ 194 ≤ b ∧ b < 224) ∨ (sz b = 3 ∧ 224 ≤ b ∧ b < 240) ∨ (sz b = 4 ∧ 240 ≤ b ∧ b < 245) := by
  unfold sz at *
  revert h
  repeat' split
  all_goals omega
theorem lo_lt (b : Nat) : (b = 224 → lo b = 160) ∧ (b = 240 → lo b = 144) ∧ 128 ≤ lo b ∧ (b ≠ 224 → b ≠ 240 → lo b = 128) := by
  unfold lo
  repeat' split
  all_goals omega
theorem hi_lt (b : Nat) : (b = 237 → hi b = 159) ∧ (b = 244 → hi b = 143) ∧ hi b ≤ 191 ∧ (b ≠ 237 → b ≠ 244 → hi b = 191) := by
  unfold hi
  repeat' split
  all_goals omega
theorem part_1 (n b0 b1 b2 b3 : Nat) (h : b0 < 128) : partN n b0 b1 b2 b3 = (1, true) := by
  unfold partN; rw [if_pos (sz_1 h)]
theorem part_2 (n b0 b1 b2 b3 : Nat) (hn : 1 < n) (h : 194 ≤ b0 ∧ b0 < 224) (h1 : 128 ≤ b1 ∧ b1 ≤ 191) : partN n b0 b1 b2 b3 = (2, true) := by
  have a := lo_lt b0; have b := hi_lt b0
  unfold partN; rw [sz_2 h, if_neg (by omega), if_neg (by omega), if_neg (by omega), if_pos rfl]
theorem part_3 (n b0 b1 b2 b3 : Nat) (hn : 2 < n) (h : 224 ≤ b0 ∧ b0 < 240) (h1 : lo b0 ≤ b1 ∧ b1 ≤ hi b0) (h2 : 128 ≤ b2 ∧ b2 ≤ 191) : partN n b0 b1 b2 b3 = (3, true) := by
  unfold partN; rw [sz_3 h, if_neg (by omega), if_neg (by omega), if_neg (by omega), if_neg (by omega), if_neg (by omega), if_pos rfl]
theorem part_4 (n b0 b1 b2 b3 : Nat) (hn : 3 < n) (h : 240 ≤ b0 ∧ b0 < 245) (h1 : lo b0 ≤ b1 ∧ b1 ≤ hi b0) (h2 : 128 ≤ b2 ∧ b2 ≤ 191) (h3 : 128 ≤ b3 ∧ b3 ≤ 191) : partN n b0 b1 b2 b3 = (4, true) := by
  unfold partN; rw [sz_4 h, if_neg (by omega), if_neg (by omega), if_neg (by omega), if_neg (by omega), if_neg (by omega), if_neg (by omega), if_neg (by omega)]
theorem dec_1 (n b0 b1 b2 b3 : Nat) (h : b0 < 128) : decodeN n b0 b1 b2 b3 = (b0, 1) := by unfold decodeN; rw [if_pos h]
theorem dec_2 (n b0 b1 b2 b3 : Nat) (hn : 1 < n) (h : 194 ≤ b0 ∧ b0 < 224) (h1 : 128 ≤ b1 ∧ b1 ≤ 191) : decodeN n b0 b1 b2 b3 = (b0 % 32 * 64 + b1 % 64, 2) := by
  unfold decodeN; rw [if_neg (by omega), if_pos (by omega), if_pos (by omega)]
theorem dec_3 (n b0 b1 b2 b3 : Nat) (hn : 2 < n) (h : 224 ≤ b0 ∧ b0 < 240) (h1 : lo b0 ≤ b1 ∧ b1 ≤ hi b0) (h2 : 128 ≤ b2 ∧ b2 ≤ 191) : decodeN n b0 b1 b2 b3 = (b0 % 16 * 4096 + b1 % 64 * 64 + b2 % 64, 3) := by
  have a := lo_lt b0; have b := hi_lt b0
  unfold decodeN; rw [if_neg (by omega), if_neg (by omega), if_pos (by omega), if_pos (by omega)]
theorem dec_4 (n b0 b1 b2 b3 : Nat) (hn : 3 < n) (h : 240 ≤ b0 ∧ b0 < 245) (h1 : lo b0 ≤ b1 ∧ b1 ≤ hi b0) (h2 : 128 ≤ b2 ∧ b2 ≤ 191) (h3 : 128 ≤ b3 ∧ b3 ≤ 191) : decodeN n b0 b1 b2 b3 = (b0 % 8 * 262144 + b1 % 64 * 4096 + b2 % 64 * 64 + b3 % 64, 4) := by
  have a := lo_lt b0; have b := hi_lt b0
  unfold decodeN; rw [if_neg (by omega), if_neg (by omega), if_neg (by omega), if_pos (by omega), if_pos (by omega)]
/-- What is put is next. -/
theorem put_next_right (c : Int) (r : List UInt8) (hc : right c = true) :
    part (encodeRune c ++ r) = ((encodeRune c).length, true) ∧ ((dec (encodeRune c ++ r)).1 : Int) = c := by
  have hr : 0 ≤ c ∧ c ≤ 1114111 ∧ (c < 55296 ∨ 57343 < c) := by simpa [right] using hc
  by_cases h1 : c ≤ 127
  · have e : encodeRune c = [c.toNat.toUInt8] := by unfold encodeRune; rw [encodeRuneZ_one hr.1 h1]; rfl
    have b0 := byteZ c hr.1 (by omega)
    rw [e]
    simp only [List.cons_append, List.nil_append, part, dec, at0, b0, List.length_cons, List.length_nil]
    rw [part_1 _ _ _ _ _ (by omega), dec_1 _ _ _ _ _ (by omega)]
    exact ⟨rfl, by simp only; omega⟩
  by_cases h2 : c ≤ 2047
  · have e : encodeRune c = [(192 + c / 64).toNat.toUInt8, (128 + c % 64).toNat.toUInt8] := by unfold encodeRune; rw [encodeRuneZ_two (by omega) h2]; rfl
    have b0 := byteZ (192 + c / 64) (by omega) (by omega)
    have b1 := byteZ (128 + c % 64) (by omega) (by omega)
    rw [e]
    simp only [List.cons_append, List.nil_append, part, dec, at0, at1, b0, b1, List.length_cons, List.length_nil]
    rw [part_2 _ _ _ _ _ (by omega) (by omega) (by omega), dec_2 _ _ _ _ _ (by omega) (by omega) (by omega)]
    exact ⟨rfl, by simp only; omega⟩
  by_cases h3 : c ≤ 65535
  · have e : encodeRune c = [(224 + c / 4096).toNat.toUInt8, (128 + c / 64 % 64).toNat.toUInt8, (128 + c % 64).toNat.toUInt8] := by unfold encodeRune; rw [encodeRuneZ_three (by omega)]; rfl
    have b0 := byteZ (224 + c / 4096) (by omega) (by omega)
    have b1 := byteZ (128 + c / 64 % 64) (by omega) (by omega)
    have b2 := byteZ (128 + c % 64) (by omega) (by omega)
    have a := lo_lt (224 + c / 4096).toNat; have b := hi_lt (224 + c / 4096).toNat
    rw [e]
    simp only [List.cons_append, List.nil_append, part, dec, at0, at1, at2, b0, b1, b2, List.length_cons, List.length_nil]
    have hb : lo (224 + c / 4096).toNat ≤ (128 + c / 64 % 64).toNat ∧ (128 + c / 64 % 64).toNat ≤ hi (224 + c / 4096).toNat := by
      constructor
      · by_cases q : (224 + c / 4096).toNat = 224
        · rw [a.1 q]; omega
        · rw [a.2.2.2 q (by omega)]; omega
      · by_cases q : (224 + c / 4096).toNat = 237
        · rw [b.1 q]; omega
        · rw [b.2.2.2 q (by omega)]; omega
    rw [part_3 _ _ _ _ _ (by omega) (by omega) hb (by omega), dec_3 _ _ _ _ _ (by omega) (by omega) hb (by omega)]
    exact ⟨rfl, by simp only; omega⟩
  · have e : encodeRune c = [(240 + c / 262144).toNat.toUInt8, (128 + c / 4096 % 64).toNat.toUInt8, (128 + c / 64 % 64).toNat.toUInt8, (128 + c % 64).toNat.toUInt8] := by unfold encodeRune; rw [encodeRuneZ_four (by omega) hr.2.1]; rfl
    have b0 := byteZ (240 + c / 262144) (by omega) (by omega)
    have b1 := byteZ (128 + c / 4096 % 64) (by omega) (by omega)
    have b2 := byteZ (128 + c / 64 % 64) (by omega) (by omega)
    have b3 := byteZ (128 + c % 64) (by omega) (by omega)
    have a := lo_lt (240 + c / 262144).toNat; have b := hi_lt (240 + c / 262144).toNat
    rw [e]
    simp only [List.cons_append, List.nil_append, part, dec, at0, at1, at2, at3, b0, b1, b2, b3, List.length_cons, List.length_nil]
    have hb : lo (240 + c / 262144).toNat ≤ (128 + c / 4096 % 64).toNat ∧ (128 + c / 4096 % 64).toNat ≤ hi (240 + c / 262144).toNat := by
      constructor
      · by_cases q : (240 + c / 262144).toNat = 240
        · rw [a.2.1 q]; omega
        · rw [a.2.2.2 (by omega) q]; omega
      · by_cases q : (240 + c / 262144).toNat = 244
        · rw [b.2.1 q]; omega
        · rw [b.2.2.2 (by omega) q]; omega
    rw [part_4 _ _ _ _ _ (by omega) (by omega) hb (by omega) (by omega), dec_4 _ _ _ _ _ (by omega) (by omega) hb (by omega) (by omega)]
    exact ⟨rfl, by simp only; omega⟩
theorem right_mend (c : Int) : right (mend c) = true := by
  unfold mend
  split
  · assumption
  · rfl
theorem put_next (c : Int) (r : List UInt8) :
    part (encodeRune c ++ r) = ((encodeRune c).length, true) ∧ ((dec (encodeRune c ++ r)).1 : Int) = mend c := by
  rw [← encode_mend c]
  exact put_next_right (mend c) r (right_mend c)
theorem enc_ne (c : Int) (r : List UInt8) : encodeRune c ++ r ≠ [] := by
  intro e
  have h := (put_next c r).1
  have h2 := part_pos (encodeRune c ++ r)
  rw [List.append_eq_nil_iff] at e
  rw [h, e.1] at h2
  simp at h2
/-- A whole part tells a sign, and is that sign's bytes. -/
theorem whole (l : List UInt8) (h : l ≠ []) (hw : (part l).2 = true) : right (dec l).1 = true ∧ encodeRune (dec l).1 = l.take (part l).1 := by
  have hn := len_pos h
  have x0 := at_lt l 0; have x1 := at_lt l 1; have x2 := at_lt l 2; have x3 := at_lt l 3
  have c0 : 0 < l.length → (at' l 0 : Int) = (l.getD 0 0).toNat := fun _ => rfl
  unfold part partN at hw
  by_cases s1 : sz (at' l 0) = 1
  · have hb : at' l 0 < 128 := by rcases sz_inv _ (by omega : sz (at' l 0) ≠ 0) with q | q | q | q <;> omega
    obtain ⟨a, r, rfl⟩ : ∃ a r, l = a :: r := by cases l with | nil => simp at hn | cons a r => exact ⟨a, r, rfl⟩
    simp only [at0] at hb
    have hp : part (a :: r) = (1, true) := by unfold part; rw [at0, part_1 _ _ _ _ _ hb]
    have hd : dec (a :: r) = (a.toNat, 1) := by unfold dec; rw [at0, dec_1 _ _ _ _ _ hb]
    rw [hp, hd]
    refine ⟨by simp only [right, decide_eq_true_eq]; omega, ?_⟩
    unfold encodeRune
    rw [encodeRuneZ_one (by omega) (by omega)]
    simp only [List.map, List.take_succ_cons, List.take_zero]
    rw [byte_eq rfl]
  rw [if_neg s1] at hw
  by_cases s0 : sz (at' l 0) = 0
  · rw [if_pos s0] at hw; cases hw
  rw [if_neg s0] at hw
  split at hw
  · cases hw
  rename_i k1
  have k1' : 1 < l.length ∧ lo (at' l 0) ≤ at' l 1 ∧ at' l 1 ≤ hi (at' l 0) := by omega
  clear k1
  have a' := lo_lt (at' l 0); have b' := hi_lt (at' l 0)
  by_cases s2 : sz (at' l 0) = 2
  · have hb : 194 ≤ at' l 0 ∧ at' l 0 < 224 := by rcases sz_inv _ s0 with q | q | q | q <;> omega
    obtain ⟨a, b, r, rfl⟩ : ∃ a b r, l = a :: b :: r := by
      match l, k1' with
      | a :: b :: r, _ => exact ⟨a, b, r, rfl⟩
      | [a], q => simp at q
      | [], q => simp at q
    simp only [at0, at1] at hb k1' a' b' x0 x1
    have h1 : 128 ≤ b.toNat ∧ b.toNat ≤ 191 := by omega
    have hp : part (a :: b :: r) = (2, true) := by unfold part; rw [at0, at1, part_2 _ _ _ _ _ k1'.1 hb h1]
    have hd : dec (a :: b :: r) = (a.toNat % 32 * 64 + b.toNat % 64, 2) := by unfold dec; rw [at0, at1, dec_2 _ _ _ _ _ k1'.1 hb h1]
    rw [hp, hd]
    refine ⟨by simp only [right, decide_eq_true_eq]; omega, ?_⟩
    unfold encodeRune
    rw [encodeRuneZ_two (by omega) (by omega)]
    simp only [List.map, List.take_succ_cons, List.take_zero]
    rw [byte_eq (c := a) (by omega), byte_eq (c := b) (by omega)]
  rw [if_neg s2] at hw
  split at hw
  · cases hw
  rename_i k2
  have k2' : 2 < l.length ∧ 128 ≤ at' l 2 ∧ at' l 2 ≤ 191 := by omega
  clear k2
  by_cases s3 : sz (at' l 0) = 3
  · have hb : 224 ≤ at' l 0 ∧ at' l 0 < 240 := by rcases sz_inv _ s0 with q | q | q | q <;> omega
    obtain ⟨a, b, c, r, rfl⟩ : ∃ a b c r, l = a :: b :: c :: r := by
      match l, k2' with
      | a :: b :: c :: r, _ => exact ⟨a, b, c, r, rfl⟩
      | [a, b], q => simp at q
      | [a], q => simp at q
      | [], q => simp at q
    simp only [at0, at1, at2] at hb k1' k2' a' b' x0 x1 x2
    have hp : part (a :: b :: c :: r) = (3, true) := by unfold part; rw [at0, at1, at2, part_3 _ _ _ _ _ k2'.1 hb k1'.2 k2'.2]
    have hd : dec (a :: b :: c :: r) = (a.toNat % 16 * 4096 + b.toNat % 64 * 64 + c.toNat % 64, 3) := by unfold dec; rw [at0, at1, at2, dec_3 _ _ _ _ _ k2'.1 hb k1'.2 k2'.2]
    rw [hp, hd]
    have hr : ∀ N : Nat, N = a.toNat % 16 * 4096 + b.toNat % 64 * 64 + c.toNat % 64 → (2048 ≤ N ∧ N < 55296) ∨ (57343 < N ∧ N ≤ 65535) := by
      intro N hN
      omega
    have hr' := hr _ rfl
    clear hr
    refine ⟨by simp only [right, decide_eq_true_eq]; omega, ?_⟩
    unfold encodeRune
    rw [encodeRuneZ_three (by simp only; omega)]
    simp only [List.map, List.take_succ_cons, List.take_zero]
    rw [byte_eq (c := a) (by omega), byte_eq (c := b) (by omega), byte_eq (c := c) (by omega)]
  rw [if_neg s3] at hw
  split at hw
  · cases hw
  rename_i k3
  have k3' : 3 < l.length ∧ 128 ≤ at' l 3 ∧ at' l 3 ≤ 191 := by omega
  clear k3
  have hb : 240 ≤ at' l 0 ∧ at' l 0 < 245 := by rcases sz_inv _ s0 with q | q | q | q <;> omega
  obtain ⟨a, b, c, d, r, rfl⟩ : ∃ a b c d r, l = a :: b :: c :: d :: r := by
    match l, k3' with
    | a :: b :: c :: d :: r, _ => exact ⟨a, b, c, d, r, rfl⟩
    | [a, b, c], q => simp at q
    | [a, b], q => simp at q
    | [a], q => simp at q
    | [], q => simp at q
  simp only [at0, at1, at2, at3] at hb k1' k2' k3' a' b' x0 x1 x2 x3
  have hp : part (a :: b :: c :: d :: r) = (4, true) := by unfold part; rw [at0, at1, at2, at3, part_4 _ _ _ _ _ k3'.1 hb k1'.2 k2'.2 k3'.2]
  have hd : dec (a :: b :: c :: d :: r) = (a.toNat % 8 * 262144 + b.toNat % 64 * 4096 + c.toNat % 64 * 64 + d.toNat % 64, 4) := by unfold dec; rw [at0, at1, at2, at3, dec_4 _ _ _ _ _ k3'.1 hb k1'.2 k2'.2 k3'.2]
  rw [hp, hd]
  have hr' : 65536 ≤ a.toNat % 8 * 262144 + b.toNat % 64 * 4096 + c.toNat % 64 * 64 + d.toNat % 64 ∧ a.toNat % 8 * 262144 + b.toNat % 64 * 4096 + c.toNat % 64 * 64 + d.toNat % 64 ≤ 1114111 := by omega
  refine ⟨by simp only [right, decide_eq_true_eq]; omega, ?_⟩
  unfold encodeRune
  rw [encodeRuneZ_four (by simp only; omega) (by simp only; omega)]
  simp only [List.map, List.take_succ_cons, List.take_zero]
  rw [byte_eq (c := a) (by omega), byte_eq (c := b) (by omega), byte_eq (c := c) (by omega), byte_eq (c := d) (by omega)]
theorem dec_right (l : List UInt8) (h : l ≠ []) : right (dec l).1 = true := by
  cases hw : (part l).2
  · rw [dec_bad l h hw]; rfl
  · exact (whole l h hw).1
theorem mend_right {c : Int} (h : right c = true) : mend c = c := by unfold mend; rw [if_pos h]
/-! ### what follows -/
theorem isText_put (c : Int) (r : List UInt8) : isText (encodeRune c ++ r) = isText r := by
  rw [isText_go _ (enc_ne c r), (put_next c r).1]
  simp
theorem rep_put (c : Int) (r : List UInt8) : rep (encodeRune c ++ r) = encodeRune c ++ rep r := by
  rw [rep_go _ (enc_ne c r), (put_next c r).2, (put_next c r).1, encode_mend]
  simp
theorem rep_text (l : List UInt8) : isText (rep l) = true := by
  refine ind (P := fun l => isText (rep l) = true) ?_ ?_ l
  · rw [rep_nil, isText_nil]
  · intro l h ih
    rw [rep_go l h, isText_put]; exact ih
theorem rep_rep (l : List UInt8) : rep (rep l) = rep l := by
  refine ind (P := fun l => rep (rep l) = rep l) ?_ ?_ l
  · rw [rep_nil, rep_nil]
  · intro l h ih
    rw [rep_go l h, rep_put, ih]
theorem rep_self (l : List UInt8) : isText l = true → rep l = l := by
  refine ind (P := fun l => isText l = true → rep l = l) ?_ ?_ l
  · intro _; exact rep_nil
  · intro l h ih ht
    rw [isText_go l h, Bool.and_eq_true] at ht
    rw [rep_go l h, ih ht.2, (whole l h ht.1).2, List.take_append_drop]
theorem rep_eq (l : List UInt8) : (rep l = l) = (isText l = true) := by
  apply propext
  constructor
  · intro e; have := rep_text l; rw [e] at this; exact this
  · exact rep_self l
theorem enc_bad : encodeRune ((65533 : Nat) : Int) = [239, 191, 189] := by decide
theorem enc_len (c : Int) : (encodeRune c).length ≤ 4 ∧ 1 ≤ (encodeRune c).length := by
  have h := (put_next c []).1
  have h1 := part_le4 (encodeRune c ++ []); have h2 := part_pos (encodeRune c ++ [])
  rw [h] at h1 h2
  exact ⟨h1, h2⟩
theorem rep_len (l : List UInt8) : (rep l).length ≤ 3 * l.length := by
  refine ind (P := fun l => (rep l).length ≤ 3 * l.length) ?_ ?_ l
  · rw [rep_nil]; simp
  · intro l h ih
    rw [rep_go l h, List.length_append]
    have hp := part_pos l; have hl := part_len l h
    rw [List.length_drop] at ih
    cases hw : (part l).2
    · rw [dec_bad l h hw, enc_bad]
      simp only [List.length_cons, List.length_nil]
      omega
    · rw [(whole l h hw).2, List.length_take]
      omega
theorem signs_rep (l : List UInt8) : (signs l).flatMap (fun c : Nat => encodeRune (c : Int)) = rep l := by
  refine ind (P := fun l => (signs l).flatMap (fun c : Nat => encodeRune (c : Int)) = rep l) ?_ ?_ l
  · rw [signs_nil, rep_nil]; rfl
  · intro l h ih
    rw [signs_go l h, rep_go l h, List.flatMap_cons, ih]
theorem signs_len (l : List UInt8) : (signs l).length ≤ l.length := by
  refine ind (P := fun l => (signs l).length ≤ l.length) ?_ ?_ l
  · rw [signs_nil]; exact Nat.le_refl _
  · intro l h ih
    rw [signs_go l h, List.length_cons]
    have := rest_lt l h
    omega
theorem right_lt {c : Nat} (h : right (c : Int) = true) : c ≤ 1114111 := by
  have hr : 0 ≤ (c : Int) ∧ (c : Int) ≤ 1114111 ∧ ((c : Int) < 55296 ∨ 57343 < (c : Int)) := by simpa [right] using h
  omega
/-! ### beginnings -/
theorem cut_len (l : List UInt8) (m : Int) : cut l m ≤ l.length := by
  revert m
  refine ind (P := fun l => ∀ m, cut l m ≤ l.length) ?_ ?_ l
  · intro m; rw [cut_nil]; exact Nat.zero_le _
  · intro l h ih m
    by_cases hm : ((part l).1 : Int) > m
    · rw [cut_stop l m hm]; exact Nat.zero_le _
    · rw [cut_go l m h hm]
      have := ih (m - (part l).1)
      have := part_len l h
      rw [List.length_drop] at *
      omega
theorem cut_le (l : List UInt8) (m : Int) (h0 : 0 ≤ m) : (cut l m : Int) ≤ m := by
  revert m
  refine ind (P := fun l => ∀ m, 0 ≤ m → (cut l m : Int) ≤ m) ?_ ?_ l
  · intro m h0; rw [cut_nil]; exact h0
  · intro l h ih m h0
    by_cases hm : ((part l).1 : Int) > m
    · rw [cut_stop l m hm]; exact h0
    · rw [cut_go l m h hm]
      have := ih (m - (part l).1) (by omega)
      omega
theorem cut_near (l : List UInt8) (m : Int) : cut l m = l.length ∨ (cut l m : Int) > m - 4 := by
  revert m
  refine ind (P := fun l => ∀ m, cut l m = l.length ∨ (cut l m : Int) > m - 4) ?_ ?_ l
  · intro m; rw [cut_nil]; left; rfl
  · intro l h ih m
    by_cases hm : ((part l).1 : Int) > m
    · rw [cut_stop l m hm]
      have := part_le4 l
      right; omega
    · rw [cut_go l m h hm]
      have h2 := part_len l h
      rcases ih (m - (part l).1) with q | q
      · left; rw [q, List.length_drop]; omega
      · right; omega
theorem take_cut_go (l : List UInt8) (m : Int) (h : l ≠ []) (hm : ¬ ((part l).1 : Int) > m) :
    l.take (cut l m) ≠ [] ∧ part (l.take (cut l m)) = part l ∧ (l.take (cut l m)).drop (part l).1 = (l.drop (part l).1).take (cut (l.drop (part l).1) (m - (part l).1)) := by
  have hp := part_pos l; have h2 := part_len l h
  rw [cut_go l m h hm]
  refine ⟨?_, part_take l _ h (by omega), ?_⟩
  · intro e
    have := congrArg List.length e
    rw [List.length_take, List.length_nil] at this
    omega
  · rw [List.drop_take]
    congr 1
    omega
theorem cut_text (l : List UInt8) (m : Int) (ht : isText l = true) : isText (l.take (cut l m)) = true := by
  revert m ht
  refine ind (P := fun l => ∀ m, isText l = true → isText (l.take (cut l m)) = true) ?_ ?_ l
  · intro m _; rw [List.take_nil, isText_nil]
  · intro l h ih m ht
    rw [isText_go l h, Bool.and_eq_true] at ht
    by_cases hm : ((part l).1 : Int) > m
    · rw [cut_stop l m hm, List.take_zero, isText_nil]
    · obtain ⟨h1, h2, h3⟩ := take_cut_go l m h hm
      rw [isText_go _ h1, h2, h3, ht.1, ih _ ht.2]
      rfl
theorem cut_cut (l : List UInt8) (m : Int) : cut (l.take (cut l m)) m = cut l m := by
  revert m
  refine ind (P := fun l => ∀ m, cut (l.take (cut l m)) m = cut l m) ?_ ?_ l
  · intro m; rw [List.take_nil]
  · intro l h ih m
    by_cases hm : ((part l).1 : Int) > m
    · rw [cut_stop l m hm, List.take_zero, cut_nil]
    · obtain ⟨h1, h2, h3⟩ := take_cut_go l m h hm
      rw [cut_go _ m h1 (by rw [h2]; exact hm), h2, h3, ih, ← cut_go l m h hm]
/-! ### the program's own way through a text: a stop at each byte of a part that is no sign -/
theorem bad_iff (l : List UInt8) (h : l ≠ []) (hc : (dec l).1 = 65533) : (part l).2 = true ↔ l.take 3 = [239, 191, 189] := by
  constructor
  · intro hw
    have e := (whole l h hw).2
    rw [hc, enc_bad] at e
    have h3 : (part l).1 = 3 := by
      have := congrArg List.length e
      rw [List.length_take] at this
      have := part_len l h
      simp only [List.length_cons, List.length_nil] at *
      omega
    rw [h3] at e
    exact e.symm
  · intro e
    have : l = encodeRune ((65533 : Nat) : Int) ++ l.drop 3 := by
      rw [enc_bad, ← e, List.take_append_drop]
    rw [this, (put_next _ _).1]
theorem ok_of_other (l : List UInt8) (h : l ≠ []) (hc : (dec l).1 ≠ 65533) : (part l).2 = true := by
  cases hw : (part l).2
  · rw [dec_bad l h hw] at hc; exact absurd rfl hc
  · rfl
theorem dec_step (l : List UInt8) (h : l ≠ []) : 1 ≤ (dec l).2 ∧ (dec l).2 ≤ (part l).1 := by
  cases hw : (part l).2
  · rw [dec_bad l h hw]; exact ⟨Nat.le_refl _, part_pos l⟩
  · rw [dec_whole l h hw]; exact ⟨part_pos l, Nat.le_refl _⟩
end Utf
