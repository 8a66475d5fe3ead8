/- Texts laid as one. -/
import Derived.PlainAid
import Derived.Test.YtnklbeldheocmaaGreatDoorKMath
/- Plain functions: leap years, months, years, the numbers of days; each day has its own number. -/
namespace Dat
/-- A leap year: 4 divides it, but not 100, or 400 does. -/
def leap (y : Int) : Bool := (decide (y % 4 = 0) && !decide (y % 100 = 0)) || decide (y % 400 = 0)
def yearN (y : Int) : Int := if leap y = true then 366 else 365
def monthN (y : Int) (m : Int) : Int :=
  if m = 2 then (if leap y = true then 29 else 28) else if m = 4 ∨ m = 6 ∨ m = 9 ∨ m = 11 then 30 else 31
theorem leap_iff (y : Int) : leap y = true ↔ (y % 4 = 0 ∧ y % 100 ≠ 0) ∨ y % 400 = 0 := by
  unfold leap
  simp
theorem yearN_eq (y : Int) : (((y % 4 = 0 ∧ y % 100 ≠ 0) ∨ y % 400 = 0) ∧ yearN y = 366) ∨ (¬ ((y % 4 = 0 ∧ y % 100 ≠ 0) ∨ y % 400 = 0) ∧ yearN y = 365) := by
  unfold yearN
  by_cases h : leap y = true
  · rw [if_pos h]; exact .inl ⟨(leap_iff y).1 h, rfl⟩
  · rw [if_neg h]; exact .inr ⟨fun hx => h ((leap_iff y).2 hx), rfl⟩
/-- The days of the years 1 to k. -/
def ys : Nat → Int
  | 0 => 0
  | k + 1 => ys k + yearN ((k + 1 : Nat) : Int)
theorem ys_closed : ∀ k : Nat, ys k = 365 * (k : Int) + (k : Int) / 4 - (k : Int) / 100 + (k : Int) / 400
  | 0 => by decide
  | k + 1 => by
    rw [ys, ys_closed k]
    have := yearN_eq ((k + 1 : Nat) : Int)
    omega
theorem first_day : ys 1969 = 719162 := by rw [ys_closed]; decide
theorem last_day : ys 9999 = 3652059 := by rw [ys_closed]; decide
theorem yearN_bd (y : Int) : 365 ≤ yearN y ∧ yearN y ≤ 366 := by
  have := yearN_eq y
  omega
theorem ys_mono {a b : Nat} (h : a ≤ b) : ys a ≤ ys b := by
  rw [ys_closed, ys_closed]
  omega
/-- The days of the months 1 to j of a year. -/
def ms (y : Int) : Nat → Int
  | 0 => 0
  | j + 1 => ms y j + monthN y ((j + 1 : Nat) : Int)
theorem ms_year (y : Int) : ms y 12 = yearN y := by
  unfold yearN
  cases h : leap y
  · simp [ms, monthN, h]
  · simp [ms, monthN, h]
theorem monthN_bd (y m : Int) : 28 ≤ monthN y m ∧ monthN y m ≤ 31 := by
  unfold monthN
  split
  · split <;> omega
  · split <;> omega
theorem ms_step (y : Int) (j : Nat) : ms y (j + 1) = ms y j + monthN y ((j + 1 : Nat) : Int) := rfl
theorem ms_mono (y : Int) {a b : Nat} (h : a ≤ b) : ms y a ≤ ms y b := by
  induction b with
  | zero => have : a = 0 := by omega
            rw [this]; exact Int.le_refl _
  | succ b ih =>
    by_cases hb : a ≤ b
    · have := ih hb
      have := monthN_bd y ((b + 1 : Nat) : Int)
      rw [ms_step]
      omega
    · have : a = b + 1 := by omega
      rw [this]; exact Int.le_refl _
/-- A day. -/
def Valid (y m d : Int) : Prop := 1 ≤ y ∧ y ≤ 9999 ∧ 1 ≤ m ∧ m ≤ 12 ∧ 1 ≤ d ∧ d ≤ monthN y m
/-- Its number. -/
def num (y m d : Int) : Int := ys (y.toNat - 1) - 719162 + ms y (m.toNat - 1) + d - 1
theorem in_year {y m d : Int} (h : Valid y m d) : 0 ≤ ms y (m.toNat - 1) + d - 1 ∧ ms y (m.toNat - 1) + d - 1 < yearN y := by
  obtain ⟨h1, h2, h3, h4, h5, h6⟩ := h
  have e : m.toNat - 1 + 1 = m.toNat := by omega
  have e2 : ((m.toNat : Nat) : Int) = m := by omega
  have s := ms_step y (m.toNat - 1)
  rw [e, e2] at s
  have t := ms_mono y (show m.toNat ≤ 12 by omega)
  rw [ms_year] at t
  have z := ms_mono y (show 0 ≤ m.toNat - 1 by omega)
  have z0 : ms y 0 = 0 := rfl
  omega
theorem year_lt {y z m d n e : Int} (h : Valid y m d) (k : Valid z n e) (hl : y < z) : num y m d < num z n e := by
  have a := in_year h
  have b := in_year k
  have s : ys (y.toNat - 1 + 1) = ys (y.toNat - 1) + yearN ((y.toNat - 1 + 1 : Nat) : Int) := rfl
  have e1 : ((y.toNat - 1 + 1 : Nat) : Int) = y := by have := h.1; omega
  rw [e1] at s
  have t := ys_mono (show y.toNat - 1 + 1 ≤ z.toNat - 1 by have := h.1; omega)
  unfold num
  omega
theorem month_lt {y m n d e : Int} (h : Valid y m d) (k : Valid y n e) (hl : m < n) : num y m d < num y n e := by
  have s := ms_step y (m.toNat - 1)
  have e1 : ((m.toNat - 1 + 1 : Nat) : Int) = m := by have := h.2.2.1; omega
  rw [e1] at s
  have t := ms_mono y (show m.toNat - 1 + 1 ≤ n.toNat - 1 by have := h.2.2.1; omega)
  have := h.2.2.2.2.2
  have := k.2.2.2.2.1
  unfold num
  omega
/-- Each day has its own number. -/
theorem num_inj {y m d z n e : Int} (h : Valid y m d) (k : Valid z n e) (he : num y m d = num z n e) : y = z ∧ m = n ∧ d = e := by
  have hy : y = z := by
    rcases Int.lt_trichotomy y z with hl | hl | hl
    · have := year_lt h k hl; omega
    · exact hl
    · have := year_lt k h hl; omega
  subst hy
  have hm : m = n := by
    rcases Int.lt_trichotomy m n with hl | hl | hl
    · have := month_lt h k hl; omega
    · exact hl
    · have := month_lt k h hl; omega
  subst hm
  unfold num at he
  exact ⟨rfl, rfl, by omega⟩
theorem num_bd {y m d : Int} (h : Valid y m d) : -719162 ≤ num y m d ∧ num y m d ≤ 2932896 := by
  have a := in_year h
  have s : ys (y.toNat - 1 + 1) = ys (y.toNat - 1) + yearN ((y.toNat - 1 + 1 : Nat) : Int) := rfl
  have e1 : ((y.toNat - 1 + 1 : Nat) : Int) = y := by have := h.1; omega
  rw [e1] at s
  have t := ys_mono (show y.toNat - 1 + 1 ≤ 9999 by have := h.1; have := h.2.1; omega)
  have z := ys_mono (show 0 ≤ y.toNat - 1 by omega)
  have z0 : ys 0 = 0 := rfl
  rw [last_day] at t
  unfold num
  omega
/-- What comes next. -/
theorem next_day (y m d : Int) : num y m (d + 1) = num y m d + 1 := by
  unfold num
  omega
theorem next_month {y m d : Int} (h : Valid y m d) (hd : d = monthN y m) : num y (m + 1) 1 = num y m d + 1 := by
  have s := ms_step y (m.toNat - 1)
  have e1 : ((m.toNat - 1 + 1 : Nat) : Int) = m := by have := h.2.2.1; omega
  have e2 : (m + 1).toNat - 1 = m.toNat - 1 + 1 := by have := h.2.2.1; omega
  rw [e1] at s
  unfold num
  rw [e2]
  omega
theorem next_year {y d : Int} (h : Valid y 12 d) (hd : d = monthN y 12) : num (y + 1) 1 1 = num y 12 d + 1 := by
  have s : ms y 12 = ms y 11 + monthN y 12 := ms_step y 11
  have s2 := ms_year y
  have t : ys (y.toNat - 1 + 1) = ys (y.toNat - 1) + yearN ((y.toNat - 1 + 1 : Nat) : Int) := rfl
  have e1 : ((y.toNat - 1 + 1 : Nat) : Int) = y := by have := h.1; omega
  have e2 : (y + 1).toNat - 1 = y.toNat - 1 + 1 := by have := h.1; omega
  rw [e1] at t
  unfold num
  rw [e2]
  have z0 : ms (y + 1) ((1 : Int).toNat - 1) = 0 := rfl
  have z1 : (12 : Int).toNat - 1 = 11 := by decide
  rw [z0, z1]
  omega
theorem some_year (n : Int) (h0 : 0 ≤ n) : ∀ k : Nat, n < ys k → ∃ y : Nat, y < k ∧ ys y ≤ n ∧ n < ys (y + 1)
  | 0, h => by
    have z0 : ys 0 = 0 := rfl
    omega
  | k + 1, h => by
    by_cases hk : n < ys k
    · obtain ⟨y, h1, h2⟩ := some_year n h0 k hk
      exact ⟨y, by omega, h2⟩
    · exact ⟨k, by omega, by omega, h⟩
theorem some_month (y r : Int) (h0 : 0 ≤ r) : ∀ k : Nat, r < ms y k → ∃ j : Nat, j < k ∧ ms y j ≤ r ∧ r < ms y (j + 1)
  | 0, h => by
    have z0 : ms y 0 = 0 := rfl
    omega
  | k + 1, h => by
    by_cases hk : r < ms y k
    · obtain ⟨j, h1, h2⟩ := some_month y r h0 k hk
      exact ⟨j, by omega, h2⟩
    · exact ⟨k, by omega, by omega, h⟩
/-- Each number from the first day's to the last one's is a day's. -/
theorem some_day (n : Int) (h0 : -719162 ≤ n) (h1 : n ≤ 2932896) : ∃ y m d, Valid y m d ∧ num y m d = n := by
  have hl : n + 719162 < ys 9999 := by rw [last_day]; omega
  obtain ⟨y, hy, a, b⟩ := some_year (n + 719162) (by omega) 9999 hl
  have s : ys (y + 1) = ys y + yearN ((y + 1 : Nat) : Int) := rfl
  have hr : n + 719162 - ys y < ms ((y + 1 : Nat) : Int) 12 := by rw [ms_year]; omega
  obtain ⟨j, hj, c, d⟩ := some_month ((y + 1 : Nat) : Int) (n + 719162 - ys y) (by omega) 12 hr
  have t := ms_step ((y + 1 : Nat) : Int) j
  refine ⟨((y + 1 : Nat) : Int), ((j + 1 : Nat) : Int), n + 719162 - ys y - ms ((y + 1 : Nat) : Int) j + 1, ⟨by omega, by omega, by omega, by omega, by omega, by omega⟩, ?_⟩
  unfold num
  have e1 : (((y + 1 : Nat) : Int)).toNat - 1 = y := by omega
  have e2 : (((j + 1 : Nat) : Int)).toNat - 1 = j := by omega
  rw [e1, e2]
  omega
end Dat
/- Plain functions: numbers of so many digits; a day's text, a zone's text; what is read of a text one behind the other is what the document says of the whole. -/
namespace Dat
open Asc
/-- The number of digits. -/
def val : Int → List UInt8 → Int
  | a, [] => a
  | a, c :: r => val (a * 10 + (bt c - 48)) r
theorem val_ge : ∀ (l : List UInt8) (a : Int), 0 ≤ a → allDig l = true → a ≤ val a l
  | [], a, _, _ => Int.le_refl a
  | c :: r, a, h, hd => by
    have h2 : isDig (bt c) = true ∧ allDig r = true := by simpa [allDig] using hd
    have h3 : 48 ≤ bt c ∧ bt c ≤ 57 := by simpa [isDig] using h2.1
    have := val_ge r (a * 10 + (bt c - 48)) (by omega) h2.2
    rw [val]
    omega
theorem numFold_val (most : Int) : ∀ (l : List UInt8) (a : Int), 0 ≤ a → a ≤ most → allDig l = true → numFold most a l = if val a l ≤ most then some (val a l) else none
  | [], a, _, hm, _ => by rw [numFold, val, if_pos hm]
  | c :: r, a, h, hm, hd => by
    have h2 : isDig (bt c) = true ∧ allDig r = true := by simpa [allDig] using hd
    have h3 : 48 ≤ bt c ∧ bt c ≤ 57 := by simpa [isDig] using h2.1
    rw [numFold, val]
    by_cases hx : most < a * 10 + (bt c - 48)
    · have := val_ge r (a * 10 + (bt c - 48)) (by omega) h2.2
      rw [if_pos hx, if_neg (by omega)]
    · rw [if_neg hx]
      exact numFold_val most r _ (by omega) (by omega) h2.2
/-- A number of k digits that a text begins with, in its bounds. -/
def num? (k : Nat) (lo hi : Int) (l : List UInt8) : Option Int :=
  if l.length < k then none else if numErr (l.take k) hi ≠ 0 ∨ numNum (l.take k) hi < lo then none else some (numNum (l.take k) hi)
theorem num_good {l : List UInt8} {hi : Int} (h0 : 0 ≤ hi) (hd : digForm l = true) : (numErr l hi = 0 ↔ val 0 l ≤ hi) ∧ (val 0 l ≤ hi → numNum l hi = val 0 l) := by
  have e := numFold_val hi l 0 (by omega) h0 (digForm_all l hd)
  by_cases hv : val 0 l ≤ hi
  · rw [if_pos hv] at e
    have := num_ok l hi _ hd h0 e
    exact ⟨⟨fun _ => hv, fun _ => this.2⟩, fun _ => this.1⟩
  · rw [if_neg hv] at e
    have := num_many l hi hd h0 e
    exact ⟨⟨fun h => by rw [this.2] at h; omega, fun h => absurd h hv⟩, fun h => absurd h hv⟩
theorem num_bad {l : List UInt8} {hi : Int} (hd : digForm l = false) : numErr l hi ≠ 0 := by
  rw [(num_form l hi hd).2]
  decide
theorem num?_iff {k : Nat} {lo hi v : Int} {l : List UInt8} (h0 : 0 ≤ hi) : num? k lo hi l = some v ↔ k ≤ l.length ∧ digForm (l.take k) = true ∧ v = val 0 (l.take k) ∧ lo ≤ v ∧ v ≤ hi := by
  unfold num?
  by_cases hk : l.length < k
  · rw [if_pos hk]
    constructor
    · intro h; cases h
    · intro h; omega
  rw [if_neg hk]
  cases hd : digForm (l.take k)
  · rw [if_pos (.inl (num_bad hd))]
    constructor
    · intro h; cases h
    · intro h; cases h.2.1
  · have g := num_good h0 hd
    by_cases hv : val 0 (l.take k) ≤ hi
    · rw [g.2 hv, g.1.2 hv]
      by_cases hl : val 0 (l.take k) < lo
      · rw [if_pos (.inr hl)]
        constructor
        · intro h; cases h
        · rintro ⟨_, _, rfl, h, _⟩; omega
      · rw [if_neg (by simp; omega)]
        constructor
        · intro h; cases h; exact ⟨by omega, rfl, rfl, by omega, hv⟩
        · rintro ⟨_, _, rfl, _, _⟩; rfl
    · rw [if_pos (.inl (fun h => hv (g.1.1 h)))]
      constructor
      · intro h; cases h
      · rintro ⟨_, _, rfl, _, h⟩; omega
/-- A digit. -/
def dg (c : UInt8) : Prop := 48 ≤ bt c ∧ bt c ≤ 57
theorem dg_iff (c : UInt8) : isDig (bt c) = true ↔ dg c := by simp [isDig, dg]
theorem form1 (a : UInt8) : digForm [a] = true ↔ dg a := by simp [digForm, allDig, dg_iff]
theorem form2 (a b : UInt8) : digForm [a, b] = true ↔ dg a ∧ dg b := by simp [digForm, allDig, dg_iff]
theorem form3 (a b c : UInt8) : digForm [a, b, c] = true ↔ dg a ∧ dg b ∧ dg c := by simp [digForm, allDig, dg_iff]
theorem form4 (a b c d : UInt8) : digForm [a, b, c, d] = true ↔ dg a ∧ dg b ∧ dg c ∧ dg d := by simp [digForm, allDig, dg_iff]
def v1 (a : UInt8) : Int := bt a - 48
def v2 (a b : UInt8) : Int := (bt a - 48) * 10 + (bt b - 48)
def v3 (a b c : UInt8) : Int := ((bt a - 48) * 10 + (bt b - 48)) * 10 + (bt c - 48)
def v4 (a b c d : UInt8) : Int := (((bt a - 48) * 10 + (bt b - 48)) * 10 + (bt c - 48)) * 10 + (bt d - 48)
theorem val1 (a : UInt8) : val 0 [a] = v1 a := by simp [val, v1]
theorem val2 (a b : UInt8) : val 0 [a, b] = v2 a b := by simp [val, v2]
theorem val3 (a b c : UInt8) : val 0 [a, b, c] = v3 a b c := by simp [val, v3]
theorem val4 (a b c d : UInt8) : val 0 [a, b, c, d] = v4 a b c d := by simp [val, v4]
theorem v1_bd {a : UInt8} (ha : dg a) : 0 ≤ v1 a ∧ v1 a ≤ 9 := by unfold dg at *; unfold v1; omega
theorem v2_bd {a b : UInt8} (ha : dg a) (hb : dg b) : 0 ≤ v2 a b ∧ v2 a b ≤ 99 := by unfold dg at *; unfold v2; omega
theorem v3_bd {a b c : UInt8} (ha : dg a) (hb : dg b) (hc : dg c) : 0 ≤ v3 a b c ∧ v3 a b c ≤ 999 := by unfold dg at *; unfold v3; omega
theorem v4_bd {a b c d : UInt8} (ha : dg a) (hb : dg b) (hc : dg c) (hd : dg d) : 0 ≤ v4 a b c d ∧ v4 a b c d ≤ 9999 := by unfold dg at *; unfold v4; omega
theorem len1 {l : List UInt8} (h : 1 ≤ l.length) : ∃ a r, l = a :: r := by
  match l, h with
  | a :: r, _ => exact ⟨a, r, rfl⟩
theorem len2 {l : List UInt8} (h : 2 ≤ l.length) : ∃ a b r, l = a :: b :: r := by
  match l, h with
  | a :: b :: r, _ => exact ⟨a, b, r, rfl⟩
theorem len3 {l : List UInt8} (h : 3 ≤ l.length) : ∃ a b c r, l = a :: b :: c :: r := by
  match l, h with
  | a :: b :: c :: r, _ => exact ⟨a, b, c, r, rfl⟩
theorem len4 {l : List UInt8} (h : 4 ≤ l.length) : ∃ a b c d r, l = a :: b :: c :: d :: r := by
  match l, h with
  | a :: b :: c :: d :: r, _ => exact ⟨a, b, c, d, r, rfl⟩
theorem num1_iff {lo hi v : Int} {l : List UInt8} (h0 : 0 ≤ hi) : num? 1 lo hi l = some v ↔ ∃ a r, l = a :: r ∧ dg a ∧ v = v1 a ∧ lo ≤ v ∧ v ≤ hi := by
  rw [num?_iff h0]
  constructor
  · rintro ⟨hl, hd, hv, h1, h2⟩
    obtain ⟨a, r, rfl⟩ := len1 hl
    exact ⟨a, r, rfl, (form1 a).1 hd, hv.trans (val1 a), h1, h2⟩
  · rintro ⟨a, r, rfl, ha, hv, h1, h2⟩
    exact ⟨by simp, (form1 a).2 ha, hv.trans (val1 a).symm, h1, h2⟩
theorem num2_iff {lo hi v : Int} {l : List UInt8} (h0 : 0 ≤ hi) : num? 2 lo hi l = some v ↔ ∃ a b r, l = a :: b :: r ∧ dg a ∧ dg b ∧ v = v2 a b ∧ lo ≤ v ∧ v ≤ hi := by
  rw [num?_iff h0]
  constructor
  · rintro ⟨hl, hd, hv, h1, h2⟩
    obtain ⟨a, b, r, rfl⟩ := len2 hl
    have := (form2 a b).1 hd
    exact ⟨a, b, r, rfl, this.1, this.2, hv.trans (val2 a b), h1, h2⟩
  · rintro ⟨a, b, r, rfl, ha, hb, hv, h1, h2⟩
    exact ⟨by simp, (form2 a b).2 ⟨ha, hb⟩, hv.trans (val2 a b).symm, h1, h2⟩
theorem num3_iff {lo hi v : Int} {l : List UInt8} (h0 : 0 ≤ hi) : num? 3 lo hi l = some v ↔ ∃ a b c r, l = a :: b :: c :: r ∧ dg a ∧ dg b ∧ dg c ∧ v = v3 a b c ∧ lo ≤ v ∧ v ≤ hi := by
  rw [num?_iff h0]
  constructor
  · rintro ⟨hl, hd, hv, h1, h2⟩
    obtain ⟨a, b, c, r, rfl⟩ := len3 hl
    have := (form3 a b c).1 hd
    exact ⟨a, b, c, r, rfl, this.1, this.2.1, this.2.2, hv.trans (val3 a b c), h1, h2⟩
  · rintro ⟨a, b, c, r, rfl, ha, hb, hc, hv, h1, h2⟩
    exact ⟨by simp, (form3 a b c).2 ⟨ha, hb, hc⟩, hv.trans (val3 a b c).symm, h1, h2⟩
theorem num4_iff {lo hi v : Int} {l : List UInt8} (h0 : 0 ≤ hi) : num? 4 lo hi l = some v ↔ ∃ a b c d r, l = a :: b :: c :: d :: r ∧ dg a ∧ dg b ∧ dg c ∧ dg d ∧ v = v4 a b c d ∧ lo ≤ v ∧ v ≤ hi := by
  rw [num?_iff h0]
  constructor
  · rintro ⟨hl, hd, hv, h1, h2⟩
    obtain ⟨a, b, c, d, r, rfl⟩ := len4 hl
    have := (form4 a b c d).1 hd
    exact ⟨a, b, c, d, r, rfl, this.1, this.2.1, this.2.2.1, this.2.2.2, hv.trans (val4 a b c d), h1, h2⟩
  · rintro ⟨a, b, c, d, r, rfl, ha, hb, hc, hd, hv, h1, h2⟩
    exact ⟨by simp, (form4 a b c d).2 ⟨ha, hb, hc, hd⟩, hv.trans (val4 a b c d).symm, h1, h2⟩
/-- The document's number of a text of just so many digits; -1: it is none. -/
def two (l : List UInt8) (k : Nat) : Int := if numErr l 9999 ≠ 0 ∨ l.length ≠ k then -1 else numNum l 9999
theorem two_pos {l : List UInt8} {k : Nat} (h : 0 ≤ two l k) : l.length = k ∧ digForm l = true ∧ two l k = val 0 l := by
  unfold two at h ⊢
  by_cases hx : numErr l 9999 ≠ 0 ∨ l.length ≠ k
  · rw [if_pos hx] at h; omega
  · rw [if_neg hx]
    have h1 : numErr l 9999 = 0 := by
      by_cases hy : numErr l 9999 = 0
      · exact hy
      · exact absurd (.inl hy) hx
    have h2 : l.length = k := by
      by_cases hy : l.length = k
      · exact hy
      · exact absurd (.inr hy) hx
    cases hd : digForm l
    · exact absurd h1 (num_bad hd)
    · have g := num_good (hi := 9999) (by omega) hd
      exact ⟨h2, rfl, g.2 (g.1.1 h1)⟩
theorem two_mk {l : List UInt8} {k : Nat} (hl : l.length = k) (hd : digForm l = true) (hv : val 0 l ≤ 9999) : two l k = val 0 l := by
  have g := num_good (hi := 9999) (by omega) hd
  unfold two
  rw [if_neg (by
    rintro (h | h)
    · exact h (g.1.2 hv)
    · exact h hl), g.2 hv]
theorem two2 {a b : UInt8} (ha : dg a) (hb : dg b) : two [a, b] 2 = v2 a b := by
  rw [two_mk (k := 2) rfl ((form2 a b).2 ⟨ha, hb⟩) (by rw [val2]; have := v2_bd ha hb; omega), val2]
theorem two1 {a : UInt8} (ha : dg a) : two [a] 1 = v1 a := by
  rw [two_mk (k := 1) rfl ((form1 a).2 ha) (by rw [val1]; have := v1_bd ha; omega), val1]
theorem two3 {a b c : UInt8} (ha : dg a) (hb : dg b) (hc : dg c) : two [a, b, c] 3 = v3 a b c := by
  rw [two_mk (k := 3) rfl ((form3 a b c).2 ⟨ha, hb, hc⟩) (by rw [val3]; have := v3_bd ha hb hc; omega), val3]
theorem two4 {a b c d : UInt8} (ha : dg a) (hb : dg b) (hc : dg c) (hd : dg d) : two [a, b, c, d] 4 = v4 a b c d := by
  rw [two_mk (k := 4) rfl ((form4 a b c d).2 ⟨ha, hb, hc, hd⟩) (by rw [val4]; have := v4_bd ha hb hc hd; omega), val4]
theorem two2_pos {a b : UInt8} (h : 0 ≤ two [a, b] 2) : dg a ∧ dg b ∧ two [a, b] 2 = v2 a b := by
  have := two_pos h
  exact ⟨((form2 a b).1 this.2.1).1, ((form2 a b).1 this.2.1).2, this.2.2.trans (val2 a b)⟩
theorem two1_pos {a : UInt8} (h : 0 ≤ two [a] 1) : dg a ∧ two [a] 1 = v1 a := by
  have := two_pos h
  exact ⟨((form1 a).1 this.2.1), this.2.2.trans (val1 a)⟩
theorem two3_pos {a b c : UInt8} (h : 0 ≤ two [a, b, c] 3) : dg a ∧ dg b ∧ dg c ∧ two [a, b, c] 3 = v3 a b c := by
  have := two_pos h
  have g := (form3 a b c).1 this.2.1
  exact ⟨g.1, g.2.1, g.2.2, this.2.2.trans (val3 a b c)⟩
theorem two4_pos {a b c d : UInt8} (h : 0 ≤ two [a, b, c, d] 4) : dg a ∧ dg b ∧ dg c ∧ dg d ∧ two [a, b, c, d] 4 = v4 a b c d := by
  have := two_pos h
  have g := (form4 a b c d).1 this.2.1
  exact ⟨g.1, g.2.1, g.2.2.1, g.2.2.2, this.2.2.trans (val4 a b c d)⟩
/-- What is behind a byte, if that is next. -/
def rd1 (c : UInt8) : List UInt8 → Option (List UInt8)
  | [] => none
  | x :: r => if x = c then some r else none
theorem rd1_iff (c : UInt8) (l r : List UInt8) : rd1 c l = some r ↔ l = c :: r := by
  cases l with
  | nil => simp [rd1]
  | cons x t =>
    show (if x = c then some t else none) = some r ↔ _
    by_cases h : x = c
    · rw [if_pos h, h]; simp
    · rw [if_neg h]; simp [h]
instance (y m d : Int) : Decidable (Valid y m d) := by unfold Valid; exact inferInstance
/-- The number of a day. -/
def days (y m d : Int) : Option Int := if Valid y m d then some (num y m d) else none
/-- A day's text, read of a text's beginning: the number, and what is behind. -/
def dayP (l : List UInt8) : Option (Int × List UInt8) :=
  match num? 4 1 9999 l with
  | none => none
  | some y => match rd1 45 (l.drop 4) with
    | none => none
    | some l2 => match num? 3 1 (yearN y) l2 with
      | some d => some (num y 1 1 + (d - 1), l2.drop 3)
      | none => match num? 2 1 12 l2 with
        | none => none
        | some m => match rd1 45 (l2.drop 2) with
          | none => none
          | some l4 => match num? 2 1 31 l4 with
            | none => none
            | some d => if Valid y m d then some (num y m d, l4.drop 2) else none
/-- The document's day of a text. -/
def dayR (l : List UInt8) : Option Int :=
  if l.length = 8 ∧ l[4]? = some 45 then
    (if Valid (two (l.take 4) 4) 1 1 ∧ 1 ≤ two (l.drop 5) 3 ∧ two (l.drop 5) 3 ≤ yearN (two (l.take 4) 4) then some (num (two (l.take 4) 4) 1 1 + two (l.drop 5) 3 - 1) else none)
  else if l.length = 10 ∧ l[4]? = some 45 ∧ l[7]? = some 45 then days (two (l.take 4) 4) (two ((l.take 7).drop 5) 2) (two (l.drop 8) 2)
  else none
/-- Signs of a day's text. -/
def dayC (c : UInt8) : Bool := isDig (bt c) || c == 45
theorem dayC_dg {c : UInt8} (h : dg c) : dayC c = true := by unfold dayC; rw [(dg_iff c).2 h]; rfl
theorem dayC_dash : dayC 45 = true := by decide
theorem valid_one (y : Int) : Valid y 1 1 ↔ 1 ≤ y ∧ y ≤ 9999 := by
  unfold Valid
  have := monthN_bd y 1
  constructor
  · rintro ⟨h1, h2, _⟩; exact ⟨h1, h2⟩
  · rintro ⟨h1, h2⟩; exact ⟨h1, h2, by omega, by omega, by omega, by omega⟩
theorem len5 {l : List UInt8} (h : l.length = 8) : ∃ a b c d e f g i, l = [a, b, c, d, e, f, g, i] := by
  match l, h with
  | [a, b, c, d, e, f, g, i], _ => exact ⟨a, b, c, d, e, f, g, i, rfl⟩
theorem len10 {l : List UInt8} (h : l.length = 10) : ∃ a b c d e f g i j k, l = [a, b, c, d, e, f, g, i, j, k] := by
  match l, h with
  | [a, b, c, d, e, f, g, i, j, k], _ => exact ⟨a, b, c, d, e, f, g, i, j, k, rfl⟩
theorem yearN_pos (y : Int) : 0 ≤ yearN y := by have := yearN_bd y; omega
/-- What is read as a day is a day's text, with its signs alone. -/
theorem day_fore {l r : List UInt8} {v : Int} (h : dayP l = some (v, r)) : ∃ p, l = p ++ r ∧ dayR p = some v ∧ p.all dayC = true := by
  unfold dayP at h
  split at h
  · cases h
  rename_i y hy
  obtain ⟨a, b, c, d, t, rfl, ha, hb, hc, hd, ey, y1, y2⟩ := (num4_iff (by omega)).1 hy
  split at h
  · cases h
  rename_i l2 h2
  have e2 : t = 45 :: l2 := (rd1_iff 45 t l2).1 h2
  subst e2
  have ty : two [a, b, c, d] 4 = y := (two4 ha hb hc hd).trans ey.symm
  split at h
  · rename_i n hn
    obtain ⟨e, f, g, t, rfl, he, hf, hg, en, n1, n2⟩ := (num3_iff (yearN_pos y)).1 hn
    have hx : v = num y 1 1 + (n - 1) ∧ r = t := by
      have := Option.some.inj h
      simp at this
      exact ⟨this.1.symm, this.2.symm⟩
    obtain ⟨rfl, rfl⟩ := hx
    refine ⟨[a, b, c, d, 45, e, f, g], rfl, ?_, by simp [dayC_dg ha, dayC_dg hb, dayC_dg hc, dayC_dg hd, dayC_dg he, dayC_dg hf, dayC_dg hg, dayC_dash]⟩
    unfold dayR
    rw [if_pos ⟨rfl, rfl⟩]
    show (if Valid (two [a, b, c, d] 4) 1 1 ∧ 1 ≤ two [e, f, g] 3 ∧ two [e, f, g] 3 ≤ yearN (two [a, b, c, d] 4) then some (num (two [a, b, c, d] 4) 1 1 + two [e, f, g] 3 - 1) else none) = _
    rw [ty, two3 he hf hg, ← en, if_pos ⟨(valid_one y).2 ⟨y1, y2⟩, n1, n2⟩]
    congr 1
    omega
  · split at h
    · cases h
    rename_i m hm
    obtain ⟨e, f, t, rfl, he, hf, em, m1, m2⟩ := (num2_iff (by omega)).1 hm
    split at h
    · cases h
    rename_i l4 h4
    have e4 : t = 45 :: l4 := (rd1_iff 45 t l4).1 h4
    subst e4
    split at h
    · cases h
    rename_i n hn
    obtain ⟨i, j, t, rfl, hi, hj, en, n1, n2⟩ := (num2_iff (by omega)).1 hn
    split at h
    · rename_i hv
      have hx : v = num y m n ∧ r = t := by
        have := Option.some.inj h
        simp at this
        exact ⟨this.1.symm, this.2.symm⟩
      obtain ⟨rfl, rfl⟩ := hx
      refine ⟨[a, b, c, d, 45, e, f, 45, i, j], rfl, ?_, by simp [dayC_dg ha, dayC_dg hb, dayC_dg hc, dayC_dg hd, dayC_dg he, dayC_dg hf, dayC_dg hi, dayC_dg hj, dayC_dash]⟩
      unfold dayR
      rw [if_neg (by simp), if_pos ⟨rfl, rfl, rfl⟩]
      show days (two [a, b, c, d] 4) (two [e, f] 2) (two [i, j] 2) = _
      rw [ty, two2 he hf, two2 hi hj, ← em, ← en]
      unfold days
      rw [if_pos hv]
    · cases h
theorem not_dash {c : UInt8} (h : dg c) : c ≠ 45 := by
  rintro rfl
  unfold dg bt at h
  simp at h
/-- A day's text is read as it, whatever is behind. -/
theorem day_back {p : List UInt8} {v : Int} (h : dayR p = some v) (r : List UInt8) : dayP (p ++ r) = some (v, r) := by
  unfold dayR at h
  split at h
  · rename_i hl
    obtain ⟨a, b, c, d, e, f, g, i, rfl⟩ := len5 hl.1
    have he : e = 45 := by simpa using hl.2
    subst he
    replace h : (if Valid (two [a, b, c, d] 4) 1 1 ∧ 1 ≤ two [f, g, i] 3 ∧ two [f, g, i] 3 ≤ yearN (two [a, b, c, d] 4) then some (num (two [a, b, c, d] 4) 1 1 + two [f, g, i] 3 - 1) else none) = some v := h
    split at h
    · rename_i hv
      obtain ⟨ha, hb, hc, hd, ey⟩ := two4_pos (a := a) (b := b) (c := c) (d := d) (by have := (valid_one _).1 hv.1; omega)
      obtain ⟨hf, hg, hi, en⟩ := two3_pos (a := f) (b := g) (c := i) (by omega)
      rw [ey, en] at h hv
      have v1' := (valid_one _).1 hv.1
      unfold dayP
      have q1 : num? 4 1 9999 ([a, b, c, d, 45, f, g, i] ++ r) = some (v4 a b c d) := (num4_iff (by omega)).2 ⟨a, b, c, d, _, rfl, ha, hb, hc, hd, rfl, v1'.1, v1'.2⟩
      have q2 : rd1 45 (([a, b, c, d, 45, f, g, i] ++ r).drop 4) = some (f :: g :: i :: r) := (rd1_iff 45 _ _).2 rfl
      have q3 : num? 3 1 (yearN (v4 a b c d)) (f :: g :: i :: r) = some (v3 f g i) := (num3_iff (yearN_pos _)).2 ⟨f, g, i, r, rfl, hf, hg, hi, rfl, hv.2.1, hv.2.2⟩
      rw [q1]
      simp only [q2, q3]
      have := Option.some.inj h
      congr 1
      refine Prod.ext ?_ rfl
      show num (v4 a b c d) 1 1 + (v3 f g i - 1) = v
      omega
    · cases h
  · split at h
    · rename_i hl
      obtain ⟨a, b, c, d, e, f, g, i, j, k, rfl⟩ := len10 hl.1
      have he : e = 45 := by simpa using hl.2.1
      subst he
      have hi : i = 45 := by simpa using hl.2.2
      subst hi
      replace h : days (two [a, b, c, d] 4) (two [f, g] 2) (two [j, k] 2) = some v := h
      unfold days at h
      split at h
      · rename_i hv
        have hv0 := hv
        obtain ⟨y1, y2, m1, m2, d1, d2⟩ := hv0
        have mb := monthN_bd (two [a, b, c, d] 4) (two [f, g] 2)
        obtain ⟨ha, hb, hc, hd, ey⟩ := two4_pos (a := a) (b := b) (c := c) (d := d) (by omega)
        obtain ⟨hf, hg, em⟩ := two2_pos (a := f) (b := g) (by omega)
        obtain ⟨hj, hk, en⟩ := two2_pos (a := j) (b := k) (by omega)
        rw [ey, em] at mb
        rw [ey, em, en] at h hv d2
        rw [ey] at y1 y2
        rw [em] at m1 m2
        rw [en] at d1
        unfold dayP
        have q1 : num? 4 1 9999 ([a, b, c, d, 45, f, g, 45, j, k] ++ r) = some (v4 a b c d) := (num4_iff (by omega)).2 ⟨a, b, c, d, _, rfl, ha, hb, hc, hd, rfl, y1, y2⟩
        have q2 : rd1 45 (([a, b, c, d, 45, f, g, 45, j, k] ++ r).drop 4) = some (f :: g :: 45 :: j :: k :: r) := (rd1_iff 45 _ _).2 rfl
        have q3 : num? 3 1 (yearN (v4 a b c d)) (f :: g :: 45 :: j :: k :: r) = none := by
          cases hx : num? 3 1 (yearN (v4 a b c d)) (f :: g :: 45 :: j :: k :: r) with
          | none => rfl
          | some x =>
            obtain ⟨_, _, c', _, e', _, _, hc', _⟩ := (num3_iff (yearN_pos _)).1 hx
            simp at e'
            exact absurd e'.2.2.1.symm (not_dash hc')
        have q4 : num? 2 1 12 (f :: g :: 45 :: j :: k :: r) = some (v2 f g) := (num2_iff (by omega)).2 ⟨f, g, _, rfl, hf, hg, rfl, m1, m2⟩
        have q5 : rd1 45 ((f :: g :: 45 :: j :: k :: r).drop 2) = some (j :: k :: r) := (rd1_iff 45 _ _).2 rfl
        have q6 : num? 2 1 31 (j :: k :: r) = some (v2 j k) := (num2_iff (by omega)).2 ⟨j, k, _, rfl, hj, hk, rfl, d1, by omega⟩
        rw [q1]
        simp only [q2, q3, q4, q5, q6]
        rw [if_pos hv, ← Option.some.inj h]
        rfl
      · cases h
    · cases h
/-- What is read, with nothing left. -/
def whole {α : Type} (x : Option (α × List UInt8)) : Option α := match x with | some (v, []) => some v | _ => none
theorem whole_some {α : Type} {x : Option (α × List UInt8)} {v : α} : whole x = some v ↔ x = some (v, []) := by
  unfold whole
  split
  · simp
  · rename_i h
    constructor
    · intro e; cases e
    · intro e; exact absurd e (h v)
theorem opt_ext {α : Type} {x y : Option α} (h1 : ∀ v, x = some v → y = some v) (h2 : ∀ v, y = some v → x = some v) : x = y := by
  cases hx : x with
  | none =>
    cases hy : y with
    | none => rfl
    | some v => have := h2 v hy; rw [hx] at this; cases this
  | some v => exact (h1 v hx).symm
/-- The day of any text is the document's. -/
theorem day_eq (l : List UInt8) : whole (dayP l) = dayR l := by
  apply opt_ext
  · intro v h
    obtain ⟨p, e, hp, _⟩ := day_fore (whole_some.1 h)
    rw [e, List.append_nil]
    exact hp
  · intro v h
    have := day_back h []
    rw [List.append_nil] at this
    exact whole_some.2 this
/-- A zone's text, read of a text's beginning. -/
def zoneS (g : Int) (l : List UInt8) : Option (Int × List UInt8) :=
  match num? 2 0 14 l with
  | none => none
  | some h => if l.drop 2 = [] then some (g * h * 3600, []) else match num? 2 0 59 ((rd1 58 (l.drop 2)).getD (l.drop 2)) with
    | none => none
    | some m => some (g * (h * 3600 + m * 60), ((rd1 58 (l.drop 2)).getD (l.drop 2)).drop 2)
def zoneP : List UInt8 → Option (Int × List UInt8)
  | [] => none
  | c :: r => if c = 90 ∨ c = 122 then some (0, r) else if c = 45 then zoneS (-1) r else if c = 43 then zoneS 1 r else none
def zoneM (l : List UInt8) : Option Int :=
  match l with
  | [] => some 0
  | c :: r => if c = 58 then (if r = [] then none else some (two r 2)) else some (two (c :: r) 2)
theorem zoneM_cons (c : UInt8) (r : List UInt8) : zoneM (c :: r) = if c = 58 then (if r = [] then none else some (two r 2)) else some (two (c :: r) 2) := rfl
theorem zoneP_cons (c : UInt8) (r : List UInt8) : zoneP (c :: r) = if c = 90 ∨ c = 122 then some (0, r) else if c = 45 then zoneS (-1) r else if c = 43 then zoneS 1 r else none := rfl
/-- The document's. -/
def zoneR (l : List UInt8) : Option Int :=
  if l = [90] ∨ l = [122] then some 0
  else if l.length < 3 ∨ (l[0]? ≠ some 43 ∧ l[0]? ≠ some 45) then none
  else match zoneM (l.drop 3) with
    | none => none
    | some m => if two ((l.take 3).drop 1) 2 < 0 ∨ 14 < two ((l.take 3).drop 1) 2 ∨ m < 0 ∨ 59 < m then none
      else some (if l[0]? = some 45 then - (two ((l.take 3).drop 1) 2 * 3600 + m * 60) else two ((l.take 3).drop 1) 2 * 3600 + m * 60)
theorem zoneS_eq (g : Int) (l : List UInt8) (v : Int) : zoneS g l = some (v, []) ↔ ∃ a b t m, l = a :: b :: t ∧ zoneM t = some m ∧ dg a ∧ dg b ∧ v2 a b ≤ 14 ∧ 0 ≤ m ∧ m ≤ 59 ∧ v = g * (v2 a b * 3600 + m * 60) := by
  unfold zoneS
  constructor
  · intro h
    split at h
    · cases h
    rename_i x hx
    obtain ⟨a, b, t, rfl, ha, hb, ex, x1, x2⟩ := (num2_iff (by omega)).1 hx
    replace h : (if t = [] then some (g * x * 3600, []) else match num? 2 0 59 ((rd1 58 t).getD t) with | none => none | some m => some (g * (x * 3600 + m * 60), ((rd1 58 t).getD t).drop 2)) = some (v, []) := h
    by_cases ht : t = []
    · rw [if_pos ht] at h
      refine ⟨a, b, t, 0, rfl, by rw [ht]; rfl, ha, hb, by omega, by omega, by omega, ?_⟩
      have := congrArg Prod.fst (Option.some.inj h)
      simp at this
      rw [← this, ← ex, Int.zero_mul, Int.add_zero, Int.mul_assoc]
    · rw [if_neg ht] at h
      split at h
      · cases h
      rename_i m hm
      obtain ⟨i, j, u, eu, hi, hj, em, m1, m2⟩ := (num2_iff (by omega)).1 hm
      have h1 : v = g * (x * 3600 + m * 60) := by have := congrArg Prod.fst (Option.some.inj h); simp at this; exact this.symm
      have h2 : u = [] := by
        have := congrArg Prod.snd (Option.some.inj h)
        rw [eu] at this
        simpa using this
      subst h2
      refine ⟨a, b, t, m, rfl, ?_, ha, hb, by omega, m1, m2, by rw [h1, ex]⟩
      cases t with
      | nil => exact absurd rfl ht
      | cons c r =>
        rw [zoneM_cons]
        by_cases hc : c = 58
        · subst hc
          have : r = [i, j] := by simpa [rd1] using eu
          rw [if_pos rfl, this, if_neg (by simp), two2 hi hj, em]
        · have : c :: r = [i, j] := by simpa [rd1, hc] using eu
          rw [if_neg hc, this, two2 hi hj, em]
  · rintro ⟨a, b, t, m, rfl, hz, ha, hb, h1, m1, m2, hv⟩
    have bd := v2_bd ha hb
    have q1 : num? 2 0 14 (a :: b :: t) = some (v2 a b) := (num2_iff (by omega)).2 ⟨a, b, t, rfl, ha, hb, rfl, by omega, h1⟩
    rw [q1]
    show (if t = [] then some (g * v2 a b * 3600, []) else match num? 2 0 59 ((rd1 58 t).getD t) with | none => none | some m => some (g * (v2 a b * 3600 + m * 60), ((rd1 58 t).getD t).drop 2)) = some (v, [])
    cases t with
    | nil =>
      have : m = 0 := by simp [zoneM] at hz; exact hz.symm
      subst this
      rw [if_pos rfl, hv, Int.zero_mul, Int.add_zero, Int.mul_assoc]
    | cons c r =>
      rw [if_neg (by simp)]
      rw [zoneM_cons] at hz
      by_cases hc : c = 58
      · subst hc
        rw [if_pos rfl] at hz
        split at hz
        · cases hz
        have em := Option.some.inj hz
        have g2 := two_pos (l := r) (k := 2) (by omega)
        obtain ⟨i, j, u, eu⟩ := len2 (l := r) (by omega)
        have hu : u = [] := by
          have := g2.1
          rw [eu] at this
          simpa using this
        subst hu
        subst eu
        have g3 := two2_pos (a := i) (b := j) (by omega)
        have q2 : num? 2 0 59 [i, j] = some m := (num2_iff (by omega)).2 ⟨i, j, [], rfl, g3.1, g3.2.1, by rw [← em]; exact g3.2.2, m1, m2⟩
        show (match num? 2 0 59 [i, j] with | none => none | some m => some (g * (v2 a b * 3600 + m * 60), [])) = _
        rw [q2, hv]
      · rw [if_neg hc] at hz
        have em := Option.some.inj hz
        have g2 := two_pos (l := c :: r) (k := 2) (by omega)
        obtain ⟨i, j, u, eu⟩ := len2 (l := c :: r) (by omega)
        have hu : u = [] := by
          have := g2.1
          rw [eu] at this
          simpa using this
        subst hu
        have ec : (rd1 58 (c :: r)).getD (c :: r) = c :: r := by simp [rd1, hc]
        rw [ec]
        rw [eu] at em ⊢
        have g3 := two2_pos (a := i) (b := j) (by omega)
        have q2 : num? 2 0 59 [i, j] = some m := (num2_iff (by omega)).2 ⟨i, j, [], rfl, g3.1, g3.2.1, by rw [← em]; exact g3.2.2, m1, m2⟩
        rw [q2, hv]
        rfl
/-- The zone of any text is the document's. -/
theorem zone_eq (l : List UInt8) : whole (zoneP l) = zoneR l := by
  cases l with
  | nil => rfl
  | cons c r =>
    by_cases hz : c = 90 ∨ c = 122
    · have e : zoneP (c :: r) = some (0, r) := by rw [zoneP_cons, if_pos hz]
      rw [e]
      unfold zoneR
      cases r with
      | nil => rw [if_pos (by simpa using hz)]; rfl
      | cons x t =>
        rw [if_neg (by simp), if_pos (.inr (by rcases hz with rfl | rfl <;> simp))]
        rfl
    · have hz2 : ¬ (c :: r = [90] ∨ c :: r = [122]) := by
        rintro (h | h)
        · exact hz (.inl (List.cons.inj h).1)
        · exact hz (.inr (List.cons.inj h).1)
      by_cases hs : c = 45 ∨ c = 43
      · obtain ⟨g, hg, eg⟩ : ∃ g : Int, zoneP (c :: r) = zoneS g r ∧ g = if c = 45 then -1 else 1 := by
          rw [zoneP_cons, if_neg hz]
          by_cases h45 : c = 45
          · exact ⟨-1, by rw [if_pos h45], by rw [if_pos h45]⟩
          · exact ⟨1, by rw [if_neg h45, if_pos (by rcases hs with h | h; exact absurd h h45; exact h)], by rw [if_neg h45]⟩
        rw [hg]
        apply opt_ext
        · intro v h
          obtain ⟨a, b, t, m, rfl, hm, ha, hb, h1, m1, m2, hv⟩ := (zoneS_eq g r v).1 (whole_some.1 h)
          have bd := v2_bd ha hb
          unfold zoneR
          rw [if_neg hz2, if_neg (by simp; intro h; rcases hs with rfl | rfl <;> simp_all)]
          show (match zoneM t with | none => none | some m => if two [a, b] 2 < 0 ∨ 14 < two [a, b] 2 ∨ m < 0 ∨ 59 < m then none else some (if (c :: a :: b :: t)[0]? = some 45 then - (two [a, b] 2 * 3600 + m * 60) else two [a, b] 2 * 3600 + m * 60)) = _
          rw [hm, two2 ha hb]
          show (if v2 a b < 0 ∨ 14 < v2 a b ∨ m < 0 ∨ 59 < m then none else some (if some c = some 45 then - (v2 a b * 3600 + m * 60) else v2 a b * 3600 + m * 60)) = _
          rw [if_neg (by omega)]
          congr 1
          rw [hv, eg]
          by_cases h45 : c = 45
          · rw [if_pos (by rw [h45]), if_pos h45]; omega
          · rw [if_neg (by simpa using h45), if_neg h45]; omega
        · intro v h
          unfold zoneR at h
          rw [if_neg hz2] at h
          split at h
          · cases h
          rename_i hl
          have hl3 : 3 ≤ (c :: r).length := by omega
          obtain ⟨a, b, t, rfl⟩ := len2 (l := r) (by simpa using hl3)
          replace h : (match zoneM t with | none => none | some m => if two [a, b] 2 < 0 ∨ 14 < two [a, b] 2 ∨ m < 0 ∨ 59 < m then none else some (if some c = some 45 then - (two [a, b] 2 * 3600 + m * 60) else two [a, b] 2 * 3600 + m * 60)) = some v := h
          split at h
          · cases h
          rename_i m hm
          split at h
          · cases h
          rename_i hb0
          have g3 := two2_pos (a := a) (b := b) (by omega)
          rw [g3.2.2] at h hb0
          refine whole_some.2 ((zoneS_eq g _ v).2 ⟨a, b, t, m, rfl, hm, g3.1, g3.2.1, by omega, by omega, by omega, ?_⟩)
          have h := Option.some.inj h
          rw [← h, eg]
          by_cases h45 : c = 45
          · rw [if_pos (by rw [h45]), if_pos h45]; omega
          · rw [if_neg (by simpa using h45), if_neg h45]; omega
      · have e : zoneP (c :: r) = none := by
          rw [zoneP_cons, if_neg hz, if_neg (fun h => hs (.inl h)), if_neg (fun h => hs (.inr h))]
        rw [e]
        unfold zoneR
        rw [if_neg hz2, if_pos (.inr (by
          refine ⟨fun h => hs (.inr (by simpa using h)), fun h => hs (.inl (by simpa using h))⟩))]
        rfl
end Dat
/- Plain functions: a time's text, a moment's text; what is read of a text one behind the other is what the document says of the whole. -/
namespace Dat
open Asc
def dgB (c : UInt8) : Bool := isDig (bt c)
/-- Signs of a time's text. -/
def clkC (c : UInt8) : Bool := dgB c || c == 58 || c == 46
theorem dgB_dg {c : UInt8} (h : dg c) : dgB c = true := (dg_iff c).2 h
theorem clkC_dg {c : UInt8} (h : dg c) : clkC c = true := by unfold clkC; rw [dgB_dg h]; rfl
theorem span_stop (f : UInt8 → Bool) : ∀ (p r : List UInt8), p.all f = true → (∀ x, r.head? = some x → f x = false) → (p ++ r).takeWhile f = p ∧ (p ++ r).dropWhile f = r
  | [], [], _, _ => ⟨rfl, rfl⟩
  | [], x :: r, _, h => by
    have := h x rfl
    simp [this]
  | c :: p, r, hp, h => by
    have hp2 : f c = true ∧ p.all f = true := by simpa using hp
    have := span_stop f p r hp2.2 h
    simp [hp2.1, this.1, this.2]
theorem span_all (f : UInt8 → Bool) : ∀ (l : List UInt8), (l.takeWhile f).all f = true
  | [] => rfl
  | c :: l => by
    cases h : f c
    · simp [h]
    · rw [List.takeWhile_cons_of_pos h, List.all_cons, h, span_all f l]
      rfl
theorem span_head (f : UInt8 → Bool) : ∀ (l : List UInt8) (x : UInt8), (l.dropWhile f).head? = some x → f x = false
  | [], x, h => by cases h
  | c :: l, x, h => by
    cases hc : f c
    · rw [List.dropWhile_cons_of_neg (by simp [hc])] at h
      have : c = x := by simpa using h
      rw [← this]; exact hc
    · rw [List.dropWhile_cons_of_pos hc] at h
      exact span_head f l x h
theorem span_join (f : UInt8 → Bool) (l : List UInt8) : l.takeWhile f ++ l.dropWhile f = l := List.takeWhile_append_dropWhile
/-- A time's seconds, and what may be behind their point. -/
def secP (l : List UInt8) : Option (Int × List UInt8) :=
  match num? 2 0 60 l with
  | none => none
  | some s => match rd1 46 (l.drop 2) with
    | none => some (min s 59, l.drop 2)
    | some r => if (r.dropWhile dgB).length = r.length then none else some (min s 59, r.dropWhile dgB)
/-- A time's text, read of a text's beginning. -/
def clockP (l : List UInt8) : Option (Int × List UInt8) :=
  match num? 2 0 23 l with
  | none => none
  | some h => match rd1 58 (l.drop 2) with
    | none => none
    | some l1 => match num? 2 0 59 l1 with
      | none => none
      | some m => match rd1 58 (l1.drop 2) with
        | none => some (h * 3600 + m * 60, l1.drop 2)
        | some l3 => match secP l3 with
          | none => none
          | some (s, r) => some (h * 3600 + m * 60 + s, r)
/-- The document's. -/
def secR (s : List UInt8) : Option Int :=
  if s = [] then some 0
  else if s.length < 3 ∨ s[0]? ≠ some 58 then none
  else if s.drop 3 = [] then some (two ((s.take 3).drop 1) 2)
  else if (s.drop 3)[0]? ≠ some 46 ∨ digForm ((s.drop 3).drop 1) = false then none
  else some (two ((s.take 3).drop 1) 2)
def timeR (l : List UInt8) : Option Int :=
  if l.length < 5 ∨ l[2]? ≠ some 58 then none
  else match secR (l.drop 5) with
    | none => none
    | some s => if two (l.take 2) 2 < 0 ∨ 23 < two (l.take 2) 2 ∨ two ((l.take 5).drop 3) 2 < 0 ∨ 59 < two ((l.take 5).drop 3) 2 ∨ s < 0 ∨ 60 < s then none
      else some (two (l.take 2) 2 * 3600 + two ((l.take 5).drop 3) 2 * 60 + min s 59)
theorem timeR_mk {a b e f : UInt8} {q : List UInt8} {s : Int} (ha : dg a) (hb : dg b) (he : dg e) (hf : dg f) (hs : secR q = some s) (h1 : v2 a b ≤ 23) (h2 : v2 e f ≤ 59) (h3 : 0 ≤ s) (h4 : s ≤ 60) :
    timeR (a :: b :: 58 :: e :: f :: q) = some (v2 a b * 3600 + v2 e f * 60 + min s 59) := by
  unfold timeR
  rw [if_neg (by simp)]
  show (match secR q with | none => none | some s => if two [a, b] 2 < 0 ∨ 23 < two [a, b] 2 ∨ two [e, f] 2 < 0 ∨ 59 < two [e, f] 2 ∨ s < 0 ∨ 60 < s then none else some (two [a, b] 2 * 3600 + two [e, f] 2 * 60 + min s 59)) = _
  have := v2_bd ha hb
  have := v2_bd he hf
  rw [hs, two2 ha hb, two2 he hf]
  show (if _ then _ else _) = _
  rw [if_neg (by omega)]
theorem secR_two {i j : UInt8} (hi : dg i) (hj : dg j) : secR [58, i, j] = some (v2 i j) := by
  unfold secR
  rw [if_neg (by simp), if_neg (by simp), if_pos (by rfl)]
  show some (two [i, j] 2) = _
  rw [two2 hi hj]
theorem secR_dot {i j : UInt8} {q : List UInt8} (hi : dg i) (hj : dg j) (hq : digForm q = true) : secR (58 :: i :: j :: 46 :: q) = some (v2 i j) := by
  unfold secR
  rw [if_neg (by simp), if_neg (by simp), if_neg (by simp), if_neg (by
    rintro (h | h)
    · exact h rfl
    · have h : digForm q = false := h
      rw [hq] at h; cases h)]
  show some (two [i, j] 2) = _
  rw [two2 hi hj]
theorem clk58 : clkC 58 = true := by decide
theorem clk46 : clkC 46 = true := by decide
theorem dgB_clk {c : UInt8} (h : dgB c = true) : clkC c = true := by unfold clkC; rw [h]; rfl
theorem all_clk : ∀ {l : List UInt8}, l.all dgB = true → l.all clkC = true
  | [], _ => rfl
  | c :: l, h => by
    have h2 : dgB c = true ∧ l.all dgB = true := by simpa using h
    rw [List.all_cons, dgB_clk h2.1, all_clk h2.2]
    rfl
theorem clock_fore {l r : List UInt8} {t : Int} (h : clockP l = some (t, r)) : ∃ c, l = c ++ r ∧ timeR c = some t ∧ c.all clkC = true := by
  unfold clockP at h
  split at h
  · cases h
  rename_i x hx
  obtain ⟨a, b, u, rfl, ha, hb, ex, x1, x2⟩ := (num2_iff (by omega)).1 hx
  split at h
  · cases h
  rename_i l1 h1
  have e1 : u = 58 :: l1 := (rd1_iff 58 u l1).1 h1
  subst e1
  split at h
  · cases h
  rename_i m hm
  obtain ⟨e, f, u, rfl, he, hf, em, m1, m2⟩ := (num2_iff (by omega)).1 hm
  have hz : secR [] = some 0 := rfl
  split at h
  · have ht : t = x * 3600 + m * 60 ∧ r = u := by
      have := Option.some.inj h
      simp at this
      exact ⟨this.1.symm, this.2.symm⟩
    obtain ⟨rfl, rfl⟩ := ht
    refine ⟨[a, b, 58, e, f], rfl, ?_, by simp [clkC_dg ha, clkC_dg hb, clkC_dg he, clkC_dg hf, clk58]⟩
    rw [timeR_mk ha hb he hf hz (by omega) (by omega) (by omega) (by omega), ex, em]
    congr 1
    omega
  · rename_i l3 h3
    have e3 : u = 58 :: l3 := (rd1_iff 58 u l3).1 h3
    subst e3
    split at h
    · cases h
    rename_i s r' hs
    have ht : t = x * 3600 + m * 60 + s ∧ r = r' := by
      have := Option.some.inj h
      simp at this
      exact ⟨this.1.symm, this.2.symm⟩
    obtain ⟨rfl, rfl⟩ := ht
    unfold secP at hs
    split at hs
    · cases hs
    rename_i y hy
    obtain ⟨i, j, u, rfl, hi, hj, ey, y1, y2⟩ := (num2_iff (by omega)).1 hy
    split at hs
    · have ht : s = min y 59 ∧ r = u := by
        have := Option.some.inj hs
        simp at this
        exact ⟨this.1.symm, this.2.symm⟩
      obtain ⟨rfl, rfl⟩ := ht
      refine ⟨[a, b, 58, e, f, 58, i, j], rfl, ?_, by simp [clkC_dg ha, clkC_dg hb, clkC_dg he, clkC_dg hf, clkC_dg hi, clkC_dg hj, clk58]⟩
      rw [timeR_mk ha hb he hf (secR_two hi hj) (by omega) (by omega) (by omega) (by omega), ex, em, ey]
    · rename_i q hq
      have eq : u = 46 :: q := (rd1_iff 46 u q).1 hq
      subst eq
      split at hs
      · cases hs
      rename_i hne
      have ht : s = min y 59 ∧ r = q.dropWhile dgB := by
        have := Option.some.inj hs
        simp at this
        exact ⟨this.1.symm, this.2.symm⟩
      obtain ⟨rfl, rfl⟩ := ht
      have hj2 := span_join dgB q
      have hform : digForm (q.takeWhile dgB) = true := by
        unfold digForm
        have h1 : allDig (q.takeWhile dgB) = true := span_all dgB q
        rw [h1]
        cases hw : q.takeWhile dgB with
        | nil =>
          rw [hw] at hj2
          exact absurd (congrArg List.length hj2) hne
        | cons _ _ => rfl
      refine ⟨a :: b :: 58 :: e :: f :: 58 :: i :: j :: 46 :: q.takeWhile dgB, ?_, ?_, ?_⟩
      · simp only [List.cons_append]
        rw [hj2]
      · rw [timeR_mk ha hb he hf (secR_dot hi hj hform) (by omega) (by omega) (by omega) (by omega), ex, em, ey]
      · simp only [List.all_cons, clkC_dg ha, clkC_dg hb, clkC_dg he, clkC_dg hf, clkC_dg hi, clkC_dg hj, clk58, clk46, all_clk (span_all dgB q), Bool.true_and]
theorem rd1_not {c : UInt8} {r : List UInt8} (hc : clkC c = true) (hr : ∀ x, r.head? = some x → clkC x = false) : rd1 c r = none := by
  cases r with
  | nil => rfl
  | cons x t =>
    show (if x = c then some t else none) = none
    rw [if_neg]
    rintro rfl
    have := hr x rfl
    rw [hc] at this
    cases this
theorem all_dgB {q : List UInt8} (h : digForm q = true) : q.all dgB = true := digForm_all q h
theorem clock_back {c r : List UInt8} {t : Int} (h : timeR c = some t) (hr : ∀ x, r.head? = some x → clkC x = false) : clockP (c ++ r) = some (t, r) := by
  unfold timeR at h
  split at h
  · cases h
  rename_i hl
  obtain ⟨a, b, k, e, u, rfl⟩ := len4 (l := c) (by omega)
  have hk : k = 58 := by
    by_cases hk : k = 58
    · exact hk
    · exact absurd (.inr (by simpa using hk)) hl
  subst hk
  obtain ⟨f, q, rfl⟩ := len1 (l := u) (by simp at hl; omega)
  replace h : (match secR q with | none => none | some s => if two [a, b] 2 < 0 ∨ 23 < two [a, b] 2 ∨ two [e, f] 2 < 0 ∨ 59 < two [e, f] 2 ∨ s < 0 ∨ 60 < s then none else some (two [a, b] 2 * 3600 + two [e, f] 2 * 60 + min s 59)) = some t := h
  split at h
  · cases h
  rename_i s hs
  split at h
  · cases h
  rename_i hbd
  obtain ⟨ha, hb, ex⟩ := two2_pos (a := a) (b := b) (by omega)
  obtain ⟨he, hf, em⟩ := two2_pos (a := e) (b := f) (by omega)
  rw [ex, em] at h hbd
  have ht := Option.some.inj h
  have q1 : num? 2 0 23 (a :: b :: 58 :: e :: f :: (q ++ r)) = some (v2 a b) := (num2_iff (by omega)).2 ⟨a, b, _, rfl, ha, hb, rfl, by omega, by omega⟩
  have q2 : rd1 58 (58 :: e :: f :: (q ++ r)) = some (e :: f :: (q ++ r)) := (rd1_iff 58 _ _).2 rfl
  have q3 : num? 2 0 59 (e :: f :: (q ++ r)) = some (v2 e f) := (num2_iff (by omega)).2 ⟨e, f, _, rfl, he, hf, rfl, by omega, by omega⟩
  have go : clockP ((a :: b :: 58 :: e :: f :: q) ++ r) = match rd1 58 (q ++ r) with | none => some (v2 a b * 3600 + v2 e f * 60, q ++ r) | some l3 => match secP l3 with | none => none | some (s, r) => some (v2 a b * 3600 + v2 e f * 60 + s, r) := by
    show clockP (a :: b :: 58 :: e :: f :: (q ++ r)) = _
    unfold clockP
    rw [q1]
    show (match rd1 58 (58 :: e :: f :: (q ++ r)) with | none => none | some l1 => _) = _
    rw [q2]
    show (match num? 2 0 59 (e :: f :: (q ++ r)) with | none => none | some m => _) = _
    rw [q3]
    rfl
  rw [go]
  unfold secR at hs
  split at hs
  · rename_i hq
    subst hq
    have : s = 0 := (Option.some.inj hs).symm
    rw [List.nil_append, rd1_not clk58 hr]
    show some (v2 a b * 3600 + v2 e f * 60, r) = _
    rw [← ht, this]
    congr 2
    omega
  · split at hs
    · cases hs
    rename_i hl3
    obtain ⟨k, i, j, w, rfl⟩ := len3 (l := q) (by omega)
    have hk : k = 58 := by
      by_cases hk : k = 58
      · exact hk
      · exact absurd (.inr (by simpa using hk)) hl3
    subst hk
    have es : s = two [i, j] 2 := by
      replace hs : (if w = [] then some (two [i, j] 2) else if w[0]? ≠ some 46 ∨ digForm (w.drop 1) = false then none else some (two [i, j] 2)) = some s := hs
      split at hs
      · exact (Option.some.inj hs).symm
      · split at hs
        · cases hs
        · exact (Option.some.inj hs).symm
    obtain ⟨hi, hj, ey⟩ := two2_pos (a := i) (b := j) (by omega)
    have q4 : rd1 58 ((58 :: i :: j :: w) ++ r) = some (i :: j :: (w ++ r)) := (rd1_iff 58 _ _).2 rfl
    have q5 : num? 2 0 60 (i :: j :: (w ++ r)) = some (v2 i j) := (num2_iff (by omega)).2 ⟨i, j, _, rfl, hi, hj, rfl, by have := v2_bd hi hj; omega, by omega⟩
    rw [q4]
    show (match secP (i :: j :: (w ++ r)) with | none => none | some (s, r) => some (v2 a b * 3600 + v2 e f * 60 + s, r)) = _
    have gs : secP (i :: j :: (w ++ r)) = match rd1 46 (w ++ r) with | none => some (min (v2 i j) 59, w ++ r) | some r => if (r.dropWhile dgB).length = r.length then none else some (min (v2 i j) 59, r.dropWhile dgB) := by
      unfold secP
      rw [q5]
      rfl
    have ez : s = v2 i j := es.trans ey
    by_cases hw : w = []
    · subst hw
      rw [gs, List.nil_append, rd1_not clk46 hr]
      show some (v2 a b * 3600 + v2 e f * 60 + min (v2 i j) 59, r) = _
      rw [← ht, ez]
    · replace hs : (if w = [] then some (two [i, j] 2) else if w[0]? ≠ some 46 ∨ digForm (w.drop 1) = false then none else some (two [i, j] 2)) = some s := hs
      rw [if_neg hw] at hs
      split at hs
      · cases hs
      rename_i hd
      obtain ⟨k, q, rfl⟩ : ∃ k q, w = k :: q := by
        cases w with
        | nil => exact absurd rfl hw
        | cons k q => exact ⟨k, q, rfl⟩
      have hk : k = 46 := by
        by_cases hk : k = 46
        · exact hk
        · exact absurd (.inl (by simpa using hk)) hd
      subst hk
      have hq : digForm q = true := by
        cases hx : digForm q
        · exact absurd (.inr hx) hd
        · rfl
      have q6 : rd1 46 ((46 :: q) ++ r) = some (q ++ r) := (rd1_iff 46 _ _).2 rfl
      have hsp := span_stop dgB q r (all_dgB hq) (fun x hx => by
        have := hr x hx
        unfold clkC at this
        cases hdx : dgB x
        · rfl
        · rw [hdx] at this; cases this)
      have hq0 : q ≠ [] := by
        rintro rfl
        cases hq
      rw [gs, q6]
      show (match (if ((q ++ r).dropWhile dgB).length = (q ++ r).length then none else some (min (v2 i j) 59, (q ++ r).dropWhile dgB)) with | none => none | some (s, r) => some (v2 a b * 3600 + v2 e f * 60 + s, r)) = _
      rw [hsp.2, if_neg (by
        rw [List.length_append]
        have := List.length_pos_iff.2 hq0
        omega)]
      show some (v2 a b * 3600 + v2 e f * 60 + min (v2 i j) 59, r) = _
      rw [← ht, ez]
theorem time_eq (l : List UInt8) : whole (clockP l) = timeR l := by
  apply opt_ext
  · intro v h
    obtain ⟨p, e, hp, _⟩ := clock_fore (whole_some.1 h)
    rw [e, List.append_nil]
    exact hp
  · intro v h
    have := clock_back h (r := []) (by intro x hx; cases hx)
    rw [List.append_nil] at this
    exact whole_some.2 this
def sp (c : UInt8) : Bool := c == 32
/-- What is between a day and a time. -/
def gap : List UInt8 → Option (List UInt8)
  | [] => none
  | c :: r => if c = 84 ∨ c = 116 then some r else if c = 32 then some (r.dropWhile sp) else none
/-- A moment: its seconds, whether it has a time, and a zone. -/
def momP (l : List UInt8) : Option ((Int × Bool × Bool) × List UInt8) :=
  match dayP l with
  | none => none
  | some (d, l1) => if l1 = [] then some ((d * 86400, false, false), []) else match gap l1 with
    | none => none
    | some l2 => match clockP l2 with
      | none => none
      | some (t, l3) => if l3.dropWhile sp = [] then some ((d * 86400 + t, true, false), []) else match zoneP (l3.dropWhile sp) with
        | none => none
        | some (z, r) => some ((d * 86400 + t - z, true, true), r)
/-- The document's. -/
def parseR (l : List UInt8) : Option (Int × Bool × Bool) :=
  match dayR (l.takeWhile dayC) with
  | none => none
  | some d => if l.dropWhile dayC = [] then some (d * 86400, false, false) else match gap (l.dropWhile dayC) with
    | none => none
    | some l2 => match timeR (l2.takeWhile clkC) with
      | none => none
      | some t => if l2.dropWhile clkC = [] then some (d * 86400 + t, true, false) else match zoneR ((l2.dropWhile clkC).dropWhile sp) with
        | none => none
        | some z => some (d * 86400 + t - z, true, true)
theorem gap_head {l r : List UInt8} (h : gap l = some r) : ∀ x, l.head? = some x → dayC x = false := by
  intro x hx
  cases l with
  | nil => cases hx
  | cons c t =>
    have : c = x := by simpa using hx
    subst this
    replace h : (if c = 84 ∨ c = 116 then some t else if c = 32 then some (t.dropWhile sp) else none) = some r := h
    split at h
    · rename_i hc
      rcases hc with rfl | rfl <;> decide
    · split at h
      · rename_i hc
        subst hc
        decide
      · cases h
theorem gap_tail {l r : List UInt8} (h : gap l = some r) : ∃ p, l = p ++ r := by
  cases l with
  | nil => cases h
  | cons c t =>
    replace h : (if c = 84 ∨ c = 116 then some t else if c = 32 then some (t.dropWhile sp) else none) = some r := h
    split at h
    · exact ⟨[c], by rw [Option.some.inj h]; rfl⟩
    · split at h
      · refine ⟨c :: t.takeWhile sp, ?_⟩
        rw [← Option.some.inj h, List.cons_append, span_join]
      · cases h
theorem zone_head {l : List UInt8} {v : Int × List UInt8} (h : zoneP l = some v) : ∀ x, l.head? = some x → clkC x = false := by
  intro x hx
  cases l with
  | nil => cases hx
  | cons c t =>
    have : c = x := by simpa using hx
    subst this
    rw [zoneP_cons] at h
    split at h
    · rename_i hc
      rcases hc with rfl | rfl <;> decide
    · split at h
      · rename_i hc; subst hc; decide
      · split at h
        · rename_i hc; subst hc; decide
        · cases h
theorem sp_clk {x : UInt8} (h : sp x = true) : clkC x = false := by
  have : x = 32 := by simpa [sp] using h
  subst this
  decide
/-- No blank ends a text. -/
def Ended (l : List UInt8) : Prop := ∀ x, l.getLast? = some x → isBlank x = false
theorem Ended.tail {p r : List UInt8} (h : Ended (p ++ r)) : Ended r := by
  intro x hx
  apply h x
  rw [List.getLast?_append, hx]
  rfl
theorem Ended.sp_none : ∀ {l : List UInt8}, Ended l → l.dropWhile sp = [] → l = []
  | [], _, _ => rfl
  | c :: l, h, hd => by
    cases hc : sp c
    · rw [List.dropWhile_cons_of_neg (by simp [hc])] at hd
      exact hd
    · rw [List.dropWhile_cons_of_pos hc] at hd
      have := Ended.sp_none (l := l) (Ended.tail (p := [c]) h) hd
      subst this
      have h2 := h c rfl
      have : c = 32 := by simpa [sp] using hc
      subst this
      cases h2
/-- The moment of any text that ends with no blank is the document's. -/
theorem moment_eq (l : List UInt8) (hl : Ended l) : whole (momP l) = parseR l := by
  apply opt_ext
  · intro v h
    replace h := whole_some.1 h
    unfold momP at h
    split at h
    · cases h
    rename_i d l1 hd
    obtain ⟨p, rfl, hp, ha⟩ := day_fore hd
    by_cases h1 : l1 = []
    · subst h1
      rw [if_pos rfl] at h
      have sp1 := span_stop dayC p [] ha (by intro x hx; cases hx)
      unfold parseR
      rw [sp1.1, sp1.2, hp]
      show (if [] = [] then some (d * 86400, false, false) else _) = _
      rw [if_pos rfl]
      have := Option.some.inj h
      exact congrArg some (congrArg Prod.fst this)
    · rw [if_neg h1] at h
      split at h
      · cases h
      rename_i l2 hg
      split at h
      · cases h
      rename_i t l3 hc
      have sp1 := span_stop dayC p l1 ha (gap_head hg)
      obtain ⟨c, rfl, htc, hca⟩ := clock_fore hc
      obtain ⟨g, hgt⟩ := gap_tail hg
      have hl3 : Ended l3 := Ended.tail (p := p ++ (g ++ c)) (by rw [hgt, ← List.append_assoc, ← List.append_assoc] at hl; rw [← List.append_assoc]; exact hl)
      unfold parseR
      rw [sp1.1, sp1.2, hp]
      show (if l1 = [] then _ else match gap l1 with | none => none | some l2 => _) = _
      rw [if_neg h1, hg]
      show (match timeR ((c ++ l3).takeWhile clkC) with | none => none | some t => if (c ++ l3).dropWhile clkC = [] then some (d * 86400 + t, true, false) else match zoneR (((c ++ l3).dropWhile clkC).dropWhile sp) with | none => none | some z => some (d * 86400 + t - z, true, true)) = _
      by_cases h4 : l3.dropWhile sp = []
      · rw [if_pos h4] at h
        have h30 := hl3.sp_none h4
        subst h30
        have sp2 := span_stop clkC c [] hca (by intro x hx; cases hx)
        rw [sp2.1, sp2.2, htc]
        show (if ([] : List UInt8) = [] then _ else _) = _
        rw [if_pos rfl]
        have := Option.some.inj h
        exact congrArg some (congrArg Prod.fst this)
      · rw [if_neg h4] at h
        split at h
        · cases h
        rename_i z r hz
        have e2 := congrArg Prod.snd (Option.some.inj h)
        have e2 : r = [] := e2
        subst e2
        have hzr : zoneR (l3.dropWhile sp) = some z := by rw [← zone_eq, hz]; rfl
        have sp2 := span_stop clkC c l3 hca (by
          intro x hx
          cases hs : sp x
          · have : l3.dropWhile sp = l3 := by
              cases l3 with
              | nil => cases hx
              | cons y u =>
                have : y = x := by simpa using hx
                rw [List.dropWhile_cons_of_neg (by rw [this, hs]; simp)]
            rw [this] at hz
            exact zone_head hz x hx
          · exact sp_clk hs)
        rw [sp2.1, sp2.2, htc]
        show (if l3 = [] then _ else match zoneR (l3.dropWhile sp) with | none => none | some z => _) = _
        rw [if_neg (by rintro rfl; exact h4 rfl), hzr]
        have := Option.some.inj h
        exact congrArg some (congrArg Prod.fst this)
  · intro v h
    apply whole_some.2
    unfold parseR at h
    split at h
    · cases h
    rename_i d hd
    have hdp := day_back hd (l.dropWhile dayC)
    rw [span_join] at hdp
    unfold momP
    rw [hdp]
    show (if l.dropWhile dayC = [] then _ else match gap (l.dropWhile dayC) with | none => none | some l2 => _) = _
    by_cases h1 : l.dropWhile dayC = []
    · rw [if_pos h1] at h
      rw [if_pos h1, ← Option.some.inj h]
    · rw [if_neg h1] at h
      rw [if_neg h1]
      split at h
      · cases h
      rename_i l2 hg
      split at h
      · cases h
      rename_i t ht
      have hcp := clock_back ht (r := l2.dropWhile clkC) (span_head clkC l2)
      rw [span_join] at hcp
      show (match clockP l2 with | none => none | some (t, l3) => _) = _
      rw [hcp]
      show (if (l2.dropWhile clkC).dropWhile sp = [] then _ else match zoneP ((l2.dropWhile clkC).dropWhile sp) with | none => none | some (z, r) => _) = _
      by_cases h3 : l2.dropWhile clkC = []
      · rw [if_pos h3] at h
        rw [h3]
        rw [if_pos (by rfl), ← Option.some.inj h]
      · rw [if_neg h3] at h
        split at h
        · cases h
        rename_i z hz
        rw [← zone_eq] at hz
        have hz2 := whole_some.1 hz
        rw [if_neg (by
          intro h4
          rw [h4] at hz2
          cases hz2), hz2]
        show some ((d * 86400 + t - z, true, true), []) = _
        rw [← Option.some.inj h]
theorem trim_ended (l : List UInt8) : Ended (trim l) := by
  intro x hx
  unfold trim trimR at hx
  rw [List.getLast?_reverse] at hx
  exact span_head isBlank _ x hx
end Dat
/- Plain functions: a spoken time; what is read of a text one behind the other is what the document says of the whole. -/
namespace Dat
open Asc
/-- How many hours the half of the day begins with that a text names. -/
def halfN (l : List UInt8) : Option Int :=
  if lower l = [97, 109] ∨ lower l = [97, 46, 109, 46] then some 0 else if lower l = [112, 109] ∨ lower l = [112, 46, 109, 46] then some 12 else none
def tailP (l : List UInt8) : Option (Int × Int × List UInt8) :=
  match rd1 58 l with
  | none => some (0, 0, l)
  | some l2 => match num? 2 0 59 l2 with
    | none => none
    | some m => match rd1 58 (l2.drop 2) with
      | none => some (m, 0, l2.drop 2)
      | some l3 => match num? 2 0 59 l3 with
        | none => none
        | some s => some (m, s, l3.drop 2)
def hourP (l : List UInt8) : Option (Int × List UInt8) :=
  match num? 2 1 12 l with
  | some h => some (h, l.drop 2)
  | none => match num? 1 1 9 l with
    | some h => some (h, l.drop 1)
    | none => none
/-- A spoken time, read. -/
def spokenP (l : List UInt8) : Option Int :=
  match hourP l with
  | none => none
  | some (h, l1) => match tailP l1 with
    | none => none
    | some (m, s, r) => match halfN r with
      | none => none
      | some k => some ((h % 12 + k) * 3600 + m * 60 + s)
/-- The document's. -/
def ends (s x : List UInt8) : Bool := decide (x.length ≤ s.length) && decide (lower (s.drop (s.length - x.length)) = x)
def halfR (s : List UInt8) : Option (Int × Nat) :=
  if ends s [97, 109] = true then some (0, 2) else if ends s [112, 109] = true then some (12, 2)
  else if ends s [97, 46, 109, 46] = true then some (0, 4) else if ends s [112, 46, 109, 46] = true then some (12, 4) else none
def partR (ps : List (List UInt8)) (i : Nat) : Option Int :=
  match ps[i]? with
  | none => some 0
  | some p => if two p 2 < 0 ∨ 59 < two p 2 then none else some (two p 2)
def partsR (ps : List (List UInt8)) (more : Int) : Option Int :=
  if 3 < ps.length ∨ 2 < (ps.headD []).length then none
  else if two (ps.headD []) (ps.headD []).length < 1 ∨ 12 < two (ps.headD []) (ps.headD []).length then none
  else match partR ps 1 with
    | none => none
    | some m => match partR ps 2 with
      | none => none
      | some s => some (((two (ps.headD []) (ps.headD []).length % 12 + more) * 60 + m) * 60 + s)
def spokenR (s : List UInt8) : Option Int :=
  match halfR s with
  | none => none
  | some (more, n) => partsR (split (s.take (s.length - n)) 58) more
/-- What is behind the hours: nothing, minutes, or minutes and seconds. -/
inductive Mid : List UInt8 → List (List UInt8) → Int → Int → Prop
  | none : Mid [] [] 0 0
  | min (e f : UInt8) (he : dg e) (hf : dg f) (h : v2 e f ≤ 59) : Mid [58, e, f] [[e, f]] (v2 e f) 0
  | sec (e f i j : UInt8) (he : dg e) (hf : dg f) (h : v2 e f ≤ 59) (hi : dg i) (hj : dg j) (h2 : v2 i j ≤ 59) : Mid [58, e, f, 58, i, j] [[e, f], [i, j]] (v2 e f) (v2 i j)
theorem tail_fore {l r : List UInt8} {m s : Int} (h : tailP l = some (m, s, r)) : ∃ q ps, l = q ++ r ∧ Mid q ps m s := by
  unfold tailP at h
  split at h
  · have := Option.some.inj h
    simp at this
    obtain ⟨rfl, rfl, rfl⟩ := this
    exact ⟨[], [], rfl, .none⟩
  rename_i l2 h2
  have e2 : l = 58 :: l2 := (rd1_iff 58 l l2).1 h2
  subst e2
  split at h
  · cases h
  rename_i x hx
  obtain ⟨e, f, u, rfl, he, hf, ex, x1, x2⟩ := (num2_iff (by omega)).1 hx
  subst ex
  split at h
  · have := Option.some.inj h
    simp at this
    obtain ⟨rfl, rfl, rfl⟩ := this
    exact ⟨[58, e, f], _, rfl, .min e f he hf x2⟩
  rename_i l3 h3
  have e3 : u = 58 :: l3 := (rd1_iff 58 u l3).1 h3
  subst e3
  split at h
  · cases h
  rename_i y hy
  obtain ⟨i, j, u, rfl, hi, hj, ey, y1, y2⟩ := (num2_iff (by omega)).1 hy
  subst ey
  have := Option.some.inj h
  simp at this
  obtain ⟨rfl, rfl, rfl⟩ := this
  exact ⟨[58, e, f, 58, i, j], _, rfl, .sec e f i j he hf x2 hi hj y2⟩
theorem rd1_head {c : UInt8} {r : List UInt8} (h : r.head? ≠ some c) : rd1 c r = none := by
  cases r with
  | nil => rfl
  | cons x t =>
    show (if x = c then some t else none) = none
    rw [if_neg]
    rintro rfl
    exact h rfl
theorem tail_back {q r : List UInt8} {ps : List (List UInt8)} {m s : Int} (h : Mid q ps m s) (hr : r.head? ≠ some 58) : tailP (q ++ r) = some (m, s, r) := by
  have hn := rd1_head hr
  cases h with
  | none =>
    unfold tailP
    rw [List.nil_append, hn]
  | min e f he hf h =>
    have bd := v2_bd he hf
    have q1 : rd1 58 ([58, e, f] ++ r) = some (e :: f :: r) := (rd1_iff 58 _ _).2 rfl
    have q2 : num? 2 0 59 (e :: f :: r) = some (v2 e f) := (num2_iff (by omega)).2 ⟨e, f, r, rfl, he, hf, rfl, by omega, h⟩
    unfold tailP
    rw [q1]
    show (match num? 2 0 59 (e :: f :: r) with | none => none | some m => _) = _
    rw [q2]
    show (match rd1 58 r with | none => _ | some l3 => _) = _
    rw [hn]
    rfl
  | sec e f i j he hf h hi hj h2 =>
    have bd := v2_bd he hf
    have bd2 := v2_bd hi hj
    have q1 : rd1 58 ([58, e, f, 58, i, j] ++ r) = some (e :: f :: 58 :: i :: j :: r) := (rd1_iff 58 _ _).2 rfl
    have q2 : num? 2 0 59 (e :: f :: 58 :: i :: j :: r) = some (v2 e f) := (num2_iff (by omega)).2 ⟨e, f, _, rfl, he, hf, rfl, by omega, h⟩
    have q3 : rd1 58 (58 :: i :: j :: r) = some (i :: j :: r) := (rd1_iff 58 _ _).2 rfl
    have q4 : num? 2 0 59 (i :: j :: r) = some (v2 i j) := (num2_iff (by omega)).2 ⟨i, j, _, rfl, hi, hj, rfl, by omega, h2⟩
    unfold tailP
    rw [q1]
    show (match num? 2 0 59 (e :: f :: 58 :: i :: j :: r) with | none => none | some m => _) = _
    rw [q2]
    show (match rd1 58 (58 :: i :: j :: r) with | none => some (v2 e f, 0, 58 :: i :: j :: r) | some l3 => match num? 2 0 59 l3 with | none => none | some s => some (v2 e f, s, l3.drop 2)) = _
    rw [q3]
    show (match num? 2 0 59 (i :: j :: r) with | none => none | some s => some (v2 e f, s, r)) = _
    rw [q4]
/-- One or two digits, from 1 to 12. -/
inductive Hour : List UInt8 → Int → Prop
  | one (a : UInt8) (ha : dg a) (h : 1 ≤ v1 a) : Hour [a] (v1 a)
  | two (a b : UInt8) (ha : dg a) (hb : dg b) (h : 1 ≤ v2 a b) (h2 : v2 a b ≤ 12) : Hour [a, b] (v2 a b)
theorem hour_fore {l r : List UInt8} {x : Int} (h : hourP l = some (x, r)) : ∃ p, l = p ++ r ∧ Hour p x := by
  unfold hourP at h
  split at h
  · rename_i y hy
    obtain ⟨a, b, u, rfl, ha, hb, ey, y1, y2⟩ := (num2_iff (by omega)).1 hy
    subst ey
    have := Option.some.inj h
    simp at this
    obtain ⟨rfl, rfl⟩ := this
    exact ⟨[a, b], rfl, .two a b ha hb y1 y2⟩
  · split at h
    · rename_i y hy
      obtain ⟨a, u, rfl, ha, ey, y1, y2⟩ := (num1_iff (by omega)).1 hy
      subst ey
      have := Option.some.inj h
      simp at this
      obtain ⟨rfl, rfl⟩ := this
      exact ⟨[a], rfl, .one a ha y1⟩
    · cases h
theorem hour_back {p r : List UInt8} {x : Int} (h : Hour p x) (hr : ∀ c, r.head? = some c → ¬ dg c) : hourP (p ++ r) = some (x, r) := by
  cases h with
  | one a ha h1 =>
    have bd := v1_bd ha
    have q1 : num? 2 1 12 ([a] ++ r) = none := by
      cases hx : num? 2 1 12 ([a] ++ r) with
      | none => rfl
      | some y =>
        obtain ⟨_, b', u, e, _, hb', _⟩ := (num2_iff (by omega)).1 hx
        have e : a :: r = _ := e
        simp at e
        rw [e.2] at hr
        exact absurd hb' (hr b' rfl)
    have q2 : num? 1 1 9 ([a] ++ r) = some (v1 a) := (num1_iff (by omega)).2 ⟨a, r, rfl, ha, rfl, h1, bd.2⟩
    unfold hourP
    rw [q1]
    show (match num? 1 1 9 ([a] ++ r) with | some h => _ | none => _) = _
    rw [q2]
    rfl
  | two a b ha hb h1 h2 =>
    have q1 : num? 2 1 12 ([a, b] ++ r) = some (v2 a b) := (num2_iff (by omega)).2 ⟨a, b, r, rfl, ha, hb, rfl, h1, h2⟩
    unfold hourP
    rw [q1]
    rfl
theorem dg58 {c : UInt8} (h : dg c) : ¬ c = 58 := by
  rintro rfl
  unfold dg bt at h
  simp at h
theorem Hour.split {p q : List UInt8} {ps : List (List UInt8)} {x m s : Int} (h : Hour p x) (k : Mid q ps m s) : Asc.split (p ++ q) 58 = p :: ps := by
  cases h with
  | one a ha _ =>
    cases k with
    | none => simp [Asc.split, sst, sstep, dg58 ha]
    | min e f he hf _ => simp [Asc.split, sst, sstep, dg58 ha, dg58 he, dg58 hf]
    | sec e f i j he hf _ hi hj _ => simp [Asc.split, sst, sstep, dg58 ha, dg58 he, dg58 hf, dg58 hi, dg58 hj]
  | two a b ha hb _ _ =>
    cases k with
    | none => simp [Asc.split, sst, sstep, dg58 ha, dg58 hb]
    | min e f he hf _ => simp [Asc.split, sst, sstep, dg58 ha, dg58 hb, dg58 he, dg58 hf]
    | sec e f i j he hf _ hi hj _ => simp [Asc.split, sst, sstep, dg58 ha, dg58 hb, dg58 he, dg58 hf, dg58 hi, dg58 hj]
theorem Hour.val {p : List UInt8} {x : Int} (h : Hour p x) : Dat.two p p.length = x ∧ 1 ≤ x ∧ x ≤ 12 ∧ p.length ≤ 2 := by
  cases h with
  | one a ha h1 => exact ⟨two1 ha, h1, by have := v1_bd ha; omega, by simp⟩
  | two a b ha hb h1 h2 => exact ⟨two2 ha hb, h1, h2, by simp⟩
theorem Mid.val {q : List UInt8} {ps : List (List UInt8)} {m s : Int} (h : Mid q ps m s) (p : List UInt8) : (p :: ps).length ≤ 3 ∧ partR (p :: ps) 1 = some m ∧ partR (p :: ps) 2 = some s := by
  cases h with
  | none => exact ⟨by simp, rfl, rfl⟩
  | min e f he hf h =>
    refine ⟨by simp, ?_, rfl⟩
    show (if two [e, f] 2 < 0 ∨ 59 < two [e, f] 2 then Option.none else some (two [e, f] 2)) = _
    have := v2_bd he hf
    rw [two2 he hf, if_neg (by omega)]
  | sec e f i j he hf h hi hj h2 =>
    have := v2_bd he hf
    have := v2_bd hi hj
    refine ⟨by simp, ?_, ?_⟩
    · show (if two [e, f] 2 < 0 ∨ 59 < two [e, f] 2 then Option.none else some (two [e, f] 2)) = _
      rw [two2 he hf, if_neg (by omega)]
    · show (if two [i, j] 2 < 0 ∨ 59 < two [i, j] 2 then Option.none else some (two [i, j] 2)) = _
      rw [two2 hi hj, if_neg (by omega)]
theorem ends_app (b r x : List UInt8) (h : r.length = x.length) : ends (b ++ r) x = decide (lower r = x) := by
  unfold ends
  have h1 : x.length ≤ (b ++ r).length := by rw [List.length_append]; omega
  have h2 : (b ++ r).length - x.length = b.length := by rw [List.length_append]; omega
  rw [h2, List.drop_left, decide_eq_true h1, Bool.true_and]
theorem ends_two (b : List UInt8) (x y z w : UInt8) (t : List UInt8) (h : t.length = 2) : ends (b ++ [x, y, z, w]) t = decide (lower [z, w] = t) := by
  have e : b ++ [x, y, z, w] = (b ++ [x, y]) ++ [z, w] := by simp
  rw [e]
  exact ends_app _ _ _ h.symm
theorem lower_len (l : List UInt8) : (lower l).length = l.length := by simp [lower]
theorem half_fore {r : List UInt8} {k : Int} (h : halfN r = some k) (b : List UInt8) : halfR (b ++ r) = some (k, r.length) := by
  unfold halfN at h
  split at h
  · rename_i hx
    rcases hx with hx | hx
    · have hl : r.length = 2 := by rw [← lower_len, hx]; rfl
      unfold halfR
      rw [ends_app b r _ (by rw [hl]; rfl), if_pos (decide_eq_true hx), ← Option.some.inj h, hl]
    · have hl : r.length = 4 := by rw [← lower_len, hx]; rfl
      obtain ⟨x, y, z, w, t, rfl⟩ := len4 (l := r) (by omega)
      have ht : t = [] := by simpa using hl
      subst ht
      have hz : lower [z, w] = [109, 46] := by
        have : lower [x, y, z, w] = [lowerC x, lowerC y, lowerC z, lowerC w] := rfl
        rw [this] at hx
        simp at hx
        simp [lower, hx.2.2.1, hx.2.2.2]
      unfold halfR
      rw [ends_two b x y z w _ rfl, hz, if_neg (by decide), ends_two b x y z w _ rfl, hz, if_neg (by decide), ends_app b [x, y, z, w] [97, 46, 109, 46] rfl, if_pos (decide_eq_true hx), ← Option.some.inj h]
      rfl
  · split at h
    · rename_i hx
      rcases hx with hx | hx
      · have hl : r.length = 2 := by rw [← lower_len, hx]; rfl
        unfold halfR
        rw [ends_app b r _ (by rw [hl]; rfl), hx, if_neg (by decide), ends_app b r _ (by rw [hl]; rfl), if_pos (decide_eq_true hx), ← Option.some.inj h, hl]
      · have hl : r.length = 4 := by rw [← lower_len, hx]; rfl
        obtain ⟨x, y, z, w, t, rfl⟩ := len4 (l := r) (by omega)
        have ht : t = [] := by simpa using hl
        subst ht
        have hz : lower [z, w] = [109, 46] := by
          have : lower [x, y, z, w] = [lowerC x, lowerC y, lowerC z, lowerC w] := rfl
          rw [this] at hx
          simp at hx
          simp [lower, hx.2.2.1, hx.2.2.2]
        unfold halfR
        rw [ends_two b x y z w _ rfl, hz, if_neg (by decide), ends_two b x y z w _ rfl, hz, if_neg (by decide), ends_app b [x, y, z, w] [97, 46, 109, 46] rfl, hx, if_neg (by decide), ends_app b [x, y, z, w] [112, 46, 109, 46] rfl, if_pos (decide_eq_true hx), ← Option.some.inj h]
        rfl
    · cases h
theorem ends_some {s x : List UInt8} (h : ends s x = true) : x.length ≤ s.length ∧ lower (s.drop (s.length - x.length)) = x := by
  unfold ends at h
  simpa using h
theorem half_back {s : List UInt8} {k : Int} {n : Nat} (h : halfR s = some (k, n)) : n ≤ s.length ∧ halfN (s.drop (s.length - n)) = some k := by
  unfold halfR at h
  split at h
  · rename_i hx
    have hx := ends_some hx
    have := Option.some.inj h
    simp at this
    obtain ⟨rfl, rfl⟩ := this
    refine ⟨hx.1, ?_⟩
    unfold halfN
    rw [if_pos (.inl hx.2)]
  · split at h
    · rename_i hx
      have hx := ends_some hx
      have := Option.some.inj h
      simp at this
      obtain ⟨rfl, rfl⟩ := this
      refine ⟨hx.1, ?_⟩
      have e : lower (s.drop (s.length - 2)) = [112, 109] := hx.2
      unfold halfN
      rw [e, if_neg (by decide), if_pos (by decide)]
    · split at h
      · rename_i hx
        have hx := ends_some hx
        have := Option.some.inj h
        simp at this
        obtain ⟨rfl, rfl⟩ := this
        refine ⟨hx.1, ?_⟩
        unfold halfN
        rw [if_pos (.inr hx.2)]
      · split at h
        · rename_i hx
          have hx := ends_some hx
          have := Option.some.inj h
          simp at this
          obtain ⟨rfl, rfl⟩ := this
          refine ⟨hx.1, ?_⟩
          have e : lower (s.drop (s.length - 4)) = [112, 46, 109, 46] := hx.2
          unfold halfN
          rw [e, if_neg (by decide), if_pos (by decide)]
        · cases h
/-- A half's text opens with no digit, and no colon. -/
theorem half_head {r : List UInt8} {k : Int} (h : halfN r = some k) : ∀ c, r.head? = some c → ¬ dg c ∧ c ≠ 58 := by
  intro c hc
  cases r with
  | nil => cases hc
  | cons x t =>
    have : x = c := by simpa using hc
    subst this
    have hx : lowerC x = 97 ∨ lowerC x = 112 := by
      unfold halfN at h
      have e : lower (x :: t) = lowerC x :: lower t := rfl
      rw [e] at h
      split at h
      · rename_i hy
        rcases hy with hy | hy <;> exact .inl (List.cons.inj hy).1
      · split at h
        · rename_i hy
          rcases hy with hy | hy <;> exact .inr (List.cons.inj hy).1
        · cases h
    constructor
    · intro hd
      have : lowerC x = x := by
        unfold lowerC
        rw [if_neg]
        rintro ⟨h1, _⟩
        have h1 := UInt8.le_iff_toNat_le.1 h1
        unfold dg bt at hd
        simp at h1
        omega
      rw [this] at hx
      rcases hx with rfl | rfl <;> (unfold dg bt at hd; simp at hd)
    · rintro rfl
      rcases hx with hx | hx <;> exact absurd hx (by decide)
theorem Mid.head {q r : List UInt8} {ps : List (List UInt8)} {m s : Int} (h : Mid q ps m s) (hr : ∀ c, r.head? = some c → ¬ dg c) : ∀ c, (q ++ r).head? = some c → ¬ dg c := by
  intro c hc
  cases h with
  | none => exact hr c hc
  | min e f _ _ _ =>
    have : (58 : UInt8) = c := by simpa using hc
    subst this
    intro hd
    exact dg58 hd rfl
  | sec e f i j _ _ _ _ _ _ =>
    have : (58 : UInt8) = c := by simpa using hc
    subst this
    intro hd
    exact dg58 hd rfl
theorem hour_of {p : List UInt8} (hl : p.length ≤ 2) (h1 : 1 ≤ two p p.length) (h2 : two p p.length ≤ 12) : Hour p (two p p.length) := by
  have g := two_pos (l := p) (k := p.length) (by omega)
  match p, hl with
  | [], _ => cases g.2.1
  | [a], _ =>
    have := two1_pos (a := a) (by exact Int.le_trans (by omega) h1)
    have e : two [a] [a].length = v1 a := this.2
    rw [e] at h1 ⊢
    exact .one a this.1 h1
  | [a, b], _ =>
    have := two2_pos (a := a) (b := b) (by exact Int.le_trans (by omega) h1)
    have e : two [a, b] [a, b].length = v2 a b := this.2.2
    rw [e] at h1 h2 ⊢
    exact .two a b this.1 this.2.1 h1 h2
theorem part_of {ps : List (List UInt8)} {i : Nat} {p : List UInt8} {m : Int} (h : partR ps i = some m) (hp : ps[i]? = some p) : ∃ e f, p = [e, f] ∧ dg e ∧ dg f ∧ m = v2 e f ∧ v2 e f ≤ 59 := by
  unfold partR at h
  rw [hp] at h
  replace h : (if two p 2 < 0 ∨ 59 < two p 2 then none else some (two p 2)) = some m := h
  split at h
  · cases h
  rename_i hb
  have g := two_pos (l := p) (k := 2) (by omega)
  obtain ⟨e, f, u, rfl⟩ := len2 (l := p) (by omega)
  have hu : u = [] := by simpa using g.1
  subst hu
  have g3 := two2_pos (a := e) (b := f) (by omega)
  have := Option.some.inj h
  exact ⟨e, f, rfl, g3.1, g3.2.1, by rw [← this]; exact g3.2.2, by omega⟩
theorem join1 (p sep : List UInt8) : Go.Lib.join [p] sep = p := by simp [Go.Lib.join]
theorem join2 (p q sep : List UInt8) : Go.Lib.join [p, q] sep = p ++ sep ++ q := by simp [Go.Lib.join]
theorem join3 (p q r sep : List UInt8) : Go.Lib.join [p, q, r] sep = p ++ sep ++ q ++ sep ++ r := by simp [Go.Lib.join]
theorem parts_mid {b : List UInt8} {more v : Int} (h : partsR (Asc.split b 58) more = some v) : ∃ p q ps x m s, b = p ++ q ∧ Hour p x ∧ Mid q ps m s ∧ v = ((x % 12 + more) * 60 + m) * 60 + s := by
  have hj := join_split 58 b
  generalize Asc.split b 58 = ps at h hj
  unfold partsR at h
  split at h
  · cases h
  rename_i h3
  split at h
  · cases h
  rename_i hx
  split at h
  · cases h
  rename_i m hm
  split at h
  · cases h
  rename_i s hs
  have hv := (Option.some.inj h).symm
  have hh := hour_of (p := ps.headD []) (by omega) (by omega) (by omega)
  match ps, h3 with
  | [], _ => cases hh
  | [p], _ =>
    have em : m = 0 := (Option.some.inj hm).symm
    have es : s = 0 := (Option.some.inj hs).symm
    subst em es
    rw [join1] at hj
    exact ⟨p, [], [], _, 0, 0, by rw [List.append_nil]; exact hj.symm, hh, .none, hv⟩
  | [p, q], _ =>
    have es : s = 0 := (Option.some.inj hs).symm
    subst es
    obtain ⟨e, f, rfl, he, hf, rfl, h59⟩ := part_of hm rfl
    rw [join2] at hj
    exact ⟨p, [58, e, f], _, _, _, 0, by rw [← hj]; simp, hh, .min e f he hf h59, hv⟩
  | [p, q, r], _ =>
    obtain ⟨e, f, rfl, he, hf, rfl, h59⟩ := part_of hm rfl
    obtain ⟨i, j, rfl, hi, hj2, rfl, h592⟩ := part_of hs rfl
    rw [join3] at hj
    exact ⟨p, [58, e, f, 58, i, j], _, _, _, _, by rw [← hj]; simp, hh, .sec e f i j he hf h59 hi hj2 h592, hv⟩
  | _ :: _ :: _ :: _ :: _, h3 => simp at h3
/-- The spoken time of any text is the document's. -/
theorem spoken_eq (l : List UInt8) : spokenP l = spokenR l := by
  apply opt_ext
  · intro v h
    unfold spokenP at h
    split at h
    · cases h
    rename_i x l1 hx
    split at h
    · cases h
    rename_i m s r hm
    split at h
    · cases h
    rename_i k hk
    obtain ⟨p, rfl, hp⟩ := hour_fore hx
    obtain ⟨q, ps, rfl, hq⟩ := tail_fore hm
    have hf := half_fore hk (p ++ q)
    rw [← List.append_assoc]
    unfold spokenR
    rw [hf]
    show partsR (Asc.split (((p ++ q) ++ r).take (((p ++ q) ++ r).length - r.length)) 58) k = _
    have e : ((p ++ q) ++ r).length - r.length = (p ++ q).length := by rw [List.length_append]; omega
    rw [e, List.take_left, hp.split hq]
    unfold partsR
    have hv := hp.val
    have mv := hq.val p
    show (if 3 < (p :: ps).length ∨ 2 < p.length then none else if two p p.length < 1 ∨ 12 < two p p.length then none else match partR (p :: ps) 1 with | none => none | some m => match partR (p :: ps) 2 with | none => none | some s => some (((two p p.length % 12 + k) * 60 + m) * 60 + s)) = some v
    rw [if_neg (by omega), hv.1, if_neg (by omega), mv.2.1]
    show (match partR (p :: ps) 2 with | none => none | some s => some (((x % 12 + k) * 60 + m) * 60 + s)) = some v
    rw [mv.2.2, ← Option.some.inj h]
    show some (((x % 12 + k) * 60 + m) * 60 + s) = _
    congr 1
    omega
  · intro v h
    unfold spokenR at h
    split at h
    · cases h
    rename_i more n hh
    obtain ⟨hn, hk⟩ := half_back hh
    obtain ⟨p, q, ps, x, m, s, hb, hp, hq, hv⟩ := parts_mid h
    have hl : l = p ++ (q ++ l.drop (l.length - n)) := by
      rw [← List.append_assoc, ← hb, List.take_append_drop]
    have hd := half_head hk
    have h1 := hour_back hp (r := q ++ l.drop (l.length - n)) (hq.head (fun c hc => (hd c hc).1))
    rw [← hl] at h1
    have h2 := tail_back hq (r := l.drop (l.length - n)) (fun hc => (hd 58 hc).2 rfl)
    unfold spokenP
    rw [h1]
    show (match tailP (q ++ l.drop (l.length - n)) with | none => none | some (m, s, r) => _) = _
    rw [h2]
    show (match halfN (l.drop (l.length - n)) with | none => none | some k => _) = _
    rw [hk, hv]
    show some ((x % 12 + more) * 3600 + m * 60 + s) = _
    congr 1
    omega
end Dat
