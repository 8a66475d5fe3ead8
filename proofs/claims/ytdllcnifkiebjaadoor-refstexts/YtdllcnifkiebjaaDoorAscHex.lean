/- Plain functions: bytes to lower, hex digits and hex numbers. -/
namespace Asc
def lowN (n : Int) : Int := if 65 ≤ n ∧ n ≤ 90 then n + 32 else n
def lowerC (c : UInt8) : UInt8 := if 65 ≤ c ∧ c ≤ 90 then c + 32 else c
def lower (l : List UInt8) : List UInt8 := l.map lowerC
theorem lowN_byte (c : UInt8) : lowN (c.toNat : Int) = ((lowerC c).toNat : Int) := by
  unfold lowN lowerC
  have e : ((65 : Int) ≤ (c.toNat : Int) ∧ (c.toNat : Int) ≤ 90) ↔ (65 ≤ c ∧ c ≤ 90) := by
    rw [UInt8.le_iff_toNat_le, UInt8.le_iff_toNat_le]
    simp
    omega
  by_cases h : 65 ≤ c ∧ c ≤ 90
  · rw [if_pos (e.2 h), if_pos h]
    have := e.2 h
    rw [UInt8.toNat_add]
    simp
    omega
  · rw [if_neg (fun x => h (e.1 x)), if_neg h]
theorem lowN_bd (n : Int) (h0 : 0 ≤ n) (h1 : n ≤ 255) : 0 ≤ lowN n ∧ lowN n ≤ 255 := by unfold lowN; split <;> omega
theorem lower_snoc (l : List UInt8) (c : UInt8) : lower (l ++ [c]) = lower l ++ [lowerC c] := by simp [lower]
/-- A hex digit's number, and whether it is one. -/
def hexOk (n : Int) : Bool := decide (48 ≤ n ∧ n ≤ 57) || decide (97 ≤ n ∧ n ≤ 102) || decide (65 ≤ n ∧ n ≤ 70)
def hexV (n : Int) : Int := if 48 ≤ n ∧ n ≤ 57 then n - 48 else if 97 ≤ n ∧ n ≤ 102 then n - 87 else if 65 ≤ n ∧ n ≤ 70 then n - 55 else 0
theorem hexV_bd (n : Int) : 0 ≤ hexV n ∧ hexV n ≤ 15 := by unfold hexV; split; omega; split; omega; split <;> omega
theorem hex_digit (n : Int) (h : 48 ≤ lowN n) (h2 : lowN n ≤ 57) : hexV n = lowN n - 48 ∧ hexOk n = true := by
  have e : lowN n = n := by unfold lowN at *; split at h <;> omega
  rw [e] at h h2
  unfold hexV hexOk
  rw [if_pos ⟨h, h2⟩, e]
  simp [h, h2]
theorem hex_letter (n : Int) (h : 97 ≤ lowN n) (h2 : lowN n ≤ 102) : hexV n = lowN n - 97 + 10 ∧ hexOk n = true := by
  unfold lowN at *
  unfold hexV hexOk
  split at h
  · rw [if_pos (by assumption)] at h2
    rw [if_neg (by omega), if_neg (by omega), if_pos (by omega)]
    refine ⟨by omega, ?_⟩
    simp only [Bool.or_eq_true, decide_eq_true_eq]
    omega
  · rw [if_neg (by assumption)] at h2
    rw [if_neg (by omega), if_pos (by omega)]
    refine ⟨by omega, ?_⟩
    simp only [Bool.or_eq_true, decide_eq_true_eq]
    omega
theorem hex_none (n : Int) (h : lowN n < 48 ∨ (57 < lowN n ∧ lowN n < 97) ∨ 102 < lowN n) : hexV n = 0 ∧ hexOk n = false := by
  have hn : ¬ (48 ≤ n ∧ n ≤ 57) ∧ ¬ (97 ≤ n ∧ n ≤ 102) ∧ ¬ (65 ≤ n ∧ n ≤ 70) := by
    unfold lowN at h
    split at h <;> omega
  unfold hexV hexOk
  rw [if_neg hn.1, if_neg hn.2.1, if_neg hn.2.2, decide_eq_false hn.1, decide_eq_false hn.2.1, decide_eq_false hn.2.2]
  exact ⟨rfl, rfl⟩
def bt (c : UInt8) : Int := (c.toNat : Int)
def allHex (l : List UInt8) : Bool := l.all fun c => hexOk (bt c)
/-- The number, as far as it stays below 2^32. -/
def hexFold : Int → List UInt8 → Option Int
  | n, [] => some n
  | n, c :: r => if 268435455 < n then none else hexFold (n * 16 + hexV (bt c)) r
/-- The document's Hex: the number and the error's number. -/
def hexNum (l : List UInt8) : Int := if allHex l = true ∧ l ≠ [] then (hexFold 0 l).getD 0 else 0
def hexErr (l : List UInt8) : Int := if allHex l = true ∧ l ≠ [] then (match hexFold 0 l with | some _ => 0 | none => 5) else 3
theorem drop_at (l : List UInt8) (k : Nat) (h : k < l.length) : l.drop k = l[k] :: l.drop (k + 1) := List.drop_eq_getElem_cons h
theorem hexFold_next (l : List UInt8) (k : Nat) (n : Int) (h : k < l.length) (hn : n ≤ 268435455) : hexFold n (l.drop k) = hexFold (n * 16 + hexV (bt l[k])) (l.drop (k + 1)) := by
  rw [drop_at l k h, hexFold, if_neg (by omega)]
theorem hexFold_stop (l : List UInt8) (k : Nat) (n : Int) (h : k < l.length) (hn : 268435455 < n) : hexFold n (l.drop k) = none := by
  rw [drop_at l k h, hexFold, if_pos hn]
theorem hexFold_end (l : List UInt8) (k : Nat) (n : Int) (h : l.length ≤ k) : hexFold n (l.drop k) = some n := by
  rw [List.drop_eq_nil_of_le h, hexFold]
theorem hex_form (l : List UInt8) (h : ¬ (allHex l = true ∧ l ≠ [])) : hexNum l = 0 ∧ hexErr l = 3 := by
  unfold hexNum hexErr; rw [if_neg h, if_neg h]; exact ⟨rfl, rfl⟩
theorem hex_many (l : List UInt8) (h : allHex l = true ∧ l ≠ []) (hf : hexFold 0 l = none) : hexNum l = 0 ∧ hexErr l = 5 := by
  unfold hexNum hexErr; rw [if_pos h, if_pos h, hf]; exact ⟨rfl, rfl⟩
theorem hex_ok (l : List UInt8) (n : Int) (h : allHex l = true ∧ l ≠ []) (hf : hexFold 0 l = some n) : hexNum l = n ∧ hexErr l = 0 := by
  unfold hexNum hexErr; rw [if_pos h, if_pos h, hf]; exact ⟨rfl, rfl⟩
theorem allHex_take (l : List UInt8) (k : Nat) (h : k < l.length) : allHex (l.take (k + 1)) = (allHex (l.take k) && hexOk (bt l[k])) := by
  unfold allHex
  rw [List.take_succ_eq_append_getElem h, List.all_append]
  simp
theorem allHex_not (l : List UInt8) (k : Nat) (h : k < l.length) (hn : hexOk (bt l[k]) = false) : allHex l = false := by
  unfold allHex
  rw [List.all_eq_false]
  exact ⟨l[k], List.getElem_mem h, by simp [hn]⟩
def hexForm (l : List UInt8) : Bool := allHex l && !l.isEmpty
theorem hexForm_no (l : List UInt8) (h : hexForm l = false) : ¬ (allHex l = true ∧ l ≠ []) := by
  rintro ⟨h1, h2⟩
  unfold hexForm at h
  rw [h1] at h
  simp at h
  exact h2 h
theorem hexForm_yes (l : List UInt8) (h : hexForm l = true) : allHex l = true ∧ l ≠ [] := by
  unfold hexForm at h
  rw [Bool.and_eq_true] at h
  exact ⟨h.1, by have := h.2; intro e; rw [e] at this; simp at this⟩
end Asc
