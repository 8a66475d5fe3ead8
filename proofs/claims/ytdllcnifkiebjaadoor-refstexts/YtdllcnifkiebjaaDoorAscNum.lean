/- Plain functions: decimal numbers. -/
import Derived.Test.YtdllcnifkiebjaaDoorAscHex
namespace Asc
def isDig (n : Int) : Bool := decide (48 ≤ n ∧ n ≤ 57)
def allDig (l : List UInt8) : Bool := l.all fun c => isDig (bt c)
def digForm (l : List UInt8) : Bool := allDig l && !l.isEmpty
/-- The number, as far as it stays at most 'most'. -/
def numFold (most : Int) : Int → List UInt8 → Option Int
  | n, [] => some n
  | n, c :: r => if most < n * 10 + (bt c - 48) then none else numFold most (n * 10 + (bt c - 48)) r
def numNum (l : List UInt8) (most : Int) : Int := if digForm l = true then (if most < 0 then 0 else (numFold most 0 l).getD 0) else 0
def numErr (l : List UInt8) (most : Int) : Int := if digForm l = true then (if most < 0 then 5 else (match numFold most 0 l with | some _ => 0 | none => 5)) else 3
theorem num_form (l : List UInt8) (most : Int) (h : digForm l = false) : numNum l most = 0 ∧ numErr l most = 3 := by
  unfold numNum numErr; rw [h]; exact ⟨rfl, rfl⟩
theorem num_neg (l : List UInt8) (most : Int) (h : digForm l = true) (hm : most < 0) : numNum l most = 0 ∧ numErr l most = 5 := by
  unfold numNum numErr; rw [if_pos h, if_pos h, if_pos hm, if_pos hm]; exact ⟨rfl, rfl⟩
theorem num_many (l : List UInt8) (most : Int) (h : digForm l = true) (hm : 0 ≤ most) (hf : numFold most 0 l = none) : numNum l most = 0 ∧ numErr l most = 5 := by
  unfold numNum numErr; rw [if_pos h, if_pos h, if_neg (by omega), if_neg (by omega), hf]; exact ⟨rfl, rfl⟩
theorem num_ok (l : List UInt8) (most n : Int) (h : digForm l = true) (hm : 0 ≤ most) (hf : numFold most 0 l = some n) : numNum l most = n ∧ numErr l most = 0 := by
  unfold numNum numErr; rw [if_pos h, if_pos h, if_neg (by omega), if_neg (by omega), hf]; exact ⟨rfl, rfl⟩
theorem numFold_next (most : Int) (l : List UInt8) (k : Nat) (n : Int) (h : k < l.length) (hn : ¬ most < n * 10 + (bt l[k] - 48)) : numFold most n (l.drop k) = numFold most (n * 10 + (bt l[k] - 48)) (l.drop (k + 1)) := by
  rw [drop_at l k h, numFold, if_neg hn]
theorem numFold_stop (most : Int) (l : List UInt8) (k : Nat) (n : Int) (h : k < l.length) (hn : most < n * 10 + (bt l[k] - 48)) : numFold most n (l.drop k) = none := by
  rw [drop_at l k h, numFold, if_pos hn]
theorem numFold_end (most : Int) (l : List UInt8) (k : Nat) (n : Int) (h : l.length ≤ k) : numFold most n (l.drop k) = some n := by
  rw [List.drop_eq_nil_of_le h, numFold]
theorem allDig_take (l : List UInt8) (k : Nat) (h : k < l.length) : allDig (l.take (k + 1)) = (allDig (l.take k) && isDig (bt l[k])) := by
  unfold allDig
  rw [List.take_succ_eq_append_getElem h, List.all_append]
  simp
theorem allDig_not (l : List UInt8) (k : Nat) (h : k < l.length) (hn : isDig (bt l[k]) = false) : allDig l = false := by
  unfold allDig
  rw [List.all_eq_false]
  exact ⟨l[k], List.getElem_mem h, by simp [hn]⟩
theorem allDig_at (l : List UInt8) (k : Nat) (h : k < l.length) (ha : allDig l = true) : 48 ≤ bt l[k] ∧ bt l[k] ≤ 57 := by
  unfold allDig at ha
  have := List.all_eq_true.1 ha l[k] (List.getElem_mem h)
  simpa [isDig] using this
theorem digForm_all (l : List UInt8) (h : digForm l = true) : allDig l = true := by
  unfold digForm at h
  rw [Bool.and_eq_true] at h
  exact h.1
/-- The step past the greatest, as the program asks it. -/
theorem past (n most d : Int) (h0 : 0 ≤ d) (h1 : d ≤ 9) : (most < n * 10 + d) ↔ (most / 10 < n ∨ (n = most / 10 ∧ most % 10 < d)) := by omega
end Asc
