/- Contracts of the reference's Number, nibble and Hex. -/
import Derived.Test.YtoggbikjkccfeabDoorCNum
namespace Go.Proofs.YtoggbikjkccfeabDoor
open Go.RowKit
theorem empty_yes (s : ByteArray) (h : s.size = 0) : s.toList.isEmpty = true := by
  rw [ByteArray.toList_eq, List.isEmpty_iff, ← List.length_eq_zero_iff]
  exact h
theorem empty_no (s : ByteArray) (h : ¬ s.size = 0) : s.toList.isEmpty = false := by
  rw [ByteArray.toList_eq, Bool.eq_false_iff]
  intro e
  exact h (List.length_eq_zero_iff.2 (List.isEmpty_iff.1 e))
theorem digForm_empty (s : ByteArray) (h : s.size = 0) : Asc.digForm s.data.toList = false := by
  have := empty_yes s h
  rw [ByteArray.toList_eq] at this
  unfold Asc.digForm
  rw [this]
  simp
theorem digForm_yes (s : ByteArray) (h : ¬ s.size = 0) (ha : Asc.allDig s.data.toList = true) : Asc.digForm s.data.toList = true := by
  have := empty_no s h
  rw [ByteArray.toList_eq] at this
  unfold Asc.digForm
  rw [this, ha]
  rfl
theorem tdiv_form (most : Int) (h : most < 0) : most.tdiv 10 = -((-most) / 10) := by
  have e : most = -(-most) := by omega
  conv => lhs; rw [e]
  rw [Int.neg_tdiv, Int.tdiv_eq_ediv_of_nonneg (by omega)]
theorem tdiv_low (most : Int) (h0 : -9223372036854775808 ≤ most) (h : most ≤ -10) : -9223372036854775808 ≤ most.tdiv 10 ∧ most.tdiv 10 < 0 := by
  rw [tdiv_form most (by omega)]
  omega
theorem tdiv_zero (most : Int) (h : most < 0) (h2 : -10 < most) : most.tdiv 10 = 0 := by
  rw [tdiv_form most h]
  omega
theorem tmod_same (most : Int) (h : most < 0) (h2 : -10 < most) : most.tmod 10 = most := by
  have := Int.tmod_add_tdiv_mul most 10
  rw [tdiv_zero most h h2] at this
  omega
def nibV (n : Int) : Int := if Asc.hexOk n = true then Asc.hexV n else 16
theorem nib_yes (n : Int) (h : Asc.hexOk n = true) : nibV n = Asc.hexV n := if_pos h
theorem nib_no (n : Int) (h : Asc.hexOk n = false) : nibV n = 16 := by unfold nibV; rw [h]; rfl
theorem hexForm_empty (s : ByteArray) (h : s.size = 0) : Asc.hexForm s.data.toList = false := by
  have := empty_yes s h
  rw [ByteArray.toList_eq] at this
  unfold Asc.hexForm
  rw [this]
  simp
theorem hexForm_mk (s : ByteArray) (h : ¬ s.size = 0) (ha : Asc.allHex s.data.toList = true) : Asc.hexForm s.data.toList = true := by
  have := empty_no s h
  rw [ByteArray.toList_eq] at this
  unfold Asc.hexForm
  rw [this, ha]
  rfl
theorem allHex_at (s : ByteArray) (k : Nat) (h : k < s.size) (ha : Asc.allHex s.data.toList = true) : Asc.hexOk (Asc.bt s[k]) = true := by
  unfold Asc.allHex at ha
  exact List.all_eq_true.1 ha s.data.toList[k] (List.getElem_mem h)
end Go.Proofs.YtoggbikjkccfeabDoor
