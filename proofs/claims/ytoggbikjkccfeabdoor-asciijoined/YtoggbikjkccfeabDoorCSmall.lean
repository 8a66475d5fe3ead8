/- Contracts of the program's small functions on bytes. -/
import Derived.Test.YtoggbikjkccfeabDoorFrame
import Derived.Test.YtoggbikjkccfeabDoorAscMath
import Derived.WalkSpells
namespace Go.Proofs.YtoggbikjkccfeabDoor
open Go.RowKit
theorem ret_bool {a b : Bool} (h : a = b) : Ending.returned (.bool a) = .returned (.bool b) := by rw [h]
def blankN (n : Int) : Bool := decide (n = 9) || decide (n = 10) || decide (n = 12) || decide (n = 13) || decide (n = 32)
theorem blankN_byte (c : UInt8) : blankN (c.toNat : Int) = Asc.isBlank c := by
  have h : ∀ m : Nat, m < 256 → decide ((c.toNat : Int) = m) = (c == UInt8.ofNat m) := by
    intro m hm
    rw [Bool.eq_iff_iff]
    simp only [decide_eq_true_eq, beq_iff_eq]
    constructor
    · intro e
      apply UInt8.toNat_inj.1
      simp
      omega
    · intro e
      rw [e]
      simp
      omega
  unfold blankN Asc.isBlank
  have h9 := h 9 (by omega); have h10 := h 10 (by omega); have h12 := h 12 (by omega); have h13 := h 13 (by omega); have h32 := h 32 (by omega)
  simp only [Int.cast_ofNat_Int] at h9 h10 h12 h13 h32
  rw [h9, h10, h12, h13, h32]
  rfl
set_option maxHeartbeats 400000 in
theorem IsBlank_n (n : Int) (w : World) :
    Calls Tryd.prog 17 #[.int .u8 n] w fun e w' => e = .returned (.bool (blankN n)) ∧ w' = w := by
  by_cases h9 : n = 9
  · subst h9
    go_enter Tryd.func17, Tryd.ntmps17
    go_wp2
    go_ret
    exact ⟨rfl, rfl⟩
  by_cases h10 : n = 10
  · subst h10
    go_enter Tryd.func17, Tryd.ntmps17
    go_wp2
    go_ret
    exact ⟨rfl, rfl⟩
  by_cases h12 : n = 12
  · subst h12
    go_enter Tryd.func17, Tryd.ntmps17
    go_wp2
    go_ret
    exact ⟨rfl, rfl⟩
  by_cases h13 : n = 13
  · subst h13
    go_enter Tryd.func17, Tryd.ntmps17
    go_wp2
    go_ret
    exact ⟨rfl, rfl⟩
  by_cases h32 : n = 32
  · subst h32
    go_enter Tryd.func17, Tryd.ntmps17
    go_wp2
    go_ret
    exact ⟨rfl, rfl⟩
  have hf : blankN n = false := by simp [blankN, h9, h10, h12, h13, h32]
  rw [hf]
  go_enter Tryd.func17, Tryd.ntmps17
  go_wp2
  go_ret
  exact ⟨rfl, rfl⟩
def digN (n : Int) : Bool := decide (48 ≤ n ∧ n ≤ 57)
def letN (n : Int) : Bool := decide ((65 ≤ n ∧ n ≤ 90) ∨ (97 ≤ n ∧ n ≤ 122))
theorem digN_yes {n : Int} (h : 48 ≤ n) (h2 : n ≤ 57) : digN n = true := decide_eq_true ⟨h, h2⟩
theorem digN_no {n : Int} (h : n < 48 ∨ 57 < n) : digN n = false := decide_eq_false (by omega)
theorem letN_yes {n : Int} (h : (65 ≤ n ∧ n ≤ 90) ∨ (97 ≤ n ∧ n ≤ 122)) : letN n = true := decide_eq_true h
theorem letN_no {n : Int} (h : ¬ ((65 ≤ n ∧ n ≤ 90) ∨ (97 ≤ n ∧ n ≤ 122))) : letN n = false := decide_eq_false h
set_option maxHeartbeats 400000 in
theorem IsDigit_n (n : Int) (w : World) :
    Calls Tryd.prog 28 #[.int .u8 n] w fun e w' => e = .returned (.bool (digN n)) ∧ w' = w := by
  rcases (show n < 48 ∨ (48 ≤ n ∧ n ≤ 57) ∨ 57 < n from by omega) with h | ⟨h, h2⟩ | h
  · rw [digN_no (.inl h)]
    go_enter Tryd.func28, Tryd.ntmps28
    go_wp2
    go_ret
    exact ⟨ret_bool (by first | rfl | (simp <;> omega)), rfl⟩
  · rw [digN_yes h h2]
    go_enter Tryd.func28, Tryd.ntmps28
    go_wp2
    go_ret
    exact ⟨ret_bool (by first | rfl | (simp <;> omega)), rfl⟩
  · rw [digN_no (.inr h)]
    have h3 : 48 ≤ n := by omega
    go_enter Tryd.func28, Tryd.ntmps28
    go_wp2
    go_ret
    exact ⟨ret_bool (by first | rfl | (simp <;> omega)), rfl⟩
end Go.Proofs.YtoggbikjkccfeabDoor
