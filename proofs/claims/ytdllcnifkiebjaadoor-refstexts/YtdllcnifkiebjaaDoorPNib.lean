/- The contract of the reference's Nibble. -/
import Derived.Test.YtdllcnifkiebjaaDoorPHex
namespace Go.Proofs.YtdllcnifkiebjaaDoor
open Go.RowKit
theorem empty_yes (s : ByteArray) (h : s.size = 0) : s.toList.isEmpty = true := by
  rw [ByteArray.toList_eq, List.isEmpty_iff, ← List.length_eq_zero_iff]
  exact h
theorem empty_no (s : ByteArray) (h : ¬ s.size = 0) : s.toList.isEmpty = false := by
  rw [ByteArray.toList_eq, Bool.eq_false_iff]
  intro e
  exact h (List.length_eq_zero_iff.2 (List.isEmpty_iff.1 e))
def nibV (n : Int) : Int := if Asc.hexOk n = true then Asc.hexV n else 16
theorem nib_yes (n : Int) (h : Asc.hexOk n = true) : nibV n = Asc.hexV n := if_pos h
theorem nib_no (n : Int) (h : Asc.hexOk n = false) : nibV n = 16 := by unfold nibV; rw [h]; rfl
set_option maxHeartbeats 1000000 in
theorem Rnibble_n (n : Int) (w : World) (h0 : 0 ≤ n) (h1 : n ≤ 255) :
    Calls Tryd.prog 68 #[.int .u8 n] w fun e w' => e = .returned (.int .u32 (nibV n)) ∧ w' = w := by
  rcases (show (48 ≤ n ∧ n ≤ 57) ∨ (97 ≤ n ∧ n ≤ 102) ∨ (65 ≤ n ∧ n ≤ 70) ∨ n < 48 ∨ (57 < n ∧ n < 65) ∨ (70 < n ∧ n < 97) ∨ 102 < n from by omega) with ⟨ha, hb⟩ | ⟨ha, hb⟩ | ⟨ha, hb⟩ | ha | ⟨ha, hb⟩ | ⟨ha, hb⟩ | ha
  · have hd : digN n = true := digN_yes ha hb
    have HN : Hid (nibV n = n - 48) := by
      show _ = _
      unfold nibV Asc.hexOk Asc.hexV
      rw [if_pos (by simp [ha, hb]), if_pos ⟨ha, hb⟩]
    go_enter Tryd.func68, Tryd.ntmps68
    go_wp2_with (first
      | (go_at_call 34; refine (RIsDigit_n n _).mono ?_; rintro e w1 ⟨rfl, hw⟩; rw [hw]; clear hw))
    go_ret
    exact ⟨ret_int HN.out.symm, rfl⟩
  · have hd : digN n = false := digN_no (by omega)
    have HN : Hid (nibV n = n - 97 + 10) := by
      show _ = _
      unfold nibV Asc.hexOk Asc.hexV
      rw [if_pos (by simp [ha, hb]), if_neg (by omega), if_pos ⟨ha, hb⟩]
      omega
    go_enter Tryd.func68, Tryd.ntmps68
    go_wp2_with (first
      | (go_at_call 34; refine (RIsDigit_n n _).mono ?_; rintro e w1 ⟨rfl, hw⟩; rw [hw]; clear hw))
    go_ret
    exact ⟨ret_int HN.out.symm, rfl⟩
  · have hd : digN n = false := digN_no (by omega)
    have HN : Hid (nibV n = n - 65 + 10) := by
      show _ = _
      unfold nibV Asc.hexOk Asc.hexV
      rw [if_pos (by simp [ha, hb]), if_neg (by omega), if_neg (by omega), if_pos ⟨ha, hb⟩]
      omega
    go_enter Tryd.func68, Tryd.ntmps68
    go_wp2_with (first
      | (go_at_call 34; refine (RIsDigit_n n _).mono ?_; rintro e w1 ⟨rfl, hw⟩; rw [hw]; clear hw))
    go_ret
    exact ⟨ret_int HN.out.symm, rfl⟩
  all_goals
    have hd : digN n = false := digN_no (by omega)
    have HN : Hid (nibV n = 16) := by
      show _ = _
      unfold nibV Asc.hexOk
      rw [decide_eq_false (by omega), decide_eq_false (by omega), decide_eq_false (by omega)]
      rfl
    go_enter Tryd.func68, Tryd.ntmps68
    go_wp2_with (first
      | (go_at_call 34; refine (RIsDigit_n n _).mono ?_; rintro e w1 ⟨rfl, hw⟩; rw [hw]; clear hw))
    go_ret
    exact ⟨ret_int HN.out.symm, rfl⟩
theorem Rnibble_any (c : UInt8) (w : World) :
    Calls Tryd.prog 68 #[.int .u8 c.toNat] w fun e w' => e = .returned (.int .u32 (nibV (Asc.bt c))) ∧ w' = w := Rnibble_n _ _ (byte_bd c).1 (byte_bd c).2
end Go.Proofs.YtdllcnifkiebjaaDoor
