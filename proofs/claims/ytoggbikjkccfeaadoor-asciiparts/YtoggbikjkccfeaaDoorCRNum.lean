/- Contracts of the reference's Number, nibble and Hex. -/
import Derived.Test.YtoggbikjkccfeaaDoorCNum
namespace Go.Proofs.YtoggbikjkccfeaaDoor
open Go.RowKit
theorem empty_yes (s : ByteArray) (h : s.size = 0) : s.toList.isEmpty = true := by
  rw [ByteArray.toList_eq, List.isEmpty_iff, ← List.length_eq_zero_iff]
  exact h
theorem empty_no (s : ByteArray) (h : ¬ s.size = 0) : s.toList.isEmpty = false := by
  rw [ByteArray.toList_eq, Bool.eq_false_iff]
  intro e
  exact h (List.length_eq_zero_iff.2 (List.isEmpty_iff.1 e))
theorem digForm_empty (s : ByteArray) (h : s.size = 0) : Asc.digForm s.data.toList = false := by
  have := empty_yes s h
  rw [ByteArray.toList_eq] at this
  unfold Asc.digForm
  rw [this]
  simp
theorem digForm_yes (s : ByteArray) (h : ¬ s.size = 0) (ha : Asc.allDig s.data.toList = true) : Asc.digForm s.data.toList = true := by
  have := empty_no s h
  rw [ByteArray.toList_eq] at this
  unfold Asc.digForm
  rw [this, ha]
  rfl
theorem tdiv_form (most : Int) (h : most < 0) : most.tdiv 10 = -((-most) / 10) := by
  have e : most = -(-most) := by omega
  conv => lhs; rw [e]
  rw [Int.neg_tdiv, Int.tdiv_eq_ediv_of_nonneg (by omega)]
theorem tdiv_low (most : Int) (h0 : -9223372036854775808 ≤ most) (h : most ≤ -10) : -9223372036854775808 ≤ most.tdiv 10 ∧ most.tdiv 10 < 0 := by
  rw [tdiv_form most (by omega)]
  omega
theorem tdiv_zero (most : Int) (h : most < 0) (h2 : -10 < most) : most.tdiv 10 = 0 := by
  rw [tdiv_form most h]
  omega
theorem tmod_same (most : Int) (h : most < 0) (h2 : -10 < most) : most.tmod 10 = most := by
  have := Int.tmod_add_tdiv_mul most 10
  rw [tdiv_zero most h h2] at this
  omega
set_option maxHeartbeats 1000000 in
theorem RNumber_any (s : ByteArray) (most : Int) (w : World) (hs : s.size ≤ 1000000000) (hm2 : -9223372036854775808 ≤ most) (hm1 : most ≤ 9223372036854775807) :
    Calls Tryd.prog 28 #[.string s, .int .i64 most] w fun e w' => e = .returned (.tuple #[.int .i64 (Asc.numNum s.data.toList most), .int .i64 (Asc.numErr s.data.toList most)]) ∧ w' = w := by
  go_enter Tryd.func28, Tryd.ntmps28
  go_wp2
  go_loop [6] (fun i => ∃ k : Nat, k ≤ s.size ∧ i = .int .i64 k ∧ Hid (Asc.allDig (s.data.toList.take k) = true)) (fun i => s.size - (intOf i).toNat)
  case atStart => exact ⟨0, Nat.zero_le _, rfl, rfl⟩
  case round =>
    obtain ⟨k, hk, rfl, HE⟩ := hrel
    by_cases hlt : k < s.size
    · cases hx : Asc.isDig (Asc.bt s[k])
      · have HN : Hid (Asc.numNum s.data.toList most = 0 ∧ Asc.numErr s.data.toList most = 3) := Asc.num_form _ _ (by
          unfold Asc.digForm
          rw [Asc.allDig_not s.data.toList k hlt hx]
          rfl)
        go_wp2_with (first
          | (go_at_call 12; refine (RIsDigit_any _ _).mono ?_; rintro e w1 ⟨rfl, hw⟩; rw [hw]; clear hw))
        go_ret2
        exact ⟨ret_pair (by rw [HN.out.1]; rfl) (by rw [HN.out.2]; rfl), rfl⟩
      · have HN : Hid (Asc.allDig (s.data.toList.take (k + 1)) = true) := by
          show _ = _
          rw [Asc.allDig_take s.data.toList k hlt, HE.out, Bool.true_and]
          exact hx
        go_wp2_with (first
          | (go_at_call 12; refine (RIsDigit_any _ _).mono ?_; rintro e w1 ⟨rfl, hw⟩; rw [hw]; clear hw))
        go_round
        case rel => exact ⟨k + 1, by omega, by go_num, HN⟩
        case measure => simp [intOf]; omega
    · have HA : Hid (Asc.allDig s.data.toList = true) := by
        have := HE.out
        rwa [take_all s k (by omega)] at this
      by_cases hz : s.size = 0
      · have HN : Hid (Asc.numNum s.data.toList most = 0 ∧ Asc.numErr s.data.toList most = 3) := Asc.num_form _ _ (digForm_empty s hz)
        have he := empty_yes s hz
        clear hz
        go_wp2
        go_ret2
        exact ⟨ret_pair (by rw [HN.out.1]; rfl) (by rw [HN.out.2]; rfl), rfl⟩
      · have HX : Hid (Asc.digForm s.data.toList = true) := digForm_yes s hz HA.out
        have he := empty_no s hz
        have hpos : 0 < s.size := by omega
        clear hz
        by_cases hm : most < 0
        · have HN : Hid (Asc.numNum s.data.toList most = 0 ∧ Asc.numErr s.data.toList most = 5) := Asc.num_neg _ _ HX.out hm
          go_wp2
          go_loop [7, 8] (fun m i => m = .int .i64 0 ∧ i = .int .i64 0) (fun _ _ => 0)
          case atStart => exact ⟨rfl, rfl⟩
          case round =>
            obtain ⟨rfl, rfl⟩ := hrel
            have hd := Asc.allDig_at s.data.toList 0 hpos (Asc.digForm_all _ HX.out)
            have hd0 : (48 : Int) ≤ (s[0].toNat : Int) := hd.1
            have hd1 : (s[0].toNat : Int) ≤ 57 := hd.2
            clear hd
            by_cases h10 : most ≤ -10
            · have hq := tdiv_low most hm2 h10
              obtain ⟨hq0, hq1⟩ := hq
              go_wp2
              go_ret2
              exact ⟨ret_pair (by rw [HN.out.1]; rfl) (by rw [HN.out.2]; rfl), rfl⟩
            · have hq0 := tdiv_zero most hm (by omega)
              have hq1 := tmod_same most hm (by omega)
              go_wp2
              go_ret2
              exact ⟨ret_pair (by rw [HN.out.1]; rfl) (by rw [HN.out.2]; rfl), rfl⟩
        · have hm0 : 0 ≤ most := by omega
          clear hm
          go_wp2
          go_loop [7, 8] (fun m i => ∃ (k : Nat) (n : Int), k ≤ s.size ∧ i = .int .i64 k ∧ m = .int .i64 n ∧ 0 ≤ n ∧ n ≤ most ∧ Hid (Asc.numFold most n (s.data.toList.drop k) = Asc.numFold most 0 s.data.toList)) (fun _ i => s.size - (intOf i).toNat)
          case atStart => exact ⟨0, 0, Nat.zero_le _, rfl, rfl, by omega, hm0, rfl⟩
          case round =>
            clear HE hlt hk
            obtain ⟨j, n, hk, rfl, rfl, hn0, hn1, HE⟩ := hrel
            by_cases hlt : j < s.size
            · have hd := Asc.allDig_at s.data.toList j hlt (Asc.digForm_all _ HX.out)
              have hd0 : (48 : Int) ≤ (s[j].toNat : Int) := hd.1
              have hd1 : (s[j].toNat : Int) ≤ 57 := hd.2
              clear hd
              have HS : Hid (most < n * 10 + ((s[j].toNat : Int) - 48) → Asc.numNum s.data.toList most = 0 ∧ Asc.numErr s.data.toList most = 5) := fun h => Asc.num_many _ most HX.out hm0 (by rw [← HE.out]; exact Asc.numFold_stop most _ j n hlt h)
              have HN : Hid (¬ most < n * 10 + ((s[j].toNat : Int) - 48) → Asc.numFold most (n * 10 + ((s[j].toNat : Int) - 48)) (s.data.toList.drop (j + 1)) = Asc.numFold most 0 s.data.toList) := fun h => by
                rw [← HE.out]
                exact (Asc.numFold_next most _ j n hlt h).symm
              rcases (show most / 10 < n ∨ n < most / 10 ∨ n = most / 10 from by omega) with hc | hc | hc
              · go_wp2
                go_ret2
                have h := HS.out (by omega)
                exact ⟨ret_pair (by rw [h.1]; rfl) (by rw [h.2]; rfl), rfl⟩
              · have hq : (n == most / 10) = false := by rw [beq_eq_false_iff_ne]; omega
                go_wp2
                go_round
                case rel => exact ⟨j + 1, n * 10 + ((s[j].toNat : Int) - 48), by omega, by go_num, rfl, by omega, by omega, HN.out (by omega)⟩
                case measure => simp [intOf]; omega
              · have hq : (n == most / 10) = true := by rw [beq_iff_eq]; exact hc
                have HQ : Hid (n = most / 10) := hc
                have hn9 : n * 10 ≤ most := by omega
                clear hc
                by_cases hr : most % 10 < (s[j].toNat : Int) - 48
                · go_wp2
                  go_ret2
                  have h := HS.out (by have := HQ.out; omega)
                  exact ⟨ret_pair (by rw [h.1]; rfl) (by rw [h.2]; rfl), rfl⟩
                · have hn8 : n * 10 + ((s[j].toNat : Int) - 48) ≤ most := by have := HQ.out; omega
                  go_wp2
                  go_round
                  case rel => exact ⟨j + 1, n * 10 + ((s[j].toNat : Int) - 48), by omega, by go_num, rfl, by omega, by omega, HN.out (by omega)⟩
                  case measure => simp [intOf]; omega
            · have HN : Hid (Asc.numNum s.data.toList most = n ∧ Asc.numErr s.data.toList most = 0) := Asc.num_ok _ most n HX.out hm0 (by rw [← HE.out]; exact Asc.numFold_end most _ j n (by simpa using Nat.le_of_not_lt hlt))
              go_wp2
              go_ret2
              exact ⟨ret_pair (by rw [HN.out.1]; rfl) (by rw [HN.out.2]; rfl), rfl⟩
def nibV (n : Int) : Int := if Asc.hexOk n = true then Asc.hexV n else 16
theorem nib_yes (n : Int) (h : Asc.hexOk n = true) : nibV n = Asc.hexV n := if_pos h
theorem nib_no (n : Int) (h : Asc.hexOk n = false) : nibV n = 16 := by unfold nibV; rw [h]; rfl
set_option maxHeartbeats 1000000 in
theorem Rnibble_n (n : Int) (w : World) (h0 : 0 ≤ n) (h1 : n ≤ 255) :
    Calls Tryd.prog 44 #[.int .u8 n] w fun e w' => e = .returned (.int .u32 (nibV n)) ∧ w' = w := by
  rcases (show (48 ≤ n ∧ n ≤ 57) ∨ (97 ≤ n ∧ n ≤ 102) ∨ (65 ≤ n ∧ n ≤ 70) ∨ n < 48 ∨ (57 < n ∧ n < 65) ∨ (70 < n ∧ n < 97) ∨ 102 < n from by omega) with ⟨ha, hb⟩ | ⟨ha, hb⟩ | ⟨ha, hb⟩ | ha | ⟨ha, hb⟩ | ⟨ha, hb⟩ | ha
  · have hd : digN n = true := digN_yes ha hb
    have HN : Hid (nibV n = n - 48) := by
      show _ = _
      unfold nibV Asc.hexOk Asc.hexV
      rw [if_pos (by simp [ha, hb]), if_pos ⟨ha, hb⟩]
    go_enter Tryd.func44, Tryd.ntmps44
    go_wp2_with (first
      | (go_at_call 12; refine (RIsDigit_n n _).mono ?_; rintro e w1 ⟨rfl, hw⟩; rw [hw]; clear hw))
    go_ret
    exact ⟨ret_int HN.out.symm, rfl⟩
  · have hd : digN n = false := digN_no (by omega)
    have HN : Hid (nibV n = n - 97 + 10) := by
      show _ = _
      unfold nibV Asc.hexOk Asc.hexV
      rw [if_pos (by simp [ha, hb]), if_neg (by omega), if_pos ⟨ha, hb⟩]
      omega
    go_enter Tryd.func44, Tryd.ntmps44
    go_wp2_with (first
      | (go_at_call 12; refine (RIsDigit_n n _).mono ?_; rintro e w1 ⟨rfl, hw⟩; rw [hw]; clear hw))
    go_ret
    exact ⟨ret_int HN.out.symm, rfl⟩
  · have hd : digN n = false := digN_no (by omega)
    have HN : Hid (nibV n = n - 65 + 10) := by
      show _ = _
      unfold nibV Asc.hexOk Asc.hexV
      rw [if_pos (by simp [ha, hb]), if_neg (by omega), if_neg (by omega), if_pos ⟨ha, hb⟩]
      omega
    go_enter Tryd.func44, Tryd.ntmps44
    go_wp2_with (first
      | (go_at_call 12; refine (RIsDigit_n n _).mono ?_; rintro e w1 ⟨rfl, hw⟩; rw [hw]; clear hw))
    go_ret
    exact ⟨ret_int HN.out.symm, rfl⟩
  all_goals
    have hd : digN n = false := digN_no (by omega)
    have HN : Hid (nibV n = 16) := by
      show _ = _
      unfold nibV Asc.hexOk
      rw [decide_eq_false (by omega), decide_eq_false (by omega), decide_eq_false (by omega)]
      rfl
    go_enter Tryd.func44, Tryd.ntmps44
    go_wp2_with (first
      | (go_at_call 12; refine (RIsDigit_n n _).mono ?_; rintro e w1 ⟨rfl, hw⟩; rw [hw]; clear hw))
    go_ret
    exact ⟨ret_int HN.out.symm, rfl⟩
theorem Rnibble_any (c : UInt8) (w : World) :
    Calls Tryd.prog 44 #[.int .u8 c.toNat] w fun e w' => e = .returned (.int .u32 (nibV (Asc.bt c))) ∧ w' = w := Rnibble_n _ _ (byte_bd c).1 (byte_bd c).2
theorem hexForm_empty (s : ByteArray) (h : s.size = 0) : Asc.hexForm s.data.toList = false := by
  have := empty_yes s h
  rw [ByteArray.toList_eq] at this
  unfold Asc.hexForm
  rw [this]
  simp
theorem hexForm_mk (s : ByteArray) (h : ¬ s.size = 0) (ha : Asc.allHex s.data.toList = true) : Asc.hexForm s.data.toList = true := by
  have := empty_no s h
  rw [ByteArray.toList_eq] at this
  unfold Asc.hexForm
  rw [this, ha]
  rfl
theorem allHex_at (s : ByteArray) (k : Nat) (h : k < s.size) (ha : Asc.allHex s.data.toList = true) : Asc.hexOk (Asc.bt s[k]) = true := by
  unfold Asc.allHex at ha
  exact List.all_eq_true.1 ha s.data.toList[k] (List.getElem_mem h)
set_option maxHeartbeats 1000000 in
theorem RHex_any (s : ByteArray) (w : World) (hs : s.size ≤ 1000000000) :
    Calls Tryd.prog 30 #[.string s] w fun e w' => e = .returned (.tuple #[.int .u32 (Asc.hexNum s.data.toList), .int .i64 (Asc.hexErr s.data.toList)]) ∧ w' = w := by
  go_enter Tryd.func30, Tryd.ntmps30
  go_wp2
  go_loop [4] (fun i => ∃ k : Nat, k ≤ s.size ∧ i = .int .i64 k ∧ Hid (Asc.allHex (s.data.toList.take k) = true)) (fun i => s.size - (intOf i).toNat)
  case atStart => exact ⟨0, Nat.zero_le _, rfl, rfl⟩
  case round =>
    obtain ⟨k, hk, rfl, HE⟩ := hrel
    by_cases hlt : k < s.size
    · cases hx : Asc.hexOk (Asc.bt s[k])
      · have hq : (nibV (Asc.bt s[k]) == 16) = true := by rw [nib_no _ hx]; rfl
        have HN : Hid (Asc.hexNum s.data.toList = 0 ∧ Asc.hexErr s.data.toList = 3) := Asc.hex_form _ (fun h => by
          have := Asc.allHex_not s.data.toList k hlt hx
          rw [h.1] at this
          cases this)
        go_wp2_with (first
          | (go_at_call 44; refine (Rnibble_any _ _).mono ?_; rintro e w1 ⟨rfl, hw⟩; rw [hw]; clear hw))
        go_ret2
        exact ⟨ret_pair (by rw [HN.out.1]; rfl) (by rw [HN.out.2]; rfl), rfl⟩
      · have hq : (nibV (Asc.bt s[k]) == 16) = false := by
          rw [nib_yes _ hx, beq_eq_false_iff_ne]
          have := Asc.hexV_bd (Asc.bt s[k])
          omega
        have HN : Hid (Asc.allHex (s.data.toList.take (k + 1)) = true) := by
          show _ = _
          rw [Asc.allHex_take s.data.toList k hlt, HE.out, Bool.true_and]
          exact hx
        go_wp2_with (first
          | (go_at_call 44; refine (Rnibble_any _ _).mono ?_; rintro e w1 ⟨rfl, hw⟩; rw [hw]; clear hw))
        go_round
        case rel => exact ⟨k + 1, by omega, by go_num, HN⟩
        case measure => simp [intOf]; omega
    · have HA : Hid (Asc.allHex s.data.toList = true) := by
        have := HE.out
        rwa [take_all s k (by omega)] at this
      by_cases hz : s.size = 0
      · have HN : Hid (Asc.hexNum s.data.toList = 0 ∧ Asc.hexErr s.data.toList = 3) := Asc.hex_form _ (Asc.hexForm_no _ (hexForm_empty s hz))
        have he := empty_yes s hz
        clear hz
        go_wp2
        go_ret2
        exact ⟨ret_pair (by rw [HN.out.1]; rfl) (by rw [HN.out.2]; rfl), rfl⟩
      · have HX : Hid (Asc.allHex s.data.toList = true ∧ s.data.toList ≠ []) := Asc.hexForm_yes _ (hexForm_mk s hz HA.out)
        have he := empty_no s hz
        clear hz
        go_wp2
        go_loop [5, 6] (fun m i => ∃ (j : Nat) (n : Int), j ≤ s.size ∧ i = .int .i64 j ∧ m = .int .u32 n ∧ 0 ≤ n ∧ n ≤ 4294967295 ∧ Hid (Asc.hexFold n (s.data.toList.drop j) = Asc.hexFold 0 s.data.toList)) (fun _ i => s.size - (intOf i).toNat)
        case atStart => exact ⟨0, 0, Nat.zero_le _, rfl, rfl, by omega, by omega, rfl⟩
        case round =>
          clear HE hlt hk
          obtain ⟨j, n, hk, rfl, rfl, hn0, hn1, HE⟩ := hrel
          by_cases hlt : j < s.size
          · by_cases hn : 268435456 ≤ n
            · have HN : Hid (Asc.hexNum s.data.toList = 0 ∧ Asc.hexErr s.data.toList = 5) := Asc.hex_many _ HX.out (by rw [← HE.out]; exact Asc.hexFold_stop _ j n hlt (by omega))
              go_wp2
              go_ret2
              exact ⟨ret_pair (by rw [HN.out.1]; rfl) (by rw [HN.out.2]; rfl), rfl⟩
            · have hv := Asc.hexV_bd (Asc.bt s[j])
              obtain ⟨hv0, hv1⟩ := hv
              have HV : Hid (nibV (Asc.bt s[j]) = Asc.hexV (Asc.bt s[j])) := nib_yes _ (allHex_at s j hlt HA.out)
              have HN : Hid (Asc.hexFold (n * 16 + Asc.hexV (Asc.bt s[j])) (s.data.toList.drop (j + 1)) = Asc.hexFold 0 s.data.toList) := by
                show _ = _
                rw [← HE.out]
                exact (Asc.hexFold_next _ j n hlt (by omega)).symm
              go_wp2_with (first
                | (go_at_call 44; refine (Rnibble_any _ _).mono ?_; rintro e w1 ⟨rfl, hw⟩; rw [hw, HV.out]; clear hw))
              go_round
              case rel => exact ⟨j + 1, n * 16 + Asc.hexV (Asc.bt s[j]), by omega, by go_num, rfl, by omega, by omega, HN⟩
              case measure => simp [intOf]; omega
          · have HN : Hid (Asc.hexNum s.data.toList = n ∧ Asc.hexErr s.data.toList = 0) := Asc.hex_ok _ n HX.out (by rw [← HE.out]; exact Asc.hexFold_end _ j n (by simpa using Nat.le_of_not_lt hlt))
            go_wp2
            go_ret2
            exact ⟨ret_pair (by rw [HN.out.1]; rfl) (by rw [HN.out.2]; rfl), rfl⟩
end Go.Proofs.YtoggbikjkccfeaaDoor
