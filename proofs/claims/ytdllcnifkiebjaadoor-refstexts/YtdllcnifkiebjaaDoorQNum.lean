/- Contracts of Number, the program's and the reference's. -/
import Derived.Test.YtdllcnifkiebjaaDoorPNib
import Derived.Test.YtdllcnifkiebjaaDoorAscNum
namespace Go.Proofs.YtdllcnifkiebjaaDoor
open Go.RowKit
theorem IsDigit_any (c : UInt8) (w : World) :
    Calls Tryd.prog 50 #[.int .u8 c.toNat] w fun e w' => e = .returned (.bool (Asc.isDig (Asc.bt c))) ∧ w' = w := IsDigit_n _ _
theorem RIsDigit_any (c : UInt8) (w : World) :
    Calls Tryd.prog 34 #[.int .u8 c.toNat] w fun e w' => e = .returned (.bool (Asc.isDig (Asc.bt c))) ∧ w' = w := RIsDigit_n _ _
set_option maxHeartbeats 400000 in
theorem isNumber_any (s : ByteArray) (w : World) (hs : s.size ≤ 1000000000) :
    Calls Tryd.prog 72 #[.string s] w fun e w' => e = .returned (.bool (Asc.digForm s.data.toList)) ∧ w' = w := by
  go_enter Tryd.func72, Tryd.ntmps72
  go_wp2
  go_loop [6] (fun i => ∃ k : Nat, k ≤ s.size ∧ i = .int .i64 k ∧ Hid (Asc.allDig (s.data.toList.take k) = true)) (fun i => s.size - (intOf i).toNat)
  case atStart => exact ⟨0, Nat.zero_le _, rfl, rfl⟩
  case round =>
    obtain ⟨k, hk, rfl, HE⟩ := hrel
    by_cases hlt : k < s.size
    · cases hx : Asc.isDig (Asc.bt s[k])
      · have HN : Hid (Asc.digForm s.data.toList = false) := by
          show _ = _
          unfold Asc.digForm
          rw [Asc.allDig_not s.data.toList k hlt hx]
          rfl
        go_wp2_with (first
          | (go_at_call 50; refine (IsDigit_any _ _).mono ?_; rintro e w1 ⟨rfl, hw⟩; rw [hw]; clear hw))
        go_ret
        exact ⟨ret_bool HN.out.symm, rfl⟩
      · have HN : Hid (Asc.allDig (s.data.toList.take (k + 1)) = true) := by
          show _ = _
          rw [Asc.allDig_take s.data.toList k hlt, HE.out, Bool.true_and]
          exact hx
        go_wp2_with (first
          | (go_at_call 50; refine (IsDigit_any _ _).mono ?_; rintro e w1 ⟨rfl, hw⟩; rw [hw]; clear hw))
        go_round
        case rel => exact ⟨k + 1, by omega, by go_num, HN⟩
        case measure => simp [intOf]; omega
    · have HN : Hid (Asc.allDig s.data.toList = true) := by
        have := HE.out
        rwa [take_all s k (by omega)] at this
      go_wp2
      go_ret
      exact ⟨ret_bool (by unfold Asc.digForm; rw [HN.out, ByteArray.toList_eq]; rfl), rfl⟩
set_option maxHeartbeats 1000000 in
theorem Number_any (s : ByteArray) (most : Int) (w : World) (hs : s.size ≤ 1000000000) (hm1 : most ≤ 9223372036854775807) :
    Calls Tryd.prog 65 #[.string s, .int .i64 most] w fun e w' => e = .returned (.tuple #[.int .i64 (Asc.numNum s.data.toList most), .int .i64 (Asc.numErr s.data.toList most)]) ∧ w' = w := by
  cases hx : (Asc.digForm s.data.toList)
  · have HN : Hid (Asc.numNum s.data.toList most = 0 ∧ Asc.numErr s.data.toList most = 3) := Asc.num_form _ _ hx
    go_enter Tryd.func65, Tryd.ntmps65
    go_wp2_with (first
      | (go_at_call 72; refine (isNumber_any s _ hs).mono ?_; rintro e w1 ⟨rfl, hw⟩; rw [hw]; clear hw))
    go_ret2
    exact ⟨ret_pair (by rw [HN.out.1]; rfl) (by rw [HN.out.2]; rfl), rfl⟩
  · by_cases hm : most < 0
    · have HN : Hid (Asc.numNum s.data.toList most = 0 ∧ Asc.numErr s.data.toList most = 5) := Asc.num_neg _ _ hx hm
      go_enter Tryd.func65, Tryd.ntmps65
      go_wp2_with (first
        | (go_at_call 72; refine (isNumber_any s _ hs).mono ?_; rintro e w1 ⟨rfl, hw⟩; rw [hw]; clear hw))
      go_ret2
      exact ⟨ret_pair (by rw [HN.out.1]; rfl) (by rw [HN.out.2]; rfl), rfl⟩
    · have hm0 : 0 ≤ most := by omega
      have HX : Hid (Asc.digForm s.data.toList = true) := hx
      clear hm
      go_enter Tryd.func65, Tryd.ntmps65
      go_wp2_with (first
        | (go_at_call 72; refine (isNumber_any s _ hs).mono ?_; rintro e w1 ⟨rfl, hw⟩; rw [hw]; clear hw))
      clear hx
      go_loop [6, 16] (fun m i => ∃ (k : Nat) (n : Int), k ≤ s.size ∧ i = .int .i64 k ∧ m = .int .i64 n ∧ 0 ≤ n ∧ n ≤ most ∧ Hid (Asc.numFold most n (s.data.toList.drop k) = Asc.numFold most 0 s.data.toList)) (fun _ i => s.size - (intOf i).toNat)
      case atStart => exact ⟨0, 0, Nat.zero_le _, rfl, rfl, by omega, hm0, rfl⟩
      case round =>
        obtain ⟨k, n, hk, rfl, rfl, hn0, hn1, HE⟩ := hrel
        by_cases hlt : k < s.size
        · have hd := Asc.allDig_at s.data.toList k hlt (Asc.digForm_all _ HX.out)
          have hd0 : (48 : Int) ≤ (s[k].toNat : Int) := hd.1
          have hd1 : (s[k].toNat : Int) ≤ 57 := hd.2
          clear hd
          have HS : Hid (most < n * 10 + ((s[k].toNat : Int) - 48) → Asc.numNum s.data.toList most = 0 ∧ Asc.numErr s.data.toList most = 5) := fun h => Asc.num_many _ most HX.out hm0 (by rw [← HE.out]; exact Asc.numFold_stop most _ k n hlt h)
          have HN : Hid (¬ most < n * 10 + ((s[k].toNat : Int) - 48) → Asc.numFold most (n * 10 + ((s[k].toNat : Int) - 48)) (s.data.toList.drop (k + 1)) = Asc.numFold most 0 s.data.toList) := fun h => by
            rw [← HE.out]
            exact (Asc.numFold_next most _ k n hlt h).symm
          rcases (show most / 10 < n ∨ n < most / 10 ∨ n = most / 10 from by omega) with hc | hc | hc
          · go_wp2
            go_ret2
            have h := HS.out (by omega)
            exact ⟨ret_pair (by rw [h.1]; rfl) (by rw [h.2]; rfl), rfl⟩
          · have hq : (n == most / 10) = false := by rw [beq_eq_false_iff_ne]; omega
            go_wp2
            go_round
            case rel => exact ⟨k + 1, n * 10 + ((s[k].toNat : Int) - 48), by omega, by go_num, rfl, by omega, by omega, HN.out (by omega)⟩
            case measure => simp [intOf]; omega
          · have hq : (n == most / 10) = true := by rw [beq_iff_eq]; exact hc
            have HQ : Hid (n = most / 10) := hc
            have hn9 : n * 10 ≤ most := by omega
            clear hc
            by_cases hr : most % 10 < (s[k].toNat : Int) - 48
            · go_wp2
              go_ret2
              have h := HS.out (by have := HQ.out; omega)
              exact ⟨ret_pair (by rw [h.1]; rfl) (by rw [h.2]; rfl), rfl⟩
            · have hn8 : n * 10 + ((s[k].toNat : Int) - 48) ≤ most := by have := HQ.out; omega
              go_wp2
              go_round
              case rel => exact ⟨k + 1, n * 10 + ((s[k].toNat : Int) - 48), by omega, by go_num, rfl, by omega, by omega, HN.out (by omega)⟩
              case measure => simp [intOf]; omega
        · have HN : Hid (Asc.numNum s.data.toList most = n ∧ Asc.numErr s.data.toList most = 0) := Asc.num_ok _ most n HX.out hm0 (by rw [← HE.out]; exact Asc.numFold_end most _ k n (by simpa using Nat.le_of_not_lt hlt))
          go_wp2
          go_ret2
          exact ⟨ret_pair (by rw [HN.out.1]; rfl) (by rw [HN.out.2]; rfl), rfl⟩
theorem digForm_empty (s : ByteArray) (h : s.size = 0) : Asc.digForm s.data.toList = false := by
  have := empty_yes s h
  rw [ByteArray.toList_eq] at this
  unfold Asc.digForm
  rw [this]
  simp
theorem digForm_yes (s : ByteArray) (h : ¬ s.size = 0) (ha : Asc.allDig s.data.toList = true) : Asc.digForm s.data.toList = true := by
  have := empty_no s h
  rw [ByteArray.toList_eq] at this
  unfold Asc.digForm
  rw [this, ha]
  rfl
theorem tdiv_form (most : Int) (h : most < 0) : most.tdiv 10 = -((-most) / 10) := by
  have e : most = -(-most) := by omega
  conv => lhs; rw [e]
  rw [Int.neg_tdiv, Int.tdiv_eq_ediv_of_nonneg (by omega)]
theorem tdiv_low (most : Int) (h0 : -9223372036854775808 ≤ most) (h : most ≤ -10) : -9223372036854775808 ≤ most.tdiv 10 ∧ most.tdiv 10 < 0 := by
  rw [tdiv_form most (by omega)]
  omega
theorem tdiv_zero (most : Int) (h : most < 0) (h2 : -10 < most) : most.tdiv 10 = 0 := by
  rw [tdiv_form most h]
  omega
theorem tmod_same (most : Int) (h : most < 0) (h2 : -10 < most) : most.tmod 10 = most := by
  have := Int.tmod_add_tdiv_mul most 10
  rw [tdiv_zero most h h2] at this
  omega
end Go.Proofs.YtdllcnifkiebjaaDoor
