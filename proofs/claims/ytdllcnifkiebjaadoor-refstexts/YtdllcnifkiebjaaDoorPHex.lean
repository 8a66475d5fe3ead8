/- The contract of the program's Hex. -/
import Derived.Test.YtdllcnifkiebjaaDoorPTexts
import Derived.Test.YtdllcnifkiebjaaDoorAscHex
import Derived.Laws.BitsAllLaws
namespace Go.Proofs.YtdllcnifkiebjaaDoor
open Go.RowKit
theorem size_data (b : ByteArray) : b.size = b.data.toList.length := Array.length_toList.symm
theorem ret_pair {a b c d : Value} (h : a = c) (h2 : b = d) : Ending.returned (.tuple #[a, b]) = .returned (.tuple #[c, d]) := by rw [h, h2]
set_option maxHeartbeats 400000 in
theorem lowerByte_n (n : Int) (w : World) (h0 : 0 ≤ n) (h1 : n ≤ 255) :
    Calls Tryd.prog 76 #[.int .u8 n] w fun e w' => e = .returned (.int .u8 (Asc.lowN n)) ∧ w' = w := by
  by_cases h : 65 ≤ n ∧ n ≤ 90
  · have HN : Hid (Asc.lowN n = n + 32) := by show _ = _; unfold Asc.lowN; rw [if_pos h]
    obtain ⟨ha, hb⟩ := h
    go_enter Tryd.func76, Tryd.ntmps76
    go_wp2
    go_ret
    exact ⟨ret_int (by rw [HN.out]; omega), rfl⟩
  · have HN : Hid (Asc.lowN n = n) := by show _ = _; unfold Asc.lowN; rw [if_neg h]
    by_cases ha : 65 ≤ n
    · have hb : ¬ n ≤ 90 := by omega
      clear h
      go_enter Tryd.func76, Tryd.ntmps76
      go_wp2
      go_ret
      exact ⟨ret_int HN.out.symm, rfl⟩
    · clear h
      go_enter Tryd.func76, Tryd.ntmps76
      go_wp2
      go_ret
      exact ⟨ret_int HN.out.symm, rfl⟩
theorem byte_bd (c : UInt8) : (0 : Int) ≤ (c.toNat : Int) ∧ (c.toNat : Int) ≤ 255 := by have := c.toNat_lt; omega
theorem lowerByte_any (c : UInt8) (w : World) :
    Calls Tryd.prog 76 #[.int .u8 c.toNat] w fun e w' => e = .returned (.int .u8 (Asc.lowerC c).toNat) ∧ w' = w := by
  rw [← Asc.lowN_byte]
  exact lowerByte_n _ _ (byte_bd c).1 (byte_bd c).2
theorem take_all (a : ByteArray) (k : Nat) (h : a.size ≤ k) : a.data.toList.take k = a.data.toList := List.take_of_length_le (by simpa using h)
set_option maxHeartbeats 400000 in
theorem hexDigit_n (n : Int) (w : World) (h0 : 0 ≤ n) (h1 : n ≤ 255) :
    Calls Tryd.prog 74 #[.int .u8 n] w fun e w' => e = .returned (.tuple #[.int .u32 (Asc.hexV n), .bool (Asc.hexOk n)]) ∧ w' = w := by
  have hbd := Asc.lowN_bd n h0 h1
  obtain ⟨hb0, hb1⟩ := hbd
  rcases (show (48 ≤ Asc.lowN n ∧ Asc.lowN n ≤ 57) ∨ (97 ≤ Asc.lowN n ∧ Asc.lowN n ≤ 102) ∨ (Asc.lowN n < 48 ∨ (57 < Asc.lowN n ∧ Asc.lowN n < 97) ∨ 102 < Asc.lowN n) from by omega) with ⟨ha, hb⟩ | ⟨ha, hb⟩ | h
  · have HN : Hid (Asc.hexV n = Asc.lowN n - 48 ∧ Asc.hexOk n = true) := Asc.hex_digit n ha hb
    go_enter Tryd.func74, Tryd.ntmps74
    go_wp2_with (first
      | (go_at_call 76; refine (lowerByte_n n _ h0 h1).mono ?_; rintro e w1 ⟨rfl, hw⟩; rw [hw]; clear hw)
      | go_in)
    go_ret2
    exact ⟨ret_pair (by rw [HN.out.1]; rfl) (by rw [HN.out.2]; rfl), rfl⟩
  · have HN : Hid (Asc.hexV n = Asc.lowN n - 97 + 10 ∧ Asc.hexOk n = true) := Asc.hex_letter n ha hb
    go_enter Tryd.func74, Tryd.ntmps74
    go_wp2_with (first
      | (go_at_call 76; refine (lowerByte_n n _ h0 h1).mono ?_; rintro e w1 ⟨rfl, hw⟩; rw [hw]; clear hw)
      | go_in)
    go_ret2
    exact ⟨ret_pair (by rw [HN.out.1]; rfl) (by rw [HN.out.2]; rfl), rfl⟩
  · have HN : Hid (Asc.hexV n = 0 ∧ Asc.hexOk n = false) := Asc.hex_none n h
    rcases h with ha | ⟨ha, hb⟩ | ha
    all_goals
      go_enter Tryd.func74, Tryd.ntmps74
      go_wp2_with (first
        | (go_at_call 76; refine (lowerByte_n n _ h0 h1).mono ?_; rintro e w1 ⟨rfl, hw⟩; rw [hw]; clear hw)
        | go_in)
      go_ret2
      exact ⟨ret_pair (by rw [HN.out.1]; rfl) (by rw [HN.out.2]; rfl), rfl⟩
theorem hexDigit_any (c : UInt8) (w : World) :
    Calls Tryd.prog 74 #[.int .u8 c.toNat] w fun e w' => e = .returned (.tuple #[.int .u32 (Asc.hexV (Asc.bt c)), .bool (Asc.hexOk (Asc.bt c))]) ∧ w' = w := hexDigit_n _ _ (byte_bd c).1 (byte_bd c).2
set_option maxHeartbeats 400000 in
theorem isHex_any (s : ByteArray) (w : World) (hs : s.size ≤ 1000000000) :
    Calls Tryd.prog 73 #[.string s] w fun e w' => e = .returned (.bool (Asc.hexForm s.data.toList)) ∧ w' = w := by
  go_enter Tryd.func73, Tryd.ntmps73
  go_wp2
  go_loop [8] (fun i => ∃ k : Nat, k ≤ s.size ∧ i = .int .i64 k ∧ Hid (Asc.allHex (s.data.toList.take k) = true)) (fun i => s.size - (intOf i).toNat)
  case atStart => exact ⟨0, Nat.zero_le _, rfl, rfl⟩
  case round =>
    obtain ⟨k, hk, rfl, HE⟩ := hrel
    by_cases hlt : k < s.size
    · cases hx : Asc.hexOk (Asc.bt s[k])
      · have HN : Hid ((Asc.hexForm s.data.toList) = false) := by
          show _ = _
          unfold Asc.hexForm
          rw [Asc.allHex_not s.data.toList k hlt hx]
          rfl
        go_wp2_with (first
          | (go_at_call 74; refine (hexDigit_any _ _).mono ?_; rintro e w1 ⟨rfl, hw⟩; rw [hw]; clear hw))
        go_ret
        exact ⟨ret_bool HN.out.symm, rfl⟩
      · have HN : Hid (Asc.allHex (s.data.toList.take (k + 1)) = true) := by
          show _ = _
          rw [Asc.allHex_take s.data.toList k hlt, HE.out, Bool.true_and]
          exact hx
        go_wp2_with (first
          | (go_at_call 74; refine (hexDigit_any _ _).mono ?_; rintro e w1 ⟨rfl, hw⟩; rw [hw]; clear hw))
        go_round
        case rel => exact ⟨k + 1, by omega, by go_num, HN⟩
        case measure => simp [intOf]; omega
    · have HN : Hid (Asc.allHex s.data.toList = true) := by
        have := HE.out
        rwa [take_all s k (by omega)] at this
      go_wp2
      go_ret
      exact ⟨ret_bool (by unfold Asc.hexForm; rw [HN.out, ByteArray.toList_eq]; rfl), rfl⟩
theorem or_hex (n d : Int) (h0 : 0 ≤ n) (h1 : n ≤ 268435455) (h2 : 0 ≤ d) (h3 : d ≤ 15) : bits BinOp.or IntKind.u32 (n * 16) d = n * 16 + d := by
  obtain ⟨a, rfl⟩ := Int.eq_ofNat_of_zero_le h0
  obtain ⟨b, rfl⟩ := Int.eq_ofNat_of_zero_le h2
  rw [u32_or _ _ (by omega) (by omega) (by omega) (by omega)]
  have e : ((a : Int) * 16).toNat = 2 ^ 4 * a := by omega
  rw [e, Int.toNat_natCast, ← Nat.two_pow_add_eq_or_of_lt (show b < 2 ^ 4 by omega)]
  omega
set_option maxHeartbeats 400000 in
theorem Hex_any (s : ByteArray) (w : World) (hs : s.size ≤ 1000000000) :
    Calls Tryd.prog 66 #[.string s] w fun e w' => e = .returned (.tuple #[.int .u32 (Asc.hexNum s.data.toList), .int .i64 (Asc.hexErr s.data.toList)]) ∧ w' = w := by
  cases hx : (Asc.hexForm s.data.toList)
  · have HN : Hid (Asc.hexNum s.data.toList = 0 ∧ Asc.hexErr s.data.toList = 3) := Asc.hex_form _ (Asc.hexForm_no _ hx)
    go_enter Tryd.func66, Tryd.ntmps66
    go_wp2_with (first
      | (go_at_call 73; refine (isHex_any s _ hs).mono ?_; rintro e w1 ⟨rfl, hw⟩; rw [hw]; clear hw))
    go_ret2
    exact ⟨ret_pair (by rw [HN.out.1]; rfl) (by rw [HN.out.2]; rfl), rfl⟩
  · have HA : Hid (Asc.allHex s.data.toList = true ∧ s.data.toList ≠ []) := Asc.hexForm_yes _ hx
    go_enter Tryd.func66, Tryd.ntmps66
    go_wp2_with (first
      | (go_at_call 73; refine (isHex_any s _ hs).mono ?_; rintro e w1 ⟨rfl, hw⟩; rw [hw]; clear hw))
    clear hx
    go_loop [4, 13] (fun m i => ∃ (k : Nat) (n : Int), k ≤ s.size ∧ i = .int .i64 k ∧ m = .int .u32 n ∧ 0 ≤ n ∧ n ≤ 4294967295 ∧ Hid (Asc.hexFold n (s.data.toList.drop k) = Asc.hexFold 0 s.data.toList)) (fun _ i => s.size - (intOf i).toNat)
    case atStart => exact ⟨0, 0, Nat.zero_le _, rfl, rfl, by omega, by omega, rfl⟩
    case round =>
      obtain ⟨k, n, hk, rfl, rfl, hn0, hn1, HE⟩ := hrel
      by_cases hlt : k < s.size
      · by_cases hn : 268435455 < n
        · have HN : Hid (Asc.hexNum s.data.toList = 0 ∧ Asc.hexErr s.data.toList = 5) := Asc.hex_many _ HA.out (by rw [← HE.out]; exact Asc.hexFold_stop _ k n hlt hn)
          go_wp2
          go_ret2
          exact ⟨ret_pair (by rw [HN.out.1]; rfl) (by rw [HN.out.2]; rfl), rfl⟩
        · have hv := Asc.hexV_bd (Asc.bt s[k])
          obtain ⟨hv0, hv1⟩ := hv
          have HN : Hid (Asc.hexFold (n * 16 + Asc.hexV (Asc.bt s[k])) (s.data.toList.drop (k + 1)) = Asc.hexFold 0 s.data.toList) := by
            show _ = _
            rw [← HE.out]
            exact (Asc.hexFold_next _ k n hlt (by omega)).symm
          go_wp2_with (first
            | (go_at_call 74; refine (hexDigit_any _ _).mono ?_; rintro e w1 ⟨rfl, hw⟩; rw [hw]; clear hw))
          go_round
          case rel => exact ⟨k + 1, n * 16 + Asc.hexV (Asc.bt s[k]), by omega, by go_num, by rw [or_hex n _ hn0 (by omega) hv0 hv1], by omega, by omega, HN⟩
          case measure => simp [intOf]; omega
      · have HN : Hid (Asc.hexNum s.data.toList = n ∧ Asc.hexErr s.data.toList = 0) := Asc.hex_ok _ n HA.out (by rw [← HE.out]; exact Asc.hexFold_end _ k n (by simpa using Nat.le_of_not_lt hlt))
        go_wp2
        go_ret2
        exact ⟨ret_pair (by rw [HN.out.1]; rfl) (by rw [HN.out.2]; rfl), rfl⟩
end Go.Proofs.YtdllcnifkiebjaaDoor
