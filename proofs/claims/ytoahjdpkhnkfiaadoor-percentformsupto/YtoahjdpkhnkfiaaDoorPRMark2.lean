/- The contract of the reference's Mark. -/
import Derived.Test.YtoahjdpkhnkfiaaDoorPRMark
namespace Go.Proofs.YtoahjdpkhnkfiaaDoor
open Go.RowKit
/-- Whether a byte stays, as far as 'free' has been looked through. -/
def staysTo (free : ByteArray) (c : UInt8) (m : Nat) : Bool := Pct.plain c || (free.data.toList.take m).contains c
theorem staysTo_zero (free : ByteArray) (c : UInt8) : staysTo free c 0 = Pct.plainN (c.toNat : Int) := by simp [staysTo, Pct.plain]
theorem staysTo_all (free : ByteArray) (c : UInt8) (m : Nat) (h : ¬ m < free.size) : staysTo free c m = Pct.stays free.data.toList c := by
  unfold staysTo Pct.stays
  rw [List.take_of_length_le (by rw [← size_data0]; omega)]
theorem staysTo_yes (free : ByteArray) (c : UInt8) (m : Nat) (h : m < free.size) (hs : staysTo free c m = true) : staysTo free c (m + 1) = true := by
  unfold staysTo at hs ⊢
  rw [Asc.take_snoc free.data.toList m h, List.contains_append, ← Bool.or_assoc, hs]
  rfl
theorem staysTo_no (free : ByteArray) (c : UInt8) (m : Nat) (h : m < free.size) (hs : staysTo free c m = false) : staysTo free c (m + 1) = decide (free[m] = c) := by
  unfold staysTo at hs ⊢
  rw [Asc.take_snoc free.data.toList m h, List.contains_append, ← Bool.or_assoc, hs, Bool.false_or]
  have e : free.data.toList[m] = free[m] := rfl
  rw [e]
  by_cases hc : free[m] = c
  · simp [hc]
  · rw [decide_eq_false hc]
    simp
    exact fun e => hc e.symm
set_option maxHeartbeats 2000000 in
set_option maxRecDepth 100000 in
theorem RMark_any (s free : ByteArray) (w : World) (hs : s.size ≤ 1000000000) (hf : free.size ≤ 1000000000) :
    Calls Tryd.prog 12 #[.string s, .string free] w fun e w' => e = .returned (.string (str (Pct.mark free.data.toList s.data.toList))) ∧ Below w.heap.size w w' := by
  go_enter Tryd.func12, Tryd.ntmps12
  go_wp2
  go_loopw [5, 6] (fun x i wr => ∃ (k : Nat) (acc : ByteArray), k ≤ s.size ∧ i = .int .i64 k ∧ x = .string acc ∧ acc.size ≤ 3 * k ∧ Hid (acc.data.toList = Pct.mark free.data.toList (s.data.toList.take k)) ∧ Below w.heap.size w wr) (fun _ i _ => s.size - (intOf i).toNat)
  case atStart => exact ⟨0, ⟨#[]⟩, Nat.zero_le _, rfl, rfl, Nat.le_refl _, rfl, Below.refl _ _⟩
  case round =>
    obtain ⟨k, acc, hk, rfl, rfl, hal, HM, hbw⟩ := hrel
    by_cases hlt : k < s.size
    · have HN : Hid _ := Pct.mark_next free.data.toList s.data.toList k hlt
      have hwz := hbw.size
      go_wp2_with (go_at_call 32; refine (Rplain_n _ _).mono ?_; rintro e w1 ⟨rfl, hw1⟩; rw [hw1]; clear hw1)
      go_loopw [7, 8] (fun b i wi => ∃ m d : Nat, m ≤ free.size ∧ i = .int .i64 m ∧ b = .bool (staysTo free s[k] m) ∧ wi = wr.drewN d) (fun _ i _ => free.size - (intOf i).toNat)
      case atStart => exact ⟨0, 0, Nat.zero_le _, rfl, by rw [staysTo_zero], rfl⟩
      case round =>
        obtain ⟨m, d, hm, rfl, rfl, rfl⟩ := hrel
        by_cases hml : m < free.size
        · cases hst : staysTo free s[k] m
          · have HS := staysTo_no free s[k] m hml hst
            by_cases hc : free[m] = s[k]
            · have hq := byte_eq_yes hc
              rw [decide_eq_true hc] at HS
              have HS : Hid _ := HS
              clear hc hst
              go_wp2
              go_quiet (fail)
              go_wp2
              go_roundw
              case rel => exact ⟨m + 1, d + nq, by omega, by go_num, by rw [HS.out], by simp⟩
              case measure => simp [intOf]; omega
            · have hq := byte_eq_no hc
              rw [decide_eq_false hc] at HS
              have HS : Hid _ := HS
              clear hc hst
              go_wp2
              go_quiet (fail)
              go_wp2
              go_roundw
              case rel => exact ⟨m + 1, d + nq, by omega, by go_num, by rw [HS.out], by simp⟩
              case measure => simp [intOf]; omega
          · have HS : Hid _ := staysTo_yes free s[k] m hml hst
            clear hst
            go_wp2
            go_quiet (fail)
            go_wp2
            go_roundw
            case rel => exact ⟨m + 1, d + nq, by omega, by go_num, by rw [HS.out], by simp⟩
            case measure => simp [intOf]; omega
        · rw [staysTo_all free s[k] m hml]
          have hbd : Below w.heap.size w (wr.drewN d) := ⟨hbw.os, hbw.tape, hbw.output, by simpa using hbw.size, by simpa using hbw.block⟩
          cases hst : Pct.stays free.data.toList s[k]
          · have HO : Hid _ := Pct.one_no hst
            clear hst
            have hmk : (str (Pct.mk s[k])).size = 3 := rfl
            go_wp2_with (go_at_call 33; refine (Rmark_any _ _).mono ?_; rintro e w2 ⟨rfl, hb2⟩)
            go_roundw
            case rel => exact ⟨k + 1, acc ++ str (Pct.mk s[k]), by omega, by go_num, rfl, by rw [ByteArray.size_append, hmk]; omega, by show _ = _; rw [ByteArray.data_append, Array.toList_append, str_data, HM.out, HN.out]; exact congrArg _ HO.out.symm, bel hbd hb2⟩
            case measure => simp [intOf]; omega
          · have HO : Hid _ := Pct.one_yes hst
            clear hst
            have hcs := cut_size s k (k + 1) (by omega)
            have hco : Hid _ := cut_one s k hlt
            go_wp2
            go_roundw
            case rel => exact ⟨k + 1, acc ++ s.extract k (k + 1), by omega, by go_num, rfl, by rw [ByteArray.size_append, hcs]; omega, by show _ = _; rw [ByteArray.data_append, Array.toList_append, hco.out, HM.out, HN.out]; exact congrArg _ HO.out.symm, hbd⟩
            case measure => simp [intOf]; omega
    · have HN : Hid (acc.data.toList = Pct.mark free.data.toList s.data.toList) := by
        have := HM.out
        rw [List.take_of_length_le (by rw [← size_data0]; omega)] at this
        exact this
      go_wp2
      go_ret
      exact ⟨ret_text HN.out, hbw⟩
end Go.Proofs.YtoahjdpkhnkfiaaDoor
