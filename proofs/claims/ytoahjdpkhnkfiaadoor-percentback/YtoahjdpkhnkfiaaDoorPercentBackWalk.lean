/- The walk of the law PercentBack, out of the contracts. -/
import Derived.Test.YtoahjdpkhnkfiaaDoorPAlive
namespace Go.Proofs.YtoahjdpkhnkfiaaDoor.percentBack
open Go.RowKit
theorem fine (c : UInt8) (h : c = 37 ∨ Pct.plain c = true ∨ ([] : List UInt8).contains c = true) : 32 < (c.toNat : Int) ∧ (c.toNat : Int) < 127 ∧ (c.toNat : Int) ≠ 38 ∧ (c.toNat : Int) ≠ 61 ∧ (c.toNat : Int) ≠ 43 ∧ (c.toNat : Int) ≠ 35 ∧ (c.toNat : Int) ≠ 63 ∧ (c.toNat : Int) ≠ 47 := by
  rcases h with rfl | h | h
  · decide
  · unfold Pct.plain Pct.plainN at h
    simp only [Bool.or_eq_true, decide_eq_true_eq] at h
    omega
  · simp at h
theorem Mark_none (s : ByteArray) (w : World) (hs : s.size ≤ 1000000000) :
    Calls Tryd.prog 11 #[.string s, .string ⟨#[]⟩] w fun e w' => e = .returned (.string (str (Pct.mark [] s.data.toList))) ∧ Below w.heap.size w w' := Mark_any s ⟨#[]⟩ w hs (by decide)
set_option maxHeartbeats 2000000 in
set_option maxRecDepth 100000 in
theorem walk (a0 : ByteArray) (w : World) (_ : a0.size ≤ maxLen) (hT : MaxL w) :
    Calls Tryd.prog 6 #[.string a0] w fun e w' => e = .returned (.bool true) ∧ Below w.heap.size w w' := by
  by_cases hl : 3000 < a0.size
  · have hlb := long_yes hl
    go_enter Tryd.func6, Tryd.ntmps6
    go_wp2_with (first
      | (go_at_call 9; refine (long_any _ _).mono ?_; rintro e w1 ⟨rfl, rfl⟩)
      | (go_at_call 10; refine (alive_any _ hT).mono ?_; rintro e w2 ⟨rfl, hb⟩))
    go_ret
    exact ⟨rfl, hb⟩
  have hlb := long_no hl
  have hml := Pct.mark_len [] a0.data.toList
  rw [← size_data0] at hml
  obtain ⟨x, hx⟩ : ∃ x, Pct.mark [] a0.data.toList = x := ⟨_, rfl⟩
  have hxs := str_size x
  have HB : Hid (∀ b ∈ x, b = 37 ∨ Pct.plain b = true ∨ ([] : List UInt8).contains b = true) := by rw [← hx]; exact Pct.mark_bytes [] a0.data.toList
  have HU : Hid (Pct.unmark x = a0.data.toList) := by show _ = _; rw [← hx]; exact Pct.unmark_back [] (by decide) _
  rw [hx] at hml
  have HX : Hid (Pct.mark [] a0.data.toList = x) := hx
  clear hx
  go_enter Tryd.func6, Tryd.ntmps6
  go_wp2_with (first
    | (go_at_call 9; refine (long_any _ _).mono ?_; rintro e w1 ⟨rfl, rfl⟩)
    | (go_at_call 11; refine (Mark_none a0 _ (by omega)).mono ?_; rintro e w2 ⟨rfl, hb2⟩; rw [HX.out]))
  have hyx : (str x).data.toList = x := str_data x
  generalize str x = y at hyx hxs ⊢
  have HB2 : Hid (∀ b ∈ y.data.toList, b = 37 ∨ Pct.plain b = true ∨ ([] : List UInt8).contains b = true) := by rw [hyx]; exact HB.out
  have HU2 : Hid (Pct.unmark y.data.toList = a0.data.toList) := by rw [hyx]; exact HU.out
  clear hyx HB HU HX
  go_loop [13] (fun i => ∃ k : Nat, k ≤ y.size ∧ i = .int .i64 k) (fun i => y.size - (intOf i).toNat)
  case atStart => exact ⟨0, Nat.zero_le _, rfl⟩
  case round =>
    obtain ⟨k, hk, rfl⟩ := hrel
    by_cases hlt : k < y.size
    · obtain ⟨f1, f2, f3, f4, f5, f6, f7, f8⟩ := fine y[k] (HB2.out y[k] (by rw [ByteArray.getElem_eq_getElem_data]; simp))
      have e3 := beq_eq_false_iff_ne.2 f3
      have e4 := beq_eq_false_iff_ne.2 f4
      have e5 := beq_eq_false_iff_ne.2 f5
      have e6 := beq_eq_false_iff_ne.2 f6
      have e7 := beq_eq_false_iff_ne.2 f7
      have e8 := beq_eq_false_iff_ne.2 f8
      clear f3 f4 f5 f6 f7 f8
      go_wp2
      go_round
      case rel => exact ⟨k + 1, by omega, by go_num⟩
      case measure => simp [intOf]; omega
    · have hq : (str (Pct.unmark y.data.toList)).toList = a0.toList := by rw [HU2.out, str_list, ByteArray.toList_eq]
      go_wp2_with (first
        | (go_at_call 13; refine (Unmark_any y _ (by omega)).mono ?_; rintro e w3 ⟨rfl, hb3⟩)
        | (go_at_call 10; refine (alive_any _ (hT.below (bel hb2 hb3))).mono ?_; rintro e w4 ⟨rfl, hb4⟩))
      go_ret
      exact ⟨rfl, bel (bel hb2 hb3) hb4⟩
end Go.Proofs.YtoahjdpkhnkfiaaDoor.percentBack
