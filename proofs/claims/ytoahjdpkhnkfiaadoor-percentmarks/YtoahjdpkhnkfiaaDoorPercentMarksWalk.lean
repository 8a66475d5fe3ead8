/- The walk of the law PercentMarks, out of the contracts. -/
import Derived.Test.YtoahjdpkhnkfiaaDoorPLaw
import Derived.Test.YtoahjdpkhnkfiaaDoorPRMark2
import Derived.Test.YtoahjdpkhnkfiaaDoorPRUnmark
namespace Go.Proofs.YtoahjdpkhnkfiaaDoor.percentMarks
open Go.RowKit
set_option maxHeartbeats 4000000 in
set_option maxRecDepth 100000 in
theorem walk (a0 a1 : ByteArray) (w : World) (_ : a0.size ≤ maxLen) (_ : a1.size ≤ maxLen) (hT : MaxL w) :
    Calls Tryd.prog 3 #[.string a0, .string a1] w fun e w' => e = .returned (.bool true) ∧ Below w.heap.size w w' := by
  by_cases h0 : 3000 < a0.size
  · have hl0 := long_yes h0
    go_enter Tryd.func3, Tryd.ntmps3
    go_wp2_with (first
      | (go_at_call 9; refine (long_any _ _).mono ?_; rintro e w1 ⟨rfl, hw⟩; rw [hw]; clear hw; rw [hl0])
      | (go_at_call 10; refine (alive_any _ hT).mono ?_; rintro e w2 ⟨rfl, hb⟩))
    go_ret
    exact ⟨rfl, hb⟩
  have hl0 := long_no h0
  by_cases h1 : 3000 < a1.size
  · have hl1 := long_yes h1
    go_enter Tryd.func3, Tryd.ntmps3
    go_wp2_with (first
      | (go_at_call 9; refine (long_any _ _).mono ?_; rintro e w1 ⟨rfl, hw⟩; rw [hw]; clear hw; first | rw [hl0] | rw [hl1])
      | (go_at_call 10; refine (alive_any _ hT).mono ?_; rintro e w2 ⟨rfl, hb⟩))
    go_ret
    exact ⟨rfl, hb⟩
  have hl1 := long_no h1
  have hs1 := str_beq_yes (rfl : Pct.mark a1.data.toList a0.data.toList = Pct.mark a1.data.toList a0.data.toList)
  have hs2 := str_beq_yes (rfl : Pct.unmark a0.data.toList = Pct.unmark a0.data.toList)
  go_enter Tryd.func3, Tryd.ntmps3
  go_wp2_with (first
    | (go_at_call 9; refine (long_any _ _).mono ?_; rintro e w1 ⟨rfl, hw⟩; rw [hw]; clear hw; first | rw [hl0] | rw [hl1])
    | (go_at_call 11; refine (Mark_any a0 a1 _ (by omega) (by omega)).mono ?_; rintro e w2 ⟨rfl, hb2⟩)
    | (go_at_call 12; refine (RMark_any a0 a1 _ (by omega) (by omega)).mono ?_; rintro e w3 ⟨rfl, hb3⟩; have hb3' := bel hb2 hb3)
    | (go_at_call 13; refine (Unmark_any a0 _ (by omega)).mono ?_; rintro e w4 ⟨rfl, hb4⟩; have hb4' := bel hb3' hb4)
    | (go_at_call 14; refine (RUnmark_any a0 _ (by omega)).mono ?_; rintro e w5 ⟨rfl, hb5⟩; have hb5' := bel hb4' hb5)
    | (go_at_call 10; refine (alive_any _ (hT.below hb5')).mono ?_; rintro e w6 ⟨rfl, hb6⟩))
  go_ret
  exact ⟨rfl, bel hb5' hb6⟩
end Go.Proofs.YtoahjdpkhnkfiaaDoor.percentMarks
