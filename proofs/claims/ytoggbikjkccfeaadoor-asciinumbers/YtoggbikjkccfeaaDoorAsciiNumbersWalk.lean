/- The walk of the law AsciiNumbers, out of the contracts. -/
import Derived.Test.YtoggbikjkccfeaaDoorCLong
import Derived.Test.YtoggbikjkccfeaaDoorCRNum
namespace Go.Proofs.YtoggbikjkccfeaaDoor.asciiNumbers
open Go.RowKit
set_option maxHeartbeats 400000 in
theorem walk (s : ByteArray) (most : Int) (w : World) (_ : s.size ≤ maxLen) (w1 : (Lit.int .i64 most).wf = true) (hT : Lib.TabIs Tryd.prog w "internal/strconv.uint64pow10" .u64 Lib.pow10Tab) :
    Calls Tryd.prog 5 #[.string s, .int .i64 most] w fun e w' => e = .returned (.bool true) ∧ Below w.heap.size w w' := by
  have hP : Pow w := hT
  obtain ⟨h0, h1⟩ := i64_bd w1
  clear hT w1
  by_cases hl : 3000 < s.size
  · have hb := long_yes hl
    go_enter Tryd.func5, Tryd.ntmps5
    go_wp2_with (first
      | (go_at_call 16; refine (long_any _ _).mono ?_; rintro e w1 ⟨rfl, hw⟩; rw [hw]; clear hw)
      | (go_at_call 15; refine (alive_any _ hP).mono ?_; rintro e w5 ⟨rfl, hb5⟩))
    go_ret
    exact ⟨rfl, hb5⟩
  · have hb := long_no hl
    have hs : s.size ≤ 1000000000 := by omega
    go_enter Tryd.func5, Tryd.ntmps5
    go_wp2_with (first
      | (go_at_call 16; refine (long_any _ _).mono ?_; rintro e w1 ⟨rfl, hw⟩; rw [hw]; clear hw)
      | (go_at_call 27; refine (Number_any s most _ hs h1).mono ?_; rintro e w1 ⟨rfl, hw⟩; rw [hw]; clear hw)
      | (go_at_call 28; refine (RNumber_any s most _ hs h0 h1).mono ?_; rintro e w1 ⟨rfl, hw⟩; rw [hw]; clear hw)
      | (go_at_call 29; refine (Hex_any s _ hs).mono ?_; rintro e w1 ⟨rfl, hw⟩; rw [hw]; clear hw)
      | (go_at_call 30; refine (RHex_any s _ hs).mono ?_; rintro e w1 ⟨rfl, hw⟩; rw [hw]; clear hw)
      | (go_at_call 15; refine (alive_any _ hP).mono ?_; rintro e w5 ⟨rfl, hb5⟩))
    go_ret
    exact ⟨rfl, hb5⟩
end Go.Proofs.YtoggbikjkccfeaaDoor.asciiNumbers
