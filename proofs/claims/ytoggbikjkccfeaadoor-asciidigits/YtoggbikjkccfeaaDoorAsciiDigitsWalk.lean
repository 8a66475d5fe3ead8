/- The walk of the law AsciiDigits, out of the contracts. -/
import Derived.Test.YtoggbikjkccfeaaDoorCAlive
import Derived.Test.YtoggbikjkccfeaaDoorCDigits
namespace Go.Proofs.YtoggbikjkccfeaaDoor.asciiDigits
open Go.RowKit
theorem i64_bd {n : Int} (h : (Lit.int .i64 n).wf = true) : -9223372036854775808 ≤ n ∧ n ≤ 9223372036854775807 := bounds_i64 h
set_option maxHeartbeats 400000 in
theorem walk (n size : Int) (w : World) (w0 : (Lit.int .i64 n).wf = true) (_ : (Lit.int .i64 size).wf = true) (hT : Lib.TabIs Tryd.prog w "internal/strconv.uint64pow10" .u64 Lib.pow10Tab) :
    Calls Tryd.prog 6 #[.int .i64 n, .int .i64 size] w fun e w' => e = .returned (.bool true) ∧ Below w.heap.size w w' := by
  have hP : Pow w := hT
  obtain ⟨h0, h1⟩ := i64_bd w0
  clear hT w0
  go_enter Tryd.func6, Tryd.ntmps6
  go_wp2_with (first
    | (go_at_call 31; refine (Text_any n _ h0 h1 hP).mono ?_; rintro e w1 ⟨rfl, hb1⟩; have hP1 := hP.below hb1)
    | (go_at_call 32; refine (RText_any n _ h0 h1).mono ?_; rintro e w2 ⟨rfl, hb2⟩; have hP2 := hP1.below hb2)
    | (go_at_call 33; refine (Pad_any n size _ h0 h1 hP2).mono ?_; rintro e w3 ⟨rfl, hb3⟩; unfold strV; have hP3 := hP2.below hb3)
    | (go_at_call 34; refine (RPad_any n size _ h0 h1).mono ?_; rintro e w4 ⟨rfl, hb4⟩; unfold strV; have hP4 := hP3.below hb4)
    | (go_at_call 15; refine (alive_any _ hP4).mono ?_; rintro e w5 ⟨rfl, hb5⟩))
  go_ret
  have h2 := hb1.trans (hb2.mono hb1.size)
  have h3 := h2.trans (hb3.mono h2.size)
  have h4 := h3.trans (hb4.mono h3.size)
  exact ⟨rfl, h4.trans (hb5.mono h4.size)⟩
end Go.Proofs.YtoggbikjkccfeaaDoor.asciiDigits
