/- The contract of the laws' own 'long'. -/
import Derived.Test.YtoggbikjkccfeabDoorCAlive
namespace Go.Proofs.YtoggbikjkccfeabDoor
open Go.RowKit
def longB (s : ByteArray) : Bool := decide (3000 < s.size)
theorem long_yes {s : ByteArray} (h : 3000 < s.size) : longB s = true := decide_eq_true h
theorem long_no {s : ByteArray} (h : ¬ 3000 < s.size) : longB s = false := decide_eq_false h
set_option maxHeartbeats 400000 in
theorem long_any (s : ByteArray) (w : World) : Calls Tryd.prog 5 #[.string s] w fun e w' => e = .returned (.bool (longB s)) ∧ w' = w := by
  by_cases h : 3000 < s.size
  · rw [long_yes h]
    go_enter Tryd.func5, Tryd.ntmps5
    go_wp2
    go_ret
    exact ⟨ret_bool (by first | rfl | (simp <;> omega)), rfl⟩
  · rw [long_no h]
    go_enter Tryd.func5, Tryd.ntmps5
    go_wp2
    go_ret
    exact ⟨ret_bool (by first | rfl | (simp <;> omega)), rfl⟩
theorem i64_bd {n : Int} (h : (Lit.int .i64 n).wf = true) : -9223372036854775808 ≤ n ∧ n ≤ 9223372036854775807 := bounds_i64 h
end Go.Proofs.YtoggbikjkccfeabDoor
