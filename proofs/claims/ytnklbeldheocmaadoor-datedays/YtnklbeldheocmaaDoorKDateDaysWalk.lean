/- The walk of DateDays. -/
import Derived.Test.YtnklbeldheocmaaDoorKDateE
import Derived.Test.YtnklbeldheocmaaDoorKDR1
namespace Go.Proofs.YtnklbeldheocmaaDoor.dateDays
open Go.RowKit
set_option maxRecDepth 100000 in
set_option maxHeartbeats 2000000 in
theorem walk (y m d : Int) (w : World) (_hy : (Lit.int .i64 y).wf = true) (_hm : (Lit.int .i64 m).wf = true) (hd : (Lit.int .i64 d).wf = true) (hE : Env6 w) :
    Calls Tryd.prog 3 #[.int .i64 y, .int .i64 m, .int .i64 d] w fun e w' => e = .returned (.bool true) ∧ Below w.heap.size w w' := by
  obtain ⟨d1, d2⟩ := i64_bd hd
  go_enter Tryd.func3, Tryd.ntmps3
  go_wp2_with (first
    | (go_at_call 8; refine (Days_any _ _ _ _ hE.ah d1 d2).mono ?_; rintro e w1 ⟨rfl, hw⟩; rw [hw]; clear hw)
    | (go_at_call 9; refine (RDays_any _ _ _ _ d1 d2).mono ?_; rintro e w1 ⟨rfl, hw⟩; rw [hw]; clear hw)
    | (go_at_call 10; refine (IsLeap_any _ _).mono ?_; rintro e w1 ⟨rfl, hw⟩; rw [hw]; clear hw)
    | (go_at_call 11; refine (RIsLeap_any _ _).mono ?_; rintro e w1 ⟨rfl, hw⟩; rw [hw]; clear hw)
    | (go_at_call 12; refine (alive6_any _ hE).mono ?_; rintro e w3 ⟨rfl, hb3⟩))
  go_ret
  exact ⟨rfl, hb3⟩
end Go.Proofs.YtnklbeldheocmaaDoor.dateDays
