/- The walk of DateCivil. -/
import Derived.Test.YtnklbeldheocmaaDoorKDateE
import Derived.Test.YtnklbeldheocmaaDoorKDR1
namespace Go.Proofs.YtnklbeldheocmaaDoor.dateCivil
open Go.RowKit
set_option maxRecDepth 100000 in
set_option maxHeartbeats 2000000 in
theorem walk (n : Int) (w : World) (hw : (Lit.int .i64 n).wf = true) (hE : Env6 w) :
    Calls Tryd.prog 4 #[.int .i64 n] w fun e w' => e = .returned (.bool true) ∧ Below w.heap.size w w' := by
  obtain ⟨n1, n2⟩ := i64_bd hw
  by_cases h : n < -719162 ∨ 2932896 < n
  · have hc := Civil_no n w n1 n2 h
    have hr := fun w => RCivil_no n w h
    clear h
    go_enter Tryd.func4, Tryd.ntmps4
    go_wp2_with (first
      | (go_at_call 13; refine hc.mono ?_; rintro e w1 ⟨rfl, hb⟩; have hE1 := hE.below hb)
      | (go_at_call 14; refine (hr _).mono ?_; rintro e w2 ⟨rfl, hw2⟩; rw [hw2]; clear hw2)
      | (go_at_call 12; refine (alive6_any _ hE1).mono ?_; rintro e w3 ⟨rfl, hb3⟩))
    go_ret
    exact ⟨rfl, hb.trans (hb3.mono hb.size)⟩
  · obtain ⟨y, m, d, hv, hn⟩ := Dat.some_day n (by omega) (by omega)
    have hc := Civil_yes n y m d w hv hn.symm hE.ah
    have hr := fun w => RCivil_yes n y m d w hv hn.symm
    clear h hv hn
    go_enter Tryd.func4, Tryd.ntmps4
    go_wp2_with (first
      | (go_at_call 13; refine hc.mono ?_; rintro e w1 ⟨rfl, hb⟩; have hE1 := hE.below hb)
      | (go_at_call 14; refine (hr _).mono ?_; rintro e w2 ⟨rfl, hw2⟩; rw [hw2]; clear hw2)
      | (go_at_call 12; refine (alive6_any _ hE1).mono ?_; rintro e w3 ⟨rfl, hb3⟩))
    go_ret
    exact ⟨rfl, hb.trans (hb3.mono hb.size)⟩
end Go.Proofs.YtnklbeldheocmaaDoor.dateCivil
