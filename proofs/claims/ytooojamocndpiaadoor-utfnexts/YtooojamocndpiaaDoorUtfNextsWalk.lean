/- The walk of the law UtfNexts, out of the contracts. -/
import Derived.Test.YtooojamocndpiaaDoorUNextP
namespace Go.Proofs.YtooojamocndpiaaDoor.utfNexts
open Go.RowKit
set_option maxHeartbeats 2000000 in
set_option maxRecDepth 100000 in
theorem walk (a0 : ByteArray) (w : World) (h0 : a0.size ≤ 140737488351232) (hT : Lib.Utf8Tabs 0 1 w) :
    Calls Tryd.prog 3 #[.string a0] w fun e w' => e = .returned (.bool true) ∧ Below w.heap.size w w' := by
  have HT : Hid (Tabs w) := hT
  clear hT
  obtain ⟨l, rfl⟩ : ∃ l, a0 = str l := ⟨_, (str_self a0).symm⟩
  have hsz := str_size l
  rw [hsz] at h0
  have hB : Below w.heap.size w w := Below.refl _ _
  by_cases hl : l = []
  · subst hl
    go_enter Tryd.func3, Tryd.ntmps3
    go_wp2_with (first
      | (go_at_call 5; refine (Next_nil _).mono ?_; rintro e w1 ⟨rfl, hw⟩; rw [hw]; clear hw)
      | (go_at_call 6; refine (RNext_nil _).mono ?_; rintro e w1 ⟨rfl, hw⟩; rw [hw]; clear hw)
      | (go_at_call 7; refine (alive_any _).mono ?_; rintro e w4 ⟨rfl, hb4⟩; replace hB := bel hB hb4; clear hb4))
    go_ret
    exact ⟨rfl, hB⟩
  · go_enter Tryd.func3, Tryd.ntmps3
    go_wp2_with (first
      | (go_at_call 5; refine (Next_any l hl _ (by omega) HT.out).mono ?_; rintro e w1 ⟨rfl, hb1⟩; replace hB := bel hB hb1; clear hb1)
      | (go_at_call 6; refine (RNext_any _ l (str_data _) hl _ (by omega)).mono ?_; rintro e w2 ⟨rfl, n2, rfl⟩; replace hB := below_drewN n2 hB)
      | (go_at_call 7; refine (alive_any _).mono ?_; rintro e w4 ⟨rfl, hb4⟩; replace hB := bel hB hb4; clear hb4))
    go_ret
    exact ⟨rfl, hB⟩
end Go.Proofs.YtooojamocndpiaaDoor.utfNexts
