/- The walk of the law RefsNexts, out of the contracts. -/
import Derived.Test.YtdllcnifkiebjaaDoorRfM
import Derived.Test.YtdllcnifkiebjaaDoorRfRt
set_option linter.unusedVariables false
set_option linter.unusedSimpArgs false
namespace Go.Proofs.YtdllcnifkiebjaaDoor.refsNexts
open Go.RowKit
set_option maxHeartbeats 2000000 in
set_option maxRecDepth 100000 in
theorem walk (a0 : ByteArray) (a1 : Bool) (w : World) (h0 : a0.size ≤ 140737488351232) (hT : Win w) :
    Calls Tryd.prog 4 #[.string a0, .bool a1] w fun e w' => e = .returned (.bool true) ∧ Below w.heap.size w w' := by
  have HT : Hid (Win w) := hT
  clear hT
  obtain ⟨l, rfl⟩ : ∃ l, a0 = str l := ⟨_, (str_self a0).symm⟩
  have hB : Below w.heap.size w w := Below.refl _ _
  have hL := long11_any l
  unfold longL at hL
  by_cases hl : 1500 < l.length
  · rw [decide_eq_true hl] at hL
    go_enter Tryd.func4, Tryd.ntmps4
    go_wp2_with (first
      | (go_at_call 14; refine (hL _).mono ?_; rintro e w1 ⟨rfl, hw⟩; rw [hw]; clear hw)
      | (go_at_call 13; refine (alive11_any _ (HT.out.below hB)).mono ?_; rintro e w2 ⟨rfl, hb2⟩; replace hB := bel hB hb2; clear hb2))
    go_ret
    exact ⟨rfl, hB⟩
  · rw [decide_eq_false hl] at hL
    have hN := fun W hW => Next_any l a1 W (by omega) hW
    have hR := fun W => RNx_any l a1 W (by omega)
    generalize Rf.nx a1 l = q at *
    obtain ⟨x, n, b⟩ := q
    unfold nxV at *
    simp only at hN hR
    have q1 := beq_self_eq_true x
    have q2 := beq_self_eq_true (n : Int)
    have q3 := beq_self_eq_true b
    go_enter Tryd.func4, Tryd.ntmps4
    go_wp2_with (first
      | (go_at_call 14; refine (hL _).mono ?_; rintro e w1 ⟨rfl, hw⟩; rw [hw]; clear hw)
      | (go_at_call 15; refine (hN _ (HT.out.below hB)).mono ?_; rintro e w2 ⟨rfl, hb2⟩; replace hB := bel hB hb2; clear hb2)
      | (go_at_call 16; refine (hR _).mono ?_; rintro e w3 ⟨rfl, hb3⟩; replace hB := bel hB hb3; clear hb3)
      | (go_at_call 13; refine (alive11_any _ (HT.out.below hB)).mono ?_; rintro e w4 ⟨rfl, hb4⟩; replace hB := bel hB hb4; clear hb4))
    go_ret
    exact ⟨by first | rfl | simp, hB⟩
end Go.Proofs.YtdllcnifkiebjaaDoor.refsNexts
