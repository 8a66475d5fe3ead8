/- The walk of the law RefsTexts, out of the contracts. -/
import Derived.Test.YtdllcnifkiebjaaDoorRfM
import Derived.Test.YtdllcnifkiebjaaDoorRfRw
set_option linter.unusedVariables false
set_option linter.unusedSimpArgs false
namespace Go.Proofs.YtdllcnifkiebjaaDoor.refsTexts
open Go.RowKit
set_option maxHeartbeats 2000000 in
set_option maxRecDepth 100000 in
theorem walk (a0 : ByteArray) (a1 : Bool) (w : World) (h0 : a0.size ≤ 140737488351232) (hT : Win w) :
    Calls Tryd.prog 5 #[.string a0, .bool a1] w fun e w' => e = .returned (.bool true) ∧ Below w.heap.size w w' := by
  have HT : Hid (Win w) := hT
  clear hT
  obtain ⟨l, rfl⟩ : ∃ l, a0 = str l := ⟨_, (str_self a0).symm⟩
  have hB : Below w.heap.size w w := Below.refl _ _
  have hL := long11_any l
  unfold longL at hL
  by_cases hl : 1500 < l.length
  · rw [decide_eq_true hl] at hL
    go_enter Tryd.func5, Tryd.ntmps5
    go_wp2_with (first
      | (go_at_call 14; refine (hL _).mono ?_; rintro e w1 ⟨rfl, hw⟩; rw [hw]; clear hw)
      | (go_at_call 13; refine (alive11_any _ (HT.out.below hB)).mono ?_; rintro e w2 ⟨rfl, hb2⟩; replace hB := bel hB hb2; clear hb2))
    go_ret
    exact ⟨rfl, hB⟩
  · rw [decide_eq_false hl] at hL
    have hD := fun W hW => Decode_any l a1 W (by omega) hW
    have hRD := fun W => RDecode_any l a1 W (by omega)
    have hE := fun W => Encode_any l a1 W (by omega)
    have hRE := fun W => REncode_any l a1 W (by omega)
    generalize Rf.dec a1 l = x at *
    generalize Rf.enc a1 l = y at *
    have q1 := beq_self_eq_true (str x).toList
    have q2 := beq_self_eq_true (str y).toList
    go_enter Tryd.func5, Tryd.ntmps5
    go_wp2_with (first
      | (go_at_call 14; refine (hL _).mono ?_; rintro e w1 ⟨rfl, hw⟩; rw [hw]; clear hw)
      | (go_at_call 17; refine (hD _ (HT.out.below hB)).mono ?_; rintro e w2 ⟨rfl, hb2⟩; replace hB := bel hB hb2; clear hb2)
      | (go_at_call 18; refine (hRD _).mono ?_; rintro e w3 ⟨rfl, hb3⟩; replace hB := bel hB hb3; clear hb3)
      | (go_at_call 19; refine (hE _).mono ?_; rintro e w4 ⟨rfl, hb4⟩; replace hB := bel hB hb4; clear hb4)
      | (go_at_call 20; refine (hRE _).mono ?_; rintro e w5 ⟨rfl, hw⟩; rw [hw]; clear hw)
      | (go_at_call 13; refine (alive11_any _ (HT.out.below hB)).mono ?_; rintro e w6 ⟨rfl, hb6⟩; replace hB := bel hB hb6; clear hb6))
    go_ret
    exact ⟨by first | rfl | simp, hB⟩
end Go.Proofs.YtdllcnifkiebjaaDoor.refsTexts
