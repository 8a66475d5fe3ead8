/- The contract of the reference's Next at any text. -/
import Derived.Test.YtdllcnifkiebjaaDoorRfRt
set_option linter.unusedVariables false
set_option linter.unusedSimpArgs false
namespace Go.Proofs.YtdllcnifkiebjaaDoor
open Go.RowKit
set_option maxHeartbeats 1000000 in
set_option maxRecDepth 100000 in
theorem RNx_not (l : List UInt8) (a : Bool) (w : World) (h : [38].isPrefixOf l = false) :
    Calls Tryd.prog 16 #[.string (str l), .bool a] w fun e w' => e = .returned (nxV (Rf.nx a l)) ∧ Below w.heap.size w w' := by
  have h2 : [38, 35].isPrefixOf l = false := by
    rw [Bool.eq_false_iff]
    intro e
    obtain ⟨r, rfl⟩ := List.isPrefixOf_iff_prefix.1 e
    simp [List.isPrefixOf] at h
  have hS1 : ∀ W, Calls Tryd.prog 31 #[.string (str l), .string (str [38, 35])] W fun e w' => e = .returned (.bool false) ∧ w' = W := fun W => by
    have := starts_any l [38, 35] W
    rw [h2] at this
    exact this
  have hS2 : ∀ W, Calls Tryd.prog 31 #[.string (str l), .string (str [38])] W fun e w' => e = .returned (.bool false) ∧ w' = W := fun W => by
    have := starts_any l [38] W
    rw [h] at this
    exact this
  rw [Rf.nx_none a l h]
  clear h h2
  go_enter Tryd.func16, Tryd.ntmps16
  go_wp2_with (first
    | (go_at_call 31; refine (hS1 _).mono ?_; rintro e w1 ⟨rfl, hw⟩; rw [hw]; clear hw hS1)
    | (go_at_call 31; refine (hS2 _).mono ?_; rintro e w1 ⟨rfl, hw⟩; rw [hw]; clear hw hS2))
  go_ret3
  exact ⟨rfl, Below.refl _ _⟩
set_option maxHeartbeats 1000000 in
set_option maxRecDepth 100000 in
theorem RNx_hash (r : List UInt8) (a : Bool) (w : World) (hz : r.length ≤ 100000000) :
    Calls Tryd.prog 16 #[.string (str (38 :: 35 :: r)), .bool a] w fun e w' => e = .returned (nxV (Rf.nx a (38 :: 35 :: r))) ∧ Below w.heap.size w w' := by
  have hS1 : ∀ W, Calls Tryd.prog 31 #[.string (str (38 :: 35 :: r)), .string (str [38, 35])] W fun e w' => e = .returned (.bool true) ∧ w' = W := fun W => starts_any (38 :: 35 :: r) [38, 35] W
  have hN := fun W => Rnumber_any a r W hz
  generalize Rf.nx a (38 :: 35 :: r) = q at *
  obtain ⟨x, n, b⟩ := q
  unfold nxV at *
  simp only at hN ⊢
  go_enter Tryd.func16, Tryd.ntmps16
  go_wp2_with (first
    | (go_at_call 31; refine (hS1 _).mono ?_; rintro e w1 ⟨rfl, hw⟩; rw [hw]; clear hw hS1)
    | (go_at_call 32; refine (hN _).mono ?_; rintro e w1 ⟨rfl, hb1⟩))
  go_ret3
  exact ⟨rfl, hb1⟩
theorem RNx_any (l : List UInt8) (a : Bool) (w : World) (hz : l.length ≤ 100000000) :
    Calls Tryd.prog 16 #[.string (str l), .bool a] w fun e w' => e = .returned (nxV (Rf.nx a l)) ∧ Below w.heap.size w w' := by
  cases h : [38].isPrefixOf l
  · exact RNx_not l a w h
  · obtain ⟨t, rfl⟩ := Rf.amp_form l h
    simp at hz
    cases h2 : [35].isPrefixOf t
    · exact RNext_amp t a w (by omega) h2
    · obtain ⟨r, rfl⟩ := List.isPrefixOf_iff_prefix.1 h2
      simp at hz
      exact RNx_hash r a w (by omega)
end Go.Proofs.YtdllcnifkiebjaaDoor
