/- The contracts of slices.Clone and slices.Index at keys. -/
import Derived.Test.YtfjgmejobldjoaaDoorKZG
set_option linter.unusedVariables false
set_option linter.unusedSimpArgs false
namespace Go.Proofs.YtfjgmejobldjoaaDoor
open Go.RowKit
theorem owns_RTs {w : World} {B : Nat} {v : Value} {ks : List (List UInt8)} (h : w.ownsRow B 9 1 v ks.length ((ks.map str).map Value.string)) : RTs (B ≤ ·) w ks v := by
  have h0 := h
  rcases h.2 with ⟨rfl, hz⟩ | ⟨g, cap, cur, rfl, hb, hg, hc, hr⟩
  · exact .inl ⟨_, _, rfl, List.eq_nil_of_length_eq_zero hz⟩
  · refine .inr ⟨g, 0, cap, hb, rfl, hc, (Array.getElem?_eq_some_iff.1 hg).1, fun j t hj => ?_⟩
    have hjl : j < ks.length := (List.getElem?_eq_some_iff.1 hj).1
    have := World.ownsRow.cellAt h0 j (by omega)
    rw [Nat.zero_add, this, List.getElem?_map, List.getElem?_map, hj]
    rfl
theorem Clone_any (ks : List (List UInt8)) (v : Value) (w : World) (h : RTs (fun _ => True) w ks v) (hl : ks.length ≤ 1000000000) :
    Calls Tryd.prog 20 #[v] w fun e w' => ∃ v', e = .returned v' ∧ RTs (w.heap.size ≤ ·) w' ks v' ∧ Below w.heap.size w w' := by
  rcases h with ⟨a, c, rfl, rfl⟩ | ⟨b, o, c, _, rfl, hc, hb, hcell⟩
  · cases a with
    | none =>
      refine (Tryd.slices_Clone_string_nil 0 c w).mono ?_
      rintro e w' ⟨rfl, rfl⟩
      exact ⟨_, rfl, .inl ⟨_, _, rfl, rfl⟩, Below.refl _ _⟩
    | some a =>
      refine (Tryd.slices_Clone_string_zero a c w).mono ?_
      rintro e w' ⟨v', rfl, ho, _, hB⟩
      exact ⟨_, rfl, owns_RTs (ks := []) ho, hB⟩
  · refine (Tryd.slices_Clone_string b o ks.length c (ks.map str) w (by simp) (by omega) (fun j hj => ?_)).mono ?_
    · rw [List.length_map] at hj
      rw [getD_str _ _ hj]
      exact hcell j _ (List.getElem?_eq_getElem hj)
    · rintro e w' ⟨v', rfl, ho, _, hB⟩
      rw [List.take_of_length_le (by simp)] at ho
      exact ⟨_, rfl, owns_RTs ho, hB⟩
theorem Index_any (ks : List (List UInt8)) (x : List UInt8) (v : Value) (w : World) (h : RTs (fun _ => True) w ks v) (hl : ks.length ≤ 1000000000) :
    Calls Tryd.prog 13 #[v, .string (str x)] w fun e w' => e = .returned (.int .i64 (Lib.idxOfS (ks.map str) (str x))) ∧ w' = w := by
  rcases h with ⟨a, c, rfl, rfl⟩ | ⟨b, o, c, _, rfl, hc, hb, hcell⟩
  · exact Tryd.slices_Index_string_empty a c (str x) w
  · refine (Tryd.slices_Index_string b o ks.length c (ks.map str) (str x) w (by simp) (by omega) (fun j hj => ?_)).mono ?_
    · rw [List.length_map] at hj
      rw [getD_str _ _ hj]
      exact hcell j _ (List.getElem?_eq_getElem hj)
    · rintro e w' ⟨rfl, rfl⟩
      rw [List.take_of_length_le (by simp)]
      exact ⟨rfl, rfl⟩
end Go.Proofs.YtfjgmejobldjoaaDoor
