/- What a law's walk is told of a slice of texts that came in (over Base). -/
import Derived.Test.YtoiedadfpbbdgaaKArgDoc
import Derived.SliceStrings
import Derived.SizedLaws
namespace Go.Proofs.Ytoiedadfpbbdgaa
open Go.RowKit Go.ChangeShapes
/-- A slice of texts that came in: it reads as these texts, within the form's reach. -/
def ArgTexts (w : World) (a : Option Addr) (len cap : Nat) (ts : List (List UInt8)) : Prop :=
  len = ts.length ∧ len ≤ cap ∧ len ≤ maxLen ∧ ReadsTexts w (.slice a len cap) ts ∧ ∀ t ∈ ts, t.length ≤ 140737488351232
theorem weights_strs {H : Type} (P : Program) (e : TypeId) (ss : List ByteArray) (s : ByteArray) (h : s ∈ ss) : s.data.toList.length ∈ DataW.weightsAll (H := H) P e (Go.ChangeShapes.strs ss) := by
  induction ss with
  | nil => cases h
  | cons x r ih =>
    unfold Go.ChangeShapes.strs at *
    rw [List.map_cons, DataW.weightsAll, List.mem_append]
    rcases List.mem_cons.1 h with rfl | h
    · left
      simp [DataW.weights]
    · exact .inr (ih h)
theorem arg_texts {H : Type} {enc : TypeId × Value → H} {W : World} {a : Option Addr} {len cap : Nat} {d : DataW H} {ps : List MemPlace} {base : Nat} {sp : Nat → Bool} {held : Bool}
    (h : DataW.Trod enc Try.prog W base sp held 31 (.slice a len cap) d ps) (hw : ∀ n ∈ d.weights Try.prog 31, n ≤ reachBytes) : ∃ ts, ArgTexts W a len cap ts := by
  obtain ⟨fuel, hf⟩ := h
  rcases open_strings Try.underlying31 Try.underlying9 (by kernel_rfl) hf with ⟨hcs, _⟩ | ⟨x, l, c, ss, hcs, _, hl, hm, hz, hx, hcell, _⟩
  · simp [Value.cells] at hcs
    obtain ⟨rfl, rfl, rfl⟩ := hcs
    exact ⟨[], rfl, Nat.le_refl _, Nat.zero_le _, .inl ⟨_, _, rfl, rfl⟩, by simp⟩
  · simp [Value.cells] at hcs
    obtain ⟨rfl, rfl, rfl⟩ := hcs
    have hlen : len ≤ ss.length := by rw [hz]; split <;> omega
    have htl : ((ss.take len).map (·.data.toList)).length = len := by rw [List.length_map, List.length_take]; omega
    refine ⟨(ss.take len).map (·.data.toList), htl.symm, hl, by omega, ?_, ?_⟩
    · by_cases h0 : len = 0
      · subst h0
        exact .inl ⟨_, _, rfl, rfl⟩
      · obtain ⟨b, off, spot⟩ := x
        have hspot : spot = none := by simpa [Addr.add] using World.cell?_spot (hcell 0 (by omega))
        subst hspot
        refine .inr ⟨b, off, cap, by rw [htl], by rw [htl]; exact hl, fun j t hj => ?_⟩
        rw [List.getElem?_map] at hj
        have hjl : j < len := by
          rcases Nat.lt_or_ge j len with h | h
          · exact h
          · rw [List.getElem?_eq_none (by rw [List.length_take]; omega)] at hj
            cases hj
        rw [List.getElem?_take, if_pos hjl, List.getElem?_eq_getElem (show j < ss.length by omega)] at hj
        simp only [Option.map_some, Option.some.injEq] at hj
        subst hj
        have := hcell j (by omega)
        rw [Go.WideShapes.add_plain] at this
        rw [this, strV_data, List.getD_eq_getElem?_getD, List.getElem?_eq_getElem (show j < ss.length by omega)]
        rfl
    · intro t ht
      obtain ⟨s, hs, rfl⟩ := List.mem_map.1 ht
      have hd : d = .slice (Go.ChangeShapes.strs (ss.take len)) (Go.ChangeShapes.strs (ss.drop len)) := congrArg Prod.fst hx
      subst hd
      apply hw
      simp only [DataW.weights, Try.underlying31, List.mem_cons, List.mem_append]
      exact .inr (.inl (weights_strs _ _ _ _ hs))
end Go.Proofs.Ytoiedadfpbbdgaa
