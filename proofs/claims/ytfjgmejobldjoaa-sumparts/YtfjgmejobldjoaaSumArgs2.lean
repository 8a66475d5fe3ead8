/- Rows of bytes that come in as arguments. -/
import Derived.Test.YtfjgmejobldjoaaSumArgs
set_option linter.unusedVariables false
namespace Go.Proofs.Ytfjgmejobldjoaa
open Go.RowKit Go.ChangeShapes
theorem cellsUU : Try.prog.cellsOf 22 = 1 := by kernel_rfl
theorem rows_in {H : Type} {enc : TypeId × Value → H} {W : World} {base : Nat} {sp : Nat → Bool} {held : Bool} {fuel : Nat} {v : Value} {x : DataW H × List MemPlace}
    (h : DataW.trod enc Try.prog W base sp held fuel 37 [v] = some x) : ∃ ls, ArgBB W v ls := by
  rcases Go.Deep.open_slice1 Try.underlying37 cellsUU h with ⟨hv, _⟩ | ⟨a, len, cap, m, n, V, D, Pl, hv, _, hl, hm, hmm, hx, hcell⟩
  · cases hv
    exact ⟨[], .inl ⟨_, _, rfl, rfl⟩, Nat.zero_le _, by simp⟩
  · cases hv
    have hlm : len ≤ m := by rw [hmm]; split <;> omega
    obtain ⟨S, hS⟩ := Go.Deep.choose_lt (α := List UInt8) (n := len) (p := fun i s => ∃ x, W.cell? (a.add i) = some x ∧ ArgB W x s) (fun i hi => by
      obtain ⟨c1, c2⟩ := hcell i (by omega)
      obtain ⟨l, hl⟩ := bytes_in c2
      exact ⟨l, _, c1, hl⟩)
    have htl : ((List.range len).map S).length = len := by simp
    refine ⟨(List.range len).map S, ?_, by rw [htl]; omega, ?_⟩
    · by_cases h0 : len = 0
      · subst h0
        exact .inl ⟨_, _, rfl, rfl⟩
      · obtain ⟨b, off, spot⟩ := a
        obtain ⟨x0, hx0, _⟩ := hS 0 (by omega)
        have hspot : spot = none := by simpa [Addr.add] using World.cell?_spot hx0
        subst hspot
        refine .inr ⟨b, off, cap, by rw [htl], by rw [htl]; exact hl, fun j t hj => ?_⟩
        have hjl : j < len := by
          rcases Nat.lt_or_ge j len with h | h
          · exact h
          · rw [List.getElem?_eq_none (by rw [htl]; exact h)] at hj
            cases hj
        rw [List.getElem?_map, List.getElem?_range hjl] at hj
        simp only [Option.map_some, Option.some.injEq] at hj
        subst hj
        obtain ⟨x, h1, h2⟩ := hS j hjl
        rw [add_addr] at h1
        exact ⟨x, h1, h2.1⟩
    · intro l hl
      obtain ⟨i, hi, rfl⟩ := List.mem_map.1 hl
      obtain ⟨x, _, h2⟩ := hS i (List.mem_range.1 hi)
      exact h2.2
theorem arg_BB {H : Type} {enc : TypeId × Value → H} {W : World} {v : Value} {d : DataW H} {ps : List MemPlace} {base : Nat} {sp : Nat → Bool} {held : Bool} (hv : ∃ a n c, v = .slice a n c)
    (h : DataW.Trod enc Try.prog W base sp held 37 v d ps) : ∃ ls, ArgBB W v ls := by
  obtain ⟨fuel, hf⟩ := h
  obtain ⟨a, n, c, rfl⟩ := hv
  exact rows_in (by simpa [Value.cells] using hf)
end Go.Proofs.Ytfjgmejobldjoaa
