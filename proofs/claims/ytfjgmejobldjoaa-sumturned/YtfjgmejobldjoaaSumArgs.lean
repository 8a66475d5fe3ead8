/- Bytes, and rows of bytes, that come in as arguments. -/
import Derived.Test.YtfjgmejobldjoaaSumE
import Derived.Deep.Slices
import Derived.SizedLaws
import Derived.SliceStrings
import Derived.OpenShut
set_option linter.unusedVariables false
namespace Go.Proofs.Ytfjgmejobldjoaa
open Go.RowKit Go.ChangeShapes
/-- Bytes that came in. -/
def ArgB (w : World) (v : Value) (l : List UInt8) : Prop := RB w v l ∧ l.length ≤ maxLen
/-- Rows of bytes that came in. -/
def ArgBB (w : World) (v : Value) (ls : List (List UInt8)) : Prop := RBs w v ls ∧ ls.length ≤ maxLen ∧ ∀ l ∈ ls, l.length ≤ maxLen
theorem cellsU : Try.prog.cellsOf 5 = 1 := by kernel_rfl
theorem bytes_in {H : Type} {enc : TypeId × Value → H} {W : World} {base : Nat} {sp : Nat → Bool} {held : Bool} {fuel : Nat} {v : Value} {x : DataW H × List MemPlace}
    (h : DataW.trod enc Try.prog W base sp held fuel 22 [v] = some x) : ∃ l, ArgB W v l := by
  rcases Go.Deep.open_slice1 Try.underlying22 cellsU h with ⟨hv, _⟩ | ⟨a, len, cap, m, n, V, D, Pl, hv, _, hl, hm, hmm, hx, hcell⟩
  · cases hv
    exact ⟨[], ReadsCells.nil _, Nat.zero_le _⟩
  · cases hv
    have hlm : len ≤ m := by rw [hmm]; split <;> omega
    obtain ⟨S, hS⟩ := Go.Deep.choose_lt (α := UInt8) (n := len) (p := fun i s => W.cell? (a.add i) = some (.int .u8 (s.toNat : Int))) (fun i hi => by
      obtain ⟨c1, c2⟩ := hcell i (by omega)
      obtain ⟨s, e1, e2, hwf⟩ := DataW.trod_int Try.underlying5 c2
      rw [List.cons.inj e1 |>.1] at c1
      have hb : 0 ≤ s ∧ s ≤ 255 := by
        simp only [Lit.wf, Bool.and_eq_true, decide_eq_true_eq] at hwf
        exact hwf
      refine ⟨UInt8.ofNat s.toNat, ?_⟩
      rw [c1]
      have : (UInt8.ofNat s.toNat).toNat = s.toNat := by simp; omega
      rw [this]
      congr 2
      omega)
    have htl : ((List.range len).map S).length = len := by simp
    refine ⟨(List.range len).map S, ?_, by rw [htl]; omega⟩
    by_cases h0 : len = 0
    · subst h0
      exact .inl ⟨_, _, rfl, rfl, fun e => by cases e⟩
    · obtain ⟨b, off, spot⟩ := a
      have hspot : spot = none := by simpa [Addr.add] using World.cell?_spot (hS 0 (by omega))
      subst hspot
      refine .inr ⟨b, off, cap, by rw [cellsB_length, htl], by rw [cellsB_length, htl]; exact hl, fun j t hj => ?_⟩
      have hjl : j < len := by
        rcases Nat.lt_or_ge j len with h | h
        · exact h
        · rw [List.getElem?_eq_none (by rw [cellsB_length, htl]; exact h)] at hj
          cases hj
      rw [cellsB_at _ j (by rw [htl]; exact hjl)] at hj
      simp only [Option.some.injEq] at hj
      subst hj
      have := hS j hjl
      rw [add_addr] at this
      rw [this]
      simp
theorem arg_B {H : Type} {enc : TypeId × Value → H} {W : World} {v : Value} {d : DataW H} {ps : List MemPlace} {base : Nat} {sp : Nat → Bool} {held : Bool} (hv : ∃ a n c, v = .slice a n c)
    (h : DataW.Trod enc Try.prog W base sp held 22 v d ps) : ∃ l, ArgB W v l := by
  obtain ⟨fuel, hf⟩ := h
  obtain ⟨a, n, c, rfl⟩ := hv
  exact bytes_in (by simpa [Value.cells] using hf)
end Go.Proofs.Ytfjgmejobldjoaa
