/- What a law's walk is told of keys that came in. -/
import Derived.Test.YtfjgmejobldjoaaDoorKArgV
set_option linter.unusedVariables false
namespace Go.Proofs.YtfjgmejobldjoaaDoor
open Go.RowKit Go.ChangeShapes Go.WideShapes
/-- Keys that came in. -/
def ArgK (w : World) (v : Value) (ks : List (List UInt8)) : Prop := RTs (fun _ => True) w ks v ∧ ks.length ≤ 140737488351232
theorem arg_K {H : Type} {enc : TypeId × Value → H} {W : World} {v : Value} {d : DataW H} {ps : List MemPlace} {base : Nat} {sp : Nat → Bool} {held : Bool} (hv : ∃ a n c, v = .slice a n c)
    (h : DataW.Trod enc Tryd.prog W base sp held 22 v d ps) (hw : ∀ n ∈ d.weights Tryd.prog 22, n ≤ reachBytes) : ∃ ks, ArgK W v ks := by
  obtain ⟨fuel, hf⟩ := h
  obtain ⟨a, n, c, rfl⟩ := hv
  obtain ⟨ks, h1, h2, _⟩ := keys_in (x := (d, ps)) (by simpa [Value.cells] using hf) hw
  exact ⟨ks, h1, h2⟩
end Go.Proofs.YtfjgmejobldjoaaDoor
