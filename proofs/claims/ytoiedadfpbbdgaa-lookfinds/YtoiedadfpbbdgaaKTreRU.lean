/- Texts laid as one. -/
import Derived.Test.YtoiedadfpbbdgaaKTreOQ
import Derived.Test.YtoiedadfpbbdgaaKTkEG
/- The contract of a builder's start. -/
set_option linter.unusedVariables false
set_option linter.unusedSimpArgs false
namespace Go.Proofs.Ytoiedadfpbbdgaa
open Go.RowKit Go.Maps Go.WideMaps
theorem lay_err {b : Tre.St} {n : Nd} {k : Nat} (h : Tre.lay b n = .error k) : k = 5 ∨ k = 8 := by
  unfold Tre.lay at h
  split at h
  · cases h
    exact .inl rfl
  split at h
  · cases h
    exact .inr rfl
  · cases h
section
variable {w : World} {T : Nat → Prop} {bb mg : Nat} {nv ov : Value} {ps : List PN} {op : List Nat}
end
end Go.Proofs.Ytoiedadfpbbdgaa
/- The contract of a builder's add: a step. -/
namespace Go.Proofs.Ytoiedadfpbbdgaa
open Go.RowKit Go.Maps Go.WideMaps
section
variable {w : World} {T : Nat → Prop} {bb mg : Nat} {nv ov : Value} {ps : List PN} {op : List Nat}
end
end Go.Proofs.Ytoiedadfpbbdgaa
/- A new builder. -/
namespace Go.Proofs.Ytoiedadfpbbdgaa
open Go.RowKit Go.Maps Go.WideMaps
theorem sizeDoc13 : (Try.prog.info? 24).map (·.size) = some 1 := by kernel_rfl
theorem ret_D13 {fn : Func} {p q : Tmp} {Q : Ending → World → Prop} {a : Act} {w : World} {b : Nat} {x0 x : Value} (hr : fn.results = #[.cell p 24, .tmp q]) (hd : a.defers = []) (hp : a.tmps.getD p undef = .pointer (some ⟨b, 0, none⟩)) (hx : a.tmps.getD q undef = x) (h : w.heap[b]? = some (.cells #[x0] 24 (0, 0))) (hQ : Q (.returned (.tuple #[.agg #[x0], x])) w) :
    bodyPost Try.prog fn Q .ret a w := by
  have hl : (loadVar 24 ⟨b, 0, none⟩).run Try.prog w = .ok (.agg #[x0]) w := run_loadVar_row _ _ _ _ _ _ _ h Try.underlying24 rfl sizeDoc13
  refine bodyPost_ret (v := .tuple #[.agg #[x0], x]) ?_ hd hQ
  rw [results_cell_tmp hr, hp, hx]
  simp [asAddr, Result.andThen, hl]
end Go.Proofs.Ytoiedadfpbbdgaa
