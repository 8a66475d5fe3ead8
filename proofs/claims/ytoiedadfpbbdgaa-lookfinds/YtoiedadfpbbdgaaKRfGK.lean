/- Texts laid as one. -/
import Derived.Test.YtoiedadfpbbdgaaKRfEF
import Derived.Test.YtoiedadfpbbdgaaKRfM
import Derived.Test.YtoiedadfpbbdgaaKUBY
import Derived.Test.YtoiedadfpbbdgaaKURepair
import Derived.Lib.Bytealg
import Derived.Lib.Replace
import Derived.Lib.Strings
/- The contract of refs.number. -/
set_option linter.unusedVariables false
set_option linter.unusedSimpArgs false
namespace Go.Proofs.Ytoiedadfpbbdgaa
open Go.RowKit
end Go.Proofs.Ytoiedadfpbbdgaa
/- Contracts of refs.wholeName, shortName and Next. -/
namespace Go.Proofs.Ytoiedadfpbbdgaa
open Go.RowKit
end Go.Proofs.Ytoiedadfpbbdgaa
/- The contract of refs.Next. -/
namespace Go.Proofs.Ytoiedadfpbbdgaa
open Go.RowKit
def nxV (r : Int × Nat × Bool) : Value := .tuple #[.int .i32 r.1, .int .i64 r.2.1, .bool r.2.2]
end Go.Proofs.Ytoiedadfpbbdgaa
/- Contracts of a builder's Write, and of refs.Decode. -/
namespace Go.Proofs.Ytoiedadfpbbdgaa
open Go.RowKit
theorem builder_keep {T e : TypeId} {B b : Nat} {p : Value} {bs : List Value} {w w' : World} (h : Lib.BuilderAtF T e B b p bs w) (hk : ∀ k, k < w.heap.size → w'.heap[k]? = w.heap[k]?) : Lib.BuilderAtF T e B b p bs w' := by
  obtain ⟨hB, v, hb, hown, hne⟩ := h
  have hlt : b < w.heap.size := (Array.getElem?_eq_some_iff.1 hb).1
  refine ⟨hB, v, (hk b hlt).trans hb, ?_, hne⟩
  refine ⟨hown.1, ?_⟩
  rcases hown.2 with h0 | ⟨g, cap, cur, fz, hv, hB2, hg, rest⟩
  · exact .inl h0
  · exact .inr ⟨g, cap, cur, fz, hv, hB2, (hk g (Array.getElem?_eq_some_iff.1 hg).1).trans hg, rest⟩
theorem builder_below {T e : TypeId} {B b : Nat} {p : Value} {bs : List Value} {w w' : World} (h : Lib.BuilderAtF T e B b p bs w) (hb : Below w.heap.size w w') : Lib.BuilderAtF T e B b p bs w' :=
  builder_keep h fun k hk => hb.block k hk
end Go.Proofs.Ytoiedadfpbbdgaa
/- The contract of refs.Decode. -/
namespace Go.Proofs.Ytoiedadfpbbdgaa
open Go.RowKit
def textLen : Value → Nat
  | .string s => s.size
  | _ => 0
end Go.Proofs.Ytoiedadfpbbdgaa
