/- Texts laid as one. -/
import Derived.Test.YtoiedadfpbbdgaaKRfGK
import Derived.Test.YtoiedadfpbbdgaaKTkIJ
import Derived.Deep.RegionHeldLaw
/- Contracts of refs.encoded and refs.Encode. -/
set_option linter.unusedVariables false
set_option linter.unusedSimpArgs false
namespace Go.Proofs.Ytoiedadfpbbdgaa
open Go.RowKit
end Go.Proofs.Ytoiedadfpbbdgaa
/- The contracts of token.startTag and token.Tag. -/
namespace Go.Proofs.Ytoiedadfpbbdgaa
open Go.RowKit
/-- A builder at b with these bytes. -/
def Bd (b : Nat) (acc : List UInt8) (w : World) : Prop := Lib.IsBuilderF 92 5 b b (Lib.byteCells acc) w
theorem Bd.fresh (w : World) : Bd w.heap.size [] (w.alloc (.cells #[.pointer none, .slice none 0 0] 92)) := Lib.IsBuilderF.of (Lib.fresh_isBuilder 92 5 w)
theorem Bd.below {b : Nat} {acc : List UInt8} {w w' : World} (h : Bd b acc w) (hb : Below w.heap.size w w') : Bd b acc w' := by
  rcases h with h | h
  · exact .inl (builder_below h hb)
  · exact .inr (builder_below h hb)
theorem Bd.lt {b : Nat} {acc : List UInt8} {w : World} (h : Bd b acc w) : b < w.heap.size := by
  rcases h with ⟨_, v, hb, _⟩ | ⟨_, v, hb, _⟩
  · exact (Array.getElem?_eq_some_iff.1 hb).1
  · exact (Array.getElem?_eq_some_iff.1 hb).1
theorem strCells_str (s : List UInt8) : Lib.strCells (str s) = Lib.byteCells s := by
  rw [← str_data s]
  rfl
theorem kind_no {k : Nat} {m : Nat} (h : k ≠ m) : ((k : Int) == (m : Int)) = false := by
  rw [beq_eq_false_iff_ne]
  omega
end Go.Proofs.Ytoiedadfpbbdgaa
