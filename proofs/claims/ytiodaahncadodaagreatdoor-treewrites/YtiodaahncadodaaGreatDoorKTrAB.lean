/- Texts laid as one. -/
import Derived.Test.YtiodaahncadodaaGreatDoorKTkSV
import Derived.Test.YtiodaahncadodaaGreatDoorKTkIJ
/- The contracts of the reference's Same, and of the law's ours and theirs. -/
set_option linter.unusedVariables false
set_option linter.unusedSimpArgs false
namespace Go.Proofs.YtiodaahncadodaaGreatDoor
open Go.RowKit
/-- The reference's token at a block. -/
def RAt12 (w : World) (b : Nat) (cs : Array Value) : Prop := w.heap[b]? = some (.cells cs 48 (0, 0))
theorem RAt12.lt {w : World} {b : Nat} {cs : Array Value} (h : RAt12 w b cs) : b < w.heap.size := (Array.getElem?_eq_some_iff.1 h).1
theorem RAt12.step {w w' : World} {b : Nat} {cs : Array Value} (h : RAt12 w b cs) (hb : Below w.heap.size w w') : RAt12 w' b cs := (hb.block _ h.lt).trans h
theorem RAt12.kept {w w' : World} {b c : Nat} {cs : Array Value} (h : RAt12 w b cs) (hk : Kept c w w') (hb : b ≠ c) : RAt12 w' b cs := hk.heap h hb
theorem RAt12.belowB {w w' : World} {b B : Nat} {cs : Array Value} (h : RAt12 w b cs) (hb : Below B w w') (hB : b < B) : RAt12 w' b cs := (hb.block _ hB).trans h
end Go.Proofs.YtiodaahncadodaaGreatDoor
