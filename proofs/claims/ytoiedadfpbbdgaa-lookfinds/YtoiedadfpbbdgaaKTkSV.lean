/- Texts laid as one. -/
import Derived.Test.YtoiedadfpbbdgaaKTkQR
import Derived.Test.YtoiedadfpbbdgaaKRfLT
import Derived.Test.YtoiedadfpbbdgaaKTkEG
import Derived.Deep.QuietTactic
import Derived.BigQuiet
import Derived.WalkSmall
import Derived.Deep.MidRow
/- The contract of token.All. -/
set_option linter.unusedVariables false
set_option linter.unusedSimpArgs false
namespace Go.Proofs.Ytoiedadfpbbdgaa
open Go.RowKit
/-- What All answers. -/
def allR (s : List UInt8) : List Tk.Tok × Nat := if 65536 < s.length ∨ 16384 < (Tk.all (Tk.clean s)).length then ([], 5) else (Tk.all (Tk.clean s), 0)
theorem clean_len3 (s : List UInt8) : (Tk.clean s).length ≤ 9 * s.length := Tk.clean_len s
theorem grown_kept {w w' : World} {r : Option Nat} (h : w.grownBy w' r) {k : Nat} {o : Obj} (hk : w.heap[k]? = some o) (hr : some k ≠ r) : w'.heap[k]? = some o := (h.block k (Array.getElem?_eq_some_iff.1 hk).1 hr).trans hk
end Go.Proofs.Ytoiedadfpbbdgaa
/- The contracts of token.Same and of the reference's Same. -/
namespace Go.Proofs.Ytoiedadfpbbdgaa
open Go.RowKit
/-- A token's value, of any kind. -/
abbrev tokI (k : Int) (n : List UInt8) (v : Value) (s : Bool) (x : List UInt8) : Value := .agg (kCells k n v s x)
theorem ne_of_beq {a b : Int} (h : (a == b) = false) : (a != b) = true := by unfold bne; rw [h]; rfl
theorem eq_of_beq' {a b : Int} (h : (a == b) = true) : (a != b) = false := by unfold bne; rw [h]; rfl
end Go.Proofs.Ytoiedadfpbbdgaa
/- The contracts of the laws' own alive and long (layer 12). -/
namespace Tk
open Asc
end Tk
namespace Go.Proofs.Ytoiedadfpbbdgaa
open Go.RowKit
end Go.Proofs.Ytoiedadfpbbdgaa
