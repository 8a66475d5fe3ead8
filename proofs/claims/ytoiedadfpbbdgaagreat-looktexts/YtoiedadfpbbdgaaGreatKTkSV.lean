/- Texts laid as one. -/
import Derived.Test.YtoiedadfpbbdgaaGreatKTkQR
import Derived.Test.YtoiedadfpbbdgaaGreatKRfLT
import Derived.Test.YtoiedadfpbbdgaaGreatKTkEG
import Derived.Deep.QuietTactic
import Derived.BigQuiet
import Derived.WalkSmall
import Derived.Deep.MidRow
/- The contract of token.All. -/
set_option linter.unusedVariables false
set_option linter.unusedSimpArgs false
namespace Go.Proofs.YtoiedadfpbbdgaaGreat
open Go.RowKit
/-- What All answers. -/
def allR (s : List UInt8) : List Tk.Tok × Nat := if 65536 < s.length ∨ 16384 < (Tk.all (Tk.clean s)).length then ([], 5) else (Tk.all (Tk.clean s), 0)
theorem clean_len3 (s : List UInt8) : (Tk.clean s).length ≤ 9 * s.length := Tk.clean_len s
theorem grown_kept {w w' : World} {r : Option Nat} (h : w.grownBy w' r) {k : Nat} {o : Obj} (hk : w.heap[k]? = some o) (hr : some k ≠ r) : w'.heap[k]? = some o := (h.block k (Array.getElem?_eq_some_iff.1 hk).1 hr).trans hk
end Go.Proofs.YtoiedadfpbbdgaaGreat
/- The contracts of token.Same and of the reference's Same. -/
namespace Go.Proofs.YtoiedadfpbbdgaaGreat
open Go.RowKit
/-- A token's value, of any kind. -/
abbrev tokI (k : Int) (n : List UInt8) (v : Value) (s : Bool) (x : List UInt8) : Value := .agg (kCells k n v s x)
theorem ne_of_beq {a b : Int} (h : (a == b) = false) : (a != b) = true := by unfold bne; rw [h]; rfl
theorem eq_of_beq' {a b : Int} (h : (a == b) = true) : (a != b) = false := by unfold bne; rw [h]; rfl
end Go.Proofs.YtoiedadfpbbdgaaGreat
/- The contracts of the laws' own alive and long (layer 12). -/
namespace Tk
open Asc
end Tk
namespace Go.Proofs.YtoiedadfpbbdgaaGreat
open Go.RowKit
theorem KR.range {w : World} {B : Nat} {a : Option Addr} {n c : Nat} {ks : List Tk.Tok} (h : KR w B (.slice a n c) ks) {j : Nat} {k : Tk.Tok} (hj : ks[j]? = some k) :
    ∃ g ua ul uc, a = some ⟨g, 0, none⟩ ∧ g < w.heap.size ∧ n ≤ c ∧ w.rangeAt g (j * 5) [.int .i64 k.kind, .string (str k.name), .slice ua ul uc, .bool k.self, .string (str k.text)] ∧ OwnsA w B (.slice ua ul uc) k.attrs := by
  obtain ⟨g, u, ha, hB, hg, hc, c0, c1, c2, c3, c4, ho⟩ := h.at hj
  obtain ⟨ua, uc, rfl⟩ := ho.reads.form
  refine ⟨g, ua, _, uc, ha, hg, hc, ?_, ho⟩
  intro i v hi
  rcases i with _ | _ | _ | _ | _ | i
  · cases hi; exact c0
  · cases hi; exact c1
  · cases hi; exact c2
  · cases hi; exact c3
  · cases hi; exact c4
  · simp at hi
end Go.Proofs.YtoiedadfpbbdgaaGreat
