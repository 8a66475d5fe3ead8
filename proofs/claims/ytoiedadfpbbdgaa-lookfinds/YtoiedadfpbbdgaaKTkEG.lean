/- Texts laid as one. -/
import Derived.Test.YtoiedadfpbbdgaaKTkCM
/- A token in memory; the contract of a reader's tag. -/
set_option linter.unusedVariables false
set_option linter.unusedSimpArgs false
namespace Go.Proofs.Ytoiedadfpbbdgaa
open Go.RowKit
abbrev kCells (k : Int) (n : List UInt8) (v : Value) (s : Bool) (x : List UInt8) : Array Value := #[.int .i64 k, .string (str n), v, .bool s, .string (str x)]
abbrev kCells0 : Array Value := #[.int .i64 0, .string ByteArray.empty, .slice none 0 0, .bool false, .string ByteArray.empty]
theorem Kept.belowB {b B : Nat} {w W W' : World} (h : Kept b w W) (h2 : Below B W W') (hB : w.heap.size ≤ B) : Kept b w W' :=
  ⟨h2.os.trans h.os, h2.tape.trans h.tape, h2.output.trans h.output, Nat.le_trans h.size h2.size, fun k hk hb => (h2.block k (by omega)).trans (h.block k hk hb)⟩
/-- A token as a value. -/
abbrev tokV (k : Tk.Tok) (u : Value) : Value := .agg #[.int .i64 k.kind, .string (str k.name), u, .bool k.self, .string (str k.text)]
/-- What tag answers, and leaves. -/
def tagP (l : List UInt8) : Tk.Tok × List UInt8 := match Tk.tag l with
  | none => (Tk.zero, [])
  | some x => x
end Go.Proofs.Ytoiedadfpbbdgaa
/- The contract of a reader's tag. -/
namespace Go.Proofs.Ytoiedadfpbbdgaa
open Go.RowKit
theorem OwnsPairs.mono {t : TypeId} {w : World} {B C : Nat} {v : Value} {ps : List Pr} (h : OwnsPairs t w C v ps) (hb : B ≤ C) : OwnsPairs t w B v ps := by
  refine ⟨h.1, ?_⟩
  rcases h.2 with h0 | ⟨g, cap, cur, hv, h1, hc⟩
  · exact .inl h0
  · exact .inr ⟨g, cap, cur, hv, Nat.le_trans hb h1, hc⟩
end Go.Proofs.Ytoiedadfpbbdgaa
/- The contracts of a reader's start and end. -/
namespace Go.Proofs.Ytoiedadfpbbdgaa
open Go.RowKit
end Go.Proofs.Ytoiedadfpbbdgaa
