/- Texts laid as one. -/
import Derived.Test.YtoiedadfpbbdgaaKTkCM
/- A token in memory; the contract of a reader's tag. -/
set_option linter.unusedVariables false
set_option linter.unusedSimpArgs false
namespace Go.Proofs.Ytoiedadfpbbdgaa
open Go.RowKit
abbrev kCells (k : Int) (n : List UInt8) (v : Value) (s : Bool) (x : List UInt8) : Array Value := #[.int .i64 k, .string (str n), v, .bool s, .string (str x)]
abbrev kCells0 : Array Value := #[.int .i64 0, .string ByteArray.empty, .slice none 0 0, .bool false, .string ByteArray.empty]
theorem Kept.belowB {b B : Nat} {w W W' : World} (h : Kept b w W) (h2 : Below B W W') (hB : w.heap.size ≤ B) : Kept b w W' :=
  ⟨h2.os.trans h.os, h2.tape.trans h.tape, h2.output.trans h.output, Nat.le_trans h.size h2.size, fun k hk hb => (h2.block k (by omega)).trans (h.block k hk hb)⟩
/-- A token as a value. -/
abbrev tokV (k : Tk.Tok) (u : Value) : Value := .agg #[.int .i64 k.kind, .string (str k.name), u, .bool k.self, .string (str k.text)]
/-- How much a reader has left. -/
def leftT (b : Nat) (w : World) : Nat := match w.cell? ⟨b, 0, none⟩ with
  | some (.string s) => s.size
  | _ => 0
/-- What tag answers, and leaves. -/
def tagP (l : List UInt8) : Tk.Tok × List UInt8 := match Tk.tag l with
  | none => (Tk.zero, [])
  | some x => x
end Go.Proofs.Ytoiedadfpbbdgaa
/- The contract of a reader's tag. -/
set_option linter.unusedVariables false
set_option linter.unusedSimpArgs false
namespace Go.Proofs.Ytoiedadfpbbdgaa
open Go.RowKit
theorem OwnsPairs.mono {t : TypeId} {w : World} {B C : Nat} {v : Value} {ps : List Pr} (h : OwnsPairs t w C v ps) (hb : B ≤ C) : OwnsPairs t w B v ps := by
  refine ⟨h.1, ?_⟩
  rcases h.2 with h0 | ⟨g, cap, cur, hv, h1, hc⟩
  · exact .inl h0
  · exact .inr ⟨g, cap, cur, hv, Nat.le_trans hb h1, hc⟩
theorem end_cases (r : List UInt8) : (∃ t, r = [62] ++ t) ∨ (r = []) ∨ ∃ c t, r = c :: t ∧ [62].isPrefixOf r = false ∧ c ≠ 62 := by
  rcases one_cases 62 r with h | h
  · exact .inl h
  · cases r with
    | nil => exact .inr (.inl rfl)
    | cons c t => exact .inr (.inr ⟨c, t, rfl, h, not_one 62 t c h⟩)
theorem drop_gp (c : UInt8) (t : List UInt8) : ∀ l : List UInt8, l.dropWhile gp = c :: t → gp c = false
  | [], h => by cases h
  | x :: l, h => by
    cases hx : gp x
    · rw [List.dropWhile_cons, hx] at h
      cases h
      exact hx
    · rw [List.dropWhile_cons, hx] at h
      exact drop_gp c t l h
end Go.Proofs.Ytoiedadfpbbdgaa
/- The contracts of a reader's start and end. -/
set_option linter.unusedVariables false
set_option linter.unusedSimpArgs false
namespace Go.Proofs.Ytoiedadfpbbdgaa
open Go.RowKit
/-- The name that is ahead behind a start tag. -/
def aheadP (k : Tk.Tok) (a : List UInt8) : List UInt8 := if Tk.isRaw k.name = true then k.name else a
theorem tagP_kind (l : List UInt8) : tagP l = (Tk.zero, []) ∨ (tagP l).1.kind = 1 := by
  unfold tagP Tk.tag
  cases Tk.tg (l.dropWhile Tk.tn) [] false with
  | none => exact .inl rfl
  | some x => exact .inr rfl
/-- What end answers, and leaves. -/
def endP (x : Tk.Tok × List UInt8) : Tk.Tok × List UInt8 := if x.1.kind = 0 then (Tk.zero, []) else (⟨2, x.1.name, [], false, []⟩, x.2)
end Go.Proofs.Ytoiedadfpbbdgaa
