/- Texts laid as one. -/
import Derived.Test.YtoiedadfpbbdgaaKTkIJ
import Derived.Test.YtoiedadfpbbdgaaKURepair
import Derived.Maps.AppendAt
/- The contract of token.Clean: three replacements are one. -/
set_option linter.unusedVariables false
set_option linter.unusedSimpArgs false
namespace Tk
open Go
/-- The three replacements. -/
def r1 (l : List UInt8) : List UInt8 := Lib.replaceAll l [13, 10] [10]
def r2 (l : List UInt8) : List UInt8 := Lib.replaceAll l [13] [10]
def r3 (l : List UInt8) : List UInt8 := Lib.replaceAll l [0] [239, 191, 189]
end Tk
namespace Go.Proofs.Ytoiedadfpbbdgaa
open Go.RowKit
end Go.Proofs.Ytoiedadfpbbdgaa
/- Rows of tokens of one's own, each with a row of attributes of its own; one further token is laid behind them. -/
namespace Go.Proofs.Ytoiedadfpbbdgaa
open Go.RowKit
theorem row_keepK {w w' : World} {B : Nat} {e : TypeId} {s n : Nat} {v : Value} {xs : List Value} (h : w.ownsRow B e s v n xs) (hk : ∀ k, v.ownBlock = some k → k < w.heap.size → w'.heap[k]? = w.heap[k]?) : w'.ownsRow B e s v n xs := by
  refine ⟨h.1, ?_⟩
  rcases h.2 with hn | ⟨g, cap, cur, rfl, hb, hgg, rest⟩
  · exact .inl hn
  · exact .inr ⟨g, cap, cur, rfl, hb, by rw [hk g rfl (Array.getElem?_eq_some_iff.1 hgg).1]; exact hgg, rest⟩
theorem row_mono {w : World} {B C : Nat} {e : TypeId} {s n : Nat} {v : Value} {xs : List Value} (h : w.ownsRow C e s v n xs) (hb : B ≤ C) : w.ownsRow B e s v n xs := by
  refine ⟨h.1, ?_⟩
  rcases h.2 with h0 | ⟨g, cap, cur, hv, h1, hc⟩
  · exact .inl h0
  · exact .inr ⟨g, cap, cur, hv, Nat.le_trans hb h1, hc⟩
/-- Two slices have no block in common. -/
def ApK (x v : Value) : Prop := ∀ k, x.ownBlock = some k → v.ownBlock = some k → False
abbrev TV := Tk.Tok × Value
def tokCells (ps : List TV) : List Value := ps.flatMap fun p => [.int .i64 p.1.kind, .string (str p.1.name), p.2, .bool p.1.self, .string (str p.1.text)]
theorem tokCells_snoc (ps : List TV) (p : TV) : tokCells (ps ++ [p]) = tokCells ps ++ [.int .i64 p.1.kind, .string (str p.1.name), p.2, .bool p.1.self, .string (str p.1.text)] := by simp [tokCells]
theorem tokCells_at : ∀ (ps : List TV) (j : Nat) (p : TV), ps[j]? = some p → (tokCells ps)[j * 5]? = some (.int .i64 p.1.kind) ∧ (tokCells ps)[j * 5 + 1]? = some (.string (str p.1.name)) ∧ (tokCells ps)[j * 5 + 2]? = some p.2 ∧ (tokCells ps)[j * 5 + 3]? = some (.bool p.1.self) ∧ (tokCells ps)[j * 5 + 4]? = some (.string (str p.1.text))
  | [], j, p, h => by simp at h
  | q :: ps, 0, p, h => by
    simp at h
    subst h
    exact ⟨rfl, rfl, rfl, rfl, rfl⟩
  | q :: ps, j + 1, p, h => by
    have := tokCells_at ps j p (by simpa using h)
    have e : tokCells (q :: ps) = .int .i64 q.1.kind :: .string (str q.1.name) :: q.2 :: .bool q.1.self :: .string (str q.1.text) :: tokCells ps := rfl
    rw [e, show (j + 1) * 5 = j * 5 + 1 + 1 + 1 + 1 + 1 from by omega]
    simpa using this
theorem OwnsPairs.slice {t : TypeId} {w : World} {B : Nat} {v : Value} {ps : List Pr} (h : OwnsPairs t w B v ps) : v.oneCell' = true := by
  obtain ⟨a, c, rfl⟩ := h.reads.form
  rfl
theorem cell_five_new (w : World) (x0 x1 x2 x3 x4 : Value) (t : TypeId) : ∀ (j : Nat) (u : Value), [x0, x1, x2, x3, x4][j]? = some u → (w.alloc (.cells #[x0, x1, x2, x3, x4] t)).cell? ((⟨w.heap.size, 0, none⟩ : Addr).add j) = some u := by
  intro j u hj
  have hh := heap_new w (.cells #[x0, x1, x2, x3, x4] t)
  rw [add_addr, Nat.zero_add, Lib.cell_of_heap hh]
  rcases j with _ | _ | _ | _ | _ | j
  · exact hj
  · exact hj
  · exact hj
  · exact hj
  · exact hj
  · simp at hj
end Go.Proofs.Ytoiedadfpbbdgaa
