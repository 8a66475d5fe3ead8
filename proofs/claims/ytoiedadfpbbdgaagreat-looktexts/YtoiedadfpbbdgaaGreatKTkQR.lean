/- Texts laid as one. -/
import Derived.Test.YtoiedadfpbbdgaaGreatKTkIJ
import Derived.Test.YtoiedadfpbbdgaaGreatKURepair
import Derived.Maps.AppendAt
/- The contract of token.Clean: three replacements are one. -/
set_option linter.unusedVariables false
set_option linter.unusedSimpArgs false
namespace Tk
open Go
/-- The three replacements. -/
def r1 (l : List UInt8) : List UInt8 := Lib.replaceAll l [13, 10] [10]
def r2 (l : List UInt8) : List UInt8 := Lib.replaceAll l [13] [10]
def r3 (l : List UInt8) : List UInt8 := Lib.replaceAll l [0] [239, 191, 189]
end Tk
namespace Go.Proofs.YtoiedadfpbbdgaaGreat
open Go.RowKit
end Go.Proofs.YtoiedadfpbbdgaaGreat
/- Rows of tokens of one's own, each with a row of attributes of its own; one further token is laid behind them. -/
namespace Go.Proofs.YtoiedadfpbbdgaaGreat
open Go.RowKit
theorem row_keepK {w w' : World} {B : Nat} {e : TypeId} {s n : Nat} {v : Value} {xs : List Value} (h : w.ownsRow B e s v n xs) (hk : ∀ k, v.ownBlock = some k → k < w.heap.size → w'.heap[k]? = w.heap[k]?) : w'.ownsRow B e s v n xs := by
  refine ⟨h.1, ?_⟩
  rcases h.2 with hn | ⟨g, cap, cur, rfl, hb, hgg, rest⟩
  · exact .inl hn
  · exact .inr ⟨g, cap, cur, rfl, hb, by rw [hk g rfl (Array.getElem?_eq_some_iff.1 hgg).1]; exact hgg, rest⟩
theorem row_mono {w : World} {B C : Nat} {e : TypeId} {s n : Nat} {v : Value} {xs : List Value} (h : w.ownsRow C e s v n xs) (hb : B ≤ C) : w.ownsRow B e s v n xs := by
  refine ⟨h.1, ?_⟩
  rcases h.2 with h0 | ⟨g, cap, cur, hv, h1, hc⟩
  · exact .inl h0
  · exact .inr ⟨g, cap, cur, hv, Nat.le_trans hb h1, hc⟩
/-- Two slices have no block in common. -/
def ApK (x v : Value) : Prop := ∀ k, x.ownBlock = some k → v.ownBlock = some k → False
abbrev TV := Tk.Tok × Value
def tokCells (ps : List TV) : List Value := ps.flatMap fun p => [.int .i64 p.1.kind, .string (str p.1.name), p.2, .bool p.1.self, .string (str p.1.text)]
theorem tokCells_snoc (ps : List TV) (p : TV) : tokCells (ps ++ [p]) = tokCells ps ++ [.int .i64 p.1.kind, .string (str p.1.name), p.2, .bool p.1.self, .string (str p.1.text)] := by simp [tokCells]
theorem tokCells_at : ∀ (ps : List TV) (j : Nat) (p : TV), ps[j]? = some p → (tokCells ps)[j * 5]? = some (.int .i64 p.1.kind) ∧ (tokCells ps)[j * 5 + 1]? = some (.string (str p.1.name)) ∧ (tokCells ps)[j * 5 + 2]? = some p.2 ∧ (tokCells ps)[j * 5 + 3]? = some (.bool p.1.self) ∧ (tokCells ps)[j * 5 + 4]? = some (.string (str p.1.text))
  | [], j, p, h => by simp at h
  | q :: ps, 0, p, h => by
    simp at h
    subst h
    exact ⟨rfl, rfl, rfl, rfl, rfl⟩
  | q :: ps, j + 1, p, h => by
    have := tokCells_at ps j p (by simpa using h)
    have e : tokCells (q :: ps) = .int .i64 q.1.kind :: .string (str q.1.name) :: q.2 :: .bool q.1.self :: .string (str q.1.text) :: tokCells ps := rfl
    rw [e, show (j + 1) * 5 = j * 5 + 1 + 1 + 1 + 1 + 1 from by omega]
    simpa using this
/-- A row of tokens, from block B on. -/
structure KR' (w : World) (B : Nat) (v : Value) (ps : List TV) : Prop where
  row : w.ownsRow B 110 5 v ps.length (tokCells ps)
  each : ∀ p ∈ ps, OwnsA w B p.2 p.1.attrs ∧ ApK p.2 v
def KR (w : World) (B : Nat) (v : Value) (ks : List Tk.Tok) : Prop := ∃ ps, ps.map (·.1) = ks ∧ KR' w B v ps
theorem KR.nil (w : World) (B : Nat) : KR w B (.slice none 0 0) [] := ⟨[], rfl, World.ownsRow_nil _ _ _ _, fun p h => by cases h⟩
theorem KR'.keep {w w' : World} {B : Nat} {v : Value} {ps : List TV} (h : KR' w B v ps) (hk : ∀ k, B ≤ k → k < w.heap.size → w'.heap[k]? = w.heap[k]?) : KR' w' B v ps :=
  ⟨row_keepK h.row (fun k e hl => hk k (World.ownsRow.lt h.row k e).1 hl), fun p hp => ⟨row_keepK (h.each p hp).1 (fun k e hl => hk k (World.ownsRow.lt (h.each p hp).1 k e).1 hl), (h.each p hp).2⟩⟩
theorem KR.keep {w w' : World} {B : Nat} {v : Value} {ks : List Tk.Tok} (h : KR w B v ks) (hk : ∀ k, B ≤ k → k < w.heap.size → w'.heap[k]? = w.heap[k]?) : KR w' B v ks := by
  obtain ⟨ps, h1, h2⟩ := h
  exact ⟨ps, h1, h2.keep hk⟩
theorem KR.below {w w' : World} {B : Nat} {v : Value} {ks : List Tk.Tok} (h : KR w B v ks) (hB : Below w.heap.size w w') : KR w' B v ks := h.keep (fun k _ hk => hB.block k hk)
theorem KR.kept {w w' : World} {B b : Nat} {v : Value} {ks : List Tk.Tok} (h : KR w B v ks) (hk : Kept b w w') (hb : b < B) : KR w' B v ks := h.keep (fun k h1 hl => hk.block k hl (by omega))
theorem KR.mono {w : World} {B B' : Nat} {v : Value} {ks : List Tk.Tok} (h : KR w B v ks) (hB : B' ≤ B) : KR w B' v ks := by
  obtain ⟨ps, h1, h2⟩ := h
  exact ⟨ps, h1, row_mono h2.row hB, fun p hp => ⟨OwnsPairs.mono (h2.each p hp).1 hB, (h2.each p hp).2⟩⟩
theorem KR.form {w : World} {B : Nat} {v : Value} {ks : List Tk.Tok} (h : KR w B v ks) : ∃ a c, v = .slice a ks.length c := by
  obtain ⟨ps, h1, h2⟩ := h
  have e : ps.length = ks.length := by rw [← h1, List.length_map]
  rcases h2.row.2 with ⟨rfl, hz⟩ | ⟨g, cap, cur, rfl, _⟩
  · exact ⟨none, 0, by rw [← e, hz]⟩
  · exact ⟨_, _, by rw [e]⟩
theorem KR.at_base {w : World} {B : Nat} {v : Value} {ks : List Tk.Tok} (h : KR w B v ks) {k : Nat} (hk : v.ownBlock = some k) : B ≤ k ∧ k < w.heap.size := by
  obtain ⟨ps, h1, h2⟩ := h
  exact World.ownsRow.lt h2.row k hk
/-- What a place of the row has. -/
theorem KR.at {w : World} {B : Nat} {a : Option Addr} {n c : Nat} {ks : List Tk.Tok} (h : KR w B (.slice a n c) ks) {j : Nat} {k : Tk.Tok} (hj : ks[j]? = some k) :
    ∃ g u, a = some ⟨g, 0, none⟩ ∧ B ≤ g ∧ g < w.heap.size ∧ n ≤ c ∧ w.cell? ⟨g, j * 5, none⟩ = some (.int .i64 k.kind) ∧ w.cell? ⟨g, j * 5 + 1, none⟩ = some (.string (str k.name)) ∧ w.cell? ⟨g, j * 5 + 2, none⟩ = some u ∧ w.cell? ⟨g, j * 5 + 3, none⟩ = some (.bool k.self) ∧ w.cell? ⟨g, j * 5 + 4, none⟩ = some (.string (str k.text)) ∧ OwnsA w B u k.attrs := by
  obtain ⟨ps, h1, h2⟩ := h
  have hjl : j < ks.length := (List.getElem?_eq_some_iff.1 hj).1
  have e : ps.length = ks.length := by rw [← h1, List.length_map]
  have hp : ps[j]? = some ps[j] := List.getElem?_eq_getElem (by omega)
  have hk : (ps[j]).1 = k := by
    have : (ps.map (·.1))[j]? = some k := by rw [h1]; exact hj
    rw [List.getElem?_map, hp] at this
    simpa using this
  have hr := h2.row
  rcases h2.row.2 with ⟨hs, hz⟩ | ⟨g, cap, cur, hs, hb, hg, hc, _⟩
  · omega
  · have hs2 : a = some ⟨g, 0, none⟩ ∧ n = ps.length ∧ c = cap := by
      simp only [Value.slice.injEq] at hs
      exact hs
    obtain ⟨rfl, rfl, rfl⟩ := hs2
    have hat := tokCells_at ps j _ hp
    rw [hk] at hat
    have hcell : ∀ i, i < 5 → w.cell? ⟨g, j * 5 + i, none⟩ = (tokCells ps)[j * 5 + i]? := fun i hi => World.ownsRow.cellAt (w := w) (base := B) (e := 110) (size := 5) (g := g) (cap := c) (n := ps.length) (xs := tokCells ps) hr (j * 5 + i) (by omega)
    have hm : ps[j] ∈ ps := List.getElem_mem (by omega)
    have ho := (h2.each _ hm).1
    rw [hk] at ho
    exact ⟨g, (ps[j]).2, rfl, hb, (Array.getElem?_eq_some_iff.1 hg).1, hc, (hcell 0 (by omega)).trans hat.1, (hcell 1 (by omega)).trans hat.2.1, (hcell 2 (by omega)).trans hat.2.2.1, (hcell 3 (by omega)).trans hat.2.2.2.1, (hcell 4 (by omega)).trans hat.2.2.2.2, ho⟩
theorem OwnsPairs.slice {t : TypeId} {w : World} {B : Nat} {v : Value} {ps : List Pr} (h : OwnsPairs t w B v ps) : v.oneCell' = true := by
  obtain ⟨a, c, rfl⟩ := h.reads.form
  rfl
theorem cell_five_new (w : World) (x0 x1 x2 x3 x4 : Value) (t : TypeId) : ∀ (j : Nat) (u : Value), [x0, x1, x2, x3, x4][j]? = some u → (w.alloc (.cells #[x0, x1, x2, x3, x4] t)).cell? ((⟨w.heap.size, 0, none⟩ : Addr).add j) = some u := by
  intro j u hj
  have hh := heap_new w (.cells #[x0, x1, x2, x3, x4] t)
  rw [add_addr, Nat.zero_add, Lib.cell_of_heap hh]
  rcases j with _ | _ | _ | _ | _ | j
  · exact hj
  · exact hj
  · exact hj
  · exact hj
  · exact hj
  · simp at hj
end Go.Proofs.YtoiedadfpbbdgaaGreat
