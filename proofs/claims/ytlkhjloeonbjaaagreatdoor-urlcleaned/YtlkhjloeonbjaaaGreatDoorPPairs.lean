/- Slices of pairs: how they read, those of a call's own; the laws' theirs, ours and same. -/
import Derived.Test.YtlkhjloeonbjaaaGreatDoorPctMath
import Derived.Test.YtlkhjloeonbjaaaGreatDoorPTexts
import Derived.Test.YtlkhjloeonbjaaaGreatDoorUPut
namespace Go.Proofs.YtlkhjloeonbjaaaGreatDoor
open Go.RowKit
def pairCells (ps : List Pct.Pr) : List Value := ps.flatMap fun p => [strV p.1, strV p.2]
theorem pairCells_snoc (ps : List Pct.Pr) (p : Pct.Pr) : pairCells (ps ++ [p]) = pairCells ps ++ [strV p.1, strV p.2] := by simp [pairCells]
theorem pairCells_length : ∀ ps : List Pct.Pr, (pairCells ps).length = ps.length * 2
  | [] => rfl
  | p :: ps => by
    have := pairCells_length ps
    simp only [pairCells, List.flatMap_cons, List.length_append, List.length_cons, List.length_nil] at this ⊢
    omega
theorem pairCells_at : ∀ (ps : List Pct.Pr) (j : Nat) (p : Pct.Pr), ps[j]? = some p → (pairCells ps)[j * 2]? = some (strV p.1) ∧ (pairCells ps)[j * 2 + 1]? = some (strV p.2)
  | [], j, p, h => by simp at h
  | q :: ps, 0, p, h => by
    simp at h
    subst h
    exact ⟨rfl, rfl⟩
  | q :: ps, j + 1, p, h => by
    have := pairCells_at ps j p (by simpa using h)
    have e : pairCells (q :: ps) = strV q.1 :: strV q.2 :: pairCells ps := rfl
    rw [e, show (j + 1) * 2 = j * 2 + 1 + 1 from by omega]
    simpa using this
/-- The slice owns these pairs, in memory from 'B' on; 't' is the pair's own type. -/
def OwnsPairs (t : TypeId) (w : World) (B : Nat) (v : Value) (ps : List Pct.Pr) : Prop := w.ownsRow B t 2 v ps.length (pairCells ps)
theorem OwnsPairs.nil (t : TypeId) (w : World) (B : Nat) : OwnsPairs t w B (.slice none 0 0) [] := World.ownsRow_nil _ _ _ _
theorem OwnsPairs.of {t : TypeId} {w : World} {B : Nat} {v x y : Value} {ps qs : List Pct.Pr} {p : Pct.Pr} (h : qs = ps ++ [p]) (hx : strV p.1 = x) (hy : strV p.2 = y) (ho : w.ownsRow B t 2 v (ps.length + 1) (pairCells ps ++ [x, y])) : OwnsPairs t w B v qs := by
  subst h; subst hx; subst hy
  unfold OwnsPairs
  rw [pairCells_snoc, List.length_append]
  exact ho
/-- The slice reads as these pairs. -/
def ReadsPairs (w : World) (v : Value) (ps : List Pct.Pr) : Prop :=
  (∃ a c, v = .slice a 0 c ∧ ps = []) ∨ ∃ b o c, v = .slice (some ⟨b, o, none⟩) ps.length c ∧ ps.length ≤ c ∧ ∀ (j : Nat) p, ps[j]? = some p → w.cell? ⟨b, o + j * 2, none⟩ = some (strV p.1) ∧ w.cell? ⟨b, o + j * 2 + 1, none⟩ = some (strV p.2)
theorem ReadsPairs.form {w : World} {v : Value} {ps : List Pct.Pr} (h : ReadsPairs w v ps) : ∃ a c, v = .slice a ps.length c := by
  rcases h with ⟨a, c, rfl, rfl⟩ | ⟨b, o, c, rfl, _, _⟩
  · exact ⟨_, _, rfl⟩
  · exact ⟨_, _, rfl⟩
theorem ReadsPairs.at {w : World} {a : Option Addr} {n c : Nat} {ps : List Pct.Pr} {k : Nat} {p : Pct.Pr} (h : ReadsPairs w (.slice a n c) ps) (hp : ps[k]? = some p) :
    ∃ b o, a = some ⟨b, o, none⟩ ∧ ps.length ≤ c ∧ b < w.heap.size ∧ w.cell? ⟨b, o + k * 2, none⟩ = some (.string (str p.1)) ∧ w.cell? ⟨b, o + k * 2 + 1, none⟩ = some (.string (str p.2)) := by
  rcases h with ⟨a, c, _, rfl⟩ | ⟨b, o, c, h1, h2, h3⟩
  · simp at hp
  · cases h1
    exact ⟨b, o, rfl, h2, cell_lt (h3 k p hp).1, h3 k p hp⟩
theorem ReadsPairs.below {w w' : World} {v : Value} {ps : List Pct.Pr} (h : ReadsPairs w v ps) (hb : Below w.heap.size w w') : ReadsPairs w' v ps := by
  rcases h with h | ⟨b, o, c, rfl, hc, hr⟩
  · exact .inl h
  · refine .inr ⟨b, o, c, rfl, hc, fun j p hj => ?_⟩
    have := hr j p hj
    exact ⟨(hb.cell (p := ⟨b, o + j * 2, none⟩) (cell_lt this.1)).trans this.1, (hb.cell (p := ⟨b, o + j * 2 + 1, none⟩) (cell_lt this.2)).trans this.2⟩
theorem OwnsPairs.reads {t : TypeId} {w : World} {B : Nat} {v : Value} {ps : List Pct.Pr} (h : OwnsPairs t w B v ps) : ReadsPairs w v ps := by
  rcases h.2 with ⟨rfl, h0⟩ | ⟨g, cap, cur, rfl, _, hg, hc, _, hcs, ht⟩
  · exact .inl ⟨_, _, rfl, List.eq_nil_of_length_eq_zero h0⟩
  · refine .inr ⟨g, 0, cap, rfl, hc, fun j p hj => ?_⟩
    have hlt : j < ps.length := (List.getElem?_eq_some_iff.1 hj).1
    have e := pairCells_at ps j p hj
    have e1 := World.ownsRow.cellAt (w := w) (base := B) (e := t) (size := 2) (g := g) (cap := cap) (n := ps.length) (xs := pairCells ps) h (j * 2) (by omega)
    have e2 := World.ownsRow.cellAt (w := w) (base := B) (e := t) (size := 2) (g := g) (cap := cap) (n := ps.length) (xs := pairCells ps) h (j * 2 + 1) (by omega)
    rw [Nat.zero_add, e1, e2]
    exact e
end Go.Proofs.YtlkhjloeonbjaaaGreatDoor
