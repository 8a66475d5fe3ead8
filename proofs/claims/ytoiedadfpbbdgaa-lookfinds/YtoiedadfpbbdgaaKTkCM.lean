/- Texts laid as one. -/
import Derived.Test.YtoiedadfpbbdgaaKTkB
import Derived.Test.YtoiedadfpbbdgaaKGround
import Derived.Test.YtoiedadfpbbdgaaKUPut
import Derived.Test.YtoiedadfpbbdgaaKRfGK
import Derived.Deep.MidRow
import Derived.Deep.WholeRow
import Derived.Deep.RegionWith
/- Rows of attributes: how they read, those of a call's own; the contract of token.add. -/
set_option linter.unusedVariables false
set_option linter.unusedSimpArgs false
namespace Go.Proofs.Ytoiedadfpbbdgaa
open Go.RowKit
abbrev Pr := List UInt8 × List UInt8
def pairCells (ps : List Pr) : List Value := ps.flatMap fun p => [strV p.1, strV p.2]
theorem pairCells_snoc (ps : List Pr) (p : Pr) : pairCells (ps ++ [p]) = pairCells ps ++ [strV p.1, strV p.2] := by simp [pairCells]
theorem pairCells_length : ∀ ps : List Pr, (pairCells ps).length = ps.length * 2
  | [] => rfl
  | p :: ps => by
    have := pairCells_length ps
    simp only [pairCells, List.flatMap_cons, List.length_append, List.length_cons, List.length_nil] at this ⊢
    omega
theorem pairCells_at : ∀ (ps : List Pr) (j : Nat) (p : Pr), ps[j]? = some p → (pairCells ps)[j * 2]? = some (strV p.1) ∧ (pairCells ps)[j * 2 + 1]? = some (strV p.2)
  | [], j, p, h => by simp at h
  | q :: ps, 0, p, h => by
    simp at h
    subst h
    exact ⟨rfl, rfl⟩
  | q :: ps, j + 1, p, h => by
    have := pairCells_at ps j p (by simpa using h)
    have e : pairCells (q :: ps) = strV q.1 :: strV q.2 :: pairCells ps := rfl
    rw [e, show (j + 1) * 2 = j * 2 + 1 + 1 from by omega]
    simpa using this
/-- The slice owns these pairs, in memory from 'B' on; 't' is the pair's own type. -/
def OwnsPairs (t : TypeId) (w : World) (B : Nat) (v : Value) (ps : List Pr) : Prop := w.ownsRow B t 2 v ps.length (pairCells ps)
theorem OwnsPairs.nil (t : TypeId) (w : World) (B : Nat) : OwnsPairs t w B (.slice none 0 0) [] := World.ownsRow_nil _ _ _ _
theorem OwnsPairs.of {t : TypeId} {w : World} {B : Nat} {v x y : Value} {ps qs : List Pr} {p : Pr} (h : qs = ps ++ [p]) (hx : strV p.1 = x) (hy : strV p.2 = y) (ho : w.ownsRow B t 2 v (ps.length + 1) (pairCells ps ++ [x, y])) : OwnsPairs t w B v qs := by
  subst h; subst hx; subst hy
  unfold OwnsPairs
  rw [pairCells_snoc, List.length_append]
  exact ho
/-- The slice reads as these pairs. -/
def ReadsPairs (w : World) (v : Value) (ps : List Pr) : Prop :=
  (∃ a c, v = .slice a 0 c ∧ ps = []) ∨ ∃ b o c, v = .slice (some ⟨b, o, none⟩) ps.length c ∧ ps.length ≤ c ∧ ∀ (j : Nat) p, ps[j]? = some p → w.cell? ⟨b, o + j * 2, none⟩ = some (strV p.1) ∧ w.cell? ⟨b, o + j * 2 + 1, none⟩ = some (strV p.2)
theorem ReadsPairs.form {w : World} {v : Value} {ps : List Pr} (h : ReadsPairs w v ps) : ∃ a c, v = .slice a ps.length c := by
  rcases h with ⟨a, c, rfl, rfl⟩ | ⟨b, o, c, rfl, _, _⟩
  · exact ⟨_, _, rfl⟩
  · exact ⟨_, _, rfl⟩
theorem ReadsPairs.at {w : World} {a : Option Addr} {n c : Nat} {ps : List Pr} {k : Nat} {p : Pr} (h : ReadsPairs w (.slice a n c) ps) (hp : ps[k]? = some p) :
    ∃ b o, a = some ⟨b, o, none⟩ ∧ ps.length ≤ c ∧ b < w.heap.size ∧ w.cell? ⟨b, o + k * 2, none⟩ = some (.string (str p.1)) ∧ w.cell? ⟨b, o + k * 2 + 1, none⟩ = some (.string (str p.2)) := by
  rcases h with ⟨a, c, _, rfl⟩ | ⟨b, o, c, h1, h2, h3⟩
  · simp at hp
  · cases h1
    exact ⟨b, o, rfl, h2, cell_lt (h3 k p hp).1, h3 k p hp⟩
theorem ReadsPairs.below {w w' : World} {v : Value} {ps : List Pr} (h : ReadsPairs w v ps) (hb : Below w.heap.size w w') : ReadsPairs w' v ps := by
  rcases h with h | ⟨b, o, c, rfl, hc, hr⟩
  · exact .inl h
  · refine .inr ⟨b, o, c, rfl, hc, fun j p hj => ?_⟩
    have := hr j p hj
    exact ⟨(hb.cell (p := ⟨b, o + j * 2, none⟩) (cell_lt this.1)).trans this.1, (hb.cell (p := ⟨b, o + j * 2 + 1, none⟩) (cell_lt this.2)).trans this.2⟩
theorem OwnsPairs.reads {t : TypeId} {w : World} {B : Nat} {v : Value} {ps : List Pr} (h : OwnsPairs t w B v ps) : ReadsPairs w v ps := by
  rcases h.2 with ⟨rfl, h0⟩ | ⟨g, cap, cur, rfl, _, hg, hc, _, hcs, ht⟩
  · exact .inl ⟨_, _, rfl, List.eq_nil_of_length_eq_zero h0⟩
  · refine .inr ⟨g, 0, cap, rfl, hc, fun j p hj => ?_⟩
    have hlt : j < ps.length := (List.getElem?_eq_some_iff.1 hj).1
    have e := pairCells_at ps j p hj
    have e1 := World.ownsRow.cellAt (w := w) (base := B) (e := t) (size := 2) (g := g) (cap := cap) (n := ps.length) (xs := pairCells ps) h (j * 2) (by omega)
    have e2 := World.ownsRow.cellAt (w := w) (base := B) (e := t) (size := 2) (g := g) (cap := cap) (n := ps.length) (xs := pairCells ps) h (j * 2 + 1) (by omega)
    rw [Nat.zero_add, e1, e2]
    exact e
theorem ownsRow_below {w w' : World} {B : Nat} {e : TypeId} {size n : Nat} {v : Value} {xs : List Value} (h : w.ownsRow B e size v n xs) (hb : Below w.heap.size w w') : w'.ownsRow B e size v n xs := by
  refine ⟨h.1, ?_⟩
  rcases h.2 with h0 | ⟨g, cap, cur, hv, h1, hg, hc⟩
  · exact .inl h0
  · exact .inr ⟨g, cap, cur, hv, h1, (hb.block g (Array.getElem?_eq_some_iff.1 hg).1).trans hg, hc⟩
theorem infoAttr : (Try.prog.info? 54).map (fun i => (i.zero, i.size, i.bytes)) = some (some (.agg #[.string ByteArray.empty, .string ByteArray.empty]), 2, 32) := by kernel_rfl
abbrev OwnsA (w : World) (B : Nat) (v : Value) (ps : List Pr) : Prop := OwnsPairs 54 w B v ps
theorem str_beq (n q : List UInt8) : ((str n).toList == (str q).toList) = (n == q) := by rw [str_list, str_list]
theorem has_take (ats : List Pr) (q : List UInt8) (j : Nat) (h : j < ats.length) : Tk.has (ats.take (j + 1)) q = (Tk.has (ats.take j) q || ats[j].1 == q) := by
  unfold Tk.has
  rw [List.take_succ_eq_append_getElem h, List.any_append]
  simp
theorem has_here (ats : List Pr) (q : List UInt8) (j : Nat) (h : j < ats.length) (hq : (ats[j].1 == q) = true) : Tk.has ats q = true := by
  unfold Tk.has
  rw [List.any_eq_true]
  exact ⟨ats[j], List.getElem_mem h, hq⟩
theorem OwnsPairs.below {t : TypeId} {w w' : World} {B : Nat} {v : Value} {ps : List Pr} (h : OwnsPairs t w B v ps) (hb : Below w.heap.size w w') : OwnsPairs t w' B v ps := ownsRow_below h hb
theorem OwnsPairs.kept {t : TypeId} {w w' : World} {B b : Nat} {v : Value} {ps : List Pr} (h : OwnsPairs t w B v ps) (hk : Kept b w w') (hb : b < B) : OwnsPairs t w' B v ps := by
  refine ⟨h.1, ?_⟩
  rcases h.2 with h0 | ⟨g, cap, cur, hv, h1, hg, hc⟩
  · exact .inl h0
  · exact .inr ⟨g, cap, cur, hv, h1, hk.heap hg (by omega), hc⟩
end Go.Proofs.Ytoiedadfpbbdgaa
/- The contracts of a reader's value and attr. -/
namespace Go.Proofs.Ytoiedadfpbbdgaa
open Go.RowKit
end Go.Proofs.Ytoiedadfpbbdgaa
/- The contract of a reader's attr. -/
namespace Go.Proofs.Ytoiedadfpbbdgaa
open Go.RowKit
def AAt (w : World) (b : Nat) (x y : Value) : Prop := w.heap[b]? = some (.cells #[x, y] 54 (0, 0))
theorem sizeA : (Try.prog.info? 54).map (·.size) = some 2 := by kernel_rfl
theorem zeroA : (Try.prog.info? 54).map (fun i => (i.zero, i.size)) = some (some (.agg #[.string ByteArray.empty, .string ByteArray.empty]), 2) := by kernel_rfl
theorem load_A {w : World} {b : Nat} {x y : Value} (h : AAt w b x y) : (loadVar 54 ⟨b, 0, none⟩).run Try.prog w = .ok (.agg #[x, y]) w :=
  run_loadVar_row _ _ _ _ _ _ _ h Try.underlying54 rfl sizeA
theorem storeAt_A {w : World} {b : Nat} {x y x0 y0 : Value} (h : AAt w b x0 y0) (hx : Value.oneCell' x = true) (hy : Value.oneCell' y = true) : (Instr.storeAt 54 (.pointer (some ⟨b, 0, none⟩)) (.agg #[x, y])).run Try.prog w = .ok () (w.setRow b #[x, y]) := by
  simp only [Instr.storeAt, Instr.sureAddr, Sem.run_bind, Sem.run_pure, Result.andThen]
  exact run_storeVar_row _ _ _ _ _ _ h sizeA rfl (by simp [hx, hy])
theorem wpList_store_A {ops : Array Oper} {rest : List Oper} {o : Oper} {a : Act} {w : World} {Q : Exit → Act → World → Prop} (p q : Operand) (ho : o.op = .store 54 p q) (hg : o.guard = none) (b : Nat) (x y x0 y0 : Value) (hx : a.eval p = .pointer (some ⟨b, 0, none⟩)) (hy : a.eval q = .agg #[x, y]) (h : AAt w b x0 y0) (h1 : Value.oneCell' x = true) (h2 : Value.oneCell' y = true)
    (hn : wpList Try.prog ops Q rest (a.put o.dst undef) (w.setRow b #[x, y])) : wpList Try.prog ops Q (o :: rest) a w := by
  refine wpList_plain hg fun K hK => ?_
  unfold Oper.wp
  have e : (execOp a.eval o).run Try.prog w = .ok .skip (w.setRow b #[x, y]) := by
    unfold execOp
    rw [ho]
    simp only [hx, hy, Sem.run_bind, storeAt_A h h1 h2, Result.andThen, Sem.run_pure]
  rw [e, Oper.upon_skip]
  exact hK _ _ hn
theorem setRow_A {w : World} {b : Nat} {x y x0 y0 : Value} (h : AAt w b x0 y0) : AAt (w.setRow b #[x, y]) b x y := by
  unfold AAt at *
  simp [World.setRow, Array.getElem?_modify, h]
theorem kept_setRow (b : Nat) (w : World) (cs : Array Value) : Kept b w (w.setRow b cs) :=
  ⟨rfl, rfl, rfl, by simp [World.setRow], fun k _ hb => by simp [World.setRow, Array.getElem?_modify, Ne.symm hb]⟩
/-- A block that came since may be written, too. -/
theorem Kept.more {b c : Nat} {w W W' : World} (h : Kept b w W) (h2 : Kept c W W') (hc : w.heap.size ≤ c) : Kept b w W' :=
  ⟨h2.os.trans h.os, h2.tape.trans h.tape, h2.output.trans h.output, Nat.le_trans h.size h2.size, fun k hk hb => (h2.block k (Nat.lt_of_lt_of_le hk h.size) (by omega)).trans (h.block k hk hb)⟩
end Go.Proofs.Ytoiedadfpbbdgaa
/- Plain mathematics of a tag as the program reads it: gaps at a stroke, blanks behind a name without a value. -/
namespace Go.Proofs.Ytoiedadfpbbdgaa
open Go.RowKit
theorem add_len (ats : List Pr) (x : Pr) (h : ats.length ≤ 64) : (Tk.add ats x).length ≤ 64 := by
  unfold Tk.add
  split
  · rename_i h2; rw [List.length_append]; show ats.length + 1 ≤ 64; omega
  · exact h
end Go.Proofs.Ytoiedadfpbbdgaa
