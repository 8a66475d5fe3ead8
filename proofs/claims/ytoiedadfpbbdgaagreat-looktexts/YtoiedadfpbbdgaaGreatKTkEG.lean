/- Texts laid as one. -/
import Derived.Test.YtoiedadfpbbdgaaGreatKTkCM
/- A token in memory; the contract of a reader's tag. -/
set_option linter.unusedVariables false
set_option linter.unusedSimpArgs false
namespace Go.Proofs.YtoiedadfpbbdgaaGreat
open Go.RowKit
abbrev kCells (k : Int) (n : List UInt8) (v : Value) (s : Bool) (x : List UInt8) : Array Value := #[.int .i64 k, .string (str n), v, .bool s, .string (str x)]
abbrev kCells0 : Array Value := #[.int .i64 0, .string ByteArray.empty, .slice none 0 0, .bool false, .string ByteArray.empty]
def KAt (w : World) (b : Nat) (cs : Array Value) : Prop := w.heap[b]? = some (.cells cs 110 (0, 0))
theorem sizeK : (Tryz.prog.info? 110).map (·.size) = some 5 := by kernel_rfl
theorem KAt.lt {w : World} {b : Nat} {cs : Array Value} (h : KAt w b cs) : b < w.heap.size := (Array.getElem?_eq_some_iff.1 h).1
theorem load_K {w : World} {b : Nat} {x0 x1 x2 x3 x4 : Value} (h : KAt w b #[x0, x1, x2, x3, x4]) : (loadVar 110 ⟨b, 0, none⟩).run Tryz.prog w = .ok (.agg #[x0, x1, x2, x3, x4]) w :=
  run_loadVar_row _ _ _ _ _ _ _ h Tryz.underlying110 rfl sizeK
theorem loadAt_K {w : World} {b : Nat} {x0 x1 x2 x3 x4 : Value} (h : KAt w b #[x0, x1, x2, x3, x4]) : (Instr.loadAt 110 (.pointer (some ⟨b, 0, none⟩))).run Tryz.prog w = .ok (.agg #[x0, x1, x2, x3, x4]) w := by
  simp only [Instr.loadAt, Instr.sureAddr, Sem.run_bind, Sem.run_pure, Result.andThen]
  exact load_K h
theorem wpList_load_K {ops : Array Oper} {rest : List Oper} {o : Oper} {a : Act} {w : World} {Q : Exit → Act → World → Prop} (p : Operand) (ho : o.op = .load 110 p) (hg : o.guard = none) (b : Nat) (x0 x1 x2 x3 x4 : Value) (hx : a.eval p = .pointer (some ⟨b, 0, none⟩)) (h : KAt w b #[x0, x1, x2, x3, x4])
    (hn : wpList Tryz.prog ops Q rest (a.put o.dst (.agg #[x0, x1, x2, x3, x4])) w) : wpList Tryz.prog ops Q (o :: rest) a w := by
  refine wpList_plain hg fun K hK => ?_
  unfold Oper.wp
  have e : (execOp a.eval o).run Tryz.prog w = .ok (.value (.agg #[x0, x1, x2, x3, x4])) w := by
    unfold execOp
    rw [ho]
    simp only [hx, Sem.run_bind, loadAt_K h, Result.andThen, Sem.run_pure]
  rw [e, Oper.upon_value]
  exact hK _ _ hn
theorem KAt.kept {w w' : World} {b c : Nat} {cs : Array Value} (h : KAt w b cs) (hk : Kept c w w') (hb : b ≠ c) : KAt w' b cs := hk.heap h hb
theorem KAt.step {w w' : World} {b : Nat} {cs : Array Value} (h : KAt w b cs) (hb : Below w.heap.size w w') : KAt w' b cs := (hb.block _ h.lt).trans h
theorem KAt.belowB {w w' : World} {b B : Nat} {cs : Array Value} (h : KAt w b cs) (hb : Below B w w') (hB : b < B) : KAt w' b cs := (hb.block _ hB).trans h
theorem Kept.belowB {b B : Nat} {w W W' : World} (h : Kept b w W) (h2 : Below B W W') (hB : w.heap.size ≤ B) : Kept b w W' :=
  ⟨h2.os.trans h.os, h2.tape.trans h.tape, h2.output.trans h.output, Nat.le_trans h.size h2.size, fun k hk hb => (h2.block k (by omega)).trans (h.block k hk hb)⟩
/-- A token as a value. -/
abbrev tokV (k : Tk.Tok) (u : Value) : Value := .agg #[.int .i64 k.kind, .string (str k.name), u, .bool k.self, .string (str k.text)]
/-- What tag answers, and leaves. -/
def tagP (l : List UInt8) : Tk.Tok × List UInt8 := match Tk.tag l with
  | none => (Tk.zero, [])
  | some x => x
end Go.Proofs.YtoiedadfpbbdgaaGreat
/- The contract of a reader's tag. -/
namespace Go.Proofs.YtoiedadfpbbdgaaGreat
open Go.RowKit
theorem OwnsPairs.mono {t : TypeId} {w : World} {B C : Nat} {v : Value} {ps : List Pr} (h : OwnsPairs t w C v ps) (hb : B ≤ C) : OwnsPairs t w B v ps := by
  refine ⟨h.1, ?_⟩
  rcases h.2 with h0 | ⟨g, cap, cur, hv, h1, hc⟩
  · exact .inl h0
  · exact .inr ⟨g, cap, cur, hv, Nat.le_trans hb h1, hc⟩
end Go.Proofs.YtoiedadfpbbdgaaGreat
/- The contracts of a reader's start and end. -/
namespace Go.Proofs.YtoiedadfpbbdgaaGreat
open Go.RowKit
end Go.Proofs.YtoiedadfpbbdgaaGreat
