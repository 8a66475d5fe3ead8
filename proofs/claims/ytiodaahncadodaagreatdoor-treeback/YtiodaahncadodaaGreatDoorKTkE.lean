/- A token in memory; the contract of a reader's tag. -/
import Derived.Test.YtiodaahncadodaaGreatDoorKTkCM
set_option linter.unusedVariables false
set_option linter.unusedSimpArgs false
namespace Go.Proofs.YtiodaahncadodaaGreatDoor
open Go.RowKit
abbrev kCells (k : Int) (n : List UInt8) (v : Value) (s : Bool) (x : List UInt8) : Array Value := #[.int .i64 k, .string (str n), v, .bool s, .string (str x)]
abbrev kCells0 : Array Value := #[.int .i64 0, .string ByteArray.empty, .slice none 0 0, .bool false, .string ByteArray.empty]
def KAt (w : World) (b : Nat) (cs : Array Value) : Prop := w.heap[b]? = some (.cells cs 56 (0, 0))
theorem sizeK : (Tryz.prog.info? 56).map (·.size) = some 5 := by kernel_rfl
theorem zeroK : (Tryz.prog.info? 56).map (fun i => (i.zero, i.size)) = some (some (.agg kCells0), 5) := by kernel_rfl
theorem KAt.lt {w : World} {b : Nat} {cs : Array Value} (h : KAt w b cs) : b < w.heap.size := (Array.getElem?_eq_some_iff.1 h).1
theorem load_K {w : World} {b : Nat} {x0 x1 x2 x3 x4 : Value} (h : KAt w b #[x0, x1, x2, x3, x4]) : (loadVar 56 ⟨b, 0, none⟩).run Tryz.prog w = .ok (.agg #[x0, x1, x2, x3, x4]) w :=
  run_loadVar_row _ _ _ _ _ _ _ h Tryz.underlying56 rfl sizeK
theorem loadAt_K {w : World} {b : Nat} {x0 x1 x2 x3 x4 : Value} (h : KAt w b #[x0, x1, x2, x3, x4]) : (Instr.loadAt 56 (.pointer (some ⟨b, 0, none⟩))).run Tryz.prog w = .ok (.agg #[x0, x1, x2, x3, x4]) w := by
  simp only [Instr.loadAt, Instr.sureAddr, Sem.run_bind, Sem.run_pure, Result.andThen]
  exact load_K h
theorem ret_K {fn : Func} {p : Tmp} {Q : Ending → World → Prop} {a : Act} {w : World} {b : Nat} {x0 x1 x2 x3 x4 : Value} (hr : fn.results = #[.cell p 56]) (hd : a.defers = []) (hp : a.tmps.getD p undef = .pointer (some ⟨b, 0, none⟩)) (h : KAt w b #[x0, x1, x2, x3, x4]) (hQ : Q (.returned (.agg #[x0, x1, x2, x3, x4])) w) :
    bodyPost Tryz.prog fn Q .ret a w := by
  refine bodyPost_ret (v := .agg #[x0, x1, x2, x3, x4]) ?_ hd hQ
  rw [results_cell hr, hp]
  simp [asAddr, Result.andThen, load_K h]
theorem storeAt_K {w : World} {b : Nat} {cs : Array Value} (hc : cs.size = 5) {k : Int} {n x : ByteArray} {s : Bool} {ad : Option Addr} {ln cp : Nat} (h : KAt w b cs) : (Instr.storeAt 56 (.pointer (some ⟨b, 0, none⟩)) (.agg #[.int .i64 k, .string n, .slice ad ln cp, .bool s, .string x])).run Tryz.prog w = .ok () (w.setRow b #[.int .i64 k, .string n, .slice ad ln cp, .bool s, .string x]) := by
  simp only [Instr.storeAt, Instr.sureAddr, Sem.run_bind, Sem.run_pure, Result.andThen]
  exact run_storeVar_row _ _ _ _ _ _ h sizeK (by first | exact hc | simp [hc]) (by simp [Value.oneCell'])
theorem wpList_store_K {ops : Array Oper} {rest : List Oper} {o : Oper} {a : Act} {w : World} {Q : Exit → Act → World → Prop} (p q : Operand) (ho : o.op = .store 56 p q) (hg : o.guard = none) (b : Nat) (cs : Array Value) (hc : cs.size = 5) (k : Int) (n x : ByteArray) (s : Bool) (ad : Option Addr) (ln cp : Nat) (hx : a.eval p = .pointer (some ⟨b, 0, none⟩)) (hy : a.eval q = .agg #[.int .i64 k, .string n, .slice ad ln cp, .bool s, .string x]) (h : KAt w b cs)
    (hn : wpList Tryz.prog ops Q rest (a.put o.dst undef) (w.setRow b #[.int .i64 k, .string n, .slice ad ln cp, .bool s, .string x])) : wpList Tryz.prog ops Q (o :: rest) a w := by
  refine wpList_plain hg fun K hK => ?_
  unfold Oper.wp
  have e : (execOp a.eval o).run Tryz.prog w = .ok .skip (w.setRow b #[.int .i64 k, .string n, .slice ad ln cp, .bool s, .string x]) := by
    unfold execOp
    rw [ho]
    simp only [hx, hy, Sem.run_bind, storeAt_K hc h, Result.andThen, Sem.run_pure]
  rw [e, Oper.upon_skip]
  exact hK _ _ hn
theorem wpList_load_K {ops : Array Oper} {rest : List Oper} {o : Oper} {a : Act} {w : World} {Q : Exit → Act → World → Prop} (p : Operand) (ho : o.op = .load 56 p) (hg : o.guard = none) (b : Nat) (x0 x1 x2 x3 x4 : Value) (hx : a.eval p = .pointer (some ⟨b, 0, none⟩)) (h : KAt w b #[x0, x1, x2, x3, x4])
    (hn : wpList Tryz.prog ops Q rest (a.put o.dst (.agg #[x0, x1, x2, x3, x4])) w) : wpList Tryz.prog ops Q (o :: rest) a w := by
  refine wpList_plain hg fun K hK => ?_
  unfold Oper.wp
  have e : (execOp a.eval o).run Tryz.prog w = .ok (.value (.agg #[x0, x1, x2, x3, x4])) w := by
    unfold execOp
    rw [ho]
    simp only [hx, Sem.run_bind, loadAt_K h, Result.andThen, Sem.run_pure]
  rw [e, Oper.upon_value]
  exact hK _ _ hn
theorem setRow_K {w : World} {b : Nat} {cs ds : Array Value} (h : KAt w b cs) : KAt (w.setRow b ds) b ds := by
  unfold KAt at *
  simp [World.setRow, Array.getElem?_modify, h]
theorem KAt.kept {w w' : World} {b c : Nat} {cs : Array Value} (h : KAt w b cs) (hk : Kept c w w') (hb : b ≠ c) : KAt w' b cs := hk.heap h hb
theorem KAt.step {w w' : World} {b : Nat} {cs : Array Value} (h : KAt w b cs) (hb : Below w.heap.size w w') : KAt w' b cs := (hb.block _ h.lt).trans h
theorem KAt.belowB {w w' : World} {b B : Nat} {cs : Array Value} (h : KAt w b cs) (hb : Below B w w') (hB : b < B) : KAt w' b cs := (hb.block _ hB).trans h
theorem Kept.belowB {b B : Nat} {w W W' : World} (h : Kept b w W) (h2 : Below B W W') (hB : w.heap.size ≤ B) : Kept b w W' :=
  ⟨h2.os.trans h.os, h2.tape.trans h.tape, h2.output.trans h.output, Nat.le_trans h.size h2.size, fun k hk hb => (h2.block k (by omega)).trans (h.block k hk hb)⟩
theorem Tr.belowB {b B : Nat} {l a : List UInt8} {w w' : World} (h : Tr b l a w) (hb : Below B w w') (hB : b < B) : Tr b l a w' :=
  ⟨(hb.block b hB).trans h.at_, h.len, h.lo1, h.lo2, h.env.belowB hb (Nat.lt_trans h.lo1 hB) (Nat.lt_trans h.lo2 hB)⟩
/-- A token as a value. -/
abbrev tokV (k : Tk.Tok) (u : Value) : Value := .agg #[.int .i64 k.kind, .string (str k.name), u, .bool k.self, .string (str k.text)]
/-- How much a reader has left. -/
def leftT (b : Nat) (w : World) : Nat := match w.cell? ⟨b, 0, none⟩ with
  | some (.string s) => s.size
  | _ => 0
theorem Tr.left {b : Nat} {l a : List UInt8} {w : World} (h : Tr b l a w) : leftT b w = l.length := by
  unfold leftT
  rw [h.c0]
  exact str_size l
/-- What tag answers, and leaves. -/
def tagP (l : List UInt8) : Tk.Tok × List UInt8 := match Tk.tag l with
  | none => (Tk.zero, [])
  | some x => x
/-- What a reader's method that gives a token has done. -/
def TokPost (b : Nat) (a : List UInt8) (w : World) (x : Tk.Tok × List UInt8) (e : Ending) (w' : World) : Prop :=
  ∃ ad ln cp, e = .returned (tokV x.1 (.slice ad ln cp)) ∧ OwnsA w' w.heap.size (.slice ad ln cp) x.1.attrs ∧ Tr b x.2 a w' ∧ Kept b w w'
end Go.Proofs.YtiodaahncadodaaGreatDoor
