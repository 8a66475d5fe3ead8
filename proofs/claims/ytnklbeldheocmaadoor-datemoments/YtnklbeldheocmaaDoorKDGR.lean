/- The reference's moments in blocks; laws for loads and stores of them. -/
import Derived.Test.YtnklbeldheocmaaDoorKDR5
import Derived.Test.YtnklbeldheocmaaDoorKDateE
namespace Go.Proofs.YtnklbeldheocmaaDoor
open Go.RowKit
/-- A moment's block. -/
def RMAt (w : World) (b : Nat) (m : Int × Bool × Bool) : Prop := w.heap[b]? = some (.cells (mCells m) 39 (0, 0))
theorem zeroMR : (Tryd.prog.info? 39).map (fun i => (i.zero, i.size)) = some (some (mVal mZero), 3) := by kernel_rfl
theorem sizeMR : (Tryd.prog.info? 39).map (·.size) = some 3 := by kernel_rfl
theorem RMAt.lt {w : World} {b : Nat} {m : Int × Bool × Bool} (h : RMAt w b m) : b < w.heap.size := (Array.getElem?_eq_some_iff.1 h).1
theorem RMAt.cell {w : World} {b : Nat} {m : Int × Bool × Bool} (h : RMAt w b m) (i : Nat) : w.cell? ⟨b, i, none⟩ = (mCells m)[i]? := Lib.cell_of_heap h i
theorem RMAt.free {w : World} {b : Nat} {m : Int × Bool × Bool} (h : RMAt w b m) (i : Nat) : w.frozen? ⟨b, i, none⟩ = false := Lib.frozen_of_heap h i
theorem RMAt.kept {w w' : World} {b c : Nat} {m : Int × Bool × Bool} (h : RMAt w c m) (hk : Kept b w w') (hn : c ≠ b) : RMAt w' c m := (hk.block c h.lt hn).trans h
theorem RMAt.below {w w' : World} {c : Nat} {m : Int × Bool × Bool} (h : RMAt w c m) (hb : Below w.heap.size w w') : RMAt w' c m := (hb.block c h.lt).trans h
theorem RMAt.other {w : World} {b : Nat} {m : Int × Bool × Bool} (h : RMAt w b m) {p : Addr} (hn : b ≠ p.block) (v : Value) : RMAt (w.setCell p v) b m := (Below.heap_setCell _ _ _ _ hn).trans h
theorem RMAt.secs {w : World} {b : Nat} {m : Int × Bool × Bool} (h : RMAt w b m) (s : Int) : RMAt (w.setCell ⟨b, 0, none⟩ (.int .i64 s)) b (s, m.2) := Go.Joins.block_setCell h _
theorem RMAt.time {w : World} {b : Nat} {m : Int × Bool × Bool} (h : RMAt w b m) (t : Bool) : RMAt (w.setCell ⟨b, 1, none⟩ (.bool t)) b (m.1, t, m.2.2) := Go.Joins.block_setCell h _
theorem RMAt.zone {w : World} {b : Nat} {m : Int × Bool × Bool} (h : RMAt w b m) (z : Bool) : RMAt (w.setCell ⟨b, 2, none⟩ (.bool z)) b (m.1, m.2.1, z) := Go.Joins.block_setCell h _
theorem load_MR {w : World} {b : Nat} {m : Int × Bool × Bool} (h : RMAt w b m) : (loadVar 39 ⟨b, 0, none⟩).run Tryd.prog w = .ok (mVal m) w :=
  run_loadVar_row _ _ _ _ _ _ _ h Tryd.underlying39 rfl sizeMR
theorem loadAt_MR {w : World} {b : Nat} {m : Int × Bool × Bool} (h : RMAt w b m) : (Instr.loadAt 39 (.pointer (some ⟨b, 0, none⟩))).run Tryd.prog w = .ok (mVal m) w := by
  simp only [Instr.loadAt, Instr.sureAddr, Sem.run_bind, Sem.run_pure, Result.andThen]
  exact load_MR h
theorem storeAt_MR {w : World} {b : Nat} {m n : Int × Bool × Bool} (h : RMAt w b n) : (Instr.storeAt 39 (.pointer (some ⟨b, 0, none⟩)) (mVal m)).run Tryd.prog w = .ok () (w.setRow b (mCells m)) := by
  simp only [Instr.storeAt, Instr.sureAddr, Sem.run_bind, Sem.run_pure, Result.andThen]
  exact run_storeVar_row _ _ _ _ _ _ h sizeMR rfl (by simp [mCells, Value.oneCell'])
theorem wpList_store_MR {ops : Array Oper} {rest : List Oper} {o : Oper} {a : Act} {w : World} {Q : Exit → Act → World → Prop} (x y : Operand) (ho : o.op = .store 39 x y) (hg : o.guard = none) (b : Nat) (m n : Int × Bool × Bool) (hx : a.eval x = .pointer (some ⟨b, 0, none⟩)) (hy : a.eval y = mVal m) (h : RMAt w b n)
    (hn : wpList Tryd.prog ops Q rest (a.put o.dst undef) (w.setRow b (mCells m))) : wpList Tryd.prog ops Q (o :: rest) a w := by
  refine wpList_plain hg fun K hK => ?_
  unfold Oper.wp
  have e : (execOp a.eval o).run Tryd.prog w = .ok .skip (w.setRow b (mCells m)) := by
    unfold execOp
    rw [ho]
    simp only [hx, hy, Sem.run_bind, storeAt_MR h, Result.andThen, Sem.run_pure]
  rw [e, Oper.upon_skip]
  exact hK _ _ hn
theorem wpList_load_MR {ops : Array Oper} {rest : List Oper} {o : Oper} {a : Act} {w : World} {Q : Exit → Act → World → Prop} (x : Operand) (ho : o.op = .load 39 x) (hg : o.guard = none) (b : Nat) (m : Int × Bool × Bool) (hx : a.eval x = .pointer (some ⟨b, 0, none⟩)) (h : RMAt w b m)
    (hn : wpList Tryd.prog ops Q rest (a.put o.dst (mVal m)) w) : wpList Tryd.prog ops Q (o :: rest) a w := by
  refine wpList_plain hg fun K hK => ?_
  unfold Oper.wp
  have e : (execOp a.eval o).run Tryd.prog w = .ok (.value (mVal m)) w := by
    unfold execOp
    rw [ho]
    simp only [hx, Sem.run_bind, loadAt_MR h, Result.andThen, Sem.run_pure]
  rw [e, Oper.upon_value]
  exact hK _ _ hn
theorem setRow_MR {w : World} {b : Nat} {m n : Int × Bool × Bool} (h : RMAt w b m) : RMAt (w.setRow b (mCells n)) b n := by
  unfold RMAt at *
  simp [World.setRow, Array.getElem?_modify, h]
theorem ret_M2R {fn : Func} {p q : Tmp} {Q : Ending → World → Prop} {a : Act} {w : World} {b : Nat} {m : Int × Bool × Bool} {x : Value} (hr : fn.results = #[.cell p 39, .tmp q]) (hd : a.defers = []) (hp : a.tmps.getD p undef = .pointer (some ⟨b, 0, none⟩)) (hx : a.tmps.getD q undef = x) (h : RMAt w b m) (hQ : Q (.returned (.tuple #[mVal m, x])) w) :
    bodyPost Tryd.prog fn Q .ret a w := by
  refine bodyPost_ret (v := .tuple #[mVal m, x]) ?_ hd hQ
  rw [results_cell_tmp hr, hp, hx]
  simp [asAddr, Result.andThen, load_MR h]
theorem alloc_RMAt (w : World) (s : Int) (t z : Bool) : RMAt (w.alloc (.cells #[.int .i64 s, .bool t, .bool z] 39)) w.heap.size (s, t, z) := heap_alloc_last w _
theorem RMAt.c0 {w : World} {b : Nat} {m : Int × Bool × Bool} (h : RMAt w b m) : w.cell? ⟨b, 0, none⟩ = some (.int .i64 m.1) := h.cell 0
theorem RMAt.c1 {w : World} {b : Nat} {m : Int × Bool × Bool} (h : RMAt w b m) : w.cell? ⟨b, 1, none⟩ = some (.bool m.2.1) := h.cell 1
theorem RMAt.c2 {w : World} {b : Nat} {m : Int × Bool × Bool} (h : RMAt w b m) : w.cell? ⟨b, 2, none⟩ = some (.bool m.2.2) := h.cell 2
/-- Within the reference's Parse: the result's block, and what lay ahead. -/
structure RS (w0 : World) (c : Nat) (w : World) : Prop where
  res : RMAt w c mZero
  bel : Below w0.heap.size w0 w
  wc : w0.heap.size ≤ c
theorem RS.drew {w0 w w' : World} {c : Nat} (h : RS w0 c w) (hw : ∃ n, w' = w.drewN n) : RS w0 c w' := by
  obtain ⟨n, rfl⟩ := hw
  exact ⟨h.res.below (below_drewN (Below.refl _ _) n), below_drewN h.bel n, h.wc⟩
theorem RS.done {w0 w : World} {c : Nat} (h : RS w0 c w) (m : Int × Bool × Bool) : RMAt (w.setRow c (mCells m)) c m ∧ Below w0.heap.size w0 (w.setRow c (mCells m)) :=
  ⟨setRow_MR h.res, below_setRowM h.bel h.wc _⟩
theorem RS.start (w : World) : RS w w.heap.size (w.alloc (.cells #[.int .i64 0, .bool false, .bool false] 39)) :=
  ⟨alloc_RMAt w 0 false false, (Below.refl _ w).alloc (Nat.le_refl _) _, Nat.le_refl _⟩
end Go.Proofs.YtnklbeldheocmaaDoor
