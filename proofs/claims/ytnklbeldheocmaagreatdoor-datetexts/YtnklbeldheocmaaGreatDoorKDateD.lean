/- Texts laid as one. -/
import Derived.Test.YtnklbeldheocmaaGreatDoorKDateC
import Derived.Deep.MidRow
import Derived.Laws.ResultCell
/- Moments as values and in blocks; laws for loads and stores of them. -/
namespace Go.Proofs.YtnklbeldheocmaaGreatDoor
open Go.RowKit
def mCells (m : Int × Bool × Bool) : Array Value := #[.int .i64 m.1, .bool m.2.1, .bool m.2.2]
def mVal (m : Int × Bool × Bool) : Value := .agg (mCells m)
def mZero : Int × Bool × Bool := (0, false, false)
/-- A moment's block. -/
def MAt (w : World) (b : Nat) (m : Int × Bool × Bool) : Prop := w.heap[b]? = some (.cells (mCells m) 34 (0, 0))
theorem zeroM : (Tryz.prog.info? 34).map (fun i => (i.zero, i.size)) = some (some (mVal mZero), 3) := by kernel_rfl
theorem sizeM : (Tryz.prog.info? 34).map (·.size) = some 3 := by kernel_rfl
theorem MAt.lt {w : World} {b : Nat} {m : Int × Bool × Bool} (h : MAt w b m) : b < w.heap.size := (Array.getElem?_eq_some_iff.1 h).1
theorem MAt.cell {w : World} {b : Nat} {m : Int × Bool × Bool} (h : MAt w b m) (i : Nat) : w.cell? ⟨b, i, none⟩ = (mCells m)[i]? := Lib.cell_of_heap h i
theorem MAt.free {w : World} {b : Nat} {m : Int × Bool × Bool} (h : MAt w b m) (i : Nat) : w.frozen? ⟨b, i, none⟩ = false := Lib.frozen_of_heap h i
theorem MAt.kept {w w' : World} {b c : Nat} {m : Int × Bool × Bool} (h : MAt w c m) (hk : Kept b w w') (hn : c ≠ b) : MAt w' c m := (hk.block c h.lt hn).trans h
theorem MAt.below {w w' : World} {c : Nat} {m : Int × Bool × Bool} (h : MAt w c m) (hb : Below w.heap.size w w') : MAt w' c m := (hb.block c h.lt).trans h
theorem MAt.other {w : World} {b : Nat} {m : Int × Bool × Bool} (h : MAt w b m) {p : Addr} (hn : b ≠ p.block) (v : Value) : MAt (w.setCell p v) b m := (Below.heap_setCell _ _ _ _ hn).trans h
theorem MAt.secs {w : World} {b : Nat} {m : Int × Bool × Bool} (h : MAt w b m) (s : Int) : MAt (w.setCell ⟨b, 0, none⟩ (.int .i64 s)) b (s, m.2) := Go.Joins.block_setCell h _
theorem MAt.time {w : World} {b : Nat} {m : Int × Bool × Bool} (h : MAt w b m) (t : Bool) : MAt (w.setCell ⟨b, 1, none⟩ (.bool t)) b (m.1, t, m.2.2) := Go.Joins.block_setCell h _
theorem MAt.zone {w : World} {b : Nat} {m : Int × Bool × Bool} (h : MAt w b m) (z : Bool) : MAt (w.setCell ⟨b, 2, none⟩ (.bool z)) b (m.1, m.2.1, z) := Go.Joins.block_setCell h _
theorem load_M {w : World} {b : Nat} {m : Int × Bool × Bool} (h : MAt w b m) : (loadVar 34 ⟨b, 0, none⟩).run Tryz.prog w = .ok (mVal m) w :=
  run_loadVar_row _ _ _ _ _ _ _ h Tryz.underlying34 rfl sizeM
theorem loadAt_M {w : World} {b : Nat} {m : Int × Bool × Bool} (h : MAt w b m) : (Instr.loadAt 34 (.pointer (some ⟨b, 0, none⟩))).run Tryz.prog w = .ok (mVal m) w := by
  simp only [Instr.loadAt, Instr.sureAddr, Sem.run_bind, Sem.run_pure, Result.andThen]
  exact load_M h
theorem storeAt_M {w : World} {b : Nat} {m n : Int × Bool × Bool} (h : MAt w b n) : (Instr.storeAt 34 (.pointer (some ⟨b, 0, none⟩)) (mVal m)).run Tryz.prog w = .ok () (w.setRow b (mCells m)) := by
  simp only [Instr.storeAt, Instr.sureAddr, Sem.run_bind, Sem.run_pure, Result.andThen]
  exact run_storeVar_row _ _ _ _ _ _ h sizeM rfl (by simp [mCells, Value.oneCell'])
theorem wpList_store_M {ops : Array Oper} {rest : List Oper} {o : Oper} {a : Act} {w : World} {Q : Exit → Act → World → Prop} (x y : Operand) (ho : o.op = .store 34 x y) (hg : o.guard = none) (b : Nat) (m n : Int × Bool × Bool) (hx : a.eval x = .pointer (some ⟨b, 0, none⟩)) (hy : a.eval y = mVal m) (h : MAt w b n)
    (hn : wpList Tryz.prog ops Q rest (a.put o.dst undef) (w.setRow b (mCells m))) : wpList Tryz.prog ops Q (o :: rest) a w := by
  refine wpList_plain hg fun K hK => ?_
  unfold Oper.wp
  have e : (execOp a.eval o).run Tryz.prog w = .ok .skip (w.setRow b (mCells m)) := by
    unfold execOp
    rw [ho]
    simp only [hx, hy, Sem.run_bind, storeAt_M h, Result.andThen, Sem.run_pure]
  rw [e, Oper.upon_skip]
  exact hK _ _ hn
theorem wpList_load_M {ops : Array Oper} {rest : List Oper} {o : Oper} {a : Act} {w : World} {Q : Exit → Act → World → Prop} (x : Operand) (ho : o.op = .load 34 x) (hg : o.guard = none) (b : Nat) (m : Int × Bool × Bool) (hx : a.eval x = .pointer (some ⟨b, 0, none⟩)) (h : MAt w b m)
    (hn : wpList Tryz.prog ops Q rest (a.put o.dst (mVal m)) w) : wpList Tryz.prog ops Q (o :: rest) a w := by
  refine wpList_plain hg fun K hK => ?_
  unfold Oper.wp
  have e : (execOp a.eval o).run Tryz.prog w = .ok (.value (mVal m)) w := by
    unfold execOp
    rw [ho]
    simp only [hx, Sem.run_bind, loadAt_M h, Result.andThen, Sem.run_pure]
  rw [e, Oper.upon_value]
  exact hK _ _ hn
theorem setRow_M {w : World} {b : Nat} {m n : Int × Bool × Bool} (h : MAt w b m) : MAt (w.setRow b (mCells n)) b n := by
  unfold MAt at *
  simp [World.setRow, Array.getElem?_modify, h]
theorem kept_setRow (b : Nat) (w : World) (cs : Array Value) : Kept b w (w.setRow b cs) :=
  ⟨rfl, rfl, rfl, by simp [World.setRow], fun k _ hb => by simp [World.setRow, Array.getElem?_modify, Ne.symm hb]⟩
theorem ret_M2 {fn : Func} {p q : Tmp} {Q : Ending → World → Prop} {a : Act} {w : World} {b : Nat} {m : Int × Bool × Bool} {x : Value} (hr : fn.results = #[.cell p 34, .tmp q]) (hd : a.defers = []) (hp : a.tmps.getD p undef = .pointer (some ⟨b, 0, none⟩)) (hx : a.tmps.getD q undef = x) (h : MAt w b m) (hQ : Q (.returned (.tuple #[mVal m, x])) w) :
    bodyPost Tryz.prog fn Q .ret a w := by
  refine bodyPost_ret (v := .tuple #[mVal m, x]) ?_ hd hQ
  rw [results_cell_tmp hr, hp, hx]
  simp [asAddr, Result.andThen, load_M h]
/-- Another world to begin with. -/
theorem Rd.base {w0 w : World} {b : Nat} {l : List UInt8} (h : Rd w0 b l w) : Rd w b l w := ⟨h.at_, h.len, h.lo, h.ah, Kept.refl b w⟩
theorem Rd.comp {w0 w w' : World} {b : Nat} {l r : List UInt8} (h : Rd w0 b l w) (k : Rd w b r w') : Rd w0 b r w' := ⟨k.at_, k.len, k.lo, k.ah, h.kept.trans k.kept⟩
end Go.Proofs.YtnklbeldheocmaaGreatDoor
/- The contract of the reader's moment. -/
namespace Go.Proofs.YtnklbeldheocmaaGreatDoor
open Go.RowKit
theorem alloc_MAt (w : World) (s : Int) : MAt (w.alloc (.cells #[.int .i64 s, .bool false, .bool false] 34)) w.heap.size (s, false, false) := heap_alloc_last w _
theorem Kept.setRow {b c : Nat} {w0 w : World} (h : Kept b w0 w) (hc : w0.heap.size ≤ c) (cs : Array Value) : Kept b w0 (w.setRow c cs) :=
  ⟨h.os, h.tape, h.output, by simp [World.setRow]; exact h.size, fun k hk hb => by
    rw [← h.block k hk hb]
    simp [World.setRow, Array.getElem?_modify, show ¬ c = k by omega]⟩
theorem Kept.setCell {b c i : Nat} {w0 w : World} (h : Kept b w0 w) (hc : w0.heap.size ≤ c) (v : Value) : Kept b w0 (w.setCell ⟨c, i, none⟩ v) := by
  have h2 := (Below.refl 0 w).setCell (p := ⟨c, i, none⟩) (Nat.zero_le _) v
  exact ⟨h2.os.trans h.os, h2.tape.trans h.tape, h2.output.trans h.output, Nat.le_trans h.size h2.size, fun k hk hb => (Below.heap_setCell _ _ _ _ (by show k ≠ c; omega)).trans (h.block k hk hb)⟩
theorem Rd.setRow {w0 w : World} {b c : Nat} {l : List UInt8} (h : Rd w0 b l w) (hc : w0.heap.size ≤ c) (hb : b < c) (cs : Array Value) : Rd w0 b l (w.setRow c cs) := by
  have hk : Kept c w (w.setRow c cs) := kept_setRow c w cs
  exact ⟨(hk.block b h.lt (by omega)).trans h.at_, h.len, h.lo, h.ah.belowB (hk.below b (by omega) (Nat.le_of_lt h.lt)) h.lo, h.kept.setRow hc cs⟩
theorem Rd.setCell {w0 w : World} {b c i : Nat} {l : List UInt8} (h : Rd w0 b l w) (hc : w0.heap.size ≤ c) (hb : b < c) (v : Value) : Rd w0 b l (w.setCell ⟨c, i, none⟩ v) := by
  have hk : Below b w (w.setCell ⟨c, i, none⟩ v) := (Below.refl b w).setCell (p := ⟨c, i, none⟩) (by show b ≤ c; omega) v
  exact ⟨(Below.heap_setCell _ _ _ _ (by show b ≠ c; omega)).trans h.at_, h.len, h.lo, h.ah.belowB hk h.lo, h.kept.setCell hc v⟩
/-- Within moment: the reader at b, the result at c, what is got at g. -/
structure Mm (w0 : World) (b c g : Nat) (l : List UInt8) (m : Int × Bool × Bool) (w : World) : Prop where
  rd : Rd w0 b l w
  res : MAt w c mZero
  got : MAt w g m
  wc : w0.heap.size ≤ c
  bc : b < c
  cg : c < g
theorem Mm.step {w0 w w' : World} {b c g : Nat} {l r : List UInt8} {m : Int × Bool × Bool} (h : Mm w0 b c g l m w) (k : Rd w b r w') : Mm w0 b c g r m w' :=
  ⟨h.rd.comp k, h.res.kept k.kept (by have := h.bc; omega), h.got.kept k.kept (by have := h.bc; have := h.cg; omega), h.wc, h.bc, h.cg⟩
theorem Mm.secs {w0 w : World} {b c g : Nat} {l : List UInt8} {m : Int × Bool × Bool} (h : Mm w0 b c g l m w) (s : Int) : Mm w0 b c g l (s, m.2) (w.setCell ⟨g, 0, none⟩ (.int .i64 s)) :=
  ⟨h.rd.setCell (by have := h.wc; have := h.cg; omega) (by have := h.bc; have := h.cg; omega) _, h.res.other (by show c ≠ g; have := h.cg; omega) _, h.got.secs s, h.wc, h.bc, h.cg⟩
theorem Mm.time {w0 w : World} {b c g : Nat} {l : List UInt8} {m : Int × Bool × Bool} (h : Mm w0 b c g l m w) (t : Bool) : Mm w0 b c g l (m.1, t, m.2.2) (w.setCell ⟨g, 1, none⟩ (.bool t)) :=
  ⟨h.rd.setCell (by have := h.wc; have := h.cg; omega) (by have := h.bc; have := h.cg; omega) _, h.res.other (by show c ≠ g; have := h.cg; omega) _, h.got.time t, h.wc, h.bc, h.cg⟩
theorem Mm.zone {w0 w : World} {b c g : Nat} {l : List UInt8} {m : Int × Bool × Bool} (h : Mm w0 b c g l m w) (t : Bool) : Mm w0 b c g l (m.1, m.2.1, t) (w.setCell ⟨g, 2, none⟩ (.bool t)) :=
  ⟨h.rd.setCell (by have := h.wc; have := h.cg; omega) (by have := h.bc; have := h.cg; omega) _, h.res.other (by show c ≠ g; have := h.cg; omega) _, h.got.zone t, h.wc, h.bc, h.cg⟩
theorem Mm.done {w0 w : World} {b c g : Nat} {l : List UInt8} {m n : Int × Bool × Bool} (h : Mm w0 b c g l m w) : MAt (w.setRow c (mCells n)) c n ∧ Rd w0 b l (w.setRow c (mCells n)) :=
  ⟨setRow_M h.res, h.rd.setRow h.wc h.bc _⟩
/-- The start: the result is laid, the day is read, and the moment is laid. -/
theorem Mm.start {w0 w w1 : World} {b : Nat} {l r : List UInt8} (hL : Rd w0 b l w) (s : Int) (hR : Rd (w.alloc (.cells #[.int .i64 0, .bool false, .bool false] 34)) b r w1) :
    Mm w0 b w.heap.size w1.heap.size r (s, false, false) (w1.alloc (.cells #[.int .i64 s, .bool false, .bool false] 34)) := by
  have hA := (Below.refl _ w).alloc (Nat.le_refl _) (.cells #[.int .i64 0, .bool false, .bool false] 34)
  have hL0 := hL.step hA
  have hcb : w.heap.size ≠ b := by have := hL.lt; omega
  have hC1 := (alloc_MAt w 0).kept hR.kept hcb
  have hB := (Below.refl _ w1).alloc (Nat.le_refl _) (.cells #[.int .i64 s, .bool false, .bool false] 34)
  exact ⟨(hL0.comp hR).step hB, hC1.below hB, alloc_MAt w1 s, hL.kept.size, hL.lt, hC1.lt⟩
theorem MAt.c0 {w : World} {b : Nat} {m : Int × Bool × Bool} (h : MAt w b m) : w.cell? ⟨b, 0, none⟩ = some (.int .i64 m.1) := h.cell 0
theorem MAt.c1 {w : World} {b : Nat} {m : Int × Bool × Bool} (h : MAt w b m) : w.cell? ⟨b, 1, none⟩ = some (.bool m.2.1) := h.cell 1
theorem MAt.c2 {w : World} {b : Nat} {m : Int × Bool × Bool} (h : MAt w b m) : w.cell? ⟨b, 2, none⟩ = some (.bool m.2.2) := h.cell 2
theorem mVal_eq (s : Int) (t z : Bool) : mVal (s, t, z) = .agg #[.int .i64 s, .bool t, .bool z] := rfl
end Go.Proofs.YtnklbeldheocmaaGreatDoor
/- Walks of the reader's moment. -/
namespace Go.Proofs.YtnklbeldheocmaaGreatDoor
open Go.RowKit
set_option maxRecDepth 100000 in
set_option maxHeartbeats 2000000 in
theorem moment_day_no {w0 w : World} {b : Nat} {l : List UInt8} (hL : Rd w0 b l w) (h : Dat.dayP l = none) :
    Calls Tryz.prog 26 #[.pointer (some ⟨b, 0, none⟩)] w fun e w' => ∃ m, e = .returned (.tuple #[mVal m, .bool false]) ∧ ∃ r, Rd w0 b r w' := by
  have hz := (zero_of_info zeroM).1
  unfold mVal mCells mZero at hz
  have hA := (Below.refl _ w).alloc (Nat.le_refl _) (.cells #[.int .i64 0, .bool false, .bool false] 34)
  have hL0 := (hL.step hA).base
  go_enter Tryz.func26, Tryz.ntmps26
  go_wp2_with (first
    | (go_at_call 14; refine (day_no hL0 h).mono ?_; rintro e w1 ⟨rfl, r, hR⟩; have hM := Mm.start hL 0 hR; clear hR hL0)
    | ((with_reducible show wpList _ _ _ ({ dst := _, op := Op.store 34 _ _, type := _, pos := _, after := _, guard := _ } :: _) _ _); refine wpList_store_M _ _ rfl rfl w.heap.size ((0, false, false)) mZero rfl rfl hM.res ?_))
  exact ret_M2 (m := (0, false, false)) rfl rfl rfl rfl hM.done.1 ⟨_, rfl, _, hM.done.2⟩
set_option maxRecDepth 100000 in
set_option maxHeartbeats 2000000 in
theorem moment_day {w0 w : World} {b : Nat} {l l1 : List UInt8} {d : Int} (hL : Rd w0 b l w) (h : Dat.dayP l = some (d, l1)) (d1 : -1000000 ≤ d) (d2 : d ≤ 3000000) (he : l1 = []) :
    Calls Tryz.prog 26 #[.pointer (some ⟨b, 0, none⟩)] w fun e w' => e = .returned (.tuple #[mVal (d * 86400, false, false), .bool true]) ∧ Rd w0 b (l1) w' := by
  have hz := (zero_of_info zeroM).1
  unfold mVal mCells mZero at hz
  have hA := (Below.refl _ w).alloc (Nat.le_refl _) (.cells #[.int .i64 0, .bool false, .bool false] 34)
  have hL0 := (hL.step hA).base
  have hq := left_no he
  clear he
  go_enter Tryz.func26, Tryz.ntmps26
  go_wp2_with (first
    | (go_at_call 14; refine (day_yes hL0 h).mono ?_; rintro e w1 ⟨rfl, hR⟩; have hM := Mm.start hL (d * 86400) hR; have hcell := hM.rd.cell; clear hR hL0)
    | ((with_reducible show wpList _ _ _ ({ dst := _, op := Op.store 34 _ _, type := _, pos := _, after := _, guard := _ } :: _) _ _); refine wpList_store_M _ _ rfl rfl w.heap.size ((d * 86400, false, false)) mZero rfl rfl hM.res ?_))
  exact ret_M2 (m := (d * 86400, false, false)) rfl rfl rfl rfl hM.done.1 ⟨rfl, hM.done.2⟩
set_option maxRecDepth 100000 in
set_option maxHeartbeats 2000000 in
theorem moment_gap_no {w0 w : World} {b : Nat} {l l1 : List UInt8} {d : Int} (hL : Rd w0 b l w) (h : Dat.dayP l = some (d, l1)) (d1 : -1000000 ≤ d) (d2 : d ≤ 3000000) (he : ¬ l1 = []) (g1 : Dat.rd1 84 l1 = none) (g2 : Dat.rd1 116 l1 = none) (g3 : (l1.length : Int) - ((l1.dropWhile Dat.sp).length : Int) = 0) :
    Calls Tryz.prog 26 #[.pointer (some ⟨b, 0, none⟩)] w fun e w' => ∃ m, e = .returned (.tuple #[mVal m, .bool false]) ∧ ∃ r, Rd w0 b r w' := by
  have hz := (zero_of_info zeroM).1
  unfold mVal mCells mZero at hz
  have hA := (Below.refl _ w).alloc (Nat.le_refl _) (.cells #[.int .i64 0, .bool false, .bool false] 34)
  have hL0 := (hL.step hA).base
  have cS := fun (w2 : World) (g : Nat) (m : Int × Bool × Bool) (hM : Mm w0 b w.heap.size g l1 m w2) => skip_any _ _ hM.rd.base (drop_len Dat.sp l1) (fun w => TrimBlank_any l1 w)
  have hq := left_some he
  clear he
  go_enter Tryz.func26, Tryz.ntmps26
  go_wp2_with (first
    | (go_at_call 14; refine (day_yes hL0 h).mono ?_; rintro e w1 ⟨rfl, hR⟩; have hM := Mm.start hL (d * 86400) hR; have hcell := hM.rd.cell; clear hR hL0)
    | (go_at_call_of 31 (Value.string ⟨#[84]⟩); refine (takes_no 84 hM.rd.base g1).mono ?_; rintro e wn ⟨rfl, hR⟩; replace hM := hM.step hR; clear hR)
    | (go_at_call_of 31 (Value.string ⟨#[116]⟩); refine (takes_no 116 hM.rd.base g2).mono ?_; rintro e wn ⟨rfl, hR⟩; replace hM := hM.step hR; clear hR)
    | (go_at_call 44; refine (cS _ _ _ hM).mono ?_; rintro e wn ⟨rfl, hR⟩; replace hM := hM.step hR; clear hR)
    | ((with_reducible show wpList _ _ _ ({ dst := _, op := Op.store 34 _ _, type := _, pos := _, after := _, guard := _ } :: _) _ _); refine wpList_store_M _ _ rfl rfl w.heap.size (mZero) mZero rfl rfl hM.res ?_))
  exact ret_M2 (m := mZero) rfl rfl rfl rfl hM.done.1 ⟨_, rfl, _, hM.done.2⟩
set_option maxRecDepth 100000 in
set_option maxHeartbeats 2000000 in
theorem moment_T_clock_no {w0 w : World} {b : Nat} {l l1 l2 : List UInt8} {d : Int} (hL : Rd w0 b l w) (h : Dat.dayP l = some (d, l1)) (d1 : -1000000 ≤ d) (d2 : d ≤ 3000000) (he : ¬ l1 = []) (g1 : Dat.rd1 84 l1 = some l2) (k : Dat.clockP (l2) = none) :
    Calls Tryz.prog 26 #[.pointer (some ⟨b, 0, none⟩)] w fun e w' => ∃ m, e = .returned (.tuple #[mVal m, .bool false]) ∧ ∃ r, Rd w0 b r w' := by
  have hz := (zero_of_info zeroM).1
  unfold mVal mCells mZero at hz
  have hA := (Below.refl _ w).alloc (Nat.le_refl _) (.cells #[.int .i64 0, .bool false, .bool false] 34)
  have hL0 := (hL.step hA).base
  have hq := left_some he
  clear he
  go_enter Tryz.func26, Tryz.ntmps26
  go_wp2_with (first
    | (go_at_call 14; refine (day_yes hL0 h).mono ?_; rintro e w1 ⟨rfl, hR⟩; have hM := Mm.start hL (d * 86400) hR; have hcell := hM.rd.cell; clear hR hL0)
    | (go_at_call_of 31 (Value.string ⟨#[84]⟩); refine (takes_yes 84 hM.rd.base g1).mono ?_; rintro e wn ⟨rfl, hR⟩; replace hM := hM.step hR; clear hR)
    | (go_at_call 19; refine (clock_no hM.rd.base k).mono ?_; rintro e wn ⟨v, rfl, r, hR⟩; replace hM := hM.step hR; clear hR)
    | ((with_reducible show wpList _ _ _ ({ dst := _, op := Op.store 34 _ _, type := _, pos := _, after := _, guard := _ } :: _) _ _); refine wpList_store_M _ _ rfl rfl w.heap.size (mZero) mZero rfl rfl hM.res ?_))
  exact ret_M2 (m := mZero) rfl rfl rfl rfl hM.done.1 ⟨_, rfl, _, hM.done.2⟩
set_option maxRecDepth 100000 in
set_option maxHeartbeats 2000000 in
theorem moment_T_clock {w0 w : World} {b : Nat} {l3 l l1 l2 : List UInt8} {d t : Int} (hL : Rd w0 b l w) (h : Dat.dayP l = some (d, l1)) (d1 : -1000000 ≤ d) (d2 : d ≤ 3000000) (he : ¬ l1 = []) (g1 : Dat.rd1 84 l1 = some l2) (k : Dat.clockP (l2) = some (t, l3)) (t1 : 0 ≤ t) (t2 : t ≤ 86400) (he2 : l3.dropWhile Dat.sp = []) :
    Calls Tryz.prog 26 #[.pointer (some ⟨b, 0, none⟩)] w fun e w' => e = .returned (.tuple #[mVal (d * 86400 + t, true, false), .bool true]) ∧ Rd w0 b (l3.dropWhile Dat.sp) w' := by
  have hz := (zero_of_info zeroM).1
  unfold mVal mCells mZero at hz
  have hA := (Below.refl _ w).alloc (Nat.le_refl _) (.cells #[.int .i64 0, .bool false, .bool false] 34)
  have hL0 := (hL.step hA).base
  have hq := left_some he
  clear he
  have hq2 := left_no he2
  clear he2
  go_enter Tryz.func26, Tryz.ntmps26
  go_wp2_with (first
    | (go_at_call 14; refine (day_yes hL0 h).mono ?_; rintro e w1 ⟨rfl, hR⟩; have hM := Mm.start hL (d * 86400) hR; have hcell := hM.rd.cell; clear hR hL0)
    | (go_at_call_of 31 (Value.string ⟨#[84]⟩); refine (takes_yes 84 hM.rd.base g1).mono ?_; rintro e wn ⟨rfl, hR⟩; replace hM := hM.step hR; clear hR)
    | (go_at_call 19; refine (clock_yes hM.rd.base k).mono ?_; rintro e wc ⟨rfl, hR⟩; replace hM := hM.step hR; clear hR; have q0 := hM.got.c0; have q1 := hM.got.free 0; have hM1 := hM.secs (d * 86400 + t); have q2 := hM1.got.c1; have q3 := hM1.got.free 1; have hM2 := hM1.time true))
  have hM := hM2
  clear hM2 hM1 hcell q0 q1 q2 q3
  generalize (World.setCell (World.setCell wc ⟨w1.heap.size, 0, none⟩ (.int .i64 (d * 86400 + t))) ⟨w1.heap.size, 1, none⟩ (.bool true)) = W at hM
  go_wp2_with (first
    | (go_at_call 44; refine (skip_any _ _ hM.rd.base (drop_len Dat.sp l3) (fun w => TrimBlank_any l3 w)).mono ?_; rintro e wn ⟨rfl, hR⟩; replace hM := hM.step hR; clear hR; have hcell := hM.rd.cell)
    | ((with_reducible show wpList _ _ _ ({ dst := _, op := Op.load 34 _, type := _, pos := _, after := _, guard := _ } :: _) _ _); refine wpList_load_M _ rfl rfl w1.heap.size ((d * 86400 + t, true, false)) rfl hM.got ?_)
    | ((with_reducible show wpList _ _ _ ({ dst := _, op := Op.store 34 _ _, type := _, pos := _, after := _, guard := _ } :: _) _ _); refine wpList_store_M _ _ rfl rfl w.heap.size ((d * 86400 + t, true, false)) mZero rfl rfl hM.res ?_))
  exact ret_M2 (m := (d * 86400 + t, true, false)) rfl rfl rfl rfl hM.done.1 ⟨rfl, hM.done.2⟩
set_option maxRecDepth 100000 in
set_option maxHeartbeats 2000000 in
theorem moment_T_zone_no {w0 w : World} {b : Nat} {l3 l l1 l2 : List UInt8} {d t : Int} (hL : Rd w0 b l w) (h : Dat.dayP l = some (d, l1)) (d1 : -1000000 ≤ d) (d2 : d ≤ 3000000) (he : ¬ l1 = []) (g1 : Dat.rd1 84 l1 = some l2) (k : Dat.clockP (l2) = some (t, l3)) (t1 : 0 ≤ t) (t2 : t ≤ 86400) (he2 : ¬ l3.dropWhile Dat.sp = []) (z : Dat.zoneP (l3.dropWhile Dat.sp) = none) :
    Calls Tryz.prog 26 #[.pointer (some ⟨b, 0, none⟩)] w fun e w' => ∃ m, e = .returned (.tuple #[mVal m, .bool false]) ∧ ∃ r, Rd w0 b r w' := by
  have hz := (zero_of_info zeroM).1
  unfold mVal mCells mZero at hz
  have hA := (Below.refl _ w).alloc (Nat.le_refl _) (.cells #[.int .i64 0, .bool false, .bool false] 34)
  have hL0 := (hL.step hA).base
  have hq := left_some he
  clear he
  have hq2 := left_some he2
  clear he2
  go_enter Tryz.func26, Tryz.ntmps26
  go_wp2_with (first
    | (go_at_call 14; refine (day_yes hL0 h).mono ?_; rintro e w1 ⟨rfl, hR⟩; have hM := Mm.start hL (d * 86400) hR; have hcell := hM.rd.cell; clear hR hL0)
    | (go_at_call_of 31 (Value.string ⟨#[84]⟩); refine (takes_yes 84 hM.rd.base g1).mono ?_; rintro e wn ⟨rfl, hR⟩; replace hM := hM.step hR; clear hR)
    | (go_at_call 19; refine (clock_yes hM.rd.base k).mono ?_; rintro e wc ⟨rfl, hR⟩; replace hM := hM.step hR; clear hR; have q0 := hM.got.c0; have q1 := hM.got.free 0; have hM1 := hM.secs (d * 86400 + t); have q2 := hM1.got.c1; have q3 := hM1.got.free 1; have hM2 := hM1.time true))
  have hM := hM2
  clear hM2 hM1 hcell q0 q1 q2 q3
  generalize (World.setCell (World.setCell wc ⟨w1.heap.size, 0, none⟩ (.int .i64 (d * 86400 + t))) ⟨w1.heap.size, 1, none⟩ (.bool true)) = W at hM
  go_wp2_with (first
    | (go_at_call 44; refine (skip_any _ _ hM.rd.base (drop_len Dat.sp l3) (fun w => TrimBlank_any l3 w)).mono ?_; rintro e wn ⟨rfl, hR⟩; replace hM := hM.step hR; clear hR; have hcell := hM.rd.cell)
    | (go_at_call 23; refine (zone_no hM.rd.base z).mono ?_; rintro e wn ⟨v, rfl, r, hR⟩; replace hM := hM.step hR; clear hR; have q0 := hM.got.c0; have q1 := hM.got.free 0; have hM1 := hM.secs (wrap64 (d * 86400 + t - v)); have q2 := hM1.got.c2; have q3 := hM1.got.free 2; have hM2 := hM1.zone true; replace hM := hM2; clear hM2)
    | ((with_reducible show wpList _ _ _ ({ dst := _, op := Op.load 34 _, type := _, pos := _, after := _, guard := _ } :: _) _ _); refine wpList_load_M _ rfl rfl w1.heap.size (_) rfl hM.got ?_)
    | ((with_reducible show wpList _ _ _ ({ dst := _, op := Op.store 34 _ _, type := _, pos := _, after := _, guard := _ } :: _) _ _); refine wpList_store_M _ _ rfl rfl w.heap.size (_) mZero rfl rfl hM.res ?_))
  exact ret_M2 rfl rfl rfl rfl hM.done.1 ⟨_, rfl, _, hM.done.2⟩
set_option maxRecDepth 100000 in
set_option maxHeartbeats 2000000 in
theorem moment_T_zone {w0 w : World} {b : Nat} {l3 l l1 l2 : List UInt8} {d t v : Int} {r : List UInt8} (hL : Rd w0 b l w) (h : Dat.dayP l = some (d, l1)) (d1 : -1000000 ≤ d) (d2 : d ≤ 3000000) (he : ¬ l1 = []) (g1 : Dat.rd1 84 l1 = some l2) (k : Dat.clockP (l2) = some (t, l3)) (t1 : 0 ≤ t) (t2 : t ≤ 86400) (he2 : ¬ l3.dropWhile Dat.sp = []) (z : Dat.zoneP (l3.dropWhile Dat.sp) = some (v, r)) (v1 : -100000 ≤ v) (v2 : v ≤ 100000) :
    Calls Tryz.prog 26 #[.pointer (some ⟨b, 0, none⟩)] w fun e w' => e = .returned (.tuple #[mVal (d * 86400 + t - v, true, true), .bool true]) ∧ Rd w0 b (r) w' := by
  have hz := (zero_of_info zeroM).1
  unfold mVal mCells mZero at hz
  have hA := (Below.refl _ w).alloc (Nat.le_refl _) (.cells #[.int .i64 0, .bool false, .bool false] 34)
  have hL0 := (hL.step hA).base
  have hq := left_some he
  clear he
  have hq2 := left_some he2
  clear he2
  go_enter Tryz.func26, Tryz.ntmps26
  go_wp2_with (first
    | (go_at_call 14; refine (day_yes hL0 h).mono ?_; rintro e w1 ⟨rfl, hR⟩; have hM := Mm.start hL (d * 86400) hR; have hcell := hM.rd.cell; clear hR hL0)
    | (go_at_call_of 31 (Value.string ⟨#[84]⟩); refine (takes_yes 84 hM.rd.base g1).mono ?_; rintro e wn ⟨rfl, hR⟩; replace hM := hM.step hR; clear hR)
    | (go_at_call 19; refine (clock_yes hM.rd.base k).mono ?_; rintro e wc ⟨rfl, hR⟩; replace hM := hM.step hR; clear hR; have q0 := hM.got.c0; have q1 := hM.got.free 0; have hM1 := hM.secs (d * 86400 + t); have q2 := hM1.got.c1; have q3 := hM1.got.free 1; have hM2 := hM1.time true))
  have hM := hM2
  clear hM2 hM1 hcell q0 q1 q2 q3
  generalize (World.setCell (World.setCell wc ⟨w1.heap.size, 0, none⟩ (.int .i64 (d * 86400 + t))) ⟨w1.heap.size, 1, none⟩ (.bool true)) = W at hM
  go_wp2_with (first
    | (go_at_call 44; refine (skip_any _ _ hM.rd.base (drop_len Dat.sp l3) (fun w => TrimBlank_any l3 w)).mono ?_; rintro e wn ⟨rfl, hR⟩; replace hM := hM.step hR; clear hR; have hcell := hM.rd.cell)
    | (go_at_call 23; refine (zone_yes hM.rd.base z).mono ?_; rintro e wn ⟨rfl, hR⟩; replace hM := hM.step hR; clear hR; have q0 := hM.got.c0; have q1 := hM.got.free 0; have hM1 := hM.secs (d * 86400 + t - v); have q2 := hM1.got.c2; have q3 := hM1.got.free 2; have hM2 := hM1.zone true; replace hM := hM2; clear hM2)
    | ((with_reducible show wpList _ _ _ ({ dst := _, op := Op.load 34 _, type := _, pos := _, after := _, guard := _ } :: _) _ _); refine wpList_load_M _ rfl rfl w1.heap.size ((d * 86400 + t - v, true, true)) rfl hM.got ?_)
    | ((with_reducible show wpList _ _ _ ({ dst := _, op := Op.store 34 _ _, type := _, pos := _, after := _, guard := _ } :: _) _ _); refine wpList_store_M _ _ rfl rfl w.heap.size ((d * 86400 + t - v, true, true)) mZero rfl rfl hM.res ?_))
  exact ret_M2 (m := (d * 86400 + t - v, true, true)) rfl rfl rfl rfl hM.done.1 ⟨rfl, hM.done.2⟩
end Go.Proofs.YtnklbeldheocmaaGreatDoor
/- Walks of the reader's moment. -/
namespace Go.Proofs.YtnklbeldheocmaaGreatDoor
open Go.RowKit
set_option maxRecDepth 100000 in
set_option maxHeartbeats 2000000 in
theorem moment_t_clock_no {w0 w : World} {b : Nat} {l l1 l2 : List UInt8} {d : Int} (hL : Rd w0 b l w) (h : Dat.dayP l = some (d, l1)) (d1 : -1000000 ≤ d) (d2 : d ≤ 3000000) (he : ¬ l1 = []) (g1 : Dat.rd1 84 l1 = none) (g2 : Dat.rd1 116 l1 = some l2) (k : Dat.clockP (l2) = none) :
    Calls Tryz.prog 26 #[.pointer (some ⟨b, 0, none⟩)] w fun e w' => ∃ m, e = .returned (.tuple #[mVal m, .bool false]) ∧ ∃ r, Rd w0 b r w' := by
  have hz := (zero_of_info zeroM).1
  unfold mVal mCells mZero at hz
  have hA := (Below.refl _ w).alloc (Nat.le_refl _) (.cells #[.int .i64 0, .bool false, .bool false] 34)
  have hL0 := (hL.step hA).base
  have hq := left_some he
  clear he
  go_enter Tryz.func26, Tryz.ntmps26
  go_wp2_with (first
    | (go_at_call 14; refine (day_yes hL0 h).mono ?_; rintro e w1 ⟨rfl, hR⟩; have hM := Mm.start hL (d * 86400) hR; have hcell := hM.rd.cell; clear hR hL0)
    | (go_at_call_of 31 (Value.string ⟨#[84]⟩); refine (takes_no 84 hM.rd.base g1).mono ?_; rintro e wn ⟨rfl, hR⟩; replace hM := hM.step hR; clear hR)
    | (go_at_call_of 31 (Value.string ⟨#[116]⟩); refine (takes_yes 116 hM.rd.base g2).mono ?_; rintro e wn ⟨rfl, hR⟩; replace hM := hM.step hR; clear hR)
    | (go_at_call 19; refine (clock_no hM.rd.base k).mono ?_; rintro e wn ⟨v, rfl, r, hR⟩; replace hM := hM.step hR; clear hR)
    | ((with_reducible show wpList _ _ _ ({ dst := _, op := Op.store 34 _ _, type := _, pos := _, after := _, guard := _ } :: _) _ _); refine wpList_store_M _ _ rfl rfl w.heap.size (mZero) mZero rfl rfl hM.res ?_))
  exact ret_M2 (m := mZero) rfl rfl rfl rfl hM.done.1 ⟨_, rfl, _, hM.done.2⟩
set_option maxRecDepth 100000 in
set_option maxHeartbeats 2000000 in
theorem moment_t_clock {w0 w : World} {b : Nat} {l3 l l1 l2 : List UInt8} {d t : Int} (hL : Rd w0 b l w) (h : Dat.dayP l = some (d, l1)) (d1 : -1000000 ≤ d) (d2 : d ≤ 3000000) (he : ¬ l1 = []) (g1 : Dat.rd1 84 l1 = none) (g2 : Dat.rd1 116 l1 = some l2) (k : Dat.clockP (l2) = some (t, l3)) (t1 : 0 ≤ t) (t2 : t ≤ 86400) (he2 : l3.dropWhile Dat.sp = []) :
    Calls Tryz.prog 26 #[.pointer (some ⟨b, 0, none⟩)] w fun e w' => e = .returned (.tuple #[mVal (d * 86400 + t, true, false), .bool true]) ∧ Rd w0 b (l3.dropWhile Dat.sp) w' := by
  have hz := (zero_of_info zeroM).1
  unfold mVal mCells mZero at hz
  have hA := (Below.refl _ w).alloc (Nat.le_refl _) (.cells #[.int .i64 0, .bool false, .bool false] 34)
  have hL0 := (hL.step hA).base
  have hq := left_some he
  clear he
  have hq2 := left_no he2
  clear he2
  go_enter Tryz.func26, Tryz.ntmps26
  go_wp2_with (first
    | (go_at_call 14; refine (day_yes hL0 h).mono ?_; rintro e w1 ⟨rfl, hR⟩; have hM := Mm.start hL (d * 86400) hR; have hcell := hM.rd.cell; clear hR hL0)
    | (go_at_call_of 31 (Value.string ⟨#[84]⟩); refine (takes_no 84 hM.rd.base g1).mono ?_; rintro e wn ⟨rfl, hR⟩; replace hM := hM.step hR; clear hR)
    | (go_at_call_of 31 (Value.string ⟨#[116]⟩); refine (takes_yes 116 hM.rd.base g2).mono ?_; rintro e wn ⟨rfl, hR⟩; replace hM := hM.step hR; clear hR)
    | (go_at_call 19; refine (clock_yes hM.rd.base k).mono ?_; rintro e wc ⟨rfl, hR⟩; replace hM := hM.step hR; clear hR; have q0 := hM.got.c0; have q1 := hM.got.free 0; have hM1 := hM.secs (d * 86400 + t); have q2 := hM1.got.c1; have q3 := hM1.got.free 1; have hM2 := hM1.time true))
  have hM := hM2
  clear hM2 hM1 hcell q0 q1 q2 q3
  generalize (World.setCell (World.setCell wc ⟨w1.heap.size, 0, none⟩ (.int .i64 (d * 86400 + t))) ⟨w1.heap.size, 1, none⟩ (.bool true)) = W at hM
  go_wp2_with (first
    | (go_at_call 44; refine (skip_any _ _ hM.rd.base (drop_len Dat.sp l3) (fun w => TrimBlank_any l3 w)).mono ?_; rintro e wn ⟨rfl, hR⟩; replace hM := hM.step hR; clear hR; have hcell := hM.rd.cell)
    | ((with_reducible show wpList _ _ _ ({ dst := _, op := Op.load 34 _, type := _, pos := _, after := _, guard := _ } :: _) _ _); refine wpList_load_M _ rfl rfl w1.heap.size ((d * 86400 + t, true, false)) rfl hM.got ?_)
    | ((with_reducible show wpList _ _ _ ({ dst := _, op := Op.store 34 _ _, type := _, pos := _, after := _, guard := _ } :: _) _ _); refine wpList_store_M _ _ rfl rfl w.heap.size ((d * 86400 + t, true, false)) mZero rfl rfl hM.res ?_))
  exact ret_M2 (m := (d * 86400 + t, true, false)) rfl rfl rfl rfl hM.done.1 ⟨rfl, hM.done.2⟩
set_option maxRecDepth 100000 in
set_option maxHeartbeats 2000000 in
theorem moment_t_zone_no {w0 w : World} {b : Nat} {l3 l l1 l2 : List UInt8} {d t : Int} (hL : Rd w0 b l w) (h : Dat.dayP l = some (d, l1)) (d1 : -1000000 ≤ d) (d2 : d ≤ 3000000) (he : ¬ l1 = []) (g1 : Dat.rd1 84 l1 = none) (g2 : Dat.rd1 116 l1 = some l2) (k : Dat.clockP (l2) = some (t, l3)) (t1 : 0 ≤ t) (t2 : t ≤ 86400) (he2 : ¬ l3.dropWhile Dat.sp = []) (z : Dat.zoneP (l3.dropWhile Dat.sp) = none) :
    Calls Tryz.prog 26 #[.pointer (some ⟨b, 0, none⟩)] w fun e w' => ∃ m, e = .returned (.tuple #[mVal m, .bool false]) ∧ ∃ r, Rd w0 b r w' := by
  have hz := (zero_of_info zeroM).1
  unfold mVal mCells mZero at hz
  have hA := (Below.refl _ w).alloc (Nat.le_refl _) (.cells #[.int .i64 0, .bool false, .bool false] 34)
  have hL0 := (hL.step hA).base
  have hq := left_some he
  clear he
  have hq2 := left_some he2
  clear he2
  go_enter Tryz.func26, Tryz.ntmps26
  go_wp2_with (first
    | (go_at_call 14; refine (day_yes hL0 h).mono ?_; rintro e w1 ⟨rfl, hR⟩; have hM := Mm.start hL (d * 86400) hR; have hcell := hM.rd.cell; clear hR hL0)
    | (go_at_call_of 31 (Value.string ⟨#[84]⟩); refine (takes_no 84 hM.rd.base g1).mono ?_; rintro e wn ⟨rfl, hR⟩; replace hM := hM.step hR; clear hR)
    | (go_at_call_of 31 (Value.string ⟨#[116]⟩); refine (takes_yes 116 hM.rd.base g2).mono ?_; rintro e wn ⟨rfl, hR⟩; replace hM := hM.step hR; clear hR)
    | (go_at_call 19; refine (clock_yes hM.rd.base k).mono ?_; rintro e wc ⟨rfl, hR⟩; replace hM := hM.step hR; clear hR; have q0 := hM.got.c0; have q1 := hM.got.free 0; have hM1 := hM.secs (d * 86400 + t); have q2 := hM1.got.c1; have q3 := hM1.got.free 1; have hM2 := hM1.time true))
  have hM := hM2
  clear hM2 hM1 hcell q0 q1 q2 q3
  generalize (World.setCell (World.setCell wc ⟨w1.heap.size, 0, none⟩ (.int .i64 (d * 86400 + t))) ⟨w1.heap.size, 1, none⟩ (.bool true)) = W at hM
  go_wp2_with (first
    | (go_at_call 44; refine (skip_any _ _ hM.rd.base (drop_len Dat.sp l3) (fun w => TrimBlank_any l3 w)).mono ?_; rintro e wn ⟨rfl, hR⟩; replace hM := hM.step hR; clear hR; have hcell := hM.rd.cell)
    | (go_at_call 23; refine (zone_no hM.rd.base z).mono ?_; rintro e wn ⟨v, rfl, r, hR⟩; replace hM := hM.step hR; clear hR; have q0 := hM.got.c0; have q1 := hM.got.free 0; have hM1 := hM.secs (wrap64 (d * 86400 + t - v)); have q2 := hM1.got.c2; have q3 := hM1.got.free 2; have hM2 := hM1.zone true; replace hM := hM2; clear hM2)
    | ((with_reducible show wpList _ _ _ ({ dst := _, op := Op.load 34 _, type := _, pos := _, after := _, guard := _ } :: _) _ _); refine wpList_load_M _ rfl rfl w1.heap.size (_) rfl hM.got ?_)
    | ((with_reducible show wpList _ _ _ ({ dst := _, op := Op.store 34 _ _, type := _, pos := _, after := _, guard := _ } :: _) _ _); refine wpList_store_M _ _ rfl rfl w.heap.size (_) mZero rfl rfl hM.res ?_))
  exact ret_M2 rfl rfl rfl rfl hM.done.1 ⟨_, rfl, _, hM.done.2⟩
set_option maxRecDepth 100000 in
set_option maxHeartbeats 2000000 in
theorem moment_t_zone {w0 w : World} {b : Nat} {l3 l l1 l2 : List UInt8} {d t v : Int} {r : List UInt8} (hL : Rd w0 b l w) (h : Dat.dayP l = some (d, l1)) (d1 : -1000000 ≤ d) (d2 : d ≤ 3000000) (he : ¬ l1 = []) (g1 : Dat.rd1 84 l1 = none) (g2 : Dat.rd1 116 l1 = some l2) (k : Dat.clockP (l2) = some (t, l3)) (t1 : 0 ≤ t) (t2 : t ≤ 86400) (he2 : ¬ l3.dropWhile Dat.sp = []) (z : Dat.zoneP (l3.dropWhile Dat.sp) = some (v, r)) (v1 : -100000 ≤ v) (v2 : v ≤ 100000) :
    Calls Tryz.prog 26 #[.pointer (some ⟨b, 0, none⟩)] w fun e w' => e = .returned (.tuple #[mVal (d * 86400 + t - v, true, true), .bool true]) ∧ Rd w0 b (r) w' := by
  have hz := (zero_of_info zeroM).1
  unfold mVal mCells mZero at hz
  have hA := (Below.refl _ w).alloc (Nat.le_refl _) (.cells #[.int .i64 0, .bool false, .bool false] 34)
  have hL0 := (hL.step hA).base
  have hq := left_some he
  clear he
  have hq2 := left_some he2
  clear he2
  go_enter Tryz.func26, Tryz.ntmps26
  go_wp2_with (first
    | (go_at_call 14; refine (day_yes hL0 h).mono ?_; rintro e w1 ⟨rfl, hR⟩; have hM := Mm.start hL (d * 86400) hR; have hcell := hM.rd.cell; clear hR hL0)
    | (go_at_call_of 31 (Value.string ⟨#[84]⟩); refine (takes_no 84 hM.rd.base g1).mono ?_; rintro e wn ⟨rfl, hR⟩; replace hM := hM.step hR; clear hR)
    | (go_at_call_of 31 (Value.string ⟨#[116]⟩); refine (takes_yes 116 hM.rd.base g2).mono ?_; rintro e wn ⟨rfl, hR⟩; replace hM := hM.step hR; clear hR)
    | (go_at_call 19; refine (clock_yes hM.rd.base k).mono ?_; rintro e wc ⟨rfl, hR⟩; replace hM := hM.step hR; clear hR; have q0 := hM.got.c0; have q1 := hM.got.free 0; have hM1 := hM.secs (d * 86400 + t); have q2 := hM1.got.c1; have q3 := hM1.got.free 1; have hM2 := hM1.time true))
  have hM := hM2
  clear hM2 hM1 hcell q0 q1 q2 q3
  generalize (World.setCell (World.setCell wc ⟨w1.heap.size, 0, none⟩ (.int .i64 (d * 86400 + t))) ⟨w1.heap.size, 1, none⟩ (.bool true)) = W at hM
  go_wp2_with (first
    | (go_at_call 44; refine (skip_any _ _ hM.rd.base (drop_len Dat.sp l3) (fun w => TrimBlank_any l3 w)).mono ?_; rintro e wn ⟨rfl, hR⟩; replace hM := hM.step hR; clear hR; have hcell := hM.rd.cell)
    | (go_at_call 23; refine (zone_yes hM.rd.base z).mono ?_; rintro e wn ⟨rfl, hR⟩; replace hM := hM.step hR; clear hR; have q0 := hM.got.c0; have q1 := hM.got.free 0; have hM1 := hM.secs (d * 86400 + t - v); have q2 := hM1.got.c2; have q3 := hM1.got.free 2; have hM2 := hM1.zone true; replace hM := hM2; clear hM2)
    | ((with_reducible show wpList _ _ _ ({ dst := _, op := Op.load 34 _, type := _, pos := _, after := _, guard := _ } :: _) _ _); refine wpList_load_M _ rfl rfl w1.heap.size ((d * 86400 + t - v, true, true)) rfl hM.got ?_)
    | ((with_reducible show wpList _ _ _ ({ dst := _, op := Op.store 34 _ _, type := _, pos := _, after := _, guard := _ } :: _) _ _); refine wpList_store_M _ _ rfl rfl w.heap.size ((d * 86400 + t - v, true, true)) mZero rfl rfl hM.res ?_))
  exact ret_M2 (m := (d * 86400 + t - v, true, true)) rfl rfl rfl rfl hM.done.1 ⟨rfl, hM.done.2⟩
end Go.Proofs.YtnklbeldheocmaaGreatDoor
/- Walks of the reader's moment. -/
namespace Go.Proofs.YtnklbeldheocmaaGreatDoor
open Go.RowKit
set_option maxRecDepth 100000 in
set_option maxHeartbeats 2000000 in
theorem moment_s_clock_no {w0 w : World} {b : Nat} {l l1 : List UInt8} {d : Int} (hL : Rd w0 b l w) (h : Dat.dayP l = some (d, l1)) (d1 : -1000000 ≤ d) (d2 : d ≤ 3000000) (he : ¬ l1 = []) (g1 : Dat.rd1 84 l1 = none) (g2 : Dat.rd1 116 l1 = none) (g3 : ¬ (l1.length : Int) - ((l1.dropWhile Dat.sp).length : Int) = 0) (k : Dat.clockP (l1.dropWhile Dat.sp) = none) :
    Calls Tryz.prog 26 #[.pointer (some ⟨b, 0, none⟩)] w fun e w' => ∃ m, e = .returned (.tuple #[mVal m, .bool false]) ∧ ∃ r, Rd w0 b r w' := by
  have hz := (zero_of_info zeroM).1
  unfold mVal mCells mZero at hz
  have hA := (Below.refl _ w).alloc (Nat.le_refl _) (.cells #[.int .i64 0, .bool false, .bool false] 34)
  have hL0 := (hL.step hA).base
  have cS := fun (w2 : World) (g : Nat) (m : Int × Bool × Bool) (hM : Mm w0 b w.heap.size g l1 m w2) => skip_any _ _ hM.rd.base (drop_len Dat.sp l1) (fun w => TrimBlank_any l1 w)
  have hq := left_some he
  clear he
  go_enter Tryz.func26, Tryz.ntmps26
  go_wp2_with (first
    | (go_at_call 14; refine (day_yes hL0 h).mono ?_; rintro e w1 ⟨rfl, hR⟩; have hM := Mm.start hL (d * 86400) hR; have hcell := hM.rd.cell; clear hR hL0)
    | (go_at_call_of 31 (Value.string ⟨#[84]⟩); refine (takes_no 84 hM.rd.base g1).mono ?_; rintro e wn ⟨rfl, hR⟩; replace hM := hM.step hR; clear hR)
    | (go_at_call_of 31 (Value.string ⟨#[116]⟩); refine (takes_no 116 hM.rd.base g2).mono ?_; rintro e wn ⟨rfl, hR⟩; replace hM := hM.step hR; clear hR)
    | (go_at_call 44; refine (cS _ _ _ hM).mono ?_; rintro e wn ⟨rfl, hR⟩; replace hM := hM.step hR; clear hR)
    | (go_at_call 19; refine (clock_no hM.rd.base k).mono ?_; rintro e wn ⟨v, rfl, r, hR⟩; replace hM := hM.step hR; clear hR)
    | ((with_reducible show wpList _ _ _ ({ dst := _, op := Op.store 34 _ _, type := _, pos := _, after := _, guard := _ } :: _) _ _); refine wpList_store_M _ _ rfl rfl w.heap.size (mZero) mZero rfl rfl hM.res ?_))
  exact ret_M2 (m := mZero) rfl rfl rfl rfl hM.done.1 ⟨_, rfl, _, hM.done.2⟩
set_option maxRecDepth 100000 in
set_option maxHeartbeats 2000000 in
theorem moment_s_clock {w0 w : World} {b : Nat} {l3 l l1 : List UInt8} {d t : Int} (hL : Rd w0 b l w) (h : Dat.dayP l = some (d, l1)) (d1 : -1000000 ≤ d) (d2 : d ≤ 3000000) (he : ¬ l1 = []) (g1 : Dat.rd1 84 l1 = none) (g2 : Dat.rd1 116 l1 = none) (g3 : ¬ (l1.length : Int) - ((l1.dropWhile Dat.sp).length : Int) = 0) (k : Dat.clockP (l1.dropWhile Dat.sp) = some (t, l3)) (t1 : 0 ≤ t) (t2 : t ≤ 86400) (he2 : l3.dropWhile Dat.sp = []) :
    Calls Tryz.prog 26 #[.pointer (some ⟨b, 0, none⟩)] w fun e w' => e = .returned (.tuple #[mVal (d * 86400 + t, true, false), .bool true]) ∧ Rd w0 b (l3.dropWhile Dat.sp) w' := by
  have hz := (zero_of_info zeroM).1
  unfold mVal mCells mZero at hz
  have hA := (Below.refl _ w).alloc (Nat.le_refl _) (.cells #[.int .i64 0, .bool false, .bool false] 34)
  have hL0 := (hL.step hA).base
  have cS := fun (w2 : World) (g : Nat) (m : Int × Bool × Bool) (hM : Mm w0 b w.heap.size g l1 m w2) => skip_any _ _ hM.rd.base (drop_len Dat.sp l1) (fun w => TrimBlank_any l1 w)
  have hq := left_some he
  clear he
  have hq2 := left_no he2
  clear he2
  go_enter Tryz.func26, Tryz.ntmps26
  go_wp2_with (first
    | (go_at_call 14; refine (day_yes hL0 h).mono ?_; rintro e w1 ⟨rfl, hR⟩; have hM := Mm.start hL (d * 86400) hR; have hcell := hM.rd.cell; clear hR hL0)
    | (go_at_call_of 31 (Value.string ⟨#[84]⟩); refine (takes_no 84 hM.rd.base g1).mono ?_; rintro e wn ⟨rfl, hR⟩; replace hM := hM.step hR; clear hR)
    | (go_at_call_of 31 (Value.string ⟨#[116]⟩); refine (takes_no 116 hM.rd.base g2).mono ?_; rintro e wn ⟨rfl, hR⟩; replace hM := hM.step hR; clear hR)
    | (go_at_call 44; refine (cS _ _ _ hM).mono ?_; rintro e wn ⟨rfl, hR⟩; replace hM := hM.step hR; clear hR)
    | (go_at_call 19; refine (clock_yes hM.rd.base k).mono ?_; rintro e wc ⟨rfl, hR⟩; replace hM := hM.step hR; clear hR; have q0 := hM.got.c0; have q1 := hM.got.free 0; have hM1 := hM.secs (d * 86400 + t); have q2 := hM1.got.c1; have q3 := hM1.got.free 1; have hM2 := hM1.time true))
  have hM := hM2
  clear hM2 hM1 hcell q0 q1 q2 q3
  generalize (World.setCell (World.setCell wc ⟨w1.heap.size, 0, none⟩ (.int .i64 (d * 86400 + t))) ⟨w1.heap.size, 1, none⟩ (.bool true)) = W at hM
  go_wp2_with (first
    | (go_at_call 44; refine (skip_any _ _ hM.rd.base (drop_len Dat.sp l3) (fun w => TrimBlank_any l3 w)).mono ?_; rintro e wn ⟨rfl, hR⟩; replace hM := hM.step hR; clear hR; have hcell := hM.rd.cell)
    | ((with_reducible show wpList _ _ _ ({ dst := _, op := Op.load 34 _, type := _, pos := _, after := _, guard := _ } :: _) _ _); refine wpList_load_M _ rfl rfl w1.heap.size ((d * 86400 + t, true, false)) rfl hM.got ?_)
    | ((with_reducible show wpList _ _ _ ({ dst := _, op := Op.store 34 _ _, type := _, pos := _, after := _, guard := _ } :: _) _ _); refine wpList_store_M _ _ rfl rfl w.heap.size ((d * 86400 + t, true, false)) mZero rfl rfl hM.res ?_))
  exact ret_M2 (m := (d * 86400 + t, true, false)) rfl rfl rfl rfl hM.done.1 ⟨rfl, hM.done.2⟩
set_option maxRecDepth 100000 in
set_option maxHeartbeats 2000000 in
theorem moment_s_zone_no {w0 w : World} {b : Nat} {l3 l l1 : List UInt8} {d t : Int} (hL : Rd w0 b l w) (h : Dat.dayP l = some (d, l1)) (d1 : -1000000 ≤ d) (d2 : d ≤ 3000000) (he : ¬ l1 = []) (g1 : Dat.rd1 84 l1 = none) (g2 : Dat.rd1 116 l1 = none) (g3 : ¬ (l1.length : Int) - ((l1.dropWhile Dat.sp).length : Int) = 0) (k : Dat.clockP (l1.dropWhile Dat.sp) = some (t, l3)) (t1 : 0 ≤ t) (t2 : t ≤ 86400) (he2 : ¬ l3.dropWhile Dat.sp = []) (z : Dat.zoneP (l3.dropWhile Dat.sp) = none) :
    Calls Tryz.prog 26 #[.pointer (some ⟨b, 0, none⟩)] w fun e w' => ∃ m, e = .returned (.tuple #[mVal m, .bool false]) ∧ ∃ r, Rd w0 b r w' := by
  have hz := (zero_of_info zeroM).1
  unfold mVal mCells mZero at hz
  have hA := (Below.refl _ w).alloc (Nat.le_refl _) (.cells #[.int .i64 0, .bool false, .bool false] 34)
  have hL0 := (hL.step hA).base
  have cS := fun (w2 : World) (g : Nat) (m : Int × Bool × Bool) (hM : Mm w0 b w.heap.size g l1 m w2) => skip_any _ _ hM.rd.base (drop_len Dat.sp l1) (fun w => TrimBlank_any l1 w)
  have hq := left_some he
  clear he
  have hq2 := left_some he2
  clear he2
  go_enter Tryz.func26, Tryz.ntmps26
  go_wp2_with (first
    | (go_at_call 14; refine (day_yes hL0 h).mono ?_; rintro e w1 ⟨rfl, hR⟩; have hM := Mm.start hL (d * 86400) hR; have hcell := hM.rd.cell; clear hR hL0)
    | (go_at_call_of 31 (Value.string ⟨#[84]⟩); refine (takes_no 84 hM.rd.base g1).mono ?_; rintro e wn ⟨rfl, hR⟩; replace hM := hM.step hR; clear hR)
    | (go_at_call_of 31 (Value.string ⟨#[116]⟩); refine (takes_no 116 hM.rd.base g2).mono ?_; rintro e wn ⟨rfl, hR⟩; replace hM := hM.step hR; clear hR)
    | (go_at_call 44; refine (cS _ _ _ hM).mono ?_; rintro e wn ⟨rfl, hR⟩; replace hM := hM.step hR; clear hR)
    | (go_at_call 19; refine (clock_yes hM.rd.base k).mono ?_; rintro e wc ⟨rfl, hR⟩; replace hM := hM.step hR; clear hR; have q0 := hM.got.c0; have q1 := hM.got.free 0; have hM1 := hM.secs (d * 86400 + t); have q2 := hM1.got.c1; have q3 := hM1.got.free 1; have hM2 := hM1.time true))
  have hM := hM2
  clear hM2 hM1 hcell q0 q1 q2 q3
  generalize (World.setCell (World.setCell wc ⟨w1.heap.size, 0, none⟩ (.int .i64 (d * 86400 + t))) ⟨w1.heap.size, 1, none⟩ (.bool true)) = W at hM
  go_wp2_with (first
    | (go_at_call 44; refine (skip_any _ _ hM.rd.base (drop_len Dat.sp l3) (fun w => TrimBlank_any l3 w)).mono ?_; rintro e wn ⟨rfl, hR⟩; replace hM := hM.step hR; clear hR; have hcell := hM.rd.cell)
    | (go_at_call 23; refine (zone_no hM.rd.base z).mono ?_; rintro e wn ⟨v, rfl, r, hR⟩; replace hM := hM.step hR; clear hR; have q0 := hM.got.c0; have q1 := hM.got.free 0; have hM1 := hM.secs (wrap64 (d * 86400 + t - v)); have q2 := hM1.got.c2; have q3 := hM1.got.free 2; have hM2 := hM1.zone true; replace hM := hM2; clear hM2)
    | ((with_reducible show wpList _ _ _ ({ dst := _, op := Op.load 34 _, type := _, pos := _, after := _, guard := _ } :: _) _ _); refine wpList_load_M _ rfl rfl w1.heap.size (_) rfl hM.got ?_)
    | ((with_reducible show wpList _ _ _ ({ dst := _, op := Op.store 34 _ _, type := _, pos := _, after := _, guard := _ } :: _) _ _); refine wpList_store_M _ _ rfl rfl w.heap.size (_) mZero rfl rfl hM.res ?_))
  exact ret_M2 rfl rfl rfl rfl hM.done.1 ⟨_, rfl, _, hM.done.2⟩
set_option maxRecDepth 100000 in
set_option maxHeartbeats 2000000 in
theorem moment_s_zone {w0 w : World} {b : Nat} {l3 l l1 : List UInt8} {d t v : Int} {r : List UInt8} (hL : Rd w0 b l w) (h : Dat.dayP l = some (d, l1)) (d1 : -1000000 ≤ d) (d2 : d ≤ 3000000) (he : ¬ l1 = []) (g1 : Dat.rd1 84 l1 = none) (g2 : Dat.rd1 116 l1 = none) (g3 : ¬ (l1.length : Int) - ((l1.dropWhile Dat.sp).length : Int) = 0) (k : Dat.clockP (l1.dropWhile Dat.sp) = some (t, l3)) (t1 : 0 ≤ t) (t2 : t ≤ 86400) (he2 : ¬ l3.dropWhile Dat.sp = []) (z : Dat.zoneP (l3.dropWhile Dat.sp) = some (v, r)) (v1 : -100000 ≤ v) (v2 : v ≤ 100000) :
    Calls Tryz.prog 26 #[.pointer (some ⟨b, 0, none⟩)] w fun e w' => e = .returned (.tuple #[mVal (d * 86400 + t - v, true, true), .bool true]) ∧ Rd w0 b (r) w' := by
  have hz := (zero_of_info zeroM).1
  unfold mVal mCells mZero at hz
  have hA := (Below.refl _ w).alloc (Nat.le_refl _) (.cells #[.int .i64 0, .bool false, .bool false] 34)
  have hL0 := (hL.step hA).base
  have cS := fun (w2 : World) (g : Nat) (m : Int × Bool × Bool) (hM : Mm w0 b w.heap.size g l1 m w2) => skip_any _ _ hM.rd.base (drop_len Dat.sp l1) (fun w => TrimBlank_any l1 w)
  have hq := left_some he
  clear he
  have hq2 := left_some he2
  clear he2
  go_enter Tryz.func26, Tryz.ntmps26
  go_wp2_with (first
    | (go_at_call 14; refine (day_yes hL0 h).mono ?_; rintro e w1 ⟨rfl, hR⟩; have hM := Mm.start hL (d * 86400) hR; have hcell := hM.rd.cell; clear hR hL0)
    | (go_at_call_of 31 (Value.string ⟨#[84]⟩); refine (takes_no 84 hM.rd.base g1).mono ?_; rintro e wn ⟨rfl, hR⟩; replace hM := hM.step hR; clear hR)
    | (go_at_call_of 31 (Value.string ⟨#[116]⟩); refine (takes_no 116 hM.rd.base g2).mono ?_; rintro e wn ⟨rfl, hR⟩; replace hM := hM.step hR; clear hR)
    | (go_at_call 44; refine (cS _ _ _ hM).mono ?_; rintro e wn ⟨rfl, hR⟩; replace hM := hM.step hR; clear hR)
    | (go_at_call 19; refine (clock_yes hM.rd.base k).mono ?_; rintro e wc ⟨rfl, hR⟩; replace hM := hM.step hR; clear hR; have q0 := hM.got.c0; have q1 := hM.got.free 0; have hM1 := hM.secs (d * 86400 + t); have q2 := hM1.got.c1; have q3 := hM1.got.free 1; have hM2 := hM1.time true))
  have hM := hM2
  clear hM2 hM1 hcell q0 q1 q2 q3
  generalize (World.setCell (World.setCell wc ⟨w1.heap.size, 0, none⟩ (.int .i64 (d * 86400 + t))) ⟨w1.heap.size, 1, none⟩ (.bool true)) = W at hM
  go_wp2_with (first
    | (go_at_call 44; refine (skip_any _ _ hM.rd.base (drop_len Dat.sp l3) (fun w => TrimBlank_any l3 w)).mono ?_; rintro e wn ⟨rfl, hR⟩; replace hM := hM.step hR; clear hR; have hcell := hM.rd.cell)
    | (go_at_call 23; refine (zone_yes hM.rd.base z).mono ?_; rintro e wn ⟨rfl, hR⟩; replace hM := hM.step hR; clear hR; have q0 := hM.got.c0; have q1 := hM.got.free 0; have hM1 := hM.secs (d * 86400 + t - v); have q2 := hM1.got.c2; have q3 := hM1.got.free 2; have hM2 := hM1.zone true; replace hM := hM2; clear hM2)
    | ((with_reducible show wpList _ _ _ ({ dst := _, op := Op.load 34 _, type := _, pos := _, after := _, guard := _ } :: _) _ _); refine wpList_load_M _ rfl rfl w1.heap.size ((d * 86400 + t - v, true, true)) rfl hM.got ?_)
    | ((with_reducible show wpList _ _ _ ({ dst := _, op := Op.store 34 _ _, type := _, pos := _, after := _, guard := _ } :: _) _ _); refine wpList_store_M _ _ rfl rfl w.heap.size ((d * 86400 + t - v, true, true)) mZero rfl rfl hM.res ?_))
  exact ret_M2 (m := (d * 86400 + t - v, true, true)) rfl rfl rfl rfl hM.done.1 ⟨rfl, hM.done.2⟩
end Go.Proofs.YtnklbeldheocmaaGreatDoor
