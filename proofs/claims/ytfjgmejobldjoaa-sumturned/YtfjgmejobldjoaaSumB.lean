/- A Sum in memory. The contracts of New, Add, Crc and Mark. -/
import Derived.Test.YtfjgmejobldjoaaSumA
import Derived.Deep.MidRow
set_option linter.unusedVariables false
set_option linter.unusedSimpArgs false
namespace Go.Proofs.Ytfjgmejobldjoaa
open Go.RowKit
abbrev s2 (x0 x1 : Value) : Value := .agg #[x0, x1]
/-- A Sum's own block. -/
def SAt (w : World) (b : Nat) (x0 x1 : Value) : Prop := w.heap[b]? = some (.cells #[x0, x1] 28 (0, 0))
theorem SAt.cell {w : World} {b : Nat} {x0 x1 : Value} (h : SAt w b x0 x1) (i : Nat) : w.cell? ⟨b, i, none⟩ = #[x0, x1][i]? := Lib.cell_of_heap h i
theorem SAt.free {w : World} {b : Nat} {x0 x1 : Value} (h : SAt w b x0 x1) (i : Nat) : w.frozen? ⟨b, i, none⟩ = false := Lib.frozen_of_heap h i
theorem SAt.lt {w : World} {b : Nat} {x0 x1 : Value} (h : SAt w b x0 x1) : b < w.heap.size := (Array.getElem?_eq_some_iff.1 h).1
theorem SAt.keep {w w' : World} {b : Nat} {x0 x1 : Value} (h : SAt w b x0 x1) (e : w'.heap[b]? = w.heap[b]?) : SAt w' b x0 x1 := e.trans h
theorem SAt.below {w w' : World} {b : Nat} {x0 x1 : Value} (h : SAt w b x0 x1) (hB : Below w.heap.size w w') : SAt w' b x0 x1 := h.keep (hB.block b h.lt)
theorem sizeSum : (Try.prog.info? 28).map (·.size) = some 2 := by kernel_rfl
theorem load_S {w : World} {b : Nat} {x0 x1 : Value} (h : SAt w b x0 x1) : (loadVar 28 ⟨b, 0, none⟩).run Try.prog w = .ok (s2 x0 x1) w :=
  run_loadVar_row _ _ _ _ _ _ _ h Try.underlying28 rfl sizeSum
theorem loadAt_S {w : World} {b : Nat} {x0 x1 : Value} (h : SAt w b x0 x1) : (Instr.loadAt 28 (.pointer (some ⟨b, 0, none⟩))).run Try.prog w = .ok (s2 x0 x1) w := by
  simp only [Instr.loadAt, Instr.sureAddr, Sem.run_bind, Sem.run_pure, Result.andThen]
  exact load_S h
theorem results_cell {fn : Func} {p : Tmp} {ty : TypeId} (h : fn.results = #[.cell p ty]) (tmps : Array Value) (P : Program) (w : World) :
    (results fn tmps).run P w = ((asAddr (tmps.getD p undef)).run P w).andThen fun a w1 => (loadVar ty a).run P w1 := by
  simp only [results, h]
  simp [Sem.run_bind, Result.andThen]
theorem ret_S {fn : Func} {p : Tmp} {Q : Ending → World → Prop} {a : Act} {w : World} {b : Nat} {x0 x1 : Value} (hr : fn.results = #[.cell p 28]) (hd : a.defers = []) (hp : a.tmps.getD p undef = .pointer (some ⟨b, 0, none⟩)) (h : SAt w b x0 x1) (hQ : Q (.returned (s2 x0 x1)) w) :
    bodyPost Try.prog fn Q .ret a w := by
  refine bodyPost_ret (v := s2 x0 x1) ?_ hd hQ
  rw [results_cell hr, hp]
  simp [asAddr, Result.andThen, load_S h]
theorem storeAt_S {w : World} {b : Nat} {x0 x1 y0 y1 : Value} (h : SAt w b y0 y1) (h1 : x0.oneCell' = true ∧ x1.oneCell' = true) : (Instr.storeAt 28 (.pointer (some ⟨b, 0, none⟩)) (s2 x0 x1)).run Try.prog w = .ok () (w.setRow b #[x0, x1]) := by
  simp only [Instr.storeAt, Instr.sureAddr, Sem.run_bind, Sem.run_pure, Result.andThen]
  exact run_storeVar_row _ _ _ _ _ _ h sizeSum rfl (by simp [h1.1, h1.2])
theorem wpList_store_S {ops : Array Oper} {rest : List Oper} {o : Oper} {a : Act} {w : World} {Q : Exit → Act → World → Prop} (x y : Operand) (ho : o.op = .store 28 x y) (hg : o.guard = none) (b : Nat) (x0 x1 : Value) {y0 y1 : Value} (hx : a.eval x = .pointer (some ⟨b, 0, none⟩)) (hy : a.eval y = s2 x0 x1) (h : SAt w b y0 y1) (h1 : x0.oneCell' = true ∧ x1.oneCell' = true)
    (hn : wpList Try.prog ops Q rest (a.put o.dst undef) (w.setRow b #[x0, x1])) : wpList Try.prog ops Q (o :: rest) a w := by
  refine wpList_plain hg fun K hK => ?_
  unfold Oper.wp
  have e : (execOp a.eval o).run Try.prog w = .ok .skip (w.setRow b #[x0, x1]) := by
    unfold execOp
    rw [ho]
    simp only [hx, hy, Sem.run_bind, storeAt_S h h1, Result.andThen, Sem.run_pure]
  rw [e, Oper.upon_skip]
  exact hK _ _ hn
theorem wpList_load_S {ops : Array Oper} {rest : List Oper} {o : Oper} {a : Act} {w : World} {Q : Exit → Act → World → Prop} (x : Operand) (ho : o.op = .load 28 x) (hg : o.guard = none) (b : Nat) (x0 x1 : Value) (hx : a.eval x = .pointer (some ⟨b, 0, none⟩)) (h : SAt w b x0 x1)
    (hn : wpList Try.prog ops Q rest (a.put o.dst (s2 x0 x1)) w) : wpList Try.prog ops Q (o :: rest) a w := by
  refine wpList_plain hg fun K hK => ?_
  unfold Oper.wp
  have e : (execOp a.eval o).run Try.prog w = .ok (.value (s2 x0 x1)) w := by
    unfold execOp
    rw [ho]
    simp only [hx, Sem.run_bind, loadAt_S h, Result.andThen, Sem.run_pure]
  rw [e, Oper.upon_value]
  exact hK _ _ hn
theorem setRow_S {w : World} {b : Nat} {y0 y1 : Value} (h : SAt w b y0 y1) (x0 x1 : Value) : SAt (w.setRow b #[x0, x1]) b x0 x1 := by
  unfold SAt World.setRow
  show (w.heap.modify b _)[b]? = _
  rw [Array.getElem?_modify, if_pos rfl, h]
  rfl
/-- A Sum as a value. -/
abbrev sv (c : BitVec 32) (m : BitVec 64) : Value := s2 (.int .u32 (c.toNat : Int)) (.int .u64 (m.toNat : Int))
theorem below_setRow {B c : Nat} {w w' : World} {cs : Array Value} (h : Below B w w') (hc : B ≤ c) : Below B w (w'.setRow c cs) :=
  ⟨h.os, h.tape, h.output, by simp [World.setRow]; exact h.size, fun k hk => by
    rw [← h.block k hk]
    simp [World.setRow, Array.getElem?_modify, show ¬ c = k by omega]⟩
def F : BitVec 32 := 0xFFFFFFFF#32
def G : BitVec 64 := 0xCBF29CE484222325#64
theorem xF (c : BitVec 32) : bits .xor .u32 (c.toNat : Int) 4294967295 = ((c ^^^ F).toNat : Int) := by
  rw [show (4294967295 : Int) = ((F.toNat : Nat) : Int) from rfl, xor32]
theorem xG (c : BitVec 64) : bits .xor .u64 (c.toNat : Int) 14695981039346656037 = ((c ^^^ G).toNat : Int) := by
  rw [show (14695981039346656037 : Int) = ((G.toNat : Nat) : Int) from rfl, xor64]
/-- The Sum of these bytes behind those of another one. -/
def addS (c : BitVec 32) (m : BitVec 64) (l : List UInt8) : Value := sv (Sm.crcL (c ^^^ F) l ^^^ F) (Sm.markL (m ^^^ G) l ^^^ G)
set_option maxHeartbeats 2000000 in
set_option maxRecDepth 100000 in
theorem New_any (w : World) :
    Calls Try.prog 8 #[] w fun e w' => e = .returned (sv 0#32 0#64) ∧ Below w.heap.size w w' := by
  go_enter Try.func8, Try.ntmps8
  go_wp2
  refine ret_S rfl rfl rfl (x0 := .int .u32 0) (x1 := .int .u64 0) (heap_new _ _) ⟨rfl, ?_⟩
  exact (Below.refl _ w).alloc (Nat.le_refl _) _
set_option maxHeartbeats 2000000 in
set_option maxRecDepth 100000 in
theorem SCrc_any (c : BitVec 32) (m : BitVec 64) (w : World) :
    Calls Try.prog 10 #[sv c m] w fun e w' => e = .returned (.int .u32 (c.toNat : Int)) ∧ Below w.heap.size w w' := by
  go_enter Try.func10, Try.ntmps10
  go_wp2
  go_ret
  exact ⟨rfl, (Below.refl _ w).alloc (Nat.le_refl _) _⟩
set_option maxHeartbeats 2000000 in
set_option maxRecDepth 100000 in
theorem SMark_any (c : BitVec 32) (m : BitVec 64) (w : World) :
    Calls Try.prog 12 #[sv c m] w fun e w' => e = .returned (.int .u64 ((m ^^^ G).toNat : Int)) ∧ Below w.heap.size w w' := by
  go_enter Try.func12, Try.ntmps12
  go_wp2
  go_ret
  exact ⟨ret_int (xG m), (Below.refl _ w).alloc (Nat.le_refl _) _⟩
set_option maxHeartbeats 2000000 in
set_option maxRecDepth 100000 in
theorem Add_any (c : BitVec 32) (m : BitVec 64) (l : List UInt8) (v : Value) (w : World) (hv : RB w v l) (hl : l.length ≤ 1000000000) :
    Calls Try.prog 9 #[sv c m, v] w fun e w' => e = .returned (addS c m l) ∧ Below w.heap.size w w' := by
  have h1 := xF c
  have h2 := xG m
  have HA : Hid (addS c m l = sv (Sm.crcL (c ^^^ F) l ^^^ F) (Sm.markL (m ^^^ G) l ^^^ G)) := rfl
  generalize c ^^^ F = c1 at *
  generalize m ^^^ G = m1 at *
  obtain ⟨a, cp, rfl⟩ := RB.form hv
  go_enter Try.func9, Try.ntmps9
  go_wp2
  go_quiet (fail)
  have hB0 : Below w.heap.size w (((w.alloc (Obj.cells #[.int .u32 c.toNat, .int .u64 m.toNat] 28)).alloc (Obj.cells #[.int .u32 0, .int .u64 0] 28)).drewN nq) := below_drewN (((Below.refl _ w).alloc (Nat.le_refl _) _).alloc (by simp) _) nq
  have hS0 : SAt (((w.alloc (Obj.cells #[.int .u32 c.toNat, .int .u64 m.toNat] 28)).alloc (Obj.cells #[.int .u32 0, .int .u64 0] 28)).drewN nq) (w.heap.size + 1) (.int .u32 0) (.int .u64 0) := by
    have := heap_new (w.alloc (Obj.cells #[.int .u32 c.toNat, .int .u64 m.toNat] 28)) (Obj.cells #[.int .u32 0, .int .u64 0] 28)
    have hz : (w.alloc (Obj.cells #[.int .u32 c.toNat, .int .u64 m.toNat] 28)).heap.size = w.heap.size + 1 := by simp
    rw [hz] at this
    exact this
  clear h1 h2
  go_wp2
  go_loopw [5, 6, 17] (fun x y i wr => ∃ j : Nat, j ≤ l.length ∧ i = .int .i64 j ∧ x = .int .u32 ((Sm.crcL c1 (l.take j)).toNat : Int) ∧ y = .int .u64 ((Sm.markL m1 (l.take j)).toNat : Int) ∧ SAt wr (w.heap.size + 1) (.int .u32 0) (.int .u64 0) ∧ Below w.heap.size w wr) (fun _ _ i _ => l.length - (intOf i).toNat)
  case atStart => exact ⟨0, Nat.zero_le _, rfl, rfl, rfl, hS0, hB0⟩
  case round =>
    obtain ⟨j, hj, rfl, rfl, rfl, hS, hB⟩ := hrel
    by_cases hlt : j < l.length
    · obtain ⟨_, hc, b, o, rfl, hcell⟩ := RB.at (ReadsCells.below hv hB) hlt
      have HC : Hid (Sm.crcL c1 (l.take (j + 1)) = Sm.on (Sm.crcL c1 (l.take j)) l[j]) := by
        show Sm.crcL c1 (l.take (j + 1)) = _
        rw [List.take_succ_eq_append_getElem hlt, Sm.crcL_app]; rfl
      have HM : Hid (Sm.markL m1 (l.take (j + 1)) = Sm.mk (Sm.markL m1 (l.take j)) l[j]) := by
        show Sm.markL m1 (l.take (j + 1)) = _
        rw [List.take_succ_eq_append_getElem hlt, Sm.markL_app]; rfl
      have C1 := crcOn_any (Sm.crcL c1 (l.take j)) l[j]
      have C2 := markOn_any (Sm.markL m1 (l.take j)) l[j]
      generalize l[j] = x at *
      generalize Sm.crcL c1 (l.take j) = c2 at *
      generalize Sm.markL m1 (l.take j) = m2 at *
      go_wp2_with (first
        | (go_at_call 19; refine (C1 _).mono ?_; rintro e w2 ⟨rfl, hB2⟩)
        | (go_at_call 20; refine (C2 _).mono ?_; rintro e w3 ⟨rfl, rfl⟩))
      exact ⟨⟨j + 1, by omega, by go_num, by rw [HC.out], by rw [HM.out], hS.below hB2, bel hB hB2⟩, by simp [intOf]; omega⟩
    · have hjl : l.take j = l := List.take_of_length_le (by omega)
      rw [hjl]
      have h3 := xF (Sm.crcL c1 l)
      have h4 := xG (Sm.markL m1 l)
      have HA' := HA.out
      generalize Sm.crcL c1 l ^^^ F = c3 at *
      generalize Sm.markL m1 l ^^^ G = m3 at *
      go_wp2_with ((with_reducible show wpList _ _ _ ({ op := Op.store 28 _ _, .. } :: _) _ _); refine wpList_store_S _ _ rfl rfl _ _ _ rfl rfl hS ⟨rfl, rfl⟩ ?_)
      refine ret_S rfl rfl rfl (setRow_S hS _ _) ⟨?_, ?_⟩
      · rw [HA']
      · exact below_setRow hB (by omega)
end Go.Proofs.Ytfjgmejobldjoaa
