/- The contracts of package url's place, Bare, Origin, Tail. -/
import Derived.Test.YtlkhjloeonbjaaaGreatDoorVString
import Derived.Deep.MidRow
namespace Go.Proofs.YtlkhjloeonbjaaaGreatDoor
open Go.RowKit
def placeU (u : Url.U) : Url.U := { Url.zero with sch := u.sch, host := u.host, port := u.port }
theorem zeroURL : (Tryz.prog.info? 25).map (fun i => (i.zero, i.size)) = some (some (uVal Url.zero), 8) := by kernel_rfl
theorem sizeURL : (Tryz.prog.info? 25).map (·.size) = some 8 := by kernel_rfl
theorem load_U {w : World} {b : Nat} {u : Url.U} (h : UAt w b u) : (loadVar 25 ⟨b, 0, none⟩).run Tryz.prog w = .ok (uVal u) w :=
  run_loadVar_row _ _ _ _ _ _ _ h Tryz.underlying25 rfl sizeURL
theorem ret_U {fn : Func} {p : Tmp} {Q : Ending → World → Prop} {a : Act} {w : World} {b : Nat} {u : Url.U} (hr : fn.results = #[.cell p 25]) (hd : a.defers = []) (hp : a.tmps.getD p undef = .pointer (some ⟨b, 0, none⟩)) (h : UAt w b u) (hQ : Q (.returned (uVal u)) w) :
    bodyPost Tryz.prog fn Q .ret a w := by
  refine bodyPost_ret (v := uVal u) ?_ hd hQ
  rw [results_cell hr, hp]
  simp [asAddr, Result.andThen, load_U h]
set_option maxHeartbeats 2000000 in
set_option maxRecDepth 100000 in
theorem place_any (u : Url.U) (w : World) :
    Calls Tryz.prog 34 #[uVal u] w fun e w' => e = .returned (uVal (placeU u)) ∧ Below w.heap.size w w' := by
  have hz := (zero_of_info zeroURL).1
  unfold uVal uCells at hz
  unfold uVal uCells
  go_enter Tryz.func34, Tryz.ntmps34
  go_wp2
  exact ret_U (u := placeU u) rfl rfl rfl (alloc_two _ _ _) ⟨rfl, ((Below.refl _ w).alloc (Nat.le_refl _) _).alloc (by simp) _⟩
set_option maxHeartbeats 2000000 in
set_option maxRecDepth 100000 in
theorem Bare_any (u : Url.U) (w : World) :
    Calls Tryz.prog 24 #[uVal u] w fun e w' => e = .returned (uVal (Url.bare u)) ∧ Below w.heap.size w w' := by
  have hz := (zero_of_info zeroURL).1
  unfold uVal uCells at hz
  unfold uVal uCells
  go_enter Tryz.func24, Tryz.ntmps24
  go_wp2
  exact ret_U (u := Url.bare u) rfl rfl rfl (alloc_two _ _ _) ⟨rfl, ((Below.refl _ w).alloc (Nat.le_refl _) _).alloc (by simp) _⟩
theorem str_zero : str Url.zero.path = str [] := rfl
theorem placeU_fits {u : Url.U} (h : Fits u) : Fits (placeU u) := ⟨h.1, h.2.1, Nat.zero_le _, Nat.zero_le _, Nat.zero_le _, h.2.2.2.2.2.1, h.2.2.2.2.2.2⟩
set_option maxHeartbeats 2000000 in
set_option maxRecDepth 100000 in
theorem Origin_any (u : Url.U) (w : World) (hE : Env w) (hu : Fits u) :
    Calls Tryz.prog 25 #[uVal u] w fun e w' => e = .returned (.string (str (Url.origin u))) ∧ Below w.heap.size w w' := by
  have hb0 : Below w.heap.size w (w.alloc (.cells (uCells u) 25)) := (Below.refl _ w).alloc (Nat.le_refl _) _
  have plc : ∀ W : World, Calls Tryz.prog 34 #[uVal u] W fun e w' => e = .returned (uVal (placeU u)) ∧ Below W.heap.size W w' := fun W => place_any u W
  have strc : ∀ W : World, Env W → Calls Tryz.prog 22 #[uVal (placeU u)] W fun e w' => e = .returned (.string (str (Url.origin u))) ∧ Below W.heap.size W w' := fun W h => String_any (placeU u) W h (placeU_fits hu)
  have hE0 := hE.below hb0
  unfold uVal uCells at plc
  unfold uCells at hb0 hE0
  unfold uVal uCells
  go_enter Tryz.func25, Tryz.ntmps25
  go_wp2_with (first
    | (go_at_call 34; refine (plc _).mono ?_; rintro e w1 ⟨rfl, hb1⟩)
    | (go_at_call 22; refine (strc _ (hE0.below hb1)).mono ?_; rintro e w2 ⟨rfl, hb2⟩))
  go_ret
  exact ⟨rfl, bel (bel hb0 hb1) hb2⟩
theorem storeAt_U {w : World} {b : Nat} {u v : Url.U} (h : UAt w b v) : (Instr.storeAt 25 (.pointer (some ⟨b, 0, none⟩)) (uVal u)).run Tryz.prog w = .ok () (w.setRow b (uCells u)) := by
  simp only [Instr.storeAt, Instr.sureAddr, Sem.run_bind, Sem.run_pure, Result.andThen]
  exact run_storeVar_row _ _ _ _ _ _ h sizeURL rfl (by simp [uCells, Value.oneCell'])
theorem wpList_store_U {ops : Array Oper} {rest : List Oper} {o : Oper} {a : Act} {w : World} {Q : Exit → Act → World → Prop} (x y : Operand) (ho : o.op = .store 25 x y) (hg : o.guard = none) (b : Nat) (u v : Url.U) (hx : a.eval x = .pointer (some ⟨b, 0, none⟩)) (hy : a.eval y = uVal u) (h : UAt w b v)
    (hn : wpList Tryz.prog ops Q rest (a.put o.dst undef) (w.setRow b (uCells u))) : wpList Tryz.prog ops Q (o :: rest) a w := by
  refine wpList_plain hg fun K hK => ?_
  unfold Oper.wp
  have e : (execOp a.eval o).run Tryz.prog w = .ok .skip (w.setRow b (uCells u)) := by
    unfold execOp
    rw [ho]
    simp only [hx, hy, Sem.run_bind, storeAt_U h, Result.andThen, Sem.run_pure]
  rw [e, Oper.upon_skip]
  exact hK _ _ hn
theorem loadAt_P {w : World} {b : Nat} {t : List UInt8} {u : Url.U} (h : IsP w b t u) : (Instr.loadAt 25 (.pointer (some ⟨b, 1, none⟩))).run Tryz.prog w = .ok (uVal u) w := by
  simp only [Instr.loadAt, Instr.sureAddr, Sem.run_bind, Sem.run_pure, Result.andThen]
  refine run_loadVar_mid w b 1 25 (uCells u).toList _ (fun j v hv => ?_) Tryz.underlying25 rfl sizeURL
  rw [h.cell (1 + j), ← Array.getElem?_toList]
  have e : (pCells t u).toList = .string (str t) :: (uCells u).toList := rfl
  rw [e, Nat.add_comm, List.getElem?_cons_succ]
  exact hv
theorem wpList_load_P {ops : Array Oper} {rest : List Oper} {o : Oper} {a : Act} {w : World} {Q : Exit → Act → World → Prop} (x : Operand) (ho : o.op = .load 25 x) (hg : o.guard = none) (b : Nat) (t : List UInt8) (u : Url.U) (hx : a.eval x = .pointer (some ⟨b, 1, none⟩)) (h : IsP w b t u)
    (hn : wpList Tryz.prog ops Q rest (a.put o.dst (uVal u)) w) : wpList Tryz.prog ops Q (o :: rest) a w := by
  refine wpList_plain hg fun K hK => ?_
  unfold Oper.wp
  have e : (execOp a.eval o).run Tryz.prog w = .ok (.value (uVal u)) w := by
    unfold execOp
    rw [ho]
    simp only [hx, Sem.run_bind, loadAt_P h, Result.andThen, Sem.run_pure]
  rw [e, Oper.upon_value]
  exact hK _ _ hn
end Go.Proofs.YtlkhjloeonbjaaaGreatDoor
