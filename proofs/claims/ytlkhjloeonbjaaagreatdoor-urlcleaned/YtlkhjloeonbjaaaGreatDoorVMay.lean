/- Two URLs held against each other; the contract of url.May. -/
import Derived.Test.YtlkhjloeonbjaaaGreatDoorVParse
import Derived.Laws.StructEq
namespace Go.Proofs.YtlkhjloeonbjaaaGreatDoor
open Go.RowKit
theorem str_beq (a b : List UInt8) : ((str a).toList == (str b).toList) = (a == b) := by rw [str_list, str_list]
theorem fields_of {P : Program} {t : TypeId} {fs : Array Field} (h : P.underlying t = some (.struct fs)) : P.fieldsOf t = fs := by unfold Program.fieldsOf; rw [h]
theorem part_plain {P : Program} {t : TypeId} {xs : Array Value} {o : Nat} {v : Value} {w : World} (ht : ∀ W : World, (isAgg t).run P W = .ok false W) (hv : xs[o]? = some v) : (part t xs o).run P w = .ok v w := by
  unfold part
  simp only [Sem.run_bind, ht, Result.andThen, Bool.false_eq_true, if_false, hv, Sem.run_pure]
theorem eqF_step {P : Program} {d : Nat} {xs ys : Array Value} {f : Field} {fs : List Field} {a b : Value} {r : Bool} {w : World} (hn : f.name ≠ "_") (ha : (part f.type xs f.offset).run P w = .ok a w) (hb : (part f.type ys f.offset).run P w = .ok b w) (he : (Op.equalIn d f.type a b).run P w = .ok r w) :
    (Op.eqFields d xs ys (f :: fs)).run P w = if r = true then (Op.eqFields d xs ys fs).run P w else .ok false w := by
  rw [Op.eqFields, if_pos hn]
  simp only [Sem.run_bind, ha, hb, he, Result.andThen]
  cases r
  · rfl
  · rfl
set_option maxHeartbeats 1000000 in
set_option maxRecDepth 100000 in
theorem eql_U (u v : Url.U) (w : World) : (binOp .eql 25 (.agg (uCells u)) (.agg (uCells v))).run Tryz.prog w = .ok (.bool (Url.same u v)) w := by
  have hf := fields_of Tryz.underlying25
  have ta : ∀ W : World, (isAgg 9).run Tryz.prog W = .ok false W := run_isAgg_plain Tryz.underlying9 rfl
  have tb : ∀ W : World, (isAgg 3).run Tryz.prog W = .ok false W := run_isAgg_plain Tryz.underlying3 rfl
  have tc : ∀ W : World, (isAgg 4).run Tryz.prog W = .ok false W := run_isAgg_plain Tryz.underlying4 rfl
  have es : ∀ a b : List UInt8, (Op.equalIn 9999 9 (.string (str a)) (.string (str b))).run Tryz.prog w = .ok (a == b) w := fun a b => by
    rw [run_equalIn_string w 9998 9 _ _ Tryz.underlying9, str_beq]
  have ei : ∀ a b : Int, (Op.equalIn 9999 3 (.int .i64 a) (.int .i64 b)).run Tryz.prog w = .ok (a == b) w := fun a b => run_equalIn_int w 9998 3 .i64 .i64 a b Tryz.underlying3
  have eb : ∀ a b : Bool, (Op.equalIn 9999 4 (.bool a) (.bool b)).run Tryz.prog w = .ok (a == b) w := fun a b => run_equalIn_bool' w 9998 4 a b Tryz.underlying4
  rw [run_eql_struct, run_equalIn_agg w 9999 25 _ _ (by rw [hf]; exact Tryz.underlying25) (by kernel_rfl), hf]
  show ((Op.eqFields 9999 (uCells u) (uCells v) [_, _, _, _, _, _, _, _]).run Tryz.prog w).andThen _ = _
  rw [eqF_step (by decide) (part_plain ta rfl) (part_plain ta rfl) (es _ _), eqF_step (by decide) (part_plain ta rfl) (part_plain ta rfl) (es _ _), eqF_step (by decide) (part_plain tb rfl) (part_plain tb rfl) (ei _ _), eqF_step (by decide) (part_plain ta rfl) (part_plain ta rfl) (es _ _), eqF_step (by decide) (part_plain ta rfl) (part_plain ta rfl) (es _ _), eqF_step (by decide) (part_plain ta rfl) (part_plain ta rfl) (es _ _), eqF_step (by decide) (part_plain tc rfl) (part_plain tc rfl) (eb _ _), eqF_step (by decide) (part_plain tc rfl) (part_plain tc rfl) (eb _ _)]
  unfold Url.same
  generalize (u.sch == v.sch) = b1
  generalize (u.host == v.host) = b2
  generalize (u.port == v.port) = b3
  generalize (u.path == v.path) = b4
  generalize (u.query == v.query) = b5
  generalize (u.frag == v.frag) = b6
  generalize (u.hq == v.hq) = b7
  generalize (u.hf == v.hf) = b8
  cases b1
  · rfl
  cases b2
  · rfl
  cases b3
  · rfl
  cases b4
  · rfl
  cases b5
  · rfl
  cases b6
  · rfl
  cases b7
  · rfl
  cases b8
  · rfl
  · rfl
theorem guardU : Tryz.prog.eqGuardType Tryz.prog.depth 25 = false := by kernel_rfl
set_option maxHeartbeats 2000000 in
set_option maxRecDepth 100000 in
theorem May_any (u : Url.U) (w : World) (hE : Env w) (hu : Fits u) (hz : (Url.str u).length ≤ 10000000) :
    Calls Tryz.prog 23 #[uVal u] w fun e w' => e = .returned (.bool (Url.may u)) ∧ Below w.heap.size w w' := by
  have hzu := (zero_of_info zeroURL).1
  have hgd := guardU
  have hb0 : Below w.heap.size w (w.alloc (.cells (uCells u) 25)) := (Below.refl _ w).alloc (Nat.le_refl _) _
  have hU0 : UAt (w.alloc (.cells (uCells u) 25)) w.heap.size u := heap_alloc_last _ _
  have hE0 := hE.below hb0
  have strc : ∀ W : World, Env W → Calls Tryz.prog 22 #[uVal u] W fun e w' => e = .returned (.string (str (Url.str u))) ∧ Below W.heap.size W w' := fun W h => String_any u W h hu
  have parc : ∀ W : World, Env W → Calls Tryz.prog 11 #[.string (str (Url.str u))] W fun e w' => e = .returned (.tuple #[uVal (Url.parse (Url.str u)), .int .i64 (Url.perr (Url.str u))]) ∧ Below W.heap.size W w' := fun W h => Parse_any _ W h hz
  have HM : Hid (Url.may u = (decide (Url.perr (Url.str u) = 0) && Url.same (Url.parse (Url.str u)) u)) := rfl
  generalize Url.parse (Url.str u) = p at parc HM
  generalize Url.perr (Url.str u) = pe at parc HM
  generalize Url.str u = s at strc parc
  have heq : ∀ W : World, (binOp .eql 25 (.agg (uCells p)) (.agg (uCells u))).run Tryz.prog W = .ok (.bool (Url.same p u)) W := fun W => eql_U p u W
  unfold uVal at hzu strc parc
  unfold uVal
  unfold uCells at hzu hb0 hU0 hE0 strc parc heq ⊢
  by_cases hp : pe = 0
  · subst hp
    go_enter Tryz.func23, Tryz.ntmps23
    go_wp2_with (first
      | (go_at_call 22; refine (strc _ hE0).mono ?_; rintro e w1 ⟨rfl, hb1⟩; have hU1 := UAt.below hU0 hb1; have hE1 := hE0.below hb1; have hb1' := bel hb0 hb1)
      | (go_at_call 11; refine (parc _ hE1).mono ?_; rintro e w2 ⟨rfl, hb2⟩; have hU2 := UAt.below hU1 hb2; have hb2' := bel hb1' hb2; have hl2 := (Array.getElem?_eq_some_iff.1 hU2).1; have c0 := hU2.cell 0; have c1 := hU2.cell 1; have c2 := hU2.cell 2; have c3 := hU2.cell 3; have c4 := hU2.cell 4; have c5 := hU2.cell 5; have c6 := hU2.cell 6; have c7 := hU2.cell 7; simp only [uCells] at c0 c1 c2 c3 c4 c5 c6 c7))
    go_ret
    exact ⟨by rw [HM.out]; rfl, hb2'.alloc (by omega) _⟩
  · have hp2 : (pe == 0) = false := beq_eq_false_iff_ne.2 hp
    have HM2 : Hid (Url.may u = false) := by
      show _ = _
      rw [HM.out, decide_eq_false hp]
      rfl
    clear hp
    go_enter Tryz.func23, Tryz.ntmps23
    go_wp2_with (first
      | (go_at_call 22; refine (strc _ hE0).mono ?_; rintro e w1 ⟨rfl, hb1⟩; have hE1 := hE0.below hb1; have hb1' := bel hb0 hb1)
      | (go_at_call 11; refine (parc _ hE1).mono ?_; rintro e w2 ⟨rfl, hb2⟩; have hb2' := bel hb1' hb2; have hl2 := hb2'.size))
    go_ret
    exact ⟨by rw [HM2.out]; rfl, hb2'.alloc (by omega) _⟩
end Go.Proofs.YtlkhjloeonbjaaaGreatDoor
