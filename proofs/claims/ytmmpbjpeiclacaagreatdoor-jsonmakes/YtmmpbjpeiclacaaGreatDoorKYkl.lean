/- Texts laid as one. -/
import Derived.Test.YtmmpbjpeiclacaaGreatDoorKYJ
import Derived.Maps.Own
import Derived.Maps.OwnSet
import Derived.Deep.MidRow
import Derived.Deep.AppendLies
/- A set of keys in memory; the contracts of isNew and of the parser's key. -/
set_option linter.unusedVariables false
set_option linter.unusedSimpArgs false
namespace Go.Proofs.YtmmpbjpeiclacaaGreatDoor
open Go.RowKit Go.Maps Go.WideMaps
theorem lawS : Keyed Tryz.prog 9 := string_keyed Tryz.underlying9
/-- The map at g is the set of these keys; at most c were put into it. -/
def SetAt (g c : Nat) (ks : List (List UInt8)) (w : World) : Prop :=
  ∃ n D, n ≤ c ∧ w.ownsMap Tryz.prog 9 (unitElem (H := Unit)) g n D ∧ (∀ t : List UInt8, Maps.has D (.string t) = decide (t ∈ ks)) ∧ Maps.size D = ks.length
theorem SetAt.keep {g c : Nat} {ks : List (List UInt8)} {w w' : World} (h : SetAt g c ks w) (hb : w'.heap[g]? = w.heap[g]?) : SetAt g c ks w' := by
  obtain ⟨n, D, hn, ⟨es, clock, h1, h2⟩, h3⟩ := h
  exact ⟨n, D, hn, ⟨es, clock, hb.trans h1, h2⟩, h3⟩
theorem SetAt.lt {g c : Nat} {ks : List (List UInt8)} {w : World} (h : SetAt g c ks w) : g < w.heap.size := by
  obtain ⟨n, D, hn, ⟨es, clock, h1, h2⟩, h3⟩ := h
  exact (Array.getElem?_eq_some_iff.1 h1).1
theorem SetAt.made (w : World) (c : Nat) : SetAt w.heap.size c [] (w.alloc (.map #[] 0)) :=
  ⟨0, .map [], Nat.zero_le _, World.ownsMap_made _ _ _ _, fun t => rfl, rfl⟩
theorem Kept.grown {b : Nat} {w w' : World} (h : w.grownBy w' (some b)) : Kept b w w' := ⟨h.os, h.tape, h.output, h.size, fun k hk hne => h.block k hk (fun e => hne (Option.some.inj e))⟩
/-- The keys, with one more. -/
def withKey (ks : List (List UInt8)) (t : List UInt8) : List (List UInt8) := if t ∈ ks then ks else ks ++ [t]
set_option maxHeartbeats 1000000 in
theorem isNew_any (g c : Nat) (ks : List (List UInt8)) (t : List UInt8) (w : World) (h : SetAt g c ks w) (ht : t.length ≤ 1000000000) (hc : c ≤ 1000000000) :
    Calls Tryz.prog 33 #[.map (some g), .string (str t)] w fun e w' => e = .returned (.bool (decide (t ∉ ks))) ∧ SetAt g (c + 1) (withKey ks t) w' ∧ Kept g w w' := by
  obtain ⟨n, D, hn, hown, hhas, hsz⟩ := h
  have hkey : keyOf Tryz.prog 9 (.string (str t)) = some (.string t) := by
    have := keyOf_string_mk (s := str t) Tryz.underlying9 (by rw [str_size]; unfold maxLen; omega)
    rw [str_data] at this
    exact this
  have htidy := hown.tidy lawS
  have hput := size_put (k := .string t) htidy (.agg [] : DataW Unit)
  rw [hhas t] at hput
  have hsame := has_put_same (k := .string t) htidy.isMap trivial (.agg [] : DataW Unit)
  have hoth : ∀ x : List UInt8, x ≠ t → Maps.has (D.put (.string t) (.agg [])) (.string x) = Maps.has D (.string x) := fun x hx => has_put_other (fun e => hx (Lit.string.inj e)) _
  have HF : Hid ((∀ x : List UInt8, Maps.has (D.put (.string t) (.agg [])) (.string x) = decide (x ∈ withKey ks t)) ∧ Maps.size (D.put (.string t) (.agg [])) = (withKey ks t).length) := by
    refine ⟨fun x => ?_, ?_⟩
    · by_cases hx : x = t
      · rw [hx, hsame]
        symm
        unfold withKey
        split <;> simp_all
      · rw [hoth x hx, hhas x]
        unfold withKey
        split
        · rfl
        · simp [hx]
    · rw [hput, hsz]
      unfold withKey
      by_cases hm : t ∈ ks
      · simp [hm]
      · simp [hm]
  have HG : Hid (decide (Maps.size D < Maps.size (D.put (.string t) (.agg []))) = decide (t ∉ ks)) := by
    show _ = _
    rw [hput, hsz]
    by_cases hm : t ∈ ks
    · simp [hm]
    · simp [hm]
  clear hput hsame hoth htidy hhas hsz
  go_enter Tryz.func33, Tryz.ntmps33
  go_wp2_with (first
    | (at_len; refine wpList_len_own _ rfl _ 67 rfl 9 94 Tryz.underlying67 _ g n D rfl hown ?_)
    | (at_mapUpdate; refine wpList_mapUpdate_own _ rfl _ _ _ 67 rfl 9 94 lawS Tryz.underlying67 (unitElem (H := Unit)) g n D rfl hown (by unfold maxLen; omega) _ _ _ rfl rfl hkey (.agg []) [] unitElem_mk ?_; intro w1 hown1 hgrow1)
    | (at_len; refine wpList_len_own _ rfl _ 67 rfl 9 94 Tryz.underlying67 _ g (n + 1) _ rfl hown1 ?_))
  go_ret
  exact ⟨ret_bool (by first | exact HG.out | (rw [← HG.out])), ⟨n + 1, _, by omega, hown1, HF.out.1, HF.out.2⟩, Kept.grown hgrow1⟩
end Go.Proofs.YtmmpbjpeiclacaaGreatDoor
/- Values in memory: a value's own block, and how a value reads with all that it leads to. -/
set_option linter.unusedVariables false
set_option linter.unusedSimpArgs false
namespace Go.Proofs.YtmmpbjpeiclacaaGreatDoor
open Go.RowKit
abbrev vv (x0 x1 x2 x3 : Value) : Value := .agg #[x0, x1, x2, x3]
/-- A value's own block. -/
def VAt (w : World) (b : Nat) (x0 x1 x2 x3 : Value) : Prop := w.heap[b]? = some (.cells #[x0, x1, x2, x3] 27 (0, 0))
theorem VAt.cell {w : World} {b : Nat} {x0 x1 x2 x3 : Value} (h : VAt w b x0 x1 x2 x3) (i : Nat) : w.cell? ⟨b, i, none⟩ = #[x0, x1, x2, x3][i]? := Lib.cell_of_heap h i
theorem VAt.free {w : World} {b : Nat} {x0 x1 x2 x3 : Value} (h : VAt w b x0 x1 x2 x3) (i : Nat) : w.frozen? ⟨b, i, none⟩ = false := Lib.frozen_of_heap h i
theorem VAt.lt {w : World} {b : Nat} {x0 x1 x2 x3 : Value} (h : VAt w b x0 x1 x2 x3) : b < w.heap.size := (Array.getElem?_eq_some_iff.1 h).1
theorem VAt.keep {w w' : World} {b : Nat} {x0 x1 x2 x3 : Value} (h : VAt w b x0 x1 x2 x3) (e : w'.heap[b]? = w.heap[b]?) : VAt w' b x0 x1 x2 x3 := e.trans h
theorem VAt.kids {w : World} {b : Nat} {x0 x1 x2 x3 : Value} (h : VAt w b x0 x1 x2 x3) (v : Value) : VAt (w.setCell ⟨b, 3, none⟩ v) b x0 x1 x2 v := Go.Joins.block_setCell h _
theorem VAt.keys {w : World} {b : Nat} {x0 x1 x2 x3 : Value} (h : VAt w b x0 x1 x2 x3) (v : Value) : VAt (w.setCell ⟨b, 2, none⟩ v) b x0 x1 v x3 := Go.Joins.block_setCell h _
theorem zeroVal : (Tryz.prog.info? 27).map (fun i => (i.zero, i.size)) = some (some (vv (.int .i64 0) (.string ⟨#[]⟩) (.slice none 0 0) (.slice none 0 0)), 4) := by kernel_rfl
theorem sizeVal : (Tryz.prog.info? 27).map (·.size) = some 4 := by kernel_rfl
theorem infoVal : (Tryz.prog.info? 27).map (fun i => (i.zero, i.size, i.bytes)) = some (some (vv (.int .i64 0) (.string ⟨#[]⟩) (.slice none 0 0) (.slice none 0 0)), 4, 72) := by kernel_rfl
theorem infoStr : (Tryz.prog.info? 9).map (fun i => (i.zero, i.size, i.bytes)) = some (some (.string ⟨#[]⟩), 1, 16) := by kernel_rfl
theorem load_V {w : World} {b : Nat} {x0 x1 x2 x3 : Value} (h : VAt w b x0 x1 x2 x3) : (loadVar 27 ⟨b, 0, none⟩).run Tryz.prog w = .ok (vv x0 x1 x2 x3) w :=
  run_loadVar_row _ _ _ _ _ _ _ h Tryz.underlying27 rfl sizeVal
theorem loadAt_V {w : World} {b : Nat} {x0 x1 x2 x3 : Value} (h : VAt w b x0 x1 x2 x3) : (Instr.loadAt 27 (.pointer (some ⟨b, 0, none⟩))).run Tryz.prog w = .ok (vv x0 x1 x2 x3) w := by
  simp only [Instr.loadAt, Instr.sureAddr, Sem.run_bind, Sem.run_pure, Result.andThen]
  exact load_V h
theorem results_cell {fn : Func} {p : Tmp} {ty : TypeId} (h : fn.results = #[.cell p ty]) (tmps : Array Value) (P : Program) (w : World) :
    (results fn tmps).run P w = ((asAddr (tmps.getD p undef)).run P w).andThen fun a w1 => (loadVar ty a).run P w1 := by
  simp only [results, h]
  simp [Sem.run_bind, Result.andThen]
theorem ret_V {fn : Func} {p : Tmp} {Q : Ending → World → Prop} {a : Act} {w : World} {b : Nat} {x0 x1 x2 x3 : Value} (hr : fn.results = #[.cell p 27]) (hd : a.defers = []) (hp : a.tmps.getD p undef = .pointer (some ⟨b, 0, none⟩)) (h : VAt w b x0 x1 x2 x3) (hQ : Q (.returned (vv x0 x1 x2 x3)) w) :
    bodyPost Tryz.prog fn Q .ret a w := by
  refine bodyPost_ret (v := vv x0 x1 x2 x3) ?_ hd hQ
  rw [results_cell hr, hp]
  simp [asAddr, Result.andThen, load_V h]
/-- Four cells, each of one. -/
def ones (x0 x1 x2 x3 : Value) : Prop := x0.oneCell' = true ∧ x1.oneCell' = true ∧ x2.oneCell' = true ∧ x3.oneCell' = true
theorem storeAt_V {w : World} {b : Nat} {x0 x1 x2 x3 y0 y1 y2 y3 : Value} (h : VAt w b y0 y1 y2 y3) (h1 : ones x0 x1 x2 x3) : (Instr.storeAt 27 (.pointer (some ⟨b, 0, none⟩)) (vv x0 x1 x2 x3)).run Tryz.prog w = .ok () (w.setRow b #[x0, x1, x2, x3]) := by
  simp only [Instr.storeAt, Instr.sureAddr, Sem.run_bind, Sem.run_pure, Result.andThen]
  exact run_storeVar_row _ _ _ _ _ _ h sizeVal rfl (by simp [h1.1, h1.2.1, h1.2.2.1, h1.2.2.2])
theorem wpList_store_V {ops : Array Oper} {rest : List Oper} {o : Oper} {a : Act} {w : World} {Q : Exit → Act → World → Prop} (x y : Operand) (ho : o.op = .store 27 x y) (hg : o.guard = none) (b : Nat) (x0 x1 x2 x3 : Value) {y0 y1 y2 y3 : Value} (hx : a.eval x = .pointer (some ⟨b, 0, none⟩)) (hy : a.eval y = vv x0 x1 x2 x3) (h : VAt w b y0 y1 y2 y3) (h1 : ones x0 x1 x2 x3)
    (hn : wpList Tryz.prog ops Q rest (a.put o.dst undef) (w.setRow b #[x0, x1, x2, x3])) : wpList Tryz.prog ops Q (o :: rest) a w := by
  refine wpList_plain hg fun K hK => ?_
  unfold Oper.wp
  have e : (execOp a.eval o).run Tryz.prog w = .ok .skip (w.setRow b #[x0, x1, x2, x3]) := by
    unfold execOp
    rw [ho]
    simp only [hx, hy, Sem.run_bind, storeAt_V h h1, Result.andThen, Sem.run_pure]
  rw [e, Oper.upon_skip]
  exact hK _ _ hn
theorem wpList_load_V {ops : Array Oper} {rest : List Oper} {o : Oper} {a : Act} {w : World} {Q : Exit → Act → World → Prop} (x : Operand) (ho : o.op = .load 27 x) (hg : o.guard = none) (b : Nat) (x0 x1 x2 x3 : Value) (hx : a.eval x = .pointer (some ⟨b, 0, none⟩)) (h : VAt w b x0 x1 x2 x3)
    (hn : wpList Tryz.prog ops Q rest (a.put o.dst (vv x0 x1 x2 x3)) w) : wpList Tryz.prog ops Q (o :: rest) a w := by
  refine wpList_plain hg fun K hK => ?_
  unfold Oper.wp
  have e : (execOp a.eval o).run Tryz.prog w = .ok (.value (vv x0 x1 x2 x3)) w := by
    unfold execOp
    rw [ho]
    simp only [hx, Sem.run_bind, loadAt_V h, Result.andThen, Sem.run_pure]
  rw [e, Oper.upon_value]
  exact hK _ _ hn
theorem setRow_V {w : World} {b : Nat} {y0 y1 y2 y3 : Value} (h : VAt w b y0 y1 y2 y3) (x0 x1 x2 x3 : Value) : VAt (w.setRow b #[x0, x1, x2, x3]) b x0 x1 x2 x3 := by
  unfold VAt World.setRow
  show (w.heap.modify b _)[b]? = _
  rw [Array.getElem?_modify, if_pos rfl, h]
  rfl
theorem setRow_other {w : World} {b k : Nat} (cs : Array Value) (hk : k ≠ b) : (w.setRow b cs).heap[k]? = w.heap[k]? := by
  unfold World.setRow
  show (w.heap.modify b _)[k]? = _
  rw [Array.getElem?_modify, if_neg (Ne.symm hk)]
theorem setRow_len (w : World) (b : Nat) (cs : Array Value) : (w.setRow b cs).heap.size = w.heap.size := by
  unfold World.setRow
  show (w.heap.modify b _).size = _
  exact Array.size_modify
theorem Kept.setRow (b : Nat) (w : World) (cs : Array Value) : Kept b w (w.setRow b cs) :=
  ⟨rfl, rfl, rfl, by rw [setRow_len]; exact Nat.le_refl _, fun k _ hk => setRow_other cs hk⟩
/-- A slice reads as these texts, in blocks of which Q holds. -/
def RTs (Q : Nat → Prop) (w : World) (ts : List (List UInt8)) (v : Value) : Prop :=
  (∃ a c, v = .slice a 0 c ∧ ts = []) ∨ ∃ b o c, Q b ∧ v = .slice (some ⟨b, o, none⟩) ts.length c ∧ ts.length ≤ c ∧ b < w.heap.size ∧ ∀ (j : Nat) t, ts[j]? = some t → w.cell? ⟨b, o + j, none⟩ = some (.string (str t))
mutual
/-- A value reads as this one. -/
def RV (Q : Nat → Prop) (w : World) : Jsn.J → Value → Prop
  | .mk k t ks cs, v => ∃ kv cv, v = vv (.int .i64 k) (.string (str t)) kv cv ∧ RTs Q w ks kv ∧ ((∃ a c, cv = .slice a 0 c ∧ cs = []) ∨ ∃ b o c, Q b ∧ cv = .slice (some ⟨b, o, none⟩) cs.length c ∧ cs.length ≤ c ∧ b < w.heap.size ∧ RCs Q w b o cs)
/-- From a place on lie these values. -/
def RCs (Q : Nat → Prop) (w : World) (b : Nat) : Nat → List Jsn.J → Prop
  | _, [] => True
  | o, c :: cs => (∃ x0 x1 x2 x3, w.cell? ⟨b, o, none⟩ = some x0 ∧ w.cell? ⟨b, o + 1, none⟩ = some x1 ∧ w.cell? ⟨b, o + 2, none⟩ = some x2 ∧ w.cell? ⟨b, o + 3, none⟩ = some x3 ∧ RV Q w c (vv x0 x1 x2 x3)) ∧ RCs Q w b (o + 4) cs
end
/-- A slice reads as these values. -/
def RKs (Q : Nat → Prop) (w : World) (cs : List Jsn.J) (cv : Value) : Prop := (∃ a c, cv = .slice a 0 c ∧ cs = []) ∨ ∃ b o c, Q b ∧ cv = .slice (some ⟨b, o, none⟩) cs.length c ∧ cs.length ≤ c ∧ b < w.heap.size ∧ RCs Q w b o cs
theorem RV_mk {Q : Nat → Prop} {w : World} {k : Int} {t : List UInt8} {ks : List (List UInt8)} {cs : List Jsn.J} {v : Value} : RV Q w (.mk k t ks cs) v ↔ ∃ kv cv, v = vv (.int .i64 k) (.string (str t)) kv cv ∧ RTs Q w ks kv ∧ RKs Q w cs cv := Iff.rfl
theorem RCs_at {Q : Nat → Prop} {w : World} {b : Nat} : ∀ {o : Nat} {cs : List Jsn.J} {j : Nat} {c : Jsn.J}, RCs Q w b o cs → cs[j]? = some c → ∃ x0 x1 x2 x3, w.cell? ⟨b, o + j * 4, none⟩ = some x0 ∧ w.cell? ⟨b, o + j * 4 + 1, none⟩ = some x1 ∧ w.cell? ⟨b, o + j * 4 + 2, none⟩ = some x2 ∧ w.cell? ⟨b, o + j * 4 + 3, none⟩ = some x3 ∧ RV Q w c (vv x0 x1 x2 x3)
  | o, [], j, c, _, h => by simp at h
  | o, d :: cs, 0, c, hr, h => by
    simp at h
    subst h
    simpa using hr.1
  | o, d :: cs, j + 1, c, hr, h => by
    have := RCs_at (j := j) hr.2 (by simpa using h)
    rw [show o + 4 + j * 4 = o + (j + 1) * 4 from by omega] at this
    exact this
theorem RCs_mk {Q : Nat → Prop} {w : World} {b : Nat} : ∀ {o : Nat} {cs : List Jsn.J}, (∀ j c, cs[j]? = some c → ∃ x0 x1 x2 x3, w.cell? ⟨b, o + j * 4, none⟩ = some x0 ∧ w.cell? ⟨b, o + j * 4 + 1, none⟩ = some x1 ∧ w.cell? ⟨b, o + j * 4 + 2, none⟩ = some x2 ∧ w.cell? ⟨b, o + j * 4 + 3, none⟩ = some x3 ∧ RV Q w c (vv x0 x1 x2 x3)) → RCs Q w b o cs
  | o, [], _ => trivial
  | o, d :: cs, h => ⟨by simpa using h 0 d rfl, RCs_mk (fun j c hj => by
      have := h (j + 1) c (by simpa using hj)
      rw [show o + (j + 1) * 4 = o + 4 + j * 4 from by omega] at this
      exact this)⟩
theorem cell_keep {w w' : World} {b o : Nat} (h : w'.heap[b]? = w.heap[b]?) : w'.cell? ⟨b, o, none⟩ = w.cell? ⟨b, o, none⟩ := by
  unfold World.cell?
  rw [h]
theorem RTs.keep {Q Q' : Nat → Prop} {w w' : World} {ts : List (List UInt8)} {v : Value} (h : RTs Q w ts v) (hs : w.heap.size ≤ w'.heap.size) (hk : ∀ k, Q k → k < w.heap.size → Q' k ∧ w'.heap[k]? = w.heap[k]?) : RTs Q' w' ts v := by
  rcases h with h | ⟨b, o, c, hq, hv, hl, hb, hc⟩
  · exact .inl h
  · exact .inr ⟨b, o, c, (hk b hq hb).1, hv, hl, by omega, fun j t hj => (cell_keep (hk b hq hb).2).trans (hc j t hj)⟩
/-- A value reads in another world as it did, where its blocks are as they were. -/
theorem RV.keep {Q Q' : Nat → Prop} {w w' : World} (hs : w.heap.size ≤ w'.heap.size) (hk : ∀ k, Q k → k < w.heap.size → Q' k ∧ w'.heap[k]? = w.heap[k]?) : ∀ {t : Jsn.J} {v : Value}, RV Q w t v → RV Q' w' t v := by
  intro t
  induction t using Jsn.J.ind with
  | h k t ks cs ih =>
    intro v h
    obtain ⟨kv, cv, rfl, h1, h2⟩ := RV_mk.1 h
    refine RV_mk.2 ⟨kv, cv, rfl, h1.keep hs hk, ?_⟩
    rcases h2 with h2 | ⟨b, o, c, hq, hv, hl, hb, hc⟩
    · exact .inl h2
    · refine .inr ⟨b, o, c, (hk b hq hb).1, hv, hl, by omega, RCs_mk fun j d hj => ?_⟩
      obtain ⟨x0, x1, x2, x3, g0, g1, g2, g3, hr⟩ := RCs_at hc hj
      have e := (hk b hq hb).2
      exact ⟨x0, x1, x2, x3, (cell_keep e).trans g0, (cell_keep e).trans g1, (cell_keep e).trans g2, (cell_keep e).trans g3, ih d (List.mem_of_getElem? hj) hr⟩
theorem RKs.keep {Q Q' : Nat → Prop} {w w' : World} {cs : List Jsn.J} {v : Value} (h : RKs Q w cs v) (hs : w.heap.size ≤ w'.heap.size) (hk : ∀ k, Q k → k < w.heap.size → Q' k ∧ w'.heap[k]? = w.heap[k]?) : RKs Q' w' cs v := by
  rcases h with h | ⟨b, o, c, hq, hv, hl, hb, hc⟩
  · exact .inl h
  · refine .inr ⟨b, o, c, (hk b hq hb).1, hv, hl, by omega, RCs_mk fun j d hj => ?_⟩
    obtain ⟨x0, x1, x2, x3, g0, g1, g2, g3, hr⟩ := RCs_at hc hj
    have e := (hk b hq hb).2
    exact ⟨x0, x1, x2, x3, (cell_keep e).trans g0, (cell_keep e).trans g1, (cell_keep e).trans g2, (cell_keep e).trans g3, RV.keep hs hk hr⟩
theorem RV.shape {Q : Nat → Prop} {w : World} {t : Jsn.J} {v : Value} (h : RV Q w t v) : ∃ a n c a' n' c', v = vv (.int .i64 t.kind) (.string (str t.text)) (.slice a n c) (.slice a' n' c') := by
  cases t with
  | mk k t ks cs =>
    obtain ⟨kv, cv, rfl, h1, h2⟩ := RV_mk.1 h
    rcases h1 with ⟨a, c, rfl, _⟩ | ⟨b, o, c, _, rfl, _⟩ <;> rcases h2 with ⟨a', c', rfl, _⟩ | ⟨b', o', c', _, rfl, _⟩ <;> exact ⟨_, _, _, _, _, _, rfl⟩
theorem ones_mk (k : Int) (s : ByteArray) (a a' : Option Addr) (n c n' c' : Nat) : ones (.int .i64 k) (.string s) (.slice a n c) (.slice a' n' c') := ⟨rfl, rfl, rfl, rfl⟩
/-- A plain value: no list. -/
theorem RV.plain (Q : Nat → Prop) (w : World) (k : Int) (t : List UInt8) : RV Q w (.mk k t [] []) (vv (.int .i64 k) (.string (str t)) (.slice none 0 0) (.slice none 0 0)) :=
  RV_mk.2 ⟨_, _, rfl, .inl ⟨_, _, rfl, rfl⟩, .inl ⟨_, _, rfl, rfl⟩⟩
end Go.Proofs.YtmmpbjpeiclacaaGreatDoor
