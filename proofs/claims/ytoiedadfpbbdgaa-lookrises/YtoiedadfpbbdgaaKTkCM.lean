/- Texts laid as one. -/
import Derived.Test.YtoiedadfpbbdgaaKTkB
import Derived.Test.YtoiedadfpbbdgaaKGround
import Derived.Test.YtoiedadfpbbdgaaKUPut
import Derived.Test.YtoiedadfpbbdgaaKRfGK
import Derived.Deep.MidRow
import Derived.Deep.WholeRow
import Derived.Deep.RegionWith
/- Rows of attributes: how they read, those of a call's own; the contract of token.add. -/
set_option linter.unusedVariables false
set_option linter.unusedSimpArgs false
namespace Go.Proofs.Ytoiedadfpbbdgaa
open Go.RowKit
abbrev Pr := List UInt8 × List UInt8
def pairCells (ps : List Pr) : List Value := ps.flatMap fun p => [strV p.1, strV p.2]
theorem pairCells_snoc (ps : List Pr) (p : Pr) : pairCells (ps ++ [p]) = pairCells ps ++ [strV p.1, strV p.2] := by simp [pairCells]
theorem pairCells_length : ∀ ps : List Pr, (pairCells ps).length = ps.length * 2
  | [] => rfl
  | p :: ps => by
    have := pairCells_length ps
    simp only [pairCells, List.flatMap_cons, List.length_append, List.length_cons, List.length_nil] at this ⊢
    omega
theorem pairCells_at : ∀ (ps : List Pr) (j : Nat) (p : Pr), ps[j]? = some p → (pairCells ps)[j * 2]? = some (strV p.1) ∧ (pairCells ps)[j * 2 + 1]? = some (strV p.2)
  | [], j, p, h => by simp at h
  | q :: ps, 0, p, h => by
    simp at h
    subst h
    exact ⟨rfl, rfl⟩
  | q :: ps, j + 1, p, h => by
    have := pairCells_at ps j p (by simpa using h)
    have e : pairCells (q :: ps) = strV q.1 :: strV q.2 :: pairCells ps := rfl
    rw [e, show (j + 1) * 2 = j * 2 + 1 + 1 from by omega]
    simpa using this
/-- The slice owns these pairs, in memory from 'B' on; 't' is the pair's own type. -/
def OwnsPairs (t : TypeId) (w : World) (B : Nat) (v : Value) (ps : List Pr) : Prop := w.ownsRow B t 2 v ps.length (pairCells ps)
theorem OwnsPairs.nil (t : TypeId) (w : World) (B : Nat) : OwnsPairs t w B (.slice none 0 0) [] := World.ownsRow_nil _ _ _ _
theorem OwnsPairs.of {t : TypeId} {w : World} {B : Nat} {v x y : Value} {ps qs : List Pr} {p : Pr} (h : qs = ps ++ [p]) (hx : strV p.1 = x) (hy : strV p.2 = y) (ho : w.ownsRow B t 2 v (ps.length + 1) (pairCells ps ++ [x, y])) : OwnsPairs t w B v qs := by
  subst h; subst hx; subst hy
  unfold OwnsPairs
  rw [pairCells_snoc, List.length_append]
  exact ho
/-- The slice reads as these pairs. -/
def ReadsPairs (w : World) (v : Value) (ps : List Pr) : Prop :=
  (∃ a c, v = .slice a 0 c ∧ ps = []) ∨ ∃ b o c, v = .slice (some ⟨b, o, none⟩) ps.length c ∧ ps.length ≤ c ∧ ∀ (j : Nat) p, ps[j]? = some p → w.cell? ⟨b, o + j * 2, none⟩ = some (strV p.1) ∧ w.cell? ⟨b, o + j * 2 + 1, none⟩ = some (strV p.2)
theorem ReadsPairs.form {w : World} {v : Value} {ps : List Pr} (h : ReadsPairs w v ps) : ∃ a c, v = .slice a ps.length c := by
  rcases h with ⟨a, c, rfl, rfl⟩ | ⟨b, o, c, rfl, _, _⟩
  · exact ⟨_, _, rfl⟩
  · exact ⟨_, _, rfl⟩
theorem ReadsPairs.at {w : World} {a : Option Addr} {n c : Nat} {ps : List Pr} {k : Nat} {p : Pr} (h : ReadsPairs w (.slice a n c) ps) (hp : ps[k]? = some p) :
    ∃ b o, a = some ⟨b, o, none⟩ ∧ ps.length ≤ c ∧ b < w.heap.size ∧ w.cell? ⟨b, o + k * 2, none⟩ = some (.string (str p.1)) ∧ w.cell? ⟨b, o + k * 2 + 1, none⟩ = some (.string (str p.2)) := by
  rcases h with ⟨a, c, _, rfl⟩ | ⟨b, o, c, h1, h2, h3⟩
  · simp at hp
  · cases h1
    exact ⟨b, o, rfl, h2, cell_lt (h3 k p hp).1, h3 k p hp⟩
theorem ReadsPairs.below {w w' : World} {v : Value} {ps : List Pr} (h : ReadsPairs w v ps) (hb : Below w.heap.size w w') : ReadsPairs w' v ps := by
  rcases h with h | ⟨b, o, c, rfl, hc, hr⟩
  · exact .inl h
  · refine .inr ⟨b, o, c, rfl, hc, fun j p hj => ?_⟩
    have := hr j p hj
    exact ⟨(hb.cell (p := ⟨b, o + j * 2, none⟩) (cell_lt this.1)).trans this.1, (hb.cell (p := ⟨b, o + j * 2 + 1, none⟩) (cell_lt this.2)).trans this.2⟩
theorem OwnsPairs.reads {t : TypeId} {w : World} {B : Nat} {v : Value} {ps : List Pr} (h : OwnsPairs t w B v ps) : ReadsPairs w v ps := by
  rcases h.2 with ⟨rfl, h0⟩ | ⟨g, cap, cur, rfl, _, hg, hc, _, hcs, ht⟩
  · exact .inl ⟨_, _, rfl, List.eq_nil_of_length_eq_zero h0⟩
  · refine .inr ⟨g, 0, cap, rfl, hc, fun j p hj => ?_⟩
    have hlt : j < ps.length := (List.getElem?_eq_some_iff.1 hj).1
    have e := pairCells_at ps j p hj
    have e1 := World.ownsRow.cellAt (w := w) (base := B) (e := t) (size := 2) (g := g) (cap := cap) (n := ps.length) (xs := pairCells ps) h (j * 2) (by omega)
    have e2 := World.ownsRow.cellAt (w := w) (base := B) (e := t) (size := 2) (g := g) (cap := cap) (n := ps.length) (xs := pairCells ps) h (j * 2 + 1) (by omega)
    rw [Nat.zero_add, e1, e2]
    exact e
theorem ownsRow_below {w w' : World} {B : Nat} {e : TypeId} {size n : Nat} {v : Value} {xs : List Value} (h : w.ownsRow B e size v n xs) (hb : Below w.heap.size w w') : w'.ownsRow B e size v n xs := by
  refine ⟨h.1, ?_⟩
  rcases h.2 with h0 | ⟨g, cap, cur, hv, h1, hg, hc⟩
  · exact .inl h0
  · exact .inr ⟨g, cap, cur, hv, h1, (hb.block g (Array.getElem?_eq_some_iff.1 hg).1).trans hg, hc⟩
theorem infoAttr : (Try.prog.info? 54).map (fun i => (i.zero, i.size, i.bytes)) = some (some (.agg #[.string ByteArray.empty, .string ByteArray.empty]), 2, 32) := by kernel_rfl
abbrev OwnsA (w : World) (B : Nat) (v : Value) (ps : List Pr) : Prop := OwnsPairs 54 w B v ps
theorem str_beq (n q : List UInt8) : ((str n).toList == (str q).toList) = (n == q) := by rw [str_list, str_list]
theorem has_take (ats : List Pr) (q : List UInt8) (j : Nat) (h : j < ats.length) : Tk.has (ats.take (j + 1)) q = (Tk.has (ats.take j) q || ats[j].1 == q) := by
  unfold Tk.has
  rw [List.take_succ_eq_append_getElem h, List.any_append]
  simp
theorem has_here (ats : List Pr) (q : List UInt8) (j : Nat) (h : j < ats.length) (hq : (ats[j].1 == q) = true) : Tk.has ats q = true := by
  unfold Tk.has
  rw [List.any_eq_true]
  exact ⟨ats[j], List.getElem_mem h, hq⟩
theorem OwnsPairs.below {t : TypeId} {w w' : World} {B : Nat} {v : Value} {ps : List Pr} (h : OwnsPairs t w B v ps) (hb : Below w.heap.size w w') : OwnsPairs t w' B v ps := ownsRow_below h hb
theorem OwnsPairs.kept {t : TypeId} {w w' : World} {B b : Nat} {v : Value} {ps : List Pr} (h : OwnsPairs t w B v ps) (hk : Kept b w w') (hb : b < B) : OwnsPairs t w' B v ps := by
  refine ⟨h.1, ?_⟩
  rcases h.2 with h0 | ⟨g, cap, cur, hv, h1, hg, hc⟩
  · exact .inl h0
  · exact .inr ⟨g, cap, cur, hv, h1, hk.heap hg (by omega), hc⟩
end Go.Proofs.Ytoiedadfpbbdgaa
/- The contracts of a reader's value and attr. -/
set_option linter.unusedVariables false
set_option linter.unusedSimpArgs false
namespace Go.Proofs.Ytoiedadfpbbdgaa
open Go.RowKit
theorem fd_one (q : UInt8) : ∀ l : List UInt8, Tk.fd [q] l = (l.takeWhile (· != q)).length
  | [] => rfl
  | c :: t => by
    rw [Tk.fd, List.takeWhile_cons]
    by_cases h : c = q
    · subst h
      have e : [c].isPrefixOf (c :: t) = true := by simp [List.isPrefixOf]
      rw [e]
      simp
    · have e : [q].isPrefixOf (c :: t) = false := by
        have : (q == c) = false := beq_eq_false_iff_ne.2 fun e => h e.symm
        simp [List.isPrefixOf, this]
      have e2 : (c != q) = true := bne_iff_ne.2 h
      rw [e, e2, fd_one q t]
      simp
theorem past_one (q : UInt8) (l : List UInt8) : l.take (Tk.fd [q] l) = l.takeWhile (· != q) ∧ l.drop (Tk.fd [q] l + 1) = (l.dropWhile (· != q)).drop 1 := by
  have h := take_while (· != q) l
  rw [fd_one, h.1, ← List.drop_drop, h.2]
  exact ⟨rfl, rfl⟩
/-- What value takes, and what it leaves. -/
def valueP (l : List UInt8) : List UInt8 × List UInt8 := match Tk.eqR l with
  | none => ([], l.dropWhile Asc.isBlank)
  | some r => (Tk.valRaw r, Tk.valR r)
theorem valueP_none (l : List UInt8) (h : [61].isPrefixOf (l.dropWhile Asc.isBlank) = false) : valueP l = ([], l.dropWhile Asc.isBlank) := by
  have e : Tk.eqR l = none := by
    unfold Tk.eqR
    split
    · rfl
    · rename_i c r e
      rw [e] at h
      rw [if_neg]
      rintro rfl
      simp [List.isPrefixOf] at h
  unfold valueP
  rw [e]
theorem valueP_some (l t : List UInt8) (h : l.dropWhile Asc.isBlank = [61] ++ t) : valueP l = (Tk.valRaw (t.dropWhile Asc.isBlank), Tk.valR (t.dropWhile Asc.isBlank)) := by
  have e : Tk.eqR l = some (t.dropWhile Asc.isBlank) := by
    unfold Tk.eqR
    rw [h]
    rfl
  unfold valueP
  rw [e]
theorem one_cases (q : UInt8) (l : List UInt8) : (∃ t, l = [q] ++ t) ∨ [q].isPrefixOf l = false := by
  cases l with
  | nil => right; rfl
  | cons c t =>
    by_cases h : c = q
    · left; exact ⟨t, by rw [h]; rfl⟩
    · right
      have : (q == c) = false := beq_eq_false_iff_ne.2 fun e => h e.symm
      simp [List.isPrefixOf, this]
theorem not_one (q : UInt8) (t : List UInt8) (c : UInt8) (h : [q].isPrefixOf (c :: t) = false) : c ≠ q := by
  rintro rfl
  simp [List.isPrefixOf] at h
end Go.Proofs.Ytoiedadfpbbdgaa
/- The contract of a reader's attr. -/
set_option linter.unusedVariables false
set_option linter.unusedSimpArgs false
namespace Go.Proofs.Ytoiedadfpbbdgaa
open Go.RowKit
def AAt (w : World) (b : Nat) (x y : Value) : Prop := w.heap[b]? = some (.cells #[x, y] 54 (0, 0))
theorem sizeA : (Try.prog.info? 54).map (·.size) = some 2 := by kernel_rfl
theorem zeroA : (Try.prog.info? 54).map (fun i => (i.zero, i.size)) = some (some (.agg #[.string ByteArray.empty, .string ByteArray.empty]), 2) := by kernel_rfl
theorem load_A {w : World} {b : Nat} {x y : Value} (h : AAt w b x y) : (loadVar 54 ⟨b, 0, none⟩).run Try.prog w = .ok (.agg #[x, y]) w :=
  run_loadVar_row _ _ _ _ _ _ _ h Try.underlying54 rfl sizeA
theorem results_cell {fn : Func} {p : Tmp} {ty : TypeId} (h : fn.results = #[.cell p ty]) (tmps : Array Value) (P : Program) (w : World) :
    (results fn tmps).run P w = ((asAddr (tmps.getD p undef)).run P w).andThen fun a w1 => (loadVar ty a).run P w1 := by
  simp only [results, h]
  simp [Sem.run_bind, Result.andThen]
theorem ret_A {fn : Func} {p : Tmp} {Q : Ending → World → Prop} {a : Act} {w : World} {b : Nat} {x y : Value} (hr : fn.results = #[.cell p 54]) (hd : a.defers = []) (hp : a.tmps.getD p undef = .pointer (some ⟨b, 0, none⟩)) (h : AAt w b x y) (hQ : Q (.returned (.agg #[x, y])) w) :
    bodyPost Try.prog fn Q .ret a w := by
  refine bodyPost_ret (v := .agg #[x, y]) ?_ hd hQ
  rw [results_cell hr, hp]
  simp [asAddr, Result.andThen, load_A h]
theorem storeAt_A {w : World} {b : Nat} {x y x0 y0 : Value} (h : AAt w b x0 y0) (hx : Value.oneCell' x = true) (hy : Value.oneCell' y = true) : (Instr.storeAt 54 (.pointer (some ⟨b, 0, none⟩)) (.agg #[x, y])).run Try.prog w = .ok () (w.setRow b #[x, y]) := by
  simp only [Instr.storeAt, Instr.sureAddr, Sem.run_bind, Sem.run_pure, Result.andThen]
  exact run_storeVar_row _ _ _ _ _ _ h sizeA rfl (by simp [hx, hy])
theorem wpList_store_A {ops : Array Oper} {rest : List Oper} {o : Oper} {a : Act} {w : World} {Q : Exit → Act → World → Prop} (p q : Operand) (ho : o.op = .store 54 p q) (hg : o.guard = none) (b : Nat) (x y x0 y0 : Value) (hx : a.eval p = .pointer (some ⟨b, 0, none⟩)) (hy : a.eval q = .agg #[x, y]) (h : AAt w b x0 y0) (h1 : Value.oneCell' x = true) (h2 : Value.oneCell' y = true)
    (hn : wpList Try.prog ops Q rest (a.put o.dst undef) (w.setRow b #[x, y])) : wpList Try.prog ops Q (o :: rest) a w := by
  refine wpList_plain hg fun K hK => ?_
  unfold Oper.wp
  have e : (execOp a.eval o).run Try.prog w = .ok .skip (w.setRow b #[x, y]) := by
    unfold execOp
    rw [ho]
    simp only [hx, hy, Sem.run_bind, storeAt_A h h1 h2, Result.andThen, Sem.run_pure]
  rw [e, Oper.upon_skip]
  exact hK _ _ hn
theorem setRow_A {w : World} {b : Nat} {x y x0 y0 : Value} (h : AAt w b x0 y0) : AAt (w.setRow b #[x, y]) b x y := by
  unfold AAt at *
  simp [World.setRow, Array.getElem?_modify, h]
theorem kept_setRow (b : Nat) (w : World) (cs : Array Value) : Kept b w (w.setRow b cs) :=
  ⟨rfl, rfl, rfl, by simp [World.setRow], fun k _ hb => by simp [World.setRow, Array.getElem?_modify, Ne.symm hb]⟩
/-- A block that came since may be written, too. -/
theorem Kept.more {b c : Nat} {w W W' : World} (h : Kept b w W) (h2 : Kept c W W') (hc : w.heap.size ≤ c) : Kept b w W' :=
  ⟨h2.os.trans h.os, h2.tape.trans h.tape, h2.output.trans h.output, Nat.le_trans h.size h2.size, fun k hk hb => (h2.block k (Nat.lt_of_lt_of_le hk h.size) (by omega)).trans (h.block k hk hb)⟩
/-- What attr takes, and what it leaves. -/
def attrP (l : List UInt8) : (List UInt8 × List UInt8) × List UInt8 := ((Asc.lower (Tk.attrN l), Rf.dec true (valueP (Tk.attrR l)).1), (valueP (Tk.attrR l)).2)
theorem valueP_le (l : List UInt8) : (valueP l).1.length ≤ l.length ∧ (valueP l).2.length ≤ l.length := by
  unfold valueP
  split
  · exact ⟨Nat.zero_le _, Tk.dropWhile_le _ _⟩
  · rename_i r e
    have h1 := Tk.eqR_le l r e
    have h2 := Tk.valR_le r
    refine ⟨?_, by show (Tk.valR r).length ≤ _; omega⟩
    show (Tk.valRaw r).length ≤ _
    cases r with
    | nil => exact Nat.zero_le _
    | cons q t =>
      rw [List.length_cons] at h1
      rw [Tk.valRaw]
      split
      · have := tkw_le (· != q) t
        omega
      · have := tkw_le Tk.vn (q :: t)
        rw [List.length_cons] at this
        omega
end Go.Proofs.Ytoiedadfpbbdgaa
/- Plain mathematics of a tag as the program reads it: gaps at a stroke, blanks behind a name without a value. -/
set_option linter.unusedVariables false
set_option linter.unusedSimpArgs false
namespace Go.Proofs.Ytoiedadfpbbdgaa
open Go.RowKit
def lastS (sl : Bool) (g : List UInt8) : Bool := (g.getLast?.map (· == 47)).getD sl
theorem lastS_cons (sl : Bool) (c : UInt8) (g : List UInt8) : lastS sl (c :: g) = lastS (c == 47) g := by
  cases g with
  | nil => rfl
  | cons d g => unfold lastS; rw [List.getLast?_cons_cons]; cases h : (d :: g).getLast? with
    | none => simp at h
    | some x => rfl
theorem gp_62 (c : UInt8) (h : gp c = true) : c ≠ 62 := by
  rintro rfl
  revert h
  decide
theorem gp_or (c : UInt8) (h : gp c = true) : c = 47 ∨ Asc.isBlank c = true := by
  unfold gp at h
  rcases Bool.or_eq_true _ _ ▸ h with h | h
  · exact .inr h
  · exact .inl (by simpa using h)
theorem tg_gaps (ats : List Pr) : ∀ (l : List UInt8) (sl : Bool), Tk.tg l ats sl = Tk.tg (l.dropWhile gp) ats (lastS sl (l.takeWhile gp))
  | [], sl => rfl
  | c :: t, sl => by
    cases h : gp c
    · rw [List.dropWhile_cons, List.takeWhile_cons, h]
      rfl
    · rw [List.dropWhile_cons, List.takeWhile_cons, h, if_pos rfl, if_pos rfl, lastS_cons, Tk.tg_gap c t ats sl (gp_62 c h) (gp_or c h)]
      exact tg_gaps ats t (c == 47)
theorem blank_47 (c : UInt8) (h : Asc.isBlank c = true) : (c == 47) = false ∧ c ≠ 62 := by
  constructor
  · rw [beq_eq_false_iff_ne]; rintro rfl; revert h; decide
  · rintro rfl; revert h; decide
theorem tg_blanks (ats : List Pr) : ∀ l : List UInt8, Tk.tg (l.dropWhile Asc.isBlank) ats false = Tk.tg l ats false
  | [] => rfl
  | c :: t => by
    cases h : Asc.isBlank c
    · rw [List.dropWhile_cons, h]
      rfl
    · rw [List.dropWhile_cons, h, if_pos rfl, tg_blanks ats t, Tk.tg_gap c t ats false (blank_47 c h).2 (.inr h), (blank_47 c h).1]
theorem attrP_fst (l : List UInt8) : (attrP l).1 = (Tk.attr l).1 := by
  unfold attrP valueP Tk.attr
  cases Tk.eqR (Tk.attrR l) with
  | none => show (_, Rf.dec true []) = _; rw [Rf.dec_nil]
  | some r => rfl
theorem attrP_tg (l : List UInt8) (X : List Pr) : Tk.tg (attrP l).2 X false = Tk.tg (Tk.attr l).2 X false := by
  unfold attrP valueP Tk.attr
  cases Tk.eqR (Tk.attrR l) with
  | none => exact tg_blanks X _
  | some r => rfl
theorem attrP_lt (c : UInt8) (t : List UInt8) : (attrP (c :: t)).2.length ≤ t.length := by
  have h1 := (valueP_le (Tk.attrR (c :: t))).2
  have h2 := Tk.attrR_le (c :: t) (by simp)
  rw [List.length_cons] at h2
  show (valueP (Tk.attrR (c :: t))).2.length ≤ _
  omega
/-- One attribute more. -/
theorem tg_step (c : UInt8) (t : List UInt8) (ats : List Pr) (sl : Bool) (h1 : gp c = false) (h2 : c ≠ 62) : Tk.tg (c :: t) ats sl = Tk.tg (attrP (c :: t)).2 (Tk.add ats (attrP (c :: t)).1) false := by
  have htn : Tk.tn c = true := by rw [tn_gp, h1]; simpa using h2
  rw [Tk.tg_attr c t ats sl htn, attrP_tg, attrP_fst]
theorem suffix_last (g : List UInt8) : [47].isSuffixOf g = lastS false g := by
  rcases List.eq_nil_or_concat g with rfl | ⟨i, x, rfl⟩
  · rfl
  · unfold lastS
    have e : (47 == x) = (x == 47) := Bool.beq_comm ..
    simp [List.isSuffixOf, List.isPrefixOf, e]
theorem add_len (ats : List Pr) (x : Pr) (h : ats.length ≤ 64) : (Tk.add ats x).length ≤ 64 := by
  unfold Tk.add
  split
  · rename_i h2; rw [List.length_append]; show ats.length + 1 ≤ 64; omega
  · exact h
end Go.Proofs.Ytoiedadfpbbdgaa
