/- Texts laid as one. -/
import Derived.Test.YtiodaahncadodaaGreatDoorKTkP
import Derived.Test.YtiodaahncadodaaGreatDoorKRfGK
import Derived.Deep.MidRow
import Derived.Deep.WholeRow
import Derived.Deep.RegionWith
/- The contracts of a reader's value and attr. -/
set_option linter.unusedVariables false
set_option linter.unusedSimpArgs false
namespace Go.Proofs.YtiodaahncadodaaGreatDoor
open Go.RowKit
theorem fd_one (q : UInt8) : ∀ l : List UInt8, Tk.fd [q] l = (l.takeWhile (· != q)).length
  | [] => rfl
  | c :: t => by
    rw [Tk.fd, List.takeWhile_cons]
    by_cases h : c = q
    · subst h
      have e : [c].isPrefixOf (c :: t) = true := by simp [List.isPrefixOf]
      rw [e]
      simp
    · have e : [q].isPrefixOf (c :: t) = false := by
        have : (q == c) = false := beq_eq_false_iff_ne.2 fun e => h e.symm
        simp [List.isPrefixOf, this]
      have e2 : (c != q) = true := bne_iff_ne.2 h
      rw [e, e2, fd_one q t]
      simp
theorem past_one (q : UInt8) (l : List UInt8) : l.take (Tk.fd [q] l) = l.takeWhile (· != q) ∧ l.drop (Tk.fd [q] l + 1) = (l.dropWhile (· != q)).drop 1 := by
  have h := take_while (· != q) l
  rw [fd_one, h.1, ← List.drop_drop, h.2]
  exact ⟨rfl, rfl⟩
theorem took_yes {b : Nat} {l a : List UInt8} {w : World} (p r : List UInt8) (he : l = p ++ r) (h : Tr b l a w) :
    Calls Tryz.prog 88 #[.pointer (some ⟨b, 0, none⟩), .string (str p)] w fun e w' => e = .returned (.bool true) ∧ Tr b r a w' ∧ Kept b w w' := by
  have h1 := took_any p h
  have hp : p.isPrefixOf l = true := by rw [List.isPrefixOf_iff_prefix, he]; exact ⟨r, rfl⟩
  rw [hp, if_pos rfl, he, List.drop_left] at h1
  exact h1
theorem took_no {b : Nat} {l a : List UInt8} {w : World} (p : List UInt8) (hp : p.isPrefixOf l = false) (h : Tr b l a w) :
    Calls Tryz.prog 88 #[.pointer (some ⟨b, 0, none⟩), .string (str p)] w fun e w' => e = .returned (.bool false) ∧ Tr b l a w' ∧ Kept b w w' := by
  have h1 := took_any p h
  rw [hp, if_neg (by decide)] at h1
  exact h1
theorem past_q {b : Nat} {l a : List UInt8} {w : World} (q : UInt8) (h : Tr b l a w) :
    Calls Tryz.prog 89 #[.pointer (some ⟨b, 0, none⟩), .string (str [q])] w fun e w' => e = .returned (.string (str (l.takeWhile (· != q)))) ∧ Tr b ((l.dropWhile (· != q)).drop 1) a w' ∧ Kept b w w' := by
  have h1 := past_any [q] (by simp) h
  rw [(past_one q l).1] at h1
  rw [show [q].length = 1 from rfl, (past_one q l).2] at h1
  exact h1
/-- What value takes, and what it leaves. -/
def valueP (l : List UInt8) : List UInt8 × List UInt8 := match Tk.eqR l with
  | none => ([], l.dropWhile Asc.isBlank)
  | some r => (Tk.valRaw r, Tk.valR r)
theorem valueP_none (l : List UInt8) (h : [61].isPrefixOf (l.dropWhile Asc.isBlank) = false) : valueP l = ([], l.dropWhile Asc.isBlank) := by
  have e : Tk.eqR l = none := by
    unfold Tk.eqR
    split
    · rfl
    · rename_i c r e
      rw [e] at h
      rw [if_neg]
      rintro rfl
      simp [List.isPrefixOf] at h
  unfold valueP
  rw [e]
theorem valueP_some (l t : List UInt8) (h : l.dropWhile Asc.isBlank = [61] ++ t) : valueP l = (Tk.valRaw (t.dropWhile Asc.isBlank), Tk.valR (t.dropWhile Asc.isBlank)) := by
  have e : Tk.eqR l = some (t.dropWhile Asc.isBlank) := by
    unfold Tk.eqR
    rw [h]
    rfl
  unfold valueP
  rw [e]
theorem one_cases (q : UInt8) (l : List UInt8) : (∃ t, l = [q] ++ t) ∨ [q].isPrefixOf l = false := by
  cases l with
  | nil => right; rfl
  | cons c t =>
    by_cases h : c = q
    · left; exact ⟨t, by rw [h]; rfl⟩
    · right
      have : (q == c) = false := beq_eq_false_iff_ne.2 fun e => h e.symm
      simp [List.isPrefixOf, this]
theorem not_one (q : UInt8) (t : List UInt8) (c : UInt8) (h : [q].isPrefixOf (c :: t) = false) : c ≠ q := by
  rintro rfl
  simp [List.isPrefixOf] at h
set_option maxHeartbeats 1000000 in
theorem value_any {b : Nat} {l a : List UInt8} {w : World} (h : Tr b l a w) :
    Calls Tryz.prog 184 #[.pointer (some ⟨b, 0, none⟩)] w fun e w' => e = .returned (.string (str (valueP l).1)) ∧ Tr b (valueP l).2 a w' ∧ Kept b w w' := by
  rcases one_cases 61 (l.dropWhile Asc.isBlank) with ⟨t, ht⟩ | hn
  · have hW := while_blank h
    rw [ht] at hW
    rw [valueP_some l t ht]
    clear ht
    have hWt := fun (W : World) (h : Tr b t a W) => while_blank h
    generalize t.dropWhile Asc.isBlank = r at hWt ⊢
    go_enter Tryz.func184, Tryz.ntmps184
    go_wp2_with fail
    go_at_call 155
    refine hW.mono ?_
    rintro e w1 ⟨rfl, h1, k1⟩
    go_wp2_with fail
    go_at_call 88
    refine (took_yes [61] t rfl h1).mono ?_
    rintro e w2 ⟨rfl, h2, k2⟩
    go_wp2_with fail
    go_at_call 155
    refine (hWt _ h2).mono ?_
    rintro e w3 ⟨rfl, h3, k3⟩
    have hk3 := (k1.trans k2).trans k3
    clear k1 k2 k3 h1 h2 hW hWt
    go_wp2_with fail
    go_at_call 88
    rcases one_cases 34 r with ⟨s, rfl⟩ | h34
    · refine (took_yes [34] s rfl h3).mono ?_
      rintro e w4 ⟨rfl, h4, k4⟩
      go_wp2_with fail
      go_at_call 89
      refine (past_q 34 h4).mono ?_
      rintro e w5 ⟨rfl, h5, k5⟩
      go_wp2
      go_ret
      exact ⟨rfl, h5, (hk3.trans k4).trans k5⟩
    · refine (took_no [34] h34 h3).mono ?_
      rintro e w4 ⟨rfl, h4, k4⟩
      go_wp2_with fail
      go_at_call 88
      rcases one_cases 39 r with ⟨s, rfl⟩ | h39
      · refine (took_yes [39] s rfl h4).mono ?_
        rintro e w5 ⟨rfl, h5, k5⟩
        go_wp2_with fail
        go_at_call 89
        refine (past_q 39 h5).mono ?_
        rintro e w6 ⟨rfl, h6, k6⟩
        go_wp2
        go_ret
        exact ⟨rfl, h6, ((hk3.trans k4).trans k5).trans k6⟩
      · refine (took_no [39] h39 h4).mono ?_
        rintro e w5 ⟨rfl, h5, k5⟩
        have HV : Hid (Tk.valRaw r = r.takeWhile Tk.vn ∧ Tk.valR r = r.dropWhile Tk.vn) := by
          cases r with
          | nil => exact ⟨rfl, rfl⟩
          | cons c s =>
            have hq : Tk.isQ c = false := by
              unfold Tk.isQ
              rw [beq_eq_false_iff_ne.2 (not_one 34 s c h34), beq_eq_false_iff_ne.2 (not_one 39 s c h39)]
              rfl
            refine ⟨?_, ?_⟩
            · rw [Tk.valRaw, hq]; rfl
            · rw [Tk.valR, hq]; rfl
        clear h34 h39
        go_wp2_with fail
        go_at_call 155
        refine (while_vn h5).mono ?_
        rintro e w6 ⟨rfl, h6, k6⟩
        go_wp2
        go_ret
        exact ⟨by rw [HV.out.1]; rfl, by rw [HV.out.2]; exact h6, ((hk3.trans k4).trans k5).trans k6⟩
  · rw [valueP_none l hn]
    go_enter Tryz.func184, Tryz.ntmps184
    go_wp2_with fail
    go_at_call 155
    refine (while_blank h).mono ?_
    rintro e w1 ⟨rfl, h1, k1⟩
    go_wp2_with fail
    go_at_call 88
    refine (took_no [61] hn h1).mono ?_
    rintro e w2 ⟨rfl, h2, k2⟩
    go_wp2
    go_ret
    exact ⟨rfl, h2, k1.trans k2⟩
end Go.Proofs.YtiodaahncadodaaGreatDoor
/- The contract of a reader's attr. -/
set_option linter.unusedVariables false
set_option linter.unusedSimpArgs false
namespace Go.Proofs.YtiodaahncadodaaGreatDoor
open Go.RowKit
def AAt (w : World) (b : Nat) (x y : Value) : Prop := w.heap[b]? = some (.cells #[x, y] 67 (0, 0))
theorem sizeA : (Tryz.prog.info? 67).map (·.size) = some 2 := by kernel_rfl
theorem zeroA : (Tryz.prog.info? 67).map (fun i => (i.zero, i.size)) = some (some (.agg #[.string ByteArray.empty, .string ByteArray.empty]), 2) := by kernel_rfl
theorem load_A {w : World} {b : Nat} {x y : Value} (h : AAt w b x y) : (loadVar 67 ⟨b, 0, none⟩).run Tryz.prog w = .ok (.agg #[x, y]) w :=
  run_loadVar_row _ _ _ _ _ _ _ h Tryz.underlying67 rfl sizeA
theorem results_cell {fn : Func} {p : Tmp} {ty : TypeId} (h : fn.results = #[.cell p ty]) (tmps : Array Value) (P : Program) (w : World) :
    (results fn tmps).run P w = ((asAddr (tmps.getD p undef)).run P w).andThen fun a w1 => (loadVar ty a).run P w1 := by
  simp only [results, h]
  simp [Sem.run_bind, Result.andThen]
theorem ret_A {fn : Func} {p : Tmp} {Q : Ending → World → Prop} {a : Act} {w : World} {b : Nat} {x y : Value} (hr : fn.results = #[.cell p 67]) (hd : a.defers = []) (hp : a.tmps.getD p undef = .pointer (some ⟨b, 0, none⟩)) (h : AAt w b x y) (hQ : Q (.returned (.agg #[x, y])) w) :
    bodyPost Tryz.prog fn Q .ret a w := by
  refine bodyPost_ret (v := .agg #[x, y]) ?_ hd hQ
  rw [results_cell hr, hp]
  simp [asAddr, Result.andThen, load_A h]
theorem storeAt_A {w : World} {b : Nat} {x y x0 y0 : Value} (h : AAt w b x0 y0) (hx : Value.oneCell' x = true) (hy : Value.oneCell' y = true) : (Instr.storeAt 67 (.pointer (some ⟨b, 0, none⟩)) (.agg #[x, y])).run Tryz.prog w = .ok () (w.setRow b #[x, y]) := by
  simp only [Instr.storeAt, Instr.sureAddr, Sem.run_bind, Sem.run_pure, Result.andThen]
  exact run_storeVar_row _ _ _ _ _ _ h sizeA rfl (by simp [hx, hy])
theorem wpList_store_A {ops : Array Oper} {rest : List Oper} {o : Oper} {a : Act} {w : World} {Q : Exit → Act → World → Prop} (p q : Operand) (ho : o.op = .store 67 p q) (hg : o.guard = none) (b : Nat) (x y x0 y0 : Value) (hx : a.eval p = .pointer (some ⟨b, 0, none⟩)) (hy : a.eval q = .agg #[x, y]) (h : AAt w b x0 y0) (h1 : Value.oneCell' x = true) (h2 : Value.oneCell' y = true)
    (hn : wpList Tryz.prog ops Q rest (a.put o.dst undef) (w.setRow b #[x, y])) : wpList Tryz.prog ops Q (o :: rest) a w := by
  refine wpList_plain hg fun K hK => ?_
  unfold Oper.wp
  have e : (execOp a.eval o).run Tryz.prog w = .ok .skip (w.setRow b #[x, y]) := by
    unfold execOp
    rw [ho]
    simp only [hx, hy, Sem.run_bind, storeAt_A h h1 h2, Result.andThen, Sem.run_pure]
  rw [e, Oper.upon_skip]
  exact hK _ _ hn
theorem setRow_A {w : World} {b : Nat} {x y x0 y0 : Value} (h : AAt w b x0 y0) : AAt (w.setRow b #[x, y]) b x y := by
  unfold AAt at *
  simp [World.setRow, Array.getElem?_modify, h]
theorem kept_setRow (b : Nat) (w : World) (cs : Array Value) : Kept b w (w.setRow b cs) :=
  ⟨rfl, rfl, rfl, by simp [World.setRow], fun k _ hb => by simp [World.setRow, Array.getElem?_modify, Ne.symm hb]⟩
theorem Tr.other {b c : Nat} {l a : List UInt8} {w w' : World} (h : Tr b l a w) (hk : Kept c w w') (hb : b < c) (hc : c ≤ w.heap.size) : Tr b l a w' :=
  ⟨hk.heap h.at_ (by omega), h.len, h.lo1, h.lo2, h.env.belowB (hk.below c (Nat.le_refl _) hc) (Nat.lt_trans h.lo1 hb) (Nat.lt_trans h.lo2 hb)⟩
/-- A block that came since may be written, too. -/
theorem Kept.more {b c : Nat} {w W W' : World} (h : Kept b w W) (h2 : Kept c W W') (hc : w.heap.size ≤ c) : Kept b w W' :=
  ⟨h2.os.trans h.os, h2.tape.trans h.tape, h2.output.trans h.output, Nat.le_trans h.size h2.size, fun k hk hb => (h2.block k (Nat.lt_of_lt_of_le hk h.size) (by omega)).trans (h.block k hk hb)⟩
/-- What attr takes, and what it leaves. -/
def attrP (l : List UInt8) : (List UInt8 × List UInt8) × List UInt8 := ((Asc.lower (Tk.attrN l), Rf.dec true (valueP (Tk.attrR l)).1), (valueP (Tk.attrR l)).2)
theorem valueP_le (l : List UInt8) : (valueP l).1.length ≤ l.length ∧ (valueP l).2.length ≤ l.length := by
  unfold valueP
  split
  · exact ⟨Nat.zero_le _, Tk.dropWhile_le _ _⟩
  · rename_i r e
    have h1 := Tk.eqR_le l r e
    have h2 := Tk.valR_le r
    refine ⟨?_, by show (Tk.valR r).length ≤ _; omega⟩
    show (Tk.valRaw r).length ≤ _
    cases r with
    | nil => exact Nat.zero_le _
    | cons q t =>
      rw [List.length_cons] at h1
      rw [Tk.valRaw]
      split
      · have := tkw_le (· != q) t
        omega
      · have := tkw_le Tk.vn (q :: t)
        rw [List.length_cons] at this
        omega
set_option maxHeartbeats 1000000 in
set_option maxRecDepth 100000 in
theorem attr_any {b : Nat} {c : UInt8} {t a : List UInt8} {w : World} (h : Tr b (c :: t) a w) :
    Calls Tryz.prog 159 #[.pointer (some ⟨b, 0, none⟩)] w fun e w' => e = .returned (.agg #[.string (str (attrP (c :: t)).1.1), .string (str (attrP (c :: t)).1.2)]) ∧ Tr b (attrP (c :: t)).2 a w' ∧ Kept b w w' := by
  have hz := (zero_of_info zeroA).1
  have hlen := h.len
  rw [List.length_cons] at hlen
  have hbw := h.lt
  have h0 := h.step ((Below.refl _ w).alloc (Nat.le_refl _) (.cells #[.string ByteArray.empty, .string ByteArray.empty] 67))
  have hk0 : Kept b w (w.alloc (.cells #[.string ByteArray.empty, .string ByteArray.empty] 67)) := Kept.of ((Below.refl _ w).alloc (Nat.le_refl _) _)
  have ha0 : AAt (w.alloc (.cells #[.string ByteArray.empty, .string ByteArray.empty] 67)) w.heap.size (.string ByteArray.empty) (.string ByteArray.empty) := heap_new w _
  have hT : ∀ W, Tr b (c :: t) a W → Calls Tryz.prog 120 #[.pointer (some ⟨b, 0, none⟩), .int .i64 1] W fun e w' => e = .returned (.string (str [c])) ∧ Tr b t a w' ∧ Kept b W w' := fun W h => take_any 1 h (by simp)
  have hWh := fun W (h : Tr b t a W) => while_an h
  have HP : Hid (attrP (c :: t) = ((Asc.lower (c :: t.takeWhile Tk.an), Rf.dec true (valueP (t.dropWhile Tk.an)).1), (valueP (t.dropWhile Tk.an)).2)) := rfl
  have hxl := tkw_le Tk.an t
  have hrl := Tk.dropWhile_le Tk.an t
  have hvl := valueP_le (t.dropWhile Tk.an)
  have hval := fun W (h : Tr b (t.dropWhile Tk.an) a W) => value_any h
  generalize t.takeWhile Tk.an = x at *
  generalize t.dropWhile Tk.an = r at *
  generalize valueP r = vr at *
  obtain ⟨v, r2⟩ := vr
  have hs1 : (str [c]).size = 1 := str_size [c]
  have hs2 : (str x).size = x.length := str_size x
  have hx6 : x.length ≤ 1000000 := by omega
  have hcat : str [c] ++ str x = str (c :: x) := by
    apply str_eq
    rw [ByteArray.data_append, Array.toList_append, str_data, str_data]
    rfl
  have hLo := fun W => Lower_any (str (c :: x)) W (by rw [str_size, List.length_cons]; omega)
  rw [str_data] at hLo
  generalize Asc.lower (c :: x) = n at hLo HP
  have hDe := fun W (hW : Win W) => Decode_any v true W (by have := hvl.1; simp only at this; omega) hW
  generalize Rf.dec true v = y at hDe HP
  rw [HP.out]
  simp only at hval
  clear hxl hrl hvl HP
  go_enter Tryz.func159, Tryz.ntmps159
  go_wp2_with fail
  generalize w.alloc (.cells #[.string ByteArray.empty, .string ByteArray.empty] 67) = W at *
  have h0' : Tr b (c :: t) a W.drew := h0.step (Below.refl _ _).drew
  have hkd : Kept b w W.drew := hk0.drew
  have had : AAt W.drew w.heap.size (.string ByteArray.empty) (.string ByteArray.empty) := ha0
  have HT := hideT hT
  have HWh := hideT hWh
  have HLo := hideT hLo
  have HDe := hideT hDe
  have HVa := hideT hval
  clear hT hWh hLo hDe hval
  go_region_with (first
    | (go_at_call 120; refine (HT.out _ h0').mono ?_; rintro e w1 ⟨rfl, h1, k1⟩)
    | (go_at_call 155; refine (HWh.out _ h1).mono ?_; rintro e w2 ⟨rfl, h2, k2⟩))
  have ha2 : AAt w2 w.heap.size (.string ByteArray.empty) (.string ByteArray.empty) := k2.heap (k1.heap had (by omega)) (by omega)
  have hk2 := (hkd.trans k1).trans k2
  have hw2 := hk2.size
  clear h0 hk0 ha0 h0' hkd had h1 k1 k2
  go_wp2_with fail
  go_at_call 154
  (try rw [hcat])
  refine (HLo.out _).mono ?_
  rintro e w3 ⟨rfl, hb3⟩
  have h3 := h2.step hb3
  have ha3 : AAt w3 w.heap.size (.string ByteArray.empty) (.string ByteArray.empty) := (hb3.block _ (Array.getElem?_eq_some_iff.1 ha2).1).trans ha2
  have hk3 := hk2.trans (Kept.of hb3)
  clear h2 ha2 hk2 hb3
  go_wp2_with fail
  go_at_call 184
  refine (HVa.out _ h3).mono ?_
  rintro e w4 ⟨rfl, h4, k4⟩
  have ha4 : AAt w4 w.heap.size (.string ByteArray.empty) (.string ByteArray.empty) := k4.heap ha3 (by omega)
  have hk4 := hk3.trans k4
  clear h3 ha3 hk3 k4
  go_wp2_with fail
  go_at_call 121
  refine (HDe.out _ h4.env.1).mono ?_
  rintro e w5 ⟨rfl, hb5⟩
  have h5 := h4.step hb5
  have ha5 : AAt w5 w.heap.size (.string ByteArray.empty) (.string ByteArray.empty) := (hb5.block _ (Array.getElem?_eq_some_iff.1 ha4).1).trans ha4
  have hk5 := hk4.trans (Kept.of hb5)
  clear h4 ha4 hk4 hb5
  go_wp2_with (refine wpList_store_A _ _ rfl rfl w.heap.size (.string (str n)) (.string (str y)) _ _ rfl rfl ha5 rfl rfl ?_)
  exact ret_A rfl rfl rfl (setRow_A ha5) ⟨rfl, h5.other (kept_setRow _ _ _) hbw hk5.size, hk5.more (kept_setRow _ _ _) (Nat.le_refl _)⟩
end Go.Proofs.YtiodaahncadodaaGreatDoor
/- Plain mathematics of a tag as the program reads it: gaps at a stroke, blanks behind a name without a value. -/
set_option linter.unusedVariables false
set_option linter.unusedSimpArgs false
namespace Go.Proofs.YtiodaahncadodaaGreatDoor
open Go.RowKit
def lastS (sl : Bool) (g : List UInt8) : Bool := (g.getLast?.map (· == 47)).getD sl
theorem lastS_cons (sl : Bool) (c : UInt8) (g : List UInt8) : lastS sl (c :: g) = lastS (c == 47) g := by
  cases g with
  | nil => rfl
  | cons d g => unfold lastS; rw [List.getLast?_cons_cons]; cases h : (d :: g).getLast? with
    | none => simp at h
    | some x => rfl
theorem gp_62 (c : UInt8) (h : gp c = true) : c ≠ 62 := by
  rintro rfl
  revert h
  decide
theorem gp_or (c : UInt8) (h : gp c = true) : c = 47 ∨ Asc.isBlank c = true := by
  unfold gp at h
  rcases Bool.or_eq_true _ _ ▸ h with h | h
  · exact .inr h
  · exact .inl (by simpa using h)
theorem tg_gaps (ats : List Pr) : ∀ (l : List UInt8) (sl : Bool), Tk.tg l ats sl = Tk.tg (l.dropWhile gp) ats (lastS sl (l.takeWhile gp))
  | [], sl => rfl
  | c :: t, sl => by
    cases h : gp c
    · rw [List.dropWhile_cons, List.takeWhile_cons, h]
      rfl
    · rw [List.dropWhile_cons, List.takeWhile_cons, h, if_pos rfl, if_pos rfl, lastS_cons, Tk.tg_gap c t ats sl (gp_62 c h) (gp_or c h)]
      exact tg_gaps ats t (c == 47)
theorem blank_47 (c : UInt8) (h : Asc.isBlank c = true) : (c == 47) = false ∧ c ≠ 62 := by
  constructor
  · rw [beq_eq_false_iff_ne]; rintro rfl; revert h; decide
  · rintro rfl; revert h; decide
theorem tg_blanks (ats : List Pr) : ∀ l : List UInt8, Tk.tg (l.dropWhile Asc.isBlank) ats false = Tk.tg l ats false
  | [] => rfl
  | c :: t => by
    cases h : Asc.isBlank c
    · rw [List.dropWhile_cons, h]
      rfl
    · rw [List.dropWhile_cons, h, if_pos rfl, tg_blanks ats t, Tk.tg_gap c t ats false (blank_47 c h).2 (.inr h), (blank_47 c h).1]
theorem attrP_fst (l : List UInt8) : (attrP l).1 = (Tk.attr l).1 := by
  unfold attrP valueP Tk.attr
  cases Tk.eqR (Tk.attrR l) with
  | none => show (_, Rf.dec true []) = _; rw [Rf.dec_nil]
  | some r => rfl
theorem attrP_tg (l : List UInt8) (X : List Pr) : Tk.tg (attrP l).2 X false = Tk.tg (Tk.attr l).2 X false := by
  unfold attrP valueP Tk.attr
  cases Tk.eqR (Tk.attrR l) with
  | none => exact tg_blanks X _
  | some r => rfl
theorem attrP_lt (c : UInt8) (t : List UInt8) : (attrP (c :: t)).2.length ≤ t.length := by
  have h1 := (valueP_le (Tk.attrR (c :: t))).2
  have h2 := Tk.attrR_le (c :: t) (by simp)
  rw [List.length_cons] at h2
  show (valueP (Tk.attrR (c :: t))).2.length ≤ _
  omega
/-- One attribute more. -/
theorem tg_step (c : UInt8) (t : List UInt8) (ats : List Pr) (sl : Bool) (h1 : gp c = false) (h2 : c ≠ 62) : Tk.tg (c :: t) ats sl = Tk.tg (attrP (c :: t)).2 (Tk.add ats (attrP (c :: t)).1) false := by
  have htn : Tk.tn c = true := by rw [tn_gp, h1]; simpa using h2
  rw [Tk.tg_attr c t ats sl htn, attrP_tg, attrP_fst]
theorem suffix_last (g : List UInt8) : [47].isSuffixOf g = lastS false g := by
  rcases List.eq_nil_or_concat g with rfl | ⟨i, x, rfl⟩
  · rfl
  · unfold lastS
    have e : (47 == x) = (x == 47) := Bool.beq_comm ..
    simp [List.isSuffixOf, List.isPrefixOf, e]
theorem HasSuffix_l (g : List UInt8) (w : World) (hz : g.length ≤ 1000000000) :
    Calls Tryz.prog 157 #[.string (str g), .string (str [47])] w fun e w' => e = .returned (.bool (lastS false g)) ∧ w' = w := by
  have h := Tryz.strings_HasSuffix (str g) (str [47]) w (by rw [str_size]; omega)
  rw [str_data, str_data] at h
  rw [← suffix_last]
  exact h
theorem add_len (ats : List Pr) (x : Pr) (h : ats.length ≤ 64) : (Tk.add ats x).length ≤ 64 := by
  unfold Tk.add
  split
  · rename_i h2; rw [List.length_append]; show ats.length + 1 ≤ 64; omega
  · exact h
end Go.Proofs.YtiodaahncadodaaGreatDoor
