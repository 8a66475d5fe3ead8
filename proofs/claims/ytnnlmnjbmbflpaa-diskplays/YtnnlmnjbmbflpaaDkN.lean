/- Scripts; the contracts of short and far. -/
import Derived.Test.YtnnlmnjbmbflpaaDkM
import Derived.Laws.Tables
set_option linter.unusedVariables false
set_option linter.unusedSimpArgs false
namespace Go.Proofs.Ytnnlmnjbmbflpaa
open Go.RowKit
/-- A slice reads as these acts. -/
def RAs (w : World) (v : Value) (as9 : List Ac) : Prop :=
  (∃ a c, v = .slice a 0 c ∧ as9 = [] ∧ (a = none → c = 0)) ∨ ∃ b o c, v = .slice (some ⟨b, o, none⟩) as9.length c ∧ as9.length ≤ c ∧ b < w.heap.size ∧ ∀ (j : Nat) a, as9[j]? = some a → w.rangeAt b (o + j * 9) (aX a).toList ∧ AcOK w a
theorem RAs.below {w w' : World} {v : Value} {as9 : List Ac} (h : RAs w v as9) (hB : Below w.heap.size w w') : RAs w' v as9 := by
  rcases h with h | ⟨b, o, c, rfl, hc, hb, hr⟩
  · exact .inl h
  · exact .inr ⟨b, o, c, rfl, hc, Nat.lt_of_lt_of_le hb hB.size, fun j a hj => ⟨fun i x hx => (hB.cell (p := ⟨b, o + j * 9 + i, none⟩) hb).trans ((hr j a hj).1 i x hx), (hr j a hj).2.below hB⟩⟩
theorem RAs.form {w : World} {v : Value} {as9 : List Ac} (h : RAs w v as9) : ∃ a c, v = .slice a as9.length c ∧ as9.length ≤ c := by
  rcases h with ⟨a, c, rfl, rfl, _⟩ | ⟨b, o, c, rfl, hc, _⟩
  · exact ⟨a, c, rfl, Nat.zero_le _⟩
  · exact ⟨_, c, rfl, hc⟩
theorem RAs.take {w : World} {a : Option Addr} {n c : Nat} {as9 : List Ac} (h : RAs w (.slice a n c) as9) (k : Nat) (hk : k ≤ as9.length) : RAs w (.slice a k c) (as9.take k) := by
  have hlk : (as9.take k).length = k := by simp; omega
  rcases h with ⟨a', c', he, rfl, h0⟩ | ⟨b, o, c', he, hc, hb, hr⟩
  · cases he
    have : k = 0 := by simpa using hk
    subst this
    exact .inl ⟨_, _, rfl, rfl, h0⟩
  · cases he
    refine .inr ⟨b, o, c, by rw [hlk], by omega, hb, fun j a hj => hr j a ?_⟩
    rw [List.getElem?_take] at hj
    split at hj
    · exact hj
    · cases hj
theorem RAs.at {w : World} {a : Option Addr} {n c : Nat} {as9 : List Ac} (h : RAs w (.slice a n c) as9) {j : Nat} (hj : j < as9.length) : n = as9.length ∧ n ≤ c ∧ ∃ b o, a = some ⟨b, o, none⟩ ∧ w.rangeAt b (o + j * 9) (aX as9[j]).toList ∧ AcOK w as9[j] := by
  rcases h with ⟨a', c', he, rfl, _⟩ | ⟨b, o, c', he, hc, hb, hr⟩
  · simp at hj
  · cases he
    exact ⟨rfl, hc, b, o, rfl, hr j _ (List.getElem?_eq_getElem hj)⟩
theorem RAs.ok {w : World} {v : Value} {as9 : List Ac} (h : RAs w v as9) {j : Nat} (hj : j < as9.length) : AcOK w as9[j] := by
  rcases h with ⟨a', c', he, rfl, _⟩ | ⟨b, o, c', he, hc, hb, hr⟩
  · simp at hj
  · exact (hr j _ (List.getElem?_eq_getElem hj)).2
theorem sizeA : (Try.prog.info? 41).map (·.size) = some 9 := by kernel_rfl
/-- An act's own block. -/
def AAt (w : World) (b : Nat) (a : Ac) : Prop := w.heap[b]? = some (.cells (aX a) 41 (0, 0))
theorem AAt.cell {w : World} {b : Nat} {a : Ac} (h : AAt w b a) (i : Nat) : w.cell? ⟨b, i, none⟩ = (aX a)[i]? := Lib.cell_of_heap h i
theorem AAt.range {w : World} {b : Nat} {a : Ac} (h : AAt w b a) : w.rangeAt b 0 (aX a).toList := fun j v hj => by
  rw [h.cell, Nat.zero_add, ← Array.getElem?_toList]
  exact hj
theorem AAt.lt {w : World} {b : Nat} {a : Ac} (h : AAt w b a) : b < w.heap.size := (Array.getElem?_eq_some_iff.1 h).1
theorem AAt.keep {w w' : World} {b : Nat} {a : Ac} (h : AAt w b a) (e : w'.heap[b]? = w.heap[b]?) : AAt w' b a := e.trans h
theorem wpList_load_A {ops : Array Oper} {rest : List Oper} {op : Oper} {a : Act} {w : World} {Q : Exit → Act → World → Prop} (hgd : op.guard = none) (x : Operand) (ho : op.op = .load 41 x)
    (b o : Nat) (hx : a.eval x = ptr b o) (ac : Ac) (hc : w.rangeAt b o (aX ac).toList)
    (h : wpList Try.prog ops Q rest (a.put op.dst (aV ac)) w) : wpList Try.prog ops Q (op :: rest) a w :=
  wpList_load_mid hgd _ x ho b o hx (aX ac).toList _ hc Try.underlying41 rfl sizeA h
theorem wpList_store_A {ops : Array Oper} {rest : List Oper} {o : Oper} {a : Act} {w : World} {Q : Exit → Act → World → Prop} (x y : Operand) (ho : o.op = .store 41 x y) (hg : o.guard = none) (b : Nat) (ac : Ac) (Y : Array Value) (hx : a.eval x = ptr b 0) (hy : a.eval y = aV ac) (h : w.heap[b]? = some (.cells Y 41 (0, 0))) (hY : Y.size = 9) (hv : ac.v.oneCell' = true)
    (hn : ∀ w', AAt w' b ac → Own (fun k => k = b) w w' → wpList Try.prog ops Q rest (a.put o.dst undef) w') : wpList Try.prog ops Q (o :: rest) a w := by
  refine wpList_plain hg fun K hK => ?_
  unfold Oper.wp
  have e : (execOp a.eval o).run Try.prog w = .ok .skip (w.setRow b (aX ac)) := by
    unfold execOp
    rw [ho]
    have e2 : (Instr.storeAt 41 (ptr b 0) (aV ac)).run Try.prog w = .ok () (w.setRow b (aX ac)) := by
      simp only [Instr.storeAt, Instr.sureAddr, Sem.run_bind, Sem.run_pure, Result.andThen]
      exact run_storeVar_row _ _ _ _ _ _ h sizeA hY (by simp [hv]; exact ⟨rfl, rfl, rfl, rfl, rfl, rfl, rfl, rfl⟩)
    simp only [hx, hy, Sem.run_bind, e2, Result.andThen, Sem.run_pure]
  rw [e, Oper.upon_skip]
  refine hK _ _ (hn _ (setRow_heap w b Y (aX ac) _ _ h) ⟨rfl, rfl, rfl, by simp [World.setRow], fun k _ hk => setRow_other w b k _ hk⟩)
set_option maxHeartbeats 2000000 in
set_option maxRecDepth 100000 in
theorem short_any {w : World} {v : Value} {as9 : List Ac} (h : RAs w v as9) (hl : as9.length ≤ maxLen) :
    Calls Try.prog 13 #[v] w fun e w' => ∃ v', e = .returned v' ∧ (∀ W, RAs W v as9 → RAs W v' (as9.take 60)) ∧ w' = w := by
  obtain ⟨a, c, rfl, hc⟩ := h.form
  unfold maxLen at hl
  by_cases h6 : as9.length ≤ 60
  · have hT : ∀ W, RAs W (.slice a as9.length c) as9 → RAs W (.slice a as9.length c) (as9.take 60) := fun W h => by rw [List.take_of_length_le h6]; exact h
    have HT := hide9 hT
    clear h hT
    have h7 : (as9.length : Int) ≤ 60 := by omega
    go_enter Try.func13, Try.ntmps13
    go_wp2
    go_ret
    exact ⟨_, rfl, HT.out, rfl⟩
  · have hT : ∀ W, RAs W (.slice a as9.length c) as9 → RAs W (.slice a 60 c) (as9.take 60) := fun W h => h.take 60 (by omega)
    have HT := hide9 hT
    clear h hT
    have h7 : ¬ (as9.length : Int) ≤ 60 := by omega
    have h8 : (60 : Int) < (as9.length : Int) := by omega
    have h9 : 60 ≤ c := by omega
    go_enter Try.func13, Try.ntmps13
    go_wp2
    go_ret
    exact ⟨_, rfl, HT.out, rfl⟩
/-- It returns yes, or no. -/
def IsB (e : Ending) : Prop := ∃ x, e = .returned (.bool x)
theorem one_of {w : World} {v : Value} {l : List UInt8} (h : RB w v l) : v.oneCell' = true := by
  obtain ⟨a, c, rfl⟩ := h.form
  rfl
set_option maxHeartbeats 2000000 in
set_option maxRecDepth 100000 in
theorem far_any {w : World} {v : Value} {as9 : List Ac} (h : RAs w v as9) (hl : as9.length ≤ maxLen) :
    Calls Try.prog 11 #[v] w fun e w' => IsB e ∧ Below w.heap.size w w' := by
  have hS := short_any h hl
  have hlen : (as9.take 60).length ≤ 60 := by simp; omega
  have HH := hide9 h
  clear h hl
  generalize as9.take 60 = bs at *
  go_enter Try.func11, Try.ntmps11
  go_wp2_with (go_at_call 13; refine hS.mono ?_; rintro e w2 ⟨v', rfl, hv'', he⟩; replace he := he.symm; subst he; have hv' := hv'' _ HH.out; clear hv''; obtain ⟨a, c, rfl, hc⟩ := hv'.form; clear hS)
  go_loopw [3, 9] (fun x i wr => ∃ (j : Nat) (n : Int), j ≤ bs.length ∧ i = .int .i64 (j : Int) ∧ x = .int .i64 n ∧ 0 ≤ n ∧ n ≤ 5000 * (j : Int) ∧ Below w.heap.size w wr) (fun _ i _ => bs.length - (intOf i).toNat)
  case atStart => exact ⟨0, 0, Nat.zero_le _, rfl, rfl, by omega, by omega, Below.refl _ _⟩
  case round =>
    obtain ⟨j, n, hj, rfl, rfl, hn0, hn1, hB⟩ := hrel
    by_cases hlt : j < bs.length
    · obtain ⟨_, _, b, o, rfl, hr, hA⟩ := RAs.at (hv'.below hB) hlt
      have hone := one_of hA.rb
      obtain ⟨va, vc, hvf⟩ := hA.rb.form
      have hal := hA.len
      unfold maxLen at hal
      generalize bs[j] = ac at *
      have HB : Hid (Below w.heap.size w wr) := hB
      have hi1 : (j : Int) < (bs.length : Int) := by omega
      go_wp2_with (first
        | ((with_reducible show wpList _ _ _ ({ op := Op.load 41 _, .. } :: _) _ _); refine wpList_load_A rfl _ rfl _ _ rfl ac hr ?_)
        | ((with_reducible show wpList _ _ _ ({ op := Op.store 41 _ _, .. } :: _) _ _); refine wpList_store_A _ _ rfl rfl _ ac _ rfl rfl (heap_new _ _) rfl hone ?_; intro wn hAn hOn; have c4 := hAn.cell 4))
      refine ⟨⟨j + 1, n + (if (5000 : Int) < (ac.l.length : Int) then 5000 else (ac.l.length : Int)), by omega, by go_num, rfl, ?_, ?_, ?_⟩, ?_⟩
      · split <;> omega
      · split <;> omega
      · exact (HB.out.alloc HB.out.size _).trans (hOn.below (fun k hk => by rw [hk]; exact HB.out.size) (by have := HB.out.size; simp; omega))
      · simp [intOf]; omega
    · have hi1 : ¬ (j : Int) < (bs.length : Int) := by omega
      go_wp2
      go_ret
      exact ⟨⟨_, rfl⟩, hB⟩
end Go.Proofs.Ytnnlmnjbmbflpaa
