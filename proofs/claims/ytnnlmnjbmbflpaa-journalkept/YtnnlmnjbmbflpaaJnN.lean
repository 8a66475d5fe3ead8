/- Acts of a journal's script; the contracts of short and far. -/
import Derived.Test.YtnnlmnjbmbflpaaJnM
import Derived.Test.YtnnlmnjbmbflpaaDkO
set_option linter.unusedVariables false
set_option linter.unusedSimpArgs false
namespace Go.Proofs.Ytnnlmnjbmbflpaa
open Go.RowKit
/-- An act of a journal's script. -/
structure Aj where
  kind : Nat
  rv : Value
  rs : List (List UInt8)
  n : Int
  behind : Bool
  k0 : Int
  k1 : Int
  c0 : Bool
  c1 : Bool
abbrev jX (a : Aj) : Array Value := #[.int .u8 (a.kind : Int), a.rv, .int .i64 a.n, .bool a.behind, .int .i64 a.k0, .int .i64 a.k1, .bool a.c0, .bool a.c1]
abbrev jV (a : Aj) : Value := .agg (jX a)
structure AjOK (w : World) (a : Aj) : Prop where
  kind : a.kind ≤ 255
  n : -9223372036854775808 ≤ a.n ∧ a.n ≤ 9223372036854775807
  k0 : -9223372036854775808 ≤ a.k0 ∧ a.k0 ≤ 9223372036854775807
  k1 : -9223372036854775808 ≤ a.k1 ∧ a.k1 ≤ 9223372036854775807
  rb : RBs w a.rv a.rs
  len : a.rs.length ≤ maxLen
  each : ∀ r ∈ a.rs, r.length ≤ maxLen
theorem AjOK.below {w w' : World} {a : Aj} (h : AjOK w a) (hB : Below w.heap.size w w') : AjOK w' a := ⟨h.kind, h.n, h.k0, h.k1, h.rb.below hB, h.len, h.each⟩
theorem rem7 (k : Nat) (h : k ≤ 255) : (k : Int).tmod 7 = ((k % 7 : Nat) : Int) := by
  rw [Int.tmod_eq_emod_of_nonneg (by omega)]
  omega
/-- A slice reads as these acts. -/
def RJs (w : World) (v : Value) (as9 : List Aj) : Prop :=
  (∃ a c, v = .slice a 0 c ∧ as9 = [] ∧ (a = none → c = 0)) ∨ ∃ b o c, v = .slice (some ⟨b, o, none⟩) as9.length c ∧ as9.length ≤ c ∧ b < w.heap.size ∧ ∀ (j : Nat) a, as9[j]? = some a → w.rangeAt b (o + j * 8) (jX a).toList ∧ AjOK w a
theorem RJs.below {w w' : World} {v : Value} {as9 : List Aj} (h : RJs w v as9) (hB : Below w.heap.size w w') : RJs w' v as9 := by
  rcases h with h | ⟨b, o, c, rfl, hc, hb, hr⟩
  · exact .inl h
  · exact .inr ⟨b, o, c, rfl, hc, Nat.lt_of_lt_of_le hb hB.size, fun j a hj => ⟨fun i x hx => (hB.cell (p := ⟨b, o + j * 8 + i, none⟩) hb).trans ((hr j a hj).1 i x hx), (hr j a hj).2.below hB⟩⟩
theorem RJs.form {w : World} {v : Value} {as9 : List Aj} (h : RJs w v as9) : ∃ a c, v = .slice a as9.length c ∧ as9.length ≤ c := by
  rcases h with ⟨a, c, rfl, rfl, _⟩ | ⟨b, o, c, rfl, hc, _⟩
  · exact ⟨a, c, rfl, Nat.zero_le _⟩
  · exact ⟨_, c, rfl, hc⟩
theorem RJs.take {w : World} {a : Option Addr} {n c : Nat} {as9 : List Aj} (h : RJs w (.slice a n c) as9) (k : Nat) (hk : k ≤ as9.length) : RJs w (.slice a k c) (as9.take k) := by
  have hlk : (as9.take k).length = k := by simp; omega
  rcases h with ⟨a', c', he, rfl, h0⟩ | ⟨b, o, c', he, hc, hb, hr⟩
  · cases he
    have : k = 0 := by simpa using hk
    subst this
    exact .inl ⟨_, _, rfl, rfl, h0⟩
  · cases he
    refine .inr ⟨b, o, c, by rw [hlk], by omega, hb, fun j a hj => hr j a ?_⟩
    rw [List.getElem?_take] at hj
    split at hj
    · exact hj
    · cases hj
theorem RJs.at {w : World} {a : Option Addr} {n c : Nat} {as9 : List Aj} (h : RJs w (.slice a n c) as9) {j : Nat} (hj : j < as9.length) : n = as9.length ∧ n ≤ c ∧ ∃ b o, a = some ⟨b, o, none⟩ ∧ w.rangeAt b (o + j * 8) (jX as9[j]).toList ∧ AjOK w as9[j] := by
  rcases h with ⟨a', c', he, rfl, _⟩ | ⟨b, o, c', he, hc, hb, hr⟩
  · simp at hj
  · cases he
    exact ⟨rfl, hc, b, o, rfl, hr j _ (List.getElem?_eq_getElem hj)⟩
theorem RJs.ok {w : World} {v : Value} {as9 : List Aj} (h : RJs w v as9) {j : Nat} (hj : j < as9.length) : AjOK w as9[j] := by
  rcases h with ⟨a', c', he, rfl, _⟩ | ⟨b, o, c', he, hc, hb, hr⟩
  · simp at hj
  · exact (hr j _ (List.getElem?_eq_getElem hj)).2
theorem sizeJ : (Try.prog.info? 63).map (·.size) = some 8 := by kernel_rfl
/-- An act's own block. -/
def JAct (w : World) (b : Nat) (a : Aj) : Prop := w.heap[b]? = some (.cells (jX a) 63 (0, 0))
theorem JAct.cell {w : World} {b : Nat} {a : Aj} (h : JAct w b a) (i : Nat) : w.cell? ⟨b, i, none⟩ = (jX a)[i]? := Lib.cell_of_heap h i
theorem JAct.range {w : World} {b : Nat} {a : Aj} (h : JAct w b a) : w.rangeAt b 0 (jX a).toList := fun j v hj => by
  rw [h.cell, Nat.zero_add, ← Array.getElem?_toList]
  exact hj
theorem JAct.lt {w : World} {b : Nat} {a : Aj} (h : JAct w b a) : b < w.heap.size := (Array.getElem?_eq_some_iff.1 h).1
theorem JAct.keep {w w' : World} {b : Nat} {a : Aj} (h : JAct w b a) (e : w'.heap[b]? = w.heap[b]?) : JAct w' b a := e.trans h
theorem wpList_load_J {ops : Array Oper} {rest : List Oper} {op : Oper} {a : Act} {w : World} {Q : Exit → Act → World → Prop} (hgd : op.guard = none) (x : Operand) (ho : op.op = .load 63 x)
    (b o : Nat) (hx : a.eval x = ptr b o) (ac : Aj) (hc : w.rangeAt b o (jX ac).toList)
    (h : wpList Try.prog ops Q rest (a.put op.dst (jV ac)) w) : wpList Try.prog ops Q (op :: rest) a w :=
  wpList_load_mid hgd _ x ho b o hx (jX ac).toList _ hc Try.underlying63 rfl sizeJ h
theorem wpList_store_J {ops : Array Oper} {rest : List Oper} {o : Oper} {a : Act} {w : World} {Q : Exit → Act → World → Prop} (x y : Operand) (ho : o.op = .store 63 x y) (hg : o.guard = none) (b : Nat) (ac : Aj) (Y : Array Value) (hx : a.eval x = ptr b 0) (hy : a.eval y = jV ac) (h : w.heap[b]? = some (.cells Y 63 (0, 0))) (hY : Y.size = 8) (hv : ac.rv.oneCell' = true)
    (hn : ∀ w', JAct w' b ac → Own (fun k => k = b) w w' → wpList Try.prog ops Q rest (a.put o.dst undef) w') : wpList Try.prog ops Q (o :: rest) a w := by
  refine wpList_plain hg fun K hK => ?_
  unfold Oper.wp
  have e : (execOp a.eval o).run Try.prog w = .ok .skip (w.setRow b (jX ac)) := by
    unfold execOp
    rw [ho]
    have e2 : (Instr.storeAt 63 (ptr b 0) (jV ac)).run Try.prog w = .ok () (w.setRow b (jX ac)) := by
      simp only [Instr.storeAt, Instr.sureAddr, Sem.run_bind, Sem.run_pure, Result.andThen]
      exact run_storeVar_row _ _ _ _ _ _ h sizeJ hY (by simp [hv]; exact ⟨rfl, rfl, rfl, rfl, rfl, rfl, rfl⟩)
    simp only [hx, hy, Sem.run_bind, e2, Result.andThen, Sem.run_pure]
  rw [e, Oper.upon_skip]
  refine hK _ _ (hn _ (setRow_heap w b Y (jX ac) _ _ h) ⟨rfl, rfl, rfl, by simp [World.setRow], fun k _ hk => setRow_other w b k _ hk⟩)
set_option maxHeartbeats 2000000 in
set_option maxRecDepth 100000 in
theorem short10_any {w : World} {v : Value} {as9 : List Aj} (h : RJs w v as9) (hl : as9.length ≤ maxLen) :
    Calls Try.prog 25 #[v] w fun e w' => ∃ v', e = .returned v' ∧ (∀ W, RJs W v as9 → RJs W v' (as9.take 40)) ∧ w' = w := by
  obtain ⟨a, c, rfl, hc⟩ := h.form
  unfold maxLen at hl
  by_cases h6 : as9.length ≤ 40
  · have hT : ∀ W, RJs W (.slice a as9.length c) as9 → RJs W (.slice a as9.length c) (as9.take 40) := fun W h => by rw [List.take_of_length_le h6]; exact h
    have HT := hide9 hT
    clear h hT
    have h7 : (as9.length : Int) ≤ 40 := by omega
    go_enter Try.func25, Try.ntmps25
    go_wp2
    go_ret
    exact ⟨_, rfl, HT.out, rfl⟩
  · have hT : ∀ W, RJs W (.slice a as9.length c) as9 → RJs W (.slice a 40 c) (as9.take 40) := fun W h => h.take 40 (by omega)
    have HT := hide9 hT
    clear h hT
    have h7 : ¬ (as9.length : Int) ≤ 40 := by omega
    have h8 : (40 : Int) < (as9.length : Int) := by omega
    have h9 : 40 ≤ c := by omega
    go_enter Try.func25, Try.ntmps25
    go_wp2
    go_ret
    exact ⟨_, rfl, HT.out, rfl⟩
theorem one_row {w : World} {v : Value} {ls : List (List UInt8)} (h : RBs w v ls) : v.oneCell' = true := by
  obtain ⟨a, c, rfl⟩ := h.form
  rfl
theorem take_all {bs : List Aj} {j : Nat} (hlt : j < bs.length) (h : ∀ a ∈ bs.take j, a.rs.length ≤ 20) (h2 : bs[j].rs.length ≤ 20) : ∀ a ∈ bs.take (j + 1), a.rs.length ≤ 20 := by
  rw [List.take_succ_eq_append_getElem hlt]
  intro a ha
  rcases List.mem_append.1 ha with ha | ha
  · exact h a ha
  · simp at ha
    rw [ha]
    exact h2
/-- Whether a script is too long, as far as a law asks. -/
def FarB (bs : List Aj) (e : Ending) : Prop := ∃ x, e = .returned (.bool x) ∧ (x = false → ∀ a ∈ bs, a.rs.length ≤ 20)
set_option maxHeartbeats 4000000 in
set_option maxRecDepth 100000 in
theorem far10_any {w : World} {v : Value} {as9 : List Aj} (h : RJs w v as9) (hl : as9.length ≤ maxLen) :
    Calls Try.prog 21 #[v] w fun e w' => FarB (as9.take 40) e ∧ Below w.heap.size w w' := by
  have hS := short10_any h hl
  have hlen : (as9.take 40).length ≤ 40 := by simp; omega
  have HH := hide9 h
  clear h hl
  generalize as9.take 40 = bs at *
  go_enter Try.func21, Try.ntmps21
  go_wp2_with (go_at_call 25; refine hS.mono ?_; rintro e w2 ⟨v', rfl, hv'', he⟩; replace he := he.symm; subst he; have hv' := hv'' _ HH.out; clear hv''; obtain ⟨a, c, rfl, hc⟩ := hv'.form; clear hS)
  go_loopw [3, 11] (fun x i wr => ∃ (j : Nat) (n : Int), j ≤ bs.length ∧ i = .int .i64 (j : Int) ∧ x = .int .i64 n ∧ 0 ≤ n ∧ n ≤ 500000 * (j : Int) ∧ Hid (∀ a ∈ bs.take j, a.rs.length ≤ 20) ∧ Below w.heap.size w wr) (fun _ i _ => bs.length - (intOf i).toNat)
  case atStart => exact ⟨0, 0, Nat.zero_le _, rfl, rfl, by omega, by omega, (fun a ha => by simp at ha : ∀ a ∈ bs.take 0, a.rs.length ≤ 20), Below.refl _ _⟩
  case round =>
    obtain ⟨j, n, hj, rfl, rfl, hn0, hn1, HT, hB⟩ := hrel
    by_cases hlt : j < bs.length
    · obtain ⟨-, -, b, o, rfl, hr, hA⟩ := RJs.at (hv'.below hB) hlt
      have hone := one_row hA.rb
      obtain ⟨va, vc, hvf⟩ := hA.rb.form
      have hal := hA.len
      unfold maxLen at hal
      have HT2 := hide9 (take_all hlt HT.out)
      have HA := hide9 hA
      have HB : Hid (Below w.heap.size w wr) := hB
      have hi1 : (j : Int) < (bs.length : Int) := by omega
      clear hA hB
      generalize bs[j] = ac at *
      by_cases h20 : 20 < ac.rs.length
      · go_wp2_with (first
          | ((with_reducible show wpList _ _ _ ({ op := Op.load 63 _, .. } :: _) _ _); refine wpList_load_J rfl _ rfl _ _ rfl ac hr ?_)
          | ((with_reducible show wpList _ _ _ ({ op := Op.store 63 _ _, .. } :: _) _ _); refine wpList_store_J _ _ rfl rfl _ ac _ rfl rfl (heap_new _ _) rfl hone ?_; intro wn hAn hOn; have c1 : wn.cell? ⟨wr.heap.size, 1, none⟩ = some ac.rv := hAn.cell 1; rw [hvf] at c1))
        go_ret
        exact ⟨⟨true, rfl, fun hx => (by cases hx)⟩, (HB.out.alloc HB.out.size _).trans (hOn.below (fun k hk => by rw [hk]; exact HB.out.size) (by have := HB.out.size; simp; omega))⟩
      · go_wp2_with (first
          | ((with_reducible show wpList _ _ _ ({ op := Op.load 63 _, .. } :: _) _ _); refine wpList_load_J rfl _ rfl _ _ rfl ac hr ?_)
          | ((with_reducible show wpList _ _ _ ({ op := Op.store 63 _ _, .. } :: _) _ _); refine wpList_store_J _ _ rfl rfl _ ac _ rfl rfl (heap_new _ _) rfl hone ?_; intro wn hAn hOn; have c1 : wn.cell? ⟨wr.heap.size, 1, none⟩ = some ac.rv := hAn.cell 1; rw [hvf] at c1))
        have hBn : Below wr.heap.size wr wn := ((Below.refl _ wr).alloc (Nat.le_refl _) _).trans (hOn.below (fun k hk => by rw [hk]; exact Nat.le_refl _) (by simp))
        have HR := hide9 (HA.out.rb.below hBn)
        have HE := hide9 HA.out.each
        rw [hvf] at HR
        have HBn := hide9 hBn
        clear hBn hOn
        go_loopw [3, 22] (fun x i wr2 => ∃ (q : Nat) (m : Int), q ≤ ac.rs.length ∧ i = .int .i64 (q : Int) ∧ x = .int .i64 m ∧ n ≤ m ∧ m ≤ n + 20008 * (q : Int) ∧ wn = wr2) (fun _ i _ => ac.rs.length - (intOf i).toNat)
        case atStart => exact ⟨0, n, Nat.zero_le _, rfl, rfl, by omega, by omega, rfl⟩
        case round =>
          obtain ⟨q, m, hq, rfl, rfl, hm0, hm1, rfl⟩ := hrel
          by_cases hqt : q < ac.rs.length
          · obtain ⟨-, hcc, b2, o2, rfl, x2, hx2, hr2⟩ := HR.out.at (List.getElem?_eq_getElem hqt)
            obtain ⟨ya, yc, rfl⟩ := hr2.form
            have hz := HE.out _ (List.getElem_mem hqt)
            unfold maxLen at hz
            generalize ac.rs[q].length = rl at *
            go_wp2
            refine ⟨⟨q + 1, m + ((if (20000 : Int) < (rl : Int) then 20000 else (rl : Int)) + 8), by omega, by go_num, rfl, ?_, ?_, trivial⟩, ?_⟩
            · split <;> omega
            · split <;> omega
            · simp [intOf]; omega
          · go_wp2
            have HT3 := hide9 (HT2.out (by omega))
            exact ⟨⟨j + 1, m, by omega, by go_num, rfl, by omega, by omega, HT3, bel HB.out HBn.out⟩, by simp [intOf]; omega⟩
    · have hi1 : ¬ (j : Int) < (bs.length : Int) := by omega
      have hjl : bs.take j = bs := List.take_of_length_le (by omega)
      rw [hjl] at HT
      go_wp2
      go_ret
      exact ⟨⟨_, rfl, fun _ => HT.out⟩, hB⟩
end Go.Proofs.Ytnnlmnjbmbflpaa
