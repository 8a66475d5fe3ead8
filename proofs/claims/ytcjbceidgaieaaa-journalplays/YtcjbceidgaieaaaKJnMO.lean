/- Texts laid as one. -/
import Derived.Test.YtcjbceidgaieaaaKJnL
import Derived.Lib.SlBytesConst
import Derived.Test.YtcjbceidgaieaaaKDkMQ
/- The contract of alive. -/
set_option linter.unusedVariables false
set_option linter.unusedSimpArgs false
namespace Go.Proofs.Ytcjbceidgaieaaa
open Go.RowKit
namespace Jn
def ab : List (List UInt8) := [[97, 98]]
def aa1 : Dk.D := ⟨true, 200, 0, ⟨frames ab, 10, []⟩, ⟨[], 0, []⟩, -1, false⟩
theorem ab_all : All ab := fun r hr => by
  simp [ab] at hr
  subst hr
  exact ⟨by decide, by decide⟩
theorem aa_1 : opens (Dk.new 200) = (0, Dk.new 200) := by rfl
theorem aa_2 : recs (Dk.new 200) (Dk.new 200).root = [] := by rfl
theorem aa_3 : fits (Dk.new 200) (frames []).length ab = 0 := by rfl
theorem aa_4 : (frames ([] ++ ab)).length = 10 := by rfl
theorem aa_5 : commits (Dk.new 200) ([] ++ ab) = (0, aa1) := by rfl
theorem aa_6 : (aa1.at aa1.root).now.length = 10 := by rfl
theorem aa_7 : recs aa1 aa1.root = ab := scan_all ab ab_all
theorem aa_8 : opens aa1 = (0, aa1) := by
  have h : mend aa1 aa1.root = (0, aa1) := by
    unfold mend
    rw [aa_7]
    rfl
  unfold opens
  rw [h]
  rfl
theorem aa_9 : aa1.left = 190 := by rfl
end Jn
theorem alloc2 (w : World) (o p : Obj) : Below w.heap.size w ((w.alloc o).alloc p) := bel (alloc1 w o) (alloc1 _ p)
/-- A record that was just laid. -/
theorem rx_ab (w : World) (T : Nat → Prop) (hl : ∀ k, T k → k < w.heap.size) : Rx T ((w.alloc (.cells #[.int .u8 97, .int .u8 98] 5 (2, 3))).alloc (.cells #[.slice (some ⟨w.heap.size, 0, none⟩) 2 2] 27)) (.slice (some ⟨w.heap.size + 1, 0, none⟩) 1 1) Jn.ab := by
  have h0 := RB.new w [97, 98] #[.int .u8 97, .int .u8 98] rfl 5 (2, 3) 2 rfl
  have h1 := RBs.one _ _ _ h0 27
  rw [size_alloc] at h1
  refine ⟨⟨[.slice (some ⟨w.heap.size, 0, none⟩) 2 2], fun W hW => ?_⟩, by decide, fun r hr => by simp [Jn.ab] at hr; subst hr; decide⟩
  have hk : ∀ k, w.heap.size ≤ k → k < w.heap.size + 2 → W.heap[k]? = ((w.alloc (.cells #[.int .u8 97, .int .u8 98] 5 (2, 3))).alloc (.cells #[.slice (some ⟨w.heap.size, 0, none⟩) 2 2] 27)).heap[k]? := fun k h1 h2 => hW.block k (by rw [size_alloc, size_alloc]; omega) (fun ht => by have := hl k ht; omega)
  have hb : RBx ((w.alloc (.cells #[.int .u8 97, .int .u8 98] 5 (2, 3))).alloc (.cells #[.slice (some ⟨w.heap.size, 0, none⟩) 2 2] 27)) (.slice (some ⟨w.heap.size + 1, 0, none⟩) 1 1) [.slice (some ⟨w.heap.size, 0, none⟩) 2 2] Jn.ab := by
    refine ⟨rfl, .inr ⟨w.heap.size + 1, 0, 1, rfl, Nat.le_refl _, fun j x hj => ?_⟩, fun j x l hj hl9 => ?_⟩
    · rcases j with _ | j
      · simp at hj
        subst hj
        have := box_at9 (w.alloc (.cells #[.int .u8 97, .int .u8 98] 5 (2, 3))) (.slice (some ⟨w.heap.size, 0, none⟩) 2 2) 27
        rw [size_alloc] at this
        exact this
      · simp at hj
    · rcases j with _ | j
      · simp [Jn.ab] at hj hl9
        subst hj
        subst hl9
        exact h0.below (alloc1 _ _)
      · simp at hj
  refine hb.keep (fun k e hlt => ?_) (fun x hx k e hlt => ?_)
  · cases e
    exact hk _ (Nat.le_succ _) (Nat.lt_succ_self _)
  · simp at hx
    subst hx
    cases e
    exact hk _ (Nat.le_refl _) (Nat.lt_add_of_pos_right (by decide))
set_option maxHeartbeats 4000000 in
set_option maxRecDepth 100000 in
theorem alive10_any (w : World) :
    Calls Try.prog 12 #[] w fun e w' => e = .returned (.bool true) ∧ Below w.heap.size w w' := by
  have kc := fun (w : World) (C : Array Value) (n c : Nat) => Lib.run_convert_bytes_const (P := Try.prog) w 27 5 C n c Try.underlying27 Try.underlying5
  have hN := New_yes 200 (by decide) (by decide) w
  go_enter Try.func12, Try.ntmps12
  go_wp2_with (first
    | (go_at_call 9; refine hN.mono ?_; rintro e w1 ⟨rfl, hD1, hB1⟩; have L1 := Lt.new (Below.refl _ w) hD1 hB1; have C1 := L1.opens rfl (by exact Jn.aa_1) (by exact Jn.aa_2); clear hN hD1 L1)
    | (go_at_call 13; refine C1.mono ?_; rintro e w2 ⟨T2, jb, a2, c2, rfl, hJ2, hT2, hR2⟩; have C2 := (hJ2.below (alloc2 w2 (.cells #[.int .u8 97, .int .u8 98] 5 (2, 3)) (.cells #[.slice (some ⟨w2.heap.size, 0, none⟩) 2 2] 27))).add (rx_ab w2 T2 hJ2.low) (by exact Jn.aa_3); rw [if_pos rfl] at C2; clear C1 hJ2 hT2 hR2)
    | (go_at_call 34; refine C2.mono ?_; rintro e w3 ⟨T3, rfl, hJ3, hT3⟩; have C3 := hJ3.group (by exact Jn.aa_4); have C4 := hJ3.commit (by exact Jn.aa_5); rw [if_pos rfl] at C4; dsimp only at C4; clear C2 hT3 hJ3)
    | (go_at_call 19; refine C3.mono ?_; rintro e w4 ⟨rfl, he⟩; replace he := he.symm; subst he; clear C3)
    | (go_at_call 35; refine C4.mono ?_; rintro e w5 ⟨T5, rfl, hJ5, hT5⟩; have C5 := hJ5.size rfl (by exact Jn.aa_6); have HJ5 := hide9 hJ5; clear C4 hT5 hJ5)
    | (go_at_call 29; refine C5.mono ?_; rintro e w6 ⟨rfl, hB6⟩; have HJ6 := hide9 (HJ5.out.below hB6); have C6 := HJ6.out.again rfl (by exact Jn.aa_8) (by exact Jn.aa_7); clear C5 HJ5)
    | (go_at_call 13; refine C6.mono ?_; rintro e w7 ⟨T7, jb7, a7, c7, rfl, hJ7, hT7, hR7⟩; obtain ⟨-, hc7, b9, o9, rfl, x9, hx9, hr9⟩ := hR7.rbs.at (j := 0) (l := [97, 98]) rfl; obtain ⟨ya, yc, rfl⟩ := hr9.form; have hcv : (convert 27 9 (.slice ya 2 yc)).run Try.prog w7 = .ok (.string ⟨#[97, 98]⟩) w7 := conv_RB hr9; have hab : Jn.ab.length = 1 := rfl; have hx9 : w7.cell? ⟨b9, o9, none⟩ = some (.slice ya 2 yc) := hx9; have hc7 : 1 ≤ c7 := hc7; have C7 := hJ7.left; rw [Jn.aa_9] at C7; have HB7 := hide9 hJ7.bel; clear C6 hJ7 hR7 hr9)
    | (go_at_call 27; refine C7.mono ?_; rintro e w8 ⟨rfl, hB8⟩))
  go_ret
  exact ⟨rfl, bel HB7.out hB8⟩
end Go.Proofs.Ytcjbceidgaieaaa
/- Acts of a journal's script; the contracts of short and far. -/
set_option linter.unusedVariables false
set_option linter.unusedSimpArgs false
namespace Go.Proofs.Ytcjbceidgaieaaa
open Go.RowKit
/-- An act of a journal's script. -/
structure Aj where
  kind : Nat
  rv : Value
  rs : List (List UInt8)
  n : Int
  behind : Bool
  k0 : Int
  k1 : Int
  c0 : Bool
  c1 : Bool
abbrev jX (a : Aj) : Array Value := #[.int .u8 (a.kind : Int), a.rv, .int .i64 a.n, .bool a.behind, .int .i64 a.k0, .int .i64 a.k1, .bool a.c0, .bool a.c1]
abbrev jV (a : Aj) : Value := .agg (jX a)
structure AjOK (w : World) (a : Aj) : Prop where
  kind : a.kind ≤ 255
  n : -9223372036854775808 ≤ a.n ∧ a.n ≤ 9223372036854775807
  k0 : -9223372036854775808 ≤ a.k0 ∧ a.k0 ≤ 9223372036854775807
  k1 : -9223372036854775808 ≤ a.k1 ∧ a.k1 ≤ 9223372036854775807
  rb : RBs w a.rv a.rs
  len : a.rs.length ≤ maxLen
  each : ∀ r ∈ a.rs, r.length ≤ maxLen
theorem AjOK.below {w w' : World} {a : Aj} (h : AjOK w a) (hB : Below w.heap.size w w') : AjOK w' a := ⟨h.kind, h.n, h.k0, h.k1, h.rb.below hB, h.len, h.each⟩
theorem rem7 (k : Nat) (h : k ≤ 255) : (k : Int).tmod 7 = ((k % 7 : Nat) : Int) := by
  rw [Int.tmod_eq_emod_of_nonneg (by omega)]
  omega
/-- A slice reads as these acts. -/
def RJs (w : World) (v : Value) (as9 : List Aj) : Prop :=
  (∃ a c, v = .slice a 0 c ∧ as9 = [] ∧ (a = none → c = 0)) ∨ ∃ b o c, v = .slice (some ⟨b, o, none⟩) as9.length c ∧ as9.length ≤ c ∧ b < w.heap.size ∧ ∀ (j : Nat) a, as9[j]? = some a → w.rangeAt b (o + j * 8) (jX a).toList ∧ AjOK w a
theorem RJs.below {w w' : World} {v : Value} {as9 : List Aj} (h : RJs w v as9) (hB : Below w.heap.size w w') : RJs w' v as9 := by
  rcases h with h | ⟨b, o, c, rfl, hc, hb, hr⟩
  · exact .inl h
  · exact .inr ⟨b, o, c, rfl, hc, Nat.lt_of_lt_of_le hb hB.size, fun j a hj => ⟨fun i x hx => (hB.cell (p := ⟨b, o + j * 8 + i, none⟩) hb).trans ((hr j a hj).1 i x hx), (hr j a hj).2.below hB⟩⟩
theorem RJs.form {w : World} {v : Value} {as9 : List Aj} (h : RJs w v as9) : ∃ a c, v = .slice a as9.length c ∧ as9.length ≤ c := by
  rcases h with ⟨a, c, rfl, rfl, _⟩ | ⟨b, o, c, rfl, hc, _⟩
  · exact ⟨a, c, rfl, Nat.zero_le _⟩
  · exact ⟨_, c, rfl, hc⟩
theorem RJs.take {w : World} {a : Option Addr} {n c : Nat} {as9 : List Aj} (h : RJs w (.slice a n c) as9) (k : Nat) (hk : k ≤ as9.length) : RJs w (.slice a k c) (as9.take k) := by
  have hlk : (as9.take k).length = k := by simp; omega
  rcases h with ⟨a', c', he, rfl, h0⟩ | ⟨b, o, c', he, hc, hb, hr⟩
  · cases he
    have : k = 0 := by simpa using hk
    subst this
    exact .inl ⟨_, _, rfl, rfl, h0⟩
  · cases he
    refine .inr ⟨b, o, c, by rw [hlk], by omega, hb, fun j a hj => hr j a ?_⟩
    rw [List.getElem?_take] at hj
    split at hj
    · exact hj
    · cases hj
theorem RJs.at {w : World} {a : Option Addr} {n c : Nat} {as9 : List Aj} (h : RJs w (.slice a n c) as9) {j : Nat} (hj : j < as9.length) : n = as9.length ∧ n ≤ c ∧ ∃ b o, a = some ⟨b, o, none⟩ ∧ w.rangeAt b (o + j * 8) (jX as9[j]).toList ∧ AjOK w as9[j] := by
  rcases h with ⟨a', c', he, rfl, _⟩ | ⟨b, o, c', he, hc, hb, hr⟩
  · simp at hj
  · cases he
    exact ⟨rfl, hc, b, o, rfl, hr j _ (List.getElem?_eq_getElem hj)⟩
theorem RJs.ok {w : World} {v : Value} {as9 : List Aj} (h : RJs w v as9) {j : Nat} (hj : j < as9.length) : AjOK w as9[j] := by
  rcases h with ⟨a', c', he, rfl, _⟩ | ⟨b, o, c', he, hc, hb, hr⟩
  · simp at hj
  · exact (hr j _ (List.getElem?_eq_getElem hj)).2
theorem sizeJ : (Try.prog.info? 50).map (·.size) = some 8 := by kernel_rfl
/-- An act's own block. -/
def JAct (w : World) (b : Nat) (a : Aj) : Prop := w.heap[b]? = some (.cells (jX a) 50 (0, 0))
theorem JAct.cell {w : World} {b : Nat} {a : Aj} (h : JAct w b a) (i : Nat) : w.cell? ⟨b, i, none⟩ = (jX a)[i]? := Lib.cell_of_heap h i
theorem JAct.range {w : World} {b : Nat} {a : Aj} (h : JAct w b a) : w.rangeAt b 0 (jX a).toList := fun j v hj => by
  rw [h.cell, Nat.zero_add, ← Array.getElem?_toList]
  exact hj
theorem JAct.lt {w : World} {b : Nat} {a : Aj} (h : JAct w b a) : b < w.heap.size := (Array.getElem?_eq_some_iff.1 h).1
theorem JAct.keep {w w' : World} {b : Nat} {a : Aj} (h : JAct w b a) (e : w'.heap[b]? = w.heap[b]?) : JAct w' b a := e.trans h
theorem wpList_load_J {ops : Array Oper} {rest : List Oper} {op : Oper} {a : Act} {w : World} {Q : Exit → Act → World → Prop} (hgd : op.guard = none) (x : Operand) (ho : op.op = .load 50 x)
    (b o : Nat) (hx : a.eval x = ptr b o) (ac : Aj) (hc : w.rangeAt b o (jX ac).toList)
    (h : wpList Try.prog ops Q rest (a.put op.dst (jV ac)) w) : wpList Try.prog ops Q (op :: rest) a w :=
  wpList_load_mid hgd _ x ho b o hx (jX ac).toList _ hc Try.underlying50 rfl sizeJ h
theorem wpList_store_J {ops : Array Oper} {rest : List Oper} {o : Oper} {a : Act} {w : World} {Q : Exit → Act → World → Prop} (x y : Operand) (ho : o.op = .store 50 x y) (hg : o.guard = none) (b : Nat) (ac : Aj) (Y : Array Value) (hx : a.eval x = ptr b 0) (hy : a.eval y = jV ac) (h : w.heap[b]? = some (.cells Y 50 (0, 0))) (hY : Y.size = 8) (hv : ac.rv.oneCell' = true)
    (hn : ∀ w', JAct w' b ac → Own (fun k => k = b) w w' → wpList Try.prog ops Q rest (a.put o.dst undef) w') : wpList Try.prog ops Q (o :: rest) a w := by
  refine wpList_plain hg fun K hK => ?_
  unfold Oper.wp
  have e : (execOp a.eval o).run Try.prog w = .ok .skip (w.setRow b (jX ac)) := by
    unfold execOp
    rw [ho]
    have e2 : (Instr.storeAt 50 (ptr b 0) (jV ac)).run Try.prog w = .ok () (w.setRow b (jX ac)) := by
      simp only [Instr.storeAt, Instr.sureAddr, Sem.run_bind, Sem.run_pure, Result.andThen]
      exact run_storeVar_row _ _ _ _ _ _ h sizeJ hY (by simp [hv]; exact ⟨rfl, rfl, rfl, rfl, rfl, rfl, rfl⟩)
    simp only [hx, hy, Sem.run_bind, e2, Result.andThen, Sem.run_pure]
  rw [e, Oper.upon_skip]
  refine hK _ _ (hn _ (setRow_heap w b Y (jX ac) _ _ h) ⟨rfl, rfl, rfl, by simp [World.setRow], fun k _ hk => setRow_other w b k _ hk⟩)
set_option maxHeartbeats 2000000 in
set_option maxRecDepth 100000 in
theorem short10_any {w : World} {v : Value} {as9 : List Aj} (h : RJs w v as9) (hl : as9.length ≤ maxLen) :
    Calls Try.prog 15 #[v] w fun e w' => ∃ v', e = .returned v' ∧ (∀ W, RJs W v as9 → RJs W v' (as9.take 40)) ∧ w' = w := by
  obtain ⟨a, c, rfl, hc⟩ := h.form
  unfold maxLen at hl
  by_cases h6 : as9.length ≤ 40
  · have hT : ∀ W, RJs W (.slice a as9.length c) as9 → RJs W (.slice a as9.length c) (as9.take 40) := fun W h => by rw [List.take_of_length_le h6]; exact h
    have HT := hide9 hT
    clear h hT
    have h7 : (as9.length : Int) ≤ 40 := by omega
    go_enter Try.func15, Try.ntmps15
    go_wp2
    go_ret
    exact ⟨_, rfl, HT.out, rfl⟩
  · have hT : ∀ W, RJs W (.slice a as9.length c) as9 → RJs W (.slice a 40 c) (as9.take 40) := fun W h => h.take 40 (by omega)
    have HT := hide9 hT
    clear h hT
    have h7 : ¬ (as9.length : Int) ≤ 40 := by omega
    have h8 : (40 : Int) < (as9.length : Int) := by omega
    have h9 : 40 ≤ c := by omega
    go_enter Try.func15, Try.ntmps15
    go_wp2
    go_ret
    exact ⟨_, rfl, HT.out, rfl⟩
theorem one_row {w : World} {v : Value} {ls : List (List UInt8)} (h : RBs w v ls) : v.oneCell' = true := by
  obtain ⟨a, c, rfl⟩ := h.form
  rfl
theorem take_all {bs : List Aj} {j : Nat} (hlt : j < bs.length) (h : ∀ a ∈ bs.take j, a.rs.length ≤ 20) (h2 : bs[j].rs.length ≤ 20) : ∀ a ∈ bs.take (j + 1), a.rs.length ≤ 20 := by
  rw [List.take_succ_eq_append_getElem hlt]
  intro a ha
  rcases List.mem_append.1 ha with ha | ha
  · exact h a ha
  · simp at ha
    rw [ha]
    exact h2
/-- Whether a script is too long, as far as a law asks. -/
def FarB (bs : List Aj) (e : Ending) : Prop := ∃ x, e = .returned (.bool x) ∧ (x = false → ∀ a ∈ bs, a.rs.length ≤ 20)
set_option maxHeartbeats 4000000 in
set_option maxRecDepth 100000 in
theorem far10_any {w : World} {v : Value} {as9 : List Aj} (h : RJs w v as9) (hl : as9.length ≤ maxLen) :
    Calls Try.prog 11 #[v] w fun e w' => FarB (as9.take 40) e ∧ Below w.heap.size w w' := by
  have hS := short10_any h hl
  have hlen : (as9.take 40).length ≤ 40 := by simp; omega
  have HH := hide9 h
  clear h hl
  generalize as9.take 40 = bs at *
  go_enter Try.func11, Try.ntmps11
  go_wp2_with (go_at_call 15; refine hS.mono ?_; rintro e w2 ⟨v', rfl, hv'', he⟩; replace he := he.symm; subst he; have hv' := hv'' _ HH.out; clear hv''; obtain ⟨a, c, rfl, hc⟩ := hv'.form; clear hS)
  go_loopw [3, 11] (fun x i wr => ∃ (j : Nat) (n : Int), j ≤ bs.length ∧ i = .int .i64 (j : Int) ∧ x = .int .i64 n ∧ 0 ≤ n ∧ n ≤ 500000 * (j : Int) ∧ Hid (∀ a ∈ bs.take j, a.rs.length ≤ 20) ∧ Below w.heap.size w wr) (fun _ i _ => bs.length - (intOf i).toNat)
  case atStart => exact ⟨0, 0, Nat.zero_le _, rfl, rfl, by omega, by omega, (fun a ha => by simp at ha : ∀ a ∈ bs.take 0, a.rs.length ≤ 20), Below.refl _ _⟩
  case round =>
    obtain ⟨j, n, hj, rfl, rfl, hn0, hn1, HT, hB⟩ := hrel
    by_cases hlt : j < bs.length
    · obtain ⟨-, -, b, o, rfl, hr, hA⟩ := RJs.at (hv'.below hB) hlt
      have hone := one_row hA.rb
      obtain ⟨va, vc, hvf⟩ := hA.rb.form
      have hal := hA.len
      unfold maxLen at hal
      have HT2 := hide9 (take_all hlt HT.out)
      have HA := hide9 hA
      have HB : Hid (Below w.heap.size w wr) := hB
      have hi1 : (j : Int) < (bs.length : Int) := by omega
      clear hA hB
      generalize bs[j] = ac at *
      by_cases h20 : 20 < ac.rs.length
      · go_wp2_with (first
          | ((with_reducible show wpList _ _ _ ({ op := Op.load 50 _, .. } :: _) _ _); refine wpList_load_J rfl _ rfl _ _ rfl ac hr ?_)
          | ((with_reducible show wpList _ _ _ ({ op := Op.store 50 _ _, .. } :: _) _ _); refine wpList_store_J _ _ rfl rfl _ ac _ rfl rfl (heap_new _ _) rfl hone ?_; intro wn hAn hOn; have c1 : wn.cell? ⟨wr.heap.size, 1, none⟩ = some ac.rv := hAn.cell 1; rw [hvf] at c1))
        go_ret
        exact ⟨⟨true, rfl, fun hx => (by cases hx)⟩, (HB.out.alloc HB.out.size _).trans (hOn.below (fun k hk => by rw [hk]; exact HB.out.size) (by have := HB.out.size; simp; omega))⟩
      · go_wp2_with (first
          | ((with_reducible show wpList _ _ _ ({ op := Op.load 50 _, .. } :: _) _ _); refine wpList_load_J rfl _ rfl _ _ rfl ac hr ?_)
          | ((with_reducible show wpList _ _ _ ({ op := Op.store 50 _ _, .. } :: _) _ _); refine wpList_store_J _ _ rfl rfl _ ac _ rfl rfl (heap_new _ _) rfl hone ?_; intro wn hAn hOn; have c1 : wn.cell? ⟨wr.heap.size, 1, none⟩ = some ac.rv := hAn.cell 1; rw [hvf] at c1))
        have hBn : Below wr.heap.size wr wn := ((Below.refl _ wr).alloc (Nat.le_refl _) _).trans (hOn.below (fun k hk => by rw [hk]; exact Nat.le_refl _) (by simp))
        have HR := hide9 (HA.out.rb.below hBn)
        have HE := hide9 HA.out.each
        rw [hvf] at HR
        have HBn := hide9 hBn
        clear hBn hOn
        go_loopw [3, 22] (fun x i wr2 => ∃ (q : Nat) (m : Int), q ≤ ac.rs.length ∧ i = .int .i64 (q : Int) ∧ x = .int .i64 m ∧ n ≤ m ∧ m ≤ n + 20008 * (q : Int) ∧ wn = wr2) (fun _ i _ => ac.rs.length - (intOf i).toNat)
        case atStart => exact ⟨0, n, Nat.zero_le _, rfl, rfl, by omega, by omega, rfl⟩
        case round =>
          obtain ⟨q, m, hq, rfl, rfl, hm0, hm1, rfl⟩ := hrel
          by_cases hqt : q < ac.rs.length
          · obtain ⟨-, hcc, b2, o2, rfl, x2, hx2, hr2⟩ := HR.out.at (List.getElem?_eq_getElem hqt)
            obtain ⟨ya, yc, rfl⟩ := hr2.form
            have hz := HE.out _ (List.getElem_mem hqt)
            unfold maxLen at hz
            generalize ac.rs[q].length = rl at *
            go_wp2
            refine ⟨⟨q + 1, m + ((if (20000 : Int) < (rl : Int) then 20000 else (rl : Int)) + 8), by omega, by go_num, rfl, ?_, ?_, trivial⟩, ?_⟩
            · split <;> omega
            · split <;> omega
            · simp [intOf]; omega
          · go_wp2
            have HT3 := hide9 (HT2.out (by omega))
            exact ⟨⟨j + 1, m, by omega, by go_num, rfl, by omega, by omega, HT3, bel HB.out HBn.out⟩, by simp [intOf]; omega⟩
    · have hi1 : ¬ (j : Int) < (bs.length : Int) := by omega
      have hjl : bs.take j = bs := List.take_of_length_le (by omega)
      rw [hjl] at HT
      go_wp2
      go_ret
      exact ⟨⟨_, rfl, fun _ => HT.out⟩, hB⟩
end Go.Proofs.Ytcjbceidgaieaaa
/- What a journal's act does; the contract of does. -/
set_option linter.unusedVariables false
set_option linter.unusedSimpArgs false
namespace Go.Proofs.Ytcjbceidgaieaaa
open Go.RowKit
/-- What an act of a journal's script does: its answer, the disk, the group. -/
def Jn.does (d : Dk.D) (gs : List (List UInt8)) (a : Aj) : Int × Dk.D × List (List UInt8) :=
  if a.kind % 7 = 1 then ((Jn.commits d gs).1, (Jn.commits d gs).2, if (Jn.commits d gs).1 = 0 then [] else gs)
  else if a.kind % 7 = 2 then (100 + (gs.length : Int), d, [])
  else if a.kind % 7 = 3 then ((Jn.snaps d gs a.rs).1, (Jn.snaps d gs a.rs).2, gs)
  else if a.kind % 7 = 4 ∨ a.kind % 7 = 5 then (0, d, gs)
  else (Jn.fits d (Jn.frames gs).length a.rs, d, if Jn.fits d (Jn.frames gs).length a.rs = 0 then gs ++ a.rs else gs)
/-- What a call of a journal leaves. -/
def JPost (w0 : World) (T : Nat → Prop) (b jb : Nat) (W : World) (r : Int × Dk.D × List (List UInt8)) (e : Ending) (w' : World) : Prop := ∃ T', e = .returned (.int .i64 r.1) ∧ JR w0 T' b jb r.2.1 r.2.2 w' ∧ Tw W T T' w'
/-- A script that came in. -/
def ArgJ (w : World) (v : Value) (as9 : List Aj) : Prop := RJs w v as9 ∧ as9.length ≤ maxLen
theorem store_below {w wn : World} {o : Obj} (h : Own (fun k => k = w.heap.size) (w.alloc o) wn) : Below w.heap.size w wn := (alloc1 w o).trans (h.below (fun k hk => by rw [hk]; exact Nat.le_refl _) (by simp))
theorem JR.rx {w0 W : World} {T : Nat → Prop} {b jb : Nat} {d : Dk.D} {gs : List (List UInt8)} (h : JR w0 T b jb d gs W) {a : Aj} (hA : AjOK w0 a) (h20 : a.rs.length ≤ 20) : Rx T W a.rv a.rs := ⟨h.came hA.rb, by omega, hA.each⟩
set_option maxHeartbeats 2000000 in
set_option maxRecDepth 100000 in
theorem JR.does0 {w0 W : World} {T : Nat → Prop} {b jb : Nat} {d : Dk.D} {gs : List (List UInt8)} (h : JR w0 T b jb d gs W) (a : Aj) (hA : AjOK w0 a) (h20 : a.rs.length ≤ 20) (hk : a.kind % 7 = 0) {r : Int × Dk.D × List (List UInt8)} (e : Hid (Jn.does d gs a = r)) :
    Calls Try.prog 16 #[ptr jb 0, jV a] W (JPost w0 T b jb W r) := by
  have hm : (a.kind : Int).tmod 7 = 0 := by rw [rem7 _ hA.kind, hk]; rfl
  have hB := alloc1 W (.cells (jX a) 50)
  obtain ⟨va, vc, hv⟩ := hA.rb.form
  have e' := e.out
  unfold Jn.does at e'
  have HB := hide9 hB
  have h9 := h.below hB
  have hC := h9.add (h9.rx hA h20) (q := Jn.fits d (Jn.frames gs).length a.rs) (by exact (rfl : _ = _))
  rw [if_neg (by omega), if_neg (by omega), if_neg (by omega), if_neg (by omega)] at e'
  subst e'
  generalize Jn.fits d (Jn.frames gs).length a.rs = q at *
  generalize (if q = 0 then gs ++ a.rs else gs) = g' at *
  obtain ⟨kind, rv, rs, n, behind, k0, k1, c0, c1⟩ := a
  simp only at hv hm hC HB hk h20
  subst hv
  clear h hA hB hk e h9
  go_enter Try.func16, Try.ntmps16
  go_wp2_with (go_at_call 34; refine hC.mono ?_; rintro e w2 ⟨T2, rfl, hJ2, hT2⟩)
  go_ret
  exact ⟨T2, rfl, hJ2, (Tw.of T HB.out).trans hT2⟩
set_option maxHeartbeats 2000000 in
set_option maxRecDepth 100000 in
theorem JR.does1 {w0 W : World} {T : Nat → Prop} {b jb : Nat} {d : Dk.D} {gs : List (List UInt8)} (h : JR w0 T b jb d gs W) (a : Aj) (hA : AjOK w0 a) (h20 : a.rs.length ≤ 20) (hk : a.kind % 7 = 1) {r : Int × Dk.D × List (List UInt8)} (e : Hid (Jn.does d gs a = r)) :
    Calls Try.prog 16 #[ptr jb 0, jV a] W (JPost w0 T b jb W r) := by
  have hm : (a.kind : Int).tmod 7 = 1 := by rw [rem7 _ hA.kind, hk]; rfl
  have hB := alloc1 W (.cells (jX a) 50)
  obtain ⟨va, vc, hv⟩ := hA.rb.form
  have e' := e.out
  unfold Jn.does at e'
  have HB := hide9 hB
  have h9 := h.below hB
  have hC := h9.commit (r := Jn.commits d gs) (by exact (rfl : _ = _))
  rw [if_pos hk] at e'
  subst e'
  generalize Jn.commits d gs = q at *
  generalize (if q.1 = 0 then [] else gs) = g' at *
  obtain ⟨kind, rv, rs, n, behind, k0, k1, c0, c1⟩ := a
  simp only at hv hm hC HB hk h20
  subst hv
  clear h hA hB hk e h9
  go_enter Try.func16, Try.ntmps16
  go_wp2_with (go_at_call 35; refine hC.mono ?_; rintro e w2 ⟨T2, rfl, hJ2, hT2⟩)
  go_ret
  exact ⟨T2, rfl, hJ2, (Tw.of T HB.out).trans hT2⟩
set_option maxHeartbeats 2000000 in
set_option maxRecDepth 100000 in
theorem JR.does2 {w0 W : World} {T : Nat → Prop} {b jb : Nat} {d : Dk.D} {gs : List (List UInt8)} (h : JR w0 T b jb d gs W) (a : Aj) (hA : AjOK w0 a) (h20 : a.rs.length ≤ 20) (hk : a.kind % 7 = 2) {r : Int × Dk.D × List (List UInt8)} (e : Hid (Jn.does d gs a = r)) :
    Calls Try.prog 16 #[ptr jb 0, jV a] W (JPost w0 T b jb W r) := by
  have hm : (a.kind : Int).tmod 7 = 2 := by rw [rem7 _ hA.kind, hk]; rfl
  have hB := alloc1 W (.cells (jX a) 50)
  obtain ⟨va, vc, hv⟩ := hA.rb.form
  have e' := e.out
  unfold Jn.does at e'
  have HB := hide9 hB
  have h9 := h.below hB
  have hC := h9.drop
  rw [if_neg (by omega), if_pos hk] at e'
  subst e'
  have hgl := Jn.frames_length gs
  have hgs := h.small
  obtain ⟨kind, rv, rs, n, behind, k0, k1, c0, c1⟩ := a
  simp only at hv hm hC HB hk h20
  subst hv
  clear h hA hB hk e h9
  go_enter Try.func16, Try.ntmps16
  go_wp2_with (go_at_call 36; refine hC.mono ?_; rintro e w2 ⟨T2, rfl, hJ2, hT2⟩)
  go_ret
  exact ⟨T2, rfl, hJ2, (Tw.of T HB.out).trans hT2⟩
set_option maxHeartbeats 2000000 in
set_option maxRecDepth 100000 in
theorem JR.does3 {w0 W : World} {T : Nat → Prop} {b jb : Nat} {d : Dk.D} {gs : List (List UInt8)} (h : JR w0 T b jb d gs W) (a : Aj) (hA : AjOK w0 a) (h20 : a.rs.length ≤ 20) (hk : a.kind % 7 = 3) {r : Int × Dk.D × List (List UInt8)} (e : Hid (Jn.does d gs a = r)) :
    Calls Try.prog 16 #[ptr jb 0, jV a] W (JPost w0 T b jb W r) := by
  have hm : (a.kind : Int).tmod 7 = 3 := by rw [rem7 _ hA.kind, hk]; rfl
  have hB := alloc1 W (.cells (jX a) 50)
  obtain ⟨va, vc, hv⟩ := hA.rb.form
  have e' := e.out
  unfold Jn.does at e'
  have HB := hide9 hB
  have h9 := h.below hB
  have hC := h9.snap (h9.rx hA h20) (r := Jn.snaps d gs a.rs) (by exact (rfl : _ = _))
  rw [if_neg (by omega), if_neg (by omega), if_pos hk] at e'
  subst e'
  generalize Jn.snaps d gs a.rs = q at *
  obtain ⟨kind, rv, rs, n, behind, k0, k1, c0, c1⟩ := a
  simp only at hv hm hC HB hk h20
  subst hv
  clear h hA hB hk e h9
  go_enter Try.func16, Try.ntmps16
  go_wp2_with (go_at_call 37; refine hC.mono ?_; rintro e w2 ⟨T2, rfl, hJ2, hT2⟩)
  go_ret
  exact ⟨T2, rfl, hJ2, (Tw.of T HB.out).trans hT2⟩
set_option maxHeartbeats 2000000 in
set_option maxRecDepth 100000 in
theorem JR.does4 {w0 W : World} {T : Nat → Prop} {b jb : Nat} {d : Dk.D} {gs : List (List UInt8)} (h : JR w0 T b jb d gs W) (a : Aj) (hA : AjOK w0 a) (h20 : a.rs.length ≤ 20) (hk : a.kind % 7 = 4) {r : Int × Dk.D × List (List UInt8)} (e : Hid (Jn.does d gs a = r)) :
    Calls Try.prog 16 #[ptr jb 0, jV a] W (JPost w0 T b jb W r) := by
  have hm : (a.kind : Int).tmod 7 = 4 := by rw [rem7 _ hA.kind, hk]; rfl
  have hB := alloc1 W (.cells (jX a) 50)
  obtain ⟨va, vc, hv⟩ := hA.rb.form
  have e' := e.out
  unfold Jn.does at e'
  have HB := hide9 hB
  have h9 := h.below hB
  rw [if_neg (by omega), if_neg (by omega), if_neg (by omega), if_pos (by omega)] at e'
  subst e'
  have H9 := hide9 h9
  obtain ⟨kind, rv, rs, n, behind, k0, k1, c0, c1⟩ := a
  simp only at hv hm  HB hk h20
  subst hv
  clear h hA hB hk e h9
  go_enter Try.func16, Try.ntmps16
  go_wp2
  go_ret
  exact ⟨T, rfl, H9.out, Tw.of T HB.out⟩
set_option maxHeartbeats 2000000 in
set_option maxRecDepth 100000 in
theorem JR.does5 {w0 W : World} {T : Nat → Prop} {b jb : Nat} {d : Dk.D} {gs : List (List UInt8)} (h : JR w0 T b jb d gs W) (a : Aj) (hA : AjOK w0 a) (h20 : a.rs.length ≤ 20) (hk : a.kind % 7 = 5) {r : Int × Dk.D × List (List UInt8)} (e : Hid (Jn.does d gs a = r)) :
    Calls Try.prog 16 #[ptr jb 0, jV a] W (JPost w0 T b jb W r) := by
  have hm : (a.kind : Int).tmod 7 = 5 := by rw [rem7 _ hA.kind, hk]; rfl
  have hB := alloc1 W (.cells (jX a) 50)
  obtain ⟨va, vc, hv⟩ := hA.rb.form
  have e' := e.out
  unfold Jn.does at e'
  have HB := hide9 hB
  have h9 := h.below hB
  rw [if_neg (by omega), if_neg (by omega), if_neg (by omega), if_pos (by omega)] at e'
  subst e'
  have H9 := hide9 h9
  obtain ⟨kind, rv, rs, n, behind, k0, k1, c0, c1⟩ := a
  simp only at hv hm  HB hk h20
  subst hv
  clear h hA hB hk e h9
  go_enter Try.func16, Try.ntmps16
  go_wp2
  go_ret
  exact ⟨T, rfl, H9.out, Tw.of T HB.out⟩
set_option maxHeartbeats 2000000 in
set_option maxRecDepth 100000 in
theorem JR.does6 {w0 W : World} {T : Nat → Prop} {b jb : Nat} {d : Dk.D} {gs : List (List UInt8)} (h : JR w0 T b jb d gs W) (a : Aj) (hA : AjOK w0 a) (h20 : a.rs.length ≤ 20) (hk : a.kind % 7 = 6) {r : Int × Dk.D × List (List UInt8)} (e : Hid (Jn.does d gs a = r)) :
    Calls Try.prog 16 #[ptr jb 0, jV a] W (JPost w0 T b jb W r) := by
  have hm : (a.kind : Int).tmod 7 = 6 := by rw [rem7 _ hA.kind, hk]; rfl
  have hB := alloc1 W (.cells (jX a) 50)
  obtain ⟨va, vc, hv⟩ := hA.rb.form
  have e' := e.out
  unfold Jn.does at e'
  have HB := hide9 hB
  have h9 := h.below hB
  have hC := h9.add (h9.rx hA h20) (q := Jn.fits d (Jn.frames gs).length a.rs) (by exact (rfl : _ = _))
  rw [if_neg (by omega), if_neg (by omega), if_neg (by omega), if_neg (by omega)] at e'
  subst e'
  generalize Jn.fits d (Jn.frames gs).length a.rs = q at *
  generalize (if q = 0 then gs ++ a.rs else gs) = g' at *
  obtain ⟨kind, rv, rs, n, behind, k0, k1, c0, c1⟩ := a
  simp only at hv hm hC HB hk h20
  subst hv
  clear h hA hB hk e h9
  go_enter Try.func16, Try.ntmps16
  go_wp2_with (go_at_call 34; refine hC.mono ?_; rintro e w2 ⟨T2, rfl, hJ2, hT2⟩)
  go_ret
  exact ⟨T2, rfl, hJ2, (Tw.of T HB.out).trans hT2⟩
theorem JR.does {w0 W : World} {T : Nat → Prop} {b jb : Nat} {d : Dk.D} {gs : List (List UInt8)} (h : JR w0 T b jb d gs W) (a : Aj) (hA : AjOK w0 a) (h20 : a.rs.length ≤ 20) {r : Int × Dk.D × List (List UInt8)} (e : Hid (Jn.does d gs a = r)) :
    Calls Try.prog 16 #[ptr jb 0, jV a] W (JPost w0 T b jb W r) := by
  rcases (by omega : a.kind % 7 = 0 ∨ a.kind % 7 = 1 ∨ a.kind % 7 = 2 ∨ a.kind % 7 = 3 ∨ a.kind % 7 = 4 ∨ a.kind % 7 = 5 ∨ a.kind % 7 = 6) with hk | hk | hk | hk | hk | hk | hk
  · exact h.does0 a hA h20 hk e
  · exact h.does1 a hA h20 hk e
  · exact h.does2 a hA h20 hk e
  · exact h.does3 a hA h20 hk e
  · exact h.does4 a hA h20 hk e
  · exact h.does5 a hA h20 hk e
  · exact h.does6 a hA h20 hk e
namespace Jn
/-- On a disk without a fuse, with power. -/
theorem file_ok {f : Int} (h : f = 0 ∨ f = 1) : ¬ (f < 0 ∨ 2 ≤ f) := by omega
theorem write_calm {d : Dk.D} (h : d.Calm) (f : Int) (hf : f = 0 ∨ f = 1) (l : List UInt8) : (write d f l).1 = 11 ∧ (write d f l).2 = d ∨ (write d f l).1 = 0 ∧ (write d f l).2.Calm := by
  unfold write
  rw [Dk.append_calm h, if_neg (file_ok hf)]
  by_cases hl : d.left < l.length
  · rw [if_pos hl]
    exact .inl ⟨rfl, rfl⟩
  · rw [if_neg hl]
    simp only [ne_eq, not_true_eq_false, if_false]
    rw [Dk.sync_calm (Dk.calm_put h _ _), if_neg (file_ok hf)]
    exact .inr ⟨rfl, Dk.calm_put (Dk.calm_put h _ _) _ _⟩
theorem cut_calm {d : Dk.D} (h : d.Calm) (f : Int) (hf : f = 0 ∨ f = 1) (n : Nat) (hn : n ≤ (d.at f).now.length) : (cut d f n).1 = 0 ∧ (cut d f n).2.Calm := by
  unfold cut
  rw [Dk.trunc_calm h, if_neg (file_ok hf), if_neg (show ¬ ((n : Int) < 0 ∨ ((d.at f).now.length : Int) < (n : Int)) by omega)]
  simp only [ne_eq, not_true_eq_false, if_false]
  rw [Dk.sync_calm (Dk.calm_put h _ _), if_neg (file_ok hf)]
  exact ⟨rfl, Dk.calm_put (Dk.calm_put h _ _) _ _⟩
theorem commits_calm {d : Dk.D} (h : d.Calm) (hF : d.Fine) (gs : List (List UInt8)) : (commits d gs).1 = 11 ∧ (commits d gs).2 = d ∨ (commits d gs).1 = 0 ∧ (commits d gs).2.Calm := by
  unfold commits
  by_cases hg : gs = []
  · rw [if_pos hg]
    exact .inr ⟨rfl, h⟩
  · rw [if_neg hg, if_neg (by simp [h.on])]
    rcases write_calm h d.root hF.root (frames gs) with ⟨h1, h2⟩ | ⟨h1, h2⟩
    · exact .inl ⟨h1, h2⟩
    · exact .inr ⟨h1, h2⟩
theorem snaps_calm {d : Dk.D} (h : d.Calm) (hF : d.Fine) (gs rs : List (List UInt8)) : ((snaps d gs rs).1 = 1 ∨ (snaps d gs rs).1 = 11 ∨ (snaps d gs rs).1 = 13) ∧ (snaps d gs rs).2 = d ∨ (snaps d gs rs).1 = 0 ∧ (snaps d gs rs).2.Calm := by
  have hr := hF.root
  unfold snaps
  by_cases hg : gs ≠ []
  · rw [if_pos hg]
    exact .inl ⟨.inr (.inr rfl), rfl⟩
  · rw [if_neg hg]
    by_cases hf : fits d 0 rs ≠ 0
    · rw [if_pos hf]
      rcases fits_some d 0 rs with h0 | h0 | h0
      · exact absurd h0 hf
      · exact .inl ⟨.inl h0, rfl⟩
      · exact .inl ⟨.inr (.inl h0), rfl⟩
    · rw [if_neg hf]
      unfold snap
      rw [if_neg (by simp [h.on])]
      rcases write_calm h (1 - d.root) (by omega) (frames rs) with ⟨h1, h2⟩ | ⟨h1, h2⟩
      · rw [if_pos (by rw [h1]; decide)]
        exact .inl ⟨.inr (.inl h1), h2⟩
      · rw [if_neg (by rw [h1]; decide)]
        generalize (write d (1 - d.root) (frames rs)).2 = dw at *
        unfold snap3
        rw [Dk.switch_calm h2, if_neg (file_ok (f := 1 - d.root) (by omega))]
        simp only [ne_eq, not_true_eq_false, if_false]
        have := cut_calm (d := { dw with root := 1 - d.root }) ⟨h2.on, h2.fuse⟩ d.root hr 0 (Nat.zero_le _)
        exact .inr this
theorem does_calm {d : Dk.D} (h : d.Calm) (hF : d.Fine) (gs : List (List UInt8)) (a : Aj) (hk : a.kind % 7 ≠ 2) : ((does d gs a).1 = 1 ∨ (does d gs a).1 = 11 ∨ (does d gs a).1 = 13) ∧ (does d gs a).2 = (d, gs) ∨ (does d gs a).1 = 0 ∧ (does d gs a).2.1.Calm := by
  unfold does
  by_cases h1 : a.kind % 7 = 1
  · rw [if_pos h1]
    rcases commits_calm h hF gs with ⟨h2, h3⟩ | ⟨h2, h3⟩
    · refine .inl ⟨.inr (.inl h2), ?_⟩
      show (_, _) = _
      rw [h3, if_neg (by rw [h2]; decide)]
    · exact .inr ⟨h2, h3⟩
  · rw [if_neg h1, if_neg hk]
    by_cases h3 : a.kind % 7 = 3
    · rw [if_pos h3]
      rcases snaps_calm h hF gs a.rs with ⟨h4, h5⟩ | ⟨h4, h5⟩
      · exact .inl ⟨h4, by rw [h5]⟩
      · exact .inr ⟨h4, h5⟩
    · rw [if_neg h3]
      by_cases h4 : a.kind % 7 = 4 ∨ a.kind % 7 = 5
      · rw [if_pos h4]
        exact .inr ⟨rfl, h⟩
      · rw [if_neg h4]
        rcases fits_some d (frames gs).length a.rs with h0 | h0 | h0
        · exact .inr ⟨h0, h⟩
        · exact .inl ⟨.inl h0, by rw [h0]; rfl⟩
        · exact .inl ⟨.inr (.inl h0), by rw [h0]; rfl⟩
end Jn
end Go.Proofs.Ytcjbceidgaieaaa
