/- Texts laid as one. -/
import Derived.Test.YtiodaahncadodaaGreatDoorKTkSV
import Derived.Test.YtiodaahncadodaaGreatDoorKTkIJ
/- The contracts of the reference's Same, and of the law's ours and theirs. -/
set_option linter.unusedVariables false
set_option linter.unusedSimpArgs false
namespace Go.Proofs.YtiodaahncadodaaGreatDoor
open Go.RowKit
theorem alloc_size12 (w : World) (o : Obj) : (w.alloc o).heap.size = w.heap.size + 1 := by simp
/-- The reference's token at a block. -/
def RAt12 (w : World) (b : Nat) (cs : Array Value) : Prop := w.heap[b]? = some (.cells cs 48 (0, 0))
theorem sizeR12 : (Tryz.prog.info? 48).map (·.size) = some 5 := by kernel_rfl
theorem zeroT12 : (Tryz.prog.info? 48).map (fun i => (i.zero, i.size)) = some (some (.agg kCells0), 5) := by kernel_rfl
theorem RAt12.lt {w : World} {b : Nat} {cs : Array Value} (h : RAt12 w b cs) : b < w.heap.size := (Array.getElem?_eq_some_iff.1 h).1
theorem RAt12.step {w w' : World} {b : Nat} {cs : Array Value} (h : RAt12 w b cs) (hb : Below w.heap.size w w') : RAt12 w' b cs := (hb.block _ h.lt).trans h
theorem RAt12.kept {w w' : World} {b c : Nat} {cs : Array Value} (h : RAt12 w b cs) (hk : Kept c w w') (hb : b ≠ c) : RAt12 w' b cs := hk.heap h hb
theorem RAt12.belowB {w w' : World} {b B : Nat} {cs : Array Value} (h : RAt12 w b cs) (hb : Below B w w') (hB : b < B) : RAt12 w' b cs := (hb.block _ hB).trans h
theorem load_R {w : World} {b : Nat} {x0 x1 x2 x3 x4 : Value} (h : RAt12 w b #[x0, x1, x2, x3, x4]) : (loadVar 48 ⟨b, 0, none⟩).run Tryz.prog w = .ok (.agg #[x0, x1, x2, x3, x4]) w :=
  run_loadVar_row _ _ _ _ _ _ _ h Tryz.underlying48 rfl sizeR12
theorem loadAt_R {w : World} {b : Nat} {x0 x1 x2 x3 x4 : Value} (h : RAt12 w b #[x0, x1, x2, x3, x4]) : (Instr.loadAt 48 (.pointer (some ⟨b, 0, none⟩))).run Tryz.prog w = .ok (.agg #[x0, x1, x2, x3, x4]) w := by
  simp only [Instr.loadAt, Instr.sureAddr, Sem.run_bind, Sem.run_pure, Result.andThen]
  exact load_R h
theorem ret_R {fn : Func} {p : Tmp} {Q : Ending → World → Prop} {a : Act} {w : World} {b : Nat} {x0 x1 x2 x3 x4 : Value} (hr : fn.results = #[.cell p 48]) (hd : a.defers = []) (hp : a.tmps.getD p undef = .pointer (some ⟨b, 0, none⟩)) (h : RAt12 w b #[x0, x1, x2, x3, x4]) (hQ : Q (.returned (.agg #[x0, x1, x2, x3, x4])) w) :
    bodyPost Tryz.prog fn Q .ret a w := by
  refine bodyPost_ret (v := .agg #[x0, x1, x2, x3, x4]) ?_ hd hQ
  rw [results_cell hr, hp]
  simp [asAddr, Result.andThen, load_R h]
theorem ret_R2 {fn : Func} {p q : Tmp} {Q : Ending → World → Prop} {a : Act} {w : World} {b : Nat} {x0 x1 x2 x3 x4 x : Value} (hr : fn.results = #[.cell p 48, .tmp q]) (hd : a.defers = []) (hp : a.tmps.getD p undef = .pointer (some ⟨b, 0, none⟩)) (hx : a.tmps.getD q undef = x) (h : RAt12 w b #[x0, x1, x2, x3, x4]) (hQ : Q (.returned (.tuple #[.agg #[x0, x1, x2, x3, x4], x])) w) :
    bodyPost Tryz.prog fn Q .ret a w := by
  refine bodyPost_ret (v := .tuple #[.agg #[x0, x1, x2, x3, x4], x]) ?_ hd hQ
  rw [results_two hr _ _ _ _ _ hp (load_R h), hx]
theorem storeAt_R {w : World} {b : Nat} {cs : Array Value} (hc : cs.size = 5) {k : Int} {n x : ByteArray} {s : Bool} {ad : Option Addr} {ln cp : Nat} (h : RAt12 w b cs) : (Instr.storeAt 48 (.pointer (some ⟨b, 0, none⟩)) (.agg #[.int .i64 k, .string n, .slice ad ln cp, .bool s, .string x])).run Tryz.prog w = .ok () (w.setRow b #[.int .i64 k, .string n, .slice ad ln cp, .bool s, .string x]) := by
  simp only [Instr.storeAt, Instr.sureAddr, Sem.run_bind, Sem.run_pure, Result.andThen]
  exact run_storeVar_row _ _ _ _ _ _ h sizeR12 (by first | exact hc | simp [hc]) (by simp [Value.oneCell'])
theorem wpList_store_R {ops : Array Oper} {rest : List Oper} {o : Oper} {a : Act} {w : World} {Q : Exit → Act → World → Prop} (p q : Operand) (ho : o.op = .store 48 p q) (hg : o.guard = none) (b : Nat) (cs : Array Value) (hc : cs.size = 5) (k : Int) (n x : ByteArray) (s : Bool) (ad : Option Addr) (ln cp : Nat) (hx : a.eval p = .pointer (some ⟨b, 0, none⟩)) (hy : a.eval q = .agg #[.int .i64 k, .string n, .slice ad ln cp, .bool s, .string x]) (h : RAt12 w b cs)
    (hn : wpList Tryz.prog ops Q rest (a.put o.dst undef) (w.setRow b #[.int .i64 k, .string n, .slice ad ln cp, .bool s, .string x])) : wpList Tryz.prog ops Q (o :: rest) a w := by
  refine wpList_plain hg fun K hK => ?_
  unfold Oper.wp
  have e : (execOp a.eval o).run Tryz.prog w = .ok .skip (w.setRow b #[.int .i64 k, .string n, .slice ad ln cp, .bool s, .string x]) := by
    unfold execOp
    rw [ho]
    simp only [hx, hy, Sem.run_bind, storeAt_R hc h, Result.andThen, Sem.run_pure]
  rw [e, Oper.upon_skip]
  exact hK _ _ hn
theorem wpList_load_R {ops : Array Oper} {rest : List Oper} {o : Oper} {a : Act} {w : World} {Q : Exit → Act → World → Prop} (p : Operand) (ho : o.op = .load 48 p) (hg : o.guard = none) (b : Nat) (x0 x1 x2 x3 x4 : Value) (hx : a.eval p = .pointer (some ⟨b, 0, none⟩)) (h : RAt12 w b #[x0, x1, x2, x3, x4])
    (hn : wpList Tryz.prog ops Q rest (a.put o.dst (.agg #[x0, x1, x2, x3, x4])) w) : wpList Tryz.prog ops Q (o :: rest) a w := by
  refine wpList_plain hg fun K hK => ?_
  unfold Oper.wp
  have e : (execOp a.eval o).run Tryz.prog w = .ok (.value (.agg #[x0, x1, x2, x3, x4])) w := by
    unfold execOp
    rw [ho]
    simp only [hx, Sem.run_bind, loadAt_R h, Result.andThen, Sem.run_pure]
  rw [e, Oper.upon_value]
  exact hK _ _ hn
theorem setRow_R {w : World} {b : Nat} {cs ds : Array Value} (h : RAt12 w b cs) : RAt12 (w.setRow b ds) b ds := by
  unfold RAt12 at *
  simp [World.setRow, Array.getElem?_modify, h]
set_option maxHeartbeats 2000000 in
set_option maxRecDepth 100000 in
theorem RSameT_big (k1 k2 : Int) (n1 n2 : List UInt8) (p1 p2 : List Pr) (s1 s2 : Bool) (x1 x2 : List UInt8) (v1 v2 : Value) (w : World) (hv : ReadsPairs w v1 p1) (hu : ReadsPairs w v2 p2) (hl : p1.length ≤ 140737488351232) (hm : p2.length ≤ 140737488351232) :
    Calls Tryz.prog 30 #[tokI k1 n1 v1 s1 x1, tokI k2 n2 v2 s2 x2] w fun e w' => e = .returned (.bool (sameK k1 k2 n1 n2 p1 p2 s1 s2 x1 x2)) ∧ Below w.heap.size w w' := by
  obtain ⟨a1, c1, rfl⟩ := hv.form
  obtain ⟨a2, c2, rfl⟩ := hu.form
  have HV : Hid (sameK k1 k2 n1 n2 p1 p2 s1 s2 x1 x2 = ((k1 == k2) && ((n1 == n2) && ((decide (p1 = p2)) && ((s1 == s2) && (x1 == x2)))))) := rfl
  have hb0 : Below w.heap.size w ((w.alloc (.cells (kCells k1 n1 (.slice a1 p1.length c1) s1 x1) 48)).alloc (.cells (kCells k2 n2 (.slice a2 p2.length c2) s2 x2) 48)) := ((Below.refl _ w).alloc (Nat.le_refl _) _).alloc (by simp) _
  have HB0 := hideT hb0
  have hv0 := hideT (hv.below hb0)
  have hu0 := hideT (hu.below hb0)
  have ha1 : RAt12 ((w.alloc (.cells (kCells k1 n1 (.slice a1 p1.length c1) s1 x1) 48)).alloc (.cells (kCells k2 n2 (.slice a2 p2.length c2) s2 x2) 48)) w.heap.size (kCells k1 n1 (.slice a1 p1.length c1) s1 x1) :=
    RAt12.step (heap_new w _) ((Below.refl _ _).alloc (Nat.le_refl _) _)
  have ha2 : RAt12 ((w.alloc (.cells (kCells k1 n1 (.slice a1 p1.length c1) s1 x1) 48)).alloc (.cells (kCells k2 n2 (.slice a2 p2.length c2) s2 x2) 48)) (w.heap.size + 1) (kCells k2 n2 (.slice a2 p2.length c2) s2 x2) := by
    have := heap_new (w.alloc (.cells (kCells k1 n1 (.slice a1 p1.length c1) s1 x1) 48)) (.cells (kCells k2 n2 (.slice a2 p2.length c2) s2 x2) 48)
    rw [alloc_size12] at this
    exact this
  clear hv hu hb0
  have qn := str_beq n1 n2
  have qx := str_beq x1 x2
  cases hk : (k1 == k2)
  · rw [hk] at HV
    have nk := ne_of_beq hk
    clear hk
    go_enter Tryz.func30, Tryz.ntmps30
    go_wp2
    go_ret
    exact ⟨ret_bool HV.out.symm, HB0.out⟩
  rw [hk] at HV
  have nk := eq_of_beq' hk
  cases hn : (n1 == n2)
  · rw [hn] at HV qn
    clear hn
    go_enter Tryz.func30, Tryz.ntmps30
    go_wp2
    go_ret
    exact ⟨ret_bool HV.out.symm, HB0.out⟩
  rw [hn] at HV qn
  clear hn
  cases hs : (s1 == s2)
  · rw [hs] at HV
    have HV2 : Hid (sameK k1 k2 n1 n2 p1 p2 s1 s2 x1 x2 = false) := by show _ = _; rw [HV.out]; simp
    have ns : (s1 != s2) = true := by unfold bne; rw [hs]; rfl
    clear HV
    go_enter Tryz.func30, Tryz.ntmps30
    go_wp2
    go_ret
    exact ⟨ret_bool HV2.out.symm, HB0.out⟩
  rw [hs] at HV
  have hse : s1 = s2 := by simpa using hs
  subst hse
  clear hs
  cases hx : (x1 == x2)
  · rw [hx] at HV qx
    have HV2 : Hid (sameK k1 k2 n1 n2 p1 p2 s1 s1 x1 x2 = false) := by show _ = _; rw [HV.out]; simp
    clear HV hx
    go_enter Tryz.func30, Tryz.ntmps30
    go_wp2
    go_ret
    exact ⟨ret_bool HV2.out.symm, HB0.out⟩
  rw [hx] at HV qx
  clear hx
  have HV2 : Hid (sameK k1 k2 n1 n2 p1 p2 s1 s1 x1 x2 = decide (p1 = p2)) := by show _ = _; rw [HV.out]; simp
  clear HV
  by_cases hlen : p1.length = p2.length
  · have hb : ((p1.length : Int) != (p2.length : Int)) = false := by simp [hlen]
    have HL := hideT hlen
    clear hlen
    go_enter Tryz.func30, Tryz.ntmps30
    go_wp2
    generalize ((w.alloc (.cells (kCells k1 n1 (.slice a1 p1.length c1) s1 x1) 48)).alloc (.cells (kCells k2 n2 (.slice a2 p2.length c2) s1 x2) 48)) = W at *
    have HA1 := hideT ha1
    have HA2 := hideT ha2
    clear ha1 ha2
    go_loopw [5] (fun i wr => ∃ k m : Nat, k ≤ p1.length ∧ i = .int .i64 k ∧ Hid (p1.take k = p2.take k) ∧ wr = W.drewN m) (fun i _ => p1.length - (intOf i).toNat)
    case atStart => exact ⟨0, 0, Nat.zero_le _, rfl, rfl, rfl⟩
    case round =>
      obtain ⟨k, m, hkk, rfl, HE, rfl⟩ := hrel
      have cc1 : W.cell? ⟨w.heap.size, 2, none⟩ = some (.slice a1 p1.length c1) := Lib.cell_of_heap HA1.out 2
      have cc2 : W.cell? ⟨w.heap.size + 1, 2, none⟩ = some (.slice a2 p2.length c2) := Lib.cell_of_heap HA2.out 2
      by_cases hlt : k < p1.length
      · have hlt2 : k < p2.length := by have := HL.out; omega
        obtain ⟨p, hp⟩ : ∃ p, p1[k]? = some p := ⟨_, List.getElem?_eq_getElem hlt⟩
        obtain ⟨q, hq⟩ : ∃ q, p2[k]? = some q := ⟨_, List.getElem?_eq_getElem hlt2⟩
        obtain ⟨b1, o1, rfl, hc1, hb1, g1, g2⟩ := hv0.out.at hp
        obtain ⟨b2, o2, rfl, hc2, hb2, g3, g4⟩ := hu0.out.at hq
        have HX : Hid (p1[k]? = some p ∧ p2[k]? = some q) := ⟨hp, hq⟩
        clear hp hq
        by_cases hpq : p = q
        · subst hpq
          go_wp2
          go_quiet (fail)
          go_wp2
          go_roundw
          case rel => exact ⟨k + 1, m + nq, by omega, by go_num, by show _ = _; rw [List.take_add_one, List.take_add_one, HE.out, HX.out.1, HX.out.2], by simp⟩
          case measure => simp [intOf]; omega
        · have HN : Hid (decide (p1 = p2) = false) := by
            show _ = _
            rw [decide_eq_false_iff_not]
            rintro rfl
            exact hpq (Option.some.inj (HX.out.1.symm.trans HX.out.2))
          by_cases h1 : p.1 = q.1
          · have h2 : ¬ p.2 = q.2 := fun e => hpq (Prod.ext h1 e)
            have hs1 := str_beq_yes h1
            have hs2 := str_beq_no h2
            clear h1 h2 hpq
            go_wp2
            go_quiet (fail)
            go_wp2
            go_ret
            exact ⟨ret_bool (HV2.out.trans HN.out).symm, bel HB0.out (bel_quiet ⟨m + nq, by simp⟩)⟩
          · have hs1 := str_beq_no h1
            clear h1 hpq
            go_wp2
            go_quiet (fail)
            go_wp2
            go_ret
            exact ⟨ret_bool (HV2.out.trans HN.out).symm, bel HB0.out (bel_quiet ⟨m + nq, by simp⟩)⟩
      · have HN : Hid (decide (p1 = p2) = true) := by
          show _ = _
          rw [decide_eq_true_iff]
          have h := HE.out
          have := HL.out
          rwa [List.take_of_length_le (by omega), List.take_of_length_le (by omega)] at h
        go_wp2
        go_ret
        exact ⟨ret_bool (HV2.out.trans HN.out).symm, bel HB0.out (bel_quiet ⟨m, rfl⟩)⟩
  · have hb : ((p1.length : Int) != (p2.length : Int)) = true := by simp; omega
    have HN : Hid (decide (p1 = p2) = false) := by
      show _ = _
      rw [decide_eq_false_iff_not]
      rintro rfl
      exact hlen rfl
    clear hlen
    go_enter Tryz.func30, Tryz.ntmps30
    go_wp2
    go_ret
    exact ⟨ret_bool (HV2.out.trans HN.out).symm, HB0.out⟩
theorem RSameT_any (k1 k2 : Int) (n1 n2 : List UInt8) (p1 p2 : List Pr) (s1 s2 : Bool) (x1 x2 : List UInt8) (v1 v2 : Value) (w : World) (hv : ReadsPairs w v1 p1) (hu : ReadsPairs w v2 p2) (hl : p1.length ≤ 1000000) (hm : p2.length ≤ 1000000) :
    Calls Tryz.prog 30 #[tokI k1 n1 v1 s1 x1, tokI k2 n2 v2 s2 x2] w fun e w' => e = .returned (.bool (sameK k1 k2 n1 n2 p1 p2 s1 s2 x1 x2)) ∧ Below w.heap.size w w' :=
  RSameT_big k1 k2 n1 n2 p1 p2 s1 s2 x1 x2 v1 v2 w hv hu (by omega) (by omega)
end Go.Proofs.YtiodaahncadodaaGreatDoor
