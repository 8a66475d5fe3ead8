/- What the laws' far counts of a document; its contract. -/
import Derived.Test.YtiodaahncadodaaGreatDoorKTreTV
set_option linter.unusedVariables false
set_option linter.unusedSimpArgs false
namespace Tre
def wAt (p : At) : Nat := min p.1.length 3000 + min p.2.length 3000 + 1
def aTo (ats : List At) (j : Nat) : Nat := ((ats.take j).map wAt).sum
def wNd (n : Nd) : Nat := min n.name.length 3000 + min n.text.length 3000 + min n.kids.length 3000 + aTo n.attrs 100
def nTo (ns : List Nd) (j : Nat) : Nat := ((ns.take j).map wNd).sum
/-- What far answers. -/
def farD (ns : List Nd) : Bool := (ns.take 200).any (fun n => decide (100 < n.attrs.length)) || (decide (3000 < nTo ns 200) || (decide (200 < ns.length) && decide (ns.length ≤ 4096)))
theorem aTo_next (ats : List At) (j : Nat) (h : j < ats.length) : aTo ats (j + 1) = aTo ats j + wAt ats[j] := by
  unfold aTo
  rw [List.take_add_one, List.getElem?_eq_getElem h, List.map_append, List.sum_append]
  simp
theorem aTo_le (ats : List At) (j : Nat) : aTo ats j ≤ 6001 * j := by
  induction j with
  | zero => simp [aTo]
  | succ j ih =>
    by_cases h : j < ats.length
    · rw [aTo_next ats j h]
      have : wAt ats[j] ≤ 6001 := by unfold wAt; omega
      omega
    · have e : aTo ats (j + 1) = aTo ats j := by
        unfold aTo
        rw [List.take_of_length_le (by omega), List.take_of_length_le (by omega)]
      omega
theorem aTo_min (ats : List At) (m : Nat) (h : min ats.length 100 = m) : aTo ats m = aTo ats 100 := by
  unfold aTo
  by_cases h1 : ats.length ≤ 100
  · rw [List.take_of_length_le h1, List.take_of_length_le (by omega)]
  · rw [show m = 100 from by omega]
theorem nTo_next (ns : List Nd) (j : Nat) (h : j < ns.length) : nTo ns (j + 1) = nTo ns j + wNd (ndAt ns j) := by
  unfold nTo
  rw [List.take_add_one, ndAt_get h]
  simp
theorem nTo_le (ns : List Nd) (j : Nat) : nTo ns j ≤ 700000 * j := by
  induction j with
  | zero => simp [nTo]
  | succ j ih =>
    by_cases h : j < ns.length
    · rw [nTo_next ns j h]
      have : wNd (ndAt ns j) ≤ 700000 := by
        unfold wNd
        have := aTo_le (ndAt ns j).attrs 100
        omega
      omega
    · have e : nTo ns (j + 1) = nTo ns j := by
        unfold nTo
        rw [List.take_of_length_le (by omega), List.take_of_length_le (by omega)]
      omega
theorem farD_big {ns : List Nd} {j : Nat} (hj : j < ns.length) (h2 : j < 200) (h : 100 < (ndAt ns j).attrs.length) : farD ns = true := by
  unfold farD
  have : (ns.take 200).any (fun n => decide (100 < n.attrs.length)) = true := by
    rw [List.any_eq_true]
    refine ⟨ndAt ns j, ?_, decide_eq_true h⟩
    refine List.mem_of_getElem? (i := j) ?_
    rw [List.getElem?_take, if_pos h2, ndAt_get hj]
  rw [this, Bool.true_or]
theorem farD_end {ns : List Nd} {m : Nat} (hm : min ns.length 200 = m) (h : ∀ i, i < m → (ndAt ns i).attrs.length ≤ 100) : farD ns = (decide (3000 < nTo ns m) || (decide (200 < ns.length) && decide (ns.length ≤ 4096))) := by
  unfold farD
  have e : ns.take 200 = ns.take m := by
    by_cases h1 : ns.length ≤ 200
    · rw [List.take_of_length_le h1, List.take_of_length_le (by omega)]
    · rw [show m = 200 from by omega]
  have e2 : nTo ns 200 = nTo ns m := by unfold nTo; rw [e]
  have : (ns.take 200).any (fun n => decide (100 < n.attrs.length)) = false := by
    rw [List.any_eq_false]
    intro x hx
    rw [e] at hx
    obtain ⟨i, hi⟩ := List.getElem?_of_mem hx
    rw [List.getElem?_take] at hi
    split at hi
    · rename_i him
      have := h i him
      rw [ndAt_some hi] at this
      simpa using this
    · cases hi
  rw [this, Bool.false_or, e2]
theorem farD_no {ns : List Nd} (h : farD ns = false) : (ns.length ≤ 200 ∨ 4096 < ns.length) ∧ ∀ i, i < ns.length → i < 200 → (ndAt ns i).attrs.length ≤ 100 := by
  refine ⟨?_, fun i hi h2 => ?_⟩
  · unfold farD at h
    simp only [Bool.or_eq_false_iff, Bool.and_eq_false_iff, decide_eq_false_iff_not] at h
    omega
  · rcases Nat.lt_or_ge 100 (ndAt ns i).attrs.length with h3 | h3
    · rw [farD_big hi h2 h3] at h
      cases h
    · exact h3
end Tre
namespace Go.Proofs.YtiodaahncadodaaGreatDoor
open Go.RowKit
set_option maxHeartbeats 8000000 in
set_option maxRecDepth 100000 in
theorem far13_any (ns : List Nd) (v : Value) (w : World) (hv : ReadsN w v ns) (hl : ns.length ≤ 140737488351232) :
    Calls Tryz.prog 14 #[.agg #[v]] w fun e w' => e = .returned (.bool (Tre.farD ns)) ∧ Below w.heap.size w w' := by
  obtain ⟨a, c, rfl⟩ := hv.form
  have hb0 : Below w.heap.size w (w.alloc (.cells #[.slice a ns.length c] 26)) := (Below.refl _ w).alloc (Nat.le_refl _) _
  have cd := doc_one (heap_new w (.cells #[.slice a ns.length c] 26))
  have HV := hideT (hv.below hb0)
  have hcap : ns.length ≤ c := by
    rcases hv with ⟨_, _, e, rfl⟩ | ⟨_, _, _, e, hc, _⟩
    · exact Nat.zero_le _
    · cases e; exact hc
  have HB0 := hideT hb0
  have hds := cell_lt cd
  obtain ⟨m, hm⟩ : ∃ m, min ns.length 200 = m := ⟨_, rfl⟩
  have hmI : min (ns.length : Int) 200 = (m : Int) := by omega
  have hm1 : m ≤ ns.length := by omega
  have hm2 : m ≤ 200 := by omega
  have hmc : m ≤ c := by omega
  have HM := hideT hm
  have HL := hideT hl
  clear hv hb0 hm
  go_enter Tryz.func14, Tryz.ntmps14
  go_wp2
  generalize (w.alloc (.cells #[.slice a ns.length c] 26)) = W0 at *
  clear hcap
  go_loopw [3, 16] (fun x i wr => ∃ j N : Nat, x = .int .i64 N ∧ i = .int .i64 j ∧ j ≤ m ∧ Hid (N = Tre.nTo ns j) ∧ Hid (∀ i, i < j → (Tre.ndAt ns i).attrs.length ≤ 100) ∧ Hid (Below W0.heap.size W0 wr)) (fun _ i _ => m - (intOf i).toNat)
  case atStart => exact ⟨0, 0, by go_num, rfl, Nat.zero_le _, rfl, fun i hi => absurd hi (Nat.not_lt_zero _), Below.refl _ _⟩
  case round =>
    obtain ⟨j, N, rfl, rfl, hj, HN, HS, HB⟩ := hrel
    have hfl := Tre.nTo_le ns j
    have hNb : N ≤ 140000000 := by have := HN.out; omega
    have cdX := (HB.out.cell (p := ⟨w.heap.size, 0, none⟩) hds).trans cd
    rename World => X
    clear hfl
    by_cases hjm : j < m
    · have hjl : j < ns.length := by omega
      obtain ⟨g, o, aa, ac, ka, kc, rfl, hc, hr⟩ := (HV.out.below HB.out).at hjl
      have hrng := hideT hr.rng
      have HA := hideT hr.ats
      have hacap : (Tre.ndAt ns j).attrs.length ≤ ac := by
        rcases hr.ats with ⟨_, _, e, e2⟩ | ⟨_, _, _, e, hc, _⟩
        · rw [e2]; exact Nat.zero_le _
        · cases e; exact hc
      have HNX := hideT (Tre.nTo_next ns j hjl)
      have HBIG := hideT (fun h => Tre.farD_big hjl (by omega : j < 200) h)
      have HJ : Hid (j + 1 ≤ m) := hjm
      have HSx : Hid ((Tre.ndAt ns j).attrs.length ≤ 100 → ∀ i, i < j + 1 → (Tre.ndAt ns i).attrs.length ≤ 100) := fun h i hi => by
        by_cases e : i = j
        · rw [e]; exact h
        · exact HS.out i (by omega)
      clear hr HS
      generalize Tre.ndAt ns j = q at *
      obtain ⟨qk, qn, qa, qx, qu, qs⟩ := q
      simp only at hacap
      have sp1 := str_size qn
      have sp2 := str_size qx
      obtain ⟨y1, hy1⟩ : ∃ y, min qn.length 3000 = y := ⟨_, rfl⟩
      obtain ⟨y2, hy2⟩ : ∃ y, min qx.length 3000 = y := ⟨_, rfl⟩
      obtain ⟨y3, hy3⟩ : ∃ y, min qs.length 3000 = y := ⟨_, rfl⟩
      obtain ⟨m2, hm3⟩ : ∃ y, min qa.length 100 = y := ⟨_, rfl⟩
      have hy1I : min (qn.length : Int) 3000 = (y1 : Int) := by omega
      have hy2I : min (qx.length : Int) 3000 = (y2 : Int) := by omega
      have hy3I : min (qs.length : Int) 3000 = (y3 : Int) := by omega
      have hm3I : min (qa.length : Int) 100 = (m2 : Int) := by omega
      have hy1b : y1 ≤ 3000 := by omega
      have hy2b : y2 ≤ 3000 := by omega
      have hy3b : y3 ≤ 3000 := by omega
      have hm3a : m2 ≤ qa.length := by omega
      have hm3b : m2 ≤ 100 := by omega
      have hm3c : m2 ≤ ac := by omega
      have HN2 : Hid (N + (y1 + y2 + y3) + Tre.aTo qa m2 = Tre.nTo ns (j + 1)) := by
        show _ = _
        rw [HNX.out, Tre.aTo_min qa m2 hm3]
        unfold Tre.wNd
        rw [hy1, hy2, hy3, ← HN.out]
        simp only
        omega
      have hb1 : Below X.heap.size X (X.alloc (.cells #[.int .i64 qk, .string (str qn), .slice aa qa.length ac, .string (str qx), .int .i64 qu, .slice ka qs.length kc] 43)) := (Below.refl _ _).alloc (Nat.le_refl _) _
      have hq1 := heap_new X (.cells #[.int .i64 qk, .string (str qn), .slice aa qa.length ac, .string (str qx), .int .i64 qu, .slice ka qs.length kc] 43)
      have HA1 := hideT (HA.out.below hb1)
      have HB1 := hideT (bel HB.out hb1)
      have hlt1 := cell_lt (Lib.cell_of_heap hq1 0)
      have HQ1 := hideT hq1
      have HLT1 := hideT hlt1
      clear hy1 hy2 hy3 hm3 HNX hb1 hq1 hlt1 HN HA
      go_wp2_with ((with_reducible show wpList _ _ _ ({ op := Op.load 43 _, .. } :: _) _ _); refine wpList_load_N (by rfl) _ rfl g (o + j * 6) rfl _ _ _ _ _ _ hrng.out ?_)
      generalize (X.alloc (.cells #[.int .i64 qk, .string (str qn), .slice aa qa.length ac, .string (str qx), .int .i64 qu, .slice ka qs.length kc] 43)) = X1 at *
      clear hacap
      go_loopw [3, 44] (fun x i wr => ∃ k M : Nat, x = .int .i64 M ∧ i = .int .i64 k ∧ k ≤ m2 ∧ Hid (M = N + (y1 + y2 + y3) + Tre.aTo qa k) ∧ Hid (Below X1.heap.size X1 wr)) (fun _ i _ => m2 - (intOf i).toNat)
      case atStart => exact ⟨0, N + (y1 + y2 + y3), by go_num, rfl, Nat.zero_le _, by show _ = _; simp [Tre.aTo], Below.refl _ _⟩
      case round =>
        obtain ⟨k, M, rfl, rfl, hk, HM2, HC⟩ := hrel
        have hal := Tre.aTo_le qa k
        have hMb : M ≤ 150000000 := by have := HM2.out; omega
        rename World => Y
        clear hal
        by_cases hkm : k < m2
        · have hkl : k < qa.length := by omega
          have hat : qa[k]? = some qa[k] := List.getElem?_eq_getElem hkl
          obtain ⟨b', o', rfl, hc', hbl, z1, z2⟩ := (HA1.out.below HC.out).at hat
          have han := hideT (Tre.aTo_next qa k hkl)
          have hb2 : Below Y.heap.size Y (Y.alloc (.cells #[.string (str qa[k].1), .string (str qa[k].2)] 67)) := (Below.refl _ _).alloc (Nat.le_refl _) _
          have HC1 := hideT (bel HC.out hb2)
          clear hat hb2
          generalize qa[k] = p at *
          have sq1 := str_size p.1
          have sq2 := str_size p.2
          obtain ⟨x1, hx1⟩ : ∃ y, min p.1.length 3000 = y := ⟨_, rfl⟩
          obtain ⟨x2, hx2⟩ : ∃ y, min p.2.length 3000 = y := ⟨_, rfl⟩
          have hx1I : min (p.1.length : Int) 3000 = (x1 : Int) := by omega
          have hx2I : min (p.2.length : Int) 3000 = (x2 : Int) := by omega
          have hx1b : x1 ≤ 3000 := by omega
          have hx2b : x2 ≤ 3000 := by omega
          have HM3 : Hid (M + (x1 + x2 + 1) = N + (y1 + y2 + y3) + Tre.aTo qa (k + 1)) := by
            show _ = _
            rw [han.out, HM2.out]
            unfold Tre.wAt
            rw [hx1, hx2]
            omega
          have HK : Hid (k + 1 ≤ m2) := hkm
          clear hx1 hx2 han HM2
          go_wp2
          go_roundw
          case rel => exact ⟨k + 1, M + (x1 + x2 + 1), by go_num, by go_num, HK.out, HM3, HC1⟩
          case measure => have := HK.out; simp [intOf]; omega
        · have hkm2 : k = m2 := by omega
          have HM3 : Hid (M = Tre.nTo ns (j + 1)) := by
            show _ = _
            rw [HM2.out, hkm2, HN2.out]
          have hnk : ¬ ((k : Int) < (m2 : Int)) := by omega
          have hT := (HC.out.block _ HLT1.out).trans HQ1.out
          have c2 := Lib.cell_of_heap hT 2
          have HBY := hideT (bel HB1.out HC.out)
          clear hkm2 hT HC HM2
          by_cases h100 : 100 < qa.length
          · have h1I : (100 : Int) < (qa.length : Int) := by omega
            have HR := hideT (HBIG.out h100)
            clear h100 HBIG HSx
            go_wp2
            go_ret
            exact ⟨by rw [HR.out]; rfl, HB0.out.trans (HBY.out.mono HB0.out.size)⟩
          · have h1I : ¬ (100 : Int) < (qa.length : Int) := by omega
            have HS2 := hideT (HSx.out (by omega))
            clear h100 HBIG HSx
            go_wp2
            go_roundw
            case rel => exact ⟨j + 1, M, by go_num, by go_num, HJ.out, HM3, HS2, HBY⟩
            case measure => have := HJ.out; simp [intOf]; omega
    · have hjm2 : j = m := by omega
      subst hjm2
      have HF := hideT (Tre.farD_end HM.out HS.out)
      rw [← HN.out] at HF
      clear HN HS
      by_cases hN2 : 3000 < N
      · have hNI : (3000 : Int) < (N : Int) := by omega
        rw [decide_eq_true hN2, Bool.true_or] at HF
        clear hN2
        go_wp2
        go_ret
        exact ⟨by rw [HF.out]; rfl, HB0.out.trans (HB.out.mono HB0.out.size)⟩
      · have hNI : ¬ (3000 : Int) < (N : Int) := by omega
        rw [decide_eq_false hN2, Bool.false_or] at HF
        clear hN2
        by_cases h200 : 200 < ns.length
        · have h2I : (200 : Int) < (ns.length : Int) := by omega
          rw [decide_eq_true h200, Bool.true_and] at HF
          clear h200
          by_cases h4 : ns.length ≤ 4096
          · have h4I : (ns.length : Int) ≤ 4096 := by omega
            rw [decide_eq_true h4] at HF
            clear h4
            go_wp2
            go_ret
            exact ⟨by rw [HF.out]; rfl, HB0.out.trans (HB.out.mono HB0.out.size)⟩
          · have h4I : ¬ (ns.length : Int) ≤ 4096 := by omega
            rw [decide_eq_false h4] at HF
            clear h4
            go_wp2
            go_ret
            exact ⟨by rw [HF.out]; rfl, HB0.out.trans (HB.out.mono HB0.out.size)⟩
        · have h2I : ¬ (200 : Int) < (ns.length : Int) := by omega
          rw [decide_eq_false h200, Bool.false_and] at HF
          clear h200
          go_wp2
          go_ret
          exact ⟨by rw [HF.out]; rfl, HB0.out.trans (HB.out.mono HB0.out.size)⟩
end Go.Proofs.YtiodaahncadodaaGreatDoor
