/- The contracts of the reference's above and Deep. -/
import Derived.Test.YtiodaahncadodaaGreatDoorKTreH
import Derived.Test.YtiodaahncadodaaGreatDoorKTreAE
import Derived.Test.YtiodaahncadodaaGreatDoorKTreNW
set_option linter.unusedVariables false
set_option linter.unusedSimpArgs false
namespace Go.Proofs.YtiodaahncadodaaGreatDoor
open Go.RowKit
set_option maxHeartbeats 2000000 in
set_option maxRecDepth 100000 in
theorem RAbove_any (ns : List Nd) (v : Value) (w : World) (hv : ReadsN w v ns) (hm : Tre.mayB ns = true) (i : Nat) (hi : i < ns.length) :
    Calls Tryz.prog 38 #[.agg #[v], .int .i64 (i : Int)] w fun e w' => e = .returned (.int .i64 (Tre.dep ns i : Int)) ∧ Below w.heap.size w w' := by
  obtain ⟨a, c, rfl⟩ := hv.form
  have hb0 : Below w.heap.size w (w.alloc (.cells #[.slice a ns.length c] 26)) := (Below.refl _ _).alloc (Nat.le_refl _) _
  have hh := heap_new w (.cells #[.slice a ns.length c] 26)
  have c0 := Lib.cell_of_heap hh 0
  have HV := hideT (hv.below hb0)
  have HUp : Hid (∀ i, i < ns.length → i ≠ 0 → 0 ≤ (Tre.ndAt ns i).up ∧ (Tre.ndAt ns i).up < (i : Int)) := fun i hi h0 => Tre.may_up hm hi h0
  have HB0 := hideT hb0
  have hl := ((Tre.mayB_iff ns).1 hm).1
  have hdl := Tre.dep_le ns i i
  clear hv hh hb0 hm
  go_enter Tryz.func38, Tryz.ntmps38
  go_wp2
  generalize (w.alloc (.cells #[.slice a ns.length c] 26)) = W at *
  go_loop [1, 5] (fun at_ n => ∃ j m : Nat, at_ = .int .i64 j ∧ n = .int .i64 m ∧ j < ns.length ∧ m ≤ 4096 ∧ j + m ≤ i ∧ Hid (Tre.dep ns j + m = Tre.dep ns i)) (fun at_ _ => (intOf at_).toNat)
  case atStart => exact ⟨i, 0, rfl, rfl, hi, by omega, by omega, rfl⟩
  case round =>
    obtain ⟨j, m, rfl, rfl, hj, hm, hjm, HD⟩ := hrel
    by_cases h0 : 0 < j
    · obtain ⟨bb, o, aa, ac, ka, kc, rfl, hc, hr⟩ := HV.out.at hj
      obtain ⟨hu0, hu1⟩ := HUp.out j hj (by omega)
      obtain ⟨u, hu⟩ : ∃ u : Nat, (Tre.ndAt ns j).up = (u : Int) := ⟨(Tre.ndAt ns j).up.toNat, by omega⟩
      have c4 := hr.c4
      rw [hu] at c4
      have HD2 : Hid (Tre.dep ns u + (m + 1) = Tre.dep ns i) := by
        have h1 := HD.out
        rw [Tre.dep_up HUp.out hj (by omega), hu, show ((u : Int)).toNat = u from by omega] at h1
        show _ = _
        omega
      have hq : (0 : Int) < (j : Int) := by omega
      have hul : u < j := by omega
      clear hu0 hu1 hr hu HD
      go_wp2
      go_round
      case rel => exact ⟨u, m + 1, rfl, by go_num, by omega, by omega, by omega, HD2⟩
      case measure => simp [intOf]; omega
    · have hj0 : j = 0 := by omega
      subst hj0
      have HX : Hid (Tre.dep ns i = m) := by
        have := HD.out
        rw [Tre.dep_zero] at this
        show _ = _
        omega
      go_wp2
      go_ret
      exact ⟨by rw [HX.out]; rfl, HB0.out⟩
set_option maxHeartbeats 2000000 in
set_option maxRecDepth 100000 in
theorem RDeep_any (ns : List Nd) (v : Value) (w : World) (hv : ReadsN w v ns) (hn : ns.length ≤ 140737488351232) (hat : ns.length ≤ 4096 → ∀ i, i < ns.length → (Tre.ndAt ns i).attrs.length ≤ 1000000 ∧ (Tre.ndAt ns i).kids.length ≤ 140737488351232) :
    Calls Tryz.prog 18 #[.agg #[v]] w fun e w' => e = .returned (.int .i64 (Tre.deepN ns : Int)) ∧ Below w.heap.size w w' := by
  obtain ⟨a, c, rfl⟩ := hv.form
  have hb0 : Below w.heap.size w (w.alloc (.cells #[.slice a ns.length c] 26)) := (Below.refl _ _).alloc (Nat.le_refl _) _
  have hh := heap_new w (.cells #[.slice a ns.length c] 26)
  have c0 := doc_one hh
  have hM := hideT (RMay_any ns _ _ (hv.below hb0) (by omega) (fun h => hat h))
  have HV := hideT (hv.below hb0)
  have HB0 := hideT hb0
  have hwW : w.heap.size < (w.alloc (.cells #[.slice a ns.length c] 26)).heap.size := by simp
  clear hv hh hat hb0
  cases hm : Tre.mayB ns
  · rw [hm] at hM
    have HX : Hid (Tre.deepN ns = 0) := by
      show _ = _
      unfold Tre.deepN
      rw [hm]
      rfl
    clear hm
    go_enter Tryz.func18, Tryz.ntmps18
    go_wp2_with (go_at_call 16; refine hM.out.mono ?_; rintro e w1 ⟨rfl, hb1⟩)
    go_ret
    exact ⟨by rw [HX.out]; rfl, bel HB0.out hb1⟩
  · rw [hm] at hM
    have HX : Hid (Tre.deepN ns = Tre.maxD ns ns.length) := by
      show _ = _
      unfold Tre.deepN
      rw [hm]
      rfl
    have hle := ((Tre.mayB_iff ns).1 hm).1
    have HMay := hideT hm
    clear hm
    go_enter Tryz.func18, Tryz.ntmps18
    go_wp2_with (first
      | (go_at_call 16; refine hM.out.mono ?_; rintro e w1 ⟨rfl, hb1⟩; have c01 := (hb1.cell (p := ⟨w.heap.size, 0, none⟩) hwW).trans c0; have HV1 := hideT (HV.out.below hb1); have HB1 := hideT (bel HB0.out hb1); have hwW1 := Nat.lt_of_lt_of_le hwW hb1.size; clear hb1))
    clear c0 HV hwW hM
    go_loopw [4, 3] (fun i m wr => ∃ k : Nat, i = .int .i64 k ∧ m = .int .i64 (Tre.maxD ns k : Int) ∧ k ≤ ns.length ∧ Tre.maxD ns k ≤ 4096 ∧ Hid (Below w1.heap.size w1 wr)) (fun i _ _ => ns.length - (intOf i).toNat)
    case atStart => exact ⟨0, rfl, rfl, Nat.zero_le _, Nat.zero_le _, Below.refl _ _⟩
    case round =>
      obtain ⟨k, rfl, rfl, hk2, hmx, HB⟩ := hrel
      have cw := (HB.out.cell (p := ⟨w.heap.size, 0, none⟩) hwW1).trans c01
      by_cases hlt : k < ns.length
      · have HA := hideT (RAbove_any ns _ _ (HV1.out.below HB.out) HMay.out k hlt)
        have hdl : Tre.dep ns k ≤ k := Tre.dep_le ns k k
        have HM : Hid (Tre.maxD ns (k + 1) = max (Tre.maxD ns k) (Tre.dep ns k)) := by
          show _ = _
          rw [Tre.maxD]
        generalize Tre.dep ns k = q at *
        generalize Tre.maxD ns k = m at *
        have HK := hideT hlt
        by_cases hmq : m ≤ q
        · have HM2 : Hid (Tre.maxD ns (k + 1) = q) := by
            show _ = _
            rw [HM.out]
            exact Nat.max_eq_right hmq
          have h1 : (m : Int) ≤ (q : Int) := by omega
          have h2 : ¬ ((q : Int) < (m : Int)) := by omega
          clear HM hmq
          go_wp2_with (go_at_call 38; refine HA.out.mono ?_; rintro e w2 ⟨rfl, hb2⟩; have HB2 := hideT (HB.out.trans (hb2.mono HB.out.size)); clear hb2)
          go_roundw
          case rel => exact ⟨k + 1, by go_num, by rw [HM2.out]; congr 1; omega, by have := HK.out; omega, by rw [HM2.out]; have := HK.out; omega, HB2⟩
          case measure => have := HK.out; simp [intOf]; omega
        · have HM2 : Hid (Tre.maxD ns (k + 1) = m) := by
            show _ = _
            rw [HM.out]
            exact Nat.max_eq_left (by omega)
          have h1 : ¬ ((m : Int) ≤ (q : Int)) := by omega
          have h2 : ((q : Int) < (m : Int)) := by omega
          clear HM hmq
          go_wp2_with (go_at_call 38; refine HA.out.mono ?_; rintro e w2 ⟨rfl, hb2⟩; have HB2 := hideT (HB.out.trans (hb2.mono HB.out.size)); clear hb2)
          go_roundw
          case rel => exact ⟨k + 1, by go_num, by rw [HM2.out]; congr 1; omega, by have := HK.out; omega, by rw [HM2.out]; omega, HB2⟩
          case measure => have := HK.out; simp [intOf]; omega
      · have hke : k = ns.length := by omega
        subst hke
        have HB2 := hideT (bel HB1.out HB.out)
        go_wp2
        go_ret
        exact ⟨by rw [HX.out]; rfl, HB2.out⟩
end Go.Proofs.YtiodaahncadodaaGreatDoor
