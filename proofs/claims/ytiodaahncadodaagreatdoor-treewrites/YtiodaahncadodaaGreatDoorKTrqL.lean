/- The contract of the reference's Write. -/
import Derived.Test.YtiodaahncadodaaGreatDoorKTrqK
import Derived.Test.YtiodaahncadodaaGreatDoorKArgDoc
set_option linter.unusedVariables false
set_option linter.unusedSimpArgs false
namespace Go.Proofs.YtiodaahncadodaaGreatDoor
open Go.RowKit
theorem far_inner {ns : List Nd} (h : Tre.farD ns = false) (hm : Tre.mayB ns = true) {i : Nat} (hi : i < ns.length) (hk : (Tre.ndAt ns i).kind ≠ 3) : (Tre.innerT ns i).length ≤ 10000000000000 := by
  have h1 := far_text h hm i hi
  rw [Tre.node_elem hm hi hk] at h1
  simp only [List.length_append] at h1
  omega
theorem Rwrites_any {ns : List Nd} {w0 : World} {a0 : Option Addr} {c0 : Nat} (hns : ReadsN w0 (.slice a0 ns.length c0) ns) (hm : Tre.mayB ns = true) (hfar : Tre.farD ns = false) :
    ∀ f i, i < ns.length → ns.length - i ≤ f → RNodeC ns w0 (.slice a0 ns.length c0) i ∧ ((Tre.ndAt ns i).kind ≠ 3 → RInnerC ns w0 (.slice a0 ns.length c0) i) := by
  intro f
  induction f with
  | zero => intro i hi hf; omega
  | succ f ih =>
    intro i hi hf
    have hk : (Tre.ndAt ns i).kind ≠ 3 → RInnerC ns w0 (.slice a0 ns.length c0) i := fun h3 => Rinner_any hns hm hi (far_inner hfar hm hi h3) (fun k hik hkn => (ih k hkn (by omega)).1)
    exact ⟨Rnode_any hns hm hi (far_text hfar hm i hi) (by have := (far_least hfar hm hi).1; omega) hk, hk⟩
set_option maxHeartbeats 4000000 in
set_option maxRecDepth 100000 in
theorem RWrite_any (ns : List Nd) (v : Value) (w : World) (hv : ReadsN w v ns) (hn : ns.length ≤ 140737488351232) (hf : ∀ n ∈ ns, Tre.FitN n) (hfar : Tre.farD ns = false) (at_ : Int) :
    Calls Tryz.prog 21 #[.agg #[v], .int .i64 at_] w (WritePost w (Tre.writeR ns at_)) := by
  obtain ⟨a, c, rfl⟩ := hv.form
  have hb0 : Below w.heap.size w (w.alloc (.cells #[.slice a ns.length c] 26)) := (Below.refl _ _).alloc (Nat.le_refl _) _
  have cc0 := doc_one (heap_new w (.cells #[.slice a ns.length c] 26))
  have hat : ns.length ≤ 4096 → ∀ i, i < ns.length → (Tre.ndAt ns i).attrs.length ≤ 1000000 ∧ (Tre.ndAt ns i).kids.length ≤ 140737488351232 := fun h4 i hi => by
    have := (Tre.farD_no hfar).1
    have h2 := (Tre.farD_no hfar).2 i hi (by omega)
    exact ⟨by omega, (Tre.fit_at hf hi).kids⟩
  have HM := hideT (RMay_any ns _ _ (hv.below hb0) (by omega) hat)
  have HB0 := hideT hb0
  have lc := cell_lt cc0
  cases hm : Tre.mayB ns
  · have HX : Hid (Tre.writeR ns at_ = ([], 5)) := if_neg (fun h => by rw [hm] at h; cases h.1)
    rw [hm] at HM
    clear hm hv hb0 hat hf hfar lc
    go_enter Tryz.func21, Tryz.ntmps21
    go_wp2_with (go_at_call 16; refine HM.out.mono ?_; rintro e w1 ⟨rfl, b1⟩; have HQ := hideT (bel HB0.out b1); clear b1)
    go_ret2
    exact ⟨by rw [HX.out]; rfl, HQ.out⟩
  · rw [hm] at HM
    by_cases h1 : at_ < 0
    · have HX : Hid (Tre.writeR ns at_ = ([], 5)) := if_neg (fun h => by omega)
      clear hm hv hb0 hat hf hfar lc
      go_enter Tryz.func21, Tryz.ntmps21
      go_wp2_with (go_at_call 16; refine HM.out.mono ?_; rintro e w1 ⟨rfl, b1⟩; have HQ := hideT (bel HB0.out b1); clear b1)
      go_ret2
      exact ⟨by rw [HX.out]; rfl, HQ.out⟩
    by_cases h2 : (ns.length : Int) ≤ at_
    · have HX : Hid (Tre.writeR ns at_ = ([], 5)) := if_neg (fun h => by omega)
      clear hm hv hb0 hat hf hfar
      go_enter Tryz.func21, Tryz.ntmps21
      go_wp2_with (go_at_call 16; refine HM.out.mono ?_; rintro e w1 ⟨rfl, b1⟩; have cc1 := (b1.cell (p := ⟨w.heap.size, 0, none⟩) lc).trans cc0; have HQ := hideT (bel HB0.out b1); clear b1)
      go_ret2
      exact ⟨by rw [HX.out]; rfl, HQ.out⟩
    obtain ⟨i, rfl⟩ : ∃ i : Nat, at_ = (i : Int) := ⟨at_.toNat, by omega⟩
    have hi : i < ns.length := by omega
    have hX : Tre.writeR ns (i : Int) = if (Tre.textAt ns i).length ≤ 262144 then (Tre.textAt ns i, 0) else ([], 5) := by
      unfold Tre.writeR
      rw [if_pos ⟨hm, by omega, by omega⟩, Int.toNat_natCast]
    have hW := Rwrites_any (hv.below hb0) hm hfar ns.length i hi (by omega)
    obtain ⟨g, o, aa, ac, ka, kc, rfl, hcc, hr⟩ := (hv.below hb0).at hi
    have HR := hideT hr
    by_cases hk3 : (Tre.ndAt ns i).kind = 3
    · have hT : Tre.textAt ns i = Tre.nodeT ns i := if_pos hk3
      have HN := hideT (fun W h => hW.1 W h)
      rw [hT] at hX
      have k3 : ((Tre.ndAt ns i).kind == 3) = true := by rw [hk3]; rfl
      have hlen := far_text hfar hm i hi
      clear hm hv hb0 hat hf hfar hr hk3 hT hW
      generalize Tre.nodeT ns i = tx at *
      have s1 := str_size tx
      by_cases hl : tx.length ≤ 262144
      · rw [if_pos hl] at hX
        have HX := hideT hX
        have hli : ¬ (262144 : Int) < (tx.length : Int) := by omega
        clear hX hl
        go_enter Tryz.func21, Tryz.ntmps21
        go_wp2_with (first
          | (go_at_call 16; refine HM.out.mono ?_; rintro e w1 ⟨rfl, b1⟩; have cc1 := (b1.cell (p := ⟨w.heap.size, 0, none⟩) lc).trans cc0; have r1 := (HR.out.below b1).c0; have HQ0 := hideT b1; have HQ := hideT (bel HB0.out b1); clear b1)
          | (go_at_call 44; refine (HN.out _ HQ0.out).mono ?_; rintro e w2 ⟨rfl, b2⟩; have HQ2 := hideT (bel HQ.out b2); clear b2))
        go_ret2
        exact ⟨by rw [HX.out]; rfl, HQ2.out⟩
      · rw [if_neg hl] at hX
        have HX := hideT hX
        have hli : (262144 : Int) < (tx.length : Int) := by omega
        clear hX hl
        go_enter Tryz.func21, Tryz.ntmps21
        go_wp2_with (first
          | (go_at_call 16; refine HM.out.mono ?_; rintro e w1 ⟨rfl, b1⟩; have cc1 := (b1.cell (p := ⟨w.heap.size, 0, none⟩) lc).trans cc0; have r1 := (HR.out.below b1).c0; have HQ0 := hideT b1; have HQ := hideT (bel HB0.out b1); clear b1)
          | (go_at_call 44; refine (HN.out _ HQ0.out).mono ?_; rintro e w2 ⟨rfl, b2⟩; have HQ2 := hideT (bel HQ.out b2); clear b2))
        go_ret2
        exact ⟨by rw [HX.out]; rfl, HQ2.out⟩
    · have hT : Tre.textAt ns i = Tre.innerT ns i := if_neg hk3
      have HN := hideT (fun W h => hW.2 hk3 W h)
      rw [hT] at hX
      have k3 : ((Tre.ndAt ns i).kind == 3) = false := beq_eq_false_iff_ne.2 hk3
      have hlen := far_inner hfar hm hi hk3
      clear hm hv hb0 hat hf hfar hr hk3 hT hW
      generalize Tre.innerT ns i = tx at *
      have s1 := str_size tx
      by_cases hl : tx.length ≤ 262144
      · rw [if_pos hl] at hX
        have HX := hideT hX
        have hli : ¬ (262144 : Int) < (tx.length : Int) := by omega
        clear hX hl
        go_enter Tryz.func21, Tryz.ntmps21
        go_wp2_with (first
          | (go_at_call 16; refine HM.out.mono ?_; rintro e w1 ⟨rfl, b1⟩; have cc1 := (b1.cell (p := ⟨w.heap.size, 0, none⟩) lc).trans cc0; have r1 := (HR.out.below b1).c0; have HQ0 := hideT b1; have HQ := hideT (bel HB0.out b1); clear b1)
          | (go_at_call 45; refine (HN.out _ HQ0.out).mono ?_; rintro e w2 ⟨rfl, b2⟩; have HQ2 := hideT (bel HQ.out b2); clear b2))
        go_ret2
        exact ⟨by rw [HX.out]; rfl, HQ2.out⟩
      · rw [if_neg hl] at hX
        have HX := hideT hX
        have hli : (262144 : Int) < (tx.length : Int) := by omega
        clear hX hl
        go_enter Tryz.func21, Tryz.ntmps21
        go_wp2_with (first
          | (go_at_call 16; refine HM.out.mono ?_; rintro e w1 ⟨rfl, b1⟩; have cc1 := (b1.cell (p := ⟨w.heap.size, 0, none⟩) lc).trans cc0; have r1 := (HR.out.below b1).c0; have HQ0 := hideT b1; have HQ := hideT (bel HB0.out b1); clear b1)
          | (go_at_call 45; refine (HN.out _ HQ0.out).mono ?_; rintro e w2 ⟨rfl, b2⟩; have HQ2 := hideT (bel HQ.out b2); clear b2))
        go_ret2
        exact ⟨by rw [HX.out]; rfl, HQ2.out⟩
end Go.Proofs.YtiodaahncadodaaGreatDoor
