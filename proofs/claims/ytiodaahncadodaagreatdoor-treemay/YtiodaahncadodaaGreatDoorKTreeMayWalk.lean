/- The walk of the law TreeMay, out of the contracts (written by tools/mktremay.py). -/
import Derived.Test.YtiodaahncadodaaGreatDoorKTreFar
import Derived.Test.YtiodaahncadodaaGreatDoorKArgDoc
import Derived.Test.YtiodaahncadodaaGreatDoorKTrqD
import Derived.Test.YtiodaahncadodaaGreatDoorKTrqJE
set_option linter.unusedVariables false
set_option linter.unusedSimpArgs false
namespace Go.Proofs.YtiodaahncadodaaGreatDoor.treeMay
open Go.RowKit
theorem short {ns : List Nd} (h : Tre.farD ns = false) (hf : ∀ n ∈ ns, Tre.FitN n) : ns.length ≤ 4096 → ∀ i, i < ns.length → (Tre.ndAt ns i).attrs.length ≤ 1000000 ∧ (Tre.ndAt ns i).kids.length ≤ 140737488351232 := fun h4 i hi => by
  have := (Tre.farD_no h).1
  have h2 := (Tre.farD_no h).2 i hi (by omega)
  exact ⟨by omega, (Tre.fit_at hf hi).kids⟩
theorem wide {ns ms : List Nd} (hf : ∀ n ∈ ns, Tre.FitN n) (hg : ∀ n ∈ ms, Tre.FitN n) : ns.length = ms.length → ∀ i, i < ns.length → (Tre.ndAt ns i).attrs.length ≤ 140737488351232 ∧ (Tre.ndAt ms i).attrs.length ≤ 140737488351232 ∧ (Tre.ndAt ns i).kids.length ≤ 140737488351232 := fun e i hi =>
  ⟨(Tre.fit_at hf hi).ats, (Tre.fit_at hg (by omega)).ats, (Tre.fit_at hf hi).kids⟩
set_option maxHeartbeats 8000000 in
set_option maxRecDepth 100000 in
theorem walk (na : List Nd) (va : Value) (nb : List Nd) (vb : Value) (w : World) (h1 : ArgDoc w va na) (h2 : ArgDoc w vb nb) (hT : EnvT w) :
    Calls Tryz.prog 4 #[va, vb] w fun e w' => e = .returned (.bool true) ∧ Below w.heap.size w w' := by
  have HT : Hid (EnvT w) := hT
  clear hT
  obtain ⟨aa, ac, rfl, hra, hla, hfa⟩ := h1
  obtain ⟨ba, bc, rfl, hrb, hlb, hfb⟩ := h2
  have hb1 : Below w.heap.size w (w.alloc (.cells #[.slice aa na.length ac] 26)) := (Below.refl _ w).alloc (Nat.le_refl _) _
  have hc1 : Below (w.alloc (.cells #[.slice aa na.length ac] 26)).heap.size (w.alloc (.cells #[.slice aa na.length ac] 26)) ((w.alloc (.cells #[.slice aa na.length ac] 26)).alloc (.cells #[.slice ba nb.length bc] 26)) := (Below.refl _ _).alloc (Nat.le_refl _) _
  have hs1 : (w.alloc (.cells #[.slice aa na.length ac] 26)).heap.size = w.heap.size + 1 := by simp
  have hB2 : Below w.heap.size w ((w.alloc (.cells #[.slice aa na.length ac] 26)).alloc (.cells #[.slice ba nb.length bc] 26)) := bel hb1 hc1
  have cA0 := doc_one (heap_new w (.cells #[.slice aa na.length ac] 26))
  have cA : ((w.alloc (.cells #[.slice aa na.length ac] 26)).alloc (.cells #[.slice ba nb.length bc] 26)).cell? ⟨w.heap.size, 0, none⟩ = some (.slice aa na.length ac) := (hc1.cell (p := ⟨w.heap.size, 0, none⟩) (cell_lt cA0)).trans cA0
  have cB := doc_one (heap_new (w.alloc (.cells #[.slice aa na.length ac] 26)) (.cells #[.slice ba nb.length bc] 26))
  rw [hs1] at cB
  have lA := cell_lt cA
  have lB := cell_lt cB
  have FA := hideT (fun W (hB : Below w.heap.size w W) => far13_any na _ W (hra.below hB) hla)
  have FB := hideT (fun W (hB : Below w.heap.size w W) => far13_any nb _ W (hrb.below hB) hlb)
  clear cA0 hb1 hc1 hs1
  generalize hfA : Tre.farD na = fa at *
  generalize hfB : Tre.farD nb = fb at *
  cases fa with
  | true =>
    clear hfA hfB hra hrb hla hlb hfa hfb FB lA lB
    go_enter Tryz.func4, Tryz.ntmps4
    go_upto_region 1 with fail
    generalize ((w.alloc (.cells #[.slice aa na.length ac] 26)).alloc (.cells #[.slice ba nb.length bc] 26)) = w2 at *
    go_wp2_with (first
      | (go_at_call 14; refine (FA.out _ hB2).mono ?_; rintro e w3 ⟨rfl, hB3⟩; have HB3 := hideT (bel hB2 hB3); clear FA hB3 cA cB hB2)
      | (go_at_call 10; refine (alive13_any _ (HT.out.below HB3.out)).mono ?_; rintro e w9 ⟨rfl, hB9⟩; have HB9 := hideT (bel HB3.out hB9); clear hB9))
    go_ret
    exact ⟨rfl, HB9.out⟩
  | false =>
    cases fb with
    | true =>
      clear hfA hfB hra hrb hla hlb hfa hfb lA
      go_enter Tryz.func4, Tryz.ntmps4
      go_upto_region 1 with fail
      generalize ((w.alloc (.cells #[.slice aa na.length ac] 26)).alloc (.cells #[.slice ba nb.length bc] 26)) = w2 at *
      go_wp2_with (first
        | (go_at_call 14; refine (FA.out _ hB2).mono ?_; rintro e w3 ⟨rfl, hB3⟩; have hB4 := bel hB2 hB3; have cB4 := (hB3.cell (p := ⟨w.heap.size + 1, 0, none⟩) lB).trans cB; clear FA hB3 cA cB hB2 lB)
        | (go_at_call 14; refine (FB.out _ hB4).mono ?_; rintro e w5 ⟨rfl, hB5⟩; have HB3 := hideT (bel hB4 hB5); clear FB hB5 cB4 hB4)
        | (go_at_call 10; refine (alive13_any _ (HT.out.below HB3.out)).mono ?_; rintro e w9 ⟨rfl, hB9⟩; have HB9 := hideT (bel HB3.out hB9); clear hB9))
      go_ret
      exact ⟨rfl, HB9.out⟩
    | false =>
      have CM := hideT (fun W (hB : Below w.heap.size w W) => May_any na _ W (hra.below hB) hla (fun h i hi => (short hfA hfa h i hi).1))
      have CN := hideT (fun W (hB : Below w.heap.size w W) => RMay_any na _ W (hra.below hB) hla (short hfA hfa))
      have CD := hideT (fun W (hB : Below w.heap.size w W) => Deep_any na _ W (hra.below hB) hla (fun h i hi => (short hfA hfa h i hi).1))
      have CE := hideT (fun W (hB : Below w.heap.size w W) => RDeep_any na _ W (hra.below hB) hla (short hfA hfa))
      have CS := hideT (fun W (hB : Below w.heap.size w W) => TSame_any _ _ na nb W (hra.below hB) (hrb.below hB) hla hlb (wide hfa hfb))
      have CR := hideT (fun W (hB : Below w.heap.size w W) => RSame13_any _ _ na nb W (hra.below hB) (hrb.below hB) hla hlb (wide hfa hfb))
      have CO := hideT (fun W (hB : Below w.heap.size w W) => TSame_any _ _ na na W (hra.below hB) (hra.below hB) hla hla (wide hfa hfa))
      rw [Tre.sameL_self] at CO
      have CL := hideT (fun W (hB : Below w.heap.size w W) => alive13_any W (HT.out.below hB))
      generalize Tre.mayB na = mx at *
      generalize (Tre.deepN na : Int) = dx at *
      generalize Tre.sameL na nb = zx at *
      clear hfA hfB hra hrb hla hlb hfa hfb
      go_enter Tryz.func4, Tryz.ntmps4
      go_upto_region 1 with fail
      generalize ((w.alloc (.cells #[.slice aa na.length ac] 26)).alloc (.cells #[.slice ba nb.length bc] 26)) = w2 at *
      go_upto_region 3 with (first
        | (go_at_call 14; refine (FA.out _ hB2).mono ?_; rintro e w3 ⟨rfl, hB3⟩; have hB4 := bel hB2 hB3; have cA4 := (hB3.cell (p := ⟨w.heap.size, 0, none⟩) lA).trans cA; have cB4 := (hB3.cell (p := ⟨w.heap.size + 1, 0, none⟩) lB).trans cB; have lA4 := cell_lt cA4; have lB4 := cell_lt cB4; clear FA hB3 cA cB hB2 lA lB)
        | (go_at_call 14; refine (FB.out _ hB4).mono ?_; rintro e w5 ⟨rfl, hB5⟩; have hB6 := bel hB4 hB5; have cA6 := (hB5.cell (p := ⟨w.heap.size, 0, none⟩) lA4).trans cA4; have cB6 := (hB5.cell (p := ⟨w.heap.size + 1, 0, none⟩) lB4).trans cB4; clear FB hB5 cA4 cB4 hB4 lA4 lB4))
      obtain ⟨S, hS1⟩ : ∃ S : World → Prop, ∀ W, S W ↔ W.cell? ⟨w.heap.size, 0, none⟩ = some (.slice aa na.length ac) ∧ W.cell? ⟨w.heap.size + 1, 0, none⟩ = some (.slice ba nb.length bc) ∧ Below w.heap.size w W := ⟨_, fun _ => Iff.rfl⟩
      have step : ∀ W W', S W → Below W.heap.size W W' → S W' := fun W W' h hb => by
        obtain ⟨h1, h2, h3⟩ := (hS1 W).1 h
        exact (hS1 W').2 ⟨(hb.cell (p := ⟨w.heap.size, 0, none⟩) (cell_lt h1)).trans h1, (hb.cell (p := ⟨w.heap.size + 1, 0, none⟩) (cell_lt h2)).trans h2, bel h3 hb⟩
      refine wp_region_held_drew (S := S) (by kernel_rfl) (step _ _ ((hS1 _).2 ⟨cA6, cB6, hB6⟩) ((Below.refl _ _).drew)) (fun hS => ?_)
      clear cA6 cB6 hB6
      refine takeH12 0 12 (.agg #[.slice aa na.length ac]) rfl rfl (by kernel_rfl) (by kernel_rfl) (by kernel_rfl) (fun _ _ _ h => h) (Or.inl ⟨by kernel_rfl, fun W hW => by have hc := (((hS1 W).1 hW).1); go_simp⟩) hS ?_
      simp only [Act.put, List.setIfInBounds_toArray, List.set_cons_zero, List.set_cons_succ]
      refine takeH12 2 14 (.agg #[.slice aa na.length ac]) rfl rfl (by kernel_rfl) (by kernel_rfl) (by kernel_rfl) (fun _ _ _ h => h) (Or.inl ⟨by kernel_rfl, fun W hW => by have hc := (((hS1 W).1 hW).1); go_simp⟩) hS ?_
      simp only [Act.put, List.setIfInBounds_toArray, List.set_cons_zero, List.set_cons_succ]
      refine wpAnyH_ready (rs := [1]) (by kernel_rfl) (by simp) ?_
      refine AllReadyH.cons rfl (fun K hK => ?_) AllReadyH.nil
      go_simp
      refine (CM.out _ ((hS1 _).1 hS).2.2).mono ?_
      rintro e x1 ⟨rfl, hY⟩
      refine hK.out _ _ (step _ _ hS hY) (fun hS => ?_)
      clear hK K hY
      refine wpAnyH_ready (rs := [3]) (by kernel_rfl) (by simp) ?_
      refine AllReadyH.cons rfl (fun K hK => ?_) AllReadyH.nil
      go_simp
      refine (CN.out _ ((hS1 _).1 hS).2.2).mono ?_
      rintro e x2 ⟨rfl, hY⟩
      refine hK.out _ _ (step _ _ hS hY) (fun hS => ?_)
      clear hK K hY
      refine takeH12 4 16 (.bool true) rfl rfl (by kernel_rfl) (by kernel_rfl) (by kernel_rfl) (fun _ _ _ h => h) (Or.inl ⟨by kernel_rfl, fun W _ => by cases mx <;> go_simp⟩) hS ?_
      simp only [Act.put, List.setIfInBounds_toArray, List.set_cons_zero, List.set_cons_succ]
      refine takeH12 5 17 (.bool true) rfl rfl (by kernel_rfl) (by kernel_rfl) (by kernel_rfl) (fun _ _ _ h => h) (Or.inl ⟨by kernel_rfl, fun W _ => by go_simp⟩) hS ?_
      simp only [Act.put, List.setIfInBounds_toArray, List.set_cons_zero, List.set_cons_succ]
      refine takeH12 6 18 (.agg #[.slice aa na.length ac]) rfl rfl (by kernel_rfl) (by kernel_rfl) (by kernel_rfl) (fun _ _ _ h => h) (Or.inl ⟨by kernel_rfl, fun W hW => by have hc := (((hS1 W).1 hW).1); go_simp⟩) hS ?_
      simp only [Act.put, List.setIfInBounds_toArray, List.set_cons_zero, List.set_cons_succ]
      refine takeH12 8 20 (.agg #[.slice aa na.length ac]) rfl rfl (by kernel_rfl) (by kernel_rfl) (by kernel_rfl) (fun _ _ _ h => h) (Or.inl ⟨by kernel_rfl, fun W hW => by have hc := (((hS1 W).1 hW).1); go_simp⟩) hS ?_
      simp only [Act.put, List.setIfInBounds_toArray, List.set_cons_zero, List.set_cons_succ]
      refine wpAnyH_ready (rs := [7]) (by kernel_rfl) (by simp) ?_
      refine AllReadyH.cons rfl (fun K hK => ?_) AllReadyH.nil
      go_simp
      refine (CD.out _ ((hS1 _).1 hS).2.2).mono ?_
      rintro e x3 ⟨rfl, hY⟩
      refine hK.out _ _ (step _ _ hS hY) (fun hS => ?_)
      clear hK K hY
      refine wpAnyH_ready (rs := [9]) (by kernel_rfl) (by simp) ?_
      refine AllReadyH.cons rfl (fun K hK => ?_) AllReadyH.nil
      go_simp
      refine (CE.out _ ((hS1 _).1 hS).2.2).mono ?_
      rintro e x4 ⟨rfl, hY⟩
      refine hK.out _ _ (step _ _ hS hY) (fun hS => ?_)
      clear hK K hY
      refine takeH12 10 22 (.bool true) rfl rfl (by kernel_rfl) (by kernel_rfl) (by kernel_rfl) (fun _ _ _ h => h) (Or.inl ⟨by kernel_rfl, fun W _ => by go_simp⟩) hS ?_
      simp only [Act.put, List.setIfInBounds_toArray, List.set_cons_zero, List.set_cons_succ]
      refine takeH12 11 23 (.bool true) rfl rfl (by kernel_rfl) (by kernel_rfl) (by kernel_rfl) (fun _ _ _ h => h) (Or.inl ⟨by kernel_rfl, fun W _ => by go_simp⟩) hS ?_
      simp only [Act.put, List.setIfInBounds_toArray, List.set_cons_zero, List.set_cons_succ]
      refine takeH12 12 24 (.bool true) rfl rfl (by kernel_rfl) (by kernel_rfl) (by kernel_rfl) (fun _ _ _ h => h) (Or.inl ⟨by kernel_rfl, fun W _ => by go_simp⟩) hS ?_
      simp only [Act.put, List.setIfInBounds_toArray, List.set_cons_zero, List.set_cons_succ]
      refine takeH12 13 25 (.agg #[.slice aa na.length ac]) rfl rfl (by kernel_rfl) (by kernel_rfl) (by kernel_rfl) (fun _ _ _ h => h) (Or.inl ⟨by kernel_rfl, fun W hW => by have hc := (((hS1 W).1 hW).1); go_simp⟩) hS ?_
      simp only [Act.put, List.setIfInBounds_toArray, List.set_cons_zero, List.set_cons_succ]
      refine takeH12 14 26 (.agg #[.slice ba nb.length bc]) rfl rfl (by kernel_rfl) (by kernel_rfl) (by kernel_rfl) (fun _ _ _ h => h) (Or.inl ⟨by kernel_rfl, fun W hW => by have hc := (((hS1 W).1 hW).2.1); go_simp⟩) hS ?_
      simp only [Act.put, List.setIfInBounds_toArray, List.set_cons_zero, List.set_cons_succ]
      refine takeH12 16 28 (.agg #[.slice aa na.length ac]) rfl rfl (by kernel_rfl) (by kernel_rfl) (by kernel_rfl) (fun _ _ _ h => h) (Or.inl ⟨by kernel_rfl, fun W hW => by have hc := (((hS1 W).1 hW).1); go_simp⟩) hS ?_
      simp only [Act.put, List.setIfInBounds_toArray, List.set_cons_zero, List.set_cons_succ]
      refine takeH12 17 29 (.agg #[.slice ba nb.length bc]) rfl rfl (by kernel_rfl) (by kernel_rfl) (by kernel_rfl) (fun _ _ _ h => h) (Or.inl ⟨by kernel_rfl, fun W hW => by have hc := (((hS1 W).1 hW).2.1); go_simp⟩) hS ?_
      simp only [Act.put, List.setIfInBounds_toArray, List.set_cons_zero, List.set_cons_succ]
      refine wpAnyH_ready (rs := [15]) (by kernel_rfl) (by simp) ?_
      refine AllReadyH.cons rfl (fun K hK => ?_) AllReadyH.nil
      go_simp
      refine (CS.out _ ((hS1 _).1 hS).2.2).mono ?_
      rintro e x5 ⟨rfl, hY⟩
      refine hK.out _ _ (step _ _ hS hY) (fun hS => ?_)
      clear hK K hY
      refine wpAnyH_ready (rs := [18]) (by kernel_rfl) (by simp) ?_
      refine AllReadyH.cons rfl (fun K hK => ?_) AllReadyH.nil
      go_simp
      refine (CR.out _ ((hS1 _).1 hS).2.2).mono ?_
      rintro e x6 ⟨rfl, hY⟩
      refine hK.out _ _ (step _ _ hS hY) (fun hS => ?_)
      clear hK K hY
      refine takeH12 19 31 (.bool true) rfl rfl (by kernel_rfl) (by kernel_rfl) (by kernel_rfl) (fun _ _ _ h => h) (Or.inl ⟨by kernel_rfl, fun W _ => by cases zx <;> go_simp⟩) hS ?_
      simp only [Act.put, List.setIfInBounds_toArray, List.set_cons_zero, List.set_cons_succ]
      refine takeH12 20 32 (.bool true) rfl rfl (by kernel_rfl) (by kernel_rfl) (by kernel_rfl) (fun _ _ _ h => h) (Or.inl ⟨by kernel_rfl, fun W _ => by go_simp⟩) hS ?_
      simp only [Act.put, List.setIfInBounds_toArray, List.set_cons_zero, List.set_cons_succ]
      refine takeH12 21 33 (.bool true) rfl rfl (by kernel_rfl) (by kernel_rfl) (by kernel_rfl) (fun _ _ _ h => h) (Or.inl ⟨by kernel_rfl, fun W _ => by go_simp⟩) hS ?_
      simp only [Act.put, List.setIfInBounds_toArray, List.set_cons_zero, List.set_cons_succ]
      refine takeH12 22 34 (.agg #[.slice aa na.length ac]) rfl rfl (by kernel_rfl) (by kernel_rfl) (by kernel_rfl) (fun _ _ _ h => h) (Or.inl ⟨by kernel_rfl, fun W hW => by have hc := (((hS1 W).1 hW).1); go_simp⟩) hS ?_
      simp only [Act.put, List.setIfInBounds_toArray, List.set_cons_zero, List.set_cons_succ]
      refine takeH12 23 35 (.agg #[.slice aa na.length ac]) rfl rfl (by kernel_rfl) (by kernel_rfl) (by kernel_rfl) (fun _ _ _ h => h) (Or.inl ⟨by kernel_rfl, fun W hW => by have hc := (((hS1 W).1 hW).1); go_simp⟩) hS ?_
      simp only [Act.put, List.setIfInBounds_toArray, List.set_cons_zero, List.set_cons_succ]
      refine wpAnyH_ready (rs := [24]) (by kernel_rfl) (by simp) ?_
      refine AllReadyH.cons rfl (fun K hK => ?_) AllReadyH.nil
      go_simp
      refine (CO.out _ ((hS1 _).1 hS).2.2).mono ?_
      rintro e x7 ⟨rfl, hY⟩
      refine hK.out _ _ (step _ _ hS hY) (fun hS => ?_)
      clear hK K hY
      refine takeH12 25 37 (.bool true) rfl rfl (by kernel_rfl) (by kernel_rfl) (by kernel_rfl) (fun _ _ _ h => h) (Or.inl ⟨by kernel_rfl, fun W _ => by go_simp⟩) hS ?_
      simp only [Act.put, List.setIfInBounds_toArray, List.set_cons_zero, List.set_cons_succ]
      refine takeH12 26 38 (.bool true) rfl rfl (by kernel_rfl) (by kernel_rfl) (by kernel_rfl) (fun _ _ _ h => h) (Or.inl ⟨by kernel_rfl, fun W _ => by go_simp⟩) hS ?_
      simp only [Act.put, List.setIfInBounds_toArray, List.set_cons_zero, List.set_cons_succ]
      refine wpAnyH_ready (rs := [27]) (by kernel_rfl) (by simp) ?_
      refine AllReadyH.cons rfl (fun K hK => ?_) AllReadyH.nil
      go_simp
      refine (CL.out _ ((hS1 _).1 hS).2.2).mono ?_
      rintro e x8 ⟨rfl, hY⟩
      refine hK.out _ _ (step _ _ hS hY) (fun hS => ?_)
      clear hK K hY
      refine takeH12 28 40 (.bool true) rfl rfl (by kernel_rfl) (by kernel_rfl) (by kernel_rfl) (fun _ _ _ h => h) (Or.inl ⟨by kernel_rfl, fun W _ => by go_simp⟩) hS ?_
      simp only [Act.put, List.setIfInBounds_toArray, List.set_cons_zero, List.set_cons_succ]
      refine takeH12 29 4 (.bool true) rfl rfl (by kernel_rfl) (by kernel_rfl) (by kernel_rfl) (fun _ _ _ h => h) (Or.inl ⟨by kernel_rfl, fun W _ => by go_simp⟩) hS ?_
      simp only [Act.put, List.setIfInBounds_toArray, List.set_cons_zero, List.set_cons_succ]
      refine wpAnyH_done (by kernel_rfl) ?_ _
      have hfin := ((hS1 _).1 hS).2.2
      go_wp2
      go_ret
      exact ⟨rfl, hfin⟩
end Go.Proofs.YtiodaahncadodaaGreatDoor.treeMay
