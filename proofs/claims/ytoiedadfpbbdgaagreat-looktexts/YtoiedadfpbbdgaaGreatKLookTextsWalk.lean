/- The walk of the law LookTexts, out of the contracts (written by tools/mklktexts.py). -/
import Derived.Test.YtoiedadfpbbdgaaGreatKLkT
import Derived.Test.YtoiedadfpbbdgaaGreatKLkW
import Derived.Test.YtoiedadfpbbdgaaGreatKArgDoc
import Derived.Test.YtoiedadfpbbdgaaGreatKTrqKL
set_option linter.unusedVariables false
set_option linter.unusedSimpArgs false
namespace Go.Proofs.YtoiedadfpbbdgaaGreat
theorem farD_of {ns : List Nd} (h : Lk.farL 3000 200 ns = false) : Tre.farD ns = false := by
  obtain ⟨h1, h2, h3⟩ := Lk.farL_no h
  have hat : ∀ n ∈ ns, n.attrs.length ≤ 100 := fun n hn => by
    obtain ⟨i, hi⟩ := List.getElem?_of_mem hn
    have hl : i < ns.length := (List.getElem?_eq_some_iff.1 hi).1
    have := h3 i hl
    rwa [Tre.ndAt_some hi] at this
  have hw : ∀ n ∈ ns, Tre.wNd n = Lk.wNd 3000 n := fun n hn => by
    unfold Tre.wNd Lk.wNd
    have : Tre.aTo n.attrs 100 = Lk.aTo 3000 n.attrs n.attrs.length := by
      unfold Tre.aTo Lk.aTo
      rw [List.take_of_length_le (hat n hn), List.take_of_length_le (Nat.le_refl _)]
      rfl
    rw [this]
  have hn : Tre.nTo ns 200 = Lk.nTo 3000 ns ns.length := by
    unfold Tre.nTo Lk.nTo
    rw [List.take_of_length_le h1, List.take_of_length_le (Nat.le_refl _)]
    congr 1
    exact List.map_congr_left hw
  unfold Tre.farD
  rw [Bool.or_eq_false_iff, Bool.or_eq_false_iff]
  refine ⟨?_, decide_eq_false (by omega), ?_⟩
  · rw [List.any_eq_false]
    intro n hn2
    have := hat n (List.mem_of_mem_take hn2)
    simp only [decide_eq_true_eq]
    omega
  · rw [Bool.and_eq_false_iff]
    exact Or.inl (decide_eq_false (by omega))
end Go.Proofs.YtoiedadfpbbdgaaGreat
namespace Go.Proofs.YtoiedadfpbbdgaaGreat.lookTexts
open Go.RowKit
set_option maxHeartbeats 8000000 in
set_option maxRecDepth 100000 in
theorem walk (na : List Nd) (va : Value) (at_ : Int) (w : World) (h1 : ArgDoc w va na) (h2 : (Lit.int .i64 at_).wf = true) :
    Calls Tryz.prog 3 #[va, .int .i64 at_] w fun e w' => e = .returned (.bool true) ∧ Below w.heap.size w w' := by
  clear h2
  obtain ⟨aa, ac, rfl, hra, hla, hfa⟩ := h1
  have hb0 : Below w.heap.size w (w.alloc (.cells #[.slice aa na.length ac] 24)) := (Below.refl _ _).alloc (Nat.le_refl _) _
  have cc0 := doc_cell (heap_new w (.cells #[.slice aa na.length ac] 24))
  have lc := cell_lt cc0
  have HB0 := hideT hb0
  have FA := hideT (far14_any na _ _ (hra.below hb0) hla)
  generalize hfA : Lk.farL 3000 200 na = fa at *
  cases fa with
  | true =>
    clear hfA hra hla hfa hb0 lc
    go_enter Tryz.func3, Tryz.ntmps3
    go_wp2_with (first
      | (go_at_call 4; refine FA.out.mono ?_; rintro e w3 ⟨rfl, hB3⟩; have HB3 := hideT (bel HB0.out hB3); clear hB3)
      | (go_at_call 5; refine (alive14_any _).mono ?_; rintro e w9 ⟨rfl, hB9⟩; have HB9 := hideT (bel HB3.out hB9); clear hB9))
    go_ret
    exact ⟨rfl, HB9.out⟩
  | false =>
    have hf := fair_of hla (by decide) (by decide) (by decide) hfA
    have hd := farD_of hfA
    have hk : na.length ≤ 4096 → ∀ i, i < na.length → (Tre.ndAt na i).kids.length ≤ 140737488351232 := fun _ i hi => (Tre.fit_at hfa hi).kids
    have CT := hideT (fun W (h : Below w.heap.size w W) => Text14_any na _ at_ W (hra.below h) hf)
    have CU := hideT (fun W (h : Below w.heap.size w W) => RText14_any na _ at_ W (hra.below h) hf hk)
    have CP := hideT (fun W (h : Below w.heap.size w W) => Plain14_any na _ at_ W (hra.below h) hf)
    have CQ := hideT (fun W (h : Below w.heap.size w W) => RPlain14_any na _ at_ W (hra.below h) hf hk)
    have CH := hideT (fun W (h : Below w.heap.size w W) => HTML14_any na _ at_ W (hra.below h) hla hf.ats (far_few hd))
    have CI := hideT (fun W (h : Below w.heap.size w W) => RHTML14_any na _ at_ W (hra.below h) hla hfa hd)
    have CL := hideT (fun W (h : Below w.heap.size w W) => alive14_any W)
    generalize Lk.textR na at_ = tx at *
    generalize Lk.plainR na at_ = px at *
    generalize Lk.htmlR na at_ = hx at *
    clear hfA hra hla hfa hb0 hf hd hk
    go_enter Tryz.func3, Tryz.ntmps3
    go_upto_region 1 with fail
    generalize (w.alloc (.cells #[.slice aa na.length ac] 24)) = w1 at *
    go_upto_region 3 with (go_at_call 4; refine FA.out.mono ?_; rintro e w3 ⟨rfl, hB3⟩; have HB3 := hideT (bel HB0.out hB3); have cc3 := (hB3.cell (p := ⟨w.heap.size, 0, none⟩) lc).trans cc0; clear hB3 cc0)
    obtain ⟨S, hS1⟩ : ∃ S : World → Prop, ∀ W, S W ↔ W.cell? ⟨w.heap.size, 0, none⟩ = some (.slice aa na.length ac) ∧ Below w.heap.size w W := ⟨_, fun _ => Iff.rfl⟩
    have step : ∀ W W', S W → Below W.heap.size W W' → S W' := fun W W' h hb => by
      obtain ⟨h1, h2⟩ := (hS1 W).1 h
      exact (hS1 W').2 ⟨(hb.cell (p := ⟨w.heap.size, 0, none⟩) (cell_lt h1)).trans h1, bel h2 hb⟩
    refine wp_region_held_drew (S := S) (by kernel_rfl) (step _ _ ((hS1 _).2 ⟨cc3, HB3.out⟩) ((Below.refl _ _).drew)) (fun hS => ?_)
    clear cc3
    refine takeH12 0 8 (.agg #[.slice aa na.length ac]) rfl rfl (by kernel_rfl) (by kernel_rfl) (by kernel_rfl) (fun _ _ _ h => h) (Or.inl ⟨by kernel_rfl, fun W hW => by have hc := (((hS1 W).1 hW).1); go_simp⟩) hS ?_
    simp only [Act.put, List.setIfInBounds_toArray, List.set_cons_zero, List.set_cons_succ]
    refine takeH12 1 9 (.int .i64 at_) rfl rfl (by kernel_rfl) (by kernel_rfl) (by kernel_rfl) (fun _ _ _ h => h) (Or.inl ⟨by kernel_rfl, fun W _ => by go_simp⟩) hS ?_
    simp only [Act.put, List.setIfInBounds_toArray, List.set_cons_zero, List.set_cons_succ]
    refine takeH12 3 11 (.agg #[.slice aa na.length ac]) rfl rfl (by kernel_rfl) (by kernel_rfl) (by kernel_rfl) (fun _ _ _ h => h) (Or.inl ⟨by kernel_rfl, fun W hW => by have hc := (((hS1 W).1 hW).1); go_simp⟩) hS ?_
    simp only [Act.put, List.setIfInBounds_toArray, List.set_cons_zero, List.set_cons_succ]
    refine takeH12 4 12 (.int .i64 at_) rfl rfl (by kernel_rfl) (by kernel_rfl) (by kernel_rfl) (fun _ _ _ h => h) (Or.inl ⟨by kernel_rfl, fun W _ => by go_simp⟩) hS ?_
    simp only [Act.put, List.setIfInBounds_toArray, List.set_cons_zero, List.set_cons_succ]
    refine wpAnyH_ready (rs := [2]) (by kernel_rfl) (by simp) ?_
    refine AllReadyH.cons rfl (fun K hK => ?_) AllReadyH.nil
    go_simp
    refine (CT.out _ ((hS1 _).1 hS).2).mono ?_
    rintro e x1 ⟨rfl, hY⟩
    refine hK.out _ _ (step _ _ hS hY) (fun hS => ?_)
    clear hK K hY
    refine wpAnyH_ready (rs := [5]) (by kernel_rfl) (by simp) ?_
    refine AllReadyH.cons rfl (fun K hK => ?_) AllReadyH.nil
    go_simp
    refine (CU.out _ ((hS1 _).1 hS).2).mono ?_
    rintro e x2 ⟨rfl, hY⟩
    refine hK.out _ _ (step _ _ hS hY) (fun hS => ?_)
    clear hK K hY
    refine takeH12 6 14 (.bool true) rfl rfl (by kernel_rfl) (by kernel_rfl) (by kernel_rfl) (fun _ _ _ h => h) (Or.inl ⟨by kernel_rfl, fun W _ => by go_simp⟩) hS ?_
    simp only [Act.put, List.setIfInBounds_toArray, List.set_cons_zero, List.set_cons_succ]
    refine takeH12 7 15 (.bool true) rfl rfl (by kernel_rfl) (by kernel_rfl) (by kernel_rfl) (fun _ _ _ h => h) (Or.inl ⟨by kernel_rfl, fun W _ => by go_simp⟩) hS ?_
    simp only [Act.put, List.setIfInBounds_toArray, List.set_cons_zero, List.set_cons_succ]
    refine takeH12 8 16 (.agg #[.slice aa na.length ac]) rfl rfl (by kernel_rfl) (by kernel_rfl) (by kernel_rfl) (fun _ _ _ h => h) (Or.inl ⟨by kernel_rfl, fun W hW => by have hc := (((hS1 W).1 hW).1); go_simp⟩) hS ?_
    simp only [Act.put, List.setIfInBounds_toArray, List.set_cons_zero, List.set_cons_succ]
    refine takeH12 9 17 (.int .i64 at_) rfl rfl (by kernel_rfl) (by kernel_rfl) (by kernel_rfl) (fun _ _ _ h => h) (Or.inl ⟨by kernel_rfl, fun W _ => by go_simp⟩) hS ?_
    simp only [Act.put, List.setIfInBounds_toArray, List.set_cons_zero, List.set_cons_succ]
    refine takeH12 11 19 (.agg #[.slice aa na.length ac]) rfl rfl (by kernel_rfl) (by kernel_rfl) (by kernel_rfl) (fun _ _ _ h => h) (Or.inl ⟨by kernel_rfl, fun W hW => by have hc := (((hS1 W).1 hW).1); go_simp⟩) hS ?_
    simp only [Act.put, List.setIfInBounds_toArray, List.set_cons_zero, List.set_cons_succ]
    refine takeH12 12 20 (.int .i64 at_) rfl rfl (by kernel_rfl) (by kernel_rfl) (by kernel_rfl) (fun _ _ _ h => h) (Or.inl ⟨by kernel_rfl, fun W _ => by go_simp⟩) hS ?_
    simp only [Act.put, List.setIfInBounds_toArray, List.set_cons_zero, List.set_cons_succ]
    refine wpAnyH_ready (rs := [10]) (by kernel_rfl) (by simp) ?_
    refine AllReadyH.cons rfl (fun K hK => ?_) AllReadyH.nil
    go_simp
    refine (CP.out _ ((hS1 _).1 hS).2).mono ?_
    rintro e x3 ⟨rfl, hY⟩
    refine hK.out _ _ (step _ _ hS hY) (fun hS => ?_)
    clear hK K hY
    refine wpAnyH_ready (rs := [13]) (by kernel_rfl) (by simp) ?_
    refine AllReadyH.cons rfl (fun K hK => ?_) AllReadyH.nil
    go_simp
    refine (CQ.out _ ((hS1 _).1 hS).2).mono ?_
    rintro e x4 ⟨rfl, hY⟩
    refine hK.out _ _ (step _ _ hS hY) (fun hS => ?_)
    clear hK K hY
    refine takeH12 14 22 (.bool true) rfl rfl (by kernel_rfl) (by kernel_rfl) (by kernel_rfl) (fun _ _ _ h => h) (Or.inl ⟨by kernel_rfl, fun W _ => by go_simp⟩) hS ?_
    simp only [Act.put, List.setIfInBounds_toArray, List.set_cons_zero, List.set_cons_succ]
    refine takeH12 15 23 (.bool true) rfl rfl (by kernel_rfl) (by kernel_rfl) (by kernel_rfl) (fun _ _ _ h => h) (Or.inl ⟨by kernel_rfl, fun W _ => by go_simp⟩) hS ?_
    simp only [Act.put, List.setIfInBounds_toArray, List.set_cons_zero, List.set_cons_succ]
    refine takeH12 16 24 (.bool true) rfl rfl (by kernel_rfl) (by kernel_rfl) (by kernel_rfl) (fun _ _ _ h => h) (Or.inl ⟨by kernel_rfl, fun W _ => by go_simp⟩) hS ?_
    simp only [Act.put, List.setIfInBounds_toArray, List.set_cons_zero, List.set_cons_succ]
    refine takeH12 17 25 (.agg #[.slice aa na.length ac]) rfl rfl (by kernel_rfl) (by kernel_rfl) (by kernel_rfl) (fun _ _ _ h => h) (Or.inl ⟨by kernel_rfl, fun W hW => by have hc := (((hS1 W).1 hW).1); go_simp⟩) hS ?_
    simp only [Act.put, List.setIfInBounds_toArray, List.set_cons_zero, List.set_cons_succ]
    refine takeH12 18 26 (.int .i64 at_) rfl rfl (by kernel_rfl) (by kernel_rfl) (by kernel_rfl) (fun _ _ _ h => h) (Or.inl ⟨by kernel_rfl, fun W _ => by go_simp⟩) hS ?_
    simp only [Act.put, List.setIfInBounds_toArray, List.set_cons_zero, List.set_cons_succ]
    refine takeH12 20 28 (.agg #[.slice aa na.length ac]) rfl rfl (by kernel_rfl) (by kernel_rfl) (by kernel_rfl) (fun _ _ _ h => h) (Or.inl ⟨by kernel_rfl, fun W hW => by have hc := (((hS1 W).1 hW).1); go_simp⟩) hS ?_
    simp only [Act.put, List.setIfInBounds_toArray, List.set_cons_zero, List.set_cons_succ]
    refine takeH12 21 29 (.int .i64 at_) rfl rfl (by kernel_rfl) (by kernel_rfl) (by kernel_rfl) (fun _ _ _ h => h) (Or.inl ⟨by kernel_rfl, fun W _ => by go_simp⟩) hS ?_
    simp only [Act.put, List.setIfInBounds_toArray, List.set_cons_zero, List.set_cons_succ]
    refine wpAnyH_ready (rs := [19]) (by kernel_rfl) (by simp) ?_
    refine AllReadyH.cons rfl (fun K hK => ?_) AllReadyH.nil
    go_simp
    refine (CH.out _ ((hS1 _).1 hS).2).mono ?_
    rintro e x5 ⟨rfl, hY⟩
    refine hK.out _ _ (step _ _ hS hY) (fun hS => ?_)
    clear hK K hY
    refine wpAnyH_ready (rs := [22]) (by kernel_rfl) (by simp) ?_
    refine AllReadyH.cons rfl (fun K hK => ?_) AllReadyH.nil
    go_simp
    refine (CI.out _ ((hS1 _).1 hS).2).mono ?_
    rintro e x6 ⟨rfl, hY⟩
    refine hK.out _ _ (step _ _ hS hY) (fun hS => ?_)
    clear hK K hY
    refine takeH12 23 31 (.bool true) rfl rfl (by kernel_rfl) (by kernel_rfl) (by kernel_rfl) (fun _ _ _ h => h) (Or.inl ⟨by kernel_rfl, fun W _ => by go_simp⟩) hS ?_
    simp only [Act.put, List.setIfInBounds_toArray, List.set_cons_zero, List.set_cons_succ]
    refine takeH12 24 32 (.bool true) rfl rfl (by kernel_rfl) (by kernel_rfl) (by kernel_rfl) (fun _ _ _ h => h) (Or.inl ⟨by kernel_rfl, fun W _ => by go_simp⟩) hS ?_
    simp only [Act.put, List.setIfInBounds_toArray, List.set_cons_zero, List.set_cons_succ]
    refine takeH12 25 33 (.bool true) rfl rfl (by kernel_rfl) (by kernel_rfl) (by kernel_rfl) (fun _ _ _ h => h) (Or.inl ⟨by kernel_rfl, fun W _ => by go_simp⟩) hS ?_
    simp only [Act.put, List.setIfInBounds_toArray, List.set_cons_zero, List.set_cons_succ]
    refine wpAnyH_ready (rs := [26]) (by kernel_rfl) (by simp) ?_
    refine AllReadyH.cons rfl (fun K hK => ?_) AllReadyH.nil
    go_simp
    refine (CL.out _ ((hS1 _).1 hS).2).mono ?_
    rintro e x7 ⟨rfl, hY⟩
    refine hK.out _ _ (step _ _ hS hY) (fun hS => ?_)
    clear hK K hY
    refine takeH12 27 35 (.bool true) rfl rfl (by kernel_rfl) (by kernel_rfl) (by kernel_rfl) (fun _ _ _ h => h) (Or.inl ⟨by kernel_rfl, fun W _ => by go_simp⟩) hS ?_
    simp only [Act.put, List.setIfInBounds_toArray, List.set_cons_zero, List.set_cons_succ]
    refine takeH12 28 4 (.bool true) rfl rfl (by kernel_rfl) (by kernel_rfl) (by kernel_rfl) (fun _ _ _ h => h) (Or.inl ⟨by kernel_rfl, fun W _ => by go_simp⟩) hS ?_
    simp only [Act.put, List.setIfInBounds_toArray, List.set_cons_zero, List.set_cons_succ]
    refine wpAnyH_done (by kernel_rfl) ?_ _
    have hfin := hideT ((hS1 _).1 hS).2
    go_wp2
    go_ret
    exact ⟨rfl, hfin.out⟩
end Go.Proofs.YtoiedadfpbbdgaaGreat.lookTexts
