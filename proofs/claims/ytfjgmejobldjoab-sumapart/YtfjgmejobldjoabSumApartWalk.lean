/- The walk of the law SumApart, out of the contracts. -/
import Derived.Test.YtfjgmejobldjoabSumArgs
import Derived.Test.YtfjgmejobldjoabSumG
set_option linter.unusedVariables false
set_option linter.unusedSimpArgs false
namespace Go.Proofs.Ytfjgmejobldjoab.sumApart
open Go.RowKit
theorem hide {p : Prop} (h : p) : Hid p := h
set_option maxHeartbeats 8000000 in
set_option maxRecDepth 100000 in
theorem walk (v0 : Value) (la : List UInt8) (v1 : Value) (lb : List UInt8) (v2 : Value) (lc : List UInt8) (w : World) (h0 : ArgB w v0 la) (h1 : ArgB w v1 lb) (h2 : ArgB w v2 lc) :
    Calls Try.prog 3 #[v0, v1, v2] w fun e w' => e = .returned (.bool true) ∧ Below w.heap.size w w' := by
  obtain ⟨hva, hla⟩ := h0
  obtain ⟨hvb, hlb⟩ := h1
  obtain ⟨hvc, hlc⟩ := h2
  have ka := long_any la _ w hva hla
  have kb := long_any lb _ w hvb hlb
  have kc := long_any lc _ w hvc hlc
  obtain ⟨aa, ca, rfl⟩ := RB.form hva
  obtain ⟨ab, cb, rfl⟩ := RB.form hvb
  obtain ⟨ac, cc, rfl⟩ := RB.form hvc
  by_cases h3 : 3000 < la.length
  · rw [decide_eq_true h3] at ka
    clear kb kc
    go_enter Try.func3, Try.ntmps3
    go_wp2_with (first
      | (go_at_call 4; refine ka.mono ?_; rintro e w2 ⟨rfl, he⟩; replace he := he.symm; subst he)
      | (go_at_call 5; refine (alive8_any _).mono ?_; rintro e w3 ⟨rfl, hB⟩))
    go_ret
    exact ⟨rfl, hB⟩
  rw [decide_eq_false h3] at ka
  by_cases h4 : 3000 < lb.length
  · rw [decide_eq_true h4] at kb
    have KA := hide ka
    have KB := hide kb
    clear ka kb kc
    go_enter Try.func3, Try.ntmps3
    go_wp2_with (first
      | (go_at_call 4; refine KA.out.mono ?_; rintro e w2 ⟨rfl, he⟩; replace he := he.symm; subst he; clear KA)
      | (go_at_call 4; refine KB.out.mono ?_; rintro e w2 ⟨rfl, he⟩; replace he := he.symm; subst he; clear KB)
      | (go_at_call 5; refine (alive8_any _).mono ?_; rintro e w3 ⟨rfl, hB⟩))
    go_ret
    exact ⟨rfl, hB⟩
  rw [decide_eq_false h4] at kb
  by_cases h5 : 3000 < lc.length
  · rw [decide_eq_true h5] at kc
    have KA := hide ka
    have KB := hide kb
    have KC := hide kc
    clear ka kb kc
    go_enter Try.func3, Try.ntmps3
    go_wp2_with (first
      | (go_at_call 4; refine KA.out.mono ?_; rintro e w2 ⟨rfl, he⟩; replace he := he.symm; subst he; clear KA)
      | (go_at_call 4; refine KB.out.mono ?_; rintro e w2 ⟨rfl, he⟩; replace he := he.symm; subst he; clear KB)
      | (go_at_call 4; refine KC.out.mono ?_; rintro e w2 ⟨rfl, he⟩; replace he := he.symm; subst he; clear KC)
      | (go_at_call 5; refine (alive8_any _).mono ?_; rintro e w3 ⟨rfl, hB⟩))
    go_ret
    exact ⟨rfl, hB⟩
  rw [decide_eq_false h5] at kc
  have KA := hide ka
  have KB := hide kb
  have KC := hide kc
  have za : la.length ≤ 1000000000 := by omega
  have zb : lb.length ≤ 1000000000 := by omega
  have zc : lc.length ≤ 1000000000 := by omega
  have HA : Hid (RB w (.slice aa la.length ca) la) := hva
  have HB : Hid (RB w (.slice ab lb.length cb) lb) := hvb
  have HC : Hid (RB w (.slice ac lc.length cc) lc) := hvc
  clear ka kb kc hva hvb hvc hla hlb hlc
  have A0 : Hid (∀ W, RB W (.slice aa la.length ca) la → Calls Try.prog 7 #[sv 0#32 0#64, .slice aa la.length ca] W fun e w' => e = .returned (addS 0#32 0#64 la) ∧ Below W.heap.size W w') := fun W h => Add_any 0#32 0#64 la _ W h za
  obtain ⟨cs, ms, HSM⟩ : ∃ cs ms, Hid (addS 0#32 0#64 la = sv cs ms) := ⟨_, _, rfl⟩
  rw [HSM.out] at A0
  have A1 : Hid (∀ W, RB W (.slice ab lb.length cb) lb → Calls Try.prog 7 #[sv cs ms, .slice ab lb.length cb] W fun e w' => e = .returned (addS cs ms lb) ∧ Below W.heap.size W w') := fun W h => Add_any cs ms lb _ W h zb
  have A2 : Hid (∀ W, RB W (.slice ac lc.length cc) lc → Calls Try.prog 7 #[sv cs ms, .slice ac lc.length cc] W fun e w' => e = .returned (addS cs ms lc) ∧ Below W.heap.size W w') := fun W h => Add_any cs ms lc _ W h zc
  obtain ⟨cx, mx, HX⟩ : ∃ cx mx, Hid (addS cs ms lb = sv cx mx) := ⟨_, _, rfl⟩
  obtain ⟨cy, my, HY⟩ : ∃ cy my, Hid (addS cs ms lc = sv cy my) := ⟨_, _, rfl⟩
  rw [HX.out] at A1
  rw [HY.out] at A2
  clear HX HY HSM h3 h4 h5
  go_enter Try.func3, Try.ntmps3
  go_upto_region 4 with (first
    | (go_at_call 4; refine KA.out.mono ?_; rintro e w2 ⟨rfl, he⟩; replace he := he.symm; subst he; clear KA)
    | (go_at_call 4; refine KB.out.mono ?_; rintro e w2 ⟨rfl, he⟩; replace he := he.symm; subst he; clear KB)
    | (go_at_call 4; refine KC.out.mono ?_; rintro e w2 ⟨rfl, he⟩; replace he := he.symm; subst he; clear KC)
    | (go_at_call 6; refine (New_any w).mono ?_; rintro e w3 ⟨rfl, hB3⟩)
    | (go_at_call 7; refine (A0.out w3 (ReadsCells.below HA.out hB3)).mono ?_; rintro e w4 ⟨rfl, hB4⟩; have hB4' := bel hB3 hB4))
  -- THE END BY PROGRAM
  generalize hw5 : w4.alloc (.cells #[.int .u32 (cs.toNat : Int), .int .u64 (ms.toNat : Int)] 28) = w5 at *
  have hB5 : Below w.heap.size w w5 := by rw [← hw5]; exact hB4'.alloc hB4'.size _
  have hS5 : SAt w5 w4.heap.size (.int .u32 (cs.toNat : Int)) (.int .u64 (ms.toNat : Int)) := by rw [← hw5]; exact heap_new w4 _
  clear hw5 hB3 hB4 hB4'
  go_cut [8, 9] from 26 to 31 (fun s8 s9 w' => ∃ b8 b9, s8 = Value.pointer (some ⟨b8, 0, none⟩) ∧ s9 = Value.pointer (some ⟨b9, 0, none⟩) ∧ SAt w' b8 (.int .u32 (cx.toNat : Int)) (.int .u64 (mx.toNat : Int)) ∧ SAt w' b9 (.int .u32 (cy.toNat : Int)) (.int .u64 (my.toNat : Int)) ∧ SAt w' w4.heap.size (.int .u32 (cs.toNat : Int)) (.int .u64 (ms.toNat : Int)) ∧ Below w.heap.size w w')
  case first =>
    obtain ⟨S, hS1⟩ : ∃ S : World → Prop, ∀ W, S W ↔ SAt W w4.heap.size (.int .u32 (cs.toNat : Int)) (.int .u64 (ms.toNat : Int)) ∧ Below w.heap.size w W := ⟨_, fun _ => Iff.rfl⟩
    have step : ∀ W W', S W → Below W.heap.size W W' → S W' := fun W W' h hb => by
      obtain ⟨h1, h3⟩ := (hS1 W).1 h
      exact (hS1 W').2 ⟨h1.below hb, bel h3 hb⟩
    refine wp_region_held_drew (S := S) (by kernel_rfl) (step _ _ ((hS1 _).2 ⟨hS5, hB5⟩) ((Below.refl _ _).drew)) (fun hS => ?_)
    generalize World.drew w5 = wd at hS ⊢
    refine takeH 0 26 (sv (cs) (ms)) rfl rfl (by kernel_rfl) (by kernel_rfl) (by kernel_rfl) (fun _ _ _ h => h) (hy_load_S (Operand.tmp 7) rfl (by kernel_rfl) (w4.heap.size) _ _ (by kernel_rfl) (fun W h => ((hS1 W).1 h).1)) hS ?_
    simp only [Act.put, List.setIfInBounds_toArray, List.set_cons_zero, List.set_cons_succ]
    refine takeH 1 27 (.slice ab lb.length cb) rfl rfl (by kernel_rfl) (by kernel_rfl) (by kernel_rfl) (fun _ _ _ h => h) (Or.inl ⟨by kernel_rfl, fun W _ => by go_simp⟩) hS ?_
    simp only [Act.put, List.setIfInBounds_toArray, List.set_cons_zero, List.set_cons_succ]
    refine takeH 3 29 (sv (cs) (ms)) rfl rfl (by kernel_rfl) (by kernel_rfl) (by kernel_rfl) (fun _ _ _ h => h) (hy_load_S (Operand.tmp 7) rfl (by kernel_rfl) (w4.heap.size) _ _ (by kernel_rfl) (fun W h => ((hS1 W).1 h).1)) hS ?_
    simp only [Act.put, List.setIfInBounds_toArray, List.set_cons_zero, List.set_cons_succ]
    refine takeH 4 30 (.slice ac lc.length cc) rfl rfl (by kernel_rfl) (by kernel_rfl) (by kernel_rfl) (fun _ _ _ h => h) (Or.inl ⟨by kernel_rfl, fun W _ => by go_simp⟩) hS ?_
    simp only [Act.put, List.setIfInBounds_toArray, List.set_cons_zero, List.set_cons_succ]
    refine wpAnyH_ready (rs := [2, 6, 7]) (by kernel_rfl) (by simp) ?_
    refine AllReadyH.cons rfl (fun K hK => ?_) (AllReadyH.cons rfl (fun K hK => ?_) (AllReadyH.cons rfl (fun K hK => ?_) AllReadyH.nil))
    · go_simp
      refine (A1.out _ (ReadsCells.below HB.out ((hS1 _).1 hS).2)).mono ?_
      rintro e x1 ⟨rfl, hY⟩
      refine hK.out _ _ (step _ _ hS hY) (fun hS => ?_)
      clear hK K
      clear hY
      refine wpAnyH_ready (rs := [5, 6, 7]) (by kernel_rfl) (by simp) ?_
      refine AllReadyH.cons rfl (fun K hK => ?_) (AllReadyH.cons rfl (fun K hK => ?_) (AllReadyH.cons rfl (fun K hK => ?_) AllReadyH.nil))
      · go_simp
        refine (A2.out _ (ReadsCells.below HC.out ((hS1 _).1 hS).2)).mono ?_
        rintro e x2 ⟨rfl, hY⟩
        refine hK.out _ _ (step _ _ hS hY) (fun hS => ?_)
        clear hK K
        clear hY
        refine wpAnyH_ready (rs := [6, 7]) (by kernel_rfl) (by simp) ?_
        refine AllReadyH.cons rfl (fun K hK => ?_) (AllReadyH.cons rfl (fun K hK => ?_) AllReadyH.nil)
        · go_simp
          have h8 : SAt (x2.alloc (.cells #[.int .u32 0, .int .u64 0] 28)) x2.heap.size (.int .u32 0) (.int .u64 0) := heap_new _ _
          have hY : Below x2.heap.size x2 (x2.alloc (.cells #[.int .u32 0, .int .u64 0] 28)) := (Below.refl _ _).alloc (Nat.le_refl _) _
          have g8 : w.heap.size ≤ x2.heap.size := ((hS1 _).1 hS).2.size
          have d8 : w4.heap.size < x2.heap.size := ((hS1 _).1 hS).1.lt
          refine hK.out _ _ (step _ _ hS hY) (fun hS => ?_)
          clear hK K hY
          generalize x2.alloc (.cells #[.int .u32 0, .int .u64 0] 28) = x3 at *
          generalize x2.heap.size = b8 at *
          refine wpAnyH_ready (rs := [7]) (by kernel_rfl) (by simp) ?_
          refine AllReadyH.cons rfl (fun K hK => ?_) AllReadyH.nil
          go_simp
          have h9 : SAt (x3.alloc (.cells #[.int .u32 0, .int .u64 0] 28)) x3.heap.size (.int .u32 0) (.int .u64 0) := heap_new _ _
          have hY : Below x3.heap.size x3 (x3.alloc (.cells #[.int .u32 0, .int .u64 0] 28)) := (Below.refl _ _).alloc (Nat.le_refl _) _
          have g9 : w.heap.size ≤ x3.heap.size := ((hS1 _).1 hS).2.size
          have d9 : w4.heap.size < x3.heap.size := ((hS1 _).1 hS).1.lt
          have d89 : b8 < x3.heap.size := h8.lt
          replace h8 := h8.below hY
          refine hK.out _ _ (step _ _ hS hY) (fun hS => ?_)
          clear hK K hY
          generalize x3.alloc (.cells #[.int .u32 0, .int .u64 0] 28) = x4 at *
          generalize x3.heap.size = b9 at *
          refine anyH_store_S 8 (by kernel_rfl) rfl rfl (Operand.tmp 8) (Operand.tmp 28) rfl rfl b8 (.int .u32 (cx.toNat : Int)) (.int .u64 (mx.toNat : Int)) (by kernel_rfl) (by kernel_rfl) h8 ⟨rfl, rfl⟩ ((hS1 _).2 ⟨((hS1 _).1 hS).1.other (by omega), below_setRow ((hS1 _).1 hS).2 g8⟩) (fun hS => ?_)
          replace h9 := SAt.other (cs := #[.int .u32 (cx.toNat : Int), .int .u64 (mx.toNat : Int)]) h9 (show b9 ≠ b8 by omega)
          replace h8 := setRow_S h8 (.int .u32 (cx.toNat : Int)) (.int .u64 (mx.toNat : Int))
          refine anyH_store_S 9 (by kernel_rfl) rfl rfl (Operand.tmp 9) (Operand.tmp 31) rfl rfl b9 (.int .u32 (cy.toNat : Int)) (.int .u64 (my.toNat : Int)) (by kernel_rfl) (by kernel_rfl) h9 ⟨rfl, rfl⟩ ((hS1 _).2 ⟨((hS1 _).1 hS).1.other (by omega), below_setRow ((hS1 _).1 hS).2 g9⟩) (fun hS => ?_)
          replace h8 := SAt.other (cs := #[.int .u32 (cy.toNat : Int), .int .u64 (my.toNat : Int)]) h8 (show b8 ≠ b9 by omega)
          replace h9 := setRow_S h9 (.int .u32 (cy.toNat : Int)) (.int .u64 (my.toNat : Int))
          refine wpAnyH_done (by kernel_rfl) ?_ _
          go_wp2
          go_meet
          case rel => exact ⟨b8, b9, rfl, rfl, h8, h9, ((hS1 _).1 hS).1, ((hS1 _).1 hS).2⟩
        · go_simp
          have h9 : SAt (x2.alloc (.cells #[.int .u32 0, .int .u64 0] 28)) x2.heap.size (.int .u32 0) (.int .u64 0) := heap_new _ _
          have hY : Below x2.heap.size x2 (x2.alloc (.cells #[.int .u32 0, .int .u64 0] 28)) := (Below.refl _ _).alloc (Nat.le_refl _) _
          have g9 : w.heap.size ≤ x2.heap.size := ((hS1 _).1 hS).2.size
          have d9 : w4.heap.size < x2.heap.size := ((hS1 _).1 hS).1.lt
          refine hK.out _ _ (step _ _ hS hY) (fun hS => ?_)
          clear hK K hY
          generalize x2.alloc (.cells #[.int .u32 0, .int .u64 0] 28) = x5 at *
          generalize x2.heap.size = b9 at *
          refine wpAnyH_ready (rs := [6]) (by kernel_rfl) (by simp) ?_
          refine AllReadyH.cons rfl (fun K hK => ?_) AllReadyH.nil
          go_simp
          have h8 : SAt (x5.alloc (.cells #[.int .u32 0, .int .u64 0] 28)) x5.heap.size (.int .u32 0) (.int .u64 0) := heap_new _ _
          have hY : Below x5.heap.size x5 (x5.alloc (.cells #[.int .u32 0, .int .u64 0] 28)) := (Below.refl _ _).alloc (Nat.le_refl _) _
          have g8 : w.heap.size ≤ x5.heap.size := ((hS1 _).1 hS).2.size
          have d8 : w4.heap.size < x5.heap.size := ((hS1 _).1 hS).1.lt
          have d89 : b9 < x5.heap.size := h9.lt
          replace h9 := h9.below hY
          refine hK.out _ _ (step _ _ hS hY) (fun hS => ?_)
          clear hK K hY
          generalize x5.alloc (.cells #[.int .u32 0, .int .u64 0] 28) = x6 at *
          generalize x5.heap.size = b8 at *
          refine anyH_store_S 8 (by kernel_rfl) rfl rfl (Operand.tmp 8) (Operand.tmp 28) rfl rfl b8 (.int .u32 (cx.toNat : Int)) (.int .u64 (mx.toNat : Int)) (by kernel_rfl) (by kernel_rfl) h8 ⟨rfl, rfl⟩ ((hS1 _).2 ⟨((hS1 _).1 hS).1.other (by omega), below_setRow ((hS1 _).1 hS).2 g8⟩) (fun hS => ?_)
          replace h9 := SAt.other (cs := #[.int .u32 (cx.toNat : Int), .int .u64 (mx.toNat : Int)]) h9 (show b9 ≠ b8 by omega)
          replace h8 := setRow_S h8 (.int .u32 (cx.toNat : Int)) (.int .u64 (mx.toNat : Int))
          refine anyH_store_S 9 (by kernel_rfl) rfl rfl (Operand.tmp 9) (Operand.tmp 31) rfl rfl b9 (.int .u32 (cy.toNat : Int)) (.int .u64 (my.toNat : Int)) (by kernel_rfl) (by kernel_rfl) h9 ⟨rfl, rfl⟩ ((hS1 _).2 ⟨((hS1 _).1 hS).1.other (by omega), below_setRow ((hS1 _).1 hS).2 g9⟩) (fun hS => ?_)
          replace h8 := SAt.other (cs := #[.int .u32 (cy.toNat : Int), .int .u64 (my.toNat : Int)]) h8 (show b8 ≠ b9 by omega)
          replace h9 := setRow_S h9 (.int .u32 (cy.toNat : Int)) (.int .u64 (my.toNat : Int))
          refine wpAnyH_done (by kernel_rfl) ?_ _
          go_wp2
          go_meet
          case rel => exact ⟨b8, b9, rfl, rfl, h8, h9, ((hS1 _).1 hS).1, ((hS1 _).1 hS).2⟩
      · go_simp
        have h8 : SAt (x1.alloc (.cells #[.int .u32 0, .int .u64 0] 28)) x1.heap.size (.int .u32 0) (.int .u64 0) := heap_new _ _
        have hY : Below x1.heap.size x1 (x1.alloc (.cells #[.int .u32 0, .int .u64 0] 28)) := (Below.refl _ _).alloc (Nat.le_refl _) _
        have g8 : w.heap.size ≤ x1.heap.size := ((hS1 _).1 hS).2.size
        have d8 : w4.heap.size < x1.heap.size := ((hS1 _).1 hS).1.lt
        refine hK.out _ _ (step _ _ hS hY) (fun hS => ?_)
        clear hK K hY
        generalize x1.alloc (.cells #[.int .u32 0, .int .u64 0] 28) = x7 at *
        generalize x1.heap.size = b8 at *
        refine wpAnyH_ready (rs := [5, 7]) (by kernel_rfl) (by simp) ?_
        refine AllReadyH.cons rfl (fun K hK => ?_) (AllReadyH.cons rfl (fun K hK => ?_) AllReadyH.nil)
        · go_simp
          refine (A2.out _ (ReadsCells.below HC.out ((hS1 _).1 hS).2)).mono ?_
          rintro e x8 ⟨rfl, hY⟩
          refine hK.out _ _ (step _ _ hS hY) (fun hS => ?_)
          clear hK K
          replace h8 := h8.below hY
          clear hY
          refine wpAnyH_ready (rs := [7]) (by kernel_rfl) (by simp) ?_
          refine AllReadyH.cons rfl (fun K hK => ?_) AllReadyH.nil
          go_simp
          have h9 : SAt (x8.alloc (.cells #[.int .u32 0, .int .u64 0] 28)) x8.heap.size (.int .u32 0) (.int .u64 0) := heap_new _ _
          have hY : Below x8.heap.size x8 (x8.alloc (.cells #[.int .u32 0, .int .u64 0] 28)) := (Below.refl _ _).alloc (Nat.le_refl _) _
          have g9 : w.heap.size ≤ x8.heap.size := ((hS1 _).1 hS).2.size
          have d9 : w4.heap.size < x8.heap.size := ((hS1 _).1 hS).1.lt
          have d89 : b8 < x8.heap.size := h8.lt
          replace h8 := h8.below hY
          refine hK.out _ _ (step _ _ hS hY) (fun hS => ?_)
          clear hK K hY
          generalize x8.alloc (.cells #[.int .u32 0, .int .u64 0] 28) = x9 at *
          generalize x8.heap.size = b9 at *
          refine anyH_store_S 8 (by kernel_rfl) rfl rfl (Operand.tmp 8) (Operand.tmp 28) rfl rfl b8 (.int .u32 (cx.toNat : Int)) (.int .u64 (mx.toNat : Int)) (by kernel_rfl) (by kernel_rfl) h8 ⟨rfl, rfl⟩ ((hS1 _).2 ⟨((hS1 _).1 hS).1.other (by omega), below_setRow ((hS1 _).1 hS).2 g8⟩) (fun hS => ?_)
          replace h9 := SAt.other (cs := #[.int .u32 (cx.toNat : Int), .int .u64 (mx.toNat : Int)]) h9 (show b9 ≠ b8 by omega)
          replace h8 := setRow_S h8 (.int .u32 (cx.toNat : Int)) (.int .u64 (mx.toNat : Int))
          refine anyH_store_S 9 (by kernel_rfl) rfl rfl (Operand.tmp 9) (Operand.tmp 31) rfl rfl b9 (.int .u32 (cy.toNat : Int)) (.int .u64 (my.toNat : Int)) (by kernel_rfl) (by kernel_rfl) h9 ⟨rfl, rfl⟩ ((hS1 _).2 ⟨((hS1 _).1 hS).1.other (by omega), below_setRow ((hS1 _).1 hS).2 g9⟩) (fun hS => ?_)
          replace h8 := SAt.other (cs := #[.int .u32 (cy.toNat : Int), .int .u64 (my.toNat : Int)]) h8 (show b8 ≠ b9 by omega)
          replace h9 := setRow_S h9 (.int .u32 (cy.toNat : Int)) (.int .u64 (my.toNat : Int))
          refine wpAnyH_done (by kernel_rfl) ?_ _
          go_wp2
          go_meet
          case rel => exact ⟨b8, b9, rfl, rfl, h8, h9, ((hS1 _).1 hS).1, ((hS1 _).1 hS).2⟩
        · go_simp
          have h9 : SAt (x7.alloc (.cells #[.int .u32 0, .int .u64 0] 28)) x7.heap.size (.int .u32 0) (.int .u64 0) := heap_new _ _
          have hY : Below x7.heap.size x7 (x7.alloc (.cells #[.int .u32 0, .int .u64 0] 28)) := (Below.refl _ _).alloc (Nat.le_refl _) _
          have g9 : w.heap.size ≤ x7.heap.size := ((hS1 _).1 hS).2.size
          have d9 : w4.heap.size < x7.heap.size := ((hS1 _).1 hS).1.lt
          have d89 : b8 < x7.heap.size := h8.lt
          replace h8 := h8.below hY
          refine hK.out _ _ (step _ _ hS hY) (fun hS => ?_)
          clear hK K hY
          generalize x7.alloc (.cells #[.int .u32 0, .int .u64 0] 28) = x10 at *
          generalize x7.heap.size = b9 at *
          refine wpAnyH_ready (rs := [5]) (by kernel_rfl) (by simp) ?_
          refine AllReadyH.cons rfl (fun K hK => ?_) AllReadyH.nil
          go_simp
          refine (A2.out _ (ReadsCells.below HC.out ((hS1 _).1 hS).2)).mono ?_
          rintro e x11 ⟨rfl, hY⟩
          refine hK.out _ _ (step _ _ hS hY) (fun hS => ?_)
          clear hK K
          replace h8 := h8.below hY
          replace h9 := h9.below hY
          clear hY
          refine anyH_store_S 8 (by kernel_rfl) rfl rfl (Operand.tmp 8) (Operand.tmp 28) rfl rfl b8 (.int .u32 (cx.toNat : Int)) (.int .u64 (mx.toNat : Int)) (by kernel_rfl) (by kernel_rfl) h8 ⟨rfl, rfl⟩ ((hS1 _).2 ⟨((hS1 _).1 hS).1.other (by omega), below_setRow ((hS1 _).1 hS).2 g8⟩) (fun hS => ?_)
          replace h9 := SAt.other (cs := #[.int .u32 (cx.toNat : Int), .int .u64 (mx.toNat : Int)]) h9 (show b9 ≠ b8 by omega)
          replace h8 := setRow_S h8 (.int .u32 (cx.toNat : Int)) (.int .u64 (mx.toNat : Int))
          refine anyH_store_S 9 (by kernel_rfl) rfl rfl (Operand.tmp 9) (Operand.tmp 31) rfl rfl b9 (.int .u32 (cy.toNat : Int)) (.int .u64 (my.toNat : Int)) (by kernel_rfl) (by kernel_rfl) h9 ⟨rfl, rfl⟩ ((hS1 _).2 ⟨((hS1 _).1 hS).1.other (by omega), below_setRow ((hS1 _).1 hS).2 g9⟩) (fun hS => ?_)
          replace h8 := SAt.other (cs := #[.int .u32 (cy.toNat : Int), .int .u64 (my.toNat : Int)]) h8 (show b8 ≠ b9 by omega)
          replace h9 := setRow_S h9 (.int .u32 (cy.toNat : Int)) (.int .u64 (my.toNat : Int))
          refine wpAnyH_done (by kernel_rfl) ?_ _
          go_wp2
          go_meet
          case rel => exact ⟨b8, b9, rfl, rfl, h8, h9, ((hS1 _).1 hS).1, ((hS1 _).1 hS).2⟩
      · go_simp
        have h9 : SAt (x1.alloc (.cells #[.int .u32 0, .int .u64 0] 28)) x1.heap.size (.int .u32 0) (.int .u64 0) := heap_new _ _
        have hY : Below x1.heap.size x1 (x1.alloc (.cells #[.int .u32 0, .int .u64 0] 28)) := (Below.refl _ _).alloc (Nat.le_refl _) _
        have g9 : w.heap.size ≤ x1.heap.size := ((hS1 _).1 hS).2.size
        have d9 : w4.heap.size < x1.heap.size := ((hS1 _).1 hS).1.lt
        refine hK.out _ _ (step _ _ hS hY) (fun hS => ?_)
        clear hK K hY
        generalize x1.alloc (.cells #[.int .u32 0, .int .u64 0] 28) = x12 at *
        generalize x1.heap.size = b9 at *
        refine wpAnyH_ready (rs := [5, 6]) (by kernel_rfl) (by simp) ?_
        refine AllReadyH.cons rfl (fun K hK => ?_) (AllReadyH.cons rfl (fun K hK => ?_) AllReadyH.nil)
        · go_simp
          refine (A2.out _ (ReadsCells.below HC.out ((hS1 _).1 hS).2)).mono ?_
          rintro e x13 ⟨rfl, hY⟩
          refine hK.out _ _ (step _ _ hS hY) (fun hS => ?_)
          clear hK K
          replace h9 := h9.below hY
          clear hY
          refine wpAnyH_ready (rs := [6]) (by kernel_rfl) (by simp) ?_
          refine AllReadyH.cons rfl (fun K hK => ?_) AllReadyH.nil
          go_simp
          have h8 : SAt (x13.alloc (.cells #[.int .u32 0, .int .u64 0] 28)) x13.heap.size (.int .u32 0) (.int .u64 0) := heap_new _ _
          have hY : Below x13.heap.size x13 (x13.alloc (.cells #[.int .u32 0, .int .u64 0] 28)) := (Below.refl _ _).alloc (Nat.le_refl _) _
          have g8 : w.heap.size ≤ x13.heap.size := ((hS1 _).1 hS).2.size
          have d8 : w4.heap.size < x13.heap.size := ((hS1 _).1 hS).1.lt
          have d89 : b9 < x13.heap.size := h9.lt
          replace h9 := h9.below hY
          refine hK.out _ _ (step _ _ hS hY) (fun hS => ?_)
          clear hK K hY
          generalize x13.alloc (.cells #[.int .u32 0, .int .u64 0] 28) = x14 at *
          generalize x13.heap.size = b8 at *
          refine anyH_store_S 8 (by kernel_rfl) rfl rfl (Operand.tmp 8) (Operand.tmp 28) rfl rfl b8 (.int .u32 (cx.toNat : Int)) (.int .u64 (mx.toNat : Int)) (by kernel_rfl) (by kernel_rfl) h8 ⟨rfl, rfl⟩ ((hS1 _).2 ⟨((hS1 _).1 hS).1.other (by omega), below_setRow ((hS1 _).1 hS).2 g8⟩) (fun hS => ?_)
          replace h9 := SAt.other (cs := #[.int .u32 (cx.toNat : Int), .int .u64 (mx.toNat : Int)]) h9 (show b9 ≠ b8 by omega)
          replace h8 := setRow_S h8 (.int .u32 (cx.toNat : Int)) (.int .u64 (mx.toNat : Int))
          refine anyH_store_S 9 (by kernel_rfl) rfl rfl (Operand.tmp 9) (Operand.tmp 31) rfl rfl b9 (.int .u32 (cy.toNat : Int)) (.int .u64 (my.toNat : Int)) (by kernel_rfl) (by kernel_rfl) h9 ⟨rfl, rfl⟩ ((hS1 _).2 ⟨((hS1 _).1 hS).1.other (by omega), below_setRow ((hS1 _).1 hS).2 g9⟩) (fun hS => ?_)
          replace h8 := SAt.other (cs := #[.int .u32 (cy.toNat : Int), .int .u64 (my.toNat : Int)]) h8 (show b8 ≠ b9 by omega)
          replace h9 := setRow_S h9 (.int .u32 (cy.toNat : Int)) (.int .u64 (my.toNat : Int))
          refine wpAnyH_done (by kernel_rfl) ?_ _
          go_wp2
          go_meet
          case rel => exact ⟨b8, b9, rfl, rfl, h8, h9, ((hS1 _).1 hS).1, ((hS1 _).1 hS).2⟩
        · go_simp
          have h8 : SAt (x12.alloc (.cells #[.int .u32 0, .int .u64 0] 28)) x12.heap.size (.int .u32 0) (.int .u64 0) := heap_new _ _
          have hY : Below x12.heap.size x12 (x12.alloc (.cells #[.int .u32 0, .int .u64 0] 28)) := (Below.refl _ _).alloc (Nat.le_refl _) _
          have g8 : w.heap.size ≤ x12.heap.size := ((hS1 _).1 hS).2.size
          have d8 : w4.heap.size < x12.heap.size := ((hS1 _).1 hS).1.lt
          have d89 : b9 < x12.heap.size := h9.lt
          replace h9 := h9.below hY
          refine hK.out _ _ (step _ _ hS hY) (fun hS => ?_)
          clear hK K hY
          generalize x12.alloc (.cells #[.int .u32 0, .int .u64 0] 28) = x15 at *
          generalize x12.heap.size = b8 at *
          refine wpAnyH_ready (rs := [5]) (by kernel_rfl) (by simp) ?_
          refine AllReadyH.cons rfl (fun K hK => ?_) AllReadyH.nil
          go_simp
          refine (A2.out _ (ReadsCells.below HC.out ((hS1 _).1 hS).2)).mono ?_
          rintro e x16 ⟨rfl, hY⟩
          refine hK.out _ _ (step _ _ hS hY) (fun hS => ?_)
          clear hK K
          replace h8 := h8.below hY
          replace h9 := h9.below hY
          clear hY
          refine anyH_store_S 8 (by kernel_rfl) rfl rfl (Operand.tmp 8) (Operand.tmp 28) rfl rfl b8 (.int .u32 (cx.toNat : Int)) (.int .u64 (mx.toNat : Int)) (by kernel_rfl) (by kernel_rfl) h8 ⟨rfl, rfl⟩ ((hS1 _).2 ⟨((hS1 _).1 hS).1.other (by omega), below_setRow ((hS1 _).1 hS).2 g8⟩) (fun hS => ?_)
          replace h9 := SAt.other (cs := #[.int .u32 (cx.toNat : Int), .int .u64 (mx.toNat : Int)]) h9 (show b9 ≠ b8 by omega)
          replace h8 := setRow_S h8 (.int .u32 (cx.toNat : Int)) (.int .u64 (mx.toNat : Int))
          refine anyH_store_S 9 (by kernel_rfl) rfl rfl (Operand.tmp 9) (Operand.tmp 31) rfl rfl b9 (.int .u32 (cy.toNat : Int)) (.int .u64 (my.toNat : Int)) (by kernel_rfl) (by kernel_rfl) h9 ⟨rfl, rfl⟩ ((hS1 _).2 ⟨((hS1 _).1 hS).1.other (by omega), below_setRow ((hS1 _).1 hS).2 g9⟩) (fun hS => ?_)
          replace h8 := SAt.other (cs := #[.int .u32 (cy.toNat : Int), .int .u64 (my.toNat : Int)]) h8 (show b8 ≠ b9 by omega)
          replace h9 := setRow_S h9 (.int .u32 (cy.toNat : Int)) (.int .u64 (my.toNat : Int))
          refine wpAnyH_done (by kernel_rfl) ?_ _
          go_wp2
          go_meet
          case rel => exact ⟨b8, b9, rfl, rfl, h8, h9, ((hS1 _).1 hS).1, ((hS1 _).1 hS).2⟩
    · go_simp
      have h8 : SAt (wd.alloc (.cells #[.int .u32 0, .int .u64 0] 28)) wd.heap.size (.int .u32 0) (.int .u64 0) := heap_new _ _
      have hY : Below wd.heap.size wd (wd.alloc (.cells #[.int .u32 0, .int .u64 0] 28)) := (Below.refl _ _).alloc (Nat.le_refl _) _
      have g8 : w.heap.size ≤ wd.heap.size := ((hS1 _).1 hS).2.size
      have d8 : w4.heap.size < wd.heap.size := ((hS1 _).1 hS).1.lt
      refine hK.out _ _ (step _ _ hS hY) (fun hS => ?_)
      clear hK K hY
      generalize wd.alloc (.cells #[.int .u32 0, .int .u64 0] 28) = x17 at *
      generalize wd.heap.size = b8 at *
      refine wpAnyH_ready (rs := [2, 7]) (by kernel_rfl) (by simp) ?_
      refine AllReadyH.cons rfl (fun K hK => ?_) (AllReadyH.cons rfl (fun K hK => ?_) AllReadyH.nil)
      · go_simp
        refine (A1.out _ (ReadsCells.below HB.out ((hS1 _).1 hS).2)).mono ?_
        rintro e x18 ⟨rfl, hY⟩
        refine hK.out _ _ (step _ _ hS hY) (fun hS => ?_)
        clear hK K
        replace h8 := h8.below hY
        clear hY
        refine wpAnyH_ready (rs := [5, 7]) (by kernel_rfl) (by simp) ?_
        refine AllReadyH.cons rfl (fun K hK => ?_) (AllReadyH.cons rfl (fun K hK => ?_) AllReadyH.nil)
        · go_simp
          refine (A2.out _ (ReadsCells.below HC.out ((hS1 _).1 hS).2)).mono ?_
          rintro e x19 ⟨rfl, hY⟩
          refine hK.out _ _ (step _ _ hS hY) (fun hS => ?_)
          clear hK K
          replace h8 := h8.below hY
          clear hY
          refine wpAnyH_ready (rs := [7]) (by kernel_rfl) (by simp) ?_
          refine AllReadyH.cons rfl (fun K hK => ?_) AllReadyH.nil
          go_simp
          have h9 : SAt (x19.alloc (.cells #[.int .u32 0, .int .u64 0] 28)) x19.heap.size (.int .u32 0) (.int .u64 0) := heap_new _ _
          have hY : Below x19.heap.size x19 (x19.alloc (.cells #[.int .u32 0, .int .u64 0] 28)) := (Below.refl _ _).alloc (Nat.le_refl _) _
          have g9 : w.heap.size ≤ x19.heap.size := ((hS1 _).1 hS).2.size
          have d9 : w4.heap.size < x19.heap.size := ((hS1 _).1 hS).1.lt
          have d89 : b8 < x19.heap.size := h8.lt
          replace h8 := h8.below hY
          refine hK.out _ _ (step _ _ hS hY) (fun hS => ?_)
          clear hK K hY
          generalize x19.alloc (.cells #[.int .u32 0, .int .u64 0] 28) = x20 at *
          generalize x19.heap.size = b9 at *
          refine anyH_store_S 8 (by kernel_rfl) rfl rfl (Operand.tmp 8) (Operand.tmp 28) rfl rfl b8 (.int .u32 (cx.toNat : Int)) (.int .u64 (mx.toNat : Int)) (by kernel_rfl) (by kernel_rfl) h8 ⟨rfl, rfl⟩ ((hS1 _).2 ⟨((hS1 _).1 hS).1.other (by omega), below_setRow ((hS1 _).1 hS).2 g8⟩) (fun hS => ?_)
          replace h9 := SAt.other (cs := #[.int .u32 (cx.toNat : Int), .int .u64 (mx.toNat : Int)]) h9 (show b9 ≠ b8 by omega)
          replace h8 := setRow_S h8 (.int .u32 (cx.toNat : Int)) (.int .u64 (mx.toNat : Int))
          refine anyH_store_S 9 (by kernel_rfl) rfl rfl (Operand.tmp 9) (Operand.tmp 31) rfl rfl b9 (.int .u32 (cy.toNat : Int)) (.int .u64 (my.toNat : Int)) (by kernel_rfl) (by kernel_rfl) h9 ⟨rfl, rfl⟩ ((hS1 _).2 ⟨((hS1 _).1 hS).1.other (by omega), below_setRow ((hS1 _).1 hS).2 g9⟩) (fun hS => ?_)
          replace h8 := SAt.other (cs := #[.int .u32 (cy.toNat : Int), .int .u64 (my.toNat : Int)]) h8 (show b8 ≠ b9 by omega)
          replace h9 := setRow_S h9 (.int .u32 (cy.toNat : Int)) (.int .u64 (my.toNat : Int))
          refine wpAnyH_done (by kernel_rfl) ?_ _
          go_wp2
          go_meet
          case rel => exact ⟨b8, b9, rfl, rfl, h8, h9, ((hS1 _).1 hS).1, ((hS1 _).1 hS).2⟩
        · go_simp
          have h9 : SAt (x18.alloc (.cells #[.int .u32 0, .int .u64 0] 28)) x18.heap.size (.int .u32 0) (.int .u64 0) := heap_new _ _
          have hY : Below x18.heap.size x18 (x18.alloc (.cells #[.int .u32 0, .int .u64 0] 28)) := (Below.refl _ _).alloc (Nat.le_refl _) _
          have g9 : w.heap.size ≤ x18.heap.size := ((hS1 _).1 hS).2.size
          have d9 : w4.heap.size < x18.heap.size := ((hS1 _).1 hS).1.lt
          have d89 : b8 < x18.heap.size := h8.lt
          replace h8 := h8.below hY
          refine hK.out _ _ (step _ _ hS hY) (fun hS => ?_)
          clear hK K hY
          generalize x18.alloc (.cells #[.int .u32 0, .int .u64 0] 28) = x21 at *
          generalize x18.heap.size = b9 at *
          refine wpAnyH_ready (rs := [5]) (by kernel_rfl) (by simp) ?_
          refine AllReadyH.cons rfl (fun K hK => ?_) AllReadyH.nil
          go_simp
          refine (A2.out _ (ReadsCells.below HC.out ((hS1 _).1 hS).2)).mono ?_
          rintro e x22 ⟨rfl, hY⟩
          refine hK.out _ _ (step _ _ hS hY) (fun hS => ?_)
          clear hK K
          replace h8 := h8.below hY
          replace h9 := h9.below hY
          clear hY
          refine anyH_store_S 8 (by kernel_rfl) rfl rfl (Operand.tmp 8) (Operand.tmp 28) rfl rfl b8 (.int .u32 (cx.toNat : Int)) (.int .u64 (mx.toNat : Int)) (by kernel_rfl) (by kernel_rfl) h8 ⟨rfl, rfl⟩ ((hS1 _).2 ⟨((hS1 _).1 hS).1.other (by omega), below_setRow ((hS1 _).1 hS).2 g8⟩) (fun hS => ?_)
          replace h9 := SAt.other (cs := #[.int .u32 (cx.toNat : Int), .int .u64 (mx.toNat : Int)]) h9 (show b9 ≠ b8 by omega)
          replace h8 := setRow_S h8 (.int .u32 (cx.toNat : Int)) (.int .u64 (mx.toNat : Int))
          refine anyH_store_S 9 (by kernel_rfl) rfl rfl (Operand.tmp 9) (Operand.tmp 31) rfl rfl b9 (.int .u32 (cy.toNat : Int)) (.int .u64 (my.toNat : Int)) (by kernel_rfl) (by kernel_rfl) h9 ⟨rfl, rfl⟩ ((hS1 _).2 ⟨((hS1 _).1 hS).1.other (by omega), below_setRow ((hS1 _).1 hS).2 g9⟩) (fun hS => ?_)
          replace h8 := SAt.other (cs := #[.int .u32 (cy.toNat : Int), .int .u64 (my.toNat : Int)]) h8 (show b8 ≠ b9 by omega)
          replace h9 := setRow_S h9 (.int .u32 (cy.toNat : Int)) (.int .u64 (my.toNat : Int))
          refine wpAnyH_done (by kernel_rfl) ?_ _
          go_wp2
          go_meet
          case rel => exact ⟨b8, b9, rfl, rfl, h8, h9, ((hS1 _).1 hS).1, ((hS1 _).1 hS).2⟩
      · go_simp
        have h9 : SAt (x17.alloc (.cells #[.int .u32 0, .int .u64 0] 28)) x17.heap.size (.int .u32 0) (.int .u64 0) := heap_new _ _
        have hY : Below x17.heap.size x17 (x17.alloc (.cells #[.int .u32 0, .int .u64 0] 28)) := (Below.refl _ _).alloc (Nat.le_refl _) _
        have g9 : w.heap.size ≤ x17.heap.size := ((hS1 _).1 hS).2.size
        have d9 : w4.heap.size < x17.heap.size := ((hS1 _).1 hS).1.lt
        have d89 : b8 < x17.heap.size := h8.lt
        replace h8 := h8.below hY
        refine hK.out _ _ (step _ _ hS hY) (fun hS => ?_)
        clear hK K hY
        generalize x17.alloc (.cells #[.int .u32 0, .int .u64 0] 28) = x23 at *
        generalize x17.heap.size = b9 at *
        refine wpAnyH_ready (rs := [2]) (by kernel_rfl) (by simp) ?_
        refine AllReadyH.cons rfl (fun K hK => ?_) AllReadyH.nil
        go_simp
        refine (A1.out _ (ReadsCells.below HB.out ((hS1 _).1 hS).2)).mono ?_
        rintro e x24 ⟨rfl, hY⟩
        refine hK.out _ _ (step _ _ hS hY) (fun hS => ?_)
        clear hK K
        replace h8 := h8.below hY
        replace h9 := h9.below hY
        clear hY
        refine wpAnyH_ready (rs := [5]) (by kernel_rfl) (by simp) ?_
        refine AllReadyH.cons rfl (fun K hK => ?_) AllReadyH.nil
        go_simp
        refine (A2.out _ (ReadsCells.below HC.out ((hS1 _).1 hS).2)).mono ?_
        rintro e x25 ⟨rfl, hY⟩
        refine hK.out _ _ (step _ _ hS hY) (fun hS => ?_)
        clear hK K
        replace h8 := h8.below hY
        replace h9 := h9.below hY
        clear hY
        refine anyH_store_S 8 (by kernel_rfl) rfl rfl (Operand.tmp 8) (Operand.tmp 28) rfl rfl b8 (.int .u32 (cx.toNat : Int)) (.int .u64 (mx.toNat : Int)) (by kernel_rfl) (by kernel_rfl) h8 ⟨rfl, rfl⟩ ((hS1 _).2 ⟨((hS1 _).1 hS).1.other (by omega), below_setRow ((hS1 _).1 hS).2 g8⟩) (fun hS => ?_)
        replace h9 := SAt.other (cs := #[.int .u32 (cx.toNat : Int), .int .u64 (mx.toNat : Int)]) h9 (show b9 ≠ b8 by omega)
        replace h8 := setRow_S h8 (.int .u32 (cx.toNat : Int)) (.int .u64 (mx.toNat : Int))
        refine anyH_store_S 9 (by kernel_rfl) rfl rfl (Operand.tmp 9) (Operand.tmp 31) rfl rfl b9 (.int .u32 (cy.toNat : Int)) (.int .u64 (my.toNat : Int)) (by kernel_rfl) (by kernel_rfl) h9 ⟨rfl, rfl⟩ ((hS1 _).2 ⟨((hS1 _).1 hS).1.other (by omega), below_setRow ((hS1 _).1 hS).2 g9⟩) (fun hS => ?_)
        replace h8 := SAt.other (cs := #[.int .u32 (cy.toNat : Int), .int .u64 (my.toNat : Int)]) h8 (show b8 ≠ b9 by omega)
        replace h9 := setRow_S h9 (.int .u32 (cy.toNat : Int)) (.int .u64 (my.toNat : Int))
        refine wpAnyH_done (by kernel_rfl) ?_ _
        go_wp2
        go_meet
        case rel => exact ⟨b8, b9, rfl, rfl, h8, h9, ((hS1 _).1 hS).1, ((hS1 _).1 hS).2⟩
    · go_simp
      have h9 : SAt (wd.alloc (.cells #[.int .u32 0, .int .u64 0] 28)) wd.heap.size (.int .u32 0) (.int .u64 0) := heap_new _ _
      have hY : Below wd.heap.size wd (wd.alloc (.cells #[.int .u32 0, .int .u64 0] 28)) := (Below.refl _ _).alloc (Nat.le_refl _) _
      have g9 : w.heap.size ≤ wd.heap.size := ((hS1 _).1 hS).2.size
      have d9 : w4.heap.size < wd.heap.size := ((hS1 _).1 hS).1.lt
      refine hK.out _ _ (step _ _ hS hY) (fun hS => ?_)
      clear hK K hY
      generalize wd.alloc (.cells #[.int .u32 0, .int .u64 0] 28) = x26 at *
      generalize wd.heap.size = b9 at *
      refine wpAnyH_ready (rs := [2, 6]) (by kernel_rfl) (by simp) ?_
      refine AllReadyH.cons rfl (fun K hK => ?_) (AllReadyH.cons rfl (fun K hK => ?_) AllReadyH.nil)
      · go_simp
        refine (A1.out _ (ReadsCells.below HB.out ((hS1 _).1 hS).2)).mono ?_
        rintro e x27 ⟨rfl, hY⟩
        refine hK.out _ _ (step _ _ hS hY) (fun hS => ?_)
        clear hK K
        replace h9 := h9.below hY
        clear hY
        refine wpAnyH_ready (rs := [5, 6]) (by kernel_rfl) (by simp) ?_
        refine AllReadyH.cons rfl (fun K hK => ?_) (AllReadyH.cons rfl (fun K hK => ?_) AllReadyH.nil)
        · go_simp
          refine (A2.out _ (ReadsCells.below HC.out ((hS1 _).1 hS).2)).mono ?_
          rintro e x28 ⟨rfl, hY⟩
          refine hK.out _ _ (step _ _ hS hY) (fun hS => ?_)
          clear hK K
          replace h9 := h9.below hY
          clear hY
          refine wpAnyH_ready (rs := [6]) (by kernel_rfl) (by simp) ?_
          refine AllReadyH.cons rfl (fun K hK => ?_) AllReadyH.nil
          go_simp
          have h8 : SAt (x28.alloc (.cells #[.int .u32 0, .int .u64 0] 28)) x28.heap.size (.int .u32 0) (.int .u64 0) := heap_new _ _
          have hY : Below x28.heap.size x28 (x28.alloc (.cells #[.int .u32 0, .int .u64 0] 28)) := (Below.refl _ _).alloc (Nat.le_refl _) _
          have g8 : w.heap.size ≤ x28.heap.size := ((hS1 _).1 hS).2.size
          have d8 : w4.heap.size < x28.heap.size := ((hS1 _).1 hS).1.lt
          have d89 : b9 < x28.heap.size := h9.lt
          replace h9 := h9.below hY
          refine hK.out _ _ (step _ _ hS hY) (fun hS => ?_)
          clear hK K hY
          generalize x28.alloc (.cells #[.int .u32 0, .int .u64 0] 28) = x29 at *
          generalize x28.heap.size = b8 at *
          refine anyH_store_S 8 (by kernel_rfl) rfl rfl (Operand.tmp 8) (Operand.tmp 28) rfl rfl b8 (.int .u32 (cx.toNat : Int)) (.int .u64 (mx.toNat : Int)) (by kernel_rfl) (by kernel_rfl) h8 ⟨rfl, rfl⟩ ((hS1 _).2 ⟨((hS1 _).1 hS).1.other (by omega), below_setRow ((hS1 _).1 hS).2 g8⟩) (fun hS => ?_)
          replace h9 := SAt.other (cs := #[.int .u32 (cx.toNat : Int), .int .u64 (mx.toNat : Int)]) h9 (show b9 ≠ b8 by omega)
          replace h8 := setRow_S h8 (.int .u32 (cx.toNat : Int)) (.int .u64 (mx.toNat : Int))
          refine anyH_store_S 9 (by kernel_rfl) rfl rfl (Operand.tmp 9) (Operand.tmp 31) rfl rfl b9 (.int .u32 (cy.toNat : Int)) (.int .u64 (my.toNat : Int)) (by kernel_rfl) (by kernel_rfl) h9 ⟨rfl, rfl⟩ ((hS1 _).2 ⟨((hS1 _).1 hS).1.other (by omega), below_setRow ((hS1 _).1 hS).2 g9⟩) (fun hS => ?_)
          replace h8 := SAt.other (cs := #[.int .u32 (cy.toNat : Int), .int .u64 (my.toNat : Int)]) h8 (show b8 ≠ b9 by omega)
          replace h9 := setRow_S h9 (.int .u32 (cy.toNat : Int)) (.int .u64 (my.toNat : Int))
          refine wpAnyH_done (by kernel_rfl) ?_ _
          go_wp2
          go_meet
          case rel => exact ⟨b8, b9, rfl, rfl, h8, h9, ((hS1 _).1 hS).1, ((hS1 _).1 hS).2⟩
        · go_simp
          have h8 : SAt (x27.alloc (.cells #[.int .u32 0, .int .u64 0] 28)) x27.heap.size (.int .u32 0) (.int .u64 0) := heap_new _ _
          have hY : Below x27.heap.size x27 (x27.alloc (.cells #[.int .u32 0, .int .u64 0] 28)) := (Below.refl _ _).alloc (Nat.le_refl _) _
          have g8 : w.heap.size ≤ x27.heap.size := ((hS1 _).1 hS).2.size
          have d8 : w4.heap.size < x27.heap.size := ((hS1 _).1 hS).1.lt
          have d89 : b9 < x27.heap.size := h9.lt
          replace h9 := h9.below hY
          refine hK.out _ _ (step _ _ hS hY) (fun hS => ?_)
          clear hK K hY
          generalize x27.alloc (.cells #[.int .u32 0, .int .u64 0] 28) = x30 at *
          generalize x27.heap.size = b8 at *
          refine wpAnyH_ready (rs := [5]) (by kernel_rfl) (by simp) ?_
          refine AllReadyH.cons rfl (fun K hK => ?_) AllReadyH.nil
          go_simp
          refine (A2.out _ (ReadsCells.below HC.out ((hS1 _).1 hS).2)).mono ?_
          rintro e x31 ⟨rfl, hY⟩
          refine hK.out _ _ (step _ _ hS hY) (fun hS => ?_)
          clear hK K
          replace h8 := h8.below hY
          replace h9 := h9.below hY
          clear hY
          refine anyH_store_S 8 (by kernel_rfl) rfl rfl (Operand.tmp 8) (Operand.tmp 28) rfl rfl b8 (.int .u32 (cx.toNat : Int)) (.int .u64 (mx.toNat : Int)) (by kernel_rfl) (by kernel_rfl) h8 ⟨rfl, rfl⟩ ((hS1 _).2 ⟨((hS1 _).1 hS).1.other (by omega), below_setRow ((hS1 _).1 hS).2 g8⟩) (fun hS => ?_)
          replace h9 := SAt.other (cs := #[.int .u32 (cx.toNat : Int), .int .u64 (mx.toNat : Int)]) h9 (show b9 ≠ b8 by omega)
          replace h8 := setRow_S h8 (.int .u32 (cx.toNat : Int)) (.int .u64 (mx.toNat : Int))
          refine anyH_store_S 9 (by kernel_rfl) rfl rfl (Operand.tmp 9) (Operand.tmp 31) rfl rfl b9 (.int .u32 (cy.toNat : Int)) (.int .u64 (my.toNat : Int)) (by kernel_rfl) (by kernel_rfl) h9 ⟨rfl, rfl⟩ ((hS1 _).2 ⟨((hS1 _).1 hS).1.other (by omega), below_setRow ((hS1 _).1 hS).2 g9⟩) (fun hS => ?_)
          replace h8 := SAt.other (cs := #[.int .u32 (cy.toNat : Int), .int .u64 (my.toNat : Int)]) h8 (show b8 ≠ b9 by omega)
          replace h9 := setRow_S h9 (.int .u32 (cy.toNat : Int)) (.int .u64 (my.toNat : Int))
          refine wpAnyH_done (by kernel_rfl) ?_ _
          go_wp2
          go_meet
          case rel => exact ⟨b8, b9, rfl, rfl, h8, h9, ((hS1 _).1 hS).1, ((hS1 _).1 hS).2⟩
      · go_simp
        have h8 : SAt (x26.alloc (.cells #[.int .u32 0, .int .u64 0] 28)) x26.heap.size (.int .u32 0) (.int .u64 0) := heap_new _ _
        have hY : Below x26.heap.size x26 (x26.alloc (.cells #[.int .u32 0, .int .u64 0] 28)) := (Below.refl _ _).alloc (Nat.le_refl _) _
        have g8 : w.heap.size ≤ x26.heap.size := ((hS1 _).1 hS).2.size
        have d8 : w4.heap.size < x26.heap.size := ((hS1 _).1 hS).1.lt
        have d89 : b9 < x26.heap.size := h9.lt
        replace h9 := h9.below hY
        refine hK.out _ _ (step _ _ hS hY) (fun hS => ?_)
        clear hK K hY
        generalize x26.alloc (.cells #[.int .u32 0, .int .u64 0] 28) = x32 at *
        generalize x26.heap.size = b8 at *
        refine wpAnyH_ready (rs := [2]) (by kernel_rfl) (by simp) ?_
        refine AllReadyH.cons rfl (fun K hK => ?_) AllReadyH.nil
        go_simp
        refine (A1.out _ (ReadsCells.below HB.out ((hS1 _).1 hS).2)).mono ?_
        rintro e x33 ⟨rfl, hY⟩
        refine hK.out _ _ (step _ _ hS hY) (fun hS => ?_)
        clear hK K
        replace h8 := h8.below hY
        replace h9 := h9.below hY
        clear hY
        refine wpAnyH_ready (rs := [5]) (by kernel_rfl) (by simp) ?_
        refine AllReadyH.cons rfl (fun K hK => ?_) AllReadyH.nil
        go_simp
        refine (A2.out _ (ReadsCells.below HC.out ((hS1 _).1 hS).2)).mono ?_
        rintro e x34 ⟨rfl, hY⟩
        refine hK.out _ _ (step _ _ hS hY) (fun hS => ?_)
        clear hK K
        replace h8 := h8.below hY
        replace h9 := h9.below hY
        clear hY
        refine anyH_store_S 8 (by kernel_rfl) rfl rfl (Operand.tmp 8) (Operand.tmp 28) rfl rfl b8 (.int .u32 (cx.toNat : Int)) (.int .u64 (mx.toNat : Int)) (by kernel_rfl) (by kernel_rfl) h8 ⟨rfl, rfl⟩ ((hS1 _).2 ⟨((hS1 _).1 hS).1.other (by omega), below_setRow ((hS1 _).1 hS).2 g8⟩) (fun hS => ?_)
        replace h9 := SAt.other (cs := #[.int .u32 (cx.toNat : Int), .int .u64 (mx.toNat : Int)]) h9 (show b9 ≠ b8 by omega)
        replace h8 := setRow_S h8 (.int .u32 (cx.toNat : Int)) (.int .u64 (mx.toNat : Int))
        refine anyH_store_S 9 (by kernel_rfl) rfl rfl (Operand.tmp 9) (Operand.tmp 31) rfl rfl b9 (.int .u32 (cy.toNat : Int)) (.int .u64 (my.toNat : Int)) (by kernel_rfl) (by kernel_rfl) h9 ⟨rfl, rfl⟩ ((hS1 _).2 ⟨((hS1 _).1 hS).1.other (by omega), below_setRow ((hS1 _).1 hS).2 g9⟩) (fun hS => ?_)
        replace h8 := SAt.other (cs := #[.int .u32 (cy.toNat : Int), .int .u64 (my.toNat : Int)]) h8 (show b8 ≠ b9 by omega)
        replace h9 := setRow_S h9 (.int .u32 (cy.toNat : Int)) (.int .u64 (my.toNat : Int))
        refine wpAnyH_done (by kernel_rfl) ?_ _
        go_wp2
        go_meet
        case rel => exact ⟨b8, b9, rfl, rfl, h8, h9, ((hS1 _).1 hS).1, ((hS1 _).1 hS).2⟩
  case rest =>
    obtain ⟨b8, b9, rfl, rfl, h8, h9, h7, hB6⟩ := hcut
    clear hB5 hS5
    generalize w4.heap.size = b7 at *
    go_upto_region 7 with (go_at_call 7; refine (A0.out _ (ReadsCells.below HA.out hB6)).mono ?_; rintro e w7 ⟨rfl, hB7⟩; have hB7' := bel hB6 hB7)
    generalize hw8 : w7.alloc (.cells #[.int .u32 (cs.toNat : Int), .int .u64 (ms.toNat : Int)] 28) = w8 at *
    have hb8 : Below w7.heap.size w7 w8 := by rw [← hw8]; exact (Below.refl _ _).alloc (Nat.le_refl _) _
    have h10 : SAt w8 w7.heap.size (.int .u32 (cs.toNat : Int)) (.int .u64 (ms.toNat : Int)) := by rw [← hw8]; exact heap_new w7 _
    replace h7 := (h7.below hB7).below hb8
    replace h8 := (h8.below hB7).below hb8
    replace h9 := (h9.below hB7).below hb8
    have hB8 := bel hB7' hb8
    clear hw8 hb8 hB7 hB7' hB6
    generalize w7.heap.size = b10 at *
    clear A0 HA
    obtain ⟨S, hS1⟩ : ∃ S : World → Prop, ∀ W, S W ↔ SAt W b7 (.int .u32 (cs.toNat : Int)) (.int .u64 (ms.toNat : Int)) ∧ SAt W b8 (.int .u32 (cx.toNat : Int)) (.int .u64 (mx.toNat : Int)) ∧ SAt W b9 (.int .u32 (cy.toNat : Int)) (.int .u64 (my.toNat : Int)) ∧ SAt W b10 (.int .u32 (cs.toNat : Int)) (.int .u64 (ms.toNat : Int)) ∧ Below w.heap.size w W := ⟨_, fun _ => Iff.rfl⟩
    have step : ∀ W W', S W → Below W.heap.size W W' → S W' := fun W W' h hb => by
      obtain ⟨h1, h2, h3, h4, h5⟩ := (hS1 W).1 h
      exact (hS1 W').2 ⟨h1.below hb, h2.below hb, h3.below hb, h4.below hb, bel h5 hb⟩
    refine wp_region_held_drew (S := S) (by kernel_rfl) (step _ _ ((hS1 _).2 ⟨h7, h8, h9, h10, hB8⟩) ((Below.refl _ _).drew)) (fun hS => ?_)
    clear h7 h8 h9 h10 hB8
    refine takeH 0 35 ((Value.func (.func 8) #[] #[])) rfl rfl (by kernel_rfl) (by kernel_rfl) (by kernel_rfl) (fun _ _ _ h => h) (Or.inl ⟨by kernel_rfl, fun W _ => by go_simp⟩) hS ?_
    simp only [Act.put, List.setIfInBounds_toArray, List.set_cons_zero, List.set_cons_succ]
    refine takeH 1 36 (sv (cs) (ms)) rfl rfl (by kernel_rfl) (by kernel_rfl) (by kernel_rfl) (fun _ _ _ h => h) (hy_load_S (Operand.tmp 7) rfl (by kernel_rfl) (b7) _ _ (by kernel_rfl) (fun W h => ((hS1 W).1 h).1)) hS ?_
    simp only [Act.put, List.setIfInBounds_toArray, List.set_cons_zero, List.set_cons_succ]
    refine takeH 2 37 (sv (cs) (ms)) rfl rfl (by kernel_rfl) (by kernel_rfl) (by kernel_rfl) (fun _ _ _ h => h) (hy_load_S (Operand.tmp 10) rfl (by kernel_rfl) (b10) _ _ (by kernel_rfl) (fun W h => ((hS1 W).1 h).2.2.2.1)) hS ?_
    simp only [Act.put, List.setIfInBounds_toArray, List.set_cons_zero, List.set_cons_succ]
    refine wpAnyH_ready (rs := [3]) (by kernel_rfl) (by simp) ?_
    refine AllReadyH.cons rfl (fun K hK => ?_) AllReadyH.nil
    go_simp
    refine (same_self cs ms _).mono ?_
    rintro e x35 ⟨rfl, hY⟩
    refine hK.out _ _ (step _ _ hS hY) (fun hS => ?_)
    clear hK K
    clear hY
    refine takeH 4 39 (.bool true) rfl rfl (by kernel_rfl) (by kernel_rfl) (by kernel_rfl) (fun _ _ _ h => h) (Or.inl ⟨by kernel_rfl, fun W _ => by go_simp⟩) hS ?_
    simp only [Act.put, List.setIfInBounds_toArray, List.set_cons_zero, List.set_cons_succ]
    refine takeH 5 40 ((Value.func (.func 8) #[] #[])) rfl rfl (by kernel_rfl) (by kernel_rfl) (by kernel_rfl) (fun _ _ _ h => h) (Or.inl ⟨by kernel_rfl, fun W _ => by go_simp⟩) hS ?_
    simp only [Act.put, List.setIfInBounds_toArray, List.set_cons_zero, List.set_cons_succ]
    refine takeH 6 41 (sv (cx) (mx)) rfl rfl (by kernel_rfl) (by kernel_rfl) (by kernel_rfl) (fun _ _ _ h => h) (hy_load_S (Operand.tmp 8) rfl (by kernel_rfl) (b8) _ _ (by kernel_rfl) (fun W h => ((hS1 W).1 h).2.1)) hS ?_
    simp only [Act.put, List.setIfInBounds_toArray, List.set_cons_zero, List.set_cons_succ]
    refine takeH 7 42 (sv (cs) (ms)) rfl rfl (by kernel_rfl) (by kernel_rfl) (by kernel_rfl) (fun _ _ _ h => h) (hy_load_S (Operand.tmp 10) rfl (by kernel_rfl) (b10) _ _ (by kernel_rfl) (fun W h => ((hS1 W).1 h).2.2.2.1)) hS ?_
    simp only [Act.put, List.setIfInBounds_toArray, List.set_cons_zero, List.set_cons_succ]
    refine takeH 8 43 (.slice ab lb.length cb) rfl rfl (by kernel_rfl) (by kernel_rfl) (by kernel_rfl) (fun _ _ _ h => h) (Or.inl ⟨by kernel_rfl, fun W _ => by go_simp⟩) hS ?_
    simp only [Act.put, List.setIfInBounds_toArray, List.set_cons_zero, List.set_cons_succ]
    refine wpAnyH_ready (rs := [9]) (by kernel_rfl) (by simp) ?_
    refine AllReadyH.cons rfl (fun K hK => ?_) AllReadyH.nil
    go_simp
    refine (A1.out _ (ReadsCells.below HB.out ((hS1 _).1 hS).2.2.2.2)).mono ?_
    rintro e x36 ⟨rfl, hY⟩
    refine hK.out _ _ (step _ _ hS hY) (fun hS => ?_)
    clear hK K
    clear hY
    refine wpAnyH_ready (rs := [10]) (by kernel_rfl) (by simp) ?_
    refine AllReadyH.cons rfl (fun K hK => ?_) AllReadyH.nil
    go_simp
    refine (same_self cx mx _).mono ?_
    rintro e x37 ⟨rfl, hY⟩
    refine hK.out _ _ (step _ _ hS hY) (fun hS => ?_)
    clear hK K
    clear hY
    refine takeH 11 46 (.bool true) rfl rfl (by kernel_rfl) (by kernel_rfl) (by kernel_rfl) (fun _ _ _ h => h) (Or.inl ⟨by kernel_rfl, fun W _ => by go_simp⟩) hS ?_
    simp only [Act.put, List.setIfInBounds_toArray, List.set_cons_zero, List.set_cons_succ]
    refine takeH 12 47 (.bool true) rfl rfl (by kernel_rfl) (by kernel_rfl) (by kernel_rfl) (fun _ _ _ h => h) (Or.inl ⟨by kernel_rfl, fun W _ => by go_simp⟩) hS ?_
    simp only [Act.put, List.setIfInBounds_toArray, List.set_cons_zero, List.set_cons_succ]
    refine takeH 13 48 ((Value.func (.func 8) #[] #[])) rfl rfl (by kernel_rfl) (by kernel_rfl) (by kernel_rfl) (fun _ _ _ h => h) (Or.inl ⟨by kernel_rfl, fun W _ => by go_simp⟩) hS ?_
    simp only [Act.put, List.setIfInBounds_toArray, List.set_cons_zero, List.set_cons_succ]
    refine takeH 14 49 (sv (cy) (my)) rfl rfl (by kernel_rfl) (by kernel_rfl) (by kernel_rfl) (fun _ _ _ h => h) (hy_load_S (Operand.tmp 9) rfl (by kernel_rfl) (b9) _ _ (by kernel_rfl) (fun W h => ((hS1 W).1 h).2.2.1)) hS ?_
    simp only [Act.put, List.setIfInBounds_toArray, List.set_cons_zero, List.set_cons_succ]
    refine takeH 15 50 (sv (cs) (ms)) rfl rfl (by kernel_rfl) (by kernel_rfl) (by kernel_rfl) (fun _ _ _ h => h) (hy_load_S (Operand.tmp 10) rfl (by kernel_rfl) (b10) _ _ (by kernel_rfl) (fun W h => ((hS1 W).1 h).2.2.2.1)) hS ?_
    simp only [Act.put, List.setIfInBounds_toArray, List.set_cons_zero, List.set_cons_succ]
    refine takeH 16 51 (.slice ac lc.length cc) rfl rfl (by kernel_rfl) (by kernel_rfl) (by kernel_rfl) (fun _ _ _ h => h) (Or.inl ⟨by kernel_rfl, fun W _ => by go_simp⟩) hS ?_
    simp only [Act.put, List.setIfInBounds_toArray, List.set_cons_zero, List.set_cons_succ]
    refine wpAnyH_ready (rs := [17]) (by kernel_rfl) (by simp) ?_
    refine AllReadyH.cons rfl (fun K hK => ?_) AllReadyH.nil
    go_simp
    refine (A2.out _ (ReadsCells.below HC.out ((hS1 _).1 hS).2.2.2.2)).mono ?_
    rintro e x38 ⟨rfl, hY⟩
    refine hK.out _ _ (step _ _ hS hY) (fun hS => ?_)
    clear hK K
    clear hY
    refine wpAnyH_ready (rs := [18]) (by kernel_rfl) (by simp) ?_
    refine AllReadyH.cons rfl (fun K hK => ?_) AllReadyH.nil
    go_simp
    refine (same_self cy my _).mono ?_
    rintro e x39 ⟨rfl, hY⟩
    refine hK.out _ _ (step _ _ hS hY) (fun hS => ?_)
    clear hK K
    clear hY
    refine takeH 19 54 (.bool true) rfl rfl (by kernel_rfl) (by kernel_rfl) (by kernel_rfl) (fun _ _ _ h => h) (Or.inl ⟨by kernel_rfl, fun W _ => by go_simp⟩) hS ?_
    simp only [Act.put, List.setIfInBounds_toArray, List.set_cons_zero, List.set_cons_succ]
    refine takeH 20 55 (.bool true) rfl rfl (by kernel_rfl) (by kernel_rfl) (by kernel_rfl) (fun _ _ _ h => h) (Or.inl ⟨by kernel_rfl, fun W _ => by go_simp⟩) hS ?_
    simp only [Act.put, List.setIfInBounds_toArray, List.set_cons_zero, List.set_cons_succ]
    refine takeH 21 56 ((Value.func (.func 8) #[] #[])) rfl rfl (by kernel_rfl) (by kernel_rfl) (by kernel_rfl) (fun _ _ _ h => h) (Or.inl ⟨by kernel_rfl, fun W _ => by go_simp⟩) hS ?_
    simp only [Act.put, List.setIfInBounds_toArray, List.set_cons_zero, List.set_cons_succ]
    refine takeH 23 58 (sv 0#32 0#64) rfl rfl (by kernel_rfl) (by kernel_rfl) (by kernel_rfl) (fun _ _ _ h => h) (Or.inl ⟨by kernel_rfl, fun W _ => by go_simp⟩) hS ?_
    simp only [Act.put, List.setIfInBounds_toArray, List.set_cons_zero, List.set_cons_succ]
    refine wpAnyH_ready (rs := [22]) (by kernel_rfl) (by simp) ?_
    refine AllReadyH.cons rfl (fun K hK => ?_) AllReadyH.nil
    go_simp
    refine (New_any _).mono ?_
    rintro e x40 ⟨rfl, hY⟩
    refine hK.out _ _ (step _ _ hS hY) (fun hS => ?_)
    clear hK K
    clear hY
    refine wpAnyH_ready (rs := [24]) (by kernel_rfl) (by simp) ?_
    refine AllReadyH.cons rfl (fun K hK => ?_) AllReadyH.nil
    go_simp
    refine (same_self 0#32 0#64 _).mono ?_
    rintro e x41 ⟨rfl, hY⟩
    refine hK.out _ _ (step _ _ hS hY) (fun hS => ?_)
    clear hK K
    clear hY
    refine takeH 25 60 (.bool true) rfl rfl (by kernel_rfl) (by kernel_rfl) (by kernel_rfl) (fun _ _ _ h => h) (Or.inl ⟨by kernel_rfl, fun W _ => by go_simp⟩) hS ?_
    simp only [Act.put, List.setIfInBounds_toArray, List.set_cons_zero, List.set_cons_succ]
    refine takeH 26 61 (.bool true) rfl rfl (by kernel_rfl) (by kernel_rfl) (by kernel_rfl) (fun _ _ _ h => h) (Or.inl ⟨by kernel_rfl, fun W _ => by go_simp⟩) hS ?_
    simp only [Act.put, List.setIfInBounds_toArray, List.set_cons_zero, List.set_cons_succ]
    refine wpAnyH_ready (rs := [27]) (by kernel_rfl) (by simp) ?_
    refine AllReadyH.cons rfl (fun K hK => ?_) AllReadyH.nil
    go_simp
    refine (alive8_any _).mono ?_
    rintro e x42 ⟨rfl, hY⟩
    refine hK.out _ _ (step _ _ hS hY) (fun hS => ?_)
    clear hK K
    clear hY
    refine takeH 28 63 (.bool true) rfl rfl (by kernel_rfl) (by kernel_rfl) (by kernel_rfl) (fun _ _ _ h => h) (Or.inl ⟨by kernel_rfl, fun W _ => by go_simp⟩) hS ?_
    simp only [Act.put, List.setIfInBounds_toArray, List.set_cons_zero, List.set_cons_succ]
    refine takeH 29 6 (.bool true) rfl rfl (by kernel_rfl) (by kernel_rfl) (by kernel_rfl) (fun _ _ _ h => h) (Or.inl ⟨by kernel_rfl, fun W _ => by go_simp⟩) hS ?_
    simp only [Act.put, List.setIfInBounds_toArray, List.set_cons_zero, List.set_cons_succ]
    refine wpAnyH_done (by kernel_rfl) ?_ _
    have hfin := ((hS1 _).1 hS).2.2.2.2
    go_wp2
    go_ret
    exact ⟨rfl, hfin⟩
end Go.Proofs.Ytfjgmejobldjoab.sumApart
