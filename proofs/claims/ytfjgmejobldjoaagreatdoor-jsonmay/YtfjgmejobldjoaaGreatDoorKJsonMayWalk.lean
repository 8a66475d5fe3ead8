/- The walk of JsonMay. -/
import Derived.Test.YtfjgmejobldjoaaGreatDoorKZU
import Derived.Test.YtfjgmejobldjoaaGreatDoorKZI
import Derived.Test.YtfjgmejobldjoaaGreatDoorKZJ
import Derived.Test.YtfjgmejobldjoaaGreatDoorKZH
import Derived.Test.YtfjgmejobldjoaaGreatDoorKArgV
set_option linter.unusedVariables false
set_option linter.unusedSimpArgs false
namespace Go.Proofs.YtfjgmejobldjoaaGreatDoor.jsonMay
open Go.RowKit
theorem hy_load_V {ops : Array Oper} {S : World → Prop} {o : Oper} {a : Act} (x : Operand) (ho : o.op = .load 25 x) (hw : Region.wanted o (yielded ops a.tmps) = true) (b : Nat) (x0 x1 x2 x3 : Value) (hx : a.eval x = .pointer (some ⟨b, 0, none⟩)) (h : ∀ W, S W → VAt W b x0 x1 x2 x3) : YieldsIf Tryz.prog ops S o (vv x0 x1 x2 x3) a :=
  (.inl ⟨hw, fun w hs => by
    unfold execOp
    rw [ho]
    simp only [hx, Sem.run_bind, loadAt_V (h w hs), Result.andThen, Sem.run_pure]⟩)
set_option maxHeartbeats 8000000 in
set_option maxRecDepth 100000 in
theorem walk (ta : Jsn.J) (va : Value) (tb : Jsn.J) (vb : Value) (w : World) (h1 : ArgV w va ta) (h2 : ArgV w vb tb) (_hE : True) :
    Calls Tryz.prog 3 #[va, vb] w fun e w' => e = .returned (.bool true) ∧ Below w.heap.size w w' := by
  obtain ⟨hva, hfa⟩ := h1
  obtain ⟨hvb, hfb⟩ := h2
  obtain ⟨aa, na, ca, ab, nb, cb, rfl⟩ := hva.shape
  obtain ⟨ba, ma, da, bb, mb, db, rfl⟩ := hvb.shape
  have hB2 : Below w.heap.size w ((w.alloc (.cells #[.int .i64 ta.kind, .string (str ta.text), .slice aa na ca, .slice ab nb cb] 25)).alloc (.cells #[.int .i64 tb.kind, .string (str tb.text), .slice ba ma da, .slice bb mb db] 25)) := ((Below.refl _ w).alloc (Nat.le_refl _) _).alloc (by simp) _
  have hV2 : VAt ((w.alloc (.cells #[.int .i64 ta.kind, .string (str ta.text), .slice aa na ca, .slice ab nb cb] 25)).alloc (.cells #[.int .i64 tb.kind, .string (str tb.text), .slice ba ma da, .slice bb mb db] 25)) w.heap.size (.int .i64 ta.kind) (.string (str ta.text)) (.slice aa na ca) (.slice ab nb cb) := VAtb (val_new w _) ((Below.refl _ _).alloc (Nat.le_refl _) _)
  have hU2 : VAt ((w.alloc (.cells #[.int .i64 ta.kind, .string (str ta.text), .slice aa na ca, .slice ab nb cb] 25)).alloc (.cells #[.int .i64 tb.kind, .string (str tb.text), .slice ba ma da, .slice bb mb db] 25)) (w.heap.size + 1) (.int .i64 tb.kind) (.string (str tb.text)) (.slice ba ma da) (.slice bb mb db) := by
    have := val_new (w.alloc (.cells #[.int .i64 ta.kind, .string (str ta.text), .slice aa na ca, .slice ab nb cb] 25)) (.cells #[.int .i64 tb.kind, .string (str tb.text), .slice ba ma da, .slice bb mb db] 25)
    rw [show (w.alloc (.cells #[.int .i64 ta.kind, .string (str ta.text), .slice aa na ca, .slice ab nb cb] 25)).heap.size = w.heap.size + 1 by simp] at this
    exact this
  have FA := hideN (fun W hB => far_any ta _ W (hva.below hB) hfa)
  have FB := hideN (fun W hB => far_any tb _ W (hvb.below hB) hfb)
  have HVA := hideN hva
  have HVB := hideN hvb
  clear hva hvb hfa hfb
  go_enter Tryz.func3, Tryz.ntmps3
  go_upto_region 1 with fail
  generalize ((w.alloc (.cells #[.int .i64 ta.kind, .string (str ta.text), .slice aa na ca, .slice ab nb cb] 25)).alloc (.cells #[.int .i64 tb.kind, .string (str tb.text), .slice ba ma da, .slice bb mb db] 25)) = w2 at *
  go_wp2_with (first
    | ((with_reducible show wpList _ _ _ ({ op := Op.load 25 _, .. } :: _) _ _); refine wpList_load_V _ rfl rfl _ _ _ _ _ rfl hV2 ?_)
    | (go_at_call 5; fail))
  refine (FA.out _ hB2).mono ?_
  rintro e w3 ⟨hB3, far, rfl, hfar⟩
  have hV3 := VAtb hV2 hB3
  have hU3 := VAtb hU2 hB3
  have hB3' := bel hB2 hB3
  clear hV2 hU2 hB2 hB3
  dsimp only
  cases far with
  | true =>
    clear hfar
    go_wp2_with (go_at_call 6; refine (alive7_any _).mono ?_; rintro e w9 ⟨rfl, hB9⟩)
    go_ret
    exact ⟨rfl, bel hB3' hB9⟩
  | false =>
    have hsa : Jsn.sizeJ ta ≤ 3000 := hfar rfl
    clear hfar
    have r0 : w3.cell? ⟨w.heap.size + 1, 0, none⟩ = some (.int .i64 tb.kind) := hU3.cell 0
    have r1 : w3.cell? ⟨w.heap.size + 1, 1, none⟩ = some (.string (str tb.text)) := hU3.cell 1
    have r2 : w3.cell? ⟨w.heap.size + 1, 2, none⟩ = some (.slice ba ma da) := hU3.cell 2
    have r3 : w3.cell? ⟨w.heap.size + 1, 3, none⟩ = some (.slice bb mb db) := hU3.cell 3
    go_wp2_with (go_at_call 5; fail)
    refine (FB.out _ hB3').mono ?_
    rintro e w4 ⟨hB4, far, rfl, hfar⟩
    have hV4 := VAtb hV3 hB4
    have hU4 := VAtb hU3 hB4
    have hB4' := bel hB3' hB4
    clear hV3 hU3 hB3' hB4 r0 r1 r2 r3
    dsimp only
    cases far with
    | true =>
      clear hfar
      go_wp2_with (go_at_call 6; refine (alive7_any _).mono ?_; rintro e w9 ⟨rfl, hB9⟩)
      go_ret
      exact ⟨rfl, bel hB4' hB9⟩
    | false =>
      have hsb : Jsn.sizeJ tb ≤ 3000 := hfar rfl
      clear hfar FA FB
      have CT := hideN (fun W hB => Text_any ta _ W (HVA.out.below hB) (by omega))
      have CR := hideN (fun W hB => RTextT_any ta _ W (HVA.out.below hB) hsa)
      have CM := hideN (fun W hB => May_any ta _ W (HVA.out.below hB) (by omega))
      have CN := hideN (fun W hB => RMay_any ta _ W (HVA.out.below hB) hsa)
      have CS := hideN (fun W hB => Same_all ta tb _ _ W (HVA.out.below hB) (HVB.out.below hB) (by omega) (by omega))
      have CU := hideN (fun W hB => RSame_all ta tb _ _ W (HVA.out.below hB) (HVB.out.below hB) (by omega) (by omega))
      have CE := hideN (fun W hB => Same_all ta ta _ _ W (HVA.out.below hB) (HVA.out.below hB) (by omega) (by omega))
      rw [Jsn.sameJ_refl] at CE
      have CL := hideN alive7_any
      generalize (textR ta).1 = sx at *
      generalize (textR ta).2 = ex at *
      generalize Jsn.mayJ ta = mx at *
      generalize Jsn.sameJ ta tb = zx at *
      clear hsa hsb
      go_upto_region 5 with (first
        | ((with_reducible show wpList _ _ _ ({ op := Op.load 25 _, .. } :: _) _ _); refine wpList_load_V _ rfl rfl _ _ _ _ _ rfl hV4 ?_)
        | ((with_reducible show wpList _ _ _ ({ op := Op.load 25 _, .. } :: _) _ _); refine wpList_load_V _ rfl rfl _ _ _ _ _ rfl hV5 ?_)
        | (go_at_call 7; refine (CT.out w4 hB4').mono ?_; rintro e w5 ⟨rfl, hB5⟩; have hV5 := VAtb hV4 hB5; have hU5 := VAtb hU4 hB5; have hB5' := bel hB4' hB5)
        | (go_at_call 8; refine (CR.out w5 hB5').mono ?_; rintro e w6 ⟨rfl, hB6⟩; have hV6 := VAtb hV5 hB6; have hU6 := VAtb hU5 hB6; have hB6' := bel hB5' hB6))
      obtain ⟨S, hS1⟩ : ∃ S : World → Prop, ∀ W, S W ↔ VAt W w.heap.size (.int .i64 ta.kind) (.string (str ta.text)) (.slice aa na ca) (.slice ab nb cb) ∧ VAt W (w.heap.size + 1) (.int .i64 tb.kind) (.string (str tb.text)) (.slice ba ma da) (.slice bb mb db) ∧ Below w.heap.size w W := ⟨_, fun _ => Iff.rfl⟩
      have step : ∀ W W', S W → Below W.heap.size W W' → S W' := fun W W' h hb => by
        obtain ⟨h1, h2, h3⟩ := (hS1 W).1 h
        exact (hS1 W').2 ⟨VAtb h1 hb, VAtb h2 hb, bel h3 hb⟩
      have hsl := str_list sx
      refine wp_region_held_drew (S := S) (by kernel_rfl) (step _ _ ((hS1 _).2 ⟨hV6, hU6, hB6'⟩) ((Below.refl _ _).drew)) (fun hS => ?_)
      clear hV4 hU4 hB4' hV5 hU5 hB5 hB5' hV6 hU6 hB6 hB6' CT CR
      refine takeH 0 26 (vv (.int .i64 ta.kind) (.string (str ta.text)) (.slice aa na ca) (.slice ab nb cb)) rfl rfl (by kernel_rfl) (by kernel_rfl) (by kernel_rfl) (fun _ _ _ h => h) (hy_load_V (Operand.tmp 2) rfl (by kernel_rfl) w.heap.size _ _ _ _ (by kernel_rfl) (fun W h => ((hS1 W).1 h).1)) hS ?_
      simp only [Act.put, List.setIfInBounds_toArray, List.set_cons_zero, List.set_cons_succ]
      refine takeH 2 28 (vv (.int .i64 ta.kind) (.string (str ta.text)) (.slice aa na ca) (.slice ab nb cb)) rfl rfl (by kernel_rfl) (by kernel_rfl) (by kernel_rfl) (fun _ _ _ h => h) (hy_load_V (Operand.tmp 2) rfl (by kernel_rfl) w.heap.size _ _ _ _ (by kernel_rfl) (fun W h => ((hS1 W).1 h).1)) hS ?_
      simp only [Act.put, List.setIfInBounds_toArray, List.set_cons_zero, List.set_cons_succ]
      refine wpAnyH_ready (rs := [1]) (by kernel_rfl) (by simp) ?_
      refine AllReadyH.cons rfl (fun K hK => ?_) AllReadyH.nil
      go_simp
      refine (CM.out _ ((hS1 _).1 hS).2.2).mono ?_
      rintro e x1 ⟨rfl, hY⟩
      refine hK.out _ _ (step _ _ hS hY) (fun hS => ?_)
      clear hK K
      clear hY
      refine wpAnyH_ready (rs := [3]) (by kernel_rfl) (by simp) ?_
      refine AllReadyH.cons rfl (fun K hK => ?_) AllReadyH.nil
      go_simp
      refine (CN.out _ ((hS1 _).1 hS).2.2).mono ?_
      rintro e x2 ⟨rfl, hY⟩
      refine hK.out _ _ (step _ _ hS hY) (fun hS => ?_)
      clear hK K
      clear hY
      refine takeH 4 30 (.bool true) rfl rfl (by kernel_rfl) (by kernel_rfl) (by kernel_rfl) (fun _ _ _ h => h) (Or.inl ⟨by kernel_rfl, fun W _ => by cases mx <;> go_simp⟩) hS ?_
      simp only [Act.put, List.setIfInBounds_toArray, List.set_cons_zero, List.set_cons_succ]
      refine takeH 5 31 (.bool true) rfl rfl (by kernel_rfl) (by kernel_rfl) (by kernel_rfl) (fun _ _ _ h => h) (Or.inl ⟨by kernel_rfl, fun W _ => by go_simp⟩) hS ?_
      simp only [Act.put, List.setIfInBounds_toArray, List.set_cons_zero, List.set_cons_succ]
      refine takeH 6 32 (vv (.int .i64 ta.kind) (.string (str ta.text)) (.slice aa na ca) (.slice ab nb cb)) rfl rfl (by kernel_rfl) (by kernel_rfl) (by kernel_rfl) (fun _ _ _ h => h) (hy_load_V (Operand.tmp 2) rfl (by kernel_rfl) w.heap.size _ _ _ _ (by kernel_rfl) (fun W h => ((hS1 W).1 h).1)) hS ?_
      simp only [Act.put, List.setIfInBounds_toArray, List.set_cons_zero, List.set_cons_succ]
      refine takeH 7 33 (vv (.int .i64 tb.kind) (.string (str tb.text)) (.slice ba ma da) (.slice bb mb db)) rfl rfl (by kernel_rfl) (by kernel_rfl) (by kernel_rfl) (fun _ _ _ h => h) (hy_load_V (Operand.tmp 3) rfl (by kernel_rfl) (w.heap.size + 1) _ _ _ _ (by kernel_rfl) (fun W h => ((hS1 W).1 h).2.1)) hS ?_
      simp only [Act.put, List.setIfInBounds_toArray, List.set_cons_zero, List.set_cons_succ]
      refine takeH 9 35 (vv (.int .i64 ta.kind) (.string (str ta.text)) (.slice aa na ca) (.slice ab nb cb)) rfl rfl (by kernel_rfl) (by kernel_rfl) (by kernel_rfl) (fun _ _ _ h => h) (hy_load_V (Operand.tmp 2) rfl (by kernel_rfl) w.heap.size _ _ _ _ (by kernel_rfl) (fun W h => ((hS1 W).1 h).1)) hS ?_
      simp only [Act.put, List.setIfInBounds_toArray, List.set_cons_zero, List.set_cons_succ]
      refine takeH 10 36 (vv (.int .i64 tb.kind) (.string (str tb.text)) (.slice ba ma da) (.slice bb mb db)) rfl rfl (by kernel_rfl) (by kernel_rfl) (by kernel_rfl) (fun _ _ _ h => h) (hy_load_V (Operand.tmp 3) rfl (by kernel_rfl) (w.heap.size + 1) _ _ _ _ (by kernel_rfl) (fun W h => ((hS1 W).1 h).2.1)) hS ?_
      simp only [Act.put, List.setIfInBounds_toArray, List.set_cons_zero, List.set_cons_succ]
      refine wpAnyH_ready (rs := [8]) (by kernel_rfl) (by simp) ?_
      refine AllReadyH.cons rfl (fun K hK => ?_) AllReadyH.nil
      go_simp
      refine (CS.out _ ((hS1 _).1 hS).2.2).mono ?_
      rintro e x3 ⟨rfl, hY⟩
      refine hK.out _ _ (step _ _ hS hY) (fun hS => ?_)
      clear hK K
      clear hY
      refine wpAnyH_ready (rs := [11]) (by kernel_rfl) (by simp) ?_
      refine AllReadyH.cons rfl (fun K hK => ?_) AllReadyH.nil
      go_simp
      refine (CU.out _ ((hS1 _).1 hS).2.2).mono ?_
      rintro e x4 ⟨rfl, hY⟩
      refine hK.out _ _ (step _ _ hS hY) (fun hS => ?_)
      clear hK K
      clear hY
      refine takeH 12 38 (.bool true) rfl rfl (by kernel_rfl) (by kernel_rfl) (by kernel_rfl) (fun _ _ _ h => h) (Or.inl ⟨by kernel_rfl, fun W _ => by cases zx <;> go_simp⟩) hS ?_
      simp only [Act.put, List.setIfInBounds_toArray, List.set_cons_zero, List.set_cons_succ]
      refine takeH 13 39 (.bool true) rfl rfl (by kernel_rfl) (by kernel_rfl) (by kernel_rfl) (fun _ _ _ h => h) (Or.inl ⟨by kernel_rfl, fun W _ => by go_simp⟩) hS ?_
      simp only [Act.put, List.setIfInBounds_toArray, List.set_cons_zero, List.set_cons_succ]
      refine takeH 14 40 (.bool true) rfl rfl (by kernel_rfl) (by kernel_rfl) (by kernel_rfl) (fun _ _ _ h => h) (Or.inl ⟨by kernel_rfl, fun W _ => by go_simp⟩) hS ?_
      simp only [Act.put, List.setIfInBounds_toArray, List.set_cons_zero, List.set_cons_succ]
      refine takeH 15 41 (vv (.int .i64 ta.kind) (.string (str ta.text)) (.slice aa na ca) (.slice ab nb cb)) rfl rfl (by kernel_rfl) (by kernel_rfl) (by kernel_rfl) (fun _ _ _ h => h) (hy_load_V (Operand.tmp 2) rfl (by kernel_rfl) w.heap.size _ _ _ _ (by kernel_rfl) (fun W h => ((hS1 W).1 h).1)) hS ?_
      simp only [Act.put, List.setIfInBounds_toArray, List.set_cons_zero, List.set_cons_succ]
      refine takeH 16 42 (vv (.int .i64 ta.kind) (.string (str ta.text)) (.slice aa na ca) (.slice ab nb cb)) rfl rfl (by kernel_rfl) (by kernel_rfl) (by kernel_rfl) (fun _ _ _ h => h) (hy_load_V (Operand.tmp 2) rfl (by kernel_rfl) w.heap.size _ _ _ _ (by kernel_rfl) (fun W h => ((hS1 W).1 h).1)) hS ?_
      simp only [Act.put, List.setIfInBounds_toArray, List.set_cons_zero, List.set_cons_succ]
      refine wpAnyH_ready (rs := [17]) (by kernel_rfl) (by simp) ?_
      refine AllReadyH.cons rfl (fun K hK => ?_) AllReadyH.nil
      go_simp
      refine (CE.out _ ((hS1 _).1 hS).2.2).mono ?_
      rintro e x5 ⟨rfl, hY⟩
      refine hK.out _ _ (step _ _ hS hY) (fun hS => ?_)
      clear hK K
      clear hY
      refine takeH 18 44 (.bool true) rfl rfl (by kernel_rfl) (by kernel_rfl) (by kernel_rfl) (fun _ _ _ h => h) (Or.inl ⟨by kernel_rfl, fun W _ => by go_simp⟩) hS ?_
      simp only [Act.put, List.setIfInBounds_toArray, List.set_cons_zero, List.set_cons_succ]
      refine takeH 19 45 (.bool true) rfl rfl (by kernel_rfl) (by kernel_rfl) (by kernel_rfl) (fun _ _ _ h => h) (Or.inl ⟨by kernel_rfl, fun W _ => by go_simp⟩) hS ?_
      simp only [Act.put, List.setIfInBounds_toArray, List.set_cons_zero, List.set_cons_succ]
      refine takeH 20 46 (.string (str sx)) rfl rfl (by kernel_rfl) (by kernel_rfl) (by kernel_rfl) (fun _ _ _ h => h) (Or.inl ⟨by kernel_rfl, fun W _ => by go_simp⟩) hS ?_
      simp only [Act.put, List.setIfInBounds_toArray, List.set_cons_zero, List.set_cons_succ]
      refine takeH 21 47 (.string (str sx)) rfl rfl (by kernel_rfl) (by kernel_rfl) (by kernel_rfl) (fun _ _ _ h => h) (Or.inl ⟨by kernel_rfl, fun W _ => by go_simp⟩) hS ?_
      simp only [Act.put, List.setIfInBounds_toArray, List.set_cons_zero, List.set_cons_succ]
      refine takeH 22 48 (.bool true) rfl rfl (by kernel_rfl) (by kernel_rfl) (by kernel_rfl) (fun _ _ _ h => h) (Or.inl ⟨by kernel_rfl, fun W _ => by go_simp⟩) hS ?_
      simp only [Act.put, List.setIfInBounds_toArray, List.set_cons_zero, List.set_cons_succ]
      refine takeH 23 49 (.bool true) rfl rfl (by kernel_rfl) (by kernel_rfl) (by kernel_rfl) (fun _ _ _ h => h) (Or.inl ⟨by kernel_rfl, fun W _ => by go_simp⟩) hS ?_
      simp only [Act.put, List.setIfInBounds_toArray, List.set_cons_zero, List.set_cons_succ]
      refine takeH 24 50 (.bool true) rfl rfl (by kernel_rfl) (by kernel_rfl) (by kernel_rfl) (fun _ _ _ h => h) (Or.inl ⟨by kernel_rfl, fun W _ => by go_simp⟩) hS ?_
      simp only [Act.put, List.setIfInBounds_toArray, List.set_cons_zero, List.set_cons_succ]
      refine takeH 25 51 (.int .i64 ex) rfl rfl (by kernel_rfl) (by kernel_rfl) (by kernel_rfl) (fun _ _ _ h => h) (Or.inl ⟨by kernel_rfl, fun W _ => by go_simp⟩) hS ?_
      simp only [Act.put, List.setIfInBounds_toArray, List.set_cons_zero, List.set_cons_succ]
      refine takeH 26 52 (.int .i64 ex) rfl rfl (by kernel_rfl) (by kernel_rfl) (by kernel_rfl) (fun _ _ _ h => h) (Or.inl ⟨by kernel_rfl, fun W _ => by go_simp⟩) hS ?_
      simp only [Act.put, List.setIfInBounds_toArray, List.set_cons_zero, List.set_cons_succ]
      refine takeH 27 53 (.bool true) rfl rfl (by kernel_rfl) (by kernel_rfl) (by kernel_rfl) (fun _ _ _ h => h) (Or.inl ⟨by kernel_rfl, fun W _ => by go_simp⟩) hS ?_
      simp only [Act.put, List.setIfInBounds_toArray, List.set_cons_zero, List.set_cons_succ]
      refine takeH 28 54 (.bool true) rfl rfl (by kernel_rfl) (by kernel_rfl) (by kernel_rfl) (fun _ _ _ h => h) (Or.inl ⟨by kernel_rfl, fun W _ => by go_simp⟩) hS ?_
      simp only [Act.put, List.setIfInBounds_toArray, List.set_cons_zero, List.set_cons_succ]
      refine takeH 29 55 (.bool true) rfl rfl (by kernel_rfl) (by kernel_rfl) (by kernel_rfl) (fun _ _ _ h => h) (Or.inl ⟨by kernel_rfl, fun W _ => by go_simp⟩) hS ?_
      simp only [Act.put, List.setIfInBounds_toArray, List.set_cons_zero, List.set_cons_succ]
      refine wpAnyH_ready (rs := [30]) (by kernel_rfl) (by simp) ?_
      refine AllReadyH.cons rfl (fun K hK => ?_) AllReadyH.nil
      go_simp
      refine (CL.out _).mono ?_
      rintro e x6 ⟨rfl, hY⟩
      refine hK.out _ _ (step _ _ hS hY) (fun hS => ?_)
      clear hK K
      clear hY
      refine takeH 31 57 (.bool true) rfl rfl (by kernel_rfl) (by kernel_rfl) (by kernel_rfl) (fun _ _ _ h => h) (Or.inl ⟨by kernel_rfl, fun W _ => by go_simp⟩) hS ?_
      simp only [Act.put, List.setIfInBounds_toArray, List.set_cons_zero, List.set_cons_succ]
      refine takeH 32 4 (.bool true) rfl rfl (by kernel_rfl) (by kernel_rfl) (by kernel_rfl) (fun _ _ _ h => h) (Or.inl ⟨by kernel_rfl, fun W _ => by go_simp⟩) hS ?_
      simp only [Act.put, List.setIfInBounds_toArray, List.set_cons_zero, List.set_cons_succ]
      refine wpAnyH_done (by kernel_rfl) ?_ _
      have hfin := ((hS1 _).1 hS).2.2
      go_wp2
      go_ret
      exact ⟨rfl, hfin⟩
end Go.Proofs.YtfjgmejobldjoaaGreatDoor.jsonMay
