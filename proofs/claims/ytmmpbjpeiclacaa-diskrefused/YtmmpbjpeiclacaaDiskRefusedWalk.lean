/- The walk of the law DiskRefused, out of the contracts. -/
import Derived.Test.YtmmpbjpeiclacaaDkP
set_option linter.unusedVariables false
set_option linter.unusedSimpArgs false
namespace Go.Proofs.Ytmmpbjpeiclacaa.diskRefused
open Go.RowKit
theorem rem300 (a : Int) (h0 : 0 ≤ a) : a.tmod 300 = a % 300 := Int.tmod_eq_emod_of_nonneg h0
abbrev zX : Array Value := #[.bool false, .bool false, .int .i64 0, .int .i64 0, .slice none 0 0, .int .i64 0, .slice none 0 0, .slice none 0 0, .int .i64 0, .slice none 0 0, .int .i64 0, .bool false]
theorem two_new (w : World) : ((w.alloc (.cells zX 61)).alloc (.cells #[.pointer none, ptr w.heap.size 0] 23)).cell? ⟨w.heap.size, 0, none⟩ = some (.bool false) ∧ ((w.alloc (.cells zX 61)).alloc (.cells #[.pointer none, ptr w.heap.size 0] 23)).cell? ⟨w.heap.size + 1, 0, none⟩ = some (.pointer none) ∧ ((w.alloc (.cells zX 61)).alloc (.cells #[.pointer none, ptr w.heap.size 0] 23)).cell? ⟨w.heap.size + 1, 1, none⟩ = some (ptr w.heap.size 0) := by
  have h1 := heap_new (w.alloc (.cells zX 61)) (.cells #[.pointer none, ptr w.heap.size 0] 23)
  rw [size_alloc] at h1
  have hB := alloc1 (w.alloc (.cells zX 61)) (.cells #[.pointer none, ptr w.heap.size 0] 23)
  refine ⟨?_, Lib.cell_of_heap h1 0, Lib.cell_of_heap h1 1⟩
  rw [hB.cell (p := ⟨w.heap.size, 0, none⟩) (by rw [size_alloc]; exact Nat.lt_succ_self _), Lib.cell_of_heap (heap_new w _)]
  rfl
theorem same_below {w w' : World} (h : w' = w) : Below w.heap.size w w' := by rw [h]; exact Below.refl _ _
set_option maxHeartbeats 8000000 in
set_option maxRecDepth 100000 in
theorem walk (a0 : Int) (v1 : Value) (as9 : List Ac) (w : World) (h0 : (Lit.int .u16 a0).wf = true) (h1 : ArgA w v1 as9) :
    Calls Try.prog 5 #[.int .u16 a0, v1] w fun e w' => e = .returned (.bool true) ∧ Below w.heap.size w w' := by
  obtain ⟨hva, hla⟩ := h1
  have hb : 0 ≤ a0 ∧ a0 ≤ 65535 := by
    simp only [Lit.wf, Bool.and_eq_true, decide_eq_true_eq] at h0
    exact h0
  clear h0
  have hr := rem300 a0 hb.1
  obtain ⟨k, hk⟩ : ∃ k, k = a0 % 300 := ⟨_, rfl⟩
  rw [← hk] at hr
  have hk0 : 0 ≤ k ∧ k < 300 := by omega
  have hw1 : IntKind.i64.wrap (k + 1) = k + 1 := w64 rfl (by omega) (by omega)
  have hw0 : IntKind.i64.wrap a0 = a0 := w64 rfl (by omega) (by omega)
  have hN := New_yes (k + 1) (by omega) (by omega) w
  have HA : Hid (RAs w v1 as9) := hva
  have HLA : Hid (as9.length ≤ maxLen) := hla
  clear hva hla hk
  go_enter Try.func5, Try.ntmps5
  go_wp2_with (go_at_call 7; refine hN.mono ?_; rintro e w1 ⟨rfl, hD1, hB1⟩; have L1 := hide9 (Lt.new (Below.refl _ w) hD1 hB1); have hF := far_any (HA.out.below hB1) HLA.out; clear hN hD1)
  refine hF.mono ?_
  rintro e w2 ⟨⟨x, rfl⟩, hB2⟩
  have L2 := hide9 (L1.out.below hB2)
  have hAl := alive9_any w2
  have HB2 := hide9 (bel hB1 hB2)
  clear hF L1 hB1 hB2
  cases x with
  | true =>
    go_wp2_with (go_at_call 10; refine hAl.mono ?_; rintro e w3 ⟨rfl, hB3⟩)
    go_ret
    exact ⟨rfl, bel HB2.out hB3⟩
  | false =>
    clear hAl
    have hSh := short_any (HA.out.below HB2.out) HLA.out
    have hbs : (as9.take 60).length ≤ 60 := by simp; omega
    generalize as9.take 60 = bs at *
    go_wp2_with (go_at_call 11; refine hSh.mono ?_; rintro e w6 ⟨v6, rfl, hv6, he⟩; replace he := he.symm; subst he; have HV6 := hide9 (hv6 w HA.out); obtain ⟨sa, sc, rfl, hsc⟩ := HV6.out.form; clear hSh hv6)
    clear HA HLA hb hr hw1 hw0 hk0
    go_loopw [56] (fun i wr => ∃ (j : Nat) (T : Nat → Prop) (d : Dk.D), j ≤ bs.length ∧ i = .int .i64 (j : Int) ∧ Lt w T w.heap.size d wr) (fun i _ => bs.length - (intOf i).toNat)
    case atStart => exact ⟨0, _, _, Nat.zero_le _, rfl, L2.out⟩
    case round =>
      obtain ⟨j, T, d, hj, rfl, L⟩ := hrel
      clear L2 HB2
      by_cases hlt : j < bs.length
      · have hji : (j : Int) < (bs.length : Int) := by omega
        obtain ⟨_, _, ab, ao, rfl, hr, hA⟩ := RAs.at (HV6.out.below L.bel) hlt
        obtain ⟨fa, fc, hvf⟩ := hA.rb.form
        generalize bs[j] = ac at *
        obtain ⟨kind, file, n, behind, v, l, k0, k1, c0, c1⟩ := ac
        simp only at hvf
        subst hvf
        have HL := hide9 (L.below (alloc1 wr (.cells (aX ⟨kind, file, n, behind, .slice fa l.length fc, l, k0, k1, c0, c1⟩) 41)))
        have HOK := hide9 (hA.below (alloc1 wr (.cells (aX ⟨kind, file, n, behind, .slice fa l.length fc, l, k0, k1, c0, c1⟩) 41)))
        obtain ⟨r, HR⟩ : ∃ r, Hid (d.doo ⟨kind, file, n, behind, .slice fa l.length fc, l, k0, k1, c0, c1⟩ = r) := ⟨_, rfl⟩
        obtain ⟨x0, HX0⟩ : ∃ x0, Hid (d.readL 0 = x0) := ⟨_, rfl⟩
        obtain ⟨x1, HX1⟩ : ∃ x1, Hid (d.readL 1 = x1) := ⟨_, rfl⟩
        obtain ⟨q0, HQ0⟩ : ∃ q0, Hid (d.why 0 = q0) := ⟨_, rfl⟩
        obtain ⟨q1, HQ1⟩ : ∃ q1, Hid (d.why 1 = q1) := ⟨_, rfl⟩
        obtain ⟨lf, HLF⟩ : ∃ lf, Hid (d.left = lf) := ⟨_, rfl⟩
        obtain ⟨rt, HRT⟩ : ∃ rt, Hid ((if d.on = true then d.root else 0) = rt) := ⟨_, rfl⟩
        obtain ⟨re, HRE⟩ : ∃ re, Hid ((if d.on = true then (0 : Int) else 12) = re) := ⟨_, rfl⟩
        obtain ⟨o1, HO1⟩ : ∃ o1, Hid (d.on = o1) := ⟨_, rfl⟩
        have hab : AAt (wr.alloc (.cells (aX ⟨kind, file, n, behind, .slice fa l.length fc, l, k0, k1, c0, c1⟩) 41)) wr.heap.size ⟨kind, file, n, behind, .slice fa l.length fc, l, k0, k1, c0, c1⟩ := heap_new _ _
        have HAB := hide9 hab
        clear L hA hab
        go_wp2_with (first
          | ((with_reducible show wpList _ _ _ ({ op := Op.load 41 _, .. } :: _) _ _); refine wpList_load_A rfl _ rfl _ _ rfl _ hr ?_; clear hr)
          | ((with_reducible show wpList _ _ _ ({ op := Op.load 41 _, .. } :: _) _ _); refine wpList_load_A rfl _ rfl _ _ rfl _ HAB.out.range ?_)
          | (go_at_call_of 18 (Value.int .i64 0); refine (HL.out.reads 0 HX0 HQ0).mono ?_; rintro e w3 ⟨ua, uc, rfl, hu0, hB3⟩; replace HL := hide9 (HL.out.below hB3); replace HOK := hide9 (HOK.out.below hB3); replace HAB := hide9 (HAB.out.keep (hB3.block _ HAB.out.lt)); have HU0 := hide9 hu0; clear hu0 hB3)
          | (go_at_call_of 18 (Value.int .i64 1); refine (HL.out.reads 1 HX1 HQ1).mono ?_; rintro e w4 ⟨va, vc, rfl, hu1, hB4⟩; replace HL := hide9 (HL.out.below hB4); replace HOK := hide9 (HOK.out.below hB4); replace HAB := hide9 (HAB.out.keep (hB4.block _ HAB.out.lt)); replace HU0 := hide9 (HU0.out.below hB4); have HU1 := hide9 hu1; clear hu1 hB4)
          | (go_at_call 17; refine (HL.out.rootH HRT HRE).mono ?_; rintro e w5 ⟨rfl, he⟩; replace he := he.symm; subst he)
          | (go_at_call 15; refine (HL.out.leftH HLF).mono ?_; rintro e w6 ⟨rfl, hB6⟩; replace HL := hide9 (HL.out.below hB6); replace HOK := hide9 (HOK.out.below hB6); replace HAB := hide9 (HAB.out.keep (hB6.block _ HAB.out.lt)); replace HU0 := hide9 (HU0.out.below hB6); replace HU1 := hide9 (HU1.out.below hB6); clear hB6)
          | (go_at_call 14; refine (HL.out.onH HO1).mono ?_; rintro e w7 ⟨rfl, he⟩; replace he := he.symm; subst he))
        refine (HL.out.doesP _ HOK.out HR).mono ?_
        rintro e w8 ⟨rfl, L8, hO8⟩
        have HL8 := hide9 L8
        replace HU0 := hide9 (HU0.out.own hO8)
        replace HU1 := hide9 (HU1.out.own hO8)
        clear L8 hO8 HL HOK HAB
        have HRF : Hid (r.1 ≠ 0 → r.2.on = d.on → r.2 = d) := by
          show r.1 ≠ 0 → r.2.on = d.on → r.2 = d
          rw [← HR.out]
          exact doo_refused
        obtain ⟨r1, r2⟩ := r
        simp only at HL8 HRF
        by_cases hr0 : r1 = 0
        · subst hr0
          go_wp2
          exact ⟨⟨j + 1, _, _, by omega, by go_num, HL8.out⟩, by simp [intOf]; omega⟩
        · have hrb : (r1 == 0) = false := by simpa using hr0
          obtain ⟨o2, HO2⟩ : ∃ o2, Hid (r2.on = o2) := ⟨_, rfl⟩
          by_cases ho : o1 = o2
          · subst ho
            have hd : r2 = d := HRF.out hr0 (by rw [HO2.out, HO1.out])
            subst hd
            have hcx := str_beq_yes (rfl : x0 = x0)
            have hcy := str_beq_yes (rfl : x1 = x1)
            clear HRF HR hr0
            cases o1
            all_goals (
              go_wp2_with (first
                | (go_at_call 14; refine (HL8.out.onH HO2).mono ?_; rintro e w9 ⟨rfl, he⟩; replace he := he.symm; subst he)
                | (go_at_call_of 18 (Value.int .i64 0); refine (HL8.out.reads 0 HX0 HQ0).mono ?_; rintro e w3 ⟨ya, yc, rfl, hu0, hB3⟩; replace HL8 := hide9 (HL8.out.below hB3); replace HU0 := hide9 (HU0.out.below hB3); replace HU1 := hide9 (HU1.out.below hB3); have HY0 := hide9 hu0; clear hu0 hB3)
                | (go_at_call_of 18 (Value.int .i64 1); refine (HL8.out.reads 1 HX1 HQ1).mono ?_; rintro e w4 ⟨za, zc, rfl, hu1, hB4⟩; replace HL8 := hide9 (HL8.out.below hB4); replace HU0 := hide9 (HU0.out.below hB4); replace HU1 := hide9 (HU1.out.below hB4); replace HY0 := hide9 (HY0.out.below hB4); have HY1 := hide9 hu1; clear hu1 hB4)
                | (go_at_call 17; refine (HL8.out.rootH HRT HRE).mono ?_; rintro e w5 ⟨rfl, he⟩; replace he := he.symm; subst he; have v1 := HU0.out.conv; have v2 := HU1.out.conv; have v3 := HY0.out.conv; have v4 := HY1.out.conv)
                | (go_at_call 15; refine (HL8.out.leftH HLF).mono ?_; rintro e w6 ⟨rfl, hB6⟩; replace HL8 := hide9 (HL8.out.below hB6); clear hB6))
              exact ⟨⟨j + 1, _, _, by omega, by go_num, HL8.out⟩, by simp [intOf]; omega⟩)
          · rcases (by cases o1 <;> cases o2 <;> simp_all : (o1 = true ∧ o2 = false) ∨ (o1 = false ∧ o2 = true)) with ⟨rfl, rfl⟩ | ⟨rfl, rfl⟩
            all_goals (
              go_wp2_with (go_at_call 14; refine (HL8.out.onH HO2).mono ?_; rintro e w7 ⟨rfl, he⟩; replace he := he.symm; subst he)
              exact ⟨⟨j + 1, _, _, by omega, by go_num, HL8.out⟩, by simp [intOf]; omega⟩)
      · have hji : ¬ (j : Int) < (bs.length : Int) := by omega
        have HB := hide9 L.bel
        clear L HV6
        go_wp2
        obtain ⟨z0, z1, z2⟩ := two_new wr
        have HB2 := hide9 (bel HB.out (two_boxes wr (.cells zX 61) (.cells #[.pointer none, ptr wr.heap.size 0] 23)))
        generalize hW2 : (wr.alloc (.cells zX 61)).alloc (.cells #[.pointer none, ptr wr.heap.size 0] 23) = W2 at *
        clear hW2 HB
        generalize wr.heap.size = zb at *
        have Z0 := hide9 z0
        clear z0
        go_loopw [133] (fun i wr => (i = .int .i64 0 ∨ i = .int .i64 1 ∨ i = .int .i64 2) ∧ Below W2.heap.size W2 wr ∧ Below w.heap.size w wr) (fun i _ => 2 - (intOf i).toNat)
        case atStart => exact ⟨.inl rfl, Below.refl _ _, HB2.out⟩
        case round =>
          obtain ⟨hi, hE, hBB⟩ := hrel
          have y1 := (hE.cell (p := ⟨zb + 1, 0, none⟩) (cell_lt z1)).trans z1
          have y2 := (hE.cell (p := ⟨zb + 1, 1, none⟩) (cell_lt z2)).trans z2
          have Y0 := hide9 ((hE.cell (p := ⟨zb, 0, none⟩) (cell_lt Z0.out)).trans Z0.out)
          rcases hi with rfl | rfl | rfl
          · have HM : Hid (Made wr (.pointer none) false) := .inl ⟨rfl, rfl⟩
            have HE : Hid (Below W2.heap.size W2 wr) := hE
            have HB : Hid (Below w.heap.size w wr) := hBB
            clear hE hBB
            go_wp2_with (first
              | (go_at_call 21; refine (Arm_no HM.out 1 true).mono ?_; rintro e wn ⟨rfl, he⟩; replace he := he.symm; subst he)
              | (go_at_call 19; refine (Fail_no HM.out).mono ?_; rintro e wn ⟨rfl, he⟩; replace he := he.symm; subst he)
              | (go_at_call 18; refine (Read_nil HM.out 0).mono ?_; rintro e wn ⟨rfl, he⟩; replace he := he.symm; subst he)
              | (go_at_call 17; refine (Root_no HM.out).mono ?_; rintro e wn ⟨rfl, he⟩; replace he := he.symm; subst he)
              | (go_at_call 22; refine (Append_no HM.out 0 none 0 0).mono ?_; rintro e wn ⟨rfl, hY⟩; replace HM := hide9 (HM.out.below hY); replace HB := hide9 (bel HB.out hY); replace HE := hide9 (bel HE.out hY); clear hY)
              | (go_at_call 23; refine (Sync_no HM.out 0).mono ?_; rintro e wn ⟨rfl, hY⟩; replace HM := hide9 (HM.out.below hY); replace HB := hide9 (bel HB.out hY); replace HE := hide9 (bel HE.out hY); clear hY)
              | (go_at_call 24; refine (Truncate_no HM.out 0 0).mono ?_; rintro e wn ⟨rfl, hY⟩; replace HM := hide9 (HM.out.below hY); replace HB := hide9 (bel HB.out hY); replace HE := hide9 (bel HE.out hY); clear hY)
              | (go_at_call 25; refine (Switch_no HM.out 0).mono ?_; rintro e wn ⟨rfl, hY⟩; replace HM := hide9 (HM.out.below hY); replace HB := hide9 (bel HB.out hY); replace HE := hide9 (bel HE.out hY); clear hY)
              | (go_at_call 20; refine (Start_no HM.out 0 0 false false).mono ?_; rintro e wn ⟨rfl, hY⟩; replace HM := hide9 (HM.out.below hY); replace HB := hide9 (bel HB.out hY); replace HE := hide9 (bel HE.out hY); clear hY)
              | (go_at_call 15; refine (Left_no HM.out).mono ?_; rintro e wn ⟨rfl, he⟩; replace he := he.symm; subst he)
              | (go_at_call 14; refine (On_no HM.out).mono ?_; rintro e wn ⟨rfl, he⟩; replace he := he.symm; subst he))
            exact ⟨⟨.inr (.inl rfl), HE.out, HB.out⟩, by simp [intOf]⟩
          · have HM : Hid (Made wr (ptr zb 0) false) := .inr ⟨zb, rfl, Y0.out⟩
            have HE : Hid (Below W2.heap.size W2 wr) := hE
            have HB : Hid (Below w.heap.size w wr) := hBB
            clear hE hBB
            go_wp2_with (first
              | (go_at_call 21; refine (Arm_no HM.out 1 true).mono ?_; rintro e wn ⟨rfl, he⟩; replace he := he.symm; subst he)
              | (go_at_call 19; refine (Fail_no HM.out).mono ?_; rintro e wn ⟨rfl, he⟩; replace he := he.symm; subst he)
              | (go_at_call 18; refine (Read_nil HM.out 0).mono ?_; rintro e wn ⟨rfl, he⟩; replace he := he.symm; subst he)
              | (go_at_call 17; refine (Root_no HM.out).mono ?_; rintro e wn ⟨rfl, he⟩; replace he := he.symm; subst he)
              | (go_at_call 22; refine (Append_no HM.out 0 none 0 0).mono ?_; rintro e wn ⟨rfl, hY⟩; replace HM := hide9 (HM.out.below hY); replace HB := hide9 (bel HB.out hY); replace HE := hide9 (bel HE.out hY); clear hY)
              | (go_at_call 23; refine (Sync_no HM.out 0).mono ?_; rintro e wn ⟨rfl, hY⟩; replace HM := hide9 (HM.out.below hY); replace HB := hide9 (bel HB.out hY); replace HE := hide9 (bel HE.out hY); clear hY)
              | (go_at_call 24; refine (Truncate_no HM.out 0 0).mono ?_; rintro e wn ⟨rfl, hY⟩; replace HM := hide9 (HM.out.below hY); replace HB := hide9 (bel HB.out hY); replace HE := hide9 (bel HE.out hY); clear hY)
              | (go_at_call 25; refine (Switch_no HM.out 0).mono ?_; rintro e wn ⟨rfl, hY⟩; replace HM := hide9 (HM.out.below hY); replace HB := hide9 (bel HB.out hY); replace HE := hide9 (bel HE.out hY); clear hY)
              | (go_at_call 20; refine (Start_no HM.out 0 0 false false).mono ?_; rintro e wn ⟨rfl, hY⟩; replace HM := hide9 (HM.out.below hY); replace HB := hide9 (bel HB.out hY); replace HE := hide9 (bel HE.out hY); clear hY)
              | (go_at_call 15; refine (Left_no HM.out).mono ?_; rintro e wn ⟨rfl, he⟩; replace he := he.symm; subst he)
              | (go_at_call 14; refine (On_no HM.out).mono ?_; rintro e wn ⟨rfl, he⟩; replace he := he.symm; subst he))
            exact ⟨⟨.inr (.inr rfl), HE.out, HB.out⟩, by simp [intOf]⟩
          · have hAl := alive9_any wr
            go_wp2_with (go_at_call 10; refine hAl.mono ?_; rintro e w3 ⟨rfl, hB3⟩)
            go_ret
            exact ⟨rfl, bel hBB hB3⟩
end Go.Proofs.Ytmmpbjpeiclacaa.diskRefused
