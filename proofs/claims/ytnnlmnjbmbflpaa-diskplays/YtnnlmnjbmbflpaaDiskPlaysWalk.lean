/- The walk of the law DiskPlays, out of the contracts. -/
import Derived.Test.YtnnlmnjbmbflpaaDkP2
import Derived.BigQuiet
set_option linter.unusedVariables false
set_option linter.unusedSimpArgs false
namespace Go.Proofs.Ytnnlmnjbmbflpaa.diskPlays
open Go.RowKit
set_option maxHeartbeats 40000000 in
set_option maxRecDepth 100000 in
theorem walk (room : Int) (v1 : Value) (as9 : List Ac) (w : World) (h0 : (Lit.int .i64 room).wf = true) (h1 : ArgA w v1 as9) :
    Calls Try.prog 3 #[.int .i64 room, v1] w fun e w' => e = .returned (.bool true) ∧ Below w.heap.size w w' := by
  obtain ⟨hva, hla⟩ := h1
  have HA : Hid (RAs w v1 as9) := hva
  have HLA : Hid (as9.length ≤ maxLen) := hla
  clear hva hla
  by_cases hr : room < 1 ∨ 1048576 < room
  · have hN := New_no room hr w
    have hM := RNew_no room hr w
    clear hr
    go_enter Try.func3, Try.ntmps3
    go_wp2_with (first
      | (go_at_call 9; refine hN.mono ?_; rintro e w1 ⟨rfl, he⟩; replace he := he.symm; subst he)
      | (go_at_call 10; refine hM.mono ?_; rintro e w2 ⟨rfl, hB2⟩)
      | (go_at_call 12; refine (alive9_any _).mono ?_; rintro e w3 ⟨rfl, hB3⟩))
    go_ret
    exact ⟨rfl, bel (bel hB2 (alloc1 _ _)) hB3⟩
  · have hr1 : 1 ≤ room := by omega
    have hr2 : room ≤ 1048576 := by omega
    have hN := New_yes room hr1 hr2 w
    have hM := fun W => RNew_yes room hr1 hr2 W
    have HM := hide9 hM
    clear hr hM
    go_enter Try.func3, Try.ntmps3
    go_wp2_with (first
      | (go_at_call 9; refine hN.mono ?_; rintro e w1 ⟨rfl, hD1, hB1⟩; have L1 := hide9 (Lt.new (Below.refl _ w) hD1 hB1); clear hN hD1)
      | (go_at_call 10; refine (HM.out _).mono ?_; rintro e w2 ⟨rfl, hB2⟩))
    have hlw : w.heap.size < w2.heap.size := Nat.lt_of_lt_of_le (L1.out.low _ rfl) hB2.size
    have hP0 : Hid (Pl w (fun k => k = w.heap.size) w.heap.size w2.heap.size (Dk.new room) (Dk.new room) (w2.alloc (.cells (rX1 room) 32))) := ⟨(L1.out.below hB2).below (alloc1 _ _), ⟨_, _, _, _, _, RAt.new (heap_new w2 _) hr1 hr2⟩, (by omega : ¬ w2.heap.size = w.heap.size), by omega⟩
    have hF := far_any (HA.out.below hP0.out.lt.bel) HLA.out
    clear L1 HM
    refine hF.mono ?_
    rintro e w3 ⟨⟨x, rfl⟩, hB3⟩
    have HP0 := hide9 (hP0.out.below hB3)
    have hAl := alive9_any w3
    clear hF hP0 hB1 hB2 hB3
    generalize w2.heap.size = rb at *
    clear hlw
    cases x with
    | true =>
      go_wp2_with (go_at_call 12; refine hAl.mono ?_; rintro e w4 ⟨rfl, hB4⟩)
      go_ret
      exact ⟨rfl, bel HP0.out.lt.bel hB4⟩
    | false =>
      clear hAl
      have hSh := short_any (HA.out.below HP0.out.lt.bel) HLA.out
      have hbs : (as9.take 60).length ≤ 60 := by simp; omega
      generalize as9.take 60 = bs at *
      go_wp2_with (go_at_call 13; refine hSh.mono ?_; rintro e w6 ⟨v6, rfl, hv6, he⟩; replace he := he.symm; subst he; have HV6 := hide9 (hv6 w HA.out); obtain ⟨sa, sc, rfl, hsc⟩ := HV6.out.form; clear hSh hv6)
      clear HA HLA
      go_loopw [46] (fun i wr => ∃ (j : Nat) (T : Nat → Prop) (d : Dk.D), j ≤ bs.length ∧ i = .int .i64 (j : Int) ∧ Pl w T w.heap.size rb d d wr) (fun i _ => bs.length - (intOf i).toNat)
      case atStart => exact ⟨0, _, _, Nat.zero_le _, rfl, HP0.out⟩
      case round =>
        obtain ⟨j, T, d, hj, rfl, hP⟩ := hrel
        clear HP0
        by_cases hlt : j < bs.length
        · have hji : (j : Int) < (bs.length : Int) := by omega
          obtain ⟨-, -, ab, ao, rfl, hr, hA⟩ := RAs.at (HV6.out.below hP.lt.bel) hlt
          have hone := one_of hA.rb
          have HA0 := hide9 (HV6.out.ok hlt)
          generalize bs[j] = ac at *
          have HNB0 : Hid (¬ T wr.heap.size) := fun hx => by have := hP.lt.low _ hx; omega
          have HBR : Hid (wr.heap.size ≠ rb) := fun e => by have := hP.re.lt; omega
          have HPP := hide9 hP
          obtain ⟨r, HR⟩ : ∃ r, Hid (d.doo ac = r) := ⟨_, rfl⟩
          obtain ⟨o1, HO1⟩ : ∃ o1, Hid (r.2.on = o1) := ⟨_, rfl⟩
          obtain ⟨lf, HLF⟩ : ∃ lf, Hid (r.2.left = lf) := ⟨_, rfl⟩
          clear hP hA
          go_wp2_with (first
            | ((with_reducible show wpList _ _ _ ({ op := Op.load 41 _, .. } :: _) _ _); refine wpList_load_A rfl _ rfl _ _ rfl ac hr ?_; clear hr)
            | ((with_reducible show wpList _ _ _ ({ op := Op.store 41 _ _, .. } :: _) _ _); refine wpList_store_A _ _ rfl rfl _ ac _ rfl rfl (heap_new _ _) rfl hone ?_; intro wn hAn hOn; have HAB := hide9 hAn; have hBn : Below wr.heap.size wr wn := (alloc1 wr _).trans (hOn.below (fun k hk => by rw [hk]; exact Nat.le_refl _) (by simp)); have HP1 := hide9 ((HPP.out.below hBn).below ((Below.refl _ wn).drew)); have HNB := HNB0; clear hOn hAn hBn HPP))
          obtain ⟨S, hS1⟩ : ∃ S : World → Prop, ∀ W', S W' ↔ W'.rangeAt wr.heap.size 0 (aX ac).toList := ⟨_, fun _ => Iff.rfl⟩
          refine wp_region_held_drew (S := S) (by kernel_rfl) ((hS1 _).2 (AAt.range (a := ac) (AAt.keep (a := ac) HAB.out rfl))) (fun hS => ?_)
          refine takeH9 0 50 (ptr w.heap.size 0) rfl rfl (by kernel_rfl) (by kernel_rfl) (by kernel_rfl) (fun _ _ _ h => h) (Or.inl ⟨by kernel_rfl, fun W _ => by go_simp⟩) hS ?_
          try simp only [Act.put, List.setIfInBounds_toArray, List.set_cons_zero, List.set_cons_succ]
          refine takeH9 1 51 (aV ac) rfl rfl (by kernel_rfl) (by kernel_rfl) (by kernel_rfl) (fun _ _ _ h => h) (yieldsIf_load_mid (by kernel_rfl) _ (.tmp 10) rfl wr.heap.size 0 (by kernel_rfl) (aX ac).toList _ (fun W h => (hS1 W).1 h) Try.underlying41 rfl sizeA) hS ?_
          try simp only [Act.put, List.setIfInBounds_toArray, List.set_cons_zero, List.set_cons_succ]
          refine takeH9 3 53 (aV ac) rfl rfl (by kernel_rfl) (by kernel_rfl) (by kernel_rfl) (fun _ _ _ h => h) (yieldsIf_load_mid (by kernel_rfl) _ (.tmp 10) rfl wr.heap.size 0 (by kernel_rfl) (aX ac).toList _ (fun W h => (hS1 W).1 h) Try.underlying41 rfl sizeA) hS ?_
          try simp only [Act.put, List.setIfInBounds_toArray, List.set_cons_zero, List.set_cons_succ]
          refine wpAnyH_ready (rs := [2]) (by kernel_rfl) (by simp) ?_
          refine AllReadyH.cons rfl (fun K hK => ?_) AllReadyH.nil
          go_simp
          refine (HP1.out.does ac HA0.out HR).mono ?_
          rintro e w2 ⟨T2, rfl, hP2, hK2⟩
          have HAB2 := hide9 (AAt.keep (a := ac) HAB.out (hK2 _ (AAt.lt (a := ac) HAB.out) HNB.out).1)
          have HNB2 := hide9 (hK2 _ (AAt.lt (a := ac) HAB.out) HNB.out).2
          have HP2 := hide9 hP2
          clear hP2 hK2
          refine hK.out _ _ ((hS1 _).2 (AAt.range (a := ac) HAB2.out)) (fun hS => ?_)
          clear hK K
          try simp only [Act.put, List.setIfInBounds_toArray, List.set_cons_zero, List.set_cons_succ]
          refine wpAnyH_ready (rs := [4]) (by kernel_rfl) (by simp) ?_
          refine AllReadyH.cons rfl (fun K hK => ?_) AllReadyH.nil
          go_simp
          refine (HP2.out.would ac HA0.out HR).mono ?_
          rintro e w3 ⟨rfl, hP3, hO3⟩
          have HAB3 := hide9 (AAt.keep (a := ac) HAB2.out (hO3.block _ (AAt.lt (a := ac) HAB2.out) HBR.out))
          have HP3 := hide9 hP3
          clear hP3 hO3
          refine hK.out _ _ ((hS1 _).2 (AAt.range (a := ac) HAB3.out)) (fun hS => ?_)
          clear hK K
          try simp only [Act.put, List.setIfInBounds_toArray, List.set_cons_zero, List.set_cons_succ]
          refine takeH9 5 55 (.bool false) rfl rfl (by kernel_rfl) (by kernel_rfl) (by kernel_rfl) (fun _ _ _ h => h) (Or.inl ⟨by kernel_rfl, fun W _ => by go_simp⟩) hS ?_
          try simp only [Act.put, List.setIfInBounds_toArray, List.set_cons_zero, List.set_cons_succ]
          refine takeH9 6 56 (.bool false) rfl rfl (by kernel_rfl) (by kernel_rfl) (by kernel_rfl) (fun _ _ _ h => h) (Or.inl ⟨by kernel_rfl, fun W _ => by go_simp⟩) hS ?_
          try simp only [Act.put, List.setIfInBounds_toArray, List.set_cons_zero, List.set_cons_succ]
          refine takeH9 7 57 (ptr w.heap.size 0) rfl rfl (by kernel_rfl) (by kernel_rfl) (by kernel_rfl) (fun _ _ _ h => h) (Or.inl ⟨by kernel_rfl, fun W _ => by go_simp⟩) hS ?_
          try simp only [Act.put, List.setIfInBounds_toArray, List.set_cons_zero, List.set_cons_succ]
          refine takeH9 9 59 (.pointer (some ⟨rb, 8, none⟩)) rfl rfl (by kernel_rfl) (by kernel_rfl) (by kernel_rfl) (fun _ _ _ h => h) (Or.inl ⟨by kernel_rfl, fun W _ => by go_simp⟩) hS ?_
          try simp only [Act.put, List.setIfInBounds_toArray, List.set_cons_zero, List.set_cons_succ]
          have c8 := HP3.out.off.1
          rw [HO1.out] at c8
          cases o1 with
          | true =>
            refine wpAnyH_ready (rs := [8, 10]) (by kernel_rfl) (by simp) ?_
            refine AllReadyH.cons rfl (fun K hK => ?_) (AllReadyH.cons rfl (fun K hK => ?_) AllReadyH.nil)
            · go_simp
              refine (HP3.out.lt.onH HO1).mono ?_
              rintro e w4 ⟨rfl, he⟩
              replace he := he.symm
              subst he
              refine hK.out _ _ ((hS1 _).2 (AAt.range (a := ac) HAB3.out)) (fun hS => ?_)
              clear hK K
              try simp only [Act.put, List.setIfInBounds_toArray, List.set_cons_zero, List.set_cons_succ]
              refine wpAnyH_ready (rs := [10]) (by kernel_rfl) (by simp) ?_
              refine AllReadyH.cons rfl (fun K hK => ?_) AllReadyH.nil
              go_simp
              refine hK.out _ _ ((hS1 _).2 (AAt.range (a := ac) HAB3.out)) (fun hS => ?_)
              clear hK K
              try simp only [Act.put, List.setIfInBounds_toArray, List.set_cons_zero, List.set_cons_succ]
              refine takeH9 11 61 (.bool false) rfl rfl (by kernel_rfl) (by kernel_rfl) (by kernel_rfl) (fun _ _ _ h => h) (Or.inl ⟨by kernel_rfl, fun W _ => by go_simp⟩) hS ?_
              try simp only [Act.put, List.setIfInBounds_toArray, List.set_cons_zero, List.set_cons_succ]
              refine takeH9 12 62 (.bool false) rfl rfl (by kernel_rfl) (by kernel_rfl) (by kernel_rfl) (fun _ _ _ h => h) (Or.inl ⟨by kernel_rfl, fun W _ => by go_simp⟩) hS ?_
              try simp only [Act.put, List.setIfInBounds_toArray, List.set_cons_zero, List.set_cons_succ]
              refine takeH9 13 63 (.bool false) rfl rfl (by kernel_rfl) (by kernel_rfl) (by kernel_rfl) (fun _ _ _ h => h) (Or.inl ⟨by kernel_rfl, fun W _ => by go_simp⟩) hS ?_
              try simp only [Act.put, List.setIfInBounds_toArray, List.set_cons_zero, List.set_cons_succ]
              refine takeH9 14 64 (ptr w.heap.size 0) rfl rfl (by kernel_rfl) (by kernel_rfl) (by kernel_rfl) (fun _ _ _ h => h) (Or.inl ⟨by kernel_rfl, fun W _ => by go_simp⟩) hS ?_
              try simp only [Act.put, List.setIfInBounds_toArray, List.set_cons_zero, List.set_cons_succ]
              refine wpAnyH_ready (rs := [15]) (by kernel_rfl) (by simp) ?_
              refine AllReadyH.cons rfl (fun K hK => ?_) AllReadyH.nil
              go_simp
              refine (HP3.out.lt.leftH HLF).mono ?_
              rintro e w5 ⟨rfl, hB5⟩
              have HP5 := hide9 (HP3.out.below hB5)
              have HAB5 := hide9 (AAt.keep (a := ac) HAB3.out (hB5.block _ (AAt.lt (a := ac) HAB3.out)))
              clear hB5
              refine hK.out _ _ ((hS1 _).2 (AAt.range (a := ac) HAB5.out)) (fun hS => ?_)
              clear hK K
              try simp only [Act.put, List.setIfInBounds_toArray, List.set_cons_zero, List.set_cons_succ]
              refine wpAnyH_ready (rs := [16]) (by kernel_rfl) (by simp) ?_
              refine AllReadyH.cons rfl (fun K hK => ?_) AllReadyH.nil
              go_simp
              refine (HP5.out.rleft HLF).mono ?_
              rintro e w6 ⟨rfl, hB6⟩
              have HP6 := hide9 (HP5.out.below hB6)
              have HAB6 := hide9 (AAt.keep (a := ac) HAB5.out (hB6.block _ (AAt.lt (a := ac) HAB5.out)))
              clear hB6
              refine hK.out _ _ ((hS1 _).2 (AAt.range (a := ac) HAB6.out)) (fun hS => ?_)
              clear hK K
              try simp only [Act.put, List.setIfInBounds_toArray, List.set_cons_zero, List.set_cons_succ]
              refine takeH9 17 67 (.bool false) rfl rfl (by kernel_rfl) (by kernel_rfl) (by kernel_rfl) (fun _ _ _ h => h) (Or.inl ⟨by kernel_rfl, fun W _ => by go_simp⟩) hS ?_
              try simp only [Act.put, List.setIfInBounds_toArray, List.set_cons_zero, List.set_cons_succ]
              refine takeH9 18 68 (.bool false) rfl rfl (by kernel_rfl) (by kernel_rfl) (by kernel_rfl) (fun _ _ _ h => h) (Or.inl ⟨by kernel_rfl, fun W _ => by go_simp⟩) hS ?_
              try simp only [Act.put, List.setIfInBounds_toArray, List.set_cons_zero, List.set_cons_succ]
              refine wpAnyH_done (by kernel_rfl) ?_ _
              obtain ⟨rt, HRT0⟩ : ∃ rt, Hid (r.2.root = rt) := ⟨_, rfl⟩
              have HRT : Hid ((if r.2.on = true then r.2.root else 0) = rt) := by
                show (if r.2.on = true then r.2.root else 0) = _
                rw [HO1.out]
                exact HRT0.out
              have HRE : Hid ((if r.2.on = true then (0 : Int) else 12) = 0) := by
                show (if r.2.on = true then (0 : Int) else 12) = _
                rw [HO1.out]
                rfl
              obtain ⟨x0, HX0⟩ : ∃ x0, Hid (r.2.readL 0 = x0) := ⟨_, rfl⟩
              obtain ⟨x1, HX1⟩ : ∃ x1, Hid (r.2.readL 1 = x1) := ⟨_, rfl⟩
              have HQ0 : Hid (r.2.why 0 = 0) := by
                show r.2.why 0 = _
                unfold Dk.D.why
                rw [HO1.out]
                rfl
              have HQ1 : Hid (r.2.why 1 = 0) := by
                show r.2.why 1 = _
                unfold Dk.D.why
                rw [HO1.out]
                rfl
              have HY0 : Hid (x0 = r.2.a.now) := by
                show x0 = _
                rw [← HX0.out]
                unfold Dk.D.readL
                rw [HQ0.out]
                rfl
              have HY1 : Hid (x1 = r.2.b.now) := by
                show x1 = _
                rw [← HX1.out]
                unfold Dk.D.readL
                rw [HQ1.out]
                rfl
              clear hS hS1 HAB6 HAB5 HAB3 HAB2 HAB HP5 HP3 HP2 HP1 c8 HLF HR HNB HNB2
              go_wp2_with (go_at_call 19; refine (HP6.out.lt.rootH HRT HRE).mono ?_; rintro e w7 ⟨rfl, he⟩; replace he := he.symm; subst he)
              go_loopw [74] (fun i wr2 => (i = .int .i64 0 ∨ i = .int .i64 1 ∨ i = .int .i64 2) ∧ Pl w T2 w.heap.size rb r.2 r.2 wr2) (fun i _ => 2 - (intOf i).toNat)
              case atStart => exact ⟨.inl rfl, HP6.out⟩
              case round =>
                obtain ⟨hi, hP7⟩ := hrel
                clear HP6
                rcases hi with rfl | rfl | rfl
                · have HP7 := hide9 hP7
                  clear hP7
                  go_wp2_with (go_at_call 20; refine (HP7.out.lt.reads 0 HX0 HQ0).mono ?_; rintro e w8 ⟨ua, uc, rfl, hu, hB8⟩; have HP8 := hide9 (HP7.out.below hB8); have HU := hide9 hu; clear hu hB8 HP7)
                  obtain ⟨c8, c6, ⟨fa, fc, c0, q0⟩, ⟨ga, gc, c3, q3⟩⟩ := HP8.out.off
                  rw [HO1.out] at c8
                  rw [HRT0.out] at c6
                  have K1 : ∀ n, (convert 27 9 (.slice ua x0.length uc)).run Try.prog (w8.drewN n) = .ok (.string (str x0)) (w8.drewN n) := fun n => conv_RB (HU.out.1.reads.below (below_drewN (Below.refl _ w8) n))
                  have K2 : ∀ n, (convert 27 9 (.slice fa r.2.a.now.length fc)).run Try.prog (w8.drewN n) = .ok (.string (str x0)) (w8.drewN n) := fun n => by rw [HY0.out]; exact conv_RB (q0.below (below_drewN (Below.refl _ w8) n))
                  have hst : ((str x0).toList == (str x0).toList) = true := by simp
                  clear q0 q3 HU
                  go_quiet (fail)
                  go_wp2
                  exact ⟨⟨.inr (.inl rfl), HP8.out.below (below_drewN (Below.refl _ w8) nq)⟩, by simp [intOf]⟩
                · have HP7 := hide9 hP7
                  clear hP7
                  go_wp2_with (go_at_call 20; refine (HP7.out.lt.reads 1 HX1 HQ1).mono ?_; rintro e w8 ⟨ua, uc, rfl, hu, hB8⟩; have HP8 := hide9 (HP7.out.below hB8); have HU := hide9 hu; clear hu hB8 HP7)
                  obtain ⟨c8, c6, ⟨fa, fc, c0, q0⟩, ⟨ga, gc, c3, q3⟩⟩ := HP8.out.off
                  rw [HO1.out] at c8
                  rw [HRT0.out] at c6
                  have K1 : ∀ n, (convert 27 9 (.slice ua x1.length uc)).run Try.prog (w8.drewN n) = .ok (.string (str x1)) (w8.drewN n) := fun n => conv_RB (HU.out.1.reads.below (below_drewN (Below.refl _ w8) n))
                  have K2 : ∀ n, (convert 27 9 (.slice ga r.2.b.now.length gc)).run Try.prog (w8.drewN n) = .ok (.string (str x1)) (w8.drewN n) := fun n => by rw [HY1.out]; exact conv_RB (q3.below (below_drewN (Below.refl _ w8) n))
                  have hst : ((str x1).toList == (str x1).toList) = true := by simp
                  clear q0 q3 HU
                  go_quiet (fail)
                  go_wp2
                  exact ⟨⟨.inr (.inr rfl), HP8.out.below (below_drewN (Below.refl _ w8) nq)⟩, by simp [intOf]⟩
                · go_wp2
                  exact ⟨⟨j + 1, _, _, by omega, by go_num, hP7⟩, by simp [intOf]; omega⟩
            · go_simp
              refine hK.out _ _ ((hS1 _).2 (AAt.range (a := ac) HAB3.out)) (fun hS => ?_)
              clear hK K
              try simp only [Act.put, List.setIfInBounds_toArray, List.set_cons_zero, List.set_cons_succ]
              refine wpAnyH_ready (rs := [8]) (by kernel_rfl) (by simp) ?_
              refine AllReadyH.cons rfl (fun K hK => ?_) AllReadyH.nil
              go_simp
              refine (HP3.out.lt.onH HO1).mono ?_
              rintro e w4 ⟨rfl, he⟩
              replace he := he.symm
              subst he
              refine hK.out _ _ ((hS1 _).2 (AAt.range (a := ac) HAB3.out)) (fun hS => ?_)
              clear hK K
              try simp only [Act.put, List.setIfInBounds_toArray, List.set_cons_zero, List.set_cons_succ]
              refine takeH9 11 61 (.bool false) rfl rfl (by kernel_rfl) (by kernel_rfl) (by kernel_rfl) (fun _ _ _ h => h) (Or.inl ⟨by kernel_rfl, fun W _ => by go_simp⟩) hS ?_
              try simp only [Act.put, List.setIfInBounds_toArray, List.set_cons_zero, List.set_cons_succ]
              refine takeH9 12 62 (.bool false) rfl rfl (by kernel_rfl) (by kernel_rfl) (by kernel_rfl) (fun _ _ _ h => h) (Or.inl ⟨by kernel_rfl, fun W _ => by go_simp⟩) hS ?_
              try simp only [Act.put, List.setIfInBounds_toArray, List.set_cons_zero, List.set_cons_succ]
              refine takeH9 13 63 (.bool false) rfl rfl (by kernel_rfl) (by kernel_rfl) (by kernel_rfl) (fun _ _ _ h => h) (Or.inl ⟨by kernel_rfl, fun W _ => by go_simp⟩) hS ?_
              try simp only [Act.put, List.setIfInBounds_toArray, List.set_cons_zero, List.set_cons_succ]
              refine takeH9 14 64 (ptr w.heap.size 0) rfl rfl (by kernel_rfl) (by kernel_rfl) (by kernel_rfl) (fun _ _ _ h => h) (Or.inl ⟨by kernel_rfl, fun W _ => by go_simp⟩) hS ?_
              try simp only [Act.put, List.setIfInBounds_toArray, List.set_cons_zero, List.set_cons_succ]
              refine wpAnyH_ready (rs := [15]) (by kernel_rfl) (by simp) ?_
              refine AllReadyH.cons rfl (fun K hK => ?_) AllReadyH.nil
              go_simp
              refine (HP3.out.lt.leftH HLF).mono ?_
              rintro e w5 ⟨rfl, hB5⟩
              have HP5 := hide9 (HP3.out.below hB5)
              have HAB5 := hide9 (AAt.keep (a := ac) HAB3.out (hB5.block _ (AAt.lt (a := ac) HAB3.out)))
              clear hB5
              refine hK.out _ _ ((hS1 _).2 (AAt.range (a := ac) HAB5.out)) (fun hS => ?_)
              clear hK K
              try simp only [Act.put, List.setIfInBounds_toArray, List.set_cons_zero, List.set_cons_succ]
              refine wpAnyH_ready (rs := [16]) (by kernel_rfl) (by simp) ?_
              refine AllReadyH.cons rfl (fun K hK => ?_) AllReadyH.nil
              go_simp
              refine (HP5.out.rleft HLF).mono ?_
              rintro e w6 ⟨rfl, hB6⟩
              have HP6 := hide9 (HP5.out.below hB6)
              have HAB6 := hide9 (AAt.keep (a := ac) HAB5.out (hB6.block _ (AAt.lt (a := ac) HAB5.out)))
              clear hB6
              refine hK.out _ _ ((hS1 _).2 (AAt.range (a := ac) HAB6.out)) (fun hS => ?_)
              clear hK K
              try simp only [Act.put, List.setIfInBounds_toArray, List.set_cons_zero, List.set_cons_succ]
              refine takeH9 17 67 (.bool false) rfl rfl (by kernel_rfl) (by kernel_rfl) (by kernel_rfl) (fun _ _ _ h => h) (Or.inl ⟨by kernel_rfl, fun W _ => by go_simp⟩) hS ?_
              try simp only [Act.put, List.setIfInBounds_toArray, List.set_cons_zero, List.set_cons_succ]
              refine takeH9 18 68 (.bool false) rfl rfl (by kernel_rfl) (by kernel_rfl) (by kernel_rfl) (fun _ _ _ h => h) (Or.inl ⟨by kernel_rfl, fun W _ => by go_simp⟩) hS ?_
              try simp only [Act.put, List.setIfInBounds_toArray, List.set_cons_zero, List.set_cons_succ]
              refine wpAnyH_done (by kernel_rfl) ?_ _
              obtain ⟨rt, HRT0⟩ : ∃ rt, Hid (r.2.root = rt) := ⟨_, rfl⟩
              have HRT : Hid ((if r.2.on = true then r.2.root else 0) = rt) := by
                show (if r.2.on = true then r.2.root else 0) = _
                rw [HO1.out]
                exact HRT0.out
              have HRE : Hid ((if r.2.on = true then (0 : Int) else 12) = 0) := by
                show (if r.2.on = true then (0 : Int) else 12) = _
                rw [HO1.out]
                rfl
              obtain ⟨x0, HX0⟩ : ∃ x0, Hid (r.2.readL 0 = x0) := ⟨_, rfl⟩
              obtain ⟨x1, HX1⟩ : ∃ x1, Hid (r.2.readL 1 = x1) := ⟨_, rfl⟩
              have HQ0 : Hid (r.2.why 0 = 0) := by
                show r.2.why 0 = _
                unfold Dk.D.why
                rw [HO1.out]
                rfl
              have HQ1 : Hid (r.2.why 1 = 0) := by
                show r.2.why 1 = _
                unfold Dk.D.why
                rw [HO1.out]
                rfl
              have HY0 : Hid (x0 = r.2.a.now) := by
                show x0 = _
                rw [← HX0.out]
                unfold Dk.D.readL
                rw [HQ0.out]
                rfl
              have HY1 : Hid (x1 = r.2.b.now) := by
                show x1 = _
                rw [← HX1.out]
                unfold Dk.D.readL
                rw [HQ1.out]
                rfl
              clear hS hS1 HAB6 HAB5 HAB3 HAB2 HAB HP5 HP3 HP2 HP1 c8 HLF HR HNB HNB2
              go_wp2_with (go_at_call 19; refine (HP6.out.lt.rootH HRT HRE).mono ?_; rintro e w7 ⟨rfl, he⟩; replace he := he.symm; subst he)
              go_loopw [74] (fun i wr2 => (i = .int .i64 0 ∨ i = .int .i64 1 ∨ i = .int .i64 2) ∧ Pl w T2 w.heap.size rb r.2 r.2 wr2) (fun i _ => 2 - (intOf i).toNat)
              case atStart => exact ⟨.inl rfl, HP6.out⟩
              case round =>
                obtain ⟨hi, hP7⟩ := hrel
                clear HP6
                rcases hi with rfl | rfl | rfl
                · have HP7 := hide9 hP7
                  clear hP7
                  go_wp2_with (go_at_call 20; refine (HP7.out.lt.reads 0 HX0 HQ0).mono ?_; rintro e w8 ⟨ua, uc, rfl, hu, hB8⟩; have HP8 := hide9 (HP7.out.below hB8); have HU := hide9 hu; clear hu hB8 HP7)
                  obtain ⟨c8, c6, ⟨fa, fc, c0, q0⟩, ⟨ga, gc, c3, q3⟩⟩ := HP8.out.off
                  rw [HO1.out] at c8
                  rw [HRT0.out] at c6
                  have K1 : ∀ n, (convert 27 9 (.slice ua x0.length uc)).run Try.prog (w8.drewN n) = .ok (.string (str x0)) (w8.drewN n) := fun n => conv_RB (HU.out.1.reads.below (below_drewN (Below.refl _ w8) n))
                  have K2 : ∀ n, (convert 27 9 (.slice fa r.2.a.now.length fc)).run Try.prog (w8.drewN n) = .ok (.string (str x0)) (w8.drewN n) := fun n => by rw [HY0.out]; exact conv_RB (q0.below (below_drewN (Below.refl _ w8) n))
                  have hst : ((str x0).toList == (str x0).toList) = true := by simp
                  clear q0 q3 HU
                  go_quiet (fail)
                  go_wp2
                  exact ⟨⟨.inr (.inl rfl), HP8.out.below (below_drewN (Below.refl _ w8) nq)⟩, by simp [intOf]⟩
                · have HP7 := hide9 hP7
                  clear hP7
                  go_wp2_with (go_at_call 20; refine (HP7.out.lt.reads 1 HX1 HQ1).mono ?_; rintro e w8 ⟨ua, uc, rfl, hu, hB8⟩; have HP8 := hide9 (HP7.out.below hB8); have HU := hide9 hu; clear hu hB8 HP7)
                  obtain ⟨c8, c6, ⟨fa, fc, c0, q0⟩, ⟨ga, gc, c3, q3⟩⟩ := HP8.out.off
                  rw [HO1.out] at c8
                  rw [HRT0.out] at c6
                  have K1 : ∀ n, (convert 27 9 (.slice ua x1.length uc)).run Try.prog (w8.drewN n) = .ok (.string (str x1)) (w8.drewN n) := fun n => conv_RB (HU.out.1.reads.below (below_drewN (Below.refl _ w8) n))
                  have K2 : ∀ n, (convert 27 9 (.slice ga r.2.b.now.length gc)).run Try.prog (w8.drewN n) = .ok (.string (str x1)) (w8.drewN n) := fun n => by rw [HY1.out]; exact conv_RB (q3.below (below_drewN (Below.refl _ w8) n))
                  have hst : ((str x1).toList == (str x1).toList) = true := by simp
                  clear q0 q3 HU
                  go_quiet (fail)
                  go_wp2
                  exact ⟨⟨.inr (.inr rfl), HP8.out.below (below_drewN (Below.refl _ w8) nq)⟩, by simp [intOf]⟩
                · go_wp2
                  exact ⟨⟨j + 1, _, _, by omega, by go_num, hP7⟩, by simp [intOf]; omega⟩
          | false =>
            refine wpAnyH_ready (rs := [8, 10]) (by kernel_rfl) (by simp) ?_
            refine AllReadyH.cons rfl (fun K hK => ?_) (AllReadyH.cons rfl (fun K hK => ?_) AllReadyH.nil)
            · go_simp
              refine (HP3.out.lt.onH HO1).mono ?_
              rintro e w4 ⟨rfl, he⟩
              replace he := he.symm
              subst he
              refine hK.out _ _ ((hS1 _).2 (AAt.range (a := ac) HAB3.out)) (fun hS => ?_)
              clear hK K
              try simp only [Act.put, List.setIfInBounds_toArray, List.set_cons_zero, List.set_cons_succ]
              refine wpAnyH_ready (rs := [10]) (by kernel_rfl) (by simp) ?_
              refine AllReadyH.cons rfl (fun K hK => ?_) AllReadyH.nil
              go_simp
              refine hK.out _ _ ((hS1 _).2 (AAt.range (a := ac) HAB3.out)) (fun hS => ?_)
              clear hK K
              try simp only [Act.put, List.setIfInBounds_toArray, List.set_cons_zero, List.set_cons_succ]
              refine takeH9 11 61 (.bool false) rfl rfl (by kernel_rfl) (by kernel_rfl) (by kernel_rfl) (fun _ _ _ h => h) (Or.inl ⟨by kernel_rfl, fun W _ => by go_simp⟩) hS ?_
              try simp only [Act.put, List.setIfInBounds_toArray, List.set_cons_zero, List.set_cons_succ]
              refine takeH9 12 62 (.bool false) rfl rfl (by kernel_rfl) (by kernel_rfl) (by kernel_rfl) (fun _ _ _ h => h) (Or.inl ⟨by kernel_rfl, fun W _ => by go_simp⟩) hS ?_
              try simp only [Act.put, List.setIfInBounds_toArray, List.set_cons_zero, List.set_cons_succ]
              refine takeH9 13 63 (.bool false) rfl rfl (by kernel_rfl) (by kernel_rfl) (by kernel_rfl) (fun _ _ _ h => h) (Or.inl ⟨by kernel_rfl, fun W _ => by go_simp⟩) hS ?_
              try simp only [Act.put, List.setIfInBounds_toArray, List.set_cons_zero, List.set_cons_succ]
              refine takeH9 14 64 (ptr w.heap.size 0) rfl rfl (by kernel_rfl) (by kernel_rfl) (by kernel_rfl) (fun _ _ _ h => h) (Or.inl ⟨by kernel_rfl, fun W _ => by go_simp⟩) hS ?_
              try simp only [Act.put, List.setIfInBounds_toArray, List.set_cons_zero, List.set_cons_succ]
              refine wpAnyH_ready (rs := [15]) (by kernel_rfl) (by simp) ?_
              refine AllReadyH.cons rfl (fun K hK => ?_) AllReadyH.nil
              go_simp
              refine (HP3.out.lt.leftH HLF).mono ?_
              rintro e w5 ⟨rfl, hB5⟩
              have HP5 := hide9 (HP3.out.below hB5)
              have HAB5 := hide9 (AAt.keep (a := ac) HAB3.out (hB5.block _ (AAt.lt (a := ac) HAB3.out)))
              clear hB5
              refine hK.out _ _ ((hS1 _).2 (AAt.range (a := ac) HAB5.out)) (fun hS => ?_)
              clear hK K
              try simp only [Act.put, List.setIfInBounds_toArray, List.set_cons_zero, List.set_cons_succ]
              refine wpAnyH_ready (rs := [16]) (by kernel_rfl) (by simp) ?_
              refine AllReadyH.cons rfl (fun K hK => ?_) AllReadyH.nil
              go_simp
              refine (HP5.out.rleft HLF).mono ?_
              rintro e w6 ⟨rfl, hB6⟩
              have HP6 := hide9 (HP5.out.below hB6)
              have HAB6 := hide9 (AAt.keep (a := ac) HAB5.out (hB6.block _ (AAt.lt (a := ac) HAB5.out)))
              clear hB6
              refine hK.out _ _ ((hS1 _).2 (AAt.range (a := ac) HAB6.out)) (fun hS => ?_)
              clear hK K
              try simp only [Act.put, List.setIfInBounds_toArray, List.set_cons_zero, List.set_cons_succ]
              refine takeH9 17 67 (.bool false) rfl rfl (by kernel_rfl) (by kernel_rfl) (by kernel_rfl) (fun _ _ _ h => h) (Or.inl ⟨by kernel_rfl, fun W _ => by go_simp⟩) hS ?_
              try simp only [Act.put, List.setIfInBounds_toArray, List.set_cons_zero, List.set_cons_succ]
              refine takeH9 18 68 (.bool false) rfl rfl (by kernel_rfl) (by kernel_rfl) (by kernel_rfl) (fun _ _ _ h => h) (Or.inl ⟨by kernel_rfl, fun W _ => by go_simp⟩) hS ?_
              try simp only [Act.put, List.setIfInBounds_toArray, List.set_cons_zero, List.set_cons_succ]
              refine wpAnyH_done (by kernel_rfl) ?_ _
              obtain ⟨rt, HRT0⟩ : ∃ rt, Hid (r.2.root = rt) := ⟨_, rfl⟩
              have HRT : Hid ((if r.2.on = true then r.2.root else 0) = 0) := by
                show (if r.2.on = true then r.2.root else 0) = _
                rw [HO1.out]
                rfl
              have HRE : Hid ((if r.2.on = true then (0 : Int) else 12) = 12) := by
                show (if r.2.on = true then (0 : Int) else 12) = _
                rw [HO1.out]
                rfl
              obtain ⟨x0, HX0⟩ : ∃ x0, Hid (r.2.readL 0 = x0) := ⟨_, rfl⟩
              obtain ⟨x1, HX1⟩ : ∃ x1, Hid (r.2.readL 1 = x1) := ⟨_, rfl⟩
              have HQ0 : Hid (r.2.why 0 = 12) := by
                show r.2.why 0 = _
                unfold Dk.D.why
                rw [HO1.out]
                rfl
              have HQ1 : Hid (r.2.why 1 = 12) := by
                show r.2.why 1 = _
                unfold Dk.D.why
                rw [HO1.out]
                rfl
              have HY0 : Hid (x0 = []) := by
                show x0 = _
                rw [← HX0.out]
                unfold Dk.D.readL
                rw [HQ0.out]
                rfl
              have HY1 : Hid (x1 = []) := by
                show x1 = _
                rw [← HX1.out]
                unfold Dk.D.readL
                rw [HQ1.out]
                rfl
              clear hS hS1 HAB6 HAB5 HAB3 HAB2 HAB HP5 HP3 HP2 HP1 c8 HLF HR HNB HNB2
              go_wp2_with (go_at_call 19; refine (HP6.out.lt.rootH HRT HRE).mono ?_; rintro e w7 ⟨rfl, he⟩; replace he := he.symm; subst he)
              go_loopw [74] (fun i wr2 => (i = .int .i64 0 ∨ i = .int .i64 1 ∨ i = .int .i64 2) ∧ Pl w T2 w.heap.size rb r.2 r.2 wr2) (fun i _ => 2 - (intOf i).toNat)
              case atStart => exact ⟨.inl rfl, HP6.out⟩
              case round =>
                obtain ⟨hi, hP7⟩ := hrel
                clear HP6
                rcases hi with rfl | rfl | rfl
                · have HP7 := hide9 hP7
                  clear hP7
                  go_wp2_with (go_at_call 20; refine (HP7.out.lt.reads 0 HX0 HQ0).mono ?_; rintro e w8 ⟨ua, uc, rfl, hu, hB8⟩; have HP8 := hide9 (HP7.out.below hB8); have HU := hide9 hu; clear hu hB8 HP7)
                  obtain ⟨c8, c6, ⟨fa, fc, c0, q0⟩, ⟨ga, gc, c3, q3⟩⟩ := HP8.out.off
                  rw [HO1.out] at c8
                  rw [HRT0.out] at c6
                  have hxl : x0.length = 0 := by rw [HY0.out]; rfl
                  clear q0 q3 HU
                  go_quiet (fail)
                  go_wp2
                  exact ⟨⟨.inr (.inl rfl), HP8.out.below (below_drewN (Below.refl _ w8) nq)⟩, by simp [intOf]⟩
                · have HP7 := hide9 hP7
                  clear hP7
                  go_wp2_with (go_at_call 20; refine (HP7.out.lt.reads 1 HX1 HQ1).mono ?_; rintro e w8 ⟨ua, uc, rfl, hu, hB8⟩; have HP8 := hide9 (HP7.out.below hB8); have HU := hide9 hu; clear hu hB8 HP7)
                  obtain ⟨c8, c6, ⟨fa, fc, c0, q0⟩, ⟨ga, gc, c3, q3⟩⟩ := HP8.out.off
                  rw [HO1.out] at c8
                  rw [HRT0.out] at c6
                  have hxl : x1.length = 0 := by rw [HY1.out]; rfl
                  clear q0 q3 HU
                  go_quiet (fail)
                  go_wp2
                  exact ⟨⟨.inr (.inr rfl), HP8.out.below (below_drewN (Below.refl _ w8) nq)⟩, by simp [intOf]⟩
                · go_wp2
                  exact ⟨⟨j + 1, _, _, by omega, by go_num, hP7⟩, by simp [intOf]; omega⟩
            · go_simp
              refine hK.out _ _ ((hS1 _).2 (AAt.range (a := ac) HAB3.out)) (fun hS => ?_)
              clear hK K
              try simp only [Act.put, List.setIfInBounds_toArray, List.set_cons_zero, List.set_cons_succ]
              refine wpAnyH_ready (rs := [8]) (by kernel_rfl) (by simp) ?_
              refine AllReadyH.cons rfl (fun K hK => ?_) AllReadyH.nil
              go_simp
              refine (HP3.out.lt.onH HO1).mono ?_
              rintro e w4 ⟨rfl, he⟩
              replace he := he.symm
              subst he
              refine hK.out _ _ ((hS1 _).2 (AAt.range (a := ac) HAB3.out)) (fun hS => ?_)
              clear hK K
              try simp only [Act.put, List.setIfInBounds_toArray, List.set_cons_zero, List.set_cons_succ]
              refine takeH9 11 61 (.bool false) rfl rfl (by kernel_rfl) (by kernel_rfl) (by kernel_rfl) (fun _ _ _ h => h) (Or.inl ⟨by kernel_rfl, fun W _ => by go_simp⟩) hS ?_
              try simp only [Act.put, List.setIfInBounds_toArray, List.set_cons_zero, List.set_cons_succ]
              refine takeH9 12 62 (.bool false) rfl rfl (by kernel_rfl) (by kernel_rfl) (by kernel_rfl) (fun _ _ _ h => h) (Or.inl ⟨by kernel_rfl, fun W _ => by go_simp⟩) hS ?_
              try simp only [Act.put, List.setIfInBounds_toArray, List.set_cons_zero, List.set_cons_succ]
              refine takeH9 13 63 (.bool false) rfl rfl (by kernel_rfl) (by kernel_rfl) (by kernel_rfl) (fun _ _ _ h => h) (Or.inl ⟨by kernel_rfl, fun W _ => by go_simp⟩) hS ?_
              try simp only [Act.put, List.setIfInBounds_toArray, List.set_cons_zero, List.set_cons_succ]
              refine takeH9 14 64 (ptr w.heap.size 0) rfl rfl (by kernel_rfl) (by kernel_rfl) (by kernel_rfl) (fun _ _ _ h => h) (Or.inl ⟨by kernel_rfl, fun W _ => by go_simp⟩) hS ?_
              try simp only [Act.put, List.setIfInBounds_toArray, List.set_cons_zero, List.set_cons_succ]
              refine wpAnyH_ready (rs := [15]) (by kernel_rfl) (by simp) ?_
              refine AllReadyH.cons rfl (fun K hK => ?_) AllReadyH.nil
              go_simp
              refine (HP3.out.lt.leftH HLF).mono ?_
              rintro e w5 ⟨rfl, hB5⟩
              have HP5 := hide9 (HP3.out.below hB5)
              have HAB5 := hide9 (AAt.keep (a := ac) HAB3.out (hB5.block _ (AAt.lt (a := ac) HAB3.out)))
              clear hB5
              refine hK.out _ _ ((hS1 _).2 (AAt.range (a := ac) HAB5.out)) (fun hS => ?_)
              clear hK K
              try simp only [Act.put, List.setIfInBounds_toArray, List.set_cons_zero, List.set_cons_succ]
              refine wpAnyH_ready (rs := [16]) (by kernel_rfl) (by simp) ?_
              refine AllReadyH.cons rfl (fun K hK => ?_) AllReadyH.nil
              go_simp
              refine (HP5.out.rleft HLF).mono ?_
              rintro e w6 ⟨rfl, hB6⟩
              have HP6 := hide9 (HP5.out.below hB6)
              have HAB6 := hide9 (AAt.keep (a := ac) HAB5.out (hB6.block _ (AAt.lt (a := ac) HAB5.out)))
              clear hB6
              refine hK.out _ _ ((hS1 _).2 (AAt.range (a := ac) HAB6.out)) (fun hS => ?_)
              clear hK K
              try simp only [Act.put, List.setIfInBounds_toArray, List.set_cons_zero, List.set_cons_succ]
              refine takeH9 17 67 (.bool false) rfl rfl (by kernel_rfl) (by kernel_rfl) (by kernel_rfl) (fun _ _ _ h => h) (Or.inl ⟨by kernel_rfl, fun W _ => by go_simp⟩) hS ?_
              try simp only [Act.put, List.setIfInBounds_toArray, List.set_cons_zero, List.set_cons_succ]
              refine takeH9 18 68 (.bool false) rfl rfl (by kernel_rfl) (by kernel_rfl) (by kernel_rfl) (fun _ _ _ h => h) (Or.inl ⟨by kernel_rfl, fun W _ => by go_simp⟩) hS ?_
              try simp only [Act.put, List.setIfInBounds_toArray, List.set_cons_zero, List.set_cons_succ]
              refine wpAnyH_done (by kernel_rfl) ?_ _
              obtain ⟨rt, HRT0⟩ : ∃ rt, Hid (r.2.root = rt) := ⟨_, rfl⟩
              have HRT : Hid ((if r.2.on = true then r.2.root else 0) = 0) := by
                show (if r.2.on = true then r.2.root else 0) = _
                rw [HO1.out]
                rfl
              have HRE : Hid ((if r.2.on = true then (0 : Int) else 12) = 12) := by
                show (if r.2.on = true then (0 : Int) else 12) = _
                rw [HO1.out]
                rfl
              obtain ⟨x0, HX0⟩ : ∃ x0, Hid (r.2.readL 0 = x0) := ⟨_, rfl⟩
              obtain ⟨x1, HX1⟩ : ∃ x1, Hid (r.2.readL 1 = x1) := ⟨_, rfl⟩
              have HQ0 : Hid (r.2.why 0 = 12) := by
                show r.2.why 0 = _
                unfold Dk.D.why
                rw [HO1.out]
                rfl
              have HQ1 : Hid (r.2.why 1 = 12) := by
                show r.2.why 1 = _
                unfold Dk.D.why
                rw [HO1.out]
                rfl
              have HY0 : Hid (x0 = []) := by
                show x0 = _
                rw [← HX0.out]
                unfold Dk.D.readL
                rw [HQ0.out]
                rfl
              have HY1 : Hid (x1 = []) := by
                show x1 = _
                rw [← HX1.out]
                unfold Dk.D.readL
                rw [HQ1.out]
                rfl
              clear hS hS1 HAB6 HAB5 HAB3 HAB2 HAB HP5 HP3 HP2 HP1 c8 HLF HR HNB HNB2
              go_wp2_with (go_at_call 19; refine (HP6.out.lt.rootH HRT HRE).mono ?_; rintro e w7 ⟨rfl, he⟩; replace he := he.symm; subst he)
              go_loopw [74] (fun i wr2 => (i = .int .i64 0 ∨ i = .int .i64 1 ∨ i = .int .i64 2) ∧ Pl w T2 w.heap.size rb r.2 r.2 wr2) (fun i _ => 2 - (intOf i).toNat)
              case atStart => exact ⟨.inl rfl, HP6.out⟩
              case round =>
                obtain ⟨hi, hP7⟩ := hrel
                clear HP6
                rcases hi with rfl | rfl | rfl
                · have HP7 := hide9 hP7
                  clear hP7
                  go_wp2_with (go_at_call 20; refine (HP7.out.lt.reads 0 HX0 HQ0).mono ?_; rintro e w8 ⟨ua, uc, rfl, hu, hB8⟩; have HP8 := hide9 (HP7.out.below hB8); have HU := hide9 hu; clear hu hB8 HP7)
                  obtain ⟨c8, c6, ⟨fa, fc, c0, q0⟩, ⟨ga, gc, c3, q3⟩⟩ := HP8.out.off
                  rw [HO1.out] at c8
                  rw [HRT0.out] at c6
                  have hxl : x0.length = 0 := by rw [HY0.out]; rfl
                  clear q0 q3 HU
                  go_quiet (fail)
                  go_wp2
                  exact ⟨⟨.inr (.inl rfl), HP8.out.below (below_drewN (Below.refl _ w8) nq)⟩, by simp [intOf]⟩
                · have HP7 := hide9 hP7
                  clear hP7
                  go_wp2_with (go_at_call 20; refine (HP7.out.lt.reads 1 HX1 HQ1).mono ?_; rintro e w8 ⟨ua, uc, rfl, hu, hB8⟩; have HP8 := hide9 (HP7.out.below hB8); have HU := hide9 hu; clear hu hB8 HP7)
                  obtain ⟨c8, c6, ⟨fa, fc, c0, q0⟩, ⟨ga, gc, c3, q3⟩⟩ := HP8.out.off
                  rw [HO1.out] at c8
                  rw [HRT0.out] at c6
                  have hxl : x1.length = 0 := by rw [HY1.out]; rfl
                  clear q0 q3 HU
                  go_quiet (fail)
                  go_wp2
                  exact ⟨⟨.inr (.inr rfl), HP8.out.below (below_drewN (Below.refl _ w8) nq)⟩, by simp [intOf]⟩
                · go_wp2
                  exact ⟨⟨j + 1, _, _, by omega, by go_num, hP7⟩, by simp [intOf]; omega⟩
        · have hji : ¬ (j : Int) < (bs.length : Int) := by omega
          have HB := hide9 hP.lt.bel
          clear hP HV6
          go_wp2_with (go_at_call 12; refine (alive9_any _).mono ?_; rintro e w3 ⟨rfl, hB3⟩)
          go_ret
          exact ⟨rfl, bel HB.out hB3⟩
end Go.Proofs.Ytnnlmnjbmbflpaa.diskPlays
