/- The walk of the law JournalPlays, out of the contracts. -/
import Derived.Test.YtcjbceidgaieaaaKJoG
import Derived.BigQuiet
import Derived.Deep.CutRange
set_option linter.unusedVariables false
set_option linter.unusedSimpArgs false
namespace Go.Proofs.Ytcjbceidgaieaaa.journalPlays
open Go.RowKit
set_option maxHeartbeats 40000000 in
set_option maxRecDepth 100000 in
theorem walk (room : Int) (v1 : Value) (as9 : List Aj) (w : World) (h0 : (Lit.int .i64 room).wf = true) (h1 : ArgJ w v1 as9) :
    Calls Try.prog 3 #[.int .i64 room, v1] w fun e w' => e = .returned (.bool true) ∧ Below w.heap.size w w' := by
  obtain ⟨hva, hla⟩ := h1
  have HA : Hid (RJs w v1 as9) := hva
  have HLA : Hid (as9.length ≤ maxLen) := hla
  clear hva hla
  by_cases hr : room < 1 ∨ 1048576 < room
  · have hN := New_no room hr w
    have hM := RNew_no room hr w
    clear hr
    go_enter Try.func3, Try.ntmps3
    go_wp2_with (first
      | (go_at_call 9; refine hN.mono ?_; rintro e w1 ⟨rfl, he⟩; replace he := he.symm; subst he)
      | (go_at_call 10; refine hM.mono ?_; rintro e w2 ⟨rfl, hB2⟩)
      | (go_at_call 12; refine (alive10_any _).mono ?_; rintro e w3 ⟨rfl, hB3⟩))
    go_ret
    exact ⟨rfl, bel (bel hB2 (alloc1 _ _)) hB3⟩
  · have hr1 : 1 ≤ room := by omega
    have hr2 : room ≤ 1048576 := by omega
    have hN := New_yes room hr1 hr2 w
    have hM := fun W => RNew_yes room hr1 hr2 W
    have HM := hide9 hM
    clear hr hM
    go_enter Try.func3, Try.ntmps3
    go_wp2_with (first
      | (go_at_call 9; refine hN.mono ?_; rintro e w1 ⟨rfl, hD1, hB1⟩; have L1 := hide9 (Lt.new (Below.refl _ w) hD1 hB1); clear hN hD1)
      | (go_at_call 10; refine (HM.out _).mono ?_; rintro e w2 ⟨rfl, hB2⟩))
    have hlw : w.heap.size < w2.heap.size := Nat.lt_of_lt_of_le (L1.out.low _ rfl) hB2.size
    have hP0 : Hid (Pl w (fun k => k = w.heap.size) w.heap.size w2.heap.size (Dk.new room) (Dk.new room) (w2.alloc (.cells (rX1 room) 32))) := ⟨(L1.out.below hB2).below (alloc1 _ _), ⟨_, _, _, _, _, RAt.new (heap_new w2 _) hr1 hr2⟩, (by omega : ¬ w2.heap.size = w.heap.size), by omega⟩
    have hF := far10_any (HA.out.below hP0.out.lt.bel) HLA.out
    clear L1 HM
    refine hF.mono ?_
    rintro e w3 ⟨⟨x, rfl, hx⟩, hB3⟩
    have HP0 := hide9 (hP0.out.below hB3)
    have hAl := alive10_any w3
    clear hF hP0 hB1 hB2 hB3
    generalize w2.heap.size = rb at *
    clear hlw
    cases x with
    | true =>
      clear hx
      go_wp2_with (go_at_call 12; refine hAl.mono ?_; rintro e w4 ⟨rfl, hB4⟩)
      go_ret
      exact ⟨rfl, bel HP0.out.lt.bel hB4⟩
    | false =>
      clear hAl
      have HXX := hide9 (hx rfl)
      clear hx
      have hO := HP0.out.lt.opens rfl (by exact Jn.opens_new room) (by exact Jn.recs_new room)
      have hSh := fun (W : World) (hW : Below w.heap.size w W) => short10_any (HA.out.below hW) HLA.out
      have HSH := hide9 hSh
      clear hSh
      have hbs : (as9.take 40).length ≤ 40 := by simp; omega
      generalize as9.take 40 = bs at *
      go_wp2_with (first
        | (go_at_call 13; refine hO.mono ?_; rintro e w5 ⟨T5, jb, a5, c5, rfl, hJ5, hT5, -⟩; have HRE5 := hide9 (HP0.out.re.turn (P' := fun k => ¬ T5 k) hT5.own.size (hT5.own.block rb HP0.out.re.lt HP0.out.nr) (fun k hk hp _ => hT5.own.block k hk hp) (fun k hk hp hx => (hT5.sub k hx).elim hp (fun h9 => by omega))); have HNR : Hid (¬ T5 rb) := (fun hx => (hT5.sub rb hx).elim HP0.out.nr (fun h9 => by have := HP0.out.re.lt; omega)); have HJ5 := hide9 hJ5; have hO2 := ROpen_any HRE5.out (fun k hk hx => by have := HJ5.out.low k hx; omega) rfl (by exact Jn.opens_new room) (by exact Jn.recs_new room); clear hO hJ5 hT5)
        | (go_at_call 14; refine hO2.mono ?_; rintro e w6 ⟨a6, c6, B6, rfl, hR6, hO6, -, -⟩; have HR6 := hide9 hR6; have HJ6 := hide9 (HJ5.out.keepO (U := fun k => k = rb) (fun k hk => by rw [hk]; exact HNR.out) (fun k hk => by rw [hk]; exact HP0.out.br) hO6); have hB7 := alloc1 w6 (.cells #[ptr rb 0, .slice none 0 0, .int .i64 0] 43); have HJ7 := hide9 (HJ6.out.below hB7); have hSh := HSH.out _ HJ7.out.bel; have HK7 : Hid (RK (w6.alloc (.cells #[ptr rb 0, .slice none 0 0, .int .i64 0] 43)) (fun k => ¬ T5 k ∧ k ≠ w6.heap.size) w6.heap.size rb (Dk.new room) []) := RK.fresh HR6.out hB7 (Nat.le_refl _) (heap_new w6 _) (fun k hk hp => ⟨hp, by omega⟩) (fun k hp => hp.2) (fun k hk => ⟨fun hx => (by have := HJ7.out.low k hx; omega), by rw [size_alloc] at hk; omega⟩); have HPJ : Hid (Pj w T5 w.heap.size jb w6.heap.size rb (Dk.new room) [] (Dk.new room) [] (w6.alloc (.cells #[ptr rb 0, .slice none 0 0, .int .i64 0] 43))) := ⟨HJ7.out, HK7.out, HNR.out, fun hx => (by have := HJ6.out.low _ hx; omega), HP0.out.br, HJ6.out.bel.size⟩; clear hO2 hR6 hO6 hB7 HK7 HJ7)
        | (go_at_call 15; refine hSh.mono ?_; rintro e w7 ⟨v6, rfl, hv6, he⟩; replace he := he.symm; subst he; have HV6 := hide9 (hv6 w HA.out); obtain ⟨sa, sc, rfl, hsc⟩ := HV6.out.form; clear hSh hv6))
      have HON0 : Hid ((Dk.new room).on = true) := (rfl : _ = _)
      clear HA HLA HSH HP0 HRE5 HJ5 HJ6 HR6 HNR
      generalize w6.heap.size = kb at *
      generalize w6.alloc (.cells #[ptr rb 0, .slice none 0 0, .int .i64 0] 43) = w8 at *
      go_loopw [9, 73] (fun jv i wr => ∃ (j : Nat) (T : Nat → Prop) (jb : Nat) (d : Dk.D) (gs : List (List UInt8)), j ≤ bs.length ∧ i = .int .i64 (j : Int) ∧ jv = ptr jb 0 ∧ Pj w T w.heap.size jb kb rb d gs d gs wr ∧ Hid (d.on = true)) (fun _ i _ => bs.length - (intOf i).toNat)
      case atStart => exact ⟨0, _, _, _, _, Nat.zero_le _, rfl, rfl, HPJ.out, HON0⟩
      case round =>
        clear HPJ HON0
        obtain ⟨j, T, jb, d, gs, hj, rfl, rfl, hP, HON⟩ := hrel
        by_cases hlt : j < bs.length
        · have hji : (j : Int) < (bs.length : Int) := by omega
          obtain ⟨-, -, ab, ao, rfl, hr, hA⟩ := RJs.at (HV6.out.below hP.j.bel) hlt
          have hone := one_row hA.rb
          have h20 := HXX.out _ (List.getElem_mem hlt)
          have HA0 := hide9 (HV6.out.ok hlt)
          generalize bs[j] = ac at *
          have HNX : Hid (¬ T wr.heap.size) := fun hx => by have := hP.j.low _ hx; omega
          have HBX : Hid (¬ (wr.heap.size = rb ∨ wr.heap.size = kb)) := fun hx => by
            have := hP.k.re.lt
            have := hP.k.lt
            omega
          have HPP := hide9 hP
          obtain ⟨r, HR⟩ : ∃ r, Hid (Jn.does d gs ac = r) := ⟨_, rfl⟩
          obtain ⟨o1, HO1⟩ : ∃ o1, Hid (r.2.1.on = o1) := ⟨_, rfl⟩
          obtain ⟨gn, HGN⟩ : ∃ gn, Hid ((Jn.frames r.2.2).length = gn) := ⟨_, rfl⟩
          clear hP hA
          go_upto_region 12 with (first
            | ((with_reducible show wpList _ _ _ ({ op := Op.load 50 _, .. } :: _) _ _); refine wpList_load_J rfl _ rfl _ _ rfl ac hr ?_; clear hr)
            | ((with_reducible show wpList _ _ _ ({ op := Op.store 50 _ _, .. } :: _) _ _); refine wpList_store_J _ _ rfl rfl _ ac _ rfl rfl (heap_new _ _) rfl hone ?_; intro wn hAn hOn; have hBn := store_below hOn; have HX1 := hide9 ((Bx.mk hAn HNX.out).below (bel_drew wn)); have HP1 := hide9 ((HPP.out.below hBn).below (bel_drew wn)); clear hOn hAn hBn))
          clear HPP hone HNX
          try simp only [Act.put, List.setIfInBounds_toArray, List.set_cons_zero, List.set_cons_succ]
          go_cut [101] from 77 to 101 (fun s w' => ∃ T2, s = Value.bool false ∧ Pj w T2 w.heap.size jb kb rb r.2.1 r.2.2 r.2.1 r.2.2 w' ∧ Bx T2 w' wr.heap.size ac)
          case first =>
            obtain ⟨S, hS1⟩ : ∃ S : World → Prop, ∀ W', S W' ↔ W'.rangeAt wr.heap.size 0 (jX ac).toList := ⟨_, fun _ => Iff.rfl⟩
            refine wp_region_held_drew (S := S) (by kernel_rfl) ((hS1 _).2 HX1.out.at'.range) (fun hS => ?_)
            refine takeH9 0 77 (ptr jb 0) rfl rfl (by kernel_rfl) (by kernel_rfl) (by kernel_rfl) (fun _ _ _ h => h) (Or.inl ⟨by kernel_rfl, fun W _ => by go_simp⟩) hS ?_
            try simp only [Act.put, List.setIfInBounds_toArray, List.set_cons_zero, List.set_cons_succ]
            refine takeH9 1 78 (.bool false) rfl rfl (by kernel_rfl) (by kernel_rfl) (by kernel_rfl) (fun _ _ _ h => h) (Or.inl ⟨by kernel_rfl, fun W _ => by go_simp⟩) hS ?_
            try simp only [Act.put, List.setIfInBounds_toArray, List.set_cons_zero, List.set_cons_succ]
            refine takeH9 2 79 (.bool false) rfl rfl (by kernel_rfl) (by kernel_rfl) (by kernel_rfl) (fun _ _ _ h => h) (Or.inl ⟨by kernel_rfl, fun W _ => by go_simp⟩) hS ?_
            try simp only [Act.put, List.setIfInBounds_toArray, List.set_cons_zero, List.set_cons_succ]
            refine takeH9 3 80 (ptr jb 0) rfl rfl (by kernel_rfl) (by kernel_rfl) (by kernel_rfl) (fun _ _ _ h => h) (Or.inl ⟨by kernel_rfl, fun W _ => by go_simp⟩) hS ?_
            try simp only [Act.put, List.setIfInBounds_toArray, List.set_cons_zero, List.set_cons_succ]
            refine takeH9 4 81 (jV ac) rfl rfl (by kernel_rfl) (by kernel_rfl) (by kernel_rfl) (fun _ _ _ h => h) (yieldsIf_load_mid (by kernel_rfl) _ (.tmp 16) rfl wr.heap.size 0 (by kernel_rfl) (jX ac).toList _ (fun W h => (hS1 W).1 h) Try.underlying50 rfl sizeJ) hS ?_
            try simp only [Act.put, List.setIfInBounds_toArray, List.set_cons_zero, List.set_cons_succ]
            refine takeH9 6 83 (jV ac) rfl rfl (by kernel_rfl) (by kernel_rfl) (by kernel_rfl) (fun _ _ _ h => h) (yieldsIf_load_mid (by kernel_rfl) _ (.tmp 16) rfl wr.heap.size 0 (by kernel_rfl) (jX ac).toList _ (fun W h => (hS1 W).1 h) Try.underlying50 rfl sizeJ) hS ?_
            try simp only [Act.put, List.setIfInBounds_toArray, List.set_cons_zero, List.set_cons_succ]
            refine wpAnyH_ready (rs := [5]) (by kernel_rfl) (by simp) ?_
            refine AllReadyH.cons rfl (fun K hK => ?_) AllReadyH.nil
            go_simp
            refine (HP1.out.does ac HA0.out h20 HR).mono ?_
            rintro e w2 ⟨T2, rfl, hP2, hT2⟩
            have HX2 := hide9 (HX1.out.tw hT2)
            have HP2 := hide9 hP2
            clear hP2 hT2
            refine hK.out _ _ ((hS1 _).2 HX2.out.at'.range) (fun hS => ?_)
            clear hK K
            try simp only [Act.put, List.setIfInBounds_toArray, List.set_cons_zero, List.set_cons_succ]
            refine wpAnyH_ready (rs := [7]) (by kernel_rfl) (by simp) ?_
            refine AllReadyH.cons rfl (fun K hK => ?_) AllReadyH.nil
            go_simp
            refine (HP2.out.would HON.out ac HA0.out h20 HR).mono ?_
            rintro e w3 ⟨rfl, hP3, hO3⟩
            have HX3 := hide9 (HX2.out.own hO3 HBX.out)
            have HP3 := hide9 hP3
            clear hP3 hO3
            refine hK.out _ _ ((hS1 _).2 HX3.out.at'.range) (fun hS => ?_)
            clear hK K
            try simp only [Act.put, List.setIfInBounds_toArray, List.set_cons_zero, List.set_cons_succ]
            obtain ⟨c8, ga, gc, c1⟩ := HP3.out.off HGN
            rw [HO1.out] at c8
            refine takeH9 8 85 (.bool false) rfl rfl (by kernel_rfl) (by kernel_rfl) (by kernel_rfl) (fun _ _ _ h => h) (Or.inl ⟨by kernel_rfl, fun W _ => by go_simp⟩) hS ?_
            try simp only [Act.put, List.setIfInBounds_toArray, List.set_cons_zero, List.set_cons_succ]
            refine takeH9 9 86 (.bool false) rfl rfl (by kernel_rfl) (by kernel_rfl) (by kernel_rfl) (fun _ _ _ h => h) (Or.inl ⟨by kernel_rfl, fun W _ => by go_simp⟩) hS ?_
            try simp only [Act.put, List.setIfInBounds_toArray, List.set_cons_zero, List.set_cons_succ]
            refine takeH9 10 87 (.bool false) rfl rfl (by kernel_rfl) (by kernel_rfl) (by kernel_rfl) (fun _ _ _ h => h) (Or.inl ⟨by kernel_rfl, fun W _ => by go_simp⟩) hS ?_
            try simp only [Act.put, List.setIfInBounds_toArray, List.set_cons_zero, List.set_cons_succ]
            refine takeH9 11 88 (ptr w.heap.size 0) rfl rfl (by kernel_rfl) (by kernel_rfl) (by kernel_rfl) (fun _ _ _ h => h) (Or.inl ⟨by kernel_rfl, fun W _ => by go_simp⟩) hS ?_
            try simp only [Act.put, List.setIfInBounds_toArray, List.set_cons_zero, List.set_cons_succ]
            refine takeH9 13 90 (.pointer (some ⟨rb, 8, none⟩)) rfl rfl (by kernel_rfl) (by kernel_rfl) (by kernel_rfl) (fun _ _ _ h => h) (Or.inl ⟨by kernel_rfl, fun W _ => by go_simp⟩) hS ?_
            try simp only [Act.put, List.setIfInBounds_toArray, List.set_cons_zero, List.set_cons_succ]
            refine wpAnyH_ready (rs := [12, 14]) (by kernel_rfl) (by simp) ?_
            refine AllReadyH.cons rfl (fun K hK => ?_) (AllReadyH.cons rfl (fun K hK => ?_) AllReadyH.nil)
            · go_simp
              refine (HP3.out.j.lt.onH HO1).mono ?_
              rintro e w4 ⟨rfl, he⟩
              replace he := he.symm
              subst he
              refine hK.out _ _ ((hS1 _).2 HX3.out.at'.range) (fun hS => ?_)
              clear hK K
              try simp only [Act.put, List.setIfInBounds_toArray, List.set_cons_zero, List.set_cons_succ]
              refine wpAnyH_ready (rs := [14]) (by kernel_rfl) (by simp) ?_
              refine AllReadyH.cons rfl (fun K hK => ?_) AllReadyH.nil
              go_simp
              refine hK.out _ _ ((hS1 _).2 HX3.out.at'.range) (fun hS => ?_)
              clear hK K
              try simp only [Act.put, List.setIfInBounds_toArray, List.set_cons_zero, List.set_cons_succ]
              refine takeH9 15 92 (.bool false) rfl rfl (by kernel_rfl) (by kernel_rfl) (by kernel_rfl) (fun _ _ _ h => h) (Or.inl ⟨by kernel_rfl, fun W _ => by cases o1 <;> go_simp⟩) hS ?_
              try simp only [Act.put, List.setIfInBounds_toArray, List.set_cons_zero, List.set_cons_succ]
              refine takeH9 16 93 (.bool false) rfl rfl (by kernel_rfl) (by kernel_rfl) (by kernel_rfl) (fun _ _ _ h => h) (Or.inl ⟨by kernel_rfl, fun W _ => by go_simp⟩) hS ?_
              try simp only [Act.put, List.setIfInBounds_toArray, List.set_cons_zero, List.set_cons_succ]
              refine takeH9 17 94 (.bool false) rfl rfl (by kernel_rfl) (by kernel_rfl) (by kernel_rfl) (fun _ _ _ h => h) (Or.inl ⟨by kernel_rfl, fun W _ => by go_simp⟩) hS ?_
              try simp only [Act.put, List.setIfInBounds_toArray, List.set_cons_zero, List.set_cons_succ]
              refine takeH9 18 95 (ptr jb 0) rfl rfl (by kernel_rfl) (by kernel_rfl) (by kernel_rfl) (fun _ _ _ h => h) (Or.inl ⟨by kernel_rfl, fun W _ => by go_simp⟩) hS ?_
              try simp only [Act.put, List.setIfInBounds_toArray, List.set_cons_zero, List.set_cons_succ]
              refine takeH9 20 97 (.pointer (some ⟨kb, 1, none⟩)) rfl rfl (by kernel_rfl) (by kernel_rfl) (by kernel_rfl) (fun _ _ _ h => h) (Or.inl ⟨by kernel_rfl, fun W _ => by go_simp⟩) hS ?_
              try simp only [Act.put, List.setIfInBounds_toArray, List.set_cons_zero, List.set_cons_succ]
              refine wpAnyH_ready (rs := [19, 21]) (by kernel_rfl) (by simp) ?_
              refine AllReadyH.cons rfl (fun K hK => ?_) (AllReadyH.cons rfl (fun K hK => ?_) AllReadyH.nil)
              · go_simp
                refine (HP3.out.j.group HGN).mono ?_
                rintro e w5 ⟨rfl, he⟩
                replace he := he.symm
                subst he
                refine hK.out _ _ ((hS1 _).2 HX3.out.at'.range) (fun hS => ?_)
                clear hK K
                try simp only [Act.put, List.setIfInBounds_toArray, List.set_cons_zero, List.set_cons_succ]
                refine wpAnyH_ready (rs := [21]) (by kernel_rfl) (by simp) ?_
                refine AllReadyH.cons rfl (fun K hK => ?_) AllReadyH.nil
                go_simp
                refine hK.out _ _ ((hS1 _).2 HX3.out.at'.range) (fun hS => ?_)
                clear hK K
                try simp only [Act.put, List.setIfInBounds_toArray, List.set_cons_zero, List.set_cons_succ]
                refine takeH9 22 99 (.int .i64 (gn : Int)) rfl rfl (by kernel_rfl) (by kernel_rfl) (by kernel_rfl) (fun _ _ _ h => h) (Or.inl ⟨by kernel_rfl, fun W _ => by go_simp⟩) hS ?_
                try simp only [Act.put, List.setIfInBounds_toArray, List.set_cons_zero, List.set_cons_succ]
                refine takeH9 23 100 (.bool false) rfl rfl (by kernel_rfl) (by kernel_rfl) (by kernel_rfl) (fun _ _ _ h => h) (Or.inl ⟨by kernel_rfl, fun W _ => by go_simp⟩) hS ?_
                try simp only [Act.put, List.setIfInBounds_toArray, List.set_cons_zero, List.set_cons_succ]
                refine takeH9 24 101 (.bool false) rfl rfl (by kernel_rfl) (by kernel_rfl) (by kernel_rfl) (fun _ _ _ h => h) (Or.inl ⟨by kernel_rfl, fun W _ => by go_simp⟩) hS ?_
                try simp only [Act.put, List.setIfInBounds_toArray, List.set_cons_zero, List.set_cons_succ]
                refine wpAnyH_done (by kernel_rfl) ?_ _
                go_wp2
                go_meet
                case rel => exact ⟨T2, rfl, HP3.out, HX3.out⟩
              · go_simp
                refine hK.out _ _ ((hS1 _).2 HX3.out.at'.range) (fun hS => ?_)
                clear hK K
                try simp only [Act.put, List.setIfInBounds_toArray, List.set_cons_zero, List.set_cons_succ]
                refine takeH9 22 99 (.int .i64 (gn : Int)) rfl rfl (by kernel_rfl) (by kernel_rfl) (by kernel_rfl) (fun _ _ _ h => h) (Or.inl ⟨by kernel_rfl, fun W _ => by go_simp⟩) hS ?_
                try simp only [Act.put, List.setIfInBounds_toArray, List.set_cons_zero, List.set_cons_succ]
                refine wpAnyH_ready (rs := [19]) (by kernel_rfl) (by simp) ?_
                refine AllReadyH.cons rfl (fun K hK => ?_) AllReadyH.nil
                go_simp
                refine (HP3.out.j.group HGN).mono ?_
                rintro e w5 ⟨rfl, he⟩
                replace he := he.symm
                subst he
                refine hK.out _ _ ((hS1 _).2 HX3.out.at'.range) (fun hS => ?_)
                clear hK K
                try simp only [Act.put, List.setIfInBounds_toArray, List.set_cons_zero, List.set_cons_succ]
                refine takeH9 23 100 (.bool false) rfl rfl (by kernel_rfl) (by kernel_rfl) (by kernel_rfl) (fun _ _ _ h => h) (Or.inl ⟨by kernel_rfl, fun W _ => by go_simp⟩) hS ?_
                try simp only [Act.put, List.setIfInBounds_toArray, List.set_cons_zero, List.set_cons_succ]
                refine takeH9 24 101 (.bool false) rfl rfl (by kernel_rfl) (by kernel_rfl) (by kernel_rfl) (fun _ _ _ h => h) (Or.inl ⟨by kernel_rfl, fun W _ => by go_simp⟩) hS ?_
                try simp only [Act.put, List.setIfInBounds_toArray, List.set_cons_zero, List.set_cons_succ]
                refine wpAnyH_done (by kernel_rfl) ?_ _
                go_wp2
                go_meet
                case rel => exact ⟨T2, rfl, HP3.out, HX3.out⟩
            · go_simp
              refine hK.out _ _ ((hS1 _).2 HX3.out.at'.range) (fun hS => ?_)
              clear hK K
              try simp only [Act.put, List.setIfInBounds_toArray, List.set_cons_zero, List.set_cons_succ]
              refine wpAnyH_ready (rs := [12]) (by kernel_rfl) (by simp) ?_
              refine AllReadyH.cons rfl (fun K hK => ?_) AllReadyH.nil
              go_simp
              refine (HP3.out.j.lt.onH HO1).mono ?_
              rintro e w4 ⟨rfl, he⟩
              replace he := he.symm
              subst he
              refine hK.out _ _ ((hS1 _).2 HX3.out.at'.range) (fun hS => ?_)
              clear hK K
              try simp only [Act.put, List.setIfInBounds_toArray, List.set_cons_zero, List.set_cons_succ]
              refine takeH9 15 92 (.bool false) rfl rfl (by kernel_rfl) (by kernel_rfl) (by kernel_rfl) (fun _ _ _ h => h) (Or.inl ⟨by kernel_rfl, fun W _ => by cases o1 <;> go_simp⟩) hS ?_
              try simp only [Act.put, List.setIfInBounds_toArray, List.set_cons_zero, List.set_cons_succ]
              refine takeH9 16 93 (.bool false) rfl rfl (by kernel_rfl) (by kernel_rfl) (by kernel_rfl) (fun _ _ _ h => h) (Or.inl ⟨by kernel_rfl, fun W _ => by go_simp⟩) hS ?_
              try simp only [Act.put, List.setIfInBounds_toArray, List.set_cons_zero, List.set_cons_succ]
              refine takeH9 17 94 (.bool false) rfl rfl (by kernel_rfl) (by kernel_rfl) (by kernel_rfl) (fun _ _ _ h => h) (Or.inl ⟨by kernel_rfl, fun W _ => by go_simp⟩) hS ?_
              try simp only [Act.put, List.setIfInBounds_toArray, List.set_cons_zero, List.set_cons_succ]
              refine takeH9 18 95 (ptr jb 0) rfl rfl (by kernel_rfl) (by kernel_rfl) (by kernel_rfl) (fun _ _ _ h => h) (Or.inl ⟨by kernel_rfl, fun W _ => by go_simp⟩) hS ?_
              try simp only [Act.put, List.setIfInBounds_toArray, List.set_cons_zero, List.set_cons_succ]
              refine takeH9 20 97 (.pointer (some ⟨kb, 1, none⟩)) rfl rfl (by kernel_rfl) (by kernel_rfl) (by kernel_rfl) (fun _ _ _ h => h) (Or.inl ⟨by kernel_rfl, fun W _ => by go_simp⟩) hS ?_
              try simp only [Act.put, List.setIfInBounds_toArray, List.set_cons_zero, List.set_cons_succ]
              refine wpAnyH_ready (rs := [19, 21]) (by kernel_rfl) (by simp) ?_
              refine AllReadyH.cons rfl (fun K hK => ?_) (AllReadyH.cons rfl (fun K hK => ?_) AllReadyH.nil)
              · go_simp
                refine (HP3.out.j.group HGN).mono ?_
                rintro e w5 ⟨rfl, he⟩
                replace he := he.symm
                subst he
                refine hK.out _ _ ((hS1 _).2 HX3.out.at'.range) (fun hS => ?_)
                clear hK K
                try simp only [Act.put, List.setIfInBounds_toArray, List.set_cons_zero, List.set_cons_succ]
                refine wpAnyH_ready (rs := [21]) (by kernel_rfl) (by simp) ?_
                refine AllReadyH.cons rfl (fun K hK => ?_) AllReadyH.nil
                go_simp
                refine hK.out _ _ ((hS1 _).2 HX3.out.at'.range) (fun hS => ?_)
                clear hK K
                try simp only [Act.put, List.setIfInBounds_toArray, List.set_cons_zero, List.set_cons_succ]
                refine takeH9 22 99 (.int .i64 (gn : Int)) rfl rfl (by kernel_rfl) (by kernel_rfl) (by kernel_rfl) (fun _ _ _ h => h) (Or.inl ⟨by kernel_rfl, fun W _ => by go_simp⟩) hS ?_
                try simp only [Act.put, List.setIfInBounds_toArray, List.set_cons_zero, List.set_cons_succ]
                refine takeH9 23 100 (.bool false) rfl rfl (by kernel_rfl) (by kernel_rfl) (by kernel_rfl) (fun _ _ _ h => h) (Or.inl ⟨by kernel_rfl, fun W _ => by go_simp⟩) hS ?_
                try simp only [Act.put, List.setIfInBounds_toArray, List.set_cons_zero, List.set_cons_succ]
                refine takeH9 24 101 (.bool false) rfl rfl (by kernel_rfl) (by kernel_rfl) (by kernel_rfl) (fun _ _ _ h => h) (Or.inl ⟨by kernel_rfl, fun W _ => by go_simp⟩) hS ?_
                try simp only [Act.put, List.setIfInBounds_toArray, List.set_cons_zero, List.set_cons_succ]
                refine wpAnyH_done (by kernel_rfl) ?_ _
                go_wp2
                go_meet
                case rel => exact ⟨T2, rfl, HP3.out, HX3.out⟩
              · go_simp
                refine hK.out _ _ ((hS1 _).2 HX3.out.at'.range) (fun hS => ?_)
                clear hK K
                try simp only [Act.put, List.setIfInBounds_toArray, List.set_cons_zero, List.set_cons_succ]
                refine takeH9 22 99 (.int .i64 (gn : Int)) rfl rfl (by kernel_rfl) (by kernel_rfl) (by kernel_rfl) (fun _ _ _ h => h) (Or.inl ⟨by kernel_rfl, fun W _ => by go_simp⟩) hS ?_
                try simp only [Act.put, List.setIfInBounds_toArray, List.set_cons_zero, List.set_cons_succ]
                refine wpAnyH_ready (rs := [19]) (by kernel_rfl) (by simp) ?_
                refine AllReadyH.cons rfl (fun K hK => ?_) AllReadyH.nil
                go_simp
                refine (HP3.out.j.group HGN).mono ?_
                rintro e w5 ⟨rfl, he⟩
                replace he := he.symm
                subst he
                refine hK.out _ _ ((hS1 _).2 HX3.out.at'.range) (fun hS => ?_)
                clear hK K
                try simp only [Act.put, List.setIfInBounds_toArray, List.set_cons_zero, List.set_cons_succ]
                refine takeH9 23 100 (.bool false) rfl rfl (by kernel_rfl) (by kernel_rfl) (by kernel_rfl) (fun _ _ _ h => h) (Or.inl ⟨by kernel_rfl, fun W _ => by go_simp⟩) hS ?_
                try simp only [Act.put, List.setIfInBounds_toArray, List.set_cons_zero, List.set_cons_succ]
                refine takeH9 24 101 (.bool false) rfl rfl (by kernel_rfl) (by kernel_rfl) (by kernel_rfl) (fun _ _ _ h => h) (Or.inl ⟨by kernel_rfl, fun W _ => by go_simp⟩) hS ?_
                try simp only [Act.put, List.setIfInBounds_toArray, List.set_cons_zero, List.set_cons_succ]
                refine wpAnyH_done (by kernel_rfl) ?_ _
                go_wp2
                go_meet
                case rel => exact ⟨T2, rfl, HP3.out, HX3.out⟩
          case rest =>
            obtain ⟨T2, rfl, hP2, hX2⟩ := hcut
            have HP := hide9 hP2
            have HX := hide9 hX2
            clear hP2 hX2 HP1 HX1
            obtain ⟨d3, HD3⟩ : ∃ d3, Hid (d3 = if ac.kind % 7 = 4 then r.2.1.arm ac.n ac.behind else r.2.1) := ⟨_, rfl⟩
            have c0 := HX.out.kind
            obtain ⟨q, hm7⟩ : ∃ q : Int, (ac.kind : Int).tmod 7 = q := ⟨_, rfl⟩
            have hq := rem7 _ HA0.out.kind
            rw [hm7] at hq
            have HQ := hide9 hq
            have hwq : IntKind.u8.wrap q = q := by
              rcases (by omega : ac.kind % 7 = 0 ∨ ac.kind % 7 = 1 ∨ ac.kind % 7 = 2 ∨ ac.kind % 7 = 3 ∨ ac.kind % 7 = 4 ∨ ac.kind % 7 = 5 ∨ ac.kind % 7 = 6) with h9 | h9 | h9 | h9 | h9 | h9 | h9 <;> rw [hq, h9] <;> rfl
            clear hq
            go_upto_if 105 with fail
            go_cut [105] from 102 to 118 (fun _ w' => ∃ T3, Pj w T3 w.heap.size jb kb rb d3 r.2.2 d3 r.2.2 w' ∧ Bx T3 w' wr.heap.size ac)
            case first =>
              by_cases hk : ac.kind % 7 = 4
              · rw [if_pos hk] at HD3
                have hq4 : q = 4 := by have := HQ.out; omega
                subst hq4
                clear hk HQ
                have x2 := HX.out.box.n
                have x3 := HX.out.box.q
                have C := HP.out.j.arm ac.n HA0.out.n ac.behind
                go_wp2_with (go_at_call 20; refine C.mono ?_; rintro e0 w3 ⟨T9, rfl, hJ3, hT3⟩; have HP3 := hide9 (HP.out.own1 hJ3 hT3); have HX3 := hide9 (HX.out.tw hT3); clear C hJ3 hT3 c0 x2 x3)
                clear HP HX
                have x2 := HX3.out.box.n
                have x3 := HX3.out.box.q
                obtain ⟨fv, q8, q9, q10, f8, f9, f10⟩ := HP3.out.k.re.nine
                have HRX : Hid (wr.heap.size ≠ rb) := fun h => HBX.out (.inl h)
                by_cases hn : ac.n < -1
                · have hn2 : ¬ (-1 : Int) < ac.n := by omega
                  have HP4 := hide9 ((HP3.out.disk2 (HP3.out.k.re.armed ac.n (-1) HA0.out.n (by omega) ac.behind) (own_2 _)).below (bel_drew _))
                  have HX4 := hide9 ((HX3.out.own (own_2 (rb := rb) (i := 9) (j := 10) (x := .int .i64 (-1)) (y := .bool ac.behind) _) HRX.out).below (bel_drew _))
                  rw [← HD3.out] at HP4
                  go_region
                  generalize ((w3.setCell ⟨rb, 9, none⟩ (.int .i64 (-1))).setCell ⟨rb, 10, none⟩ (.bool ac.behind)).drew = w9 at *
                  clear HP3 HX3 q8 q9 q10 f8 f9 f10 x2 x3
                  go_wp2
                  go_meet
                  case rel => exact ⟨T9, HP4.out, HX4.out⟩
                · have HP4 := hide9 ((HP3.out.disk2 (HP3.out.k.re.armed ac.n ac.n HA0.out.n (by omega) ac.behind) (own_2 _)).below (bel_drew _))
                  have HX4 := hide9 ((HX3.out.own (own_2 (rb := rb) (i := 9) (j := 10) (x := .int .i64 ac.n) (y := .bool ac.behind) _) HRX.out).below (bel_drew _))
                  rw [← HD3.out] at HP4
                  go_region
                  generalize ((w3.setCell ⟨rb, 9, none⟩ (.int .i64 ac.n)).setCell ⟨rb, 10, none⟩ (.bool ac.behind)).drew = w9 at *
                  clear HP3 HX3 q8 q9 q10 f8 f9 f10 x2 x3
                  go_wp2
                  go_meet
                  case rel => exact ⟨T9, HP4.out, HX4.out⟩
              · rw [if_neg hk] at HD3
                have hq4 : ¬ q = 4 := by have := HQ.out; omega
                have hq6 : (q == 4) = false := by simpa using hq4
                rw [← HD3.out] at HP
                clear HQ
                go_wp2
                go_meet
                case rel => exact ⟨T2, HP.out, HX.out⟩
            case rest =>
              obtain ⟨T3, hP3, hX3⟩ := hcut
              clear HP HX c0
              have HP := hide9 hP3
              have HX := hide9 hX3
              clear hP3 hX3 HD3
              have c0 := HX.out.kind
              obtain ⟨d4, HD4⟩ : ∃ d4, Hid (d4 = if ac.kind % 7 = 5 then d3.fail else d3) := ⟨_, rfl⟩
              go_upto_if 122 with fail
              go_cut [122] from 119 to 126 (fun _ w' => ∃ T4, Pj w T4 w.heap.size jb kb rb d4 r.2.2 d4 r.2.2 w' ∧ Bx T4 w' wr.heap.size ac)
              case first =>
                by_cases hk : ac.kind % 7 = 5
                · rw [if_pos hk] at HD4
                  have hq5 : q = 5 := by have := HQ.out; omega
                  subst hq5
                  clear hk HQ
                  have HRX : Hid (wr.heap.size ≠ rb) := fun h => HBX.out (.inl h)
                  have C := HP.out.j.fail
                  go_upto_region 19 with (go_at_call 21; refine C.mono ?_; rintro e0 w3 ⟨T8, rfl, hJ3, hT3⟩; have HP3 := hide9 (HP.out.own1 hJ3 hT3); have HX3 := hide9 (HX.out.tw hT3); clear C hJ3 hT3 c0)
                  clear HP HX
                  obtain ⟨fv, q8, q9, q10, f8, f9, f10⟩ := HP3.out.k.re.nine
                  have HP8 := hide9 (HP3.out.disk2 HP3.out.k.re.failed (own_2 _))
                  have HX8 := hide9 (HX3.out.own (own_2 (rb := rb) (i := 8) (j := 9) (x := .bool true) (y := .int .i64 (-1)) _) HRX.out)
                  rw [← HD4.out] at HP8
                  clear HP3 HX3 HRX
                  go_wp2
                  go_meet
                  case rel => exact ⟨T8, HP8.out, HX8.out⟩
                · rw [if_neg hk] at HD4
                  have hq5 : ¬ q = 5 := by have := HQ.out; omega
                  have hq7 : (q == 5) = false := by simpa using hq5
                  rw [← HD4.out] at HP
                  clear HQ
                  go_wp2
                  go_meet
                  case rel => exact ⟨T3, HP.out, HX.out⟩
              case rest =>
                obtain ⟨T4, hP4, hX4⟩ := hcut
                clear HP HX c0
                have HP8 := hide9 hP4
                have HX8 := hide9 hX4
                clear hP4 hX4 HD4 hwq HQ hm7 HR HO1 HGN
                generalize r.2.2 = g8 at *
                obtain ⟨o4, HE8⟩ : ∃ o4, Hid (d4.on = o4) := ⟨_, rfl⟩
                go_upto_if 129 with (go_at_call 18; refine (HP8.out.j.lt.onH HE8).mono ?_; rintro e0 w20 ⟨rfl, he⟩; replace he := he.symm; subst he)
                go_cut [9, 17, 18, 19, 20, 21, 22] from 127 to 165 (fun s9 _ _ _ _ _ _ w' => ∃ T9 jb9 e g, s9 = ptr jb9 0 ∧ Pj w T9 w.heap.size jb9 kb rb e g e g w' ∧ Hid (e.on = true))
                case first =>
                  cases o4 with
                  | true =>
                    go_wp2
                    go_meet
                    case rel => exact ⟨T4, jb, d4, g8, rfl, HP8.out, HE8⟩
                  | false =>
                    obtain ⟨dS, dN, rs, e1, e2, e3, e4, e5, e6⟩ := Jn.restart HE8.out HP8.out.j.fine ac.k0 ac.k1 ac.c0 ac.c1
                    have HS1 := hide9 e1
                    have HS2 := hide9 e2
                    have HS3 := hide9 e3
                    have HE9 := hide9 e4
                    have HS5 := hide9 e5
                    clear e1 e2 e3 e4 e5
                    go_wp2
                    have HP9 := hide9 (HP8.out.below (bel_drew _))
                    have HX9 := hide9 (HX8.out.below (bel_drew _))
                    have HRX : Hid (wr.heap.size ≠ rb) := fun h => HBX.out (.inl h)
                    obtain ⟨S, hS1⟩ : ∃ S : World → Prop, ∀ W', S W' ↔ Box W' wr.heap.size ac := ⟨_, fun _ => Iff.rfl⟩
                    refine wp_region_held_drew (S := S) (by kernel_rfl) ((hS1 _).2 HX9.out.box) (fun hS => ?_)
                    refine takeH9 0 130 (ptr w.heap.size 0) rfl rfl (by kernel_rfl) (by kernel_rfl) (by kernel_rfl) (fun _ _ _ h => h) (Or.inl ⟨by kernel_rfl, fun W _ => by go_simp⟩) hS ?_
                    try simp only [Act.put, List.setIfInBounds_toArray, List.set_cons_zero, List.set_cons_succ]
                    refine takeH9 1 131 (.pointer (some ⟨wr.heap.size, 4, none⟩)) rfl rfl (by kernel_rfl) (by kernel_rfl) (by kernel_rfl) (fun _ _ _ h => h) (Or.inl ⟨by kernel_rfl, fun W _ => by go_simp⟩) hS ?_
                    try simp only [Act.put, List.setIfInBounds_toArray, List.set_cons_zero, List.set_cons_succ]
                    refine takeH9 2 132 (.agg #[.int .i64 ac.k0, .int .i64 ac.k1]) rfl rfl (by kernel_rfl) (by kernel_rfl) (by kernel_rfl) (fun _ _ _ h => h) (yieldsIf_load_mid (by kernel_rfl) _ (.tmp 131) rfl wr.heap.size 4 (by kernel_rfl) [.int .i64 ac.k0, .int .i64 ac.k1] _ (fun W h => ((hS1 W).1 h).keep) Try.underlying47 rfl size2i) hS ?_
                    try simp only [Act.put, List.setIfInBounds_toArray, List.set_cons_zero, List.set_cons_succ]
                    refine takeH9 3 133 (.pointer (some ⟨wr.heap.size, 6, none⟩)) rfl rfl (by kernel_rfl) (by kernel_rfl) (by kernel_rfl) (fun _ _ _ h => h) (Or.inl ⟨by kernel_rfl, fun W _ => by go_simp⟩) hS ?_
                    try simp only [Act.put, List.setIfInBounds_toArray, List.set_cons_zero, List.set_cons_succ]
                    refine takeH9 4 134 (.agg #[.bool ac.c0, .bool ac.c1]) rfl rfl (by kernel_rfl) (by kernel_rfl) (by kernel_rfl) (fun _ _ _ h => h) (yieldsIf_load_mid (by kernel_rfl) _ (.tmp 133) rfl wr.heap.size 6 (by kernel_rfl) [.bool ac.c0, .bool ac.c1] _ (fun W h => ((hS1 W).1 h).cut) Try.underlying48 rfl size2b) hS ?_
                    try simp only [Act.put, List.setIfInBounds_toArray, List.set_cons_zero, List.set_cons_succ]
                    refine takeH9 5 135 (lossV ac.k0 ac.k1 ac.c0 ac.c1) rfl rfl (by kernel_rfl) (by kernel_rfl) (by kernel_rfl) (fun _ _ _ h => h) (Or.inl ⟨by kernel_rfl, fun W _ => by go_simp⟩) hS ?_
                    try simp only [Act.put, List.setIfInBounds_toArray, List.set_cons_zero, List.set_cons_succ]
                    refine takeH9 7 137 (.pointer (some ⟨wr.heap.size, 4, none⟩)) rfl rfl (by kernel_rfl) (by kernel_rfl) (by kernel_rfl) (fun _ _ _ h => h) (Or.inl ⟨by kernel_rfl, fun W _ => by go_simp⟩) hS ?_
                    try simp only [Act.put, List.setIfInBounds_toArray, List.set_cons_zero, List.set_cons_succ]
                    refine takeH9 8 138 (.agg #[.int .i64 ac.k0, .int .i64 ac.k1]) rfl rfl (by kernel_rfl) (by kernel_rfl) (by kernel_rfl) (fun _ _ _ h => h) (yieldsIf_load_mid (by kernel_rfl) _ (.tmp 137) rfl wr.heap.size 4 (by kernel_rfl) [.int .i64 ac.k0, .int .i64 ac.k1] _ (fun W h => ((hS1 W).1 h).keep) Try.underlying47 rfl size2i) hS ?_
                    try simp only [Act.put, List.setIfInBounds_toArray, List.set_cons_zero, List.set_cons_succ]
                    refine takeH9 9 139 (.pointer (some ⟨wr.heap.size, 6, none⟩)) rfl rfl (by kernel_rfl) (by kernel_rfl) (by kernel_rfl) (fun _ _ _ h => h) (Or.inl ⟨by kernel_rfl, fun W _ => by go_simp⟩) hS ?_
                    try simp only [Act.put, List.setIfInBounds_toArray, List.set_cons_zero, List.set_cons_succ]
                    refine takeH9 10 140 (.agg #[.bool ac.c0, .bool ac.c1]) rfl rfl (by kernel_rfl) (by kernel_rfl) (by kernel_rfl) (fun _ _ _ h => h) (yieldsIf_load_mid (by kernel_rfl) _ (.tmp 139) rfl wr.heap.size 6 (by kernel_rfl) [.bool ac.c0, .bool ac.c1] _ (fun W h => ((hS1 W).1 h).cut) Try.underlying48 rfl size2b) hS ?_
                    try simp only [Act.put, List.setIfInBounds_toArray, List.set_cons_zero, List.set_cons_succ]
                    refine takeH9 11 141 (lossV ac.k0 ac.k1 ac.c0 ac.c1) rfl rfl (by kernel_rfl) (by kernel_rfl) (by kernel_rfl) (fun _ _ _ h => h) (Or.inl ⟨by kernel_rfl, fun W _ => by go_simp⟩) hS ?_
                    try simp only [Act.put, List.setIfInBounds_toArray, List.set_cons_zero, List.set_cons_succ]
                    refine wpAnyH_ready (rs := [6]) (by kernel_rfl) (by simp) ?_
                    refine AllReadyH.cons rfl (fun K hK => ?_) AllReadyH.nil
                    go_simp
                    refine (HP9.out.j.start ac.k0 ac.k1 ac.c0 ac.c1 HA0.out.k0 HA0.out.k1 HS1.out).mono ?_
                    rintro e0 w11 ⟨T11, rfl, hJ11, hT11⟩
                    have HP11 := hide9 (HP9.out.own1 hJ11 hT11)
                    have HX11 := hide9 (HX9.out.tw hT11)
                    clear hJ11 hT11 HP9 HX9
                    have CR := RStart_any HP11.out.k.re HP11.out.k.new ac.k0 ac.k1 ac.c0 ac.c1 HA0.out.k0 HA0.out.k1
                    rw [HS1.out] at CR
                    refine hK.out _ _ ((hS1 _).2 HX11.out.box) (fun hS => ?_)
                    clear hK K
                    try simp only [Act.put, List.setIfInBounds_toArray, List.set_cons_zero, List.set_cons_succ]
                    refine wpAnyH_ready (rs := [12]) (by kernel_rfl) (by simp) ?_
                    refine AllReadyH.cons rfl (fun K hK => ?_) AllReadyH.nil
                    go_simp
                    refine (CR).mono ?_
                    rintro e0 w12 ⟨rfl, hR12, hO12⟩
                    have HP12 := hide9 (HP11.out.disk2 hR12 hO12)
                    have HX12 := hide9 (HX11.out.own hO12 HRX.out)
                    clear hR12 hO12 HP11 HX11 CR
                    refine hK.out _ _ ((hS1 _).2 HX12.out.box) (fun hS => ?_)
                    clear hK K
                    try simp only [Act.put, List.setIfInBounds_toArray, List.set_cons_zero, List.set_cons_succ]
                    refine takeH9 13 143 (.bool false) rfl rfl (by kernel_rfl) (by kernel_rfl) (by kernel_rfl) (fun _ _ _ h => h) (Or.inl ⟨by kernel_rfl, fun W _ => by go_simp⟩) hS ?_
                    try simp only [Act.put, List.setIfInBounds_toArray, List.set_cons_zero, List.set_cons_succ]
                    refine wpAnyH_done (by kernel_rfl) ?_ _
                    clear hS hS1 HX12 HX8 HP8
                    have HRL := hide9 HP12.out.k.re.lt
                    have C12 := HP12.out.j.lt.opensO HS2.out HS3 HS5
                    go_wp2_with (first
                      | (go_at_call 13; refine C12.mono ?_; rintro e0 w13 ⟨T9, jb9, la, lc, rfl, hJ13, hT13, hQ13⟩; have HP13 := hide9 (HP12.out.own1 hJ13 hT13); have HQ13 := hide9 hQ13; have C13 := ROpen_any HP13.out.k.re HP13.out.k.new HS2.out HS3 HS5; clear C12 hJ13 hT13 hQ13)
                      | (go_at_call 14; refine C13.mono ?_; rintro e0 w14 ⟨ka, kc, B14, rfl, hR14, hO14, hB14, hOR14⟩; have HP14 := hide9 (HP13.out.disk2 hR14 hO14); have HL14 := hide9 (HQ13.out.own (fun k hk => .inl hk) (hO14.mono9 (fun k hk => .inr (by rw [hk]; exact HRL.out)))).rbs; have HM14 := hide9 hOR14.rbs; have C15 : Calls Try.prog 24 #[.slice la rs.length lc, .slice ka rs.length kc] (w14.alloc (.cells #[ptr rb 0, .slice none 0 0, .int .i64 0] 43)) (fun e w' => e = .returned (.bool true) ∧ Below (w14.alloc (.cells #[ptr rb 0, .slice none 0 0, .int .i64 0] 43)).heap.size (w14.alloc (.cells #[ptr rb 0, .slice none 0 0, .int .i64 0] 43)) w') := (by have := Same_any (HL14.out.below (alloc1 w14 (.cells #[ptr rb 0, .slice none 0 0, .int .i64 0] 43))) (HM14.out.below (alloc1 w14 (.cells #[ptr rb 0, .slice none 0 0, .int .i64 0] 43))) (by omega) (by omega); rwa [decide_eq_true rfl] at this); clear C13 hR14 hO14 hB14 hOR14 HQ13 HP13 HL14 HM14)
                      | (go_at_call 24; refine C15.mono ?_; rintro e0 w16 ⟨rfl, hB16⟩; have HP16 := hide9 ((HP14.out.below (alloc1 w14 _)).below hB16); have HY16 : Hid (w16.heap[w14.heap.size]? = some (.cells (kX rb) 43 (0, 0))) := (hB16.block _ (by rw [size_alloc]; omega)).trans (heap_new w14 _); have HYK : Hid (w14.heap.size ≠ kb) := (fun h => by have := HP14.out.k.lt; omega); clear C15 hB16))
                    have HP17 := hide9 (HP16.out.below (bel_drew _))
                    have HY17 : Hid (w16.drew.heap[w14.heap.size]? = some (.cells (kX rb) 43 (0, 0))) := HY16.out
                    clear HP14 HP12 HY16 HP16
                    generalize w14.heap.size = yb at *
                    obtain ⟨S, hS1⟩ : ∃ S : World → Prop, ∀ W', S W' ↔ W'.heap[yb]? = some (.cells (kX rb) 43 (0, 0)) := ⟨_, fun _ => Iff.rfl⟩
                    refine wp_region_held_drew (S := S) (by kernel_rfl) ((hS1 _).2 HY17.out) (fun hS => ?_)
                    refine takeH9 0 164 (ptr jb9 0) rfl rfl (by kernel_rfl) (by kernel_rfl) (by kernel_rfl) (fun _ _ _ h => h) (Or.inl ⟨by kernel_rfl, fun W _ => by go_simp⟩) hS ?_
                    try simp only [Act.put, List.setIfInBounds_toArray, List.set_cons_zero, List.set_cons_succ]
                    refine takeH9 1 165 (.agg (kX rb)) rfl rfl (by kernel_rfl) (by kernel_rfl) (by kernel_rfl) (fun _ _ _ h => h) (exec_load_K (.tmp 20) rfl (by kernel_rfl) yb (kX rb) rfl (by kernel_rfl) (fun W h => (hS1 W).1 h)) hS ?_
                    try simp only [Act.put, List.setIfInBounds_toArray, List.set_cons_zero, List.set_cons_succ]
                    refine takeH9 2 9 (ptr jb9 0) rfl rfl (by kernel_rfl) (by kernel_rfl) (by kernel_rfl) (fun _ _ _ h => h) (Or.inl ⟨by kernel_rfl, fun W _ => by go_simp⟩) hS ?_
                    try simp only [Act.put, List.setIfInBounds_toArray, List.set_cons_zero, List.set_cons_succ]
                    obtain ⟨gq, hq17, -⟩ := HP17.out.k.ex
                    refine anyH_store_K 3 (by kernel_rfl) rfl rfl (.tmp 12) (.tmp 165) rfl rfl kb (ptr rb 0) (.slice none 0 0) 0 _ (by kernel_rfl) (by kernel_rfl) hq17 rfl rfl rfl ?_
                    intro w9 hb9 hO9
                    refine ⟨(hS1 _).2 ((hO9.block yb (Array.getElem?_eq_some_iff.1 HY17.out).1 HYK.out).trans HY17.out), fun hS => ?_⟩
                    refine wpAnyH_done (by kernel_rfl) ?_ _
                    have HP9 := hide9 (HP17.out.own2 (HP17.out.k.reset hb9 hO9) (hO9.mono9 (fun k hk => .inr hk)))
                    clear HP17 HY17 hb9 hO9 hq17 hS hS1 gq HYK HRL HS1 HS2 HS3 HS5
                    go_wp2
                    go_meet
                    case rel => exact ⟨T9, jb9, dN, [], rfl, HP9.out, HE9⟩
                case rest =>
                  obtain ⟨T9, jb9, e, g, rfl, hP9, HE9⟩ := hcut
                  clear HP8 HX8 HE8
                  have HP9 := hide9 hP9
                  clear hP9
                  obtain ⟨rt, HRT0⟩ : ∃ rt, Hid (e.root = rt) := ⟨_, rfl⟩
                  have HRT : Hid ((if e.on = true then e.root else 0) = rt) := by
                    show (if e.on = true then e.root else 0) = _
                    rw [HE9.out]
                    exact HRT0.out
                  have HRE : Hid ((if e.on = true then (0 : Int) else 12) = 0) := by
                    show (if e.on = true then (0 : Int) else 12) = _
                    rw [HE9.out]
                    rfl
                  have hrt := HP9.out.j.fine.root
                  rw [HRT0.out] at hrt
                  have HRTB := hide9 hrt
                  clear hrt
                  obtain ⟨x0, HX0⟩ : ∃ x0, Hid (e.readL 0 = x0) := ⟨_, rfl⟩
                  obtain ⟨x1, HX1⟩ : ∃ x1, Hid (e.readL 1 = x1) := ⟨_, rfl⟩
                  have HQ0 : Hid (e.why 0 = 0) := by
                    show e.why 0 = _
                    unfold Dk.D.why
                    rw [HE9.out]
                    rfl
                  have HQ1 : Hid (e.why 1 = 0) := by
                    show e.why 1 = _
                    unfold Dk.D.why
                    rw [HE9.out]
                    rfl
                  have HY0 : Hid (x0 = e.a.now) := by
                    show x0 = _
                    rw [← HX0.out]
                    unfold Dk.D.readL
                    rw [HQ0.out]
                    rfl
                  have HY1 : Hid (x1 = e.b.now) := by
                    show x1 = _
                    rw [← HX1.out]
                    unfold Dk.D.readL
                    rw [HQ1.out]
                    rfl
                  obtain ⟨lf, HLF⟩ : ∃ lf, Hid (e.left = lf) := ⟨_, rfl⟩
                  go_wp2_with (first
                    | (go_at_call 25; refine (HP9.out.j.lt.rootH HRT HRE).mono ?_; rintro e0 w7 ⟨rfl, he⟩; replace he := he.symm; subst he))
                  go_loopw [171] (fun i wr2 => (i = .int .i64 0 ∨ i = .int .i64 1 ∨ i = .int .i64 2) ∧ Pj w T9 w.heap.size jb9 kb rb e g e g wr2) (fun i _ => 2 - (intOf i).toNat)
                  case atStart => exact ⟨.inl rfl, HP9.out⟩
                  case round =>
                    obtain ⟨hi, hP7⟩ := hrel
                    clear HP9
                    rcases hi with rfl | rfl | rfl
                    · have HP7 := hide9 hP7
                      clear hP7
                      go_wp2_with (go_at_call 26; refine (HP7.out.j.lt.reads 0 HX0 HQ0).mono ?_; rintro e0 w8 ⟨ua, uc, rfl, hu, hB8⟩; have HP8 := hide9 (HP7.out.below hB8); have HU := hide9 hu; clear hu hB8 HP7)
                      obtain ⟨-, -, ⟨fa, fc, c0, q0⟩, ⟨fb, fd, c3, q3⟩⟩ := HP8.out.k.re.see (n0 := e.a.now.length) (n1 := e.b.now.length) (by exact (rfl : _ = _)) (by exact (rfl : _ = _))
                      have K1 : ∀ n, (convert 27 9 (.slice ua x0.length uc)).run Try.prog (w8.drewN n) = .ok (.string (str x0)) (w8.drewN n) := fun n => conv_RB (HU.out.1.reads.below (below_drewN (Below.refl _ w8) n))
                      have K2 : ∀ n, (convert 27 9 (.slice fa e.a.now.length fc)).run Try.prog (w8.drewN n) = .ok (.string (str x0)) (w8.drewN n) := fun n => by rw [HY0.out]; exact conv_RB (q0.rd.below (below_drewN (Below.refl _ w8) n))
                      have hst : ((str x0).toList == (str x0).toList) = true := by simp
                      clear q0 q3 HU
                      go_quiet (fail)
                      go_wp2
                      exact ⟨⟨.inr (.inl rfl), HP8.out.below (below_drewN (Below.refl _ w8) nq)⟩, by simp [intOf]⟩
                    · have HP7 := hide9 hP7
                      clear hP7
                      go_wp2_with (go_at_call 26; refine (HP7.out.j.lt.reads 1 HX1 HQ1).mono ?_; rintro e0 w8 ⟨ua, uc, rfl, hu, hB8⟩; have HP8 := hide9 (HP7.out.below hB8); have HU := hide9 hu; clear hu hB8 HP7)
                      obtain ⟨-, -, ⟨fa, fc, c0, q0⟩, ⟨fb, fd, c3, q3⟩⟩ := HP8.out.k.re.see (n0 := e.a.now.length) (n1 := e.b.now.length) (by exact (rfl : _ = _)) (by exact (rfl : _ = _))
                      have K1 : ∀ n, (convert 27 9 (.slice ua x1.length uc)).run Try.prog (w8.drewN n) = .ok (.string (str x1)) (w8.drewN n) := fun n => conv_RB (HU.out.1.reads.below (below_drewN (Below.refl _ w8) n))
                      have K2 : ∀ n, (convert 27 9 (.slice fb e.b.now.length fd)).run Try.prog (w8.drewN n) = .ok (.string (str x1)) (w8.drewN n) := fun n => by rw [HY1.out]; exact conv_RB (q3.rd.below (below_drewN (Below.refl _ w8) n))
                      have hst : ((str x1).toList == (str x1).toList) = true := by simp
                      clear q0 q3 HU
                      go_quiet (fail)
                      go_wp2
                      exact ⟨⟨.inr (.inr rfl), HP8.out.below (below_drewN (Below.refl _ w8) nq)⟩, by simp [intOf]⟩
                    · have HP7 := hide9 hP7
                      clear hP7 HX0 HX1 HQ0 HQ1 HY0 HY1 HRT HRE
                      go_wp2
                      rcases HRTB.out with rfl | rfl
                      · obtain ⟨m, HM⟩ : ∃ m, Hid (e.a.now.length = m) := ⟨_, rfl⟩
                        have HM2 : Hid ((e.at e.root).now.length = m) := by
                          show (e.at e.root).now.length = m
                          rw [HRT0.out]
                          exact HM.out
                        obtain ⟨-, -, ⟨fa, fc, c0, -⟩, -⟩ := (HP7.out.below (bel_drew _)).k.re.see (n0 := m) (n1 := e.b.now.length) HM (by exact (rfl : _ = _))
                        obtain ⟨S, hS1⟩ : ∃ S : World → Prop, ∀ W', S W' ↔ Pj w T9 w.heap.size jb9 kb rb e g e g W' ∧ W'.cell? ⟨rb, 0, none⟩ = some (.slice fa m fc) := ⟨_, fun _ => Iff.rfl⟩
                        have hSb : ∀ W W', S W → Below W.heap.size W W' → S W' := fun W W' hs hb => (hS1 W').2 ⟨((hS1 W).1 hs).1.below hb, (hb.cell (p := ⟨rb, 0, none⟩) ((hS1 W).1 hs).1.k.re.lt).trans ((hS1 W).1 hs).2⟩
                        refine wp_region_held_drew (S := S) (by kernel_rfl) ((hS1 _).2 ⟨HP7.out.below (bel_drew _), c0⟩) (fun hS => ?_)
                        refine takeH9 0 190 (.int .i64 0) rfl rfl (by kernel_rfl) (by kernel_rfl) (by kernel_rfl) (fun _ _ _ h => h) (Or.inl ⟨by kernel_rfl, fun W _ => by go_simp⟩) hS ?_
                        try simp only [Act.put, List.setIfInBounds_toArray, List.set_cons_zero, List.set_cons_succ]
                        refine takeH9 1 191 (.pointer (some ⟨rb, 6, none⟩)) rfl rfl (by kernel_rfl) (by kernel_rfl) (by kernel_rfl) (fun _ _ _ h => h) (Or.inl ⟨by kernel_rfl, fun W _ => by go_simp⟩) hS ?_
                        try simp only [Act.put, List.setIfInBounds_toArray, List.set_cons_zero, List.set_cons_succ]
                        refine takeH9 2 192 (.int .i64 0) rfl rfl (by kernel_rfl) (by kernel_rfl) (by kernel_rfl) (fun _ _ _ h => h) (Or.inl ⟨by kernel_rfl, fun W h => by have hcx := ((hS1 W).1 h).1.k.re.root; rw [HRT0.out] at hcx; go_simp⟩) hS ?_
                        try simp only [Act.put, List.setIfInBounds_toArray, List.set_cons_zero, List.set_cons_succ]
                        refine takeH9 3 193 (.bool false) rfl rfl (by kernel_rfl) (by kernel_rfl) (by kernel_rfl) (fun _ _ _ h => h) (Or.inl ⟨by kernel_rfl, fun W _ => by go_simp⟩) hS ?_
                        try simp only [Act.put, List.setIfInBounds_toArray, List.set_cons_zero, List.set_cons_succ]
                        refine takeH9 4 194 (.bool false) rfl rfl (by kernel_rfl) (by kernel_rfl) (by kernel_rfl) (fun _ _ _ h => h) (Or.inl ⟨by kernel_rfl, fun W _ => by go_simp⟩) hS ?_
                        try simp only [Act.put, List.setIfInBounds_toArray, List.set_cons_zero, List.set_cons_succ]
                        refine takeH9 5 195 (ptr jb9 0) rfl rfl (by kernel_rfl) (by kernel_rfl) (by kernel_rfl) (fun _ _ _ h => h) (Or.inl ⟨by kernel_rfl, fun W _ => by go_simp⟩) hS ?_
                        try simp only [Act.put, List.setIfInBounds_toArray, List.set_cons_zero, List.set_cons_succ]
                        refine wpAnyH_ready (rs := [6]) (by kernel_rfl) (by simp) ?_
                        refine AllReadyH.cons rfl (fun K hK => ?_) AllReadyH.nil
                        go_simp
                        refine (((hS1 _).1 hS).1.j.leftH HLF).mono ?_
                        rintro e0 w21 ⟨rfl, hB⟩
                        refine hK.out _ _ (hSb _ _ hS hB) (fun hS => ?_)
                        clear hK K
                        try simp only [Act.put, List.setIfInBounds_toArray, List.set_cons_zero, List.set_cons_succ]
                        refine wpAnyH_ready (rs := [7]) (by kernel_rfl) (by simp) ?_
                        refine AllReadyH.cons rfl (fun K hK => ?_) AllReadyH.nil
                        go_simp
                        refine (((hS1 _).1 hS).1.rleft HLF).mono ?_
                        rintro e0 w22 ⟨rfl, hB2⟩
                        refine hK.out _ _ (hSb _ _ hS hB2) (fun hS => ?_)
                        clear hK K
                        try simp only [Act.put, List.setIfInBounds_toArray, List.set_cons_zero, List.set_cons_succ]
                        refine takeH9 8 198 (.bool false) rfl rfl (by kernel_rfl) (by kernel_rfl) (by kernel_rfl) (fun _ _ _ h => h) (Or.inl ⟨by kernel_rfl, fun W _ => by go_simp⟩) hS ?_
                        try simp only [Act.put, List.setIfInBounds_toArray, List.set_cons_zero, List.set_cons_succ]
                        refine takeH9 9 199 (.bool false) rfl rfl (by kernel_rfl) (by kernel_rfl) (by kernel_rfl) (fun _ _ _ h => h) (Or.inl ⟨by kernel_rfl, fun W _ => by go_simp⟩) hS ?_
                        try simp only [Act.put, List.setIfInBounds_toArray, List.set_cons_zero, List.set_cons_succ]
                        refine takeH9 10 200 (.bool false) rfl rfl (by kernel_rfl) (by kernel_rfl) (by kernel_rfl) (fun _ _ _ h => h) (Or.inl ⟨by kernel_rfl, fun W _ => by go_simp⟩) hS ?_
                        try simp only [Act.put, List.setIfInBounds_toArray, List.set_cons_zero, List.set_cons_succ]
                        refine takeH9 11 201 (ptr jb9 0) rfl rfl (by kernel_rfl) (by kernel_rfl) (by kernel_rfl) (fun _ _ _ h => h) (Or.inl ⟨by kernel_rfl, fun W _ => by go_simp⟩) hS ?_
                        try simp only [Act.put, List.setIfInBounds_toArray, List.set_cons_zero, List.set_cons_succ]
                        refine takeH9 13 203 (.pointer (some ⟨rb, 6, none⟩)) rfl rfl (by kernel_rfl) (by kernel_rfl) (by kernel_rfl) (fun _ _ _ h => h) (Or.inl ⟨by kernel_rfl, fun W _ => by go_simp⟩) hS ?_
                        try simp only [Act.put, List.setIfInBounds_toArray, List.set_cons_zero, List.set_cons_succ]
                        refine takeH9 14 204 (.int .i64 0) rfl rfl (by kernel_rfl) (by kernel_rfl) (by kernel_rfl) (fun _ _ _ h => h) (Or.inl ⟨by kernel_rfl, fun W h => by have hcx := ((hS1 W).1 h).1.k.re.root; rw [HRT0.out] at hcx; go_simp⟩) hS ?_
                        try simp only [Act.put, List.setIfInBounds_toArray, List.set_cons_zero, List.set_cons_succ]
                        refine takeH9 15 205 (.pointer (some ⟨rb, 0, none⟩)) rfl rfl (by kernel_rfl) (by kernel_rfl) (by kernel_rfl) (fun _ _ _ h => h) (Or.inl ⟨by kernel_rfl, fun W _ => by go_simp⟩) hS ?_
                        try simp only [Act.put, List.setIfInBounds_toArray, List.set_cons_zero, List.set_cons_succ]
                        refine takeH9 16 206 (.pointer (some ⟨rb, 0, none⟩)) rfl rfl (by kernel_rfl) (by kernel_rfl) (by kernel_rfl) (fun _ _ _ h => h) (Or.inl ⟨by kernel_rfl, fun W _ => by go_simp⟩) hS ?_
                        try simp only [Act.put, List.setIfInBounds_toArray, List.set_cons_zero, List.set_cons_succ]
                        refine takeH9 17 207 (.pointer (some ⟨rb, 0, none⟩)) rfl rfl (by kernel_rfl) (by kernel_rfl) (by kernel_rfl) (fun _ _ _ h => h) (Or.inl ⟨by kernel_rfl, fun W _ => by go_simp⟩) hS ?_
                        try simp only [Act.put, List.setIfInBounds_toArray, List.set_cons_zero, List.set_cons_succ]
                        refine takeH9 18 208 (.slice fa m fc) rfl rfl (by kernel_rfl) (by kernel_rfl) (by kernel_rfl) (fun _ _ _ h => h) (Or.inl ⟨by kernel_rfl, fun W h => by have hcx := ((hS1 W).1 h).2; go_simp⟩) hS ?_
                        try simp only [Act.put, List.setIfInBounds_toArray, List.set_cons_zero, List.set_cons_succ]
                        refine takeH9 19 209 (.int .i64 (m : Int)) rfl rfl (by kernel_rfl) (by kernel_rfl) (by kernel_rfl) (fun _ _ _ h => h) (Or.inl ⟨by kernel_rfl, fun W _ => by go_simp⟩) hS ?_
                        try simp only [Act.put, List.setIfInBounds_toArray, List.set_cons_zero, List.set_cons_succ]
                        refine wpAnyH_ready (rs := [12]) (by kernel_rfl) (by simp) ?_
                        refine AllReadyH.cons rfl (fun K hK => ?_) AllReadyH.nil
                        go_simp
                        refine (((hS1 _).1 hS).1.j.size HE9.out HM2).mono ?_
                        rintro e0 w23 ⟨rfl, hB3⟩
                        refine hK.out _ _ (hSb _ _ hS hB3) (fun hS => ?_)
                        clear hK K
                        try simp only [Act.put, List.setIfInBounds_toArray, List.set_cons_zero, List.set_cons_succ]
                        refine takeH9 20 210 (.bool false) rfl rfl (by kernel_rfl) (by kernel_rfl) (by kernel_rfl) (fun _ _ _ h => h) (Or.inl ⟨by kernel_rfl, fun W _ => by go_simp⟩) hS ?_
                        try simp only [Act.put, List.setIfInBounds_toArray, List.set_cons_zero, List.set_cons_succ]
                        refine takeH9 21 211 (.bool false) rfl rfl (by kernel_rfl) (by kernel_rfl) (by kernel_rfl) (fun _ _ _ h => h) (Or.inl ⟨by kernel_rfl, fun W _ => by go_simp⟩) hS ?_
                        try simp only [Act.put, List.setIfInBounds_toArray, List.set_cons_zero, List.set_cons_succ]
                        refine wpAnyH_done (by kernel_rfl) ?_ _
                        have HP8 := hide9 ((hS1 _).1 hS).1
                        clear hS hS1 hSb c0
                        go_wp2
                        go_roundw
                        case rel => exact ⟨j + 1, _, _, _, _, by omega, by go_num, rfl, HP8.out, HE9⟩
                        case measure => simp [intOf]; omega
                      · obtain ⟨m, HM⟩ : ∃ m, Hid (e.b.now.length = m) := ⟨_, rfl⟩
                        have HM2 : Hid ((e.at e.root).now.length = m) := by
                          show (e.at e.root).now.length = m
                          rw [HRT0.out]
                          exact HM.out
                        obtain ⟨-, -, -, ⟨fa, fc, c0, -⟩⟩ := (HP7.out.below (bel_drew _)).k.re.see (n0 := e.a.now.length) (n1 := m) (by exact (rfl : _ = _)) HM
                        obtain ⟨S, hS1⟩ : ∃ S : World → Prop, ∀ W', S W' ↔ Pj w T9 w.heap.size jb9 kb rb e g e g W' ∧ W'.cell? ⟨rb, 3, none⟩ = some (.slice fa m fc) := ⟨_, fun _ => Iff.rfl⟩
                        have hSb : ∀ W W', S W → Below W.heap.size W W' → S W' := fun W W' hs hb => (hS1 W').2 ⟨((hS1 W).1 hs).1.below hb, (hb.cell (p := ⟨rb, 3, none⟩) ((hS1 W).1 hs).1.k.re.lt).trans ((hS1 W).1 hs).2⟩
                        refine wp_region_held_drew (S := S) (by kernel_rfl) ((hS1 _).2 ⟨HP7.out.below (bel_drew _), c0⟩) (fun hS => ?_)
                        refine takeH9 0 190 (.int .i64 1) rfl rfl (by kernel_rfl) (by kernel_rfl) (by kernel_rfl) (fun _ _ _ h => h) (Or.inl ⟨by kernel_rfl, fun W _ => by go_simp⟩) hS ?_
                        try simp only [Act.put, List.setIfInBounds_toArray, List.set_cons_zero, List.set_cons_succ]
                        refine takeH9 1 191 (.pointer (some ⟨rb, 6, none⟩)) rfl rfl (by kernel_rfl) (by kernel_rfl) (by kernel_rfl) (fun _ _ _ h => h) (Or.inl ⟨by kernel_rfl, fun W _ => by go_simp⟩) hS ?_
                        try simp only [Act.put, List.setIfInBounds_toArray, List.set_cons_zero, List.set_cons_succ]
                        refine takeH9 2 192 (.int .i64 1) rfl rfl (by kernel_rfl) (by kernel_rfl) (by kernel_rfl) (fun _ _ _ h => h) (Or.inl ⟨by kernel_rfl, fun W h => by have hcx := ((hS1 W).1 h).1.k.re.root; rw [HRT0.out] at hcx; go_simp⟩) hS ?_
                        try simp only [Act.put, List.setIfInBounds_toArray, List.set_cons_zero, List.set_cons_succ]
                        refine takeH9 3 193 (.bool false) rfl rfl (by kernel_rfl) (by kernel_rfl) (by kernel_rfl) (fun _ _ _ h => h) (Or.inl ⟨by kernel_rfl, fun W _ => by go_simp⟩) hS ?_
                        try simp only [Act.put, List.setIfInBounds_toArray, List.set_cons_zero, List.set_cons_succ]
                        refine takeH9 4 194 (.bool false) rfl rfl (by kernel_rfl) (by kernel_rfl) (by kernel_rfl) (fun _ _ _ h => h) (Or.inl ⟨by kernel_rfl, fun W _ => by go_simp⟩) hS ?_
                        try simp only [Act.put, List.setIfInBounds_toArray, List.set_cons_zero, List.set_cons_succ]
                        refine takeH9 5 195 (ptr jb9 0) rfl rfl (by kernel_rfl) (by kernel_rfl) (by kernel_rfl) (fun _ _ _ h => h) (Or.inl ⟨by kernel_rfl, fun W _ => by go_simp⟩) hS ?_
                        try simp only [Act.put, List.setIfInBounds_toArray, List.set_cons_zero, List.set_cons_succ]
                        refine wpAnyH_ready (rs := [6]) (by kernel_rfl) (by simp) ?_
                        refine AllReadyH.cons rfl (fun K hK => ?_) AllReadyH.nil
                        go_simp
                        refine (((hS1 _).1 hS).1.j.leftH HLF).mono ?_
                        rintro e0 w21 ⟨rfl, hB⟩
                        refine hK.out _ _ (hSb _ _ hS hB) (fun hS => ?_)
                        clear hK K
                        try simp only [Act.put, List.setIfInBounds_toArray, List.set_cons_zero, List.set_cons_succ]
                        refine wpAnyH_ready (rs := [7]) (by kernel_rfl) (by simp) ?_
                        refine AllReadyH.cons rfl (fun K hK => ?_) AllReadyH.nil
                        go_simp
                        refine (((hS1 _).1 hS).1.rleft HLF).mono ?_
                        rintro e0 w22 ⟨rfl, hB2⟩
                        refine hK.out _ _ (hSb _ _ hS hB2) (fun hS => ?_)
                        clear hK K
                        try simp only [Act.put, List.setIfInBounds_toArray, List.set_cons_zero, List.set_cons_succ]
                        refine takeH9 8 198 (.bool false) rfl rfl (by kernel_rfl) (by kernel_rfl) (by kernel_rfl) (fun _ _ _ h => h) (Or.inl ⟨by kernel_rfl, fun W _ => by go_simp⟩) hS ?_
                        try simp only [Act.put, List.setIfInBounds_toArray, List.set_cons_zero, List.set_cons_succ]
                        refine takeH9 9 199 (.bool false) rfl rfl (by kernel_rfl) (by kernel_rfl) (by kernel_rfl) (fun _ _ _ h => h) (Or.inl ⟨by kernel_rfl, fun W _ => by go_simp⟩) hS ?_
                        try simp only [Act.put, List.setIfInBounds_toArray, List.set_cons_zero, List.set_cons_succ]
                        refine takeH9 10 200 (.bool false) rfl rfl (by kernel_rfl) (by kernel_rfl) (by kernel_rfl) (fun _ _ _ h => h) (Or.inl ⟨by kernel_rfl, fun W _ => by go_simp⟩) hS ?_
                        try simp only [Act.put, List.setIfInBounds_toArray, List.set_cons_zero, List.set_cons_succ]
                        refine takeH9 11 201 (ptr jb9 0) rfl rfl (by kernel_rfl) (by kernel_rfl) (by kernel_rfl) (fun _ _ _ h => h) (Or.inl ⟨by kernel_rfl, fun W _ => by go_simp⟩) hS ?_
                        try simp only [Act.put, List.setIfInBounds_toArray, List.set_cons_zero, List.set_cons_succ]
                        refine takeH9 13 203 (.pointer (some ⟨rb, 6, none⟩)) rfl rfl (by kernel_rfl) (by kernel_rfl) (by kernel_rfl) (fun _ _ _ h => h) (Or.inl ⟨by kernel_rfl, fun W _ => by go_simp⟩) hS ?_
                        try simp only [Act.put, List.setIfInBounds_toArray, List.set_cons_zero, List.set_cons_succ]
                        refine takeH9 14 204 (.int .i64 1) rfl rfl (by kernel_rfl) (by kernel_rfl) (by kernel_rfl) (fun _ _ _ h => h) (Or.inl ⟨by kernel_rfl, fun W h => by have hcx := ((hS1 W).1 h).1.k.re.root; rw [HRT0.out] at hcx; go_simp⟩) hS ?_
                        try simp only [Act.put, List.setIfInBounds_toArray, List.set_cons_zero, List.set_cons_succ]
                        refine takeH9 15 205 (.pointer (some ⟨rb, 0, none⟩)) rfl rfl (by kernel_rfl) (by kernel_rfl) (by kernel_rfl) (fun _ _ _ h => h) (Or.inl ⟨by kernel_rfl, fun W _ => by go_simp⟩) hS ?_
                        try simp only [Act.put, List.setIfInBounds_toArray, List.set_cons_zero, List.set_cons_succ]
                        refine takeH9 16 206 (.pointer (some ⟨rb, 3, none⟩)) rfl rfl (by kernel_rfl) (by kernel_rfl) (by kernel_rfl) (fun _ _ _ h => h) (Or.inl ⟨by kernel_rfl, fun W _ => by go_simp⟩) hS ?_
                        try simp only [Act.put, List.setIfInBounds_toArray, List.set_cons_zero, List.set_cons_succ]
                        refine takeH9 17 207 (.pointer (some ⟨rb, 3, none⟩)) rfl rfl (by kernel_rfl) (by kernel_rfl) (by kernel_rfl) (fun _ _ _ h => h) (Or.inl ⟨by kernel_rfl, fun W _ => by go_simp⟩) hS ?_
                        try simp only [Act.put, List.setIfInBounds_toArray, List.set_cons_zero, List.set_cons_succ]
                        refine takeH9 18 208 (.slice fa m fc) rfl rfl (by kernel_rfl) (by kernel_rfl) (by kernel_rfl) (fun _ _ _ h => h) (Or.inl ⟨by kernel_rfl, fun W h => by have hcx := ((hS1 W).1 h).2; go_simp⟩) hS ?_
                        try simp only [Act.put, List.setIfInBounds_toArray, List.set_cons_zero, List.set_cons_succ]
                        refine takeH9 19 209 (.int .i64 (m : Int)) rfl rfl (by kernel_rfl) (by kernel_rfl) (by kernel_rfl) (fun _ _ _ h => h) (Or.inl ⟨by kernel_rfl, fun W _ => by go_simp⟩) hS ?_
                        try simp only [Act.put, List.setIfInBounds_toArray, List.set_cons_zero, List.set_cons_succ]
                        refine wpAnyH_ready (rs := [12]) (by kernel_rfl) (by simp) ?_
                        refine AllReadyH.cons rfl (fun K hK => ?_) AllReadyH.nil
                        go_simp
                        refine (((hS1 _).1 hS).1.j.size HE9.out HM2).mono ?_
                        rintro e0 w23 ⟨rfl, hB3⟩
                        refine hK.out _ _ (hSb _ _ hS hB3) (fun hS => ?_)
                        clear hK K
                        try simp only [Act.put, List.setIfInBounds_toArray, List.set_cons_zero, List.set_cons_succ]
                        refine takeH9 20 210 (.bool false) rfl rfl (by kernel_rfl) (by kernel_rfl) (by kernel_rfl) (fun _ _ _ h => h) (Or.inl ⟨by kernel_rfl, fun W _ => by go_simp⟩) hS ?_
                        try simp only [Act.put, List.setIfInBounds_toArray, List.set_cons_zero, List.set_cons_succ]
                        refine takeH9 21 211 (.bool false) rfl rfl (by kernel_rfl) (by kernel_rfl) (by kernel_rfl) (fun _ _ _ h => h) (Or.inl ⟨by kernel_rfl, fun W _ => by go_simp⟩) hS ?_
                        try simp only [Act.put, List.setIfInBounds_toArray, List.set_cons_zero, List.set_cons_succ]
                        refine wpAnyH_done (by kernel_rfl) ?_ _
                        have HP8 := hide9 ((hS1 _).1 hS).1
                        clear hS hS1 hSb c0
                        go_wp2
                        go_roundw
                        case rel => exact ⟨j + 1, _, _, _, _, by omega, by go_num, rfl, HP8.out, HE9⟩
                        case measure => simp [intOf]; omega
        · have hji : ¬ (j : Int) < (bs.length : Int) := by omega
          have HB := hide9 hP.j.bel
          clear hP HV6
          go_wp2_with (go_at_call 12; refine (alive10_any _).mono ?_; rintro e w3 ⟨rfl, hB3⟩)
          go_ret
          exact ⟨rfl, bel HB.out hB3⟩
end Go.Proofs.Ytcjbceidgaieaaa.journalPlays
