/- The walk of the law JournalRefused, out of the contracts. -/
import Derived.Test.YtnnlmnjbmbflpaaJnO
set_option linter.unusedVariables false
set_option linter.unusedSimpArgs false
namespace Go.Proofs.Ytnnlmnjbmbflpaa.journalRefused
open Go.RowKit
theorem rem500 (a : Int) (h0 : 0 ≤ a) : a.tmod 500 = a % 500 := Int.tmod_eq_emod_of_nonneg h0
theorem opens_new (room : Int) : Jn.opens (Dk.new room) = (0, Dk.new room) := by rfl
theorem recs_new (room : Int) : Jn.recs (Dk.new room) (Dk.new room).root = [] := by rfl
theorem JMade.below {w w' : World} {v : Value} {m : Bool} (h : JMade w v m) (hB : Below w.heap.size w w') : JMade w' v m := by
  rcases h with h | ⟨jb, p, rfl, h, rfl⟩
  · exact .inl h
  · exact .inr ⟨jb, p, rfl, (hB.cell (p := ⟨jb, 0, none⟩) (cell_lt h)).trans h, rfl⟩
abbrev zJ : Array Value := #[.pointer none, .slice none 0 0, .int .i64 0]
theorem two_new (w : World) : ((w.alloc (.cells zJ 86)).alloc (.cells #[.pointer none, ptr w.heap.size 0] 53)).cell? ⟨w.heap.size, 0, none⟩ = some (.pointer none) ∧ ((w.alloc (.cells zJ 86)).alloc (.cells #[.pointer none, ptr w.heap.size 0] 53)).cell? ⟨w.heap.size + 1, 0, none⟩ = some (.pointer none) ∧ ((w.alloc (.cells zJ 86)).alloc (.cells #[.pointer none, ptr w.heap.size 0] 53)).cell? ⟨w.heap.size + 1, 1, none⟩ = some (ptr w.heap.size 0) := by
  have h1 := heap_new (w.alloc (.cells zJ 86)) (.cells #[.pointer none, ptr w.heap.size 0] 53)
  rw [size_alloc] at h1
  have hB := alloc1 (w.alloc (.cells zJ 86)) (.cells #[.pointer none, ptr w.heap.size 0] 53)
  refine ⟨?_, Lib.cell_of_heap h1 0, Lib.cell_of_heap h1 1⟩
  rw [hB.cell (p := ⟨w.heap.size, 0, none⟩) (by rw [size_alloc]; exact Nat.lt_succ_self _), Lib.cell_of_heap (heap_new w _)]
  rfl
set_option maxHeartbeats 8000000 in
set_option maxRecDepth 100000 in
theorem walk (a0 : Int) (v1 : Value) (as9 : List Aj) (w : World) (h0 : (Lit.int .u16 a0).wf = true) (h1 : ArgJ w v1 as9) :
    Calls Try.prog 8 #[.int .u16 a0, v1] w fun e w' => e = .returned (.bool true) ∧ Below w.heap.size w w' := by
  obtain ⟨hva, hla⟩ := h1
  have hb : 0 ≤ a0 ∧ a0 ≤ 65535 := by
    simp only [Lit.wf, Bool.and_eq_true, decide_eq_true_eq] at h0
    exact h0
  clear h0
  have hr := rem500 a0 hb.1
  obtain ⟨k, hk⟩ : ∃ k, k = a0 % 500 := ⟨_, rfl⟩
  rw [← hk] at hr
  have hk0 : 0 ≤ k ∧ k < 500 := by omega
  have hw1 : IntKind.i64.wrap (k + 1) = k + 1 := w64 rfl (by omega) (by omega)
  have hw0 : IntKind.i64.wrap a0 = a0 := w64 rfl (by omega) (by omega)
  have hN := New_yes (k + 1) (by omega) (by omega) w
  have HA : Hid (RJs w v1 as9) := hva
  have HLA : Hid (as9.length ≤ maxLen) := hla
  have kc := fun (w : World) (C : Array Value) (n c : Nat) => Lib.run_convert_bytes_const (P := Try.prog) w 27 5 C n c Try.underlying27 Try.underlying5
  clear hva hla hk
  go_enter Try.func8, Try.ntmps8
  go_wp2_with (go_at_call 9; refine hN.mono ?_; rintro e w1 ⟨rfl, hD1, hB1⟩; have L1 := hide9 (Lt.new (Below.refl _ w) hD1 hB1); have hF := far10_any (HA.out.below hB1) HLA.out; clear hN hD1)
  refine hF.mono ?_
  rintro e w2 ⟨⟨x, rfl, hx⟩, hB2⟩
  have L2 := hide9 (L1.out.below hB2)
  have hAl := alive10_any w2
  have HB2 := hide9 (bel hB1 hB2)
  clear hF L1 hB1 hB2
  cases x with
  | true =>
    clear hx
    go_wp2_with (go_at_call 22; refine hAl.mono ?_; rintro e w3 ⟨rfl, hB3⟩)
    go_ret
    exact ⟨rfl, bel HB2.out hB3⟩
  | false =>
    clear hAl
    have HX := hide9 (hx rfl)
    clear hx
    have hO := L2.out.opens rfl (by exact opens_new (k + 1)) (by exact recs_new (k + 1))
    have hSh := fun (W : World) (hW : Below w.heap.size w W) => short10_any (HA.out.below hW) HLA.out
    have HSH := hide9 hSh
    clear hSh
    have hbs : (as9.take 40).length ≤ 40 := by simp; omega
    generalize as9.take 40 = bs at *
    go_wp2_with (first
      | (go_at_call 23; refine hO.mono ?_; rintro e w5 ⟨T5, jb, a5, c5, rfl, hJ5, hT5, -⟩; have HJ5 := hide9 hJ5; have hSh := HSH.out w5 hJ5.bel; clear hO hJ5 hT5)
      | (go_at_call 25; refine hSh.mono ?_; rintro e w6 ⟨v6, rfl, hv6, he⟩; replace he := he.symm; subst he; have HV6 := hide9 (hv6 w HA.out); obtain ⟨sa, sc, rfl, hsc⟩ := HV6.out.form; clear hSh hv6))
    have HC5 : Hid ((Dk.new (k + 1)).Calm) := ⟨rfl, rfl⟩
    clear HA HLA hb hr hw1 hw0 hk0 HSH L2 HB2
    go_loopw [60] (fun i wr => ∃ (j : Nat) (T : Nat → Prop) (d : Dk.D) (gs : List (List UInt8)), j ≤ bs.length ∧ i = .int .i64 (j : Int) ∧ JR w T w.heap.size jb d gs wr ∧ Hid d.Calm) (fun i _ => bs.length - (intOf i).toNat)
    case atStart => exact ⟨0, _, _, _, Nat.zero_le _, rfl, HJ5.out, HC5⟩
    case round =>
      obtain ⟨j, T, d, gs, hj, rfl, hJ, HC⟩ := hrel
      clear HJ5 HC5
      by_cases hlt : j < bs.length
      · have hji : (j : Int) < (bs.length : Int) := by omega
        obtain ⟨-, -, ab, ao, rfl, hr, hA⟩ := RJs.at (HV6.out.below hJ.bel) hlt
        have hone := one_row hA.rb
        have h20 := HX.out _ (List.getElem_mem hlt)
        have HA0 := hide9 (HV6.out.ok hlt)
        have hm := rem7 _ hA.kind
        generalize bs[j] = ac at *
        have HJ := hide9 hJ
        have hk7 : ac.kind % 7 < 7 := Nat.mod_lt _ (by decide)
        have HKK := hide9 (rfl : ac.kind % 7 = ac.kind % 7)
        have hcd := Jn.does_calm HC.out hJ.fine gs ac
        have HCD := hide9 hcd
        clear hJ hA hcd
        generalize hkk : ac.kind % 7 = kk at *
        by_cases h245 : kk = 2 ∨ kk = 4 ∨ kk = 5
        · clear HCD
          have hq : ((kk : Int) == 2 || (kk : Int) == 4 || (kk : Int) == 5) = true := by
            rcases h245 with rfl | rfl | rfl <;> rfl
          rcases h245 with rfl | rfl | rfl
          all_goals (
            go_wp2_with (first
              | ((with_reducible show wpList _ _ _ ({ op := Op.load 63 _, .. } :: _) _ _); refine wpList_load_J rfl _ rfl _ _ rfl ac hr ?_)
              | ((with_reducible show wpList _ _ _ ({ op := Op.store 63 _ _, .. } :: _) _ _); refine wpList_store_J _ _ rfl rfl _ ac _ rfl rfl (heap_new _ _) rfl hone ?_; intro wn hAn hOn; have c0 : wn.cell? ⟨wr.heap.size, 0, none⟩ = some (.int .u8 (ac.kind : Int)) := hAn.cell 0))
            exact ⟨⟨j + 1, _, _, _, by omega, by go_num, HJ.out.below (store_below hOn), HC⟩, by simp [intOf]; omega⟩)
        · have hcd := HCD.out (by omega)
          obtain ⟨r, HR⟩ : ∃ r, Hid (Jn.does d gs ac = r) := ⟨_, rfl⟩
          rw [HR.out] at hcd
          have hon := HC.out.on
          obtain ⟨m1, HM1⟩ : ∃ m1, Hid ((d.at d.root).now.length = m1) := ⟨_, rfl⟩
          obtain ⟨g1, HG1⟩ : ∃ g1, Hid ((Jn.frames gs).length = g1) := ⟨_, rfl⟩
          have HCD2 := hide9 hcd
          clear HCD hcd
          have n2 : ¬ (kk : Int) = 2 := by omega
          have b2 : ((kk : Int) == 2) = false := by simpa using n2
          have n4 : ¬ (kk : Int) = 4 := by omega
          have b4 : ((kk : Int) == 4) = false := by simpa using n4
          have n5 : ¬ (kk : Int) = 5 := by omega
          have b5 : ((kk : Int) == 5) = false := by simpa using n5
          go_wp2_with (first
            | ((with_reducible show wpList _ _ _ ({ op := Op.load 63 _, .. } :: _) _ _); refine wpList_load_J rfl _ rfl _ _ rfl ac hr ?_; clear hr)
            | ((with_reducible show wpList _ _ _ ({ op := Op.store 63 _ _, .. } :: _) _ _); refine wpList_store_J _ _ rfl rfl _ ac _ rfl rfl (heap_new _ _) rfl hone ?_; intro wn hAn hOn; have c0 : wn.cell? ⟨wr.heap.size, 0, none⟩ = some (.int .u8 (ac.kind : Int)) := hAn.cell 0; replace HJ := hide9 (HJ.out.below (store_below hOn)); have HAN := hide9 hAn; clear hOn hAn)
            | (go_at_call 35; refine (HJ.out.size hon HM1).mono ?_; rintro e w9 ⟨rfl, hB9⟩; replace HJ := hide9 (HJ.out.below hB9); replace HAN := hide9 (HAN.out.keep (hB9.block _ HAN.out.lt)); clear hB9)
            | (go_at_call 28; refine (HJ.out.group HG1).mono ?_; rintro e w9 ⟨rfl, he⟩; replace he := he.symm; subst he)
            | (go_at_call 34; refine HJ.out.left.mono ?_; rintro e w9 ⟨rfl, hB9⟩; replace HJ := hide9 (HJ.out.below hB9); replace HAN := hide9 (HAN.out.keep (hB9.block _ HAN.out.lt)); clear hB9)
            | ((with_reducible show wpList _ _ _ ({ op := Op.load 63 _, .. } :: _) _ _); refine wpList_load_J rfl _ rfl _ _ rfl ac HAN.out.range ?_))
          refine (HJ.out.does ac HA0.out h20 HR).mono ?_
          rintro e w8 ⟨T8, rfl, hJ8, hT8⟩
          have HJ8 := hide9 hJ8
          clear hJ8 hT8 HJ HAN HR
          obtain ⟨r1, d2, gs2⟩ := r
          dsimp only at HJ8 HCD2
          rcases HCD2.out with ⟨hr1, hr2⟩ | ⟨hr1, hr2⟩
          · clear HCD2
            rcases hr1 with hr1 | hr1 | hr1
            · subst hr1
              obtain ⟨rfl, rfl⟩ : d2 = d ∧ gs2 = gs := ⟨congrArg Prod.fst hr2, congrArg Prod.snd hr2⟩
              clear hr2
              go_wp2_with (first
                | (go_at_call 35; refine (HJ8.out.size hon HM1).mono ?_; rintro e w9 ⟨rfl, hB9⟩; replace HJ8 := hide9 (HJ8.out.below hB9); clear hB9)
                | (go_at_call 28; refine (HJ8.out.group HG1).mono ?_; rintro e w9 ⟨rfl, he⟩; replace he := he.symm; subst he)
                | (go_at_call 34; refine HJ8.out.left.mono ?_; rintro e w9 ⟨rfl, hB9⟩; replace HJ8 := hide9 (HJ8.out.below hB9); clear hB9))
              exact ⟨⟨j + 1, _, _, _, by omega, by go_num, HJ8.out, HC⟩, by simp [intOf]; omega⟩
            · subst hr1
              obtain ⟨rfl, rfl⟩ : d2 = d ∧ gs2 = gs := ⟨congrArg Prod.fst hr2, congrArg Prod.snd hr2⟩
              clear hr2
              go_wp2_with (first
                | (go_at_call 35; refine (HJ8.out.size hon HM1).mono ?_; rintro e w9 ⟨rfl, hB9⟩; replace HJ8 := hide9 (HJ8.out.below hB9); clear hB9)
                | (go_at_call 28; refine (HJ8.out.group HG1).mono ?_; rintro e w9 ⟨rfl, he⟩; replace he := he.symm; subst he)
                | (go_at_call 34; refine HJ8.out.left.mono ?_; rintro e w9 ⟨rfl, hB9⟩; replace HJ8 := hide9 (HJ8.out.below hB9); clear hB9))
              exact ⟨⟨j + 1, _, _, _, by omega, by go_num, HJ8.out, HC⟩, by simp [intOf]; omega⟩
            · subst hr1
              obtain ⟨rfl, rfl⟩ : d2 = d ∧ gs2 = gs := ⟨congrArg Prod.fst hr2, congrArg Prod.snd hr2⟩
              clear hr2
              go_wp2_with (first
                | (go_at_call 35; refine (HJ8.out.size hon HM1).mono ?_; rintro e w9 ⟨rfl, hB9⟩; replace HJ8 := hide9 (HJ8.out.below hB9); clear hB9)
                | (go_at_call 28; refine (HJ8.out.group HG1).mono ?_; rintro e w9 ⟨rfl, he⟩; replace he := he.symm; subst he)
                | (go_at_call 34; refine HJ8.out.left.mono ?_; rintro e w9 ⟨rfl, hB9⟩; replace HJ8 := hide9 (HJ8.out.below hB9); clear hB9))
              exact ⟨⟨j + 1, _, _, _, by omega, by go_num, HJ8.out, HC⟩, by simp [intOf]; omega⟩
          · subst hr1
            clear HCD2
            have HC8 := hide9 hr2
            clear hr2
            go_wp2
            exact ⟨⟨j + 1, _, _, _, by omega, by go_num, HJ8.out, HC8⟩, by simp [intOf]; omega⟩
      · have hji : ¬ (j : Int) < (bs.length : Int) := by omega
        have HB := hide9 hJ.bel
        clear hJ HV6 HC HX
        go_wp2
        obtain ⟨z0, z1, z2⟩ := two_new wr
        have HB2 := hide9 (bel HB.out (two_boxes wr (.cells zJ 86) (.cells #[.pointer none, ptr wr.heap.size 0] 53)))
        generalize hW2 : (wr.alloc (.cells zJ 86)).alloc (.cells #[.pointer none, ptr wr.heap.size 0] 53) = W2 at *
        clear hW2 HB
        generalize wr.heap.size = zb at *
        have Z0 := hide9 z0
        clear z0
        go_loopw [123] (fun i wr => (i = .int .i64 0 ∨ i = .int .i64 1 ∨ i = .int .i64 2) ∧ Below W2.heap.size W2 wr ∧ Below w.heap.size w wr) (fun i _ => 2 - (intOf i).toNat)
        case atStart => exact ⟨.inl rfl, Below.refl _ _, HB2.out⟩
        case round =>
          obtain ⟨hi, hE, hBB⟩ := hrel
          have y1 := (hE.cell (p := ⟨zb + 1, 0, none⟩) (cell_lt z1)).trans z1
          have y2 := (hE.cell (p := ⟨zb + 1, 1, none⟩) (cell_lt z2)).trans z2
          have Y0 := hide9 ((hE.cell (p := ⟨zb, 0, none⟩) (cell_lt Z0.out)).trans Z0.out)
          rcases hi with rfl | rfl | rfl
          · have HMA : Hid (∀ W, Below wr.heap.size wr W → JMade W (.pointer none) false) := fun W _ => .inl ⟨rfl, rfl⟩
            have HE : Hid (Below W2.heap.size W2 wr) := hE
            have HB : Hid (Below w.heap.size w wr) := hBB
            clear hE hBB
            go_wp2_with (first
              | (go_at_call 40; refine (AddJ_no (HMA.out _ (alloc2 _ _ _)) _).mono ?_; rintro e wn ⟨rfl, he⟩; have hY : Below wr.heap.size wr wn := (by rw [he]; exact alloc2 _ _ _); clear he; have HM := hide9 (HMA.out _ hY); replace HB := hide9 (bel HB.out hY); replace HE := hide9 (bel HE.out hY); clear hY HMA)
              | (go_at_call 41; refine (CommitJ_no HM.out).mono ?_; rintro e wm ⟨rfl, he⟩; replace he := he.symm; subst he)
              | (go_at_call 43; refine (SnapshotJ_no HM.out _).mono ?_; rintro e wm ⟨rfl, he⟩; replace he := he.symm; subst he)
              | (go_at_call 42; refine (DropJ_no HM.out).mono ?_; rintro e wm ⟨rfl, he⟩; replace he := he.symm; subst he)
              | (go_at_call 35; refine (SizeJ_no HM.out).mono ?_; rintro e wm ⟨rfl, he⟩; replace he := he.symm; subst he)
              | (go_at_call 34; refine (LeftJ_no HM.out).mono ?_; rintro e wm ⟨rfl, he⟩; replace he := he.symm; subst he)
              | (go_at_call 28; refine (GroupJ_no HM.out).mono ?_; rintro e wm ⟨rfl, he⟩; replace he := he.symm; subst he))
            exact ⟨⟨.inr (.inl rfl), HE.out, HB.out⟩, by simp [intOf]⟩
          · have HMA : Hid (∀ W, Below wr.heap.size wr W → JMade W (ptr zb 0) false) := fun W hW => JMade.below (.inr ⟨zb, none, rfl, Y0.out, rfl⟩) hW
            have HE : Hid (Below W2.heap.size W2 wr) := hE
            have HB : Hid (Below w.heap.size w wr) := hBB
            clear hE hBB
            go_wp2_with (first
              | (go_at_call 40; refine (AddJ_no (HMA.out _ (alloc2 _ _ _)) _).mono ?_; rintro e wn ⟨rfl, he⟩; have hY : Below wr.heap.size wr wn := (by rw [he]; exact alloc2 _ _ _); clear he; have HM := hide9 (HMA.out _ hY); replace HB := hide9 (bel HB.out hY); replace HE := hide9 (bel HE.out hY); clear hY HMA)
              | (go_at_call 41; refine (CommitJ_no HM.out).mono ?_; rintro e wm ⟨rfl, he⟩; replace he := he.symm; subst he)
              | (go_at_call 43; refine (SnapshotJ_no HM.out _).mono ?_; rintro e wm ⟨rfl, he⟩; replace he := he.symm; subst he)
              | (go_at_call 42; refine (DropJ_no HM.out).mono ?_; rintro e wm ⟨rfl, he⟩; replace he := he.symm; subst he)
              | (go_at_call 35; refine (SizeJ_no HM.out).mono ?_; rintro e wm ⟨rfl, he⟩; replace he := he.symm; subst he)
              | (go_at_call 34; refine (LeftJ_no HM.out).mono ?_; rintro e wm ⟨rfl, he⟩; replace he := he.symm; subst he)
              | (go_at_call 28; refine (GroupJ_no HM.out).mono ?_; rintro e wm ⟨rfl, he⟩; replace he := he.symm; subst he))
            exact ⟨⟨.inr (.inr rfl), HE.out, HB.out⟩, by simp [intOf]⟩
          · have hAl := alive10_any wr
            have hON := Open_nil (w := wr) (v := .pointer none) (.inl ⟨rfl, rfl⟩)
            go_wp2_with (first
              | (go_at_call 23; refine hON.mono ?_; rintro e w2 ⟨rfl, he⟩; replace he := he.symm; subst he)
              | (go_at_call 22; refine hAl.mono ?_; rintro e w3 ⟨rfl, hB3⟩))
            go_ret
            exact ⟨rfl, bel hBB hB3⟩
end Go.Proofs.Ytnnlmnjbmbflpaa.journalRefused
