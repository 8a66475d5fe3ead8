/- The contract of the reference's Parse. -/
import Derived.Test.YtoahjdpkhnkfiaaDoorPRPart
import Derived.Test.YtoahjdpkhnkfiaaDoorPParse
namespace Go.Proofs.YtoahjdpkhnkfiaaDoor
open Go.RowKit
theorem Rread_b (b : ByteArray) (w : World) (hz : b.size ≤ 1000000000) :
    Calls Tryd.prog 41 #[.string b] w fun e w' => e = .returned (.string (str (Pct.read b.data.toList))) ∧ Below w.heap.size w w' := by
  have := Rread_any b.data.toList w (by rw [← size_data0]; exact hz)
  rw [str_self] at this
  exact this
theorem eq_no {c : UInt8} (h : ¬ c = 61) : (((c.toNat : Nat) : Int) != 61) = true := by
  rw [bne_iff_ne]
  intro e
  exact h (UInt8.toNat_inj.1 (by have : (61 : UInt8).toNat = 61 := rfl; omega))
theorem at_byte (S : ByteArray) (j : Nat) (h : j < S.size) : S.data.toList[j]? = some S[j] := by
  rw [List.getElem?_eq_getElem (by rw [← size_data0]; exact h)]
  rfl
theorem pair_hit (S : ByteArray) (n : Nat) (h : n < S.size) (hn : S[n] = 61) (hb : ∀ j, j < n → S.data.toList[j]? ≠ some 61) : Pct.pairOf S.data.toList = (Pct.read (S.extract 0 n).data.toList, Pct.read (S.extract (n + 1) S.size).data.toList) := by
  unfold Pct.pairOf
  have e : S.data.toList.take S.size = S.data.toList := List.take_of_length_le (by rw [← size_data0]; exact Nat.le_refl _)
  rw [Pct.cut_at S.data.toList 61 n (by rw [at_byte S n h, hn]) hb, data_cut, data_cut, List.drop_zero, e]
theorem pair_miss (S : ByteArray) (n : Nat) (h : ¬ n < S.size) (hb : ∀ j, j < n → S.data.toList[j]? ≠ some 61) : Pct.pairOf S.data.toList = (Pct.read (S.extract 0 n).data.toList, []) := by
  unfold Pct.pairOf
  rw [Pct.cut_none S.data.toList 61 (by
    intro j
    by_cases hj : j < n
    · exact hb j hj
    · rw [List.getElem?_eq_none (by rw [← size_data0]; omega)]
      simp), data_cut, List.drop_zero, List.take_of_length_le (by rw [← size_data0]; omega)]
  show (_, Pct.read []) = _
  rw [Pct.read_nil]
set_option maxHeartbeats 4000000 in
set_option maxRecDepth 100000 in
theorem RParse_any (l : List UInt8) (w : World) (hz : l.length ≤ 1000000000) :
    Calls Tryd.prog 17 #[.string (str l)] w fun e w' => ∃ u, e = .returned (.tuple #[u, .int .i64 (perr l)]) ∧ OwnsPairs 49 w' w.heap.size u (parsed l) ∧ Below w.heap.size w w' := by
  have hcs := Pct.count_split 38 l
  by_cases hmany : 512 < l.count 38
  · have HP : Hid _ := parsed_many hmany
    have hc2 : 514 ≤ (Asc.split l 38).length := by omega
    have hc3 : (Asc.split l 38).length ≤ 1000000001 := by
      have := List.count_le_length (a := 38) (l := l)
      omega
    clear hcs hmany
    go_enter Tryd.func17, Tryd.ntmps17
    go_wp2_with (go_at_call 40; refine (RSplit_any (str l) 38 _ (by rw [str_size]; exact hz)).mono ?_; rintro e w2 ⟨v, rfl, hown, hb2⟩; rw [str_data] at hown; have hrd := hown.reads; clear hown; obtain ⟨a1, c1, rfl⟩ := hrd.form)
    go_ret2
    exact ⟨.slice none 0 0, by rw [HP.out.2]; rfl, by rw [HP.out.1]; exact OwnsPairs.nil _ _ _, hb2⟩
  · have HP : Hid _ := parsed_ok hmany
    have hc3 : (Asc.split l 38).length ≤ 513 := by omega
    clear hcs hmany
    obtain ⟨i0, hi, hz0, hz1, hz2⟩ := info_parts infoOurs
    have HPL : Hid (∀ p ∈ Asc.split l 38, p.length ≤ l.length) := Asc.split_part 38 l
    go_enter Tryd.func17, Tryd.ntmps17
    go_wp2_with (go_at_call 40; refine (RSplit_any (str l) 38 _ (by rw [str_size]; exact hz)).mono ?_; rintro e w2 ⟨v, rfl, hown, hb2⟩; rw [str_data] at hown; have hrd := hown.reads; clear hown; obtain ⟨a1, c1, rfl⟩ := hrd.form)
    have HRD : Hid (ReadsTexts w2 (.slice a1 (Asc.split l 38).length c1) (Asc.split l 38)) := hrd
    have hw2 := hb2.size
    clear hrd
    go_loopw [5, 6] (fun u i wr => ∃ k : Nat, k ≤ (Asc.split l 38).length ∧ i = .int .i64 k ∧ OwnsPairs 49 wr w2.heap.size u (Pct.pairs ((Asc.split l 38).take k)) ∧ Below w2.heap.size w2 wr) (fun _ i _ => (Asc.split l 38).length - (intOf i).toNat)
    case atStart => exact ⟨0, Nat.zero_le _, rfl, OwnsPairs.nil _ _ _, Below.refl _ _⟩
    case round =>
      obtain ⟨k, hk, rfl, hown, hbel⟩ := hrel
      by_cases hlt : k < (Asc.split l 38).length
      · obtain ⟨t, ht⟩ : ∃ t, (Asc.split l 38)[k]? = some t := ⟨_, List.getElem?_eq_getElem hlt⟩
        obtain ⟨b, o, rfl, hc, hbl, h1⟩ := HRD.out.at ht
        have g1 := (hbel.cell (p := ⟨b, o + k, none⟩) hbl).trans h1
        have htl := HPL.out t (List.mem_of_getElem? ht)
        have hsz := hbel.size
        by_cases hte : t = []
        · subst hte
          have HN : Hid _ := Pct.pairs_empty _ _ ht
          have hne : (str []).toList.isEmpty = true := by rw [str_list]; rfl
          clear ht h1
          go_wp2
          go_roundw
          case rel => exact ⟨k + 1, by omega, by go_num, by rw [HN.out]; exact hown, hbel⟩
          case measure => simp [intOf]; omega
        · have HN := Pct.pairs_more _ _ t ht hte
          have hne := empty_not hte
          have hpl := Pct.pairs_le ((Asc.split l 38).take k)
          rw [List.length_take] at hpl
          have hpl2 : (Pct.pairs ((Asc.split l 38).take k)).length ≤ 1000 := by omega
          have hSz : (str t).size ≤ 1000000000 := by rw [str_size]; omega
          rw [← str_data t] at HN
          have HN : Hid _ := HN
          clear ht h1 hte hpl
          generalize str t = S at g1 hne HN hSz ⊢
          generalize wr = V at g1 hown hbel hsz ⊢
          go_wp2
          go_loopw [7] (fun i wi => ∃ n : Nat, n ≤ S.size ∧ i = .int .i64 n ∧ Hid (∀ j, j < n → S.data.toList[j]? ≠ some 61) ∧ wi = V) (fun i _ => S.size - (intOf i).toNat)
          case atStart => exact ⟨0, Nat.zero_le _, rfl, by intro j hj; omega, rfl⟩
          case round =>
            obtain ⟨n, hn, rfl, HB, hwi⟩ := hrel
            rw [hwi]
            clear hwi
            by_cases hnl : n < S.size
            · by_cases he : S[n] = 61
              · have hq : (((S[n].toNat : Nat) : Int) != 61) = false := by rw [he]; rfl
                have HR := pair_hit S n hnl he HB.out
                rw [HR] at HN
                have hx1 : (S.extract 0 n).size ≤ 1000000000 := by rw [cut_size S 0 n (by omega)]; omega
                have hx2 : (S.extract (n + 1) S.size).size ≤ 1000000000 := by rw [cut_size S (n + 1) S.size (by omega)]; omega
                clear he HR
                have hbV : b < V.heap.size := by omega
                go_wp2_with fail
                go_at_call 41
                refine (Rread_b _ _ hx1).mono ?_
                rintro e w4 ⟨rfl, hb4⟩
                have g4 := (hb4.cell (p := ⟨b, o + k, none⟩) hbV).trans g1
                have hl4 := hb4.size
                have hbl4 : b < w4.heap.size := by omega
                generalize hN1 : str (Pct.read (S.extract 0 n).data.toList) = N1
                have HN1 : Hid _ := hN1
                clear hN1
                have g5 : (w4.alloc (.cells #[.string N1, .string ⟨#[]⟩] 49)).cell? ⟨b, o + k, none⟩ = some (.string S) := cell_alloc g4
                go_wp2_with fail
                go_at_call 41
                refine (Rread_b _ _ hx2).mono ?_
                rintro e w5 ⟨rfl, hb5⟩
                have hb45 : Below w4.heap.size w4 (w4.alloc (.cells #[.string N1, .string ⟨#[]⟩] 49)) := (Below.refl _ w4).alloc (Nat.le_refl _) _
                have hblk : w5.heap[w4.heap.size]? = some (.cells #[.string N1, .string ⟨#[]⟩] 49 (0, 0)) := (hb5.block w4.heap.size (by simp)).trans (heap_alloc_last w4 _)
                have c0 : w5.cell? ⟨w4.heap.size, 0, none⟩ = some (.string N1) := by rw [Lib.cell_of_heap hblk]; rfl
                have c1 : w5.cell? ⟨w4.heap.size, 1, none⟩ = some (.string ⟨#[]⟩) := by rw [Lib.cell_of_heap hblk]; rfl
                have f1 : w5.frozen? ⟨w4.heap.size, 1, none⟩ = false := Lib.frozen_of_heap hblk 1
                have hB5 : Below V.heap.size V w5 := bel (bel hb4 hb45) hb5
                have hl5 := hB5.size
                generalize hN2 : str (Pct.read (S.extract (n + 1) S.size).data.toList) = N2
                have HN2 : Hid _ := hN2
                clear hN2 hblk
                have hB6 : Below V.heap.size V (w5.setCell ⟨w4.heap.size, 1, none⟩ (.string N2)) := hB5.setCell (p := ⟨w4.heap.size, 1, none⟩) hl4 _
                have hown6 := ownsRow_below hown hB6
                go_wp2_with (at_builtin; refine wpList_append_own _ rfl _ _ 27 rfl w2.heap.size 49 i0 (.agg #[.string ByteArray.empty, .string ByteArray.empty]) 2 32 Tryd.underlying27 hi hz0 hz1 hz2 rfl (by decide) _ _ _ rfl (World.ownsRow.alloc hown6 _) ⟨w5.heap.size, 0, none⟩ 1 1 [.string N1, .string N2] rfl rfl (by have := cell_two_new (w5.setCell ⟨w4.heap.size, 1, none⟩ (.string N2)) (.string N1) (.string N2) 49; simpa using this) (fun x hx => by simp at hx; rcases hx with rfl | rfl <;> rfl) (by unfold maxLen; omega) (by omega) (by simp; omega) ?_; intro v' w6 hown' hgrow hnil)
                go_roundw
                case rel => exact ⟨k + 1, by omega, by go_num, OwnsPairs.of HN.out (congrArg Value.string HN1.out) (congrArg Value.string HN2.out) hown', ((hbel.trans (hB6.mono hsz)).alloc (by simp; omega) _).grown hgrow (by simp; omega) (fun q hq => (World.ownsRow.lt hown q hq).1)⟩
                case measure => simp [intOf]; omega
              · have hq := eq_no he
                have HB2 : Hid (∀ j, j < n + 1 → S.data.toList[j]? ≠ some 61) := by
                  intro j hj
                  by_cases hjn : j = n
                  · subst hjn
                    rw [at_byte S j hnl]
                    intro e
                    exact he (Option.some.inj e)
                  · exact HB.out j (by omega)
                clear he
                go_wp2
                go_roundw
                case rel => exact ⟨n + 1, by omega, by go_num, HB2, by first | rfl | trivial⟩
                case measure => simp [intOf]; omega
            · have HR := pair_miss S n hnl HB.out
              rw [HR] at HN
              have hx1 : (S.extract 0 n).size ≤ 1000000000 := by rw [cut_size S 0 n (by omega)]; omega
              clear HR
              have hbV : b < V.heap.size := by omega
              go_wp2_with fail
              go_at_call 41
              refine (Rread_b _ _ hx1).mono ?_
              rintro e w4 ⟨rfl, hb4⟩
              have g4 := (hb4.cell (p := ⟨b, o + k, none⟩) hbV).trans g1
              have hl4 := hb4.size
              have hbl4 : b < w4.heap.size := by omega
              generalize hN1 : str (Pct.read (S.extract 0 n).data.toList) = N1
              have HN1 : Hid _ := hN1
              clear hN1
              have hB5 : Below V.heap.size V (w4.alloc (.cells #[.string N1, .string ⟨#[]⟩] 49)) := hb4.alloc hl4 _
              have hown6 := ownsRow_below hown hB5
              go_wp2_with (at_builtin; refine wpList_append_own _ rfl _ _ 27 rfl w2.heap.size 49 i0 (.agg #[.string ByteArray.empty, .string ByteArray.empty]) 2 32 Tryd.underlying27 hi hz0 hz1 hz2 rfl (by decide) _ _ _ rfl (World.ownsRow.alloc hown6 _) ⟨w4.heap.size + 1, 0, none⟩ 1 1 [.string N1, .string ⟨#[]⟩] rfl rfl (by have := cell_two_new (w4.alloc (.cells #[.string N1, .string ⟨#[]⟩] 49)) (.string N1) (.string ⟨#[]⟩) 49; simpa using this) (fun x hx => by simp at hx; rcases hx with rfl | rfl <;> rfl) (by unfold maxLen; omega) (by omega) (by simp; omega) ?_; intro v' w6 hown' hgrow hnil)
              go_roundw
              case rel => exact ⟨k + 1, by omega, by go_num, OwnsPairs.of HN.out (congrArg Value.string HN1.out) rfl hown', ((hbel.trans (hB5.mono hsz)).alloc (by simp; omega) _).grown hgrow (by simp; omega) (fun q hq => (World.ownsRow.lt hown q hq).1)⟩
              case measure => simp [intOf]; omega
      · have HN : Hid ((Asc.split l 38).take k = Asc.split l 38) := List.take_of_length_le (by omega)
        go_wp2
        go_ret2
        exact ⟨_, by rw [HP.out.2]; rfl, by rw [HP.out.1, Pct.parse, ← HN.out]; exact owns_base hown hw2, bel hb2 hbel⟩
end Go.Proofs.YtoahjdpkhnkfiaaDoor
