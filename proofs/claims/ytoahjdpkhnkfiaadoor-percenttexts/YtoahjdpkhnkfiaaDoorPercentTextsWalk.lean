/- The walk of the law PercentTexts, out of the contracts. -/
import Derived.Test.YtoahjdpkhnkfiaaDoorPLaw
namespace Go.Proofs.YtoahjdpkhnkfiaaDoor.percentTexts
open Go.RowKit
theorem amp_yes {c : UInt8} (h : c = 38) : ((c.toNat : Int) == 38) = true := by rw [h]; rfl
theorem amp_no {c : UInt8} (h : ¬ c = 38) : ((c.toNat : Int) == 38) = false := by
  rw [beq_eq_false_iff_ne]
  intro e
  exact h (UInt8.toNat_inj.1 (by have : (38 : UInt8).toNat = 38 := rfl; omega))
theorem count_next (s : ByteArray) (k : Nat) (h : k < s.size) : (s.data.toList.take (k + 1)).count 38 = (s.data.toList.take k).count 38 + (if s[k] = 38 then 1 else 0) := by
  rw [Asc.take_snoc s.data.toList k h, List.count_append]
  have e : s.data.toList[k] = s[k] := rfl
  rw [e]
  by_cases hc : s[k] = 38
  · rw [if_pos hc, hc]; rfl
  · rw [if_neg hc]; simp [hc]
set_option maxHeartbeats 2000000 in
set_option maxRecDepth 100000 in
theorem walk (a0 : ByteArray) (w : World) (_ : a0.size ≤ maxLen) (hT : MaxL w) :
    Calls Tryd.prog 8 #[.string a0] w fun e w' => e = .returned (.bool true) ∧ Below w.heap.size w w' := by
  by_cases hl : 3000 < a0.size
  · have hlb := long_yes hl
    go_enter Tryd.func8, Tryd.ntmps8
    go_wp2_with (first
      | (go_at_call 9; refine (long_any _ _).mono ?_; rintro e w1 ⟨rfl, rfl⟩)
      | (go_at_call 10; refine (alive_any _ hT).mono ?_; rintro e w2 ⟨rfl, hb⟩))
    go_ret
    exact ⟨rfl, hb⟩
  have hlb := long_no hl
  have hP := Parse_any a0.data.toList w hT (by rw [← size_data0]; omega)
  rw [str_self] at hP
  by_cases hm : 512 < a0.data.toList.count 38
  · rw [(parsed_many hm).1, (parsed_many hm).2] at hP
    have HP : Calls _ _ _ _ _ := hP
    go_enter Tryd.func8, Tryd.ntmps8
    go_wp2_with (first
      | (go_at_call 9; refine (long_any _ _).mono ?_; rintro e w1 ⟨rfl, rfl⟩)
      | (go_at_call 16; refine hP.mono ?_; rintro e w2 ⟨u, rfl, hown, hb2⟩; obtain ⟨a, c, rfl⟩ := hown.reads.form)
      | (go_at_call 10; refine (alive_any _ (hT.below hb2)).mono ?_; rintro e w3 ⟨rfl, hb3⟩))
    go_ret
    exact ⟨rfl, bel hb2 hb3⟩
  · rw [(parsed_ok hm).1, (parsed_ok hm).2] at hP
    have hle := parse_le a0.data.toList
    have HL : Hid (∀ p ∈ Pct.parse a0.data.toList, p.1.length ≤ 3 * a0.data.toList.length ∧ p.2.length ≤ 3 * a0.data.toList.length) := parse_lens _
    have HX : Hid (∀ p ∈ Pct.parse a0.data.toList, Utf.isText p.1 = true ∧ Utf.isText p.2 = true) := Pct.pairs_texts _
    have hdl : a0.data.toList.length ≤ 3000 := by rw [← size_data0]; omega
    go_enter Tryd.func8, Tryd.ntmps8
    go_wp2_with (first
      | (go_at_call 9; refine (long_any _ _).mono ?_; rintro e w1 ⟨rfl, rfl⟩)
      | (go_at_call 16; refine hP.mono ?_; rintro e w2 ⟨u, rfl, hown, hb2⟩; have hrd := hown.reads; clear hown; obtain ⟨a, c, rfl⟩ := hrd.form))
    clear hP
    have HR : Hid (ReadsPairs w2 (.slice a (Pct.parse a0.data.toList).length c) (Pct.parse a0.data.toList)) := hrd
    clear hrd
    go_loop [5, 31] (fun n i => ∃ k : Nat, k ≤ a0.size ∧ i = .int .i64 k ∧ n = .int .i64 (((a0.data.toList.take k).count 38 + 1 : Nat) : Int)) (fun _ i => a0.size - (intOf i).toNat)
    case atStart => exact ⟨0, Nat.zero_le _, rfl, rfl⟩
    case round =>
      obtain ⟨k, hk, rfl, rfl⟩ := hrel
      have hcl : (a0.data.toList.take k).count 38 ≤ 3000 := by
        have h1 := List.count_le_length (a := 38) (l := a0.data.toList.take k)
        rw [List.length_take] at h1
        omega
      by_cases hlt : k < a0.size
      · by_cases hc : a0[k] = 38
        · have hq := amp_yes hc
          have HN : Hid _ := count_next a0 k hlt
          have HC : Hid (a0[k] = 38) := hc
          clear hc
          go_wp2
          go_round
          case rel => exact ⟨k + 1, by omega, by go_num, by rw [HN.out, if_pos HC.out]; go_num⟩
          case measure => simp [intOf]; omega
        · have hq := amp_no hc
          have HN : Hid _ := count_next a0 k hlt
          have HC : Hid (¬ a0[k] = 38) := hc
          clear hc
          go_wp2
          go_round
          case rel => exact ⟨k + 1, by omega, by go_num, by rw [HN.out, if_neg HC.out]⟩
          case measure => simp [intOf]; omega
      · have hte : a0.data.toList.take k = a0.data.toList := List.take_of_length_le (by rw [← size_data0]; omega)
        rw [hte] at hcl ⊢
        clear hte hm
        generalize a0.data.toList.count 38 = cn at hle hcl ⊢
        go_wp2
        go_loopw [43] (fun i wr => ∃ j : Nat, j ≤ (Pct.parse a0.data.toList).length ∧ i = .int .i64 j ∧ Below w2.heap.size w2 wr) (fun i _ => (Pct.parse a0.data.toList).length - (intOf i).toNat)
        case atStart => exact ⟨0, Nat.zero_le _, rfl, Below.refl _ _⟩
        case round =>
          obtain ⟨j, hj, rfl, hbw⟩ := hrel
          by_cases hjl : j < (Pct.parse a0.data.toList).length
          · obtain ⟨p, hp⟩ : ∃ p, (Pct.parse a0.data.toList)[j]? = some p := ⟨_, List.getElem?_eq_getElem hjl⟩
            obtain ⟨b, o, rfl, hc, hbl, h1, h2⟩ := HR.out.at hp
            have g1 := (hbw.cell (p := ⟨b, o + j * 2, none⟩) hbl).trans h1
            have g2 := (hbw.cell (p := ⟨b, o + j * 2 + 1, none⟩) hbl).trans h2
            obtain ⟨t1, t2⟩ := HX.out p (List.mem_of_getElem? hp)
            obtain ⟨l1, l2⟩ := HL.out p (List.mem_of_getElem? hp)
            have hws := hbw.size
            clear hp h1 h2
            have d2 : ∀ W, Below (wr.alloc (.cells #[.string (str p.1), .string (str p.2)] 50)).heap.size (wr.alloc (.cells #[.string (str p.1), .string (str p.2)] 50)) W → W.cell? ⟨wr.heap.size, 1, none⟩ = some (.string (str p.2)) := fun W hW => (hW.cell (p := ⟨wr.heap.size, 1, none⟩) (by simp)).trans (by simp)
            have D2 : Hid _ := d2
            clear d2
            go_wp2_with (first
              | (go_at_call_of 28 (str p.1); refine (RIsText_bel _ _ (by omega)).mono ?_; rintro e w4 ⟨rfl, hb4⟩; rw [t1]; have c4 := D2.out _ hb4)
              | (go_at_call_of 28 (str p.2); refine (RIsText_bel _ _ (by omega)).mono ?_; rintro e w5 ⟨rfl, hb5⟩; rw [t2]))
            go_roundw
            case rel => exact ⟨j + 1, by omega, by go_num, (hbw.alloc hws _).trans ((bel hb4 hb5).mono (by simp; omega))⟩
            case measure => simp [intOf]; omega
          · go_wp2_with (go_at_call 10; refine (alive_any _ ((hT.below hb2).below hbw)).mono ?_; rintro e w4 ⟨rfl, hb4⟩)
            go_ret
            exact ⟨rfl, bel (bel hb2 hbw) hb4⟩
end Go.Proofs.YtoahjdpkhnkfiaaDoor.percentTexts
