/- The walk of the law AsciiTexts, out of the contracts. -/
import Derived.Test.YtoggbikjkccfeaaDoorCBel
namespace Go.Proofs.YtoggbikjkccfeaaDoor.asciiTexts
open Go.RowKit
set_option maxHeartbeats 400000 in
theorem walk_long (a b : ByteArray) (w : World) (hl : 3000 < a.size ∨ (¬ 3000 < a.size ∧ 3000 < b.size)) (hP : Pow w) :
    Calls Tryd.prog 4 #[.string a, .string b] w fun e w' => e = .returned (.bool true) ∧ Below w.heap.size w w' := by
  rcases hl with hl | ⟨hl, hl2⟩
  · have hb := long_yes hl
    go_enter Tryd.func4, Tryd.ntmps4
    go_wp2_with (first
      | (go_at_call 16; refine (long_any _ _).mono ?_; rintro e w1 ⟨rfl, hw⟩; rw [hw]; clear hw)
      | (go_at_call 15; refine (alive_any _ hP).mono ?_; rintro e w5 ⟨rfl, hb5⟩))
    go_ret
    exact ⟨rfl, hb5⟩
  · have hb := long_no hl
    have hb2 := long_yes hl2
    go_enter Tryd.func4, Tryd.ntmps4
    go_wp2_with (first
      | (go_at_call 16; refine (long_any _ _).mono ?_; rintro e w1 ⟨rfl, hw⟩; rw [hw]; clear hw)
      | (go_at_call 15; refine (alive_any _ hP).mono ?_; rintro e w5 ⟨rfl, hb5⟩))
    go_ret
    exact ⟨rfl, hb5⟩
set_option maxHeartbeats 1000000 in
theorem walk_main (a b : ByteArray) (w : World) (ha : ¬ 3000 < a.size) (hb : ¬ 3000 < b.size) (hP : Pow w) (q1 q2 : Bool)
    (hq1 : decide (Asc.lower a.data.toList = Asc.lower b.data.toList) = q1) (hq2 : ((str (Asc.lower a.data.toList)).toList == (str (Asc.lower b.data.toList)).toList) = q2) (hq : (q1 == q2) = true) :
    Calls Tryd.prog 4 #[.string a, .string b] w fun e w' => e = .returned (.bool true) ∧ Below w.heap.size w w' := by
  have hla := long_no ha
  have hlb := long_no hb
  have has : a.size ≤ 1000000000 := by omega
  have hbs : b.size ≤ 1000000000 := by omega
  have has2 : a.size ≤ 100000000 := by omega
  have hwl := Asc.words_len a.data.toList
  rw [← size_data] at hwl
  have hB := Below.refl w.heap.size w
  have ht := texts_yes (Asc.words a.data.toList)
  go_enter Tryd.func4, Tryd.ntmps4
  go_wp2_with (first
    | (go_at_call 16; refine (long_any _ _).mono ?_; rintro e w1 ⟨rfl, hw⟩; rw [hw]; clear hw)
    | (go_at_call 17; refine (Lower_any _ _ (by assumption)).mono ?_; rintro e w1 ⟨rfl, hn⟩; replace hB := bel hB hn; clear hn)
    | (go_at_call 18; refine (RLower_any _ _ (by assumption)).mono ?_; rintro e w1 ⟨rfl, hn⟩; replace hB := bel hB hn; clear hn)
    | (go_at_call 19; refine (Same_bel _ _ _ (by assumption)).mono ?_; rintro e w1 ⟨rfl, hn⟩; replace hB := bel hB hn; clear hn)
    | (go_at_call 20; refine (Trim_any _ _ (by assumption)).mono ?_; rintro e w1 ⟨rfl, hw⟩; rw [hw]; clear hw)
    | (go_at_call 21; refine (RTrim_any _ _ (by assumption)).mono ?_; rintro e w1 ⟨rfl, hw⟩; rw [hw]; clear hw)
    | (go_at_call 23; refine (Words_any _ _ (by assumption)).mono ?_; rintro e w1 ⟨v1, rfl, hown1, hn⟩; replace hB := bel hB hn; clear hn; have hr1 := hown1.reads; clear hown1)
    | (go_at_call 24; refine (RWords_any _ _ (by assumption)).mono ?_; rintro e w2 ⟨v2, rfl, hown2, hn⟩; replace hB := bel hB hn; replace hr1 := hr1.below hn; clear hn; have hr2 := hown2.reads; clear hown2)
    | (go_at_call 22; refine (Texts_bel _ _ _ _ _ hr1 hr2 (by omega) (by omega)).mono ?_; rintro e w1 ⟨rfl, hn⟩; replace hB := bel hB hn; clear hn hr1 hr2)
    | (go_at_call 25; refine (Squeeze_any _ _ (by assumption)).mono ?_; rintro e w1 ⟨rfl, hn⟩; replace hB := bel hB hn; clear hn)
    | (go_at_call 26; refine (RSqueeze_any _ _ (by assumption)).mono ?_; rintro e w1 ⟨rfl, hn⟩; replace hB := bel hB hn; clear hn)
    | (go_at_call 15; refine (alive_any _ (hP.below hB)).mono ?_; rintro e w5 ⟨rfl, hn⟩; replace hB := bel hB hn))
  go_ret
  exact ⟨rfl, hB⟩
theorem walk (a b : ByteArray) (w : World) (_ : a.size ≤ maxLen) (_ : b.size ≤ maxLen) (hT : Lib.TabIs Tryd.prog w "internal/strconv.uint64pow10" .u64 Lib.pow10Tab) :
    Calls Tryd.prog 4 #[.string a, .string b] w fun e w' => e = .returned (.bool true) ∧ Below w.heap.size w w' := by
  by_cases ha : 3000 < a.size
  · exact walk_long a b w (.inl ha) hT
  · by_cases hb : 3000 < b.size
    · exact walk_long a b w (.inr ⟨ha, hb⟩) hT
    · by_cases h : Asc.lower a.data.toList = Asc.lower b.data.toList
      · exact walk_main a b w ha hb hT true true (decide_eq_true h) (str_beq_yes h) rfl
      · exact walk_main a b w ha hb hT false false (decide_eq_false h) (str_beq_no h) rfl
end Go.Proofs.YtoggbikjkccfeaaDoor.asciiTexts
