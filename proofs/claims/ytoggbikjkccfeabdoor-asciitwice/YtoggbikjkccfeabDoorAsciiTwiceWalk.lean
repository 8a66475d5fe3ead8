/- The walk of the law AsciiTwice, out of the contracts. -/
import Derived.Test.YtoggbikjkccfeabDoorCBel
import Derived.Test.YtoggbikjkccfeabDoorAscTwice
import Derived.Lib.SmallJoins
namespace Go.Proofs.YtoggbikjkccfeabDoor.asciiTwice
open Go.RowKit
theorem trimL_le (l : List UInt8) : (Asc.trimL l).length ≤ l.length := (List.dropWhile_suffix _).length_le
theorem trim_le (l : List UInt8) : (Asc.trim l).length ≤ l.length := by
  unfold Asc.trim Asc.trimR
  have h1 := trimL_le (Asc.trimL l).reverse
  have h2 := trimL_le l
  rw [List.length_reverse] at h1 ⊢
  exact Nat.le_trans h1 h2
theorem word_len (l t : List UInt8) (h : t ∈ Asc.words l) : t.length ≤ l.length := by
  have h1 := Asc.words_lens l
  have h2 : t.length ≤ Lib.lens (Asc.words l) := by
    generalize Asc.words l = ws at h
    induction ws with
    | nil => cases h
    | cons w r ih =>
      simp only [Lib.lens, List.map_cons, List.sum_cons] at ih ⊢
      rcases List.mem_cons.1 h with rfl | h
      · omega
      · have := ih h
        omega
  omega
/-- A word is its own one word. -/
theorem Words_word (t : List UInt8) (w : World) (hn : t ≠ []) (hb : Asc.Bare t) (hl : t.length ≤ 1000000000) :
    Calls Tryd.prog 7 #[.string (str t)] w fun e w' => ∃ g cap, e = .returned (.slice (some ⟨g, 0, none⟩) 1 cap) ∧ Below w.heap.size w w' := by
  refine (Words_any (str t) w (by rw [str_size]; exact hl)).mono ?_
  rintro e w' ⟨v, rfl, hown, hb'⟩
  rw [str_data, Asc.words_one t hn hb] at hown
  obtain ⟨g, cap, rfl⟩ := Joins.ownsRow_form hown (Nat.zero_lt_succ _)
  exact ⟨g, cap, rfl, hb'⟩
theorem Trim_word (t : List UInt8) (w : World) (hb : Asc.Bare t) (hl : t.length ≤ 1000000000) :
    Calls Tryd.prog 8 #[.string (str t)] w fun e w' => e = .returned (.string (str t)) ∧ w' = w := by
  have h := Trim_any (str t) w (by rw [str_size]; exact hl)
  rw [str_data, Asc.trim_bare t hb] at h
  exact h
theorem Lower_low (l : List UInt8) (w : World) (hl : l.length ≤ 1000000000) :
    Calls Tryd.prog 9 #[.string (str (Asc.lower l))] w fun e w' => e = .returned (.string (str (Asc.lower l))) ∧ Below w.heap.size w w' := by
  have h := Lower_any (str (Asc.lower l)) w (by rw [str_size]; unfold Asc.lower; rw [List.length_map]; exact hl)
  rw [str_data, Asc.lower_twice] at h
  exact h
theorem Trim_trim (l : List UInt8) (w : World) (hl : l.length ≤ 1000000000) :
    Calls Tryd.prog 8 #[.string (str (Asc.trim l))] w fun e w' => e = .returned (.string (str (Asc.trim l))) ∧ w' = w := by
  have h := Trim_any (str (Asc.trim l)) w (by rw [str_size]; exact Nat.le_trans (trim_le l) hl)
  rw [str_data, Asc.trim_twice] at h
  exact h
theorem Trim_sq (l : List UInt8) (w : World) (hl : l.length ≤ 10000000) :
    Calls Tryd.prog 8 #[.string (str (Asc.squeeze l))] w fun e w' => e = .returned (.string (str (Asc.squeeze l))) ∧ w' = w := by
  have h := Trim_any (str (Asc.squeeze l)) w (by rw [str_size]; have := Asc.squeeze_len l; omega)
  rw [str_data, Asc.trim_squeeze] at h
  exact h
theorem Squeeze_sq (l : List UInt8) (w : World) (hl : l.length ≤ 10000000) :
    Calls Tryd.prog 10 #[.string (str (Asc.squeeze l))] w fun e w' => e = .returned (.string (str (Asc.squeeze l))) ∧ Below w.heap.size w w' := by
  have h := Squeeze_any (str (Asc.squeeze l)) w (by rw [str_size]; have := Asc.squeeze_len l; omega)
  rw [str_data, Asc.squeeze_twice] at h
  exact h
theorem Words_sq (l : List UInt8) (w : World) (hl : l.length ≤ 10000000) :
    Calls Tryd.prog 7 #[.string (str (Asc.squeeze l))] w fun e w' => ∃ v, e = .returned v ∧ OwnsTexts w' w.heap.size v (Asc.words l) ∧ Below w.heap.size w w' := by
  have h := Words_any (str (Asc.squeeze l)) w (by rw [str_size]; have := Asc.squeeze_len l; omega)
  rw [str_data, Asc.words_squeeze] at h
  exact h
theorem Same_low (s : ByteArray) (w : World) (hl : s.size ≤ 1000000000) :
    Calls Tryd.prog 12 #[.string (str (Asc.lower s.data.toList)), .string s] w fun e w' => e = .returned (.bool true) ∧ Below w.heap.size w w' := by
  have h := Same_bel (str (Asc.lower s.data.toList)) s w (by rw [str_size]; unfold Asc.lower; rw [List.length_map, ← size_data]; exact hl)
  rw [str_data, Asc.lower_twice, decide_eq_true rfl] at h
  exact h
theorem Texts_same (v u : Value) (ts : List (List UInt8)) (w : World) (hv : ReadsTexts w v ts) (hu : ReadsTexts w u ts) (hl : ts.length ≤ 1000000000) :
    Calls Tryd.prog 11 #[v, u] w fun e w' => e = .returned (.bool true) ∧ Below w.heap.size w w' := by
  have h := Texts_bel v u ts ts w hv hu hl hl
  rw [decide_eq_true rfl] at h
  exact h
set_option maxHeartbeats 1000000 in
theorem walk_main (s : ByteArray) (w : World) (hl : ¬ 3000 < s.size) (hP : Pow w) :
    Calls Tryd.prog 3 #[.string s] w fun e w' => e = .returned (.bool true) ∧ Below w.heap.size w w' := by
  have hlo := long_no hl
  have hs : s.size ≤ 1000000000 := by omega
  have hs2 : s.size ≤ 100000000 := by omega
  have hs3 : s.data.toList.length ≤ 10000000 := by rw [← size_data]; omega
  have hs4 : s.data.toList.length ≤ 1000000000 := by omega
  have hwl := Asc.words_len s.data.toList
  have hwl2 : (Asc.words s.data.toList).length ≤ 1000000000 := by omega
  have hB := Below.refl w.heap.size w
  go_enter Tryd.func3, Tryd.ntmps3
  go_wp2_with (first
    | (go_at_call 5; refine (long_any _ _).mono ?_; rintro e w1 ⟨rfl, hw⟩; rw [hw]; clear hw))
  refine (Words_any s _ hs).mono ?_
  rintro e w1 ⟨v, rfl, hown, hn⟩
  replace hB := bel hB hn
  clear hn
  obtain ⟨a1, c1, hv⟩ : ∃ a c, v = .slice a (Asc.words s.data.toList).length c := by
    rcases hown.reads with ⟨a, c, h1, h2⟩ | ⟨b, o, c, h1, _, _⟩
    · exact ⟨a, c, by rw [h2]; exact h1⟩
    · exact ⟨_, _, h1⟩
  subst hv
  have HR : Hid (ReadsTexts w1 (.slice a1 (Asc.words s.data.toList).length c1) (Asc.words s.data.toList)) := hown.reads
  clear hown
  go_wp2
  go_loopw [14] (fun i wr => ∃ k : Nat, k ≤ (Asc.words s.data.toList).length ∧ i = .int .i64 k ∧ Below w1.heap.size w1 wr) (fun i _ => (Asc.words s.data.toList).length - (intOf i).toNat)
  case atStart => exact ⟨0, Nat.zero_le _, rfl, Below.refl _ _⟩
  case round =>
    obtain ⟨k, hk, rfl, hbr⟩ := hrel
    by_cases hlt : k < (Asc.words s.data.toList).length
    · obtain ⟨t, ht⟩ : ∃ t, (Asc.words s.data.toList)[k]? = some t := ⟨_, List.getElem?_eq_getElem hlt⟩
      have hm := List.mem_of_getElem? ht
      obtain ⟨hne, hbare⟩ := Asc.words_bare s.data.toList t hm
      have htl := Nat.le_trans (word_len _ _ hm) hs4
      obtain ⟨b1, o1, rfl, hc1, hw1⟩ : ∃ b o, a1 = some ⟨b, o, none⟩ ∧ (Asc.words s.data.toList).length ≤ c1 ∧ w1.cell? ⟨b, o + k, none⟩ = some (.string (str t)) := by
        rcases HR.out with ⟨a, c, h1, h0⟩ | ⟨b, o, c, h1, h2, h3⟩
        · rw [h0] at hlt
          simp at hlt
        · cases h1
          exact ⟨b, o, rfl, h2, h3 k t ht⟩
      have hw2 : wr.cell? ⟨b1, o1 + k, none⟩ = some (.string (str t)) := (hbr.cell (p := ⟨b1, o1 + k, none⟩) (cell_lt hw1)).trans hw1
      have he : (str t).toList.isEmpty = false := by
        rw [str_list]
        cases t with
        | nil => exact absurd rfl hne
        | cons _ _ => rfl
      have HB : Hid (Asc.Bare t) := hbare
      have HE : Hid (t ≠ []) := hne
      clear ht hm hne hbare hw1
      go_wp2_with (first
        | (go_at_call 7; refine (Words_word t _ HE.out HB.out htl).mono ?_; rintro e w2 ⟨g, cap, rfl, hn2⟩)
        | (go_at_call 8; refine (Trim_word t _ HB.out htl).mono ?_; rintro e w3 ⟨rfl, hw⟩; rw [hw]; clear hw))
      go_roundw
      case rel => exact ⟨k + 1, by omega, by go_num, bel hbr hn2⟩
      case measure => simp [intOf]; omega
    · replace hB := bel hB hbr
      clear hbr HR
      go_wp2_with (first
        | (go_at_call 9; refine (Lower_any s _ hs).mono ?_; rintro e w2 ⟨rfl, hn⟩; replace hB := bel hB hn; clear hn)
        | (go_at_call 8; refine (Trim_any s _ hs).mono ?_; rintro e w3 ⟨rfl, hw⟩; rw [hw]; clear hw))
      refine (Squeeze_any s _ hs2).mono ?_
      rintro e w4 ⟨rfl, hn⟩
      replace hB := bel hB hn
      clear hn
      go_wp2_with fail
      refine (Lower_low _ _ hs4).mono ?_
      rintro e w5 ⟨rfl, hn⟩
      replace hB := bel hB hn
      clear hn
      go_wp2_with fail
      refine (Trim_trim _ _ hs4).mono ?_
      rintro e w6 ⟨rfl, hw⟩
      rw [hw]
      clear hw
      go_wp2_with fail
      refine (Squeeze_sq _ _ hs3).mono ?_
      rintro e w7 ⟨rfl, hn⟩
      replace hB := bel hB hn
      clear hn
      go_wp2_with fail
      refine (Trim_sq _ _ hs3).mono ?_
      rintro e w8 ⟨rfl, hw⟩
      rw [hw]
      clear hw
      go_wp2_with fail
      refine (Words_sq _ _ hs3).mono ?_
      rintro e w9 ⟨v1, rfl, hown1, hn⟩
      replace hB := bel hB hn
      clear hn
      have hr1 := hown1.reads
      clear hown1
      go_wp2_with fail
      refine (Words_any s _ hs).mono ?_
      rintro e w10 ⟨v2, rfl, hown2, hn⟩
      replace hr1 := hr1.below hn
      replace hB := bel hB hn
      clear hn
      have hr2 := hown2.reads
      clear hown2
      go_wp2_with fail
      refine (Texts_same v1 v2 _ _ hr1 hr2 hwl2).mono ?_
      rintro e w11 ⟨rfl, hn⟩
      replace hB := bel hB hn
      clear hn
      clear hr1 hr2
      go_wp2_with fail
      refine (Same_low s _ hs).mono ?_
      rintro e w12 ⟨rfl, hn⟩
      replace hB := bel hB hn
      clear hn
      go_wp2_with fail
      refine (alive_any _ (hP.below hB)).mono ?_
      rintro e w13 ⟨rfl, hn⟩
      replace hB := bel hB hn
      clear hn
      go_wp2
      go_ret
      exact ⟨rfl, hB⟩
set_option maxHeartbeats 400000 in
theorem walk_long (s : ByteArray) (w : World) (hl : 3000 < s.size) (hP : Pow w) :
    Calls Tryd.prog 3 #[.string s] w fun e w' => e = .returned (.bool true) ∧ Below w.heap.size w w' := by
  have hb := long_yes hl
  go_enter Tryd.func3, Tryd.ntmps3
  go_wp2_with (first
    | (go_at_call 5; refine (long_any _ _).mono ?_; rintro e w1 ⟨rfl, hw⟩; rw [hw]; clear hw)
    | (go_at_call 6; refine (alive_any _ hP).mono ?_; rintro e w5 ⟨rfl, hb5⟩))
  go_ret
  exact ⟨rfl, hb5⟩
theorem walk (s : ByteArray) (w : World) (_ : s.size ≤ maxLen) (hT : Lib.TabIs Tryd.prog w "internal/strconv.uint64pow10" .u64 Lib.pow10Tab) :
    Calls Tryd.prog 3 #[.string s] w fun e w' => e = .returned (.bool true) ∧ Below w.heap.size w w' := by
  by_cases hl : 3000 < s.size
  · exact walk_long s w hl hT
  · exact walk_main s w hl hT
end Go.Proofs.YtoggbikjkccfeabDoor.asciiTwice
