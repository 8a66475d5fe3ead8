/- The walk of the law AsciiJoined, out of the contracts. -/
import Derived.Test.YtoggbikjkccfeabDoorCSplit
import Derived.Test.YtoggbikjkccfeabDoorAscJoined
namespace Go.Proofs.YtoggbikjkccfeabDoor.asciiJoined
open Go.RowKit
theorem byte_of {n : Int} (h : (Lit.int .u8 n).wf = true) : ∃ c : UInt8, n = (c.toNat : Int) := by
  have := bounds_u8 h
  refine ⟨UInt8.ofNat n.toNat, ?_⟩
  rw [UInt8.toNat_ofNat']
  omega
theorem one_byte (c : UInt8) : (one (c.toNat : Int)).data.toList = [c] := by
  rw [one_data]
  congr 1
  apply UInt8.toNat_inj.1
  rw [UInt8.toNat_ofNat', Int.toNat_natCast]
  have := c.toNat_lt
  omega
theorem str_self (s : ByteArray) : str s.data.toList = s := (str_eq rfl).symm
/-- What was split is joined. -/
theorem Join_split (s : ByteArray) (c : UInt8) (v : Value) (w : World) (hs : s.size ≤ 3000) (hv : ReadsTexts w v (Asc.split s.data.toList c)) :
    Calls Tryd.prog 14 #[.string (one (c.toNat : Int)), v] w fun e w' => e = .returned (.string s) ∧ Below w.heap.size w w' := by
  have h1 := Asc.split_len c s.data.toList
  rw [← size_data] at h1
  have h := Join_any (one (c.toNat : Int)) v (Asc.split s.data.toList c) w hv (by omega) (by rw [one_byte, Asc.join_split, ← size_data]; omega)
  rw [one_byte, Asc.join_split, str_self] at h
  exact h
theorem Texts_same (v u : Value) (ts : List (List UInt8)) (w : World) (hv : ReadsTexts w v ts) (hu : ReadsTexts w u ts) (hl : ts.length ≤ 1000000000) :
    Calls Tryd.prog 11 #[v, u] w fun e w' => e = .returned (.bool true) ∧ Below w.heap.size w w' := by
  have h := Texts_bel v u ts ts w hv hu hl hl
  rw [decide_eq_true rfl] at h
  exact h
set_option maxHeartbeats 1000000 in
theorem walk_main (s : ByteArray) (c : UInt8) (w : World) (hl : ¬ 3000 < s.size) (hP : Pow w) :
    Calls Tryd.prog 4 #[.string s, .int .u8 c.toNat] w fun e w' => e = .returned (.bool true) ∧ Below w.heap.size w w' := by
  have hlo := long_no hl
  have hs : s.size ≤ 1000000000 := by omega
  have hs3 : s.size ≤ 3000 := by omega
  have hpl := Asc.split_len c s.data.toList
  rw [← size_data] at hpl
  have hp2 : (Asc.split s.data.toList c).length ≤ 1000000000 := by omega
  have hpos := Asc.split_pos c s.data.toList
  have hB := Below.refl w.heap.size w
  go_enter Tryd.func4, Tryd.ntmps4
  go_wp2_with (first
    | (go_at_call 5; refine (long_any _ _).mono ?_; rintro e w1 ⟨rfl, hw⟩; rw [hw]; clear hw))
  refine (Split_any s c _ hs).mono ?_
  rintro e w1 ⟨v, rfl, hown, hn⟩
  replace hB := bel hB hn
  clear hn
  obtain ⟨g, cap, rfl⟩ := Joins.ownsRow_form hown hpos
  have HR : Hid (ReadsTexts w1 (.slice (some ⟨g, 0, none⟩) (Asc.split s.data.toList c).length cap) (Asc.split s.data.toList c)) := hown.reads
  have HC : Hid (∀ (k : Nat) t, (Asc.split s.data.toList c)[k]? = some t → w1.cell? ⟨g, k, none⟩ = some (.string (str t))) := fun k t ht => by
    have hkl : k < (Asc.split s.data.toList c).length := (List.getElem?_eq_some_iff.1 ht).1
    rw [World.ownsRow.cellAt (w := w1) hown k (by omega), List.getElem?_map, ht]
    rfl
  clear hown
  go_wp2
  go_loop [18] (fun i => ∃ k : Nat, k ≤ (Asc.split s.data.toList c).length ∧ i = .int .i64 k) (fun i => (Asc.split s.data.toList c).length - (intOf i).toNat)
  case atStart => exact ⟨0, Nat.zero_le _, rfl⟩
  case round =>
    obtain ⟨k, hk, rfl⟩ := hrel
    by_cases hlt : k < (Asc.split s.data.toList c).length
    · obtain ⟨t, ht⟩ : ∃ t, (Asc.split s.data.toList c)[k]? = some t := ⟨_, List.getElem?_eq_getElem hlt⟩
      have hm := List.mem_of_getElem? ht
      have HF : Hid (∀ x ∈ t, x ≠ c) := Asc.split_free c _ t hm
      have htl : (str t).size ≤ 3000 := by
        rw [str_size]
        have := Asc.split_part c _ t hm
        rw [← size_data] at this
        omega
      have hw1 := HC.out k t ht
      clear ht hm
      go_wp2
      go_loop [24] (fun i => ∃ j : Nat, j ≤ (str t).size ∧ i = .int .i64 j) (fun i => (str t).size - (intOf i).toNat)
      case atStart => exact ⟨0, Nat.zero_le _, rfl⟩
      case round =>
        obtain ⟨j, hj, rfl⟩ := hrel
        by_cases hjl : j < (str t).size
        · have hq := byte_eq_no (HF.out (str t)[j] (by
            have h1 : (str t)[j] = t[j]'(by rw [str_size] at hjl; exact hjl) := rfl
            rw [h1]
            exact List.getElem_mem _))
          go_wp2
          go_round
          case rel => exact ⟨j + 1, by omega, by go_num⟩
          case measure => simp [intOf]; omega
        · go_wp2
          go_round
          case rel => exact ⟨k + 1, by omega, by go_num⟩
          case measure => simp [intOf]; omega
    · clear HC
      have hcv := conv_one w1 (c.toNat : Int)
      have hr0 := HR.out.alloc (.cells #[.int .u8 (c.toNat : Int)] 5)
      have hB1 := hB.alloc hB.size (.cells #[.int .u8 (c.toNat : Int)] 5)
      have HB1 := show Hid _ from hB1
      have H0 := show Hid _ from hr0
      clear hr0 hB1 hB HR
      go_wp2_with fail
      refine (Join_split s c _ _ hs3 H0.out).mono ?_
      rintro e w4 ⟨rfl, hn⟩
      have hB := bel HB1.out hn
      have hr1 := ReadsTexts.below H0.out hn
      clear hn
      go_wp2_with fail
      refine (Join_split s c _ _ hs3 hr1).mono ?_
      rintro e w5 ⟨rfl, hn⟩
      replace hB := bel hB hn
      replace hr1 := hr1.below hn
      clear hn
      go_wp2_with fail
      refine (Split_any s c _ hs).mono ?_
      rintro e w6 ⟨v2, rfl, hown2, hn⟩
      replace hB := bel hB hn
      replace hr1 := hr1.below hn
      have hr2 := hown2.reads
      clear hn hown2
      go_wp2_with fail
      refine (Texts_same _ _ _ _ hr2 hr1 hp2).mono ?_
      rintro e w7 ⟨rfl, hn⟩
      replace hB := bel hB hn
      clear hn hr1 hr2
      go_wp2_with fail
      refine (alive_any _ (hP.below hB)).mono ?_
      rintro e w8 ⟨rfl, hn⟩
      replace hB := bel hB hn
      clear hn
      go_wp2
      go_ret
      exact ⟨rfl, hB⟩
set_option maxHeartbeats 400000 in
theorem walk_long (s : ByteArray) (n : Int) (w : World) (hl : 3000 < s.size) (hP : Pow w) :
    Calls Tryd.prog 4 #[.string s, .int .u8 n] w fun e w' => e = .returned (.bool true) ∧ Below w.heap.size w w' := by
  have hb := long_yes hl
  go_enter Tryd.func4, Tryd.ntmps4
  go_wp2_with (first
    | (go_at_call 5; refine (long_any _ _).mono ?_; rintro e w1 ⟨rfl, hw⟩; rw [hw]; clear hw)
    | (go_at_call 6; refine (alive_any _ hP).mono ?_; rintro e w5 ⟨rfl, hb5⟩))
  go_ret
  exact ⟨rfl, hb5⟩
theorem walk (s : ByteArray) (n : Int) (w : World) (_ : s.size ≤ maxLen) (w1 : (Lit.int .u8 n).wf = true) (hT : Lib.TabIs Tryd.prog w "internal/strconv.uint64pow10" .u64 Lib.pow10Tab) :
    Calls Tryd.prog 4 #[.string s, .int .u8 n] w fun e w' => e = .returned (.bool true) ∧ Below w.heap.size w w' := by
  by_cases hl : 3000 < s.size
  · exact walk_long s n w hl hT
  · obtain ⟨c, rfl⟩ := byte_of w1
    exact walk_main s c w hl hT
end Go.Proofs.YtoggbikjkccfeabDoor.asciiJoined
