/- Contracts of Join and Squeeze, the program's and the reference's. -/
import Derived.Test.YtoggbikjkccfeaaDoorCRWords
import Derived.Test.YtoggbikjkccfeaaDoorCAlive
import Derived.Test.YtoggbikjkccfeaaDoorAscJoin
namespace Go.Proofs.YtoggbikjkccfeaaDoor
open Go.RowKit
theorem map_str (ts : List (List UInt8)) : (ts.map str).map (·.data.toList) = ts := by
  rw [List.map_map]
  conv => rhs; rw [← List.map_id ts]
  apply List.map_congr_left
  intro t _
  exact str_data t
theorem JoinLib_any (b o c : Nat) (ts : List (List UInt8)) (sep : ByteArray) (w : World) (hr : ∀ (j : Nat) t, ts[j]? = some t → w.cell? ⟨b, o + j, none⟩ = some (strV t)) (hb : b < w.heap.size) (hc : ts.length ≤ c) (hn : ts.length ≤ 1000000000) (hl : (Lib.join ts sep.data.toList).length ≤ 1000000000) :
    Calls Tryd.prog 48 #[.slice (some ⟨b, o, none⟩) ts.length c, .string sep] w fun e w' => e = .returned (.string (str (Lib.join ts sep.data.toList))) ∧ Below w.heap.size w w' := by
  have h := Tryd.strings_Join b o c (ts.map str) sep w (fun j x hj => by
    rw [List.getElem?_map] at hj
    cases ht : ts[j]? with
    | none => rw [ht] at hj; cases hj
    | some t =>
      rw [ht] at hj
      cases hj
      exact hr j t ht) hb (by rw [List.length_map]; omega) (by rw [List.length_map]; exact hc) (by rw [map_str]; omega)
  rw [List.length_map, map_str] at h
  exact h
set_option maxHeartbeats 400000 in
theorem Join_any (sep : ByteArray) (v : Value) (ts : List (List UInt8)) (w : World) (hv : ReadsTexts w v ts) (hn : ts.length ≤ 1000000000) (hl : (Lib.join ts sep.data.toList).length ≤ 1000000000) :
    Calls Tryd.prog 36 #[.string sep, v] w fun e w' => e = .returned (.string (str (Lib.join ts sep.data.toList))) ∧ Below w.heap.size w w' := by
  rcases hv with ⟨a, c, rfl, rfl⟩ | ⟨b, o, c, rfl, hc, hr⟩
  · go_enter Tryd.func36, Tryd.ntmps36
    go_wp2_with (first
      | (go_at_call 48; refine (Tryd.strings_Join_none a c sep w).mono ?_; rintro e w1 ⟨rfl, hw⟩; rw [hw]; clear hw))
    go_ret
    exact ⟨rfl, Below.refl _ _⟩
  · by_cases hz : ts = []
    · subst hz
      go_enter Tryd.func36, Tryd.ntmps36
      go_wp2_with (first
        | (go_at_call 48; refine (Tryd.strings_Join_none (some ⟨b, o, none⟩) c sep w).mono ?_; rintro e w1 ⟨rfl, hw⟩; rw [hw]; clear hw))
      go_ret
      exact ⟨rfl, Below.refl _ _⟩
    · have hb : b < w.heap.size := by
        cases ts with
        | nil => exact absurd rfl hz
        | cons t r => exact cell_lt (hr 0 t rfl)
      have HR : Hid (∀ (j : Nat) t, ts[j]? = some t → w.cell? ⟨b, o + j, none⟩ = some (strV t)) := hr
      clear hr
      go_enter Tryd.func36, Tryd.ntmps36
      go_wp2_with (first
        | (go_at_call 48; refine (JoinLib_any b o c ts sep w HR.out hb hc hn hl).mono ?_; rintro e w1 ⟨rfl, hb1⟩))
      go_ret
      exact ⟨rfl, hb1⟩
set_option maxHeartbeats 400000 in
theorem RJoin_any (sep : ByteArray) (v : Value) (ts : List (List UInt8)) (w : World) (hv : ReadsTexts w v ts) (hn : ts.length ≤ 1000000000) (hl : (Lib.join ts sep.data.toList).length ≤ 9223372036854775807) :
    Calls Tryd.prog 35 #[.string sep, v] w fun e w' => e = .returned (.string (str (Lib.join ts sep.data.toList))) ∧ w' = w := by
  obtain ⟨a1, c1, rfl⟩ : ∃ a c, v = .slice a ts.length c := by
    rcases hv with ⟨a, c, rfl, rfl⟩ | ⟨b, o, c, rfl, _, _⟩
    · exact ⟨_, _, rfl⟩
    · exact ⟨_, _, rfl⟩
  have HV : Hid (ReadsTexts w (.slice a1 ts.length c1) ts) := hv
  clear hv
  go_enter Tryd.func35, Tryd.ntmps35
  go_wp2
  go_loop [5, 6] (fun d i => ∃ (k : Nat) (b : ByteArray), k ≤ ts.length ∧ i = .int .i64 k ∧ d = .string b ∧ Hid (b.data.toList = Lib.join (ts.take k) sep.data.toList)) (fun _ i => ts.length - (intOf i).toNat)
  case atStart => exact ⟨0, ⟨#[]⟩, Nat.zero_le _, rfl, rfl, rfl⟩
  case round =>
    obtain ⟨k, b, hk, rfl, rfl, HB⟩ := hrel
    by_cases hlt : k < ts.length
    · obtain ⟨t, ht⟩ : ∃ t, ts[k]? = some t := ⟨_, List.getElem?_eq_getElem hlt⟩
      obtain ⟨b1, o1, rfl, hc1, hw1⟩ : ∃ b o, a1 = some ⟨b, o, none⟩ ∧ ts.length ≤ c1 ∧ w.cell? ⟨b, o + k, none⟩ = some (.string (str t)) := by
        rcases HV.out with ⟨a, c, h1, rfl⟩ | ⟨b, o, c, h1, h2, h3⟩
        · simp at hlt
        · cases h1
          exact ⟨b, o, rfl, h2, h3 k t ht⟩
      have HJ : Hid (Lib.join (ts.take (k + 1)) sep.data.toList = if k = 0 then t else Lib.join (ts.take k) sep.data.toList ++ sep.data.toList ++ t) := Asc.join_next ts _ t k ht
      have hjl := Nat.le_trans (Asc.join_take_le ts sep.data.toList (k + 1)) hl
      have HL : Hid ((Lib.join (ts.take (k + 1)) sep.data.toList).length ≤ 9223372036854775807) := hjl
      clear ht hjl
      by_cases hz : k = 0
      · subst hz
        rw [Nat.add_zero] at hw1
        have HN : Hid ((b ++ str t).data.toList = Lib.join (ts.take (0 + 1)) sep.data.toList) := by
          show _ = _
          rw [ByteArray.data_append, Array.toList_append, HB.out, str_data, HJ.out, if_pos rfl]
          rfl
        have hts : b.size + (str t).size ≤ 9223372036854775807 := by
          have := HL.out
          rw [← HN.out, ← size_data, ByteArray.size_append] at this
          exact this
        go_wp2
        go_round
        case rel => exact ⟨1, _, by omega, by go_num, rfl, HN⟩
        case measure => simp [intOf]; omega
      · have HN : Hid ((b ++ sep ++ str t).data.toList = Lib.join (ts.take (k + 1)) sep.data.toList) := by
          show _ = _
          rw [ByteArray.data_append, ByteArray.data_append, Array.toList_append, Array.toList_append, HB.out, str_data, HJ.out, if_neg hz]
        have hts : b.size + sep.size + (str t).size ≤ 9223372036854775807 := by
          have := HL.out
          rw [← HN.out, ← size_data, ByteArray.size_append, ByteArray.size_append] at this
          exact this
        have hbsep : (b ++ sep).size + (str t).size ≤ 9223372036854775807 := by rw [ByteArray.size_append]; exact hts
        go_wp2
        go_round
        case rel => exact ⟨k + 1, _, by omega, by go_num, rfl, HN⟩
        case measure => simp [intOf]; omega
    · have HN : Hid (b.data.toList = Lib.join ts sep.data.toList) := by
        have := HB.out
        rwa [List.take_of_length_le (by omega)] at this
      go_wp2
      go_ret
      exact ⟨ret_text HN.out, rfl⟩
set_option maxHeartbeats 400000 in
theorem Squeeze_any (s : ByteArray) (w : World) (hs : s.size ≤ 100000000) :
    Calls Tryd.prog 25 #[.string s] w fun e w' => e = .returned (.string (str (Asc.squeeze s.data.toList))) ∧ Below w.heap.size w w' := by
  have h1 := Asc.words_len s.data.toList
  have h2 := Asc.squeeze_len s.data.toList
  rw [← size_data] at h1 h2
  go_enter Tryd.func25, Tryd.ntmps25
  go_wp2_with (first
    | (go_at_call 23; refine (Words_any s _ (by omega)).mono ?_; rintro e w1 ⟨v, rfl, hown, hb1⟩)
    | (go_at_call 36; refine (Join_any ⟨#[32]⟩ v (Asc.words s.data.toList) _ hown.reads (by omega) (Nat.le_trans h2 (by omega))).mono ?_; rintro e w2 ⟨rfl, hb2⟩))
  go_ret
  exact ⟨rfl, hb1.trans (hb2.mono hb1.size)⟩
set_option maxHeartbeats 400000 in
theorem RSqueeze_any (s : ByteArray) (w : World) (hs : s.size ≤ 100000000) :
    Calls Tryd.prog 26 #[.string s] w fun e w' => e = .returned (.string (str (Asc.squeeze s.data.toList))) ∧ Below w.heap.size w w' := by
  have h1 := Asc.words_len s.data.toList
  have h2 := Asc.squeeze_len s.data.toList
  rw [← size_data] at h1 h2
  go_enter Tryd.func26, Tryd.ntmps26
  go_wp2_with (first
    | (go_at_call 24; refine (RWords_any s _ (by omega)).mono ?_; rintro e w1 ⟨v, rfl, hown, hb1⟩)
    | (go_at_call 35; refine (RJoin_any ⟨#[32]⟩ v (Asc.words s.data.toList) _ hown.reads (by omega) (Nat.le_trans h2 (by omega))).mono ?_; rintro e w2 ⟨rfl, hw⟩; rw [hw]; clear hw))
  go_ret
  exact ⟨rfl, hb1⟩
end Go.Proofs.YtoggbikjkccfeaaDoor
