/- Contracts of Trim, the program's and the reference's. -/
import Derived.Test.YtoggbikjkccfeabDoorCLower
import Derived.Test.YtoggbikjkccfeabDoorAscTrim
namespace Go.Proofs.YtoggbikjkccfeabDoor
open Go.RowKit
theorem str_eq {b : ByteArray} {l : List UInt8} (h : b.data.toList = l) : b = str l := by
  subst h
  cases b
  simp [str]
theorem ret_text {b : ByteArray} {l : List UInt8} (h : b.data.toList = l) : Ending.returned (.string b) = .returned (.string (str l)) := by rw [str_eq h]
set_option maxHeartbeats 400000 in
theorem Trim_any (s : ByteArray) (w : World) (hs : s.size ≤ 1000000000) :
    Calls Tryd.prog 8 #[.string s] w fun e w' => e = .returned (.string (str (Asc.trim s.data.toList))) ∧ w' = w := by
  go_enter Tryd.func8, Tryd.ntmps8
  go_wp2
  go_loop [3] (fun i => ∃ f : Nat, f ≤ s.size ∧ i = .int .i64 f ∧ Hid (Asc.trimL (s.data.toList.drop f) = Asc.trimL s.data.toList)) (fun i => s.size - (intOf i).toNat)
  case atStart => exact ⟨0, Nat.zero_le _, rfl, rfl⟩
  case round =>
    obtain ⟨f, hf, rfl, HE⟩ := hrel
    by_cases hc : ∃ h : f < s.size, Asc.isBlank s[f] = true
    · obtain ⟨hlt, hb⟩ := hc
      have HN : Hid (Asc.trimL (s.data.toList.drop (f + 1)) = Asc.trimL s.data.toList) := (Asc.trimL_next s.data.toList f hlt hb).trans HE.out
      go_wp2_with (first
        | (go_at_call 17; refine (IsBlank_any _ _).mono ?_; rintro e w1 ⟨rfl, hw⟩; rw [hw]; clear hw))
      go_round
      case rel => exact ⟨f + 1, by omega, by go_num, HN⟩
      case measure => simp [intOf]; omega
    · have HD : Hid (s.data.toList.drop f = Asc.trimL s.data.toList) := by
        show _ = _
        rw [← HE.out]
        by_cases hlt : f < s.size
        · exact (Asc.trimL_stop _ f hlt (by
            rw [Bool.eq_false_iff]
            intro h
            exact hc ⟨hlt, h⟩)).symm
        · exact (Asc.trimL_end _ f (by rw [← size_data]; omega)).symm
      have HX : Hid (f < s.size → ∀ h : f < s.size, Asc.isBlank s[f] = false) := fun _ h => by
        rw [Bool.eq_false_iff]
        intro e
        exact hc ⟨h, e⟩
      clear hc HE
      by_cases hlt : f < s.size
      · have hb := HX.out hlt hlt
        go_wp2_with (first
          | (go_at_call 17; refine (IsBlank_any _ _).mono ?_; rintro e w1 ⟨rfl, hw⟩; rw [hw]; clear hw))
        go_loop [4] (fun i => ∃ t : Nat, f ≤ t ∧ t ≤ s.size ∧ i = .int .i64 t ∧ Hid (Asc.trimR ((s.data.toList.take t).drop f) = Asc.trim s.data.toList)) (fun i => (intOf i).toNat)
        case atStart => exact ⟨s.size, hf, Nat.le_refl _, rfl, by
          show _ = _
          rw [take_all s s.size (Nat.le_refl _), HD.out]
          rfl⟩
        case round =>
          obtain ⟨t, hft, ht, rfl, HT⟩ := hrel
          by_cases hft2 : f < t
          · obtain ⟨j, rfl⟩ : ∃ j, t = j + 1 := ⟨t - 1, by omega⟩
            have hj : j < s.size := by omega
            have hj2 : (j : Int) < (s.size : Int) := by omega
            cases hb2 : Asc.isBlank s[j]
            · have HN : Hid ((s.extract f (j + 1)).data.toList = Asc.trim s.data.toList) := by
                show _ = _
                rw [data_cut, ← HT.out]
                exact (Asc.trimR_done s.data.toList f j hj (by omega) hb2).symm
              go_wp2_with (first
                | (go_at_call 17; refine (IsBlank_any _ _).mono ?_; rintro e w1 ⟨rfl, hw⟩; rw [hw]; clear hw))
              go_ret
              exact ⟨ret_text HN.out, rfl⟩
            · have HN : Hid (Asc.trimR ((s.data.toList.take j).drop f) = Asc.trim s.data.toList) := (Asc.trimR_next s.data.toList f j hj (by omega) hb2).trans HT.out
              go_wp2_with (first
                | (go_at_call 17; refine (IsBlank_any _ _).mono ?_; rintro e w1 ⟨rfl, hw⟩; rw [hw]; clear hw))
              go_round
              case rel => exact ⟨j, by omega, by omega, by go_num, HN⟩
              case measure => simp [intOf]
          · have HN : Hid ((s.extract f t).data.toList = Asc.trim s.data.toList) := by
              show _ = _
              rw [data_cut, ← HT.out]
              exact (Asc.trimR_empty s.data.toList f t (by omega)).symm
            go_wp2
            go_ret
            exact ⟨ret_text HN.out, rfl⟩
      · go_wp2
        go_loop [4] (fun i => ∃ t : Nat, f ≤ t ∧ t ≤ s.size ∧ i = .int .i64 t ∧ Hid (Asc.trimR ((s.data.toList.take t).drop f) = Asc.trim s.data.toList)) (fun i => (intOf i).toNat)
        case atStart => exact ⟨s.size, hf, Nat.le_refl _, rfl, by
          show _ = _
          rw [take_all s s.size (Nat.le_refl _), HD.out]
          rfl⟩
        case round =>
          obtain ⟨t, hft, ht, rfl, HT⟩ := hrel
          by_cases hft2 : f < t
          · omega
          · have HN : Hid ((s.extract f t).data.toList = Asc.trim s.data.toList) := by
              show _ = _
              rw [data_cut, ← HT.out]
              exact (Asc.trimR_empty s.data.toList f t (by omega)).symm
            go_wp2
            go_ret
            exact ⟨ret_text HN.out, rfl⟩
theorem cut_size (b : ByteArray) (f t : Nat) (h : t ≤ b.size) : (b.extract f t).size = t - f := by
  rw [size_data, data_cut, List.length_drop, List.length_take, ← size_data]
  omega
theorem first_cut (b : ByteArray) (h : 0 < b.size) (hb : Asc.isBlank b[0] = true) : Asc.trimL (b.extract 1 b.size).data.toList = Asc.trimL b.data.toList := by
  rw [data_cut, take_all b b.size (Nat.le_refl _)]
  exact Asc.trimL_next b.data.toList 0 h hb
theorem first_stop (b : ByteArray) (h : ∀ h : 0 < b.size, Asc.isBlank b[0] = false) : Asc.trimL b.data.toList = b.data.toList := by
  by_cases hz : 0 < b.size
  · exact Asc.trimL_stop b.data.toList 0 hz (h hz)
  · exact Asc.trimL_end b.data.toList 0 (by rw [← size_data]; omega)
theorem last_cut (b : ByteArray) (j : Nat) (h : b.size = j + 1) (hb : Asc.isBlank (b[j]'(by omega)) = true) : Asc.trimR (b.extract 0 j).data.toList = Asc.trimR b.data.toList := by
  rw [data_cut]
  have := Asc.trimR_next b.data.toList 0 j (by rw [← size_data]; omega) (Nat.zero_le _) hb
  rw [this, take_all b (j + 1) (by omega)]
  rfl
theorem last_stop (b : ByteArray) (j : Nat) (h : b.size = j + 1) (hb : Asc.isBlank (b[j]'(by omega)) = false) : Asc.trimR b.data.toList = b.data.toList := by
  have := Asc.trimR_done b.data.toList 0 j (by rw [← size_data]; omega) (Nat.zero_le _) hb
  rw [take_all b (j + 1) (by omega)] at this
  exact this
theorem last_empty (b : ByteArray) (h : b.size = 0) : Asc.trimR b.data.toList = b.data.toList := by
  have : b.data.toList = [] := List.eq_nil_of_length_eq_zero (by rw [← size_data]; exact h)
  rw [this]
  rfl
end Go.Proofs.YtoggbikjkccfeabDoor
