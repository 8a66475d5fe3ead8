/- Contracts of the reference's IsLeap, month, year, ends, Days and Civil. -/
import Derived.Test.YtnklbeldheocmaaGreatDoorKDateB
namespace Go.Proofs.YtnklbeldheocmaaGreatDoor
open Go.RowKit
theorem RIsLeap_any (y : Int) (w : World) :
    Calls Tryz.prog 38 #[.int .i64 y] w fun e w' => e = .returned (.bool (Dat.leap y)) ∧ w' = w := by
  have e : Dat.leap y = ((decide (y.tmod 4 = 0) && !decide (y.tmod 100 = 0)) || decide (y.tmod 400 = 0)) := by
    unfold Dat.leap
    simp only [tmod_zero]
  rw [e]
  clear e
  go_enter Tryz.func38, Tryz.ntmps38
  by_cases h4 : y.tmod 4 = 0
  · by_cases h100 : y.tmod 100 = 0
    · by_cases h400 : y.tmod 400 = 0
      · go_wp2
        go_ret
        simp [h4, h100, h400]
      · go_wp2
        go_ret
        simp [h4, h100, h400]
    · go_wp2
      go_ret
      simp [h4, h100]
  · by_cases h400 : y.tmod 400 = 0
    · go_wp2
      go_ret
      simp [h4, h400]
    · go_wp2
      go_ret
      simp [h4, h400]
theorem Ryear_any (y : Int) (w : World) :
    Calls Tryz.prog 17 #[.int .i64 y] w fun e w' => e = .returned (.int .i64 (Dat.yearN y)) ∧ w' = w := by
  unfold Dat.yearN
  go_enter Tryz.func17, Tryz.ntmps17
  cases h : Dat.leap y
  · go_wp2_with (first
      | (go_at_call 38; refine (RIsLeap_any _ _).mono ?_; rintro e w1 ⟨rfl, hw⟩; rw [hw]; clear hw))
    go_ret
    exact ⟨rfl, rfl⟩
  · go_wp2_with (first
      | (go_at_call 38; refine (RIsLeap_any _ _).mono ?_; rintro e w1 ⟨rfl, hw⟩; rw [hw]; clear hw))
    go_ret
    exact ⟨rfl, rfl⟩
set_option maxHeartbeats 1000000 in
theorem Rmonth_any (y m : Int) (w : World) :
    Calls Tryz.prog 36 #[.int .i64 y, .int .i64 m] w fun e w' => e = .returned (.int .i64 (Dat.monthN y m)) ∧ w' = w := by
  have HV : Hid (Dat.monthN y m = if m = 2 then (if Dat.leap y = true then 29 else 28) else if m = 4 ∨ m = 6 ∨ m = 9 ∨ m = 11 then 30 else 31) := rfl
  generalize Dat.monthN y m = v at HV
  by_cases h2 : m = 2
  · cases h : Dat.leap y
    · have hv : v = 28 := by rw [HV.out, if_pos h2, h]; rfl
      subst hv h2
      go_enter Tryz.func36, Tryz.ntmps36
      go_wp2_with (first
        | (go_at_call 38; refine (RIsLeap_any _ _).mono ?_; rintro e w1 ⟨rfl, hw⟩; rw [hw]; clear hw))
      go_ret
      exact ⟨rfl, rfl⟩
    · have hv : v = 29 := by rw [HV.out, if_pos h2, h]; rfl
      subst hv h2
      go_enter Tryz.func36, Tryz.ntmps36
      go_wp2_with (first
        | (go_at_call 38; refine (RIsLeap_any _ _).mono ?_; rintro e w1 ⟨rfl, hw⟩; rw [hw]; clear hw))
      go_ret
      exact ⟨rfl, rfl⟩
  · by_cases h4 : m = 4
    · have hv : v = 30 := by rw [HV.out, if_neg h2, if_pos (.inl h4)]
      subst hv h4
      go_enter Tryz.func36, Tryz.ntmps36
      go_wp2
      go_ret
      exact ⟨rfl, rfl⟩
    by_cases h6 : m = 6
    · have hv : v = 30 := by rw [HV.out, if_neg h2, if_pos (.inr (.inl h6))]
      subst hv h6
      go_enter Tryz.func36, Tryz.ntmps36
      go_wp2
      go_ret
      exact ⟨rfl, rfl⟩
    by_cases h9 : m = 9
    · have hv : v = 30 := by rw [HV.out, if_neg h2, if_pos (.inr (.inr (.inl h9)))]
      subst hv h9
      go_enter Tryz.func36, Tryz.ntmps36
      go_wp2
      go_ret
      exact ⟨rfl, rfl⟩
    by_cases h11 : m = 11
    · have hv : v = 30 := by rw [HV.out, if_neg h2, if_pos (.inr (.inr (.inr h11)))]
      subst hv h11
      go_enter Tryz.func36, Tryz.ntmps36
      go_wp2
      go_ret
      exact ⟨rfl, rfl⟩
    have hv : v = 31 := by rw [HV.out, if_neg h2, if_neg (by rintro (h | h | h | h); exact h4 h; exact h6 h; exact h9 h; exact h11 h)]
    subst hv
    go_enter Tryz.func36, Tryz.ntmps36
    go_wp2
    go_ret
    exact ⟨rfl, rfl⟩
theorem ys_bd (k : Nat) (h : k ≤ 9999) : 0 ≤ Dat.ys k ∧ Dat.ys k ≤ 3652059 := by
  have h1 := Dat.ys_mono (show 0 ≤ k by omega)
  have h2 := Dat.ys_mono h
  rw [Dat.last_day] at h2
  have z : Dat.ys 0 = 0 := rfl
  omega
theorem ys_next (k : Nat) : Dat.ys (k + 1) = Dat.ys k + Dat.yearN ((k : Int) + 1) := rfl
set_option maxRecDepth 100000 in
set_option maxHeartbeats 1000000 in
theorem Rends_any (w : World) :
    Calls Tryz.prog 37 #[] w fun e w' => e = .returned (.tuple #[.int .i64 (-719162), .int .i64 2932896]) ∧ w' = w := by
  go_enter Tryz.func37, Tryz.ntmps37
  go_wp2
  go_loop [2, 4] (fun f y => ∃ k : Nat, k ≤ 1969 ∧ f = .int .i64 (- Dat.ys k) ∧ y = .int .i64 ((k : Int) + 1)) (fun _ y => 1970 - (intOf y).toNat)
  case atStart => exact ⟨0, by omega, rfl, rfl⟩
  case round =>
    obtain ⟨k, hk, rfl, rfl⟩ := hrel
    by_cases hlt : k < 1969
    · have hb := ys_bd k (by omega)
      have hy := Dat.yearN_bd ((k : Int) + 1)
      have HN : Hid (Dat.ys (k + 1) = Dat.ys k + Dat.yearN ((k : Int) + 1)) := ys_next k
      generalize Dat.ys k = s at hb HN
      obtain ⟨hb1, hb2⟩ := hb
      obtain ⟨hy1, hy2⟩ := hy
      go_wp2_with (first
        | (go_at_call 17; refine (Ryear_any _ _).mono ?_; rintro e w1 ⟨rfl, hw⟩; rw [hw]; clear hw))
      go_round
      case rel => exact ⟨k + 1, by omega, by rw [HN.out]; go_num, by go_num⟩
      case measure => simp [intOf]; omega
    · have e : k = 1969 := by omega
      have e2 : - Dat.ys k = -719162 := by rw [e, Dat.first_day]
      have e3 : (k : Int) + 1 = 1970 := by omega
      rw [e2, e3]
      clear e e2 e3
      go_wp2
      go_loop [3, 5] (fun f y => ∃ k : Nat, 1969 ≤ k ∧ k ≤ 9999 ∧ f = .int .i64 (Dat.ys k - 719163) ∧ y = .int .i64 ((k : Int) + 1)) (fun _ y => 10001 - (intOf y).toNat)
      case atStart => exact ⟨1969, by omega, by omega, by rw [Dat.first_day]; rfl, rfl⟩
      case round =>
        obtain ⟨k, hk1, hk, rfl, rfl⟩ := hrel
        by_cases hlt : k < 9999
        · have hb := ys_bd k (by omega)
          have hy := Dat.yearN_bd ((k : Int) + 1)
          have HN : Hid (Dat.ys (k + 1) = Dat.ys k + Dat.yearN ((k : Int) + 1)) := ys_next k
          generalize Dat.ys k = s at hb HN
          obtain ⟨hb1, hb2⟩ := hb
          obtain ⟨hy1, hy2⟩ := hy
          go_wp2_with (first
            | (go_at_call 17; refine (Ryear_any _ _).mono ?_; rintro e w1 ⟨rfl, hw⟩; rw [hw]; clear hw))
          go_round
          case rel => exact ⟨k + 1, by omega, by omega, by rw [HN.out]; go_num, by go_num⟩
          case measure => simp [intOf]; omega
        · have e : k = 9999 := by omega
          have e2 : Dat.ys k - 719163 = 2932896 := by rw [e, Dat.last_day]; rfl
          have e3 : (k : Int) + 1 = 10000 := by omega
          rw [e2, e3]
          clear e e2 e3
          go_wp2
          go_ret2
          exact ⟨rfl, rfl⟩
theorem ms_next (y : Int) (k : Nat) : Dat.ms y (k + 1) = Dat.ms y k + Dat.monthN y ((k : Int) + 1) := rfl
set_option maxRecDepth 100000 in
set_option maxHeartbeats 2000000 in
theorem RDays_any (y m d : Int) (w : World) (dd1 : -9223372036854775808 ≤ d) (dd2 : d ≤ 9223372036854775807) :
    Calls Tryz.prog 16 #[.int .i64 y, .int .i64 m, .int .i64 d] w fun e w' => e = .returned (.tuple #[.int .i64 (daysV y m d), .int .i64 (daysE y m d)]) ∧ w' = w := by
  by_cases hv : Dat.Valid y m d
  · have hn := days_yes hv
    rw [hn.1, hn.2, num_parts]
    clear hn
    obtain ⟨y1, y2, m1, m2, d1, d2⟩ := hv
    have hm31 := (Dat.monthN_bd y m).2
    go_enter Tryz.func16, Tryz.ntmps16
    go_wp2_with (first
      | (go_at_call 36; refine (Rmonth_any _ _ _).mono ?_; rintro e w1 ⟨rfl, hw⟩; rw [hw]; clear hw)
      | (go_at_call 37; refine (Rends_any _).mono ?_; rintro e w1 ⟨rfl, hw⟩; rw [hw]; clear hw))
    go_loop [8, 10] (fun f i => ∃ k : Nat, (k : Int) + 1 ≤ y ∧ f = .int .i64 (Dat.ys k - 719162) ∧ i = .int .i64 ((k : Int) + 1)) (fun _ i => y.toNat - (intOf i).toNat)
    case atStart => exact ⟨0, by omega, rfl, rfl⟩
    case round =>
      obtain ⟨k, hk, rfl, rfl⟩ := hrel
      by_cases hlt : (k : Int) + 1 < y
      · have hb := ys_bd k (by omega)
        have hy := Dat.yearN_bd ((k : Int) + 1)
        have HN : Hid (Dat.ys (k + 1) = Dat.ys k + Dat.yearN ((k : Int) + 1)) := ys_next k
        generalize Dat.ys k = s at hb HN
        obtain ⟨hb1, hb2⟩ := hb
        obtain ⟨hy1, hy2⟩ := hy
        go_wp2_with (first
          | (go_at_call 17; refine (Ryear_any _ _).mono ?_; rintro e w1 ⟨rfl, hw⟩; rw [hw]; clear hw))
        go_round
        case rel => exact ⟨k + 1, by omega, by rw [HN.out]; go_num, by go_num⟩
        case measure => simp [intOf]; omega
      · have e2 : Dat.ys k - 719162 = newY y := by
          unfold newY
          have : y.toNat - 1 = k := by omega
          rw [this]
        have e3 : (k : Int) + 1 = y := by omega
        have bY := newY_bd y y1 (by omega)
        obtain ⟨bY1, bY2⟩ := bY
        rw [e2, e3]
        clear e2 e3 hlt hk
        clear k
        go_wp2
        go_loop [8, 11] (fun f i => ∃ k : Nat, (k : Int) + 1 ≤ m ∧ f = .int .i64 (newY y + Dat.ms y k) ∧ i = .int .i64 ((k : Int) + 1)) (fun _ i => m.toNat - (intOf i).toNat)
        case atStart => exact ⟨0, by omega, by rw [show Dat.ms y 0 = 0 from rfl, Int.add_zero], rfl⟩
        case round =>
          obtain ⟨k, hk, rfl, rfl⟩ := hrel
          by_cases hlt : (k : Int) + 1 < m
          · have hb := ms_bd y k (by omega)
            have hy := Dat.monthN_bd y ((k : Int) + 1)
            have HN : Hid (Dat.ms y (k + 1) = Dat.ms y k + Dat.monthN y ((k : Int) + 1)) := ms_next y k
            generalize Dat.ms y k = s at hb HN
            obtain ⟨hb1, hb2⟩ := hb
            obtain ⟨hy1, hy2⟩ := hy
            go_wp2_with (first
              | (go_at_call 36; refine (Rmonth_any _ _ _).mono ?_; rintro e w1 ⟨rfl, hw⟩; rw [hw]; clear hw))
            go_round
            case rel => exact ⟨k + 1, by omega, by rw [HN.out]; go_num, by go_num⟩
            case measure => simp [intOf]; omega
          · have e2 : Dat.ms y k = aheadM y m := by
              unfold aheadM
              have : m.toNat - 1 = k := by omega
              rw [this]
            have e3 : (k : Int) + 1 = m := by omega
            have bA := aheadM_bd y m m1 (by omega)
            obtain ⟨bA1, bA2⟩ := bA
            rw [e2, e3]
            clear e2 e3 hlt hk
            clear k
            go_wp2
            go_ret2
            exact ⟨by go_num, rfl⟩
  · have hn := days_no hv
    rw [hn.1, hn.2]
    clear hn
    go_enter Tryz.func16, Tryz.ntmps16
    by_cases y1 : y < 1
    · go_wp2
      go_ret2
      exact ⟨rfl, rfl⟩
    by_cases y2 : 9999 < y
    · go_wp2
      go_ret2
      exact ⟨rfl, rfl⟩
    by_cases m1 : m < 1
    · go_wp2
      go_ret2
      exact ⟨rfl, rfl⟩
    by_cases m2 : 12 < m
    · go_wp2
      go_ret2
      exact ⟨rfl, rfl⟩
    by_cases d1 : d < 1
    · go_wp2
      go_ret2
      exact ⟨rfl, rfl⟩
    by_cases d2 : Dat.monthN y m < d
    · clear hv
      go_wp2_with (first
        | (go_at_call 36; refine (Rmonth_any _ _ _).mono ?_; rintro e w1 ⟨rfl, hw⟩; rw [hw]; clear hw))
      go_ret2
      exact ⟨rfl, rfl⟩
    exact absurd ⟨by omega, by omega, by omega, by omega, by omega, by omega⟩ hv
end Go.Proofs.YtnklbeldheocmaaGreatDoor
