/- Contracts of the reference's IsLeap, month, year, ends, Days and Civil. -/
import Derived.Test.YtnklbeldheocmaaDoorKDateB
namespace Go.Proofs.YtnklbeldheocmaaDoor
open Go.RowKit
theorem RIsLeap_any (y : Int) (w : World) :
    Calls Tryd.prog 11 #[.int .i64 y] w fun e w' => e = .returned (.bool (Dat.leap y)) ∧ w' = w := by
  have e : Dat.leap y = ((decide (y.tmod 4 = 0) && !decide (y.tmod 100 = 0)) || decide (y.tmod 400 = 0)) := by
    unfold Dat.leap
    simp only [tmod_zero]
  rw [e]
  clear e
  go_enter Tryd.func11, Tryd.ntmps11
  by_cases h4 : y.tmod 4 = 0
  · by_cases h100 : y.tmod 100 = 0
    · by_cases h400 : y.tmod 400 = 0
      · go_wp2
        go_ret
        simp [h4, h100, h400]
      · go_wp2
        go_ret
        simp [h4, h100, h400]
    · go_wp2
      go_ret
      simp [h4, h100]
  · by_cases h400 : y.tmod 400 = 0
    · go_wp2
      go_ret
      simp [h4, h400]
    · go_wp2
      go_ret
      simp [h4, h400]
theorem Ryear_any (y : Int) (w : World) :
    Calls Tryd.prog 23 #[.int .i64 y] w fun e w' => e = .returned (.int .i64 (Dat.yearN y)) ∧ w' = w := by
  unfold Dat.yearN
  go_enter Tryd.func23, Tryd.ntmps23
  cases h : Dat.leap y
  · go_wp2_with (first
      | (go_at_call 11; refine (RIsLeap_any _ _).mono ?_; rintro e w1 ⟨rfl, hw⟩; rw [hw]; clear hw))
    go_ret
    exact ⟨rfl, rfl⟩
  · go_wp2_with (first
      | (go_at_call 11; refine (RIsLeap_any _ _).mono ?_; rintro e w1 ⟨rfl, hw⟩; rw [hw]; clear hw))
    go_ret
    exact ⟨rfl, rfl⟩
set_option maxHeartbeats 1000000 in
theorem Rmonth_any (y m : Int) (w : World) :
    Calls Tryd.prog 21 #[.int .i64 y, .int .i64 m] w fun e w' => e = .returned (.int .i64 (Dat.monthN y m)) ∧ w' = w := by
  have HV : Hid (Dat.monthN y m = if m = 2 then (if Dat.leap y = true then 29 else 28) else if m = 4 ∨ m = 6 ∨ m = 9 ∨ m = 11 then 30 else 31) := rfl
  generalize Dat.monthN y m = v at HV
  by_cases h2 : m = 2
  · cases h : Dat.leap y
    · have hv : v = 28 := by rw [HV.out, if_pos h2, h]; rfl
      subst hv h2
      go_enter Tryd.func21, Tryd.ntmps21
      go_wp2_with (first
        | (go_at_call 11; refine (RIsLeap_any _ _).mono ?_; rintro e w1 ⟨rfl, hw⟩; rw [hw]; clear hw))
      go_ret
      exact ⟨rfl, rfl⟩
    · have hv : v = 29 := by rw [HV.out, if_pos h2, h]; rfl
      subst hv h2
      go_enter Tryd.func21, Tryd.ntmps21
      go_wp2_with (first
        | (go_at_call 11; refine (RIsLeap_any _ _).mono ?_; rintro e w1 ⟨rfl, hw⟩; rw [hw]; clear hw))
      go_ret
      exact ⟨rfl, rfl⟩
  · by_cases h4 : m = 4
    · have hv : v = 30 := by rw [HV.out, if_neg h2, if_pos (.inl h4)]
      subst hv h4
      go_enter Tryd.func21, Tryd.ntmps21
      go_wp2
      go_ret
      exact ⟨rfl, rfl⟩
    by_cases h6 : m = 6
    · have hv : v = 30 := by rw [HV.out, if_neg h2, if_pos (.inr (.inl h6))]
      subst hv h6
      go_enter Tryd.func21, Tryd.ntmps21
      go_wp2
      go_ret
      exact ⟨rfl, rfl⟩
    by_cases h9 : m = 9
    · have hv : v = 30 := by rw [HV.out, if_neg h2, if_pos (.inr (.inr (.inl h9)))]
      subst hv h9
      go_enter Tryd.func21, Tryd.ntmps21
      go_wp2
      go_ret
      exact ⟨rfl, rfl⟩
    by_cases h11 : m = 11
    · have hv : v = 30 := by rw [HV.out, if_neg h2, if_pos (.inr (.inr (.inr h11)))]
      subst hv h11
      go_enter Tryd.func21, Tryd.ntmps21
      go_wp2
      go_ret
      exact ⟨rfl, rfl⟩
    have hv : v = 31 := by rw [HV.out, if_neg h2, if_neg (by rintro (h | h | h | h); exact h4 h; exact h6 h; exact h9 h; exact h11 h)]
    subst hv
    go_enter Tryd.func21, Tryd.ntmps21
    go_wp2
    go_ret
    exact ⟨rfl, rfl⟩
theorem ys_bd (k : Nat) (h : k ≤ 9999) : 0 ≤ Dat.ys k ∧ Dat.ys k ≤ 3652059 := by
  have h1 := Dat.ys_mono (show 0 ≤ k by omega)
  have h2 := Dat.ys_mono h
  rw [Dat.last_day] at h2
  have z : Dat.ys 0 = 0 := rfl
  omega
theorem ys_next (k : Nat) : Dat.ys (k + 1) = Dat.ys k + Dat.yearN ((k : Int) + 1) := rfl
set_option maxRecDepth 100000 in
set_option maxHeartbeats 1000000 in
theorem Rends_any (w : World) :
    Calls Tryd.prog 22 #[] w fun e w' => e = .returned (.tuple #[.int .i64 (-719162), .int .i64 2932896]) ∧ w' = w := by
  go_enter Tryd.func22, Tryd.ntmps22
  go_wp2
  go_loop [2, 4] (fun f y => ∃ k : Nat, k ≤ 1969 ∧ f = .int .i64 (- Dat.ys k) ∧ y = .int .i64 ((k : Int) + 1)) (fun _ y => 1970 - (intOf y).toNat)
  case atStart => exact ⟨0, by omega, rfl, rfl⟩
  case round =>
    obtain ⟨k, hk, rfl, rfl⟩ := hrel
    by_cases hlt : k < 1969
    · have hb := ys_bd k (by omega)
      have hy := Dat.yearN_bd ((k : Int) + 1)
      have HN : Hid (Dat.ys (k + 1) = Dat.ys k + Dat.yearN ((k : Int) + 1)) := ys_next k
      generalize Dat.ys k = s at hb HN
      obtain ⟨hb1, hb2⟩ := hb
      obtain ⟨hy1, hy2⟩ := hy
      go_wp2_with (first
        | (go_at_call 23; refine (Ryear_any _ _).mono ?_; rintro e w1 ⟨rfl, hw⟩; rw [hw]; clear hw))
      go_round
      case rel => exact ⟨k + 1, by omega, by rw [HN.out]; go_num, by go_num⟩
      case measure => simp [intOf]; omega
    · have e : k = 1969 := by omega
      have e2 : - Dat.ys k = -719162 := by rw [e, Dat.first_day]
      have e3 : (k : Int) + 1 = 1970 := by omega
      rw [e2, e3]
      clear e e2 e3
      go_wp2
      go_loop [3, 5] (fun f y => ∃ k : Nat, 1969 ≤ k ∧ k ≤ 9999 ∧ f = .int .i64 (Dat.ys k - 719163) ∧ y = .int .i64 ((k : Int) + 1)) (fun _ y => 10001 - (intOf y).toNat)
      case atStart => exact ⟨1969, by omega, by omega, by rw [Dat.first_day]; rfl, rfl⟩
      case round =>
        obtain ⟨k, hk1, hk, rfl, rfl⟩ := hrel
        by_cases hlt : k < 9999
        · have hb := ys_bd k (by omega)
          have hy := Dat.yearN_bd ((k : Int) + 1)
          have HN : Hid (Dat.ys (k + 1) = Dat.ys k + Dat.yearN ((k : Int) + 1)) := ys_next k
          generalize Dat.ys k = s at hb HN
          obtain ⟨hb1, hb2⟩ := hb
          obtain ⟨hy1, hy2⟩ := hy
          go_wp2_with (first
            | (go_at_call 23; refine (Ryear_any _ _).mono ?_; rintro e w1 ⟨rfl, hw⟩; rw [hw]; clear hw))
          go_round
          case rel => exact ⟨k + 1, by omega, by omega, by rw [HN.out]; go_num, by go_num⟩
          case measure => simp [intOf]; omega
        · have e : k = 9999 := by omega
          have e2 : Dat.ys k - 719163 = 2932896 := by rw [e, Dat.last_day]; rfl
          have e3 : (k : Int) + 1 = 10000 := by omega
          rw [e2, e3]
          clear e e2 e3
          go_wp2
          go_ret2
          exact ⟨rfl, rfl⟩
theorem ms_next (y : Int) (k : Nat) : Dat.ms y (k + 1) = Dat.ms y k + Dat.monthN y ((k : Int) + 1) := rfl
set_option maxRecDepth 100000 in
set_option maxHeartbeats 2000000 in
theorem RDays_any (y m d : Int) (w : World) (dd1 : -9223372036854775808 ≤ d) (dd2 : d ≤ 9223372036854775807) :
    Calls Tryd.prog 9 #[.int .i64 y, .int .i64 m, .int .i64 d] w fun e w' => e = .returned (.tuple #[.int .i64 (daysV y m d), .int .i64 (daysE y m d)]) ∧ w' = w := by
  by_cases hv : Dat.Valid y m d
  · have hn := days_yes hv
    rw [hn.1, hn.2, num_parts]
    clear hn
    obtain ⟨y1, y2, m1, m2, d1, d2⟩ := hv
    have hm31 := (Dat.monthN_bd y m).2
    go_enter Tryd.func9, Tryd.ntmps9
    go_wp2_with (first
      | (go_at_call 21; refine (Rmonth_any _ _ _).mono ?_; rintro e w1 ⟨rfl, hw⟩; rw [hw]; clear hw)
      | (go_at_call 22; refine (Rends_any _).mono ?_; rintro e w1 ⟨rfl, hw⟩; rw [hw]; clear hw))
    go_loop [8, 10] (fun f i => ∃ k : Nat, (k : Int) + 1 ≤ y ∧ f = .int .i64 (Dat.ys k - 719162) ∧ i = .int .i64 ((k : Int) + 1)) (fun _ i => y.toNat - (intOf i).toNat)
    case atStart => exact ⟨0, by omega, rfl, rfl⟩
    case round =>
      obtain ⟨k, hk, rfl, rfl⟩ := hrel
      by_cases hlt : (k : Int) + 1 < y
      · have hb := ys_bd k (by omega)
        have hy := Dat.yearN_bd ((k : Int) + 1)
        have HN : Hid (Dat.ys (k + 1) = Dat.ys k + Dat.yearN ((k : Int) + 1)) := ys_next k
        generalize Dat.ys k = s at hb HN
        obtain ⟨hb1, hb2⟩ := hb
        obtain ⟨hy1, hy2⟩ := hy
        go_wp2_with (first
          | (go_at_call 23; refine (Ryear_any _ _).mono ?_; rintro e w1 ⟨rfl, hw⟩; rw [hw]; clear hw))
        go_round
        case rel => exact ⟨k + 1, by omega, by rw [HN.out]; go_num, by go_num⟩
        case measure => simp [intOf]; omega
      · have e2 : Dat.ys k - 719162 = newY y := by
          unfold newY
          have : y.toNat - 1 = k := by omega
          rw [this]
        have e3 : (k : Int) + 1 = y := by omega
        have bY := newY_bd y y1 (by omega)
        obtain ⟨bY1, bY2⟩ := bY
        rw [e2, e3]
        clear e2 e3 hlt hk
        clear k
        go_wp2
        go_loop [8, 11] (fun f i => ∃ k : Nat, (k : Int) + 1 ≤ m ∧ f = .int .i64 (newY y + Dat.ms y k) ∧ i = .int .i64 ((k : Int) + 1)) (fun _ i => m.toNat - (intOf i).toNat)
        case atStart => exact ⟨0, by omega, by rw [show Dat.ms y 0 = 0 from rfl, Int.add_zero], rfl⟩
        case round =>
          obtain ⟨k, hk, rfl, rfl⟩ := hrel
          by_cases hlt : (k : Int) + 1 < m
          · have hb := ms_bd y k (by omega)
            have hy := Dat.monthN_bd y ((k : Int) + 1)
            have HN : Hid (Dat.ms y (k + 1) = Dat.ms y k + Dat.monthN y ((k : Int) + 1)) := ms_next y k
            generalize Dat.ms y k = s at hb HN
            obtain ⟨hb1, hb2⟩ := hb
            obtain ⟨hy1, hy2⟩ := hy
            go_wp2_with (first
              | (go_at_call 21; refine (Rmonth_any _ _ _).mono ?_; rintro e w1 ⟨rfl, hw⟩; rw [hw]; clear hw))
            go_round
            case rel => exact ⟨k + 1, by omega, by rw [HN.out]; go_num, by go_num⟩
            case measure => simp [intOf]; omega
          · have e2 : Dat.ms y k = aheadM y m := by
              unfold aheadM
              have : m.toNat - 1 = k := by omega
              rw [this]
            have e3 : (k : Int) + 1 = m := by omega
            have bA := aheadM_bd y m m1 (by omega)
            obtain ⟨bA1, bA2⟩ := bA
            rw [e2, e3]
            clear e2 e3 hlt hk
            clear k
            go_wp2
            go_ret2
            exact ⟨by go_num, rfl⟩
  · have hn := days_no hv
    rw [hn.1, hn.2]
    clear hn
    go_enter Tryd.func9, Tryd.ntmps9
    by_cases y1 : y < 1
    · go_wp2
      go_ret2
      exact ⟨rfl, rfl⟩
    by_cases y2 : 9999 < y
    · go_wp2
      go_ret2
      exact ⟨rfl, rfl⟩
    by_cases m1 : m < 1
    · go_wp2
      go_ret2
      exact ⟨rfl, rfl⟩
    by_cases m2 : 12 < m
    · go_wp2
      go_ret2
      exact ⟨rfl, rfl⟩
    by_cases d1 : d < 1
    · go_wp2
      go_ret2
      exact ⟨rfl, rfl⟩
    by_cases d2 : Dat.monthN y m < d
    · clear hv
      go_wp2_with (first
        | (go_at_call 21; refine (Rmonth_any _ _ _).mono ?_; rintro e w1 ⟨rfl, hw⟩; rw [hw]; clear hw))
      go_ret2
      exact ⟨rfl, rfl⟩
    exact absurd ⟨by omega, by omega, by omega, by omega, by omega, by omega⟩ hv
set_option maxRecDepth 100000 in
set_option maxHeartbeats 2000000 in
theorem RCivil_no (n : Int) (w : World) (hn : n < -719162 ∨ 2932896 < n) :
    Calls Tryd.prog 14 #[.int .i64 n] w fun e w' => e = .returned (.tuple #[.int .i64 0, .int .i64 0, .int .i64 0, .int .i64 3]) ∧ w' = w := by
  go_enter Tryd.func14, Tryd.ntmps14
  by_cases hx : n < -719162
  · go_wp2_with (first
      | (go_at_call 22; refine (Rends_any _).mono ?_; rintro e w1 ⟨rfl, hw⟩; rw [hw]; clear hw))
    (try simp only [Exit.inBlock, Exit.then]); refine bodyPost_ret (results_tmp4 rfl _ _ _) rfl ?_
    exact ⟨rfl, rfl⟩
  · have hx2 : 2932896 < n := by omega
    go_wp2_with (first
      | (go_at_call 22; refine (Rends_any _).mono ?_; rintro e w1 ⟨rfl, hw⟩; rw [hw]; clear hw))
    (try simp only [Exit.inBlock, Exit.then]); refine bodyPost_ret (results_tmp4 rfl _ _ _) rfl ?_
    exact ⟨rfl, rfl⟩
set_option maxRecDepth 100000 in
set_option maxHeartbeats 2000000 in
theorem RCivil_yes (n y m d : Int) (w : World) (hv : Dat.Valid y m d) (hn : n = Dat.num y m d) :
    Calls Tryd.prog 14 #[.int .i64 n] w fun e w' => e = .returned (.tuple #[.int .i64 y, .int .i64 m, .int .i64 d, .int .i64 0]) ∧ w' = w := by
  have hb := Dat.num_bd hv
  rw [← hn] at hb
  have HI : Hid (0 ≤ Dat.ms y (m.toNat - 1) + d - 1 ∧ Dat.ms y (m.toNat - 1) + d - 1 < Dat.yearN y) := Dat.in_year hv
  have HE : Hid (n + 719162 = Dat.ys (y.toNat - 1) + (Dat.ms y (m.toNat - 1) + d - 1)) := by
    show _ = _
    rw [hn]
    unfold Dat.num
    omega
  have HD : Hid (d ≤ Dat.monthN y m) := hv.2.2.2.2.2
  obtain ⟨y1, y2, m1, m2, d1, d2⟩ := hv
  have hd31 : d ≤ 31 := by have := Dat.monthN_bd y m; omega
  clear d2 hn
  obtain ⟨hb1, hb2⟩ := hb
  have hg1 : ¬ n < -719162 := by omega
  have hg2 : ¬ 2932896 < n := by omega
  go_enter Tryd.func14, Tryd.ntmps14
  go_wp2_with (first
    | (go_at_call 22; refine (Rends_any _).mono ?_; rintro e w1 ⟨rfl, hw⟩; rw [hw]; clear hw))
  go_loop [8, 9] (fun f i => ∃ k : Nat, (k : Int) + 1 ≤ y ∧ f = .int .i64 (n + 719162 - Dat.ys k) ∧ i = .int .i64 ((k : Int) + 1)) (fun _ i => y.toNat - (intOf i).toNat)
  case atStart => exact ⟨0, by omega, by rw [show Dat.ys 0 = 0 from rfl]; go_num, rfl⟩
  case round =>
    obtain ⟨k, hk, rfl, rfl⟩ := hrel
    have hb := ys_bd k (by omega)
    have hy := Dat.yearN_bd ((k : Int) + 1)
    obtain ⟨hy1, hy2⟩ := hy
    by_cases hlt : (k : Int) + 1 < y
    · have HN : Hid (Dat.ys (k + 1) = Dat.ys k + Dat.yearN ((k : Int) + 1)) := ys_next k
      have hge : Dat.yearN ((k : Int) + 1) ≤ n + 719162 - Dat.ys k := by
        have := HE.out
        have := HI.out
        have := HN.out
        have := Dat.ys_mono (show k + 1 ≤ y.toNat - 1 by omega)
        omega
      generalize Dat.ys k = s at hb HN hge
      obtain ⟨hb1, hb2⟩ := hb
      go_wp2_with (first
        | (go_at_call 23; refine (Ryear_any _ _).mono ?_; rintro e w1 ⟨rfl, hw⟩; rw [hw]; clear hw))
      go_round
      case rel => exact ⟨k + 1, by omega, by rw [HN.out]; go_num, by go_num⟩
      case measure => simp [intOf]; omega
    · have e3 : (k : Int) + 1 = y := by omega
      have e4 : y.toNat - 1 = k := by omega
      rw [e3] at hy1 hy2
      have HL : Hid (n + 719162 - Dat.ys k = Dat.ms y (m.toNat - 1) + d - 1) := by
        show _ = _
        have := HE.out
        rw [e4] at this
        omega
      have hlt2 : ¬ Dat.yearN y ≤ n + 719162 - Dat.ys k := by
        have := HL.out
        have := HI.out
        omega
      rw [e3]
      generalize n + 719162 - Dat.ys k = L at HL hlt2
      have hL1 : 0 ≤ L := by have := HL.out; have := HI.out; omega
      have hL2 : L ≤ 400 := by omega
      clear e3 e4 hlt hk hb
      clear k
      go_wp2_with (first
        | (go_at_call 23; refine (Ryear_any _ _).mono ?_; rintro e w1 ⟨rfl, hw⟩; rw [hw]; clear hw))
      go_loop [8, 10] (fun f i => ∃ k : Nat, (k : Int) + 1 ≤ m ∧ f = .int .i64 (L - Dat.ms y k) ∧ i = .int .i64 ((k : Int) + 1)) (fun _ i => m.toNat - (intOf i).toNat)
      case atStart => exact ⟨0, by omega, by rw [show Dat.ms y 0 = 0 from rfl]; go_num, rfl⟩
      case round =>
        obtain ⟨k, hk, rfl, rfl⟩ := hrel
        have hb := ms_bd y k (by omega)
        have hy := Dat.monthN_bd y ((k : Int) + 1)
        obtain ⟨hy3, hy4⟩ := hy
        by_cases hlt : (k : Int) + 1 < m
        · have HN : Hid (Dat.ms y (k + 1) = Dat.ms y k + Dat.monthN y ((k : Int) + 1)) := ms_next y k
          have hge : Dat.monthN y ((k : Int) + 1) ≤ L - Dat.ms y k := by
            have := HL.out
            have := HN.out
            have := Dat.ms_mono y (show k + 1 ≤ m.toNat - 1 by omega)
            omega
          generalize Dat.ms y k = s at hb HN hge
          obtain ⟨hb1, hb2⟩ := hb
          go_wp2_with (first
            | (go_at_call 21; refine (Rmonth_any _ _ _).mono ?_; rintro e w1 ⟨rfl, hw⟩; rw [hw]; clear hw))
          go_round
          case rel => exact ⟨k + 1, by omega, by rw [HN.out]; go_num, by go_num⟩
          case measure => simp [intOf]; omega
        · have e3 : (k : Int) + 1 = m := by omega
          have e4 : m.toNat - 1 = k := by omega
          rw [e3] at hy3 hy4
          have HX : Hid (L - Dat.ms y k + 1 = d) := by
            show _ = _
            have := HL.out
            rw [e4] at this
            omega
          have hlt2 : ¬ Dat.monthN y m ≤ L - Dat.ms y k := by
            have := HX.out
            have := HD.out
            omega
          rw [e3]
          have hx := HX.out
          generalize L - Dat.ms y k = r at HX hlt2 hx
          clear e3 e4 hlt hk hb hx HL
          clear k
          have hr1 : r ≤ 31 := by omega
          have hr0 : 0 ≤ r := by have := HX.out; omega
          go_wp2_with (first
            | (go_at_call 21; refine (Rmonth_any _ _ _).mono ?_; rintro e w1 ⟨rfl, hw⟩; rw [hw]; clear hw))
          (try simp only [Exit.inBlock, Exit.then]); refine bodyPost_ret (results_tmp4 rfl _ _ _) rfl ?_
          refine ⟨?_, rfl⟩
          show Ending.returned (.tuple #[.int .i64 y, .int .i64 m, .int .i64 (r + 1), .int .i64 0]) = _
          rw [HX.out]
end Go.Proofs.YtnklbeldheocmaaDoor
