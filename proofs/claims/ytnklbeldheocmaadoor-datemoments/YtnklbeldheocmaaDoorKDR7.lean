/- The contract of the reference's Format. -/
import Derived.Test.YtnklbeldheocmaaDoorKDR6
namespace Go.Proofs.YtnklbeldheocmaaDoor
open Go.RowKit
theorem RPad_str (n size : Int) (w : World) (h0 : -9223372036854775808 ≤ n) (h1 : n ≤ 9223372036854775807) :
    Calls Tryd.prog 38 #[.int .i64 n, .int .i64 size] w fun e w' => e = .returned (.string (str (padL n size))) ∧ Below w.heap.size w w' := RPad_any n size w h0 h1
theorem Rfmt_join (y m d L : Int) (y1 : 0 ≤ y) (y2 : y ≤ 9999) (m1 : 0 ≤ m) (m2 : m ≤ 99) (d1 : 0 ≤ d) (d2 : d ≤ 99) (L1 : 0 ≤ L) (L2 : L < 86400) :
    (str (padL y 4) ++ ⟨#[45]⟩ ++ str (padL m 2) ++ ⟨#[45]⟩ ++ str (padL d 2) ++ ⟨#[84]⟩ ++ str (padL (L / 3600) 2) ++ ⟨#[58]⟩ ++ str (padL (L / 60 % 60) 2) ++ ⟨#[58]⟩ ++ str (padL (L % 60) 2) ++ ⟨#[90]⟩ : ByteArray) = str (fmtL y m d L) := by
  apply str_eq
  rw [pad_4 y y1 y2, pad_2 m m1 m2, pad_2 d d1 d2, pad_2 _ (by omega) (by omega), pad_2 _ (by omega) (by omega), pad_2 _ (by omega) (by omega)]
  rfl
theorem pad_size2 (n : Int) (h0 : 0 ≤ n) (h1 : n ≤ 99) : (str (padL n 2)).size = 2 := by rw [pad_2 n h0 h1, str_size]; rfl
theorem pad_size4 (n : Int) (h0 : 0 ≤ n) (h1 : n ≤ 9999) : (str (padL n 4)).size = 4 := by rw [pad_4 n h0 h1, str_size]; rfl
set_option maxRecDepth 100000 in
set_option maxHeartbeats 2000000 in
theorem RFormat_pos (n y m d : Int) (w : World) (hv : Dat.Valid y m d) (hn : n / 86400 = Dat.num y m d) (h0 : 0 ≤ n) (h1 : n ≤ 9223372036854775807) :
    Calls Tryd.prog 18 #[.int .i64 n] w fun e w' => e = .returned (.tuple #[.string (str (fmtL y m d (n % 86400))), .int .i64 0]) ∧ Below w.heap.size w w' := by
  have hB : Below w.heap.size w w := Below.refl _ _
  have HV : Hid (Dat.Valid y m d) := hv
  have hN := Dat.num_bd hv
  obtain ⟨y1, y2, m1, m2, d1, d3⟩ := hv
  have d2 : d ≤ 31 := by have := Dat.monthN_bd y m; omega
  clear d3
  have hL1 : 0 ≤ n % 86400 := by omega
  have hL2 : n % 86400 < 86400 := by omega
  have HF : Hid _ := Rfmt_join y m d (n % 86400) (by omega) (by omega) (by omega) (by omega) (by omega) (by omega) hL1 hL2
  have k1 := pad_size4 y (by omega) (by omega)
  have k2 := pad_size2 m (by omega) (by omega)
  have k3 := pad_size2 d (by omega) (by omega)
  have k4 := pad_size2 (n % 86400 / 3600) (by omega) (by omega)
  have k5 := pad_size2 (n % 86400 / 60 % 60) (by omega) (by omega)
  have k6 := pad_size2 (n % 86400 % 60) (by omega) (by omega)
  rw [← HF.out]
  have HD : Hid (n / 86400 = Dat.num y m d) := hn
  rw [← hn] at hN
  clear hn HF
  obtain ⟨L, hL⟩ : ∃ L, n % 86400 = L := ⟨_, rfl⟩
  obtain ⟨D, hD⟩ : ∃ D, n / 86400 = D := ⟨_, rfl⟩
  rw [hL] at hL1 hL2 k4 k5 k6
  rw [hL]
  rw [hD] at hN HD
  obtain ⟨hN1, hN2⟩ := hN
  go_enter Tryd.func18, Tryd.ntmps18
  go_wp2_with (first
    | (go_at_call 14; refine (RCivil_yes _ y m d _ HV.out HD.out).mono ?_; rintro e wn ⟨rfl, hw⟩; rw [hw]; clear hw)
    | (go_at_call 38; refine (RPad_str _ _ _ (by omega) (by omega)).mono ?_; rintro e wn ⟨rfl, hn⟩; replace hB := hB.trans (hn.mono hB.size); clear hn))
  go_ret2
  exact ⟨rfl, hB⟩
set_option maxRecDepth 100000 in
set_option maxHeartbeats 2000000 in
theorem RFormat_zero (n y m d : Int) (w : World) (hv : Dat.Valid y m d) (hn : n / 86400 = Dat.num y m d) (h0 : n < 0) (h1 : -9223372036854775808 ≤ n) (h2 : n % 86400 = 0) :
    Calls Tryd.prog 18 #[.int .i64 n] w fun e w' => e = .returned (.tuple #[.string (str (fmtL y m d (n % 86400))), .int .i64 0]) ∧ Below w.heap.size w w' := by
  have hB : Below w.heap.size w w := Below.refl _ _
  have HV : Hid (Dat.Valid y m d) := hv
  have hN := Dat.num_bd hv
  obtain ⟨y1, y2, m1, m2, d1, d3⟩ := hv
  have d2 : d ≤ 31 := by have := Dat.monthN_bd y m; omega
  clear d3
  have hL1 : 0 ≤ n % 86400 := by omega
  have hL2 : n % 86400 < 86400 := by omega
  have HF : Hid _ := Rfmt_join y m d (n % 86400) (by omega) (by omega) (by omega) (by omega) (by omega) (by omega) hL1 hL2
  have k1 := pad_size4 y (by omega) (by omega)
  have k2 := pad_size2 m (by omega) (by omega)
  have k3 := pad_size2 d (by omega) (by omega)
  have k4 := pad_size2 (n % 86400 / 3600) (by omega) (by omega)
  have k5 := pad_size2 (n % 86400 / 60 % 60) (by omega) (by omega)
  have k6 := pad_size2 (n % 86400 % 60) (by omega) (by omega)
  rw [← HF.out]
  have HD : Hid (n / 86400 = Dat.num y m d) := hn
  rw [← hn] at hN
  clear hn HF
  have e1 : n.tdiv 86400 = -((-n) / 86400) := by
    rw [← Int.tdiv_eq_ediv_of_nonneg (by omega), Int.neg_tdiv, Int.neg_neg]
  have e2 : n.tmod 86400 = -((-n) % 86400) := by
    rw [← Int.tmod_eq_emod_of_nonneg (by omega), Int.neg_tmod, Int.neg_neg]
  obtain ⟨L, hL⟩ : ∃ L, n % 86400 = L := ⟨_, rfl⟩
  obtain ⟨D, hD⟩ : ∃ D, n / 86400 = D := ⟨_, rfl⟩
  have f1 : n.tdiv 86400 = D := by omega
  have f2 : n.tmod 86400 = L := by omega
  clear h2
  clear e1 e2
  rw [hL] at hL1 hL2 k4 k5 k6
  rw [hL]
  rw [hD] at hN HD
  clear hL hD
  obtain ⟨hN1, hN2⟩ := hN
  go_enter Tryd.func18, Tryd.ntmps18
  go_wp2_with (first
    | (go_at_call 14; refine (RCivil_yes _ y m d _ HV.out HD.out).mono ?_; rintro e wn ⟨rfl, hw⟩; rw [hw]; clear hw)
    | (go_at_call 38; refine (RPad_str _ _ _ (by omega) (by omega)).mono ?_; rintro e wn ⟨rfl, hn⟩; replace hB := hB.trans (hn.mono hB.size); clear hn))
  go_ret2
  exact ⟨rfl, hB⟩
set_option maxRecDepth 100000 in
set_option maxHeartbeats 2000000 in
theorem RFormat_neg (n y m d : Int) (w : World) (hv : Dat.Valid y m d) (hn : n / 86400 = Dat.num y m d) (h0 : n < 0) (h1 : -9223372036854775808 ≤ n) (h2 : ¬ n % 86400 = 0) :
    Calls Tryd.prog 18 #[.int .i64 n] w fun e w' => e = .returned (.tuple #[.string (str (fmtL y m d (n % 86400))), .int .i64 0]) ∧ Below w.heap.size w w' := by
  have hB : Below w.heap.size w w := Below.refl _ _
  have HV : Hid (Dat.Valid y m d) := hv
  have hN := Dat.num_bd hv
  obtain ⟨y1, y2, m1, m2, d1, d3⟩ := hv
  have d2 : d ≤ 31 := by have := Dat.monthN_bd y m; omega
  clear d3
  have hL1 : 0 ≤ n % 86400 := by omega
  have hL2 : n % 86400 < 86400 := by omega
  have HF : Hid _ := Rfmt_join y m d (n % 86400) (by omega) (by omega) (by omega) (by omega) (by omega) (by omega) hL1 hL2
  have k1 := pad_size4 y (by omega) (by omega)
  have k2 := pad_size2 m (by omega) (by omega)
  have k3 := pad_size2 d (by omega) (by omega)
  have k4 := pad_size2 (n % 86400 / 3600) (by omega) (by omega)
  have k5 := pad_size2 (n % 86400 / 60 % 60) (by omega) (by omega)
  have k6 := pad_size2 (n % 86400 % 60) (by omega) (by omega)
  rw [← HF.out]
  have HD : Hid (n / 86400 = Dat.num y m d) := hn
  rw [← hn] at hN
  clear hn HF
  have e1 : n.tdiv 86400 = -((-n) / 86400) := by
    rw [← Int.tdiv_eq_ediv_of_nonneg (by omega), Int.neg_tdiv, Int.neg_neg]
  have e2 : n.tmod 86400 = -((-n) % 86400) := by
    rw [← Int.tmod_eq_emod_of_nonneg (by omega), Int.neg_tmod, Int.neg_neg]
  obtain ⟨L, hL⟩ : ∃ L, n % 86400 = L := ⟨_, rfl⟩
  obtain ⟨D, hD⟩ : ∃ D, n / 86400 = D := ⟨_, rfl⟩
  have f1 : n.tdiv 86400 = D + 1 := by omega
  have f2 : n.tmod 86400 = L - 86400 := by omega
  have f3 : L - 86400 < 0 := by omega
  clear h2
  clear e1 e2
  rw [hL] at hL1 hL2 k4 k5 k6
  rw [hL]
  rw [hD] at hN HD
  clear hL hD
  obtain ⟨hN1, hN2⟩ := hN
  go_enter Tryd.func18, Tryd.ntmps18
  go_wp2_with (first
    | (go_at_call 14; refine (RCivil_yes _ y m d _ HV.out HD.out).mono ?_; rintro e wn ⟨rfl, hw⟩; rw [hw]; clear hw)
    | (go_at_call 38; refine (RPad_str _ _ _ (by omega) (by omega)).mono ?_; rintro e wn ⟨rfl, hn⟩; replace hB := hB.trans (hn.mono hB.size); clear hn))
  go_ret2
  exact ⟨rfl, hB⟩
theorem RFormat_yes (n y m d : Int) (w : World) (hv : Dat.Valid y m d) (hn : n / 86400 = Dat.num y m d) (h0 : -9223372036854775808 ≤ n) (h1 : n ≤ 9223372036854775807) :
    Calls Tryd.prog 18 #[.int .i64 n] w fun e w' => e = .returned (.tuple #[.string (str (fmtL y m d (n % 86400))), .int .i64 0]) ∧ Below w.heap.size w w' := by
  by_cases h : 0 ≤ n
  · exact RFormat_pos n y m d w hv hn h h1
  · by_cases hz : n % 86400 = 0
    · exact RFormat_zero n y m d w hv hn (by omega) h0 hz
    · exact RFormat_neg n y m d w hv hn (by omega) h0 hz
set_option maxRecDepth 100000 in
set_option maxHeartbeats 2000000 in
theorem RFormat_no_pos (n : Int) (w : World) (hn : n / 86400 < -719162 ∨ 2932896 < n / 86400) (h0 : -9223372036854775808 ≤ n) (h1 : n ≤ 9223372036854775807) (hp : 0 ≤ n) :
    Calls Tryd.prog 18 #[.int .i64 n] w fun e w' => e = .returned (.tuple #[.string ⟨#[]⟩, .int .i64 3]) ∧ w' = w := by
  obtain ⟨L, hL⟩ : ∃ L, n % 86400 = L := ⟨_, rfl⟩
  obtain ⟨D, hD⟩ : ∃ D, n / 86400 = D := ⟨_, rfl⟩
  have b1 : -110000000000000 ≤ D := by omega
  have b2 : D ≤ 110000000000000 := by omega
  have b3 : 0 ≤ L := by omega
  have b4 : L < 86400 := by omega
  rw [hD] at hn
  go_enter Tryd.func18, Tryd.ntmps18
  go_wp2_with (first
    | (go_at_call 14; refine (RCivil_no _ _ (by omega)).mono ?_; rintro e wn ⟨rfl, hw⟩; rw [hw]; clear hw))
  go_ret2
  exact ⟨rfl, rfl⟩
set_option maxRecDepth 100000 in
set_option maxHeartbeats 2000000 in
theorem RFormat_no_zero (n : Int) (w : World) (hn : n / 86400 < -719162 ∨ 2932896 < n / 86400) (h0 : -9223372036854775808 ≤ n) (h1 : n ≤ 9223372036854775807) (hp : n < 0) (h2 : n % 86400 = 0) :
    Calls Tryd.prog 18 #[.int .i64 n] w fun e w' => e = .returned (.tuple #[.string ⟨#[]⟩, .int .i64 3]) ∧ w' = w := by
  obtain ⟨L, hL⟩ : ∃ L, n % 86400 = L := ⟨_, rfl⟩
  obtain ⟨D, hD⟩ : ∃ D, n / 86400 = D := ⟨_, rfl⟩
  have b1 : -110000000000000 ≤ D := by omega
  have b2 : D ≤ 110000000000000 := by omega
  have b3 : 0 ≤ L := by omega
  have b4 : L < 86400 := by omega
  have e1 : n.tdiv 86400 = -((-n) / 86400) := by
    rw [← Int.tdiv_eq_ediv_of_nonneg (by omega), Int.neg_tdiv, Int.neg_neg]
  have e2 : n.tmod 86400 = -((-n) % 86400) := by
    rw [← Int.tmod_eq_emod_of_nonneg (by omega), Int.neg_tmod, Int.neg_neg]
  have f1 : n.tdiv 86400 = D := by omega
  have f2 : n.tmod 86400 = L := by omega
  have f3 : ¬ L < 0 := by omega
  rw [hD] at hn
  clear e1 e2 h2 hL hD
  go_enter Tryd.func18, Tryd.ntmps18
  go_wp2_with (first
    | (go_at_call 14; refine (RCivil_no _ _ (by omega)).mono ?_; rintro e wn ⟨rfl, hw⟩; rw [hw]; clear hw))
  go_ret2
  exact ⟨rfl, rfl⟩
set_option maxRecDepth 100000 in
set_option maxHeartbeats 2000000 in
theorem RFormat_no_neg (n : Int) (w : World) (hn : n / 86400 < -719162 ∨ 2932896 < n / 86400) (h0 : -9223372036854775808 ≤ n) (h1 : n ≤ 9223372036854775807) (hp : n < 0) (h2 : ¬ n % 86400 = 0) :
    Calls Tryd.prog 18 #[.int .i64 n] w fun e w' => e = .returned (.tuple #[.string ⟨#[]⟩, .int .i64 3]) ∧ w' = w := by
  obtain ⟨L, hL⟩ : ∃ L, n % 86400 = L := ⟨_, rfl⟩
  obtain ⟨D, hD⟩ : ∃ D, n / 86400 = D := ⟨_, rfl⟩
  have b1 : -110000000000000 ≤ D := by omega
  have b2 : D ≤ 110000000000000 := by omega
  have b3 : 0 ≤ L := by omega
  have b4 : L < 86400 := by omega
  have e1 : n.tdiv 86400 = -((-n) / 86400) := by
    rw [← Int.tdiv_eq_ediv_of_nonneg (by omega), Int.neg_tdiv, Int.neg_neg]
  have e2 : n.tmod 86400 = -((-n) % 86400) := by
    rw [← Int.tmod_eq_emod_of_nonneg (by omega), Int.neg_tmod, Int.neg_neg]
  have f1 : n.tdiv 86400 = D + 1 := by omega
  have f2 : n.tmod 86400 = L - 86400 := by omega
  have f3 : L - 86400 < 0 := by omega
  rw [hD] at hn
  clear e1 e2 h2 hL hD
  go_enter Tryd.func18, Tryd.ntmps18
  go_wp2_with (first
    | (go_at_call 14; refine (RCivil_no _ _ (by omega)).mono ?_; rintro e wn ⟨rfl, hw⟩; rw [hw]; clear hw))
  go_ret2
  exact ⟨rfl, rfl⟩
theorem RFormat_no (n : Int) (w : World) (hn : n / 86400 < -719162 ∨ 2932896 < n / 86400) (h0 : -9223372036854775808 ≤ n) (h1 : n ≤ 9223372036854775807) :
    Calls Tryd.prog 18 #[.int .i64 n] w fun e w' => e = .returned (.tuple #[.string ⟨#[]⟩, .int .i64 3]) ∧ w' = w := by
  by_cases h : 0 ≤ n
  · exact RFormat_no_pos n w hn h0 h1 h
  · by_cases hz : n % 86400 = 0
    · exact RFormat_no_zero n w hn h0 h1 (by omega) hz
    · exact RFormat_no_neg n w hn h0 h1 (by omega) hz
end Go.Proofs.YtnklbeldheocmaaDoor
