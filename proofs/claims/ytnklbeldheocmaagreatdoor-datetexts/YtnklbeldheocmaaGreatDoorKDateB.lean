/- Texts laid as one. -/
import Derived.Test.YtnklbeldheocmaaGreatDoorKAscii
import Derived.Test.YtnklbeldheocmaaGreatDoorKDateA
import Derived.BigQuiet
import Derived.Deep.Cut
import Derived.OwnWalk
import Derived.Shelf.SlSorted.Search
import Derived.Shelf.Strings.SlTrimAscii
import Derived.Lib.Builder
import Derived.Lib.SmallJoins
/- Contracts of IsLeap, ahead, newYear and Days. -/
namespace Go.Proofs.YtnklbeldheocmaaGreatDoor
open Go.RowKit
theorem tmod_zero (y d : Int) : (y.tmod d = 0) ↔ y % d = 0 :=
  ⟨fun h => Int.emod_eq_zero_of_dvd (Int.dvd_of_tmod_eq_zero h), fun h => Int.tmod_eq_zero_of_dvd (Int.dvd_of_emod_eq_zero h)⟩
theorem IsLeap_any (y : Int) (w : World) :
    Calls Tryz.prog 52 #[.int .i64 y] w fun e w' => e = .returned (.bool (Dat.leap y)) ∧ w' = w := by
  have e : Dat.leap y = ((decide (y.tmod 4 = 0) && !decide (y.tmod 100 = 0)) || decide (y.tmod 400 = 0)) := by
    unfold Dat.leap
    simp only [tmod_zero]
  rw [e]
  clear e
  go_enter Tryz.func52, Tryz.ntmps52
  by_cases h4 : y.tmod 4 = 0
  · by_cases h100 : y.tmod 100 = 0
    · by_cases h400 : y.tmod 400 = 0
      · go_wp2
        go_ret
        simp [h4, h100, h400]
      · go_wp2
        go_ret
        simp [h4, h100, h400]
    · go_wp2
      go_ret
      simp [h4, h100]
  · by_cases h400 : y.tmod 400 = 0
    · go_wp2
      go_ret
      simp [h4, h400]
    · go_wp2
      go_ret
      simp [h4, h400]
/-- How many days of a year that is no leap year are ahead of each month. -/
def aheadTab : List Int := [0, 31, 59, 90, 120, 151, 181, 212, 243, 273, 304, 334, 365]
/-- What the walks are told of the program's own table. -/
def Ahead (w : World) : Prop := Lib.TabIs Tryz.prog w "cringle/date.daysAhead" .i64 aheadTab
theorem gAhead : Tryz.prog.globalNamed "cringle/date.daysAhead" = some 0 := by kernel_rfl
theorem Ahead.cell {w : World} (h : Ahead w) (k : Nat) (hk : k < 13) : w.cell? ⟨0, k, none⟩ = some (.int .i64 (aheadTab.getD k 0)) := Lib.TabIs.cell h gAhead k hk
theorem Ahead.lt {w : World} (h : Ahead w) : 0 < w.heap.size := by
  have := h.cell 0 (by decide)
  unfold World.cell? at this
  simp at this
  by_cases hs : 0 < w.heap.size
  · exact hs
  · rw [Array.getElem?_eq_none (by omega)] at this
    simp at this
theorem Ahead.below {w w' : World} (h : Ahead w) (hb : Below w.heap.size w w') : Ahead w' := var?_below hb gAhead h.lt h
theorem ms_tab (y : Int) (k : Nat) (h : k < 13) : Dat.ms y k = aheadTab.getD k 0 + (if 2 ≤ k ∧ Dat.leap y = true then 1 else 0) := by
  cases hl : Dat.leap y
  · match k, h with
    | 0, _ | 1, _ | 2, _ | 3, _ | 4, _ | 5, _ | 6, _ | 7, _ | 8, _ | 9, _ | 10, _ | 11, _ | 12, _ => simp [Dat.ms, Dat.monthN, hl, aheadTab]
  · match k, h with
    | 0, _ | 1, _ | 2, _ | 3, _ | 4, _ | 5, _ | 6, _ | 7, _ | 8, _ | 9, _ | 10, _ | 11, _ | 12, _ => simp [Dat.ms, Dat.monthN, hl, aheadTab]
theorem ms_bd (y : Int) (k : Nat) (h : k < 13) : 0 ≤ Dat.ms y k ∧ Dat.ms y k ≤ 366 := by
  have h1 := Dat.ms_mono y (show 0 ≤ k by omega)
  have h2 := Dat.ms_mono y (show k ≤ 12 by omega)
  rw [Dat.ms_year] at h2
  have := Dat.yearN_bd y
  have z : Dat.ms y 0 = 0 := rfl
  omega
theorem tab_bd (k : Nat) (h : k < 13) : 0 ≤ aheadTab.getD k 0 ∧ aheadTab.getD k 0 ≤ 365 := by
  match k, h with
  | 0, _ | 1, _ | 2, _ | 3, _ | 4, _ | 5, _ | 6, _ | 7, _ | 8, _ | 9, _ | 10, _ | 11, _ | 12, _ => decide
set_option maxHeartbeats 400000 in
theorem ahead_any (y : Int) (k : Nat) (w : World) (hk : k < 13) (hA : Ahead w) :
    Calls Tryz.prog 32 #[.int .i64 y, .int .i64 ((k : Int) + 1)] w fun e w' => e = .returned (.int .i64 (Dat.ms y k)) ∧ w' = w := by
  have hc := hA.cell k hk
  have hb := tab_bd k hk
  have HV : Hid (Dat.ms y k = aheadTab.getD k 0 + (if 2 ≤ k ∧ Dat.leap y = true then 1 else 0)) := ms_tab y k hk
  generalize aheadTab.getD k 0 = t at hc hb HV
  obtain ⟨hb0, hb1⟩ := hb
  generalize Dat.ms y k = v at HV
  go_enter Tryz.func32, Tryz.ntmps32
  by_cases h2 : 2 ≤ k
  · have h2i : (2 : Int) < (k : Int) + 1 := by omega
    cases hl : Dat.leap y
    · have hv : v = t := by rw [HV.out, if_neg (by rw [hl]; simp)]; omega
      subst hv
      go_wp2_with (first
        | (go_at_call 52; refine (IsLeap_any _ _).mono ?_; rintro e w1 ⟨rfl, hw⟩; rw [hw]; clear hw))
      go_ret
      exact ⟨rfl, rfl⟩
    · have hv : v = t + 1 := by rw [HV.out, if_pos ⟨h2, hl⟩]
      subst hv
      go_wp2_with (first
        | (go_at_call 52; refine (IsLeap_any _ _).mono ?_; rintro e w1 ⟨rfl, hw⟩; rw [hw]; clear hw))
      go_ret
      exact ⟨by go_num, rfl⟩
  · have h2i : ¬ (2 : Int) < (k : Int) + 1 := by omega
    have hv : v = t := by rw [HV.out, if_neg (by omega)]; omega
    subst hv
    go_wp2
    go_ret
    exact ⟨rfl, rfl⟩
/-- The number of a year's first day. -/
def newY (y : Int) : Int := Dat.ys (y.toNat - 1) - 719162
theorem newY_eq (y : Int) (h1 : 1 ≤ y) : newY y = -719162 + (y - 1) * 365 + (y - 1) / 4 - (y - 1) / 100 + (y - 1) / 400 := by
  unfold newY
  rw [Dat.ys_closed]
  have e : ((y.toNat - 1 : Nat) : Int) = y - 1 := by omega
  rw [e]
  omega
theorem newY_bd (y : Int) (h1 : 1 ≤ y) (h2 : y ≤ 10000) : -719162 ≤ newY y ∧ newY y ≤ 2932897 := by
  rw [newY_eq y h1]
  omega
theorem newYear_any (y : Int) (w : World) (h1 : 1 ≤ y) (h2 : y ≤ 10000) :
    Calls Tryz.prog 33 #[.int .i64 y] w fun e w' => e = .returned (.int .i64 (newY y)) ∧ w' = w := by
  go_enter Tryz.func33, Tryz.ntmps33
  go_wp2
  go_ret
  exact ⟨by rw [newY_eq y h1]; rfl, rfl⟩
/-- The days of a year ahead of a month. -/
def aheadM (y m : Int) : Int := Dat.ms y (m.toNat - 1)
theorem aheadM_bd (y m : Int) (h1 : 1 ≤ m) (h2 : m ≤ 13) : 0 ≤ aheadM y m ∧ aheadM y m ≤ 366 := ms_bd y _ (by omega)
theorem ahead_of (y m : Int) (w : World) (h1 : 1 ≤ m) (h2 : m ≤ 13) (hA : Ahead w) :
    Calls Tryz.prog 32 #[.int .i64 y, .int .i64 m] w fun e w' => e = .returned (.int .i64 (aheadM y m)) ∧ w' = w := by
  have h := ahead_any y (m.toNat - 1) w (by omega) hA
  rw [show (((m.toNat - 1 : Nat) : Int) + 1) = m by omega] at h
  exact h
theorem aheadM_next (y m : Int) (h1 : 1 ≤ m) : aheadM y (m + 1) - aheadM y m = Dat.monthN y m := by
  unfold aheadM
  have e : (m + 1).toNat - 1 = m.toNat - 1 + 1 := by omega
  rw [e, Dat.ms_step]
  have e2 : ((m.toNat - 1 + 1 : Nat) : Int) = m := by omega
  rw [e2]
  omega
theorem num_parts (y m d : Int) : Dat.num y m d = newY y + (aheadM y m + d - 1) := by
  unfold Dat.num newY aheadM
  omega
/-- What Days answers. -/
def daysV (y m d : Int) : Int := if Dat.Valid y m d then Dat.num y m d else 0
def daysE (y m d : Int) : Int := if Dat.Valid y m d then 0 else 3
theorem days_yes {y m d : Int} (h : Dat.Valid y m d) : daysV y m d = Dat.num y m d ∧ daysE y m d = 0 := by
  unfold daysV daysE; rw [if_pos h, if_pos h]; exact ⟨rfl, rfl⟩
theorem days_no {y m d : Int} (h : ¬ Dat.Valid y m d) : daysV y m d = 0 ∧ daysE y m d = 3 := by
  unfold daysV daysE; rw [if_neg h, if_neg h]; exact ⟨rfl, rfl⟩
set_option maxHeartbeats 800000 in
theorem Days_any (y m d : Int) (w : World) (hA : Ahead w) (d1 : -9223372036854775808 ≤ d) (d2 : d ≤ 9223372036854775807) :
    Calls Tryz.prog 34 #[.int .i64 y, .int .i64 m, .int .i64 d] w fun e w' => e = .returned (.tuple #[.int .i64 (daysV y m d), .int .i64 (daysE y m d)]) ∧ w' = w := by
  by_cases hv : 1 ≤ y ∧ y ≤ 9999 ∧ 1 ≤ m ∧ m ≤ 12
  · obtain ⟨y1, y2, m1, m2⟩ := hv
    have bA := aheadM_bd y m m1 (by omega)
    have bB := aheadM_bd y (m + 1) (by omega) (by omega)
    have bY := newY_bd y y1 (by omega)
    have HN : Hid (aheadM y (m + 1) - aheadM y m = Dat.monthN y m) := aheadM_next y m m1
    have HP : Hid (Dat.num y m d = newY y + (aheadM y m + d - 1)) := num_parts y m d
    have HM : Hid (28 ≤ Dat.monthN y m ∧ Dat.monthN y m ≤ 31) := Dat.monthN_bd y m
    obtain ⟨bA1, bA2⟩ := bA
    obtain ⟨bB1, bB2⟩ := bB
    obtain ⟨bY1, bY2⟩ := bY
    by_cases hd1 : d < 1
    · have hn := days_no (y := y) (m := m) (d := d) (by rintro ⟨_, _, _, _, h, _⟩; omega)
      rw [hn.1, hn.2]
      clear hn
      go_enter Tryz.func34, Tryz.ntmps34
      go_wp2
      go_ret2
      exact ⟨rfl, rfl⟩
    · by_cases hd2 : aheadM y (m + 1) - aheadM y m < d
      · have hn := days_no (y := y) (m := m) (d := d) (by rintro ⟨_, _, _, _, _, h⟩; have := HN.out; omega)
        rw [hn.1, hn.2]
        clear hn
        go_enter Tryz.func34, Tryz.ntmps34
        go_wp2_with (first
          | (go_at_call 32; refine (ahead_of _ _ _ (by omega) (by omega) hA).mono ?_; rintro e w1 ⟨rfl, hw⟩; rw [hw]; clear hw))
        go_ret2
        exact ⟨rfl, rfl⟩
      · have hd3 : d ≤ 31 := by have := HN.out; have := HM.out; omega
        have hn := days_yes (y := y) (m := m) (d := d) ⟨y1, y2, m1, m2, by omega, by have := HN.out; omega⟩
        rw [hn.1, hn.2, HP.out]
        clear hn
        go_enter Tryz.func34, Tryz.ntmps34
        go_wp2_with (first
          | (go_at_call 32; refine (ahead_of _ _ _ (by omega) (by omega) hA).mono ?_; rintro e w1 ⟨rfl, hw⟩; rw [hw]; clear hw)
          | (go_at_call 33; refine (newYear_any _ _ (by omega) (by omega)).mono ?_; rintro e w1 ⟨rfl, hw⟩; rw [hw]; clear hw))
        go_ret2
        exact ⟨rfl, rfl⟩
  · have hn := days_no (y := y) (m := m) (d := d) (by rintro ⟨h1, h2, h3, h4, _, _⟩; exact hv ⟨h1, h2, h3, h4⟩)
    rw [hn.1, hn.2]
    clear hn
    go_enter Tryz.func34, Tryz.ntmps34
    by_cases y1 : y < 1
    · go_wp2
      go_ret2
      exact ⟨rfl, rfl⟩
    by_cases y2 : 9999 < y
    · go_wp2
      go_ret2
      exact ⟨rfl, rfl⟩
    by_cases m1 : m < 1
    · go_wp2
      go_ret2
      exact ⟨rfl, rfl⟩
    by_cases m2 : 12 < m
    · go_wp2
      go_ret2
      exact ⟨rfl, rfl⟩
    omega
end Go.Proofs.YtnklbeldheocmaaGreatDoor
/- Contracts of sort.Search at Civil's question, and of Civil. -/
namespace Go.Proofs.YtnklbeldheocmaaGreatDoor
open Go.RowKit
theorem civ1_any (i : Nat) (b : Nat) (n : Int) (w : World) (hi : i < 9999) (hb : w.cell? ⟨b, 0, none⟩ = some (.int .i64 n)) :
    Calls Tryz.prog 46 #[.int .i64 i, .pointer (some ⟨b, 0, none⟩)] w fun e w' => e = .returned (.bool (decide (n < newY ((i : Int) + 2)))) ∧ ∃ m, w' = w.drewN m := by
  have ha : IntKind.i64.wrap ((i : Int) + 2) = (i : Int) + 2 := by rw [IntKind.wrap_i64]; omega
  go_enter Tryz.func46, Tryz.ntmps46
  go_wp2
  go_quiet ((go_at_call 33; exact Calls.quiet_of_same (newYear_any _ _ (by omega) (by omega))))
  go_wp2
  go_ret
  exact ⟨rfl, _, rfl⟩
/-- The first place at which a number of a day lies ahead. -/
def Place (n : Int) (c : Nat) : Prop := c ≤ 9999 ∧ (∀ t, t < c → newY ((t : Int) + 2) ≤ n) ∧ (∀ t, c ≤ t → t < 9999 → n < newY ((t : Int) + 2))
theorem newY_mono {a b : Int} (h : a ≤ b) : newY a ≤ newY b := by
  unfold newY
  have := Dat.ys_mono (show a.toNat - 1 ≤ b.toNat - 1 by omega)
  omega
set_option maxRecDepth 100000 in
set_option maxHeartbeats 800000 in
theorem Search_civ (b : Nat) (n : Int) (w : World) (hb : w.cell? ⟨b, 0, none⟩ = some (.int .i64 n)) :
    Calls Tryz.prog 45 #[.int .i64 9999, .func (.func 46) #[] #[.pointer (some ⟨b, 0, none⟩)]] w fun e w' => ∃ c : Nat, e = .returned (.int .i64 c) ∧ Place n c ∧ ∃ m, w' = w.drewN m := by
  go_enter Tryz.func45, Tryz.ntmps45
  go_wp2
  go_loopw [5, 6] (fun s5 s6 wr => ∃ lo hi : Nat, s5 = .int .i64 lo ∧ s6 = .int .i64 hi ∧ lo ≤ hi ∧ hi ≤ 9999 ∧ Hid ((∀ t, t < lo → newY ((t : Int) + 2) ≤ n) ∧ (∀ t, hi ≤ t → t < 9999 → n < newY ((t : Int) + 2))) ∧ wr.cell? ⟨b, 0, none⟩ = some (.int .i64 n) ∧ Hid (∃ m, wr = w.drewN m)) (fun s5 s6 _ => (intOf s6 - intOf s5).toNat)
  case atStart => exact ⟨0, 9999, rfl, rfl, by omega, by omega, ⟨fun t h => by omega, fun t h1 h2 => by omega⟩, hb, ⟨0, rfl⟩⟩
  case round =>
    obtain ⟨lo, hi, rfl, rfl, h1, h2, HP, hc, HW⟩ := hrel
    by_cases hlt : lo < hi
    · have HC : Calls Tryz.prog 46 #[.int .i64 (((lo : Int) + (hi : Int)) / 2), .pointer (some ⟨b, 0, none⟩)] wr fun e w' => e = .returned (.bool (decide (n < newY ((((lo + hi) / 2 : Nat) : Int) + 2)))) ∧ ∃ m, w' = wr.drewN m := by
        have h := civ1_any ((lo + hi) / 2) b n wr (by omega) hc
        rw [show (((lo + hi) / 2 : Nat) : Int) = ((lo : Int) + (hi : Int)) / 2 by omega] at h
        rw [show (((lo + hi) / 2 : Nat) : Int) = ((lo : Int) + (hi : Int)) / 2 by omega]
        exact h
      by_cases hq : n < newY ((((lo + hi) / 2 : Nat) : Int) + 2)
      · rw [decide_eq_true hq] at HC
        have HQ : Hid (n < newY ((((lo + hi) / 2 : Nat) : Int) + 2)) := hq
        clear hq
        go_wp2_with (go_at_call 46; refine HC.mono ?_; rintro e w' ⟨rfl, k, rfl⟩)
        go_roundw
        case rel =>
          refine ⟨lo, (lo + hi) / 2, rfl, by congr 1, by omega, by omega, ⟨HP.out.1, fun t h3 h4 => ?_⟩, hc, ?_⟩
          · have := newY_mono (show (((lo + hi) / 2 : Nat) : Int) + 2 ≤ (t : Int) + 2 by omega)
            have := HQ.out
            omega
          · obtain ⟨m, rfl⟩ := HW.out
            exact ⟨m + k, by rw [World.drewN_drewN]⟩
        case measure => simp [intOf]; omega
      · rw [decide_eq_false hq] at HC
        have HQ : Hid (¬ n < newY ((((lo + hi) / 2 : Nat) : Int) + 2)) := hq
        clear hq
        go_wp2_with (go_at_call 46; refine HC.mono ?_; rintro e w' ⟨rfl, k, rfl⟩)
        go_roundw
        case rel =>
          refine ⟨(lo + hi) / 2 + 1, hi, by congr 1, rfl, by omega, by omega, ⟨fun t h3 => ?_, HP.out.2⟩, hc, ?_⟩
          · have := newY_mono (show (t : Int) + 2 ≤ (((lo + hi) / 2 : Nat) : Int) + 2 by omega)
            have := HQ.out
            omega
          · obtain ⟨m, rfl⟩ := HW.out
            exact ⟨m + k, by rw [World.drewN_drewN]⟩
        case measure => simp [intOf]; omega
    · have e : lo = hi := by omega
      subst e
      go_wp2
      go_ret
      exact ⟨lo, rfl, ⟨h2, HP.out.1, HP.out.2⟩, HW.out⟩
theorem results_tmp4 {fn : Func} {t u v x : Tmp} (h : fn.results = #[.tmp t, .tmp u, .tmp v, .tmp x]) (tmps : Array Value) (P : Program) (w : World) :
    (results fn tmps).run P w = .ok (.tuple #[tmps.getD t undef, tmps.getD u undef, tmps.getD v undef, tmps.getD x undef]) w := by
  simp [results, h]
theorem newY_last : newY 10000 = 2932897 := by rw [newY_eq _ (by omega)]; decide
theorem place_year {y m d n : Int} {c : Nat} (hv : Dat.Valid y m d) (hn : n = Dat.num y m d) (hp : Place n c) : (1 : Int) + c = y := by
  have hi := Dat.in_year hv
  have e : n = newY y + (aheadM y m + d - 1) := by rw [hn, num_parts]
  have h0 : 0 ≤ aheadM y m + d - 1 ∧ aheadM y m + d - 1 < Dat.yearN y := hi
  have hs : newY (y + 1) = newY y + Dat.yearN y := by
    unfold newY
    have e1 : (y + 1).toNat - 1 = y.toNat - 1 + 1 := by have := hv.1; omega
    have e2 : ((y.toNat - 1 + 1 : Nat) : Int) = y := by have := hv.1; omega
    rw [e1]
    have : Dat.ys (y.toNat - 1 + 1) = Dat.ys (y.toNat - 1) + Dat.yearN ((y.toNat - 1 + 1 : Nat) : Int) := rfl
    rw [this, e2]
    omega
  obtain ⟨h1, h2, h3⟩ := hp
  have hy := hv.1
  have hy2 := hv.2.1
  by_cases hgt : y < 1 + (c : Int)
  · have := h2 (y - 1).toNat (by omega)
    have e3 : (((y - 1).toNat : Nat) : Int) + 2 = y + 1 := by omega
    rw [e3] at this
    omega
  · by_cases hlt : 1 + (c : Int) < y
    · have := h3 c (Nat.le_refl _) (by omega)
      have := newY_mono (show (c : Int) + 2 ≤ y by omega)
      omega
    · omega
theorem aheadM_mono (y : Int) {a b : Int} (h : a ≤ b) : aheadM y a ≤ aheadM y b := Dat.ms_mono y (by omega)
set_option maxRecDepth 100000 in
set_option maxHeartbeats 800000 in
theorem Civil_yes (n y m d : Int) (w : World) (hv : Dat.Valid y m d) (hn : n = Dat.num y m d) (hA : Ahead w) :
    Calls Tryz.prog 27 #[.int .i64 n] w fun e w' => e = .returned (.tuple #[.int .i64 y, .int .i64 m, .int .i64 d, .int .i64 0]) ∧ Below w.heap.size w w' := by
  have hb := Dat.num_bd hv
  rw [← hn] at hb
  have HV : Hid (Dat.Valid y m d) := hv
  have HE : Hid (n = newY y + (aheadM y m + d - 1)) := by show _ = _; rw [hn, num_parts]
  have HN : Hid (n = Dat.num y m d) := hn
  have HM : Hid (aheadM y (m + 1) - aheadM y m = Dat.monthN y m) := aheadM_next y m hv.2.2.1
  have bY := newY_bd y hv.1 (by have := hv.2.1; omega)
  obtain ⟨y1, y2, m1, m2, d1, d2⟩ := hv
  have hd31 : d ≤ 31 := by have := Dat.monthN_bd y m; omega
  clear d2 hn
  have hl : newY 10000 = 2932897 := newY_last
  obtain ⟨hb1, hb2⟩ := hb
  obtain ⟨bY1, bY2⟩ := bY
  go_enter Tryz.func27, Tryz.ntmps27
  go_wp2
  have hc : (w.alloc (Obj.cells #[Value.int IntKind.i64 n] 2)).cell? ⟨w.heap.size, 0, none⟩ = some (.int .i64 n) := by
    rw [World.cell?_alloc_at _ _ _ _ (by simp)]; rfl
  have hB : Below w.heap.size w (w.alloc (Obj.cells #[Value.int IntKind.i64 n] 2)) := (Below.refl _ _).alloc (Nat.le_refl _) _
  generalize w.alloc (Obj.cells #[Value.int IntKind.i64 n] 2) = W at hc hB
  generalize hb0 : w.heap.size = B at hc hB
  have HB0 : Hid (w.heap.size = B) := hb0
  have hA1 : Ahead W := hA.below (by rw [hb0]; exact hB)
  clear hb0 hA
  have g1 : decide (n < -719162) = false := decide_eq_false (by omega)
  go_quiet ((go_at_call 33; exact Calls.quiet_of_same (newYear_any _ _ (by omega) (by omega))))
  have hc1 : (W.drewN nq).cell? ⟨B, 0, none⟩ = some (.int .i64 n) := hc
  have hB1 : Below B w (W.drewN nq) := below_drewN hB nq
  have hA2 : Ahead (W.drewN nq) := hA1
  generalize W.drewN nq = W1 at hc1 hB1 hA2
  clear hc hB hA1 g1 nq
  go_wp2_with (first
    | (go_at_call 45; refine (Search_civ B n _ hc1).mono ?_; rintro e w1 ⟨c, rfl, hp, hw⟩; have ey : (1 : Int) + (c : Int) = y := place_year HV.out HN.out hp; have hc2 : w1.cell? ⟨B, 0, none⟩ = some (.int .i64 n) := (by obtain ⟨q, rfl⟩ := hw; exact hc1); have hB2 : Below B w w1 := (by obtain ⟨q, rfl⟩ := hw; exact below_drewN hB1 q); have hA3 : Ahead w1 := (by obtain ⟨q, rfl⟩ := hw; exact hA2); clear hw hp hc1 hB1 hA2))
  have el : IntKind.i64.wrap (n - newY y) = n - newY y := by rw [IntKind.wrap_i64]; omega
  go_quiet ((go_at_call 33; exact Calls.quiet_of_same (newYear_any _ _ (by omega) (by omega))))
  have hA4 : Ahead (w1.drewN nq) := hA3
  have hB3 : Below B w (w1.drewN nq) := below_drewN hB2 nq
  generalize w1.drewN nq = W2 at hA4 hB3
  have HL : Hid (n - newY y = aheadM y m + d - 1) := by show _ = _; have := HE.out; omega
  clear el hc2 hA3 hB2 ey HN HE
  generalize n - newY y = L at HL
  have hL1 : 0 ≤ L := by have := HL.out; have := aheadM_bd y m m1 (by omega); omega
  have hL2 : L ≤ 400 := by have := HL.out; have := aheadM_bd y m m1 (by omega); omega
  go_wp2
  go_loop [8] (fun i => ∃ k : Int, m ≤ k ∧ k ≤ 12 ∧ i = .int .i64 k) (fun i => (intOf i).toNat)
  case atStart => exact ⟨12, m2, by omega, rfl⟩
  case round =>
    obtain ⟨k, hk1, hk2, rfl⟩ := hrel
    have hab := aheadM_bd y k (by omega) (by omega)
    obtain ⟨hab1, hab2⟩ := hab
    by_cases hkm : k = m
    · subst hkm
      have hnot : ¬ L < aheadM y k := by have := HL.out; omega
      go_wp2_with (first
        | (go_at_call 32; refine (ahead_of _ _ _ (by omega) (by omega) hA4).mono ?_; rintro e w1 ⟨rfl, hw⟩; rw [hw]; clear hw))
      (try simp only [Exit.inBlock, Exit.then]); refine bodyPost_ret (results_tmp4 rfl _ _ _) rfl ?_
      refine ⟨?_, by rw [HB0.out]; exact hB3⟩
      have hd : 1 + L - aheadM y k = d := by have := HL.out; omega
      show Ending.returned (.tuple #[.int .i64 y, .int .i64 k, .int .i64 (1 + L - aheadM y k), .int .i64 0]) = _
      rw [hd]
    · have hlt : L < aheadM y k := by
        have := HL.out
        have := HM.out
        have := aheadM_mono y (show m + 1 ≤ k by omega)
        have := HV.out.2.2.2.2.2
        omega
      go_wp2_with (first
        | (go_at_call 32; refine (ahead_of _ _ _ (by omega) (by omega) hA4).mono ?_; rintro e w1 ⟨rfl, hw⟩; rw [hw]; clear hw))
      go_round
      case rel => exact ⟨k - 1, by omega, by omega, rfl⟩
      case measure => simp [intOf]; omega
theorem Civil_no (n : Int) (w : World) (h1 : -9223372036854775808 ≤ n) (h2 : n ≤ 9223372036854775807) (hn : n < -719162 ∨ 2932896 < n) :
    Calls Tryz.prog 27 #[.int .i64 n] w fun e w' => e = .returned (.tuple #[.int .i64 0, .int .i64 0, .int .i64 0, .int .i64 3]) ∧ Below w.heap.size w w' := by
  have hl : newY 10000 = 2932897 := newY_last
  go_enter Tryz.func27, Tryz.ntmps27
  go_wp2
  have hc : (w.alloc (Obj.cells #[Value.int IntKind.i64 n] 2)).cell? ⟨w.heap.size, 0, none⟩ = some (.int .i64 n) := by
    rw [World.cell?_alloc_at _ _ _ _ (by simp)]; rfl
  have hB : Below w.heap.size w (w.alloc (Obj.cells #[Value.int IntKind.i64 n] 2)) := (Below.refl _ _).alloc (Nat.le_refl _) _
  generalize w.alloc (Obj.cells #[Value.int IntKind.i64 n] 2) = W at hc hB
  generalize hb0 : w.heap.size = B at hc hB
  have HB0 : Hid (w.heap.size = B) := hb0
  clear hb0
  by_cases hx : n < -719162
  · have g1 : decide (n < -719162) = true := decide_eq_true hx
    go_quiet (fail)
    go_wp2
    (try simp only [Exit.inBlock, Exit.then]); refine bodyPost_ret (results_tmp4 rfl _ _ _) rfl ?_
    exact ⟨rfl, by rw [HB0.out]; exact below_drewN hB nq⟩
  · have g1 : decide (n < -719162) = false := decide_eq_false hx
    have g2 : 2932897 ≤ n := by omega
    go_quiet ((go_at_call 33; exact Calls.quiet_of_same (newYear_any _ _ (by omega) (by omega))))
    go_wp2
    (try simp only [Exit.inBlock, Exit.then]); refine bodyPost_ret (results_tmp4 rfl _ _ _) rfl ?_
    exact ⟨rfl, by rw [HB0.out]; exact below_drewN hB nq⟩
end Go.Proofs.YtnklbeldheocmaaGreatDoor
/- A reader, and the contracts of its small methods: takes, skip, number. -/
namespace Go.Proofs.YtnklbeldheocmaaGreatDoor
open Go.RowKit
/-- All blocks but b are as they were. -/
structure Kept (b : Nat) (w w' : World) : Prop where
  os : w'.os = w.os
  tape : w'.tape = w.tape
  output : w'.output = w.output
  size : w.heap.size ≤ w'.heap.size
  block : ∀ k, k < w.heap.size → k ≠ b → w'.heap[k]? = w.heap[k]?
theorem Kept.refl (b : Nat) (w : World) : Kept b w w := ⟨rfl, rfl, rfl, Nat.le_refl _, fun _ _ _ => rfl⟩
theorem Kept.trans {b : Nat} {a c d : World} (h : Kept b a c) (k : Kept b c d) : Kept b a d :=
  ⟨k.os.trans h.os, k.tape.trans h.tape, k.output.trans h.output, Nat.le_trans h.size k.size, fun i hi hb => (k.block i (Nat.lt_of_lt_of_le hi h.size) hb).trans (h.block i hi hb)⟩
theorem Kept.of {b : Nat} {w w' : World} (h : Below w.heap.size w w') : Kept b w w' := ⟨h.os, h.tape, h.output, h.size, fun k hk _ => h.block k hk⟩
theorem Kept.set (b : Nat) (w : World) (v : Value) : Kept b w (w.setCell ⟨b, 0, none⟩ v) := by
  have h := (Below.refl 0 w).setCell (p := ⟨b, 0, none⟩) (Nat.zero_le _) v
  exact ⟨h.os, h.tape, h.output, h.size, fun k _ hb => Below.heap_setCell _ _ _ _ hb⟩
theorem Kept.below {b : Nat} {w w' : World} (h : Kept b w w') (B : Nat) (h1 : B ≤ b) (h2 : B ≤ w.heap.size) : Below B w w' :=
  ⟨h.os, h.tape, h.output, h.size, fun k hk => h.block k (by omega) (by omega)⟩
/-- The reader at b has l left; all other blocks are as they were in w0. -/
structure Rd (w0 : World) (b : Nat) (l : List UInt8) (w : World) : Prop where
  at_ : w.heap[b]? = some (.cells #[.string (str l)] 58 (0, 0))
  len : l.length ≤ 100000
  lo : 0 < b
  ah : Ahead w
  kept : Kept b w0 w
theorem Ahead.belowB {w w' : World} {b : Nat} (h : Ahead w) (hb : Below b w w') (hg : 0 < b) : Ahead w' := var?_below hb gAhead hg h
theorem Rd.lt {w0 w : World} {b : Nat} {l : List UInt8} (h : Rd w0 b l w) : b < w.heap.size := (Array.getElem?_eq_some_iff.1 h.at_).1
theorem Rd.cell {w0 w : World} {b : Nat} {l : List UInt8} (h : Rd w0 b l w) : w.cell? ⟨b, 0, none⟩ = some (.string (str l)) := Lib.cell_of_heap h.at_ 0
theorem Rd.free {w0 w : World} {b : Nat} {l : List UInt8} (h : Rd w0 b l w) : w.frozen? ⟨b, 0, none⟩ = false := Lib.frozen_of_heap h.at_ 0
theorem Rd.set {w0 w : World} {b : Nat} {l : List UInt8} (h : Rd w0 b l w) (r : List UInt8) (hr : r.length ≤ l.length) : Rd w0 b r (w.setCell ⟨b, 0, none⟩ (.string (str r))) := by
  have hb2 : Below b w (w.setCell ⟨b, 0, none⟩ (.string (str r))) := (Below.refl b w).setCell (Nat.le_refl _) _
  exact ⟨Go.Joins.block_setCell h.at_ _, Nat.le_trans hr h.len, h.lo, h.ah.belowB hb2 h.lo, h.kept.trans (Kept.set b w _)⟩
theorem Rd.step {w0 w w' : World} {b : Nat} {l : List UInt8} (h : Rd w0 b l w) (hb : Below w.heap.size w w') : Rd w0 b l w' :=
  ⟨(hb.block b h.lt).trans h.at_, h.len, h.lo, h.ah.below hb, h.kept.trans (Kept.of hb)⟩
theorem rd1_len {c : UInt8} {l r : List UInt8} (h : Dat.rd1 c l = some r) : r.length ≤ l.length := by
  rw [(Dat.rd1_iff c l r).1 h]; simp
theorem prefix_yes {c : UInt8} {l r : List UInt8} (h : Dat.rd1 c l = some r) : Lib.hasPrefix l [c] = true ∧ Lib.trimPrefix l [c] = r := by
  rw [(Dat.rd1_iff c l r).1 h]
  have e : Lib.hasPrefix (c :: r) [c] = true := by simp [Lib.hasPrefix, List.isPrefixOf]
  exact ⟨e, by unfold Lib.trimPrefix; rw [if_pos e]; rfl⟩
theorem prefix_no {c : UInt8} {l : List UInt8} (h : Dat.rd1 c l = none) : Lib.hasPrefix l [c] = false ∧ Lib.trimPrefix l [c] = l := by
  have e : Lib.hasPrefix l [c] = false := by
    cases l with
    | nil => rfl
    | cons x t =>
      replace h : (if x = c then some t else none) = none := h
      by_cases hx : x = c
      · rw [if_pos hx] at h; cases h
      · have : ¬ c = x := fun e => hx e.symm
        simp [Lib.hasPrefix, List.isPrefixOf, this]
  exact ⟨e, by unfold Lib.trimPrefix; rw [e]; rfl⟩
theorem CutPrefix_one (l : List UInt8) (c : UInt8) (w : World) :
    Calls Tryz.prog 51 #[.string (str l), .string ⟨#[c]⟩] w fun e w' => e = .returned (.tuple #[.string (str (Lib.trimPrefix l [c])), .bool (Lib.hasPrefix l [c])]) ∧ w' = w := by
  have h := Tryz.strings_CutPrefix (str l) ⟨#[c]⟩ w
  rw [str_data] at h
  exact h
theorem takes_yes {w0 w : World} {b : Nat} {l r : List UInt8} (c : UInt8) (hL : Rd w0 b l w) (h : Dat.rd1 c l = some r) :
    Calls Tryz.prog 31 #[.pointer (some ⟨b, 0, none⟩), .string ⟨#[c]⟩] w fun e w' => e = .returned (.bool true) ∧ Rd w0 b r w' := by
  have hp := prefix_yes h
  have hc := CutPrefix_one l c w
  rw [hp.1, hp.2] at hc
  have hR := hL.set r (rd1_len h)
  have hcell := hL.cell
  have hfree := hL.free
  clear hp
  go_enter Tryz.func31, Tryz.ntmps31
  go_wp2_with (first
    | (go_at_call 51; refine hc.mono ?_; rintro e w1 ⟨rfl, hw⟩; rw [hw]; clear hw))
  go_ret
  exact ⟨rfl, hR⟩
theorem takes_no {w0 w : World} {b : Nat} {l : List UInt8} (c : UInt8) (hL : Rd w0 b l w) (h : Dat.rd1 c l = none) :
    Calls Tryz.prog 31 #[.pointer (some ⟨b, 0, none⟩), .string ⟨#[c]⟩] w fun e w' => e = .returned (.bool false) ∧ Rd w0 b l w' := by
  have hp := prefix_no h
  have hc := CutPrefix_one l c w
  rw [hp.1, hp.2] at hc
  have hR := hL.set l (Nat.le_refl _)
  have hcell := hL.cell
  have hfree := hL.free
  clear hp
  go_enter Tryz.func31, Tryz.ntmps31
  go_wp2_with (first
    | (go_at_call 51; refine hc.mono ?_; rintro e w1 ⟨rfl, hw⟩; rw [hw]; clear hw))
  go_ret
  exact ⟨rfl, hR⟩
theorem drop_len (f : UInt8 → Bool) : ∀ l : List UInt8, (l.dropWhile f).length ≤ l.length
  | [] => Nat.le_refl _
  | c :: l => by
    cases h : f c
    · rw [List.dropWhile_cons_of_neg (by simp [h])]; exact Nat.le_refl _
    · rw [List.dropWhile_cons_of_pos h]
      have := drop_len f l
      simp; omega
theorem TrimBlank_any (l : List UInt8) (w : World) :
    Calls Tryz.prog 56 #[.string (str l), .string ⟨#[32]⟩] w fun e w' => e = .returned (.string (str (l.dropWhile Dat.sp))) ∧ Below w.heap.size w w' := by
  have h := Tryz.strings_TrimLeft_one (str l) 32 (by decide) w
  rw [str_data] at h
  refine h.mono ?_
  rintro e w' ⟨rfl, rfl⟩
  exact ⟨rfl, Below.refl _ _⟩
theorem dig_set (c : UInt8) : [48, 49, 50, 51, 52, 53, 54, 55, 56, 57].contains c = Dat.dgB c := by
  have : ∀ n : Fin 256, [48, 49, 50, 51, 52, 53, 54, 55, 56, 57].contains (UInt8.ofNat n.val) = Dat.dgB (UInt8.ofNat n.val) := by decide +kernel
  have h := this ⟨c.toNat, c.toNat_lt⟩
  simpa using h
theorem TrimDig_any (l : List UInt8) (w : World) :
    Calls Tryz.prog 56 #[.string (str l), .string ⟨#[48, 49, 50, 51, 52, 53, 54, 55, 56, 57]⟩] w fun e w' => e = .returned (.string (str (l.dropWhile Dat.dgB))) ∧ Below w.heap.size w w' := by
  have h := Any.strings_TrimLeft_laid Tryz.lays161 (by kernel_rfl) (str l) ⟨#[48, 49, 50, 51, 52, 53, 54, 55, 56, 57]⟩ w (by decide) (by
    intro j b hb
    have : b ∈ [48, 49, 50, 51, 52, 53, 54, 55, 56, 57] := List.mem_of_getElem? hb
    simp only [List.mem_cons, List.not_mem_nil, or_false] at this
    rcases this with rfl | rfl | rfl | rfl | rfl | rfl | rfl | rfl | rfl | rfl <;> decide)
  rw [str_data] at h
  have e : Lib.trimLeftS l [48, 49, 50, 51, 52, 53, 54, 55, 56, 57] = l.dropWhile Dat.dgB := by
    unfold Lib.trimLeftS
    congr 1
    funext c
    exact dig_set c
  rw [← e]
  exact h
set_option maxHeartbeats 400000 in
theorem skip_any {w0 w : World} {b : Nat} {l : List UInt8} (cs : ByteArray) (r : List UInt8) (hL : Rd w0 b l w) (hr : r.length ≤ l.length)
    (hc : ∀ w, Calls Tryz.prog 56 #[.string (str l), .string cs] w fun e w' => e = .returned (.string (str r)) ∧ Below w.heap.size w w') :
    Calls Tryz.prog 44 #[.pointer (some ⟨b, 0, none⟩), .string cs] w fun e w' => e = .returned (.int .i64 ((l.length : Int) - (r.length : Int))) ∧ Rd w0 b r w' := by
  have hcell := hL.cell
  have hfree := hL.free
  have hz := hL.len
  have hz2 : (str l).size = l.length := str_size l
  have hz3 : (str r).size = r.length := str_size r
  go_enter Tryz.func44, Tryz.ntmps44
  go_wp2_with (first
    | (go_at_call 56; refine (hc _).mono ?_; rintro e w1 ⟨rfl, hb⟩; have hL1 := hL.step hb; have hcell1 := hL1.cell; have hfree1 := hL1.free; have hR := hL1.set r hr; clear hb hcell hfree))
  go_ret
  exact ⟨by go_num, hR⟩
set_option maxHeartbeats 400000 in
theorem number_yes {w0 w : World} {b : Nat} {l : List UInt8} {v : Int} (d lo hi : Int) (k : Nat) (hd : d = (k : Int)) (hL : Rd w0 b l w) (h : Dat.num? k lo hi l = some v) (hk : k ≤ 10) (h1 : hi ≤ 9999) :
    Calls Tryz.prog 30 #[.pointer (some ⟨b, 0, none⟩), .int .i64 d, .int .i64 lo, .int .i64 hi] w fun e w' => e = .returned (.tuple #[.int .i64 v, .bool true]) ∧ Rd w0 b (l.drop k) w' := by
  subst hd
  have hcell := hL.cell
  have hfree := hL.free
  have hz := hL.len
  have hR := hL.set (l.drop k) (by simp)
  have hz2 : (str l).size = l.length := str_size l
  unfold Dat.num? at h
  by_cases hlen : l.length < k
  · rw [if_pos hlen] at h; cases h
  rw [if_neg hlen] at h
  by_cases hbad : Asc.numErr (l.take k) hi ≠ 0 ∨ Asc.numNum (l.take k) hi < lo
  · rw [if_pos hbad] at h; cases h
  rw [if_neg hbad] at h
  have hv := Option.some.inj h
  have e0 : Asc.numErr (l.take k) hi = 0 := by
    by_cases hy : Asc.numErr (l.take k) hi = 0
    · exact hy
    · exact absurd (.inl hy) hbad
  have hlo : ¬ v < lo := by
    rw [← hv]
    exact fun hy => hbad (.inr hy)
  clear h hbad
  have hcut : (str l).extract 0 k = str (l.take k) := str_to l k
  have hcut2 : (str l).extract k l.length = str (l.drop k) := str_from l k
  have hN := Number_any (str (l.take k)) hi w (by rw [str_size, List.length_take]; omega) (by omega)
  rw [str_data, e0, hv] at hN
  go_enter Tryz.func30, Tryz.ntmps30
  go_wp2_with (first
    | (go_at_call 50; (try rw [hcut]); refine hN.mono ?_; rintro e w1 ⟨rfl, hw⟩; rw [hw]; clear hw))
  go_ret2
  exact ⟨rfl, hR⟩
set_option maxHeartbeats 400000 in
theorem number_no {w0 w : World} {b : Nat} {l : List UInt8} (d lo hi : Int) (k : Nat) (hd : d = (k : Int)) (hL : Rd w0 b l w) (h : Dat.num? k lo hi l = none) (hk : k ≤ 10) (h1 : hi ≤ 9999) :
    Calls Tryz.prog 30 #[.pointer (some ⟨b, 0, none⟩), .int .i64 d, .int .i64 lo, .int .i64 hi] w fun e w' => e = .returned (.tuple #[.int .i64 0, .bool false]) ∧ Rd w0 b l w' := by
  subst hd
  have hcell := hL.cell
  have hz := hL.len
  have hz2 : (str l).size = l.length := str_size l
  unfold Dat.num? at h
  by_cases hlen : l.length < k
  · have hlenI : (l.length : Int) < (k : Int) := by omega
    go_enter Tryz.func30, Tryz.ntmps30
    go_wp2
    go_ret2
    exact ⟨rfl, hL⟩
  rw [if_neg hlen] at h
  have hcut : (str l).extract 0 k = str (l.take k) := str_to l k
  have hN := Number_any (str (l.take k)) hi w (by rw [str_size, List.length_take]; omega) (by omega)
  rw [str_data] at hN
  by_cases e0 : Asc.numErr (l.take k) hi = 0
  · by_cases hlo : Asc.numNum (l.take k) hi < lo
    · rw [e0] at hN
      clear h e0
      go_enter Tryz.func30, Tryz.ntmps30
      go_wp2_with (first
        | (go_at_call 50; (try rw [hcut]); refine hN.mono ?_; rintro e w1 ⟨rfl, hw⟩; rw [hw]; clear hw))
      go_ret2
      exact ⟨rfl, hL⟩
    · rw [if_neg (by rintro (hy | hy); exact hy e0; exact hlo hy)] at h
      cases h
  · clear h
    generalize Asc.numErr (l.take k) hi = er at hN e0
    go_enter Tryz.func30, Tryz.ntmps30
    go_wp2_with (first
      | (go_at_call 50; (try rw [hcut]); refine hN.mono ?_; rintro e w1 ⟨rfl, hw⟩; rw [hw]; clear hw))
    go_ret2
    exact ⟨rfl, hL⟩
end Go.Proofs.YtnklbeldheocmaaGreatDoor
