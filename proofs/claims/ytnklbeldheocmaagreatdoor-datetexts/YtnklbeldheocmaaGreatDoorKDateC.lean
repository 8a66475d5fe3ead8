/- Texts laid as one. -/
import Derived.Test.YtnklbeldheocmaaGreatDoorKDateB
/- Contracts of the reader's day, second and clock. -/
namespace Go.Proofs.YtnklbeldheocmaaGreatDoor
open Go.RowKit
theorem num_bds {k : Nat} {lo hi v : Int} {l : List UInt8} (h0 : 0 ≤ hi) (h : Dat.num? k lo hi l = some v) : lo ≤ v ∧ v ≤ hi := ((Dat.num?_iff h0).1 h).2.2.2
theorem aheadM_13 (y : Int) : aheadM y 13 = Dat.yearN y := Dat.ms_year y
theorem num_one (y : Int) : Dat.num y 1 1 = newY y := by
  rw [num_parts]
  have : aheadM y 1 = 0 := rfl
  omega
set_option maxRecDepth 100000 in
set_option maxHeartbeats 1000000 in
theorem day_yes {w0 w : World} {b : Nat} {l r : List UInt8} {v : Int} (hL : Rd w0 b l w) (h : Dat.dayP l = some (v, r)) :
    Calls Tryz.prog 14 #[.pointer (some ⟨b, 0, none⟩)] w fun e w' => e = .returned (.tuple #[.int .i64 v, .bool true]) ∧ Rd w0 b r w' := by
  unfold Dat.dayP at h
  split at h
  · cases h
  rename_i y h1
  obtain ⟨y1, y2⟩ := num_bds (by omega) h1
  have b13 := aheadM_bd y 13 (by omega) (by omega)
  have bY := newY_bd y y1 (by omega)
  obtain ⟨b131, b132⟩ := b13
  obtain ⟨bY1, bY2⟩ := bY
  split at h
  · cases h
  rename_i l2 h2
  split at h
  · rename_i n h3
    rw [← aheadM_13] at h3
    have hx : v = newY y + (n - 1) ∧ r = l2.drop 3 := by
      have := Option.some.inj h
      simp at this
      rw [num_one] at this
      exact ⟨this.1.symm, this.2.symm⟩
    obtain ⟨rfl, rfl⟩ := hx
    obtain ⟨n1, n2⟩ := num_bds (by omega) h3
    clear h
    have c0 := fun (w : World) hL => number_yes (w0 := w0) (w := w) (b := b) 4 _ _ 4 rfl hL h1 (by omega) (by omega)
    have c1 := fun (w : World) hL => takes_yes (w0 := w0) (w := w) (b := b) 45 hL h2
    have c3 := fun (w : World) hL => number_yes (w0 := w0) (w := w) (b := b) 3 _ _ 3 rfl hL h3 (by omega) (by omega)
    go_enter Tryz.func14, Tryz.ntmps14
    go_wp2_with (first
      | (go_at_call_of 30 (Value.int .i64 (9999)); refine (c0 _ hL).mono ?_; rintro e wn ⟨rfl, hR⟩; replace hL := hR; clear hR)
      | (go_at_call_of 31 (Value.string ⟨#[45]⟩); refine (c1 _ hL).mono ?_; rintro e wn ⟨rfl, hR⟩; replace hL := hR; clear hR)
      | (go_at_call 32; refine (ahead_of _ _ _ (by omega) (by omega) hL.ah).mono ?_; rintro e wn ⟨rfl, hw⟩; rw [hw]; clear hw)
      | (go_at_call_of 30 (Value.int .i64 (aheadM y 13)); refine (c3 _ hL).mono ?_; rintro e wn ⟨rfl, hR⟩; replace hL := hR; clear hR)
      | (go_at_call 33; refine (newYear_any _ _ (by omega) (by omega)).mono ?_; rintro e wn ⟨rfl, hw⟩; rw [hw]; clear hw))
    go_ret2
    exact ⟨rfl, hL⟩
  · rename_i h3
    rw [← aheadM_13] at h3
    split at h
    · cases h
    rename_i m h4
    split at h
    · cases h
    rename_i l4 h5
    split at h
    · cases h
    rename_i n h6
    obtain ⟨n1, n2⟩ := num_bds (by omega) h6
    split at h
    · rename_i hv
      have hx : v = Dat.num y m n ∧ r = l4.drop 2 := by
        have := Option.some.inj h
        simp at this
        exact ⟨this.1.symm, this.2.symm⟩
      obtain ⟨rfl, rfl⟩ := hx
      have hd := days_yes hv
      have hd1 := hd.1
      have hd2 := hd.2
      clear h hd hv
      have c0 := fun (w : World) hL => number_yes (w0 := w0) (w := w) (b := b) 4 _ _ 4 rfl hL h1 (by omega) (by omega)
      have c1 := fun (w : World) hL => takes_yes (w0 := w0) (w := w) (b := b) 45 hL h2
      have c3 := fun (w : World) hL => number_no (w0 := w0) (w := w) (b := b) 3 _ _ 3 rfl hL h3 (by omega) (by omega)
      have c4 := fun (w : World) hL => number_yes (w0 := w0) (w := w) (b := b) 2 _ _ 2 rfl hL h4 (by omega) (by omega)
      have c5 := fun (w : World) hL => takes_yes (w0 := w0) (w := w) (b := b) 45 hL h5
      have c6 := fun (w : World) hL => number_yes (w0 := w0) (w := w) (b := b) 2 _ _ 2 rfl hL h6 (by omega) (by omega)
      go_enter Tryz.func14, Tryz.ntmps14
      go_wp2_with (first
        | (go_at_call_of 30 (Value.int .i64 (9999)); refine (c0 _ hL).mono ?_; rintro e wn ⟨rfl, hR⟩; replace hL := hR; clear hR)
        | (go_at_call_of 31 (Value.string ⟨#[45]⟩); refine (c1 _ hL).mono ?_; rintro e wn ⟨rfl, hR⟩; replace hL := hR; clear hR)
        | (go_at_call 32; refine (ahead_of _ _ _ (by omega) (by omega) hL.ah).mono ?_; rintro e wn ⟨rfl, hw⟩; rw [hw]; clear hw)
        | (go_at_call_of 30 (Value.int .i64 (aheadM y 13)); refine (c3 _ hL).mono ?_; rintro e wn ⟨rfl, hR⟩; replace hL := hR; clear hR)
        | (go_at_call_of 30 (Value.int .i64 (12)); refine (c4 _ hL).mono ?_; rintro e wn ⟨rfl, hR⟩; replace hL := hR; clear hR)
        | (go_at_call_of 31 (Value.string ⟨#[45]⟩); refine (c5 _ hL).mono ?_; rintro e wn ⟨rfl, hR⟩; replace hL := hR; clear hR)
        | (go_at_call_of 30 (Value.int .i64 (31)); refine (c6 _ hL).mono ?_; rintro e wn ⟨rfl, hR⟩; replace hL := hR; clear hR)
        | (go_at_call 34; refine (Days_any _ _ _ _ hL.ah (by omega) (by omega)).mono ?_; rintro e wn ⟨rfl, hw⟩; rw [hw]; clear hw))
      go_ret2
      exact ⟨rfl, hL⟩
    · cases h
set_option maxRecDepth 100000 in
set_option maxHeartbeats 1000000 in
theorem day_no {w0 w : World} {b : Nat} {l : List UInt8} (hL : Rd w0 b l w) (h : Dat.dayP l = none) :
    Calls Tryz.prog 14 #[.pointer (some ⟨b, 0, none⟩)] w fun e w' => e = .returned (.tuple #[.int .i64 0, .bool false]) ∧ ∃ r, Rd w0 b r w' := by
  unfold Dat.dayP at h
  split at h
  · rename_i h1
    clear h
    have c0 := fun (w : World) hL => number_no (w0 := w0) (w := w) (b := b) 4 _ _ 4 rfl hL h1 (by omega) (by omega)
    go_enter Tryz.func14, Tryz.ntmps14
    go_wp2_with (first
      | (go_at_call_of 30 (Value.int .i64 (9999)); refine (c0 _ hL).mono ?_; rintro e wn ⟨rfl, hR⟩; replace hL := hR; clear hR))
    go_ret2
    exact ⟨rfl, _, hL⟩
  rename_i y h1
  obtain ⟨y1, y2⟩ := num_bds (by omega) h1
  have b13 := aheadM_bd y 13 (by omega) (by omega)
  obtain ⟨b131, b132⟩ := b13
  split at h
  · rename_i h2
    clear h
    have c0 := fun (w : World) hL => number_yes (w0 := w0) (w := w) (b := b) 4 _ _ 4 rfl hL h1 (by omega) (by omega)
    have c1 := fun (w : World) hL => takes_no (w0 := w0) (w := w) (b := b) 45 hL h2
    go_enter Tryz.func14, Tryz.ntmps14
    go_wp2_with (first
      | (go_at_call_of 30 (Value.int .i64 (9999)); refine (c0 _ hL).mono ?_; rintro e wn ⟨rfl, hR⟩; replace hL := hR; clear hR)
      | (go_at_call_of 31 (Value.string ⟨#[45]⟩); refine (c1 _ hL).mono ?_; rintro e wn ⟨rfl, hR⟩; replace hL := hR; clear hR))
    go_ret2
    exact ⟨rfl, _, hL⟩
  rename_i l2 h2
  split at h
  · cases h
  rename_i h3
  rw [← aheadM_13] at h3
  split at h
  · rename_i h4
    clear h
    have c0 := fun (w : World) hL => number_yes (w0 := w0) (w := w) (b := b) 4 _ _ 4 rfl hL h1 (by omega) (by omega)
    have c1 := fun (w : World) hL => takes_yes (w0 := w0) (w := w) (b := b) 45 hL h2
    have c3 := fun (w : World) hL => number_no (w0 := w0) (w := w) (b := b) 3 _ _ 3 rfl hL h3 (by omega) (by omega)
    have c4 := fun (w : World) hL => number_no (w0 := w0) (w := w) (b := b) 2 _ _ 2 rfl hL h4 (by omega) (by omega)
    go_enter Tryz.func14, Tryz.ntmps14
    go_wp2_with (first
      | (go_at_call_of 30 (Value.int .i64 (9999)); refine (c0 _ hL).mono ?_; rintro e wn ⟨rfl, hR⟩; replace hL := hR; clear hR)
      | (go_at_call_of 31 (Value.string ⟨#[45]⟩); refine (c1 _ hL).mono ?_; rintro e wn ⟨rfl, hR⟩; replace hL := hR; clear hR)
      | (go_at_call 32; refine (ahead_of _ _ _ (by omega) (by omega) hL.ah).mono ?_; rintro e wn ⟨rfl, hw⟩; rw [hw]; clear hw)
      | (go_at_call_of 30 (Value.int .i64 (aheadM y 13)); refine (c3 _ hL).mono ?_; rintro e wn ⟨rfl, hR⟩; replace hL := hR; clear hR)
      | (go_at_call_of 30 (Value.int .i64 (12)); refine (c4 _ hL).mono ?_; rintro e wn ⟨rfl, hR⟩; replace hL := hR; clear hR))
    go_ret2
    exact ⟨rfl, _, hL⟩
  rename_i m h4
  split at h
  · rename_i h5
    clear h
    have c0 := fun (w : World) hL => number_yes (w0 := w0) (w := w) (b := b) 4 _ _ 4 rfl hL h1 (by omega) (by omega)
    have c1 := fun (w : World) hL => takes_yes (w0 := w0) (w := w) (b := b) 45 hL h2
    have c3 := fun (w : World) hL => number_no (w0 := w0) (w := w) (b := b) 3 _ _ 3 rfl hL h3 (by omega) (by omega)
    have c4 := fun (w : World) hL => number_yes (w0 := w0) (w := w) (b := b) 2 _ _ 2 rfl hL h4 (by omega) (by omega)
    have c5 := fun (w : World) hL => takes_no (w0 := w0) (w := w) (b := b) 45 hL h5
    go_enter Tryz.func14, Tryz.ntmps14
    go_wp2_with (first
      | (go_at_call_of 30 (Value.int .i64 (9999)); refine (c0 _ hL).mono ?_; rintro e wn ⟨rfl, hR⟩; replace hL := hR; clear hR)
      | (go_at_call_of 31 (Value.string ⟨#[45]⟩); refine (c1 _ hL).mono ?_; rintro e wn ⟨rfl, hR⟩; replace hL := hR; clear hR)
      | (go_at_call 32; refine (ahead_of _ _ _ (by omega) (by omega) hL.ah).mono ?_; rintro e wn ⟨rfl, hw⟩; rw [hw]; clear hw)
      | (go_at_call_of 30 (Value.int .i64 (aheadM y 13)); refine (c3 _ hL).mono ?_; rintro e wn ⟨rfl, hR⟩; replace hL := hR; clear hR)
      | (go_at_call_of 30 (Value.int .i64 (12)); refine (c4 _ hL).mono ?_; rintro e wn ⟨rfl, hR⟩; replace hL := hR; clear hR)
      | (go_at_call_of 31 (Value.string ⟨#[45]⟩); refine (c5 _ hL).mono ?_; rintro e wn ⟨rfl, hR⟩; replace hL := hR; clear hR))
    go_ret2
    exact ⟨rfl, _, hL⟩
  rename_i l4 h5
  split at h
  · rename_i h6
    clear h
    have c0 := fun (w : World) hL => number_yes (w0 := w0) (w := w) (b := b) 4 _ _ 4 rfl hL h1 (by omega) (by omega)
    have c1 := fun (w : World) hL => takes_yes (w0 := w0) (w := w) (b := b) 45 hL h2
    have c3 := fun (w : World) hL => number_no (w0 := w0) (w := w) (b := b) 3 _ _ 3 rfl hL h3 (by omega) (by omega)
    have c4 := fun (w : World) hL => number_yes (w0 := w0) (w := w) (b := b) 2 _ _ 2 rfl hL h4 (by omega) (by omega)
    have c5 := fun (w : World) hL => takes_yes (w0 := w0) (w := w) (b := b) 45 hL h5
    have c6 := fun (w : World) hL => number_no (w0 := w0) (w := w) (b := b) 2 _ _ 2 rfl hL h6 (by omega) (by omega)
    go_enter Tryz.func14, Tryz.ntmps14
    go_wp2_with (first
      | (go_at_call_of 30 (Value.int .i64 (9999)); refine (c0 _ hL).mono ?_; rintro e wn ⟨rfl, hR⟩; replace hL := hR; clear hR)
      | (go_at_call_of 31 (Value.string ⟨#[45]⟩); refine (c1 _ hL).mono ?_; rintro e wn ⟨rfl, hR⟩; replace hL := hR; clear hR)
      | (go_at_call 32; refine (ahead_of _ _ _ (by omega) (by omega) hL.ah).mono ?_; rintro e wn ⟨rfl, hw⟩; rw [hw]; clear hw)
      | (go_at_call_of 30 (Value.int .i64 (aheadM y 13)); refine (c3 _ hL).mono ?_; rintro e wn ⟨rfl, hR⟩; replace hL := hR; clear hR)
      | (go_at_call_of 30 (Value.int .i64 (12)); refine (c4 _ hL).mono ?_; rintro e wn ⟨rfl, hR⟩; replace hL := hR; clear hR)
      | (go_at_call_of 31 (Value.string ⟨#[45]⟩); refine (c5 _ hL).mono ?_; rintro e wn ⟨rfl, hR⟩; replace hL := hR; clear hR)
      | (go_at_call_of 30 (Value.int .i64 (31)); refine (c6 _ hL).mono ?_; rintro e wn ⟨rfl, hR⟩; replace hL := hR; clear hR))
    go_ret2
    exact ⟨rfl, _, hL⟩
  rename_i n h6
  obtain ⟨n1, n2⟩ := num_bds (by omega) h6
  split at h
  · cases h
  · rename_i hv
    have hd := days_no hv
    have hd1 := hd.1
    have hd2 := hd.2
    clear h hd hv
    have c0 := fun (w : World) hL => number_yes (w0 := w0) (w := w) (b := b) 4 _ _ 4 rfl hL h1 (by omega) (by omega)
    have c1 := fun (w : World) hL => takes_yes (w0 := w0) (w := w) (b := b) 45 hL h2
    have c3 := fun (w : World) hL => number_no (w0 := w0) (w := w) (b := b) 3 _ _ 3 rfl hL h3 (by omega) (by omega)
    have c4 := fun (w : World) hL => number_yes (w0 := w0) (w := w) (b := b) 2 _ _ 2 rfl hL h4 (by omega) (by omega)
    have c5 := fun (w : World) hL => takes_yes (w0 := w0) (w := w) (b := b) 45 hL h5
    have c6 := fun (w : World) hL => number_yes (w0 := w0) (w := w) (b := b) 2 _ _ 2 rfl hL h6 (by omega) (by omega)
    go_enter Tryz.func14, Tryz.ntmps14
    go_wp2_with (first
      | (go_at_call_of 30 (Value.int .i64 (9999)); refine (c0 _ hL).mono ?_; rintro e wn ⟨rfl, hR⟩; replace hL := hR; clear hR)
      | (go_at_call_of 31 (Value.string ⟨#[45]⟩); refine (c1 _ hL).mono ?_; rintro e wn ⟨rfl, hR⟩; replace hL := hR; clear hR)
      | (go_at_call 32; refine (ahead_of _ _ _ (by omega) (by omega) hL.ah).mono ?_; rintro e wn ⟨rfl, hw⟩; rw [hw]; clear hw)
      | (go_at_call_of 30 (Value.int .i64 (aheadM y 13)); refine (c3 _ hL).mono ?_; rintro e wn ⟨rfl, hR⟩; replace hL := hR; clear hR)
      | (go_at_call_of 30 (Value.int .i64 (12)); refine (c4 _ hL).mono ?_; rintro e wn ⟨rfl, hR⟩; replace hL := hR; clear hR)
      | (go_at_call_of 31 (Value.string ⟨#[45]⟩); refine (c5 _ hL).mono ?_; rintro e wn ⟨rfl, hR⟩; replace hL := hR; clear hR)
      | (go_at_call_of 30 (Value.int .i64 (31)); refine (c6 _ hL).mono ?_; rintro e wn ⟨rfl, hR⟩; replace hL := hR; clear hR)
      | (go_at_call 34; refine (Days_any _ _ _ _ hL.ah (by omega) (by omega)).mono ?_; rintro e wn ⟨rfl, hw⟩; rw [hw]; clear hw))
    go_ret2
    exact ⟨rfl, _, hL⟩
end Go.Proofs.YtnklbeldheocmaaGreatDoor
/- Contracts of the reader's second and clock. -/
namespace Go.Proofs.YtnklbeldheocmaaGreatDoor
open Go.RowKit
set_option maxRecDepth 100000 in
set_option maxHeartbeats 1000000 in
theorem second_yes {w0 w : World} {b : Nat} {l r : List UInt8} {v : Int} (hL : Rd w0 b l w) (h : Dat.secP l = some (v, r)) :
    Calls Tryz.prog 39 #[.pointer (some ⟨b, 0, none⟩)] w fun e w' => e = .returned (.tuple #[.int .i64 v, .bool true]) ∧ Rd w0 b r w' := by
  unfold Dat.secP at h
  split at h
  · cases h
  rename_i s h1
  obtain ⟨s1, s2⟩ := num_bds (by omega) h1
  split at h
  · rename_i h2
    have hx : v = min s 59 ∧ r = l.drop 2 := by
      have := Option.some.inj h
      simp at this
      exact ⟨this.1.symm, this.2.symm⟩
    obtain ⟨rfl, rfl⟩ := hx
    clear h
    by_cases hs : s ≤ 59
    · have e : min s 59 = s := by omega
      rw [e]
      have c0 := fun (w : World) hL => number_yes (w0 := w0) (w := w) (b := b) 2 _ _ 2 rfl hL h1 (by omega) (by omega)
      have c1 := fun (w : World) hL => takes_no (w0 := w0) (w := w) (b := b) 46 hL h2
      go_enter Tryz.func39, Tryz.ntmps39
      go_wp2_with (first
        | (go_at_call_of 30 (Value.int .i64 (60)); refine (c0 _ hL).mono ?_; rintro e wn ⟨rfl, hR⟩; replace hL := hR; clear hR)
        | (go_at_call_of 31 (Value.string ⟨#[46]⟩); refine (c1 _ hL).mono ?_; rintro e wn ⟨rfl, hR⟩; replace hL := hR; clear hR))
      go_ret2
      exact ⟨rfl, hL⟩
    · have e : min s 59 = 59 := by omega
      rw [e]
      have c0 := fun (w : World) hL => number_yes (w0 := w0) (w := w) (b := b) 2 _ _ 2 rfl hL h1 (by omega) (by omega)
      have c1 := fun (w : World) hL => takes_no (w0 := w0) (w := w) (b := b) 46 hL h2
      go_enter Tryz.func39, Tryz.ntmps39
      go_wp2_with (first
        | (go_at_call_of 30 (Value.int .i64 (60)); refine (c0 _ hL).mono ?_; rintro e wn ⟨rfl, hR⟩; replace hL := hR; clear hR)
        | (go_at_call_of 31 (Value.string ⟨#[46]⟩); refine (c1 _ hL).mono ?_; rintro e wn ⟨rfl, hR⟩; replace hL := hR; clear hR))
      go_ret2
      exact ⟨rfl, hL⟩
  · rename_i q h2
    split at h
    · cases h
    rename_i hne
    have hx : v = min s 59 ∧ r = q.dropWhile Dat.dgB := by
      have := Option.some.inj h
      simp at this
      exact ⟨this.1.symm, this.2.symm⟩
    obtain ⟨rfl, rfl⟩ := hx
    have hdl := drop_len Dat.dgB q
    have hneI : ¬ ((q.length : Int) - ((q.dropWhile Dat.dgB).length : Int) = 0) := by omega
    clear h hne hdl
    by_cases hs : s ≤ 59
    · have e : min s 59 = s := by omega
      rw [e]
      have c0 := fun (w : World) hL => number_yes (w0 := w0) (w := w) (b := b) 2 _ _ 2 rfl hL h1 (by omega) (by omega)
      have c1 := fun (w : World) hL => takes_yes (w0 := w0) (w := w) (b := b) 46 hL h2
      have c2 := fun (w : World) (hL : Rd w0 b (q) w) => skip_any _ _ hL (drop_len Dat.dgB _) (fun w => TrimDig_any _ w)
      go_enter Tryz.func39, Tryz.ntmps39
      go_wp2_with (first
        | (go_at_call_of 30 (Value.int .i64 (60)); refine (c0 _ hL).mono ?_; rintro e wn ⟨rfl, hR⟩; replace hL := hR; clear hR)
        | (go_at_call_of 31 (Value.string ⟨#[46]⟩); refine (c1 _ hL).mono ?_; rintro e wn ⟨rfl, hR⟩; replace hL := hR; clear hR)
        | (go_at_call 44; refine (c2 _ hL).mono ?_; rintro e wn ⟨rfl, hR⟩; replace hL := hR; clear hR))
      go_ret2
      exact ⟨rfl, hL⟩
    · have e : min s 59 = 59 := by omega
      rw [e]
      have c0 := fun (w : World) hL => number_yes (w0 := w0) (w := w) (b := b) 2 _ _ 2 rfl hL h1 (by omega) (by omega)
      have c1 := fun (w : World) hL => takes_yes (w0 := w0) (w := w) (b := b) 46 hL h2
      have c2 := fun (w : World) (hL : Rd w0 b (q) w) => skip_any _ _ hL (drop_len Dat.dgB _) (fun w => TrimDig_any _ w)
      go_enter Tryz.func39, Tryz.ntmps39
      go_wp2_with (first
        | (go_at_call_of 30 (Value.int .i64 (60)); refine (c0 _ hL).mono ?_; rintro e wn ⟨rfl, hR⟩; replace hL := hR; clear hR)
        | (go_at_call_of 31 (Value.string ⟨#[46]⟩); refine (c1 _ hL).mono ?_; rintro e wn ⟨rfl, hR⟩; replace hL := hR; clear hR)
        | (go_at_call 44; refine (c2 _ hL).mono ?_; rintro e wn ⟨rfl, hR⟩; replace hL := hR; clear hR))
      go_ret2
      exact ⟨rfl, hL⟩
set_option maxRecDepth 100000 in
set_option maxHeartbeats 1000000 in
theorem second_no {w0 w : World} {b : Nat} {l : List UInt8} (hL : Rd w0 b l w) (h : Dat.secP l = none) :
    Calls Tryz.prog 39 #[.pointer (some ⟨b, 0, none⟩)] w fun e w' => e = .returned (.tuple #[.int .i64 0, .bool false]) ∧ ∃ r, Rd w0 b r w' := by
  unfold Dat.secP at h
  split at h
  · rename_i h1
    clear h
    have c0 := fun (w : World) hL => number_no (w0 := w0) (w := w) (b := b) 2 _ _ 2 rfl hL h1 (by omega) (by omega)
    go_enter Tryz.func39, Tryz.ntmps39
    go_wp2_with (first
      | (go_at_call_of 30 (Value.int .i64 (60)); refine (c0 _ hL).mono ?_; rintro e wn ⟨rfl, hR⟩; replace hL := hR; clear hR))
    go_ret2
    exact ⟨rfl, _, hL⟩
  rename_i s h1
  split at h
  · cases h
  rename_i q h2
  split at h
  · rename_i hne
    have hneI : ((q.length : Int) - ((q.dropWhile Dat.dgB).length : Int) = 0) := by omega
    clear h hne
    have c0 := fun (w : World) hL => number_yes (w0 := w0) (w := w) (b := b) 2 _ _ 2 rfl hL h1 (by omega) (by omega)
    have c1 := fun (w : World) hL => takes_yes (w0 := w0) (w := w) (b := b) 46 hL h2
    have c2 := fun (w : World) (hL : Rd w0 b (q) w) => skip_any _ _ hL (drop_len Dat.dgB _) (fun w => TrimDig_any _ w)
    go_enter Tryz.func39, Tryz.ntmps39
    go_wp2_with (first
      | (go_at_call_of 30 (Value.int .i64 (60)); refine (c0 _ hL).mono ?_; rintro e wn ⟨rfl, hR⟩; replace hL := hR; clear hR)
      | (go_at_call_of 31 (Value.string ⟨#[46]⟩); refine (c1 _ hL).mono ?_; rintro e wn ⟨rfl, hR⟩; replace hL := hR; clear hR)
      | (go_at_call 44; refine (c2 _ hL).mono ?_; rintro e wn ⟨rfl, hR⟩; replace hL := hR; clear hR))
    go_ret2
    exact ⟨rfl, _, hL⟩
  · cases h
theorem sec_bd {l r : List UInt8} {v : Int} (h : Dat.secP l = some (v, r)) : 0 ≤ v ∧ v ≤ 59 := by
  unfold Dat.secP at h
  split at h
  · cases h
  rename_i s h1
  obtain ⟨s1, s2⟩ := num_bds (by omega) h1
  split at h
  · have := congrArg Prod.fst (Option.some.inj h)
    simp at this
    omega
  · split at h
    · cases h
    · have := congrArg Prod.fst (Option.some.inj h)
      simp at this
      omega
set_option maxRecDepth 100000 in
set_option maxHeartbeats 1000000 in
theorem clock_yes {w0 w : World} {b : Nat} {l r : List UInt8} {v : Int} (hL : Rd w0 b l w) (h : Dat.clockP l = some (v, r)) :
    Calls Tryz.prog 19 #[.pointer (some ⟨b, 0, none⟩)] w fun e w' => e = .returned (.tuple #[.int .i64 v, .bool true]) ∧ Rd w0 b r w' := by
  unfold Dat.clockP at h
  split at h
  · cases h
  rename_i x h1
  obtain ⟨x1, x2⟩ := num_bds (by omega) h1
  split at h
  · cases h
  rename_i l1 h2
  split at h
  · cases h
  rename_i m h3
  obtain ⟨m1, m2⟩ := num_bds (by omega) h3
  split at h
  · rename_i h4
    have hx : v = x * 3600 + m * 60 ∧ r = l1.drop 2 := by
      have := Option.some.inj h
      simp at this
      exact ⟨this.1.symm, this.2.symm⟩
    obtain ⟨rfl, rfl⟩ := hx
    clear h
    have c0 := fun (w : World) hL => number_yes (w0 := w0) (w := w) (b := b) 2 _ _ 2 rfl hL h1 (by omega) (by omega)
    have c1 := fun (w : World) hL => takes_yes (w0 := w0) (w := w) (b := b) 58 hL h2
    have c2 := fun (w : World) hL => number_yes (w0 := w0) (w := w) (b := b) 2 _ _ 2 rfl hL h3 (by omega) (by omega)
    have c3 := fun (w : World) hL => takes_no (w0 := w0) (w := w) (b := b) 58 hL h4
    go_enter Tryz.func19, Tryz.ntmps19
    go_wp2_with (first
      | (go_at_call_of 30 (Value.int .i64 (23)); refine (c0 _ hL).mono ?_; rintro e wn ⟨rfl, hR⟩; replace hL := hR; clear hR)
      | (go_at_call_of 31 (Value.string ⟨#[58]⟩); refine (c1 _ hL).mono ?_; rintro e wn ⟨rfl, hR⟩; replace hL := hR; clear hR)
      | (go_at_call_of 30 (Value.int .i64 (59)); refine (c2 _ hL).mono ?_; rintro e wn ⟨rfl, hR⟩; replace hL := hR; clear hR)
      | (go_at_call_of 31 (Value.string ⟨#[58]⟩); refine (c3 _ hL).mono ?_; rintro e wn ⟨rfl, hR⟩; replace hL := hR; clear hR))
    go_ret2
    exact ⟨by go_num, hL⟩
  rename_i l3 h4
  split at h
  · cases h
  rename_i s r2 h5
  have hx : v = x * 3600 + m * 60 + s ∧ r = r2 := by
    have := Option.some.inj h
    simp at this
    exact ⟨this.1.symm, this.2.symm⟩
  obtain ⟨rfl, rfl⟩ := hx
  obtain ⟨s1, s2⟩ := sec_bd h5
  clear h
  have c0 := fun (w : World) hL => number_yes (w0 := w0) (w := w) (b := b) 2 _ _ 2 rfl hL h1 (by omega) (by omega)
  have c1 := fun (w : World) hL => takes_yes (w0 := w0) (w := w) (b := b) 58 hL h2
  have c2 := fun (w : World) hL => number_yes (w0 := w0) (w := w) (b := b) 2 _ _ 2 rfl hL h3 (by omega) (by omega)
  have c3 := fun (w : World) hL => takes_yes (w0 := w0) (w := w) (b := b) 58 hL h4
  have c4 := fun (w : World) hL => second_yes (w0 := w0) (w := w) (b := b) hL h5
  go_enter Tryz.func19, Tryz.ntmps19
  go_wp2_with (first
    | (go_at_call_of 30 (Value.int .i64 (23)); refine (c0 _ hL).mono ?_; rintro e wn ⟨rfl, hR⟩; replace hL := hR; clear hR)
    | (go_at_call_of 31 (Value.string ⟨#[58]⟩); refine (c1 _ hL).mono ?_; rintro e wn ⟨rfl, hR⟩; replace hL := hR; clear hR)
    | (go_at_call_of 30 (Value.int .i64 (59)); refine (c2 _ hL).mono ?_; rintro e wn ⟨rfl, hR⟩; replace hL := hR; clear hR)
    | (go_at_call_of 31 (Value.string ⟨#[58]⟩); refine (c3 _ hL).mono ?_; rintro e wn ⟨rfl, hR⟩; replace hL := hR; clear hR)
    | (go_at_call 39; refine (c4 _ hL).mono ?_; rintro e wn ⟨rfl, hR⟩; replace hL := hR; clear hR))
  go_ret2
  exact ⟨by go_num, hL⟩
set_option maxRecDepth 100000 in
set_option maxHeartbeats 1000000 in
theorem clock_no {w0 w : World} {b : Nat} {l : List UInt8} (hL : Rd w0 b l w) (h : Dat.clockP l = none) :
    Calls Tryz.prog 19 #[.pointer (some ⟨b, 0, none⟩)] w fun e w' => ∃ v, e = .returned (.tuple #[.int .i64 v, .bool false]) ∧ ∃ r, Rd w0 b r w' := by
  unfold Dat.clockP at h
  split at h
  · rename_i h1
    clear h
    have c0 := fun (w : World) hL => number_no (w0 := w0) (w := w) (b := b) 2 _ _ 2 rfl hL h1 (by omega) (by omega)
    go_enter Tryz.func19, Tryz.ntmps19
    go_wp2_with (first
      | (go_at_call_of 30 (Value.int .i64 (23)); refine (c0 _ hL).mono ?_; rintro e wn ⟨rfl, hR⟩; replace hL := hR; clear hR))
    go_ret2
    exact ⟨_, rfl, _, hL⟩
  rename_i x h1
  obtain ⟨x1, x2⟩ := num_bds (by omega) h1
  split at h
  · rename_i h2
    clear h
    have c0 := fun (w : World) hL => number_yes (w0 := w0) (w := w) (b := b) 2 _ _ 2 rfl hL h1 (by omega) (by omega)
    have c1 := fun (w : World) hL => takes_no (w0 := w0) (w := w) (b := b) 58 hL h2
    go_enter Tryz.func19, Tryz.ntmps19
    go_wp2_with (first
      | (go_at_call_of 30 (Value.int .i64 (23)); refine (c0 _ hL).mono ?_; rintro e wn ⟨rfl, hR⟩; replace hL := hR; clear hR)
      | (go_at_call_of 31 (Value.string ⟨#[58]⟩); refine (c1 _ hL).mono ?_; rintro e wn ⟨rfl, hR⟩; replace hL := hR; clear hR))
    go_ret2
    exact ⟨_, rfl, _, hL⟩
  rename_i l1 h2
  split at h
  · rename_i h3
    clear h
    have c0 := fun (w : World) hL => number_yes (w0 := w0) (w := w) (b := b) 2 _ _ 2 rfl hL h1 (by omega) (by omega)
    have c1 := fun (w : World) hL => takes_yes (w0 := w0) (w := w) (b := b) 58 hL h2
    have c2 := fun (w : World) hL => number_no (w0 := w0) (w := w) (b := b) 2 _ _ 2 rfl hL h3 (by omega) (by omega)
    go_enter Tryz.func19, Tryz.ntmps19
    go_wp2_with (first
      | (go_at_call_of 30 (Value.int .i64 (23)); refine (c0 _ hL).mono ?_; rintro e wn ⟨rfl, hR⟩; replace hL := hR; clear hR)
      | (go_at_call_of 31 (Value.string ⟨#[58]⟩); refine (c1 _ hL).mono ?_; rintro e wn ⟨rfl, hR⟩; replace hL := hR; clear hR)
      | (go_at_call_of 30 (Value.int .i64 (59)); refine (c2 _ hL).mono ?_; rintro e wn ⟨rfl, hR⟩; replace hL := hR; clear hR))
    go_ret2
    exact ⟨_, rfl, _, hL⟩
  rename_i m h3
  obtain ⟨m1, m2⟩ := num_bds (by omega) h3
  split at h
  · cases h
  rename_i l3 h4
  split at h
  · rename_i h5
    clear h
    have c0 := fun (w : World) hL => number_yes (w0 := w0) (w := w) (b := b) 2 _ _ 2 rfl hL h1 (by omega) (by omega)
    have c1 := fun (w : World) hL => takes_yes (w0 := w0) (w := w) (b := b) 58 hL h2
    have c2 := fun (w : World) hL => number_yes (w0 := w0) (w := w) (b := b) 2 _ _ 2 rfl hL h3 (by omega) (by omega)
    have c3 := fun (w : World) hL => takes_yes (w0 := w0) (w := w) (b := b) 58 hL h4
    have c4 := fun (w : World) hL => second_no (w0 := w0) (w := w) (b := b) hL h5
    go_enter Tryz.func19, Tryz.ntmps19
    go_wp2_with (first
      | (go_at_call_of 30 (Value.int .i64 (23)); refine (c0 _ hL).mono ?_; rintro e wn ⟨rfl, hR⟩; replace hL := hR; clear hR)
      | (go_at_call_of 31 (Value.string ⟨#[58]⟩); refine (c1 _ hL).mono ?_; rintro e wn ⟨rfl, hR⟩; replace hL := hR; clear hR)
      | (go_at_call_of 30 (Value.int .i64 (59)); refine (c2 _ hL).mono ?_; rintro e wn ⟨rfl, hR⟩; replace hL := hR; clear hR)
      | (go_at_call_of 31 (Value.string ⟨#[58]⟩); refine (c3 _ hL).mono ?_; rintro e wn ⟨rfl, hR⟩; replace hL := hR; clear hR)
      | (go_at_call 39; refine (c4 _ hL).mono ?_; rintro e wn ⟨rfl, r, hR⟩; replace hL := hR; clear hR))
    go_ret2
    exact ⟨_, rfl, _, hL⟩
  · cases h
end Go.Proofs.YtnklbeldheocmaaGreatDoor
/- Contract of the reader's zone. -/
namespace Go.Proofs.YtnklbeldheocmaaGreatDoor
open Go.RowKit
theorem rd1_ne {c x : UInt8} (r : List UInt8) (h : ¬ x = c) : Dat.rd1 c (x :: r) = none := by
  show (if x = c then some r else none) = none
  rw [if_neg h]
theorem rd1_self (c : UInt8) (r : List UInt8) : Dat.rd1 c (c :: r) = some r := (Dat.rd1_iff c _ _).2 rfl
theorem left_no {l : List UInt8} (h : l = []) : (str l).toList.isEmpty = true := by rw [str_list, h]; rfl
theorem left_some {l : List UInt8} (h : ¬ l = []) : (str l).toList.isEmpty = false := by
  rw [str_list]
  cases l with
  | nil => exact absurd rfl h
  | cons _ _ => rfl
set_option maxRecDepth 100000 in
set_option maxHeartbeats 1000000 in
theorem zone_yes {w0 w : World} {b : Nat} {l r : List UInt8} {v : Int} (hL : Rd w0 b l w) (h : Dat.zoneP l = some (v, r)) :
    Calls Tryz.prog 23 #[.pointer (some ⟨b, 0, none⟩)] w fun e w' => e = .returned (.tuple #[.int .i64 v, .bool true]) ∧ Rd w0 b r w' := by
  cases l with
  | nil => cases h
  | cons x t =>
  rw [Dat.zoneP_cons] at h
  by_cases h90 : x = 90
  · subst h90
    rw [if_pos (.inl rfl)] at h
    obtain ⟨rfl, rfl⟩ := Prod.mk.inj (Option.some.inj h)
    have k1 := rd1_self 90 t
    clear h
    have c0 := fun (w : World) hL => takes_yes (w0 := w0) (w := w) (b := b) 90 hL k1
    go_enter Tryz.func23, Tryz.ntmps23
    go_wp2_with (first
      | (go_at_call_of 31 (Value.string ⟨#[90]⟩); refine (c0 _ hL).mono ?_; rintro e wn ⟨rfl, hR⟩; replace hL := hR; clear hR))
    go_ret2
    exact ⟨rfl, hL⟩
  have k1 := rd1_ne t h90
  by_cases h122 : x = 122
  · subst h122
    rw [if_pos (.inr rfl)] at h
    obtain ⟨rfl, rfl⟩ := Prod.mk.inj (Option.some.inj h)
    have k2 := rd1_self 122 t
    clear h h90
    have c0 := fun (w : World) hL => takes_no (w0 := w0) (w := w) (b := b) 90 hL k1
    have c1 := fun (w : World) hL => takes_yes (w0 := w0) (w := w) (b := b) 122 hL k2
    go_enter Tryz.func23, Tryz.ntmps23
    go_wp2_with (first
      | (go_at_call_of 31 (Value.string ⟨#[90]⟩); refine (c0 _ hL).mono ?_; rintro e wn ⟨rfl, hR⟩; replace hL := hR; clear hR)
      | (go_at_call_of 31 (Value.string ⟨#[122]⟩); refine (c1 _ hL).mono ?_; rintro e wn ⟨rfl, hR⟩; replace hL := hR; clear hR))
    go_ret2
    exact ⟨rfl, hL⟩
  have k2 := rd1_ne t h122
  rw [if_neg (by rintro (e | e); exact h90 e; exact h122 e)] at h
  clear h90 h122
  by_cases h45 : x = 45
  · subst h45
    rw [if_pos rfl] at h
    have k3 := rd1_self 45 t
    unfold Dat.zoneS at h
    split at h
    · cases h
    rename_i hh k5
    obtain ⟨hh1, hh2⟩ := num_bds (by omega) k5
    by_cases he : t.drop 2 = []
    · rw [if_pos he] at h
      obtain ⟨rfl, rfl⟩ := Prod.mk.inj (Option.some.inj h)
      have hq := left_no he
      rw [← he]
      clear h he
      have c0 := fun (w : World) hL => takes_no (w0 := w0) (w := w) (b := b) 90 hL k1
      have c1 := fun (w : World) hL => takes_no (w0 := w0) (w := w) (b := b) 122 hL k2
      have c2 := fun (w : World) hL => takes_yes (w0 := w0) (w := w) (b := b) 45 hL k3
      have c3 := fun (w : World) hL => number_yes (w0 := w0) (w := w) (b := b) 2 _ _ 2 rfl hL k5 (by omega) (by omega)
      go_enter Tryz.func23, Tryz.ntmps23
      go_wp2_with (first
        | (go_at_call_of 31 (Value.string ⟨#[90]⟩); refine (c0 _ hL).mono ?_; rintro e wn ⟨rfl, hR⟩; replace hL := hR; clear hR)
        | (go_at_call_of 31 (Value.string ⟨#[122]⟩); refine (c1 _ hL).mono ?_; rintro e wn ⟨rfl, hR⟩; replace hL := hR; clear hR)
        | (go_at_call_of 31 (Value.string ⟨#[45]⟩); refine (c2 _ hL).mono ?_; rintro e wn ⟨rfl, hR⟩; replace hL := hR; clear hR)
        | (go_at_call_of 30 (Value.int .i64 (14)); refine (c3 _ hL).mono ?_; rintro e wn ⟨rfl, hR⟩; replace hL := hR; clear hR; have hcell := hL.cell))
      go_ret2
      exact ⟨by first | rfl | (simp; done) | (simp; omega), hL⟩
    · rw [if_neg he] at h
      have hq := left_some he
      cases k6 : Dat.rd1 58 (t.drop 2) with
      | none =>
        rw [k6] at h
        replace h : (match Dat.num? 2 0 59 (t.drop 2) with | none => none | some m => some ((-1) * (hh * 3600 + m * 60), (t.drop 2).drop 2)) = some (v, r) := h
        split at h
        · cases h
        rename_i mm k7
        obtain ⟨mm1, mm2⟩ := num_bds (by omega) k7
        obtain ⟨rfl, rfl⟩ := Prod.mk.inj (Option.some.inj h)
        clear h he
        have c0 := fun (w : World) hL => takes_no (w0 := w0) (w := w) (b := b) 90 hL k1
        have c1 := fun (w : World) hL => takes_no (w0 := w0) (w := w) (b := b) 122 hL k2
        have c2 := fun (w : World) hL => takes_yes (w0 := w0) (w := w) (b := b) 45 hL k3
        have c3 := fun (w : World) hL => number_yes (w0 := w0) (w := w) (b := b) 2 _ _ 2 rfl hL k5 (by omega) (by omega)
        have c4 := fun (w : World) hL => takes_no (w0 := w0) (w := w) (b := b) 58 hL k6
        have c5 := fun (w : World) hL => number_yes (w0 := w0) (w := w) (b := b) 2 _ _ 2 rfl hL k7 (by omega) (by omega)
        go_enter Tryz.func23, Tryz.ntmps23
        go_wp2_with (first
          | (go_at_call_of 31 (Value.string ⟨#[90]⟩); refine (c0 _ hL).mono ?_; rintro e wn ⟨rfl, hR⟩; replace hL := hR; clear hR)
          | (go_at_call_of 31 (Value.string ⟨#[122]⟩); refine (c1 _ hL).mono ?_; rintro e wn ⟨rfl, hR⟩; replace hL := hR; clear hR)
          | (go_at_call_of 31 (Value.string ⟨#[45]⟩); refine (c2 _ hL).mono ?_; rintro e wn ⟨rfl, hR⟩; replace hL := hR; clear hR)
          | (go_at_call_of 30 (Value.int .i64 (14)); refine (c3 _ hL).mono ?_; rintro e wn ⟨rfl, hR⟩; replace hL := hR; clear hR; have hcell := hL.cell)
          | (go_at_call_of 31 (Value.string ⟨#[58]⟩); refine (c4 _ hL).mono ?_; rintro e wn ⟨rfl, hR⟩; replace hL := hR; clear hR)
          | (go_at_call_of 30 (Value.int .i64 (59)); refine (c5 _ hL).mono ?_; rintro e wn ⟨rfl, hR⟩; replace hL := hR; clear hR))
        go_ret2
        exact ⟨by first | rfl | (simp; done) | (simp; omega), hL⟩
      | some q =>
        rw [k6] at h
        replace h : (match Dat.num? 2 0 59 (q) with | none => none | some m => some ((-1) * (hh * 3600 + m * 60), (q).drop 2)) = some (v, r) := h
        split at h
        · cases h
        rename_i mm k7
        obtain ⟨mm1, mm2⟩ := num_bds (by omega) k7
        obtain ⟨rfl, rfl⟩ := Prod.mk.inj (Option.some.inj h)
        clear h he
        have c0 := fun (w : World) hL => takes_no (w0 := w0) (w := w) (b := b) 90 hL k1
        have c1 := fun (w : World) hL => takes_no (w0 := w0) (w := w) (b := b) 122 hL k2
        have c2 := fun (w : World) hL => takes_yes (w0 := w0) (w := w) (b := b) 45 hL k3
        have c3 := fun (w : World) hL => number_yes (w0 := w0) (w := w) (b := b) 2 _ _ 2 rfl hL k5 (by omega) (by omega)
        have c4 := fun (w : World) hL => takes_yes (w0 := w0) (w := w) (b := b) 58 hL k6
        have c5 := fun (w : World) hL => number_yes (w0 := w0) (w := w) (b := b) 2 _ _ 2 rfl hL k7 (by omega) (by omega)
        go_enter Tryz.func23, Tryz.ntmps23
        go_wp2_with (first
          | (go_at_call_of 31 (Value.string ⟨#[90]⟩); refine (c0 _ hL).mono ?_; rintro e wn ⟨rfl, hR⟩; replace hL := hR; clear hR)
          | (go_at_call_of 31 (Value.string ⟨#[122]⟩); refine (c1 _ hL).mono ?_; rintro e wn ⟨rfl, hR⟩; replace hL := hR; clear hR)
          | (go_at_call_of 31 (Value.string ⟨#[45]⟩); refine (c2 _ hL).mono ?_; rintro e wn ⟨rfl, hR⟩; replace hL := hR; clear hR)
          | (go_at_call_of 30 (Value.int .i64 (14)); refine (c3 _ hL).mono ?_; rintro e wn ⟨rfl, hR⟩; replace hL := hR; clear hR; have hcell := hL.cell)
          | (go_at_call_of 31 (Value.string ⟨#[58]⟩); refine (c4 _ hL).mono ?_; rintro e wn ⟨rfl, hR⟩; replace hL := hR; clear hR)
          | (go_at_call_of 30 (Value.int .i64 (59)); refine (c5 _ hL).mono ?_; rintro e wn ⟨rfl, hR⟩; replace hL := hR; clear hR))
        go_ret2
        exact ⟨by first | rfl | (simp; done) | (simp; omega), hL⟩
  have k3 := rd1_ne t h45
  rw [if_neg h45] at h
  by_cases h43 : x = 43
  · subst h43
    rw [if_pos rfl] at h
    have k4 := rd1_self 43 t
    clear h45
    unfold Dat.zoneS at h
    split at h
    · cases h
    rename_i hh k5
    obtain ⟨hh1, hh2⟩ := num_bds (by omega) k5
    by_cases he : t.drop 2 = []
    · rw [if_pos he] at h
      obtain ⟨rfl, rfl⟩ := Prod.mk.inj (Option.some.inj h)
      have hq := left_no he
      rw [← he]
      clear h he
      have c0 := fun (w : World) hL => takes_no (w0 := w0) (w := w) (b := b) 90 hL k1
      have c1 := fun (w : World) hL => takes_no (w0 := w0) (w := w) (b := b) 122 hL k2
      have c2 := fun (w : World) hL => takes_no (w0 := w0) (w := w) (b := b) 45 hL k3
      have c3 := fun (w : World) hL => takes_yes (w0 := w0) (w := w) (b := b) 43 hL k4
      have c4 := fun (w : World) hL => number_yes (w0 := w0) (w := w) (b := b) 2 _ _ 2 rfl hL k5 (by omega) (by omega)
      go_enter Tryz.func23, Tryz.ntmps23
      go_wp2_with (first
        | (go_at_call_of 31 (Value.string ⟨#[90]⟩); refine (c0 _ hL).mono ?_; rintro e wn ⟨rfl, hR⟩; replace hL := hR; clear hR)
        | (go_at_call_of 31 (Value.string ⟨#[122]⟩); refine (c1 _ hL).mono ?_; rintro e wn ⟨rfl, hR⟩; replace hL := hR; clear hR)
        | (go_at_call_of 31 (Value.string ⟨#[45]⟩); refine (c2 _ hL).mono ?_; rintro e wn ⟨rfl, hR⟩; replace hL := hR; clear hR)
        | (go_at_call_of 31 (Value.string ⟨#[43]⟩); refine (c3 _ hL).mono ?_; rintro e wn ⟨rfl, hR⟩; replace hL := hR; clear hR)
        | (go_at_call_of 30 (Value.int .i64 (14)); refine (c4 _ hL).mono ?_; rintro e wn ⟨rfl, hR⟩; replace hL := hR; clear hR; have hcell := hL.cell))
      go_ret2
      exact ⟨by first | rfl | (simp; done) | (simp; omega), hL⟩
    · rw [if_neg he] at h
      have hq := left_some he
      cases k6 : Dat.rd1 58 (t.drop 2) with
      | none =>
        rw [k6] at h
        replace h : (match Dat.num? 2 0 59 (t.drop 2) with | none => none | some m => some (1 * (hh * 3600 + m * 60), (t.drop 2).drop 2)) = some (v, r) := h
        split at h
        · cases h
        rename_i mm k7
        obtain ⟨mm1, mm2⟩ := num_bds (by omega) k7
        obtain ⟨rfl, rfl⟩ := Prod.mk.inj (Option.some.inj h)
        clear h he
        have c0 := fun (w : World) hL => takes_no (w0 := w0) (w := w) (b := b) 90 hL k1
        have c1 := fun (w : World) hL => takes_no (w0 := w0) (w := w) (b := b) 122 hL k2
        have c2 := fun (w : World) hL => takes_no (w0 := w0) (w := w) (b := b) 45 hL k3
        have c3 := fun (w : World) hL => takes_yes (w0 := w0) (w := w) (b := b) 43 hL k4
        have c4 := fun (w : World) hL => number_yes (w0 := w0) (w := w) (b := b) 2 _ _ 2 rfl hL k5 (by omega) (by omega)
        have c5 := fun (w : World) hL => takes_no (w0 := w0) (w := w) (b := b) 58 hL k6
        have c6 := fun (w : World) hL => number_yes (w0 := w0) (w := w) (b := b) 2 _ _ 2 rfl hL k7 (by omega) (by omega)
        go_enter Tryz.func23, Tryz.ntmps23
        go_wp2_with (first
          | (go_at_call_of 31 (Value.string ⟨#[90]⟩); refine (c0 _ hL).mono ?_; rintro e wn ⟨rfl, hR⟩; replace hL := hR; clear hR)
          | (go_at_call_of 31 (Value.string ⟨#[122]⟩); refine (c1 _ hL).mono ?_; rintro e wn ⟨rfl, hR⟩; replace hL := hR; clear hR)
          | (go_at_call_of 31 (Value.string ⟨#[45]⟩); refine (c2 _ hL).mono ?_; rintro e wn ⟨rfl, hR⟩; replace hL := hR; clear hR)
          | (go_at_call_of 31 (Value.string ⟨#[43]⟩); refine (c3 _ hL).mono ?_; rintro e wn ⟨rfl, hR⟩; replace hL := hR; clear hR)
          | (go_at_call_of 30 (Value.int .i64 (14)); refine (c4 _ hL).mono ?_; rintro e wn ⟨rfl, hR⟩; replace hL := hR; clear hR; have hcell := hL.cell)
          | (go_at_call_of 31 (Value.string ⟨#[58]⟩); refine (c5 _ hL).mono ?_; rintro e wn ⟨rfl, hR⟩; replace hL := hR; clear hR)
          | (go_at_call_of 30 (Value.int .i64 (59)); refine (c6 _ hL).mono ?_; rintro e wn ⟨rfl, hR⟩; replace hL := hR; clear hR))
        go_ret2
        exact ⟨by first | rfl | (simp; done) | (simp; omega), hL⟩
      | some q =>
        rw [k6] at h
        replace h : (match Dat.num? 2 0 59 (q) with | none => none | some m => some (1 * (hh * 3600 + m * 60), (q).drop 2)) = some (v, r) := h
        split at h
        · cases h
        rename_i mm k7
        obtain ⟨mm1, mm2⟩ := num_bds (by omega) k7
        obtain ⟨rfl, rfl⟩ := Prod.mk.inj (Option.some.inj h)
        clear h he
        have c0 := fun (w : World) hL => takes_no (w0 := w0) (w := w) (b := b) 90 hL k1
        have c1 := fun (w : World) hL => takes_no (w0 := w0) (w := w) (b := b) 122 hL k2
        have c2 := fun (w : World) hL => takes_no (w0 := w0) (w := w) (b := b) 45 hL k3
        have c3 := fun (w : World) hL => takes_yes (w0 := w0) (w := w) (b := b) 43 hL k4
        have c4 := fun (w : World) hL => number_yes (w0 := w0) (w := w) (b := b) 2 _ _ 2 rfl hL k5 (by omega) (by omega)
        have c5 := fun (w : World) hL => takes_yes (w0 := w0) (w := w) (b := b) 58 hL k6
        have c6 := fun (w : World) hL => number_yes (w0 := w0) (w := w) (b := b) 2 _ _ 2 rfl hL k7 (by omega) (by omega)
        go_enter Tryz.func23, Tryz.ntmps23
        go_wp2_with (first
          | (go_at_call_of 31 (Value.string ⟨#[90]⟩); refine (c0 _ hL).mono ?_; rintro e wn ⟨rfl, hR⟩; replace hL := hR; clear hR)
          | (go_at_call_of 31 (Value.string ⟨#[122]⟩); refine (c1 _ hL).mono ?_; rintro e wn ⟨rfl, hR⟩; replace hL := hR; clear hR)
          | (go_at_call_of 31 (Value.string ⟨#[45]⟩); refine (c2 _ hL).mono ?_; rintro e wn ⟨rfl, hR⟩; replace hL := hR; clear hR)
          | (go_at_call_of 31 (Value.string ⟨#[43]⟩); refine (c3 _ hL).mono ?_; rintro e wn ⟨rfl, hR⟩; replace hL := hR; clear hR)
          | (go_at_call_of 30 (Value.int .i64 (14)); refine (c4 _ hL).mono ?_; rintro e wn ⟨rfl, hR⟩; replace hL := hR; clear hR; have hcell := hL.cell)
          | (go_at_call_of 31 (Value.string ⟨#[58]⟩); refine (c5 _ hL).mono ?_; rintro e wn ⟨rfl, hR⟩; replace hL := hR; clear hR)
          | (go_at_call_of 30 (Value.int .i64 (59)); refine (c6 _ hL).mono ?_; rintro e wn ⟨rfl, hR⟩; replace hL := hR; clear hR))
        go_ret2
        exact ⟨by first | rfl | (simp; done) | (simp; omega), hL⟩
  rw [if_neg h43] at h
  cases h
set_option maxRecDepth 100000 in
set_option maxHeartbeats 1000000 in
theorem zone_no {w0 w : World} {b : Nat} {l : List UInt8} (hL : Rd w0 b l w) (h : Dat.zoneP l = none) :
    Calls Tryz.prog 23 #[.pointer (some ⟨b, 0, none⟩)] w fun e w' => ∃ v, e = .returned (.tuple #[.int .i64 v, .bool false]) ∧ ∃ r, Rd w0 b r w' := by
  cases l with
  | nil =>
    have k1 : Dat.rd1 90 [] = none := rfl
    have k2 : Dat.rd1 122 [] = none := rfl
    have k3 : Dat.rd1 45 [] = none := rfl
    have k4 : Dat.rd1 43 [] = none := rfl
    have c0 := fun (w : World) hL => takes_no (w0 := w0) (w := w) (b := b) 90 hL k1
    have c1 := fun (w : World) hL => takes_no (w0 := w0) (w := w) (b := b) 122 hL k2
    have c2 := fun (w : World) hL => takes_no (w0 := w0) (w := w) (b := b) 45 hL k3
    have c3 := fun (w : World) hL => takes_no (w0 := w0) (w := w) (b := b) 43 hL k4
    go_enter Tryz.func23, Tryz.ntmps23
    go_wp2_with (first
      | (go_at_call_of 31 (Value.string ⟨#[90]⟩); refine (c0 _ hL).mono ?_; rintro e wn ⟨rfl, hR⟩; replace hL := hR; clear hR)
      | (go_at_call_of 31 (Value.string ⟨#[122]⟩); refine (c1 _ hL).mono ?_; rintro e wn ⟨rfl, hR⟩; replace hL := hR; clear hR)
      | (go_at_call_of 31 (Value.string ⟨#[45]⟩); refine (c2 _ hL).mono ?_; rintro e wn ⟨rfl, hR⟩; replace hL := hR; clear hR)
      | (go_at_call_of 31 (Value.string ⟨#[43]⟩); refine (c3 _ hL).mono ?_; rintro e wn ⟨rfl, hR⟩; replace hL := hR; clear hR))
    go_ret2
    exact ⟨_, rfl, _, hL⟩
  | cons x t =>
  rw [Dat.zoneP_cons] at h
  by_cases hz : x = 90 ∨ x = 122
  · rw [if_pos hz] at h
    cases h
  rw [if_neg hz] at h
  have k1 := rd1_ne (c := 90) t (fun e => hz (.inl e))
  have k2 := rd1_ne (c := 122) t (fun e => hz (.inr e))
  clear hz
  by_cases h45 : x = 45
  · subst h45
    rw [if_pos rfl] at h
    have k3 := rd1_self 45 t
    unfold Dat.zoneS at h
    split at h
    · rename_i k5
      clear h
      have c0 := fun (w : World) hL => takes_no (w0 := w0) (w := w) (b := b) 90 hL k1
      have c1 := fun (w : World) hL => takes_no (w0 := w0) (w := w) (b := b) 122 hL k2
      have c2 := fun (w : World) hL => takes_yes (w0 := w0) (w := w) (b := b) 45 hL k3
      have c3 := fun (w : World) hL => number_no (w0 := w0) (w := w) (b := b) 2 _ _ 2 rfl hL k5 (by omega) (by omega)
      go_enter Tryz.func23, Tryz.ntmps23
      go_wp2_with (first
        | (go_at_call_of 31 (Value.string ⟨#[90]⟩); refine (c0 _ hL).mono ?_; rintro e wn ⟨rfl, hR⟩; replace hL := hR; clear hR)
        | (go_at_call_of 31 (Value.string ⟨#[122]⟩); refine (c1 _ hL).mono ?_; rintro e wn ⟨rfl, hR⟩; replace hL := hR; clear hR)
        | (go_at_call_of 31 (Value.string ⟨#[45]⟩); refine (c2 _ hL).mono ?_; rintro e wn ⟨rfl, hR⟩; replace hL := hR; clear hR)
        | (go_at_call_of 30 (Value.int .i64 (14)); refine (c3 _ hL).mono ?_; rintro e wn ⟨rfl, hR⟩; replace hL := hR; clear hR))
      go_ret2
      exact ⟨_, rfl, _, hL⟩
    rename_i hh k5
    obtain ⟨hh1, hh2⟩ := num_bds (by omega) k5
    by_cases he : t.drop 2 = []
    · rw [if_pos he] at h
      cases h
    · rw [if_neg he] at h
      have hq := left_some he
      cases k6 : Dat.rd1 58 (t.drop 2) with
      | none =>
        rw [k6] at h
        replace h : (match Dat.num? 2 0 59 (t.drop 2) with | none => none | some m => some ((-1) * (hh * 3600 + m * 60), (t.drop 2).drop 2)) = none := h
        split at h
        · rename_i k7
          clear h he
          have c0 := fun (w : World) hL => takes_no (w0 := w0) (w := w) (b := b) 90 hL k1
          have c1 := fun (w : World) hL => takes_no (w0 := w0) (w := w) (b := b) 122 hL k2
          have c2 := fun (w : World) hL => takes_yes (w0 := w0) (w := w) (b := b) 45 hL k3
          have c3 := fun (w : World) hL => number_yes (w0 := w0) (w := w) (b := b) 2 _ _ 2 rfl hL k5 (by omega) (by omega)
          have c4 := fun (w : World) hL => takes_no (w0 := w0) (w := w) (b := b) 58 hL k6
          have c5 := fun (w : World) hL => number_no (w0 := w0) (w := w) (b := b) 2 _ _ 2 rfl hL k7 (by omega) (by omega)
          go_enter Tryz.func23, Tryz.ntmps23
          go_wp2_with (first
            | (go_at_call_of 31 (Value.string ⟨#[90]⟩); refine (c0 _ hL).mono ?_; rintro e wn ⟨rfl, hR⟩; replace hL := hR; clear hR)
            | (go_at_call_of 31 (Value.string ⟨#[122]⟩); refine (c1 _ hL).mono ?_; rintro e wn ⟨rfl, hR⟩; replace hL := hR; clear hR)
            | (go_at_call_of 31 (Value.string ⟨#[45]⟩); refine (c2 _ hL).mono ?_; rintro e wn ⟨rfl, hR⟩; replace hL := hR; clear hR)
            | (go_at_call_of 30 (Value.int .i64 (14)); refine (c3 _ hL).mono ?_; rintro e wn ⟨rfl, hR⟩; replace hL := hR; clear hR; have hcell := hL.cell)
            | (go_at_call_of 31 (Value.string ⟨#[58]⟩); refine (c4 _ hL).mono ?_; rintro e wn ⟨rfl, hR⟩; replace hL := hR; clear hR)
            | (go_at_call_of 30 (Value.int .i64 (59)); refine (c5 _ hL).mono ?_; rintro e wn ⟨rfl, hR⟩; replace hL := hR; clear hR))
          go_ret2
          exact ⟨_, rfl, _, hL⟩
        · cases h
      | some q =>
        rw [k6] at h
        replace h : (match Dat.num? 2 0 59 (q) with | none => none | some m => some ((-1) * (hh * 3600 + m * 60), (q).drop 2)) = none := h
        split at h
        · rename_i k7
          clear h he
          have c0 := fun (w : World) hL => takes_no (w0 := w0) (w := w) (b := b) 90 hL k1
          have c1 := fun (w : World) hL => takes_no (w0 := w0) (w := w) (b := b) 122 hL k2
          have c2 := fun (w : World) hL => takes_yes (w0 := w0) (w := w) (b := b) 45 hL k3
          have c3 := fun (w : World) hL => number_yes (w0 := w0) (w := w) (b := b) 2 _ _ 2 rfl hL k5 (by omega) (by omega)
          have c4 := fun (w : World) hL => takes_yes (w0 := w0) (w := w) (b := b) 58 hL k6
          have c5 := fun (w : World) hL => number_no (w0 := w0) (w := w) (b := b) 2 _ _ 2 rfl hL k7 (by omega) (by omega)
          go_enter Tryz.func23, Tryz.ntmps23
          go_wp2_with (first
            | (go_at_call_of 31 (Value.string ⟨#[90]⟩); refine (c0 _ hL).mono ?_; rintro e wn ⟨rfl, hR⟩; replace hL := hR; clear hR)
            | (go_at_call_of 31 (Value.string ⟨#[122]⟩); refine (c1 _ hL).mono ?_; rintro e wn ⟨rfl, hR⟩; replace hL := hR; clear hR)
            | (go_at_call_of 31 (Value.string ⟨#[45]⟩); refine (c2 _ hL).mono ?_; rintro e wn ⟨rfl, hR⟩; replace hL := hR; clear hR)
            | (go_at_call_of 30 (Value.int .i64 (14)); refine (c3 _ hL).mono ?_; rintro e wn ⟨rfl, hR⟩; replace hL := hR; clear hR; have hcell := hL.cell)
            | (go_at_call_of 31 (Value.string ⟨#[58]⟩); refine (c4 _ hL).mono ?_; rintro e wn ⟨rfl, hR⟩; replace hL := hR; clear hR)
            | (go_at_call_of 30 (Value.int .i64 (59)); refine (c5 _ hL).mono ?_; rintro e wn ⟨rfl, hR⟩; replace hL := hR; clear hR))
          go_ret2
          exact ⟨_, rfl, _, hL⟩
        · cases h
  have k3 := rd1_ne t h45
  rw [if_neg h45] at h
  by_cases h43 : x = 43
  · subst h43
    rw [if_pos rfl] at h
    have k4 := rd1_self 43 t
    clear h45
    unfold Dat.zoneS at h
    split at h
    · rename_i k5
      clear h
      have c0 := fun (w : World) hL => takes_no (w0 := w0) (w := w) (b := b) 90 hL k1
      have c1 := fun (w : World) hL => takes_no (w0 := w0) (w := w) (b := b) 122 hL k2
      have c2 := fun (w : World) hL => takes_no (w0 := w0) (w := w) (b := b) 45 hL k3
      have c3 := fun (w : World) hL => takes_yes (w0 := w0) (w := w) (b := b) 43 hL k4
      have c4 := fun (w : World) hL => number_no (w0 := w0) (w := w) (b := b) 2 _ _ 2 rfl hL k5 (by omega) (by omega)
      go_enter Tryz.func23, Tryz.ntmps23
      go_wp2_with (first
        | (go_at_call_of 31 (Value.string ⟨#[90]⟩); refine (c0 _ hL).mono ?_; rintro e wn ⟨rfl, hR⟩; replace hL := hR; clear hR)
        | (go_at_call_of 31 (Value.string ⟨#[122]⟩); refine (c1 _ hL).mono ?_; rintro e wn ⟨rfl, hR⟩; replace hL := hR; clear hR)
        | (go_at_call_of 31 (Value.string ⟨#[45]⟩); refine (c2 _ hL).mono ?_; rintro e wn ⟨rfl, hR⟩; replace hL := hR; clear hR)
        | (go_at_call_of 31 (Value.string ⟨#[43]⟩); refine (c3 _ hL).mono ?_; rintro e wn ⟨rfl, hR⟩; replace hL := hR; clear hR)
        | (go_at_call_of 30 (Value.int .i64 (14)); refine (c4 _ hL).mono ?_; rintro e wn ⟨rfl, hR⟩; replace hL := hR; clear hR))
      go_ret2
      exact ⟨_, rfl, _, hL⟩
    rename_i hh k5
    obtain ⟨hh1, hh2⟩ := num_bds (by omega) k5
    by_cases he : t.drop 2 = []
    · rw [if_pos he] at h
      cases h
    · rw [if_neg he] at h
      have hq := left_some he
      cases k6 : Dat.rd1 58 (t.drop 2) with
      | none =>
        rw [k6] at h
        replace h : (match Dat.num? 2 0 59 (t.drop 2) with | none => none | some m => some (1 * (hh * 3600 + m * 60), (t.drop 2).drop 2)) = none := h
        split at h
        · rename_i k7
          clear h he
          have c0 := fun (w : World) hL => takes_no (w0 := w0) (w := w) (b := b) 90 hL k1
          have c1 := fun (w : World) hL => takes_no (w0 := w0) (w := w) (b := b) 122 hL k2
          have c2 := fun (w : World) hL => takes_no (w0 := w0) (w := w) (b := b) 45 hL k3
          have c3 := fun (w : World) hL => takes_yes (w0 := w0) (w := w) (b := b) 43 hL k4
          have c4 := fun (w : World) hL => number_yes (w0 := w0) (w := w) (b := b) 2 _ _ 2 rfl hL k5 (by omega) (by omega)
          have c5 := fun (w : World) hL => takes_no (w0 := w0) (w := w) (b := b) 58 hL k6
          have c6 := fun (w : World) hL => number_no (w0 := w0) (w := w) (b := b) 2 _ _ 2 rfl hL k7 (by omega) (by omega)
          go_enter Tryz.func23, Tryz.ntmps23
          go_wp2_with (first
            | (go_at_call_of 31 (Value.string ⟨#[90]⟩); refine (c0 _ hL).mono ?_; rintro e wn ⟨rfl, hR⟩; replace hL := hR; clear hR)
            | (go_at_call_of 31 (Value.string ⟨#[122]⟩); refine (c1 _ hL).mono ?_; rintro e wn ⟨rfl, hR⟩; replace hL := hR; clear hR)
            | (go_at_call_of 31 (Value.string ⟨#[45]⟩); refine (c2 _ hL).mono ?_; rintro e wn ⟨rfl, hR⟩; replace hL := hR; clear hR)
            | (go_at_call_of 31 (Value.string ⟨#[43]⟩); refine (c3 _ hL).mono ?_; rintro e wn ⟨rfl, hR⟩; replace hL := hR; clear hR)
            | (go_at_call_of 30 (Value.int .i64 (14)); refine (c4 _ hL).mono ?_; rintro e wn ⟨rfl, hR⟩; replace hL := hR; clear hR; have hcell := hL.cell)
            | (go_at_call_of 31 (Value.string ⟨#[58]⟩); refine (c5 _ hL).mono ?_; rintro e wn ⟨rfl, hR⟩; replace hL := hR; clear hR)
            | (go_at_call_of 30 (Value.int .i64 (59)); refine (c6 _ hL).mono ?_; rintro e wn ⟨rfl, hR⟩; replace hL := hR; clear hR))
          go_ret2
          exact ⟨_, rfl, _, hL⟩
        · cases h
      | some q =>
        rw [k6] at h
        replace h : (match Dat.num? 2 0 59 (q) with | none => none | some m => some (1 * (hh * 3600 + m * 60), (q).drop 2)) = none := h
        split at h
        · rename_i k7
          clear h he
          have c0 := fun (w : World) hL => takes_no (w0 := w0) (w := w) (b := b) 90 hL k1
          have c1 := fun (w : World) hL => takes_no (w0 := w0) (w := w) (b := b) 122 hL k2
          have c2 := fun (w : World) hL => takes_no (w0 := w0) (w := w) (b := b) 45 hL k3
          have c3 := fun (w : World) hL => takes_yes (w0 := w0) (w := w) (b := b) 43 hL k4
          have c4 := fun (w : World) hL => number_yes (w0 := w0) (w := w) (b := b) 2 _ _ 2 rfl hL k5 (by omega) (by omega)
          have c5 := fun (w : World) hL => takes_yes (w0 := w0) (w := w) (b := b) 58 hL k6
          have c6 := fun (w : World) hL => number_no (w0 := w0) (w := w) (b := b) 2 _ _ 2 rfl hL k7 (by omega) (by omega)
          go_enter Tryz.func23, Tryz.ntmps23
          go_wp2_with (first
            | (go_at_call_of 31 (Value.string ⟨#[90]⟩); refine (c0 _ hL).mono ?_; rintro e wn ⟨rfl, hR⟩; replace hL := hR; clear hR)
            | (go_at_call_of 31 (Value.string ⟨#[122]⟩); refine (c1 _ hL).mono ?_; rintro e wn ⟨rfl, hR⟩; replace hL := hR; clear hR)
            | (go_at_call_of 31 (Value.string ⟨#[45]⟩); refine (c2 _ hL).mono ?_; rintro e wn ⟨rfl, hR⟩; replace hL := hR; clear hR)
            | (go_at_call_of 31 (Value.string ⟨#[43]⟩); refine (c3 _ hL).mono ?_; rintro e wn ⟨rfl, hR⟩; replace hL := hR; clear hR)
            | (go_at_call_of 30 (Value.int .i64 (14)); refine (c4 _ hL).mono ?_; rintro e wn ⟨rfl, hR⟩; replace hL := hR; clear hR; have hcell := hL.cell)
            | (go_at_call_of 31 (Value.string ⟨#[58]⟩); refine (c5 _ hL).mono ?_; rintro e wn ⟨rfl, hR⟩; replace hL := hR; clear hR)
            | (go_at_call_of 30 (Value.int .i64 (59)); refine (c6 _ hL).mono ?_; rintro e wn ⟨rfl, hR⟩; replace hL := hR; clear hR))
          go_ret2
          exact ⟨_, rfl, _, hL⟩
        · cases h
  have k4 := rd1_ne t h43
  clear h h45 h43
  have c0 := fun (w : World) hL => takes_no (w0 := w0) (w := w) (b := b) 90 hL k1
  have c1 := fun (w : World) hL => takes_no (w0 := w0) (w := w) (b := b) 122 hL k2
  have c2 := fun (w : World) hL => takes_no (w0 := w0) (w := w) (b := b) 45 hL k3
  have c3 := fun (w : World) hL => takes_no (w0 := w0) (w := w) (b := b) 43 hL k4
  go_enter Tryz.func23, Tryz.ntmps23
  go_wp2_with (first
    | (go_at_call_of 31 (Value.string ⟨#[90]⟩); refine (c0 _ hL).mono ?_; rintro e wn ⟨rfl, hR⟩; replace hL := hR; clear hR)
    | (go_at_call_of 31 (Value.string ⟨#[122]⟩); refine (c1 _ hL).mono ?_; rintro e wn ⟨rfl, hR⟩; replace hL := hR; clear hR)
    | (go_at_call_of 31 (Value.string ⟨#[45]⟩); refine (c2 _ hL).mono ?_; rintro e wn ⟨rfl, hR⟩; replace hL := hR; clear hR)
    | (go_at_call_of 31 (Value.string ⟨#[43]⟩); refine (c3 _ hL).mono ?_; rintro e wn ⟨rfl, hR⟩; replace hL := hR; clear hR))
  go_ret2
  exact ⟨_, rfl, _, hL⟩
end Go.Proofs.YtnklbeldheocmaaGreatDoor
