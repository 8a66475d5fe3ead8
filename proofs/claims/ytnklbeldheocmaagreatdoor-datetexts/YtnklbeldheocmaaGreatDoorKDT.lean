/- Contracts of the reader's spoken as one, of whole at it, and of Clock. -/
import Derived.Test.YtnklbeldheocmaaGreatDoorKDS
namespace Go.Proofs.YtnklbeldheocmaaGreatDoor
open Go.RowKit
theorem half_bd {l : List UInt8} {k : Int} (h : Dat.halfN l = some k) : 0 ≤ k ∧ k ≤ 12 := by
  unfold Dat.halfN at h
  split at h
  · have := Option.some.inj h; omega
  · split at h
    · have := Option.some.inj h; omega
    · cases h
theorem spoken_yes {w0 w : World} {b : Nat} {l : List UInt8} {v : Int} (hL : Rd w0 b l w) (h : Dat.spokenP l = some v) :
    Calls Tryz.prog 20 #[.pointer (some ⟨b, 0, none⟩)] w fun e w' => e = .returned (.tuple #[.int .i64 v, .bool true]) ∧ Rd w0 b [] w' := by
  unfold Dat.spokenP at h
  split at h
  · cases h
  rename_i x l1 hx
  split at h
  · cases h
  rename_i m s r ht
  split at h
  · cases h
  rename_i k hk
  obtain rfl := Option.some.inj h
  have hb := half_bd hk
  unfold Dat.hourP at hx
  unfold Dat.tailP at ht
  split at hx
  · rename_i y hy
    obtain ⟨rfl, rfl⟩ := Prod.mk.inj (Option.some.inj hx)
    obtain ⟨x1, x2⟩ := num_bds (by omega) hy
    split at ht
    · rename_i k1
      obtain ⟨rfl, hq⟩ := Prod.mk.inj (Option.some.inj ht)
      obtain ⟨rfl, rfl⟩ := Prod.mk.inj hq
      exact spoken_b0 hL hy x1 x2 k1 hk hb.1 hb.2
    rename_i l2 k1
    split at ht
    · cases ht
    rename_i mm k2
    obtain ⟨m1, m2⟩ := num_bds (by omega) k2
    split at ht
    · rename_i k3
      obtain ⟨rfl, hq⟩ := Prod.mk.inj (Option.some.inj ht)
      obtain ⟨rfl, rfl⟩ := Prod.mk.inj hq
      exact spoken_b1 hL hy x1 x2 k1 k2 m1 m2 k3 hk hb.1 hb.2
    rename_i l3 k3
    split at ht
    · cases ht
    rename_i ss k4
    obtain ⟨s1, s2⟩ := num_bds (by omega) k4
    obtain ⟨rfl, hq⟩ := Prod.mk.inj (Option.some.inj ht)
    obtain ⟨rfl, rfl⟩ := Prod.mk.inj hq
    exact spoken_b2 hL hy x1 x2 k1 k2 m1 m2 k3 k4 s1 s2 hk hb.1 hb.2
  · rename_i h0
    split at hx
    · rename_i y hy
      obtain ⟨rfl, rfl⟩ := Prod.mk.inj (Option.some.inj hx)
      obtain ⟨x1, x2⟩ := num_bds (by omega) hy
      split at ht
      · rename_i k1
        obtain ⟨rfl, hq⟩ := Prod.mk.inj (Option.some.inj ht)
        obtain ⟨rfl, rfl⟩ := Prod.mk.inj hq
        exact spoken_a0 hL h0 hy x1 x2 k1 hk hb.1 hb.2
      rename_i l2 k1
      split at ht
      · cases ht
      rename_i mm k2
      obtain ⟨m1, m2⟩ := num_bds (by omega) k2
      split at ht
      · rename_i k3
        obtain ⟨rfl, hq⟩ := Prod.mk.inj (Option.some.inj ht)
        obtain ⟨rfl, rfl⟩ := Prod.mk.inj hq
        exact spoken_a1 hL h0 hy x1 x2 k1 k2 m1 m2 k3 hk hb.1 hb.2
      rename_i l3 k3
      split at ht
      · cases ht
      rename_i ss k4
      obtain ⟨s1, s2⟩ := num_bds (by omega) k4
      obtain ⟨rfl, hq⟩ := Prod.mk.inj (Option.some.inj ht)
      obtain ⟨rfl, rfl⟩ := Prod.mk.inj hq
      exact spoken_a2 hL h0 hy x1 x2 k1 k2 m1 m2 k3 k4 s1 s2 hk hb.1 hb.2
    · cases hx
theorem spoken_no {w0 w : World} {b : Nat} {l : List UInt8} (hL : Rd w0 b l w) (h : Dat.spokenP l = none) :
    Calls Tryz.prog 20 #[.pointer (some ⟨b, 0, none⟩)] w fun e w' => ∃ v, e = .returned (.tuple #[.int .i64 v, .bool false]) ∧ ∃ r, Rd w0 b r w' := by
  unfold Dat.spokenP Dat.hourP at h
  cases h0 : Dat.num? 2 1 12 l with
  | some x =>
    obtain ⟨x1, x2⟩ := num_bds (by omega) h0
    rw [h0] at h
    simp only [] at h
    unfold Dat.tailP at h
    cases k1 : Dat.rd1 58 (l.drop 2) with
    | none =>
      rw [k1] at h
      simp only [] at h
      cases hh : Dat.halfN (l.drop 2) with
      | none => exact spoken_b0_no hL h0 x1 x2 k1 hh
      | some k => rw [hh] at h; cases h
    | some l2 =>
      rw [k1] at h
      simp only [] at h
      cases k2 : Dat.num? 2 0 59 l2 with
      | none => exact spoken_b1_bad hL h0 x1 x2 k1 k2
      | some m =>
        obtain ⟨m1, m2⟩ := num_bds (by omega) k2
        rw [k2] at h
        simp only [] at h
        cases k3 : Dat.rd1 58 (l2.drop 2) with
        | none =>
          rw [k3] at h
          simp only [] at h
          cases hh : Dat.halfN (l2.drop 2) with
          | none => exact spoken_b1_no hL h0 x1 x2 k1 k2 m1 m2 k3 hh
          | some k => rw [hh] at h; cases h
        | some l3 =>
          rw [k3] at h
          simp only [] at h
          cases k4 : Dat.num? 2 0 59 l3 with
          | none => exact spoken_b2_bad hL h0 x1 x2 k1 k2 m1 m2 k3 k4
          | some s =>
            obtain ⟨s1, s2⟩ := num_bds (by omega) k4
            rw [k4] at h
            simp only [] at h
            cases hh : Dat.halfN (l3.drop 2) with
            | none => exact spoken_b2_no hL h0 x1 x2 k1 k2 m1 m2 k3 k4 s1 s2 hh
            | some k => rw [hh] at h; cases h
  | none =>
    rw [h0] at h
    simp only [] at h
    cases h1 : Dat.num? 1 1 9 l with
    | none => exact spoken_hour_no hL h0 h1
    | some x =>
      obtain ⟨x1, x2⟩ := num_bds (by omega) h1
      rw [h1] at h
      simp only [] at h
      unfold Dat.tailP at h
      cases k1 : Dat.rd1 58 (l.drop 1) with
      | none =>
        rw [k1] at h
        simp only [] at h
        cases hh : Dat.halfN (l.drop 1) with
        | none => exact spoken_a0_no hL h0 h1 x1 x2 k1 hh
        | some k => rw [hh] at h; cases h
      | some l2 =>
        rw [k1] at h
        simp only [] at h
        cases k2 : Dat.num? 2 0 59 l2 with
        | none => exact spoken_a1_bad hL h0 h1 x1 x2 k1 k2
        | some m =>
          obtain ⟨m1, m2⟩ := num_bds (by omega) k2
          rw [k2] at h
          simp only [] at h
          cases k3 : Dat.rd1 58 (l2.drop 2) with
          | none =>
            rw [k3] at h
            simp only [] at h
            cases hh : Dat.halfN (l2.drop 2) with
            | none => exact spoken_a1_no hL h0 h1 x1 x2 k1 k2 m1 m2 k3 hh
            | some k => rw [hh] at h; cases h
          | some l3 =>
            rw [k3] at h
            simp only [] at h
            cases k4 : Dat.num? 2 0 59 l3 with
            | none => exact spoken_a2_bad hL h0 h1 x1 x2 k1 k2 m1 m2 k3 k4
            | some s =>
              obtain ⟨s1, s2⟩ := num_bds (by omega) k4
              rw [k4] at h
              simp only [] at h
              cases hh : Dat.halfN (l3.drop 2) with
              | none => exact spoken_a2_no hL h0 h1 x1 x2 k1 k2 m1 m2 k3 k4 s1 s2 hh
              | some k => rw [hh] at h; cases h
set_option maxRecDepth 100000 in
set_option maxHeartbeats 1000000 in
theorem whole_spoken_yes {w : World} {l : List UInt8} {v : Int}
    (hm : Calls Tryz.prog 20 #[.pointer (some ⟨w.heap.size, 0, none⟩)] (w.alloc (.cells #[.string (str l)] 58)) fun e w' => e = .returned (.tuple #[.int .i64 v, .bool true]) ∧ Rd (w.alloc (.cells #[.string (str l)] 58)) w.heap.size [] w') :
    Calls Tryz.prog 18 #[.string (str l), .func (.func 20) #[] #[]] w fun e w' => e = .returned (numV (some v)) ∧ Below w.heap.size w w' := by
  have hB0 := (Below.refl _ w).alloc (Nat.le_refl _) (.cells #[.string (str l)] 58)
  have hq := left_no (l := []) rfl
  go_enter Tryz.func18, Tryz.ntmps18
  go_wp2_with (first
    | (go_at_call 20; refine hm.mono ?_; rintro e w1 ⟨rfl, hR⟩; have hcell := hR.cell; have hB1 := hB0.trans (hR.kept.below w.heap.size (Nat.le_refl _) (by simp))))
  go_ret2
  exact ⟨rfl, hB1⟩
set_option maxRecDepth 100000 in
set_option maxHeartbeats 1000000 in
theorem whole_spoken_left {w : World} {l r : List UInt8} {v : Int} (hr : ¬ r = [])
    (hm : Calls Tryz.prog 20 #[.pointer (some ⟨w.heap.size, 0, none⟩)] (w.alloc (.cells #[.string (str l)] 58)) fun e w' => e = .returned (.tuple #[.int .i64 v, .bool true]) ∧ Rd (w.alloc (.cells #[.string (str l)] 58)) w.heap.size r w') :
    Calls Tryz.prog 18 #[.string (str l), .func (.func 20) #[] #[]] w fun e w' => e = .returned (numV none) ∧ Below w.heap.size w w' := by
  have hB0 := (Below.refl _ w).alloc (Nat.le_refl _) (.cells #[.string (str l)] 58)
  have hq := left_some hr
  go_enter Tryz.func18, Tryz.ntmps18
  go_wp2_with (first
    | (go_at_call 20; refine hm.mono ?_; rintro e w1 ⟨rfl, hR⟩; have hcell := hR.cell; have hB1 := hB0.trans (hR.kept.below w.heap.size (Nat.le_refl _) (by simp))))
  go_ret2
  exact ⟨rfl, hB1⟩
set_option maxRecDepth 100000 in
set_option maxHeartbeats 1000000 in
theorem whole_spoken_no {w : World} {l : List UInt8}
    (hm : Calls Tryz.prog 20 #[.pointer (some ⟨w.heap.size, 0, none⟩)] (w.alloc (.cells #[.string (str l)] 58)) fun e w' => ∃ v, e = .returned (.tuple #[.int .i64 v, .bool false]) ∧ ∃ r, Rd (w.alloc (.cells #[.string (str l)] 58)) w.heap.size r w') :
    Calls Tryz.prog 18 #[.string (str l), .func (.func 20) #[] #[]] w fun e w' => e = .returned (numV none) ∧ Below w.heap.size w w' := by
  have hB0 := (Below.refl _ w).alloc (Nat.le_refl _) (.cells #[.string (str l)] 58)
  go_enter Tryz.func18, Tryz.ntmps18
  go_wp2_with (first
    | (go_at_call 20; refine hm.mono ?_; rintro e w1 ⟨v, rfl, r, hR⟩; have hcell := hR.cell; have hB1 := hB0.trans (hR.kept.below w.heap.size (Nat.le_refl _) (by simp))))
  go_ret2
  exact ⟨rfl, hB1⟩
theorem whole_spoken_any {w : World} {l : List UInt8} (hA : Ahead w) (hl : l.length ≤ 100000) :
    Calls Tryz.prog 18 #[.string (str l), .func (.func 20) #[] #[]] w fun e w' => e = .returned (numV (Dat.spokenP l)) ∧ Below w.heap.size w w' := by
  have hR0 := start_Rd1 w l hA hl
  cases h : Dat.spokenP l with
  | none =>
    refine whole_spoken_no ((spoken_no hR0 h).mono ?_)
    rintro e w' ⟨v, rfl, r, hR⟩
    exact ⟨v, rfl, r, hR⟩
  | some v => exact whole_spoken_yes (spoken_yes hR0 h)
/-- A clock's time. -/
def clkR (l : List UInt8) : Option Int := match Dat.timeR l with
  | some t => some t
  | none => Dat.spokenR l
set_option maxRecDepth 100000 in
set_option maxHeartbeats 1000000 in
theorem Clock_date (l : List UInt8) (w : World) (hA : Ahead w) (hl : l.length ≤ 100000) :
    Calls Tryz.prog 7 #[.string (str l)] w fun e w' => e = .returned (numV (clkR l)) ∧ Below w.heap.size w w' := by
  have h1 := fun w hA => whole_clock_any (w := w) (l := l) hA hl
  have h2 := fun w hA => whole_spoken_any (w := w) (l := l) hA hl
  rw [Dat.time_eq] at h1
  rw [Dat.spoken_eq] at h2
  unfold clkR
  cases ht : Dat.timeR l with
  | some t =>
    rw [ht] at h1
    have h1' : ∀ w, Ahead w → Calls Tryz.prog 18 #[.string (str l), .func (.func 19) #[] #[]] w fun e w' => e = .returned (.tuple #[.int .i64 t, .int .i64 0]) ∧ Below w.heap.size w w' := h1
    clear h1 h2 ht
    go_enter Tryz.func7, Tryz.ntmps7
    go_wp2_with (first
      | (go_at_call 18; refine (h1' _ hA).mono ?_; rintro e w1 ⟨rfl, hb⟩))
    go_ret2
    exact ⟨rfl, hb⟩
  | none =>
    rw [ht] at h1
    have h1' : ∀ w, Ahead w → Calls Tryz.prog 18 #[.string (str l), .func (.func 19) #[] #[]] w fun e w' => e = .returned (.tuple #[.int .i64 0, .int .i64 3]) ∧ Below w.heap.size w w' := h1
    simp only []
    unfold numV at h2 ⊢
    generalize (Dat.spokenR l).getD 0 = v at h2
    generalize optE (Dat.spokenR l) = er at h2
    clear h1 ht
    go_enter Tryz.func7, Tryz.ntmps7
    go_wp2_with (first
      | (go_at_call 18; refine (h1' _ hA).mono ?_; rintro e w1 ⟨rfl, hb⟩; have hA1 := hA.below hb; clear h1')
      | (go_at_call 18; refine (h2 _ hA1).mono ?_; rintro e w2 ⟨rfl, hb2⟩))
    go_ret2
    exact ⟨rfl, hb.trans (hb2.mono hb.size)⟩
end Go.Proofs.YtnklbeldheocmaaGreatDoor
