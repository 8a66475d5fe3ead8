/- Contracts of whole at the reader's day, clock and zone; of Day and Zone. -/
import Derived.Test.YtnklbeldheocmaaGreatDoorKDateE
namespace Go.Proofs.YtnklbeldheocmaaGreatDoor
open Go.RowKit
theorem start_Rd1 (w : World) (l : List UInt8) (hA : Ahead w) (hl : l.length ≤ 100000) :
    Rd (w.alloc (.cells #[.string (str l)] 58)) w.heap.size l (w.alloc (.cells #[.string (str l)] 58)) := by
  have hb := (Below.refl _ w).alloc (Nat.le_refl _) (.cells #[.string (str l)] 58)
  exact ⟨heap_alloc_last w _, hl, hA.lt, hA.below hb, Kept.refl _ _⟩
/-- A number, or none, and the error. -/
def numV (x : Option Int) : Value := .tuple #[.int .i64 (x.getD 0), .int .i64 (optE x)]
theorem whole_not {x : Option (Int × List UInt8)} {v : Int} {r : List UInt8} (h : x = some (v, r)) (hr : ¬ r = []) : Dat.whole x = none := by
  cases hx : Dat.whole x with
  | none => rfl
  | some y =>
    have := Dat.whole_some.1 hx
    rw [h] at this
    exact absurd (congrArg Prod.snd (Option.some.inj this)) hr
set_option maxRecDepth 100000 in
set_option maxHeartbeats 1000000 in
theorem whole_zone_yes {w : World} {l : List UInt8} {v : Int}
    (hm : Calls Tryz.prog 23 #[.pointer (some ⟨w.heap.size, 0, none⟩)] (w.alloc (.cells #[.string (str l)] 58)) fun e w' => e = .returned (.tuple #[.int .i64 v, .bool true]) ∧ Rd (w.alloc (.cells #[.string (str l)] 58)) w.heap.size [] w') :
    Calls Tryz.prog 18 #[.string (str l), .func (.func 23) #[] #[]] w fun e w' => e = .returned (numV (some v)) ∧ Below w.heap.size w w' := by
  have hB0 := (Below.refl _ w).alloc (Nat.le_refl _) (.cells #[.string (str l)] 58)
  have hq := left_no (l := []) rfl
  go_enter Tryz.func18, Tryz.ntmps18
  go_wp2_with (first
    | (go_at_call 23; refine hm.mono ?_; rintro e w1 ⟨rfl, hR⟩; have hcell := hR.cell; have hB1 := hB0.trans (hR.kept.below w.heap.size (Nat.le_refl _) (by simp))))
  go_ret2
  exact ⟨rfl, hB1⟩
set_option maxRecDepth 100000 in
set_option maxHeartbeats 1000000 in
theorem whole_zone_left {w : World} {l r : List UInt8} {v : Int} (hr : ¬ r = [])
    (hm : Calls Tryz.prog 23 #[.pointer (some ⟨w.heap.size, 0, none⟩)] (w.alloc (.cells #[.string (str l)] 58)) fun e w' => e = .returned (.tuple #[.int .i64 v, .bool true]) ∧ Rd (w.alloc (.cells #[.string (str l)] 58)) w.heap.size r w') :
    Calls Tryz.prog 18 #[.string (str l), .func (.func 23) #[] #[]] w fun e w' => e = .returned (numV none) ∧ Below w.heap.size w w' := by
  have hB0 := (Below.refl _ w).alloc (Nat.le_refl _) (.cells #[.string (str l)] 58)
  have hq := left_some hr
  go_enter Tryz.func18, Tryz.ntmps18
  go_wp2_with (first
    | (go_at_call 23; refine hm.mono ?_; rintro e w1 ⟨rfl, hR⟩; have hcell := hR.cell; have hB1 := hB0.trans (hR.kept.below w.heap.size (Nat.le_refl _) (by simp))))
  go_ret2
  exact ⟨rfl, hB1⟩
set_option maxRecDepth 100000 in
set_option maxHeartbeats 1000000 in
theorem whole_zone_no {w : World} {l : List UInt8}
    (hm : Calls Tryz.prog 23 #[.pointer (some ⟨w.heap.size, 0, none⟩)] (w.alloc (.cells #[.string (str l)] 58)) fun e w' => ∃ v, e = .returned (.tuple #[.int .i64 v, .bool false]) ∧ ∃ r, Rd (w.alloc (.cells #[.string (str l)] 58)) w.heap.size r w') :
    Calls Tryz.prog 18 #[.string (str l), .func (.func 23) #[] #[]] w fun e w' => e = .returned (numV none) ∧ Below w.heap.size w w' := by
  have hB0 := (Below.refl _ w).alloc (Nat.le_refl _) (.cells #[.string (str l)] 58)
  go_enter Tryz.func18, Tryz.ntmps18
  go_wp2_with (first
    | (go_at_call 23; refine hm.mono ?_; rintro e w1 ⟨v, rfl, r, hR⟩; have hcell := hR.cell; have hB1 := hB0.trans (hR.kept.below w.heap.size (Nat.le_refl _) (by simp))))
  go_ret2
  exact ⟨rfl, hB1⟩
theorem whole_zone_any {w : World} {l : List UInt8} (hA : Ahead w) (hl : l.length ≤ 100000) :
    Calls Tryz.prog 18 #[.string (str l), .func (.func 23) #[] #[]] w fun e w' => e = .returned (numV (Dat.whole (Dat.zoneP l))) ∧ Below w.heap.size w w' := by
  have hR0 := start_Rd1 w l hA hl
  cases h : Dat.zoneP l with
  | none =>
    refine whole_zone_no ((zone_no hR0 h).mono ?_)
    rintro e w' ⟨v, rfl, r, hR⟩
    exact ⟨v, rfl, r, hR⟩
  | some x =>
    obtain ⟨v, r⟩ := x
    by_cases hr : r = []
    · subst hr
      exact whole_zone_yes (zone_yes hR0 h)
    · rw [whole_not rfl hr]
      exact whole_zone_left hr (zone_yes hR0 h)
set_option maxRecDepth 100000 in
set_option maxHeartbeats 1000000 in
theorem Zone_date (l : List UInt8) (w : World) (hA : Ahead w) (hl : l.length ≤ 100000) :
    Calls Tryz.prog 9 #[.string (str l)] w fun e w' => e = .returned (numV (Dat.zoneR l)) ∧ Below w.heap.size w w' := by
  have hw := whole_zone_any (w := w) (l := l) hA hl
  rw [Dat.zone_eq] at hw
  unfold numV at hw ⊢
  generalize (Dat.zoneR l).getD 0 = v at hw
  generalize optE (Dat.zoneR l) = er at hw
  go_enter Tryz.func9, Tryz.ntmps9
  go_wp2_with (first
    | (go_at_call 18; refine hw.mono ?_; rintro e w1 ⟨rfl, hb⟩))
  go_ret2
  exact ⟨rfl, hb⟩
set_option maxRecDepth 100000 in
set_option maxHeartbeats 1000000 in
theorem whole_day_yes {w : World} {l : List UInt8} {v : Int}
    (hm : Calls Tryz.prog 14 #[.pointer (some ⟨w.heap.size, 0, none⟩)] (w.alloc (.cells #[.string (str l)] 58)) fun e w' => e = .returned (.tuple #[.int .i64 v, .bool true]) ∧ Rd (w.alloc (.cells #[.string (str l)] 58)) w.heap.size [] w') :
    Calls Tryz.prog 13 #[.string (str l), .func (.func 14) #[] #[]] w fun e w' => e = .returned (numV (some v)) ∧ Below w.heap.size w w' := by
  have hB0 := (Below.refl _ w).alloc (Nat.le_refl _) (.cells #[.string (str l)] 58)
  have hq := left_no (l := []) rfl
  go_enter Tryz.func13, Tryz.ntmps13
  go_wp2_with (first
    | (go_at_call 14; refine hm.mono ?_; rintro e w1 ⟨rfl, hR⟩; have hcell := hR.cell; have hB1 := hB0.trans (hR.kept.below w.heap.size (Nat.le_refl _) (by simp))))
  go_ret2
  exact ⟨rfl, hB1⟩
set_option maxRecDepth 100000 in
set_option maxHeartbeats 1000000 in
theorem whole_day_left {w : World} {l r : List UInt8} {v : Int} (hr : ¬ r = [])
    (hm : Calls Tryz.prog 14 #[.pointer (some ⟨w.heap.size, 0, none⟩)] (w.alloc (.cells #[.string (str l)] 58)) fun e w' => e = .returned (.tuple #[.int .i64 v, .bool true]) ∧ Rd (w.alloc (.cells #[.string (str l)] 58)) w.heap.size r w') :
    Calls Tryz.prog 13 #[.string (str l), .func (.func 14) #[] #[]] w fun e w' => e = .returned (numV none) ∧ Below w.heap.size w w' := by
  have hB0 := (Below.refl _ w).alloc (Nat.le_refl _) (.cells #[.string (str l)] 58)
  have hq := left_some hr
  go_enter Tryz.func13, Tryz.ntmps13
  go_wp2_with (first
    | (go_at_call 14; refine hm.mono ?_; rintro e w1 ⟨rfl, hR⟩; have hcell := hR.cell; have hB1 := hB0.trans (hR.kept.below w.heap.size (Nat.le_refl _) (by simp))))
  go_ret2
  exact ⟨rfl, hB1⟩
set_option maxRecDepth 100000 in
set_option maxHeartbeats 1000000 in
theorem whole_day_no {w : World} {l : List UInt8}
    (hm : Calls Tryz.prog 14 #[.pointer (some ⟨w.heap.size, 0, none⟩)] (w.alloc (.cells #[.string (str l)] 58)) fun e w' => ∃ v, e = .returned (.tuple #[.int .i64 v, .bool false]) ∧ ∃ r, Rd (w.alloc (.cells #[.string (str l)] 58)) w.heap.size r w') :
    Calls Tryz.prog 13 #[.string (str l), .func (.func 14) #[] #[]] w fun e w' => e = .returned (numV none) ∧ Below w.heap.size w w' := by
  have hB0 := (Below.refl _ w).alloc (Nat.le_refl _) (.cells #[.string (str l)] 58)
  go_enter Tryz.func13, Tryz.ntmps13
  go_wp2_with (first
    | (go_at_call 14; refine hm.mono ?_; rintro e w1 ⟨v, rfl, r, hR⟩; have hcell := hR.cell; have hB1 := hB0.trans (hR.kept.below w.heap.size (Nat.le_refl _) (by simp))))
  go_ret2
  exact ⟨rfl, hB1⟩
theorem whole_day_any {w : World} {l : List UInt8} (hA : Ahead w) (hl : l.length ≤ 100000) :
    Calls Tryz.prog 13 #[.string (str l), .func (.func 14) #[] #[]] w fun e w' => e = .returned (numV (Dat.whole (Dat.dayP l))) ∧ Below w.heap.size w w' := by
  have hR0 := start_Rd1 w l hA hl
  cases h : Dat.dayP l with
  | none =>
    refine whole_day_no ((day_no hR0 h).mono ?_)
    rintro e w' ⟨rfl, r, hR⟩
    exact ⟨0, rfl, r, hR⟩
  | some x =>
    obtain ⟨v, r⟩ := x
    by_cases hr : r = []
    · subst hr
      exact whole_day_yes (day_yes hR0 h)
    · rw [whole_not rfl hr]
      exact whole_day_left hr (day_yes hR0 h)
set_option maxRecDepth 100000 in
set_option maxHeartbeats 1000000 in
theorem Day_date (l : List UInt8) (w : World) (hA : Ahead w) (hl : l.length ≤ 100000) :
    Calls Tryz.prog 5 #[.string (str l)] w fun e w' => e = .returned (numV (Dat.dayR l)) ∧ Below w.heap.size w w' := by
  have hw := whole_day_any (w := w) (l := l) hA hl
  rw [Dat.day_eq] at hw
  unfold numV at hw ⊢
  generalize (Dat.dayR l).getD 0 = v at hw
  generalize optE (Dat.dayR l) = er at hw
  go_enter Tryz.func5, Tryz.ntmps5
  go_wp2_with (first
    | (go_at_call 13; refine hw.mono ?_; rintro e w1 ⟨rfl, hb⟩))
  go_ret2
  exact ⟨rfl, hb⟩
set_option maxRecDepth 100000 in
set_option maxHeartbeats 1000000 in
theorem whole_clock_yes {w : World} {l : List UInt8} {v : Int}
    (hm : Calls Tryz.prog 19 #[.pointer (some ⟨w.heap.size, 0, none⟩)] (w.alloc (.cells #[.string (str l)] 58)) fun e w' => e = .returned (.tuple #[.int .i64 v, .bool true]) ∧ Rd (w.alloc (.cells #[.string (str l)] 58)) w.heap.size [] w') :
    Calls Tryz.prog 18 #[.string (str l), .func (.func 19) #[] #[]] w fun e w' => e = .returned (numV (some v)) ∧ Below w.heap.size w w' := by
  have hB0 := (Below.refl _ w).alloc (Nat.le_refl _) (.cells #[.string (str l)] 58)
  have hq := left_no (l := []) rfl
  go_enter Tryz.func18, Tryz.ntmps18
  go_wp2_with (first
    | (go_at_call 19; refine hm.mono ?_; rintro e w1 ⟨rfl, hR⟩; have hcell := hR.cell; have hB1 := hB0.trans (hR.kept.below w.heap.size (Nat.le_refl _) (by simp))))
  go_ret2
  exact ⟨rfl, hB1⟩
set_option maxRecDepth 100000 in
set_option maxHeartbeats 1000000 in
theorem whole_clock_left {w : World} {l r : List UInt8} {v : Int} (hr : ¬ r = [])
    (hm : Calls Tryz.prog 19 #[.pointer (some ⟨w.heap.size, 0, none⟩)] (w.alloc (.cells #[.string (str l)] 58)) fun e w' => e = .returned (.tuple #[.int .i64 v, .bool true]) ∧ Rd (w.alloc (.cells #[.string (str l)] 58)) w.heap.size r w') :
    Calls Tryz.prog 18 #[.string (str l), .func (.func 19) #[] #[]] w fun e w' => e = .returned (numV none) ∧ Below w.heap.size w w' := by
  have hB0 := (Below.refl _ w).alloc (Nat.le_refl _) (.cells #[.string (str l)] 58)
  have hq := left_some hr
  go_enter Tryz.func18, Tryz.ntmps18
  go_wp2_with (first
    | (go_at_call 19; refine hm.mono ?_; rintro e w1 ⟨rfl, hR⟩; have hcell := hR.cell; have hB1 := hB0.trans (hR.kept.below w.heap.size (Nat.le_refl _) (by simp))))
  go_ret2
  exact ⟨rfl, hB1⟩
set_option maxRecDepth 100000 in
set_option maxHeartbeats 1000000 in
theorem whole_clock_no {w : World} {l : List UInt8}
    (hm : Calls Tryz.prog 19 #[.pointer (some ⟨w.heap.size, 0, none⟩)] (w.alloc (.cells #[.string (str l)] 58)) fun e w' => ∃ v, e = .returned (.tuple #[.int .i64 v, .bool false]) ∧ ∃ r, Rd (w.alloc (.cells #[.string (str l)] 58)) w.heap.size r w') :
    Calls Tryz.prog 18 #[.string (str l), .func (.func 19) #[] #[]] w fun e w' => e = .returned (numV none) ∧ Below w.heap.size w w' := by
  have hB0 := (Below.refl _ w).alloc (Nat.le_refl _) (.cells #[.string (str l)] 58)
  go_enter Tryz.func18, Tryz.ntmps18
  go_wp2_with (first
    | (go_at_call 19; refine hm.mono ?_; rintro e w1 ⟨v, rfl, r, hR⟩; have hcell := hR.cell; have hB1 := hB0.trans (hR.kept.below w.heap.size (Nat.le_refl _) (by simp))))
  go_ret2
  exact ⟨rfl, hB1⟩
theorem whole_clock_any {w : World} {l : List UInt8} (hA : Ahead w) (hl : l.length ≤ 100000) :
    Calls Tryz.prog 18 #[.string (str l), .func (.func 19) #[] #[]] w fun e w' => e = .returned (numV (Dat.whole (Dat.clockP l))) ∧ Below w.heap.size w w' := by
  have hR0 := start_Rd1 w l hA hl
  cases h : Dat.clockP l with
  | none =>
    refine whole_clock_no ((clock_no hR0 h).mono ?_)
    rintro e w' ⟨v, rfl, r, hR⟩
    exact ⟨v, rfl, r, hR⟩
  | some x =>
    obtain ⟨v, r⟩ := x
    by_cases hr : r = []
    · subst hr
      exact whole_clock_yes (clock_yes hR0 h)
    · rw [whole_not rfl hr]
      exact whole_clock_left hr (clock_yes hR0 h)
end Go.Proofs.YtnklbeldheocmaaGreatDoor
