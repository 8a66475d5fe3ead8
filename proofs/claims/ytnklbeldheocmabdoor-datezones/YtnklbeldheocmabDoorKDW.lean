/- Contracts of whole at the reader's day, clock and zone; of Day and Zone. -/
import Derived.Test.YtnklbeldheocmabDoorKDateE
namespace Go.Proofs.YtnklbeldheocmabDoor
open Go.RowKit
theorem start_Rd1 (w : World) (l : List UInt8) (hA : Ahead w) (hl : l.length ≤ 100000) :
    Rd (w.alloc (.cells #[.string (str l)] 56)) w.heap.size l (w.alloc (.cells #[.string (str l)] 56)) := by
  have hb := (Below.refl _ w).alloc (Nat.le_refl _) (.cells #[.string (str l)] 56)
  exact ⟨heap_alloc_last w _, hl, hA.lt, hA.below hb, Kept.refl _ _⟩
/-- A number, or none, and the error. -/
def numV (x : Option Int) : Value := .tuple #[.int .i64 (x.getD 0), .int .i64 (optE x)]
theorem whole_not {x : Option (Int × List UInt8)} {v : Int} {r : List UInt8} (h : x = some (v, r)) (hr : ¬ r = []) : Dat.whole x = none := by
  cases hx : Dat.whole x with
  | none => rfl
  | some y =>
    have := Dat.whole_some.1 hx
    rw [h] at this
    exact absurd (congrArg Prod.snd (Option.some.inj this)) hr
set_option maxRecDepth 100000 in
set_option maxHeartbeats 1000000 in
theorem whole_zone_yes {w : World} {l : List UInt8} {v : Int}
    (hm : Calls Tryd.prog 16 #[.pointer (some ⟨w.heap.size, 0, none⟩)] (w.alloc (.cells #[.string (str l)] 56)) fun e w' => e = .returned (.tuple #[.int .i64 v, .bool true]) ∧ Rd (w.alloc (.cells #[.string (str l)] 56)) w.heap.size [] w') :
    Calls Tryd.prog 15 #[.string (str l), .func (.func 16) #[] #[]] w fun e w' => e = .returned (numV (some v)) ∧ Below w.heap.size w w' := by
  have hB0 := (Below.refl _ w).alloc (Nat.le_refl _) (.cells #[.string (str l)] 56)
  have hq := left_no (l := []) rfl
  go_enter Tryd.func15, Tryd.ntmps15
  go_wp2_with (first
    | (go_at_call 16; refine hm.mono ?_; rintro e w1 ⟨rfl, hR⟩; have hcell := hR.cell; have hB1 := hB0.trans (hR.kept.below w.heap.size (Nat.le_refl _) (by simp))))
  go_ret2
  exact ⟨rfl, hB1⟩
set_option maxRecDepth 100000 in
set_option maxHeartbeats 1000000 in
theorem whole_zone_left {w : World} {l r : List UInt8} {v : Int} (hr : ¬ r = [])
    (hm : Calls Tryd.prog 16 #[.pointer (some ⟨w.heap.size, 0, none⟩)] (w.alloc (.cells #[.string (str l)] 56)) fun e w' => e = .returned (.tuple #[.int .i64 v, .bool true]) ∧ Rd (w.alloc (.cells #[.string (str l)] 56)) w.heap.size r w') :
    Calls Tryd.prog 15 #[.string (str l), .func (.func 16) #[] #[]] w fun e w' => e = .returned (numV none) ∧ Below w.heap.size w w' := by
  have hB0 := (Below.refl _ w).alloc (Nat.le_refl _) (.cells #[.string (str l)] 56)
  have hq := left_some hr
  go_enter Tryd.func15, Tryd.ntmps15
  go_wp2_with (first
    | (go_at_call 16; refine hm.mono ?_; rintro e w1 ⟨rfl, hR⟩; have hcell := hR.cell; have hB1 := hB0.trans (hR.kept.below w.heap.size (Nat.le_refl _) (by simp))))
  go_ret2
  exact ⟨rfl, hB1⟩
set_option maxRecDepth 100000 in
set_option maxHeartbeats 1000000 in
theorem whole_zone_no {w : World} {l : List UInt8}
    (hm : Calls Tryd.prog 16 #[.pointer (some ⟨w.heap.size, 0, none⟩)] (w.alloc (.cells #[.string (str l)] 56)) fun e w' => ∃ v, e = .returned (.tuple #[.int .i64 v, .bool false]) ∧ ∃ r, Rd (w.alloc (.cells #[.string (str l)] 56)) w.heap.size r w') :
    Calls Tryd.prog 15 #[.string (str l), .func (.func 16) #[] #[]] w fun e w' => e = .returned (numV none) ∧ Below w.heap.size w w' := by
  have hB0 := (Below.refl _ w).alloc (Nat.le_refl _) (.cells #[.string (str l)] 56)
  go_enter Tryd.func15, Tryd.ntmps15
  go_wp2_with (first
    | (go_at_call 16; refine hm.mono ?_; rintro e w1 ⟨v, rfl, r, hR⟩; have hcell := hR.cell; have hB1 := hB0.trans (hR.kept.below w.heap.size (Nat.le_refl _) (by simp))))
  go_ret2
  exact ⟨rfl, hB1⟩
theorem whole_zone_any {w : World} {l : List UInt8} (hA : Ahead w) (hl : l.length ≤ 100000) :
    Calls Tryd.prog 15 #[.string (str l), .func (.func 16) #[] #[]] w fun e w' => e = .returned (numV (Dat.whole (Dat.zoneP l))) ∧ Below w.heap.size w w' := by
  have hR0 := start_Rd1 w l hA hl
  cases h : Dat.zoneP l with
  | none =>
    refine whole_zone_no ((zone_no hR0 h).mono ?_)
    rintro e w' ⟨v, rfl, r, hR⟩
    exact ⟨v, rfl, r, hR⟩
  | some x =>
    obtain ⟨v, r⟩ := x
    by_cases hr : r = []
    · subst hr
      exact whole_zone_yes (zone_yes hR0 h)
    · rw [whole_not rfl hr]
      exact whole_zone_left hr (zone_yes hR0 h)
set_option maxRecDepth 100000 in
set_option maxHeartbeats 1000000 in
theorem Zone_date (l : List UInt8) (w : World) (hA : Ahead w) (hl : l.length ≤ 100000) :
    Calls Tryd.prog 8 #[.string (str l)] w fun e w' => e = .returned (numV (Dat.zoneR l)) ∧ Below w.heap.size w w' := by
  have hw := whole_zone_any (w := w) (l := l) hA hl
  rw [Dat.zone_eq] at hw
  unfold numV at hw ⊢
  generalize (Dat.zoneR l).getD 0 = v at hw
  generalize optE (Dat.zoneR l) = er at hw
  go_enter Tryd.func8, Tryd.ntmps8
  go_wp2_with (first
    | (go_at_call 15; refine hw.mono ?_; rintro e w1 ⟨rfl, hb⟩))
  go_ret2
  exact ⟨rfl, hb⟩
set_option maxRecDepth 100000 in
set_option maxHeartbeats 1000000 in
theorem whole_clock_yes {w : World} {l : List UInt8} {v : Int}
    (hm : Calls Tryd.prog 28 #[.pointer (some ⟨w.heap.size, 0, none⟩)] (w.alloc (.cells #[.string (str l)] 56)) fun e w' => e = .returned (.tuple #[.int .i64 v, .bool true]) ∧ Rd (w.alloc (.cells #[.string (str l)] 56)) w.heap.size [] w') :
    Calls Tryd.prog 15 #[.string (str l), .func (.func 28) #[] #[]] w fun e w' => e = .returned (numV (some v)) ∧ Below w.heap.size w w' := by
  have hB0 := (Below.refl _ w).alloc (Nat.le_refl _) (.cells #[.string (str l)] 56)
  have hq := left_no (l := []) rfl
  go_enter Tryd.func15, Tryd.ntmps15
  go_wp2_with (first
    | (go_at_call 28; refine hm.mono ?_; rintro e w1 ⟨rfl, hR⟩; have hcell := hR.cell; have hB1 := hB0.trans (hR.kept.below w.heap.size (Nat.le_refl _) (by simp))))
  go_ret2
  exact ⟨rfl, hB1⟩
set_option maxRecDepth 100000 in
set_option maxHeartbeats 1000000 in
theorem whole_clock_left {w : World} {l r : List UInt8} {v : Int} (hr : ¬ r = [])
    (hm : Calls Tryd.prog 28 #[.pointer (some ⟨w.heap.size, 0, none⟩)] (w.alloc (.cells #[.string (str l)] 56)) fun e w' => e = .returned (.tuple #[.int .i64 v, .bool true]) ∧ Rd (w.alloc (.cells #[.string (str l)] 56)) w.heap.size r w') :
    Calls Tryd.prog 15 #[.string (str l), .func (.func 28) #[] #[]] w fun e w' => e = .returned (numV none) ∧ Below w.heap.size w w' := by
  have hB0 := (Below.refl _ w).alloc (Nat.le_refl _) (.cells #[.string (str l)] 56)
  have hq := left_some hr
  go_enter Tryd.func15, Tryd.ntmps15
  go_wp2_with (first
    | (go_at_call 28; refine hm.mono ?_; rintro e w1 ⟨rfl, hR⟩; have hcell := hR.cell; have hB1 := hB0.trans (hR.kept.below w.heap.size (Nat.le_refl _) (by simp))))
  go_ret2
  exact ⟨rfl, hB1⟩
set_option maxRecDepth 100000 in
set_option maxHeartbeats 1000000 in
theorem whole_clock_no {w : World} {l : List UInt8}
    (hm : Calls Tryd.prog 28 #[.pointer (some ⟨w.heap.size, 0, none⟩)] (w.alloc (.cells #[.string (str l)] 56)) fun e w' => ∃ v, e = .returned (.tuple #[.int .i64 v, .bool false]) ∧ ∃ r, Rd (w.alloc (.cells #[.string (str l)] 56)) w.heap.size r w') :
    Calls Tryd.prog 15 #[.string (str l), .func (.func 28) #[] #[]] w fun e w' => e = .returned (numV none) ∧ Below w.heap.size w w' := by
  have hB0 := (Below.refl _ w).alloc (Nat.le_refl _) (.cells #[.string (str l)] 56)
  go_enter Tryd.func15, Tryd.ntmps15
  go_wp2_with (first
    | (go_at_call 28; refine hm.mono ?_; rintro e w1 ⟨v, rfl, r, hR⟩; have hcell := hR.cell; have hB1 := hB0.trans (hR.kept.below w.heap.size (Nat.le_refl _) (by simp))))
  go_ret2
  exact ⟨rfl, hB1⟩
theorem whole_clock_any {w : World} {l : List UInt8} (hA : Ahead w) (hl : l.length ≤ 100000) :
    Calls Tryd.prog 15 #[.string (str l), .func (.func 28) #[] #[]] w fun e w' => e = .returned (numV (Dat.whole (Dat.clockP l))) ∧ Below w.heap.size w w' := by
  have hR0 := start_Rd1 w l hA hl
  cases h : Dat.clockP l with
  | none =>
    refine whole_clock_no ((clock_no hR0 h).mono ?_)
    rintro e w' ⟨v, rfl, r, hR⟩
    exact ⟨v, rfl, r, hR⟩
  | some x =>
    obtain ⟨v, r⟩ := x
    by_cases hr : r = []
    · subst hr
      exact whole_clock_yes (clock_yes hR0 h)
    · rw [whole_not rfl hr]
      exact whole_clock_left hr (clock_yes hR0 h)
end Go.Proofs.YtnklbeldheocmabDoor
