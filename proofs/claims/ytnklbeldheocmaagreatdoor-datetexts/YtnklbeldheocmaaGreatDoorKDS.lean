/- Contracts of the reader's half and spoken, and of Clock. -/
import Derived.Test.YtnklbeldheocmaaGreatDoorKDW
import Derived.Test.YtnklbeldheocmaaGreatDoorKAscii
import Derived.Test.YtnklbeldheocmaaGreatDoorKDateA
import Derived.Test.YtnklbeldheocmaaGreatDoorKDR4
namespace Go.Proofs.YtnklbeldheocmaaGreatDoor
open Go.RowKit
set_option linter.unusedVariables false
set_option maxRecDepth 100000 in
set_option maxHeartbeats 1000000 in
theorem half_am {w0 w : World} {b : Nat} {l : List UInt8} (hL : Rd w0 b l w) (h : Asc.lower l = [97, 109]) :
    Calls Tryz.prog 40 #[.pointer (some ⟨b, 0, none⟩)] w fun e w' => e = .returned (.tuple #[.int .i64 0, .bool true]) ∧ Rd w0 b [] w' := by
  have hcell := hL.cell
  have hLow := fun w => Lower_any (str l) w (by rw [str_size]; have := hL.len; omega)
  simp only [str_data] at hLow
  rw [h] at hLow
  have hLow2 : ∀ w, Calls Tryz.prog 54 #[.string (str l)] w fun e w' => e = .returned (.string ⟨#[97, 109]⟩) ∧ Below w.heap.size w w' := hLow
  clear hLow
  have hLow := hLow2
  clear hLow2
  go_enter Tryz.func40, Tryz.ntmps40
  go_wp2_with (first
    | (go_at_call 54; refine (hLow _).mono ?_; rintro e wn ⟨rfl, hb⟩; replace hL := hL.step hb; clear hb; have hcell2 := hL.cell; have hfree2 := hL.free; have hR := hL.set [] (by simp)))
  go_ret2
  exact ⟨rfl, hR⟩
set_option maxRecDepth 100000 in
set_option maxHeartbeats 1000000 in
theorem half_adm {w0 w : World} {b : Nat} {l : List UInt8} (hL : Rd w0 b l w) (h : Asc.lower l = [97, 46, 109, 46]) :
    Calls Tryz.prog 40 #[.pointer (some ⟨b, 0, none⟩)] w fun e w' => e = .returned (.tuple #[.int .i64 0, .bool true]) ∧ Rd w0 b [] w' := by
  have hcell := hL.cell
  have hLow := fun w => Lower_any (str l) w (by rw [str_size]; have := hL.len; omega)
  simp only [str_data] at hLow
  rw [h] at hLow
  have hLow2 : ∀ w, Calls Tryz.prog 54 #[.string (str l)] w fun e w' => e = .returned (.string ⟨#[97, 46, 109, 46]⟩) ∧ Below w.heap.size w w' := hLow
  clear hLow
  have hLow := hLow2
  clear hLow2
  go_enter Tryz.func40, Tryz.ntmps40
  go_wp2_with (first
    | (go_at_call 54; refine (hLow _).mono ?_; rintro e wn ⟨rfl, hb⟩; replace hL := hL.step hb; clear hb; have hcell2 := hL.cell; have hfree2 := hL.free; have hR := hL.set [] (by simp)))
  go_ret2
  exact ⟨rfl, hR⟩
set_option maxRecDepth 100000 in
set_option maxHeartbeats 1000000 in
theorem half_pm {w0 w : World} {b : Nat} {l : List UInt8} (hL : Rd w0 b l w) (h : Asc.lower l = [112, 109]) :
    Calls Tryz.prog 40 #[.pointer (some ⟨b, 0, none⟩)] w fun e w' => e = .returned (.tuple #[.int .i64 12, .bool true]) ∧ Rd w0 b [] w' := by
  have hcell := hL.cell
  have hLow := fun w => Lower_any (str l) w (by rw [str_size]; have := hL.len; omega)
  simp only [str_data] at hLow
  rw [h] at hLow
  have hLow2 : ∀ w, Calls Tryz.prog 54 #[.string (str l)] w fun e w' => e = .returned (.string ⟨#[112, 109]⟩) ∧ Below w.heap.size w w' := hLow
  clear hLow
  have hLow := hLow2
  clear hLow2
  go_enter Tryz.func40, Tryz.ntmps40
  go_wp2_with (first
    | (go_at_call 54; refine (hLow _).mono ?_; rintro e wn ⟨rfl, hb⟩; replace hL := hL.step hb; clear hb; have hcell2 := hL.cell; have hfree2 := hL.free; have hR := hL.set [] (by simp)))
  go_ret2
  exact ⟨rfl, hR⟩
set_option maxRecDepth 100000 in
set_option maxHeartbeats 1000000 in
theorem half_pdm {w0 w : World} {b : Nat} {l : List UInt8} (hL : Rd w0 b l w) (h : Asc.lower l = [112, 46, 109, 46]) :
    Calls Tryz.prog 40 #[.pointer (some ⟨b, 0, none⟩)] w fun e w' => e = .returned (.tuple #[.int .i64 12, .bool true]) ∧ Rd w0 b [] w' := by
  have hcell := hL.cell
  have hLow := fun w => Lower_any (str l) w (by rw [str_size]; have := hL.len; omega)
  simp only [str_data] at hLow
  rw [h] at hLow
  have hLow2 : ∀ w, Calls Tryz.prog 54 #[.string (str l)] w fun e w' => e = .returned (.string ⟨#[112, 46, 109, 46]⟩) ∧ Below w.heap.size w w' := hLow
  clear hLow
  have hLow := hLow2
  clear hLow2
  go_enter Tryz.func40, Tryz.ntmps40
  go_wp2_with (first
    | (go_at_call 54; refine (hLow _).mono ?_; rintro e wn ⟨rfl, hb⟩; replace hL := hL.step hb; clear hb; have hcell2 := hL.cell; have hfree2 := hL.free; have hR := hL.set [] (by simp)))
  go_ret2
  exact ⟨rfl, hR⟩
theorem half_yes {w0 w : World} {b : Nat} {l : List UInt8} {k : Int} (hL : Rd w0 b l w) (h : Dat.halfN l = some k) :
    Calls Tryz.prog 40 #[.pointer (some ⟨b, 0, none⟩)] w fun e w' => e = .returned (.tuple #[.int .i64 k, .bool true]) ∧ Rd w0 b [] w' := by
  unfold Dat.halfN at h
  split at h
  · obtain rfl := Option.some.inj h
    rename_i hx
    rcases hx with hx | hx
    · exact half_am hL hx
    · exact half_adm hL hx
  · split at h
    · obtain rfl := Option.some.inj h
      rename_i hx
      rcases hx with hx | hx
      · exact half_pm hL hx
      · exact half_pdm hL hx
    · cases h
set_option maxRecDepth 100000 in
set_option maxHeartbeats 1000000 in
theorem half_no {w0 w : World} {b : Nat} {l : List UInt8} (hL : Rd w0 b l w) (h : Dat.halfN l = none) :
    Calls Tryz.prog 40 #[.pointer (some ⟨b, 0, none⟩)] w fun e w' => e = .returned (.tuple #[.int .i64 0, .bool false]) ∧ Rd w0 b [] w' := by
  unfold Dat.halfN at h
  split at h
  · cases h
  rename_i h1
  split at h
  · cases h
  rename_i h2
  have hcell := hL.cell
  have hLow := fun w => Lower_any (str l) w (by rw [str_size]; have := hL.len; omega)
  simp only [str_data] at hLow
  have e1 := eq_lit_no (l := Asc.lower l) (m := [97, 109]) (fun e => h1 (.inl e))
  have e2 := eq_lit_no (l := Asc.lower l) (m := [97, 46, 109, 46]) (fun e => h1 (.inr e))
  have e3 := eq_lit_no (l := Asc.lower l) (m := [112, 109]) (fun e => h2 (.inl e))
  have e4 := eq_lit_no (l := Asc.lower l) (m := [112, 46, 109, 46]) (fun e => h2 (.inr e))
  clear h h1 h2
  go_enter Tryz.func40, Tryz.ntmps40
  go_wp2_with (first
    | (go_at_call 54; refine (hLow _).mono ?_; rintro e wn ⟨rfl, hb⟩; replace hL := hL.step hb; clear hb; have hcell2 := hL.cell; have hfree2 := hL.free; have hR := hL.set [] (by simp)))
  go_ret2
  exact ⟨rfl, hR⟩
set_option maxRecDepth 100000 in
set_option maxHeartbeats 1000000 in
theorem spoken_hour_no {w0 w : World} {b : Nat} {l : List UInt8} (hL : Rd w0 b l w) (h0 : Dat.num? 2 1 12 l = none) (h1 : Dat.num? 1 1 9 l = none) :
    Calls Tryz.prog 20 #[.pointer (some ⟨b, 0, none⟩)] w fun e w' => ∃ v, e = .returned (.tuple #[.int .i64 v, .bool false]) ∧ ∃ r, Rd w0 b r w' := by
  have c0 := fun (w : World) hL => number_no (w0 := w0) (w := w) (b := b) 2 _ _ 2 rfl hL h0 (by omega) (by omega)
  have c1 := fun (w : World) hL => number_no (w0 := w0) (w := w) (b := b) 1 _ _ 1 rfl hL h1 (by omega) (by omega)
  go_enter Tryz.func20, Tryz.ntmps20
  go_wp2_with (first
    | (go_at_call_of 30 (Value.int .i64 (12)); refine (c0 _ hL).mono ?_; rintro e wn ⟨rfl, hR⟩; replace hL := hR; clear hR)
    | (go_at_call_of 30 (Value.int .i64 (9)); refine (c1 _ hL).mono ?_; rintro e wn ⟨rfl, hR⟩; replace hL := hR; clear hR))
  go_ret2
  exact ⟨_, rfl, _, hL⟩
set_option maxRecDepth 100000 in
set_option maxHeartbeats 1000000 in
theorem spoken_b0 {w0 w : World} {b : Nat} {l : List UInt8} {x hf : Int} (hL : Rd w0 b l w) (h1 : Dat.num? 2 1 12 l = some x) (x1 : 1 ≤ x) (x2 : x ≤ 12) (k1 : Dat.rd1 58 (l.drop 2) = none) (hh : Dat.halfN (l.drop 2) = some hf) (f1 : 0 ≤ hf) (f2 : hf ≤ 12) :
    Calls Tryz.prog 20 #[.pointer (some ⟨b, 0, none⟩)] w fun e w' => e = .returned (.tuple #[.int .i64 ((x % 12 + hf) * 3600 + 0 * 60 + 0), .bool true]) ∧ Rd w0 b [] w' := by
  have c0 := fun (w : World) hL => number_yes (w0 := w0) (w := w) (b := b) 2 _ _ 2 rfl hL h1 (by omega) (by omega)
  have c1 := fun (w : World) hL => takes_no (w0 := w0) (w := w) (b := b) 58 hL k1
  have c2 := fun (w : World) hL => half_yes (w0 := w0) (w := w) (b := b) hL hh
  go_enter Tryz.func20, Tryz.ntmps20
  go_wp2_with (first
    | (go_at_call_of 30 (Value.int .i64 (12)); refine (c0 _ hL).mono ?_; rintro e wn ⟨rfl, hR⟩; replace hL := hR; clear hR)
    | (go_at_call_of 31 (Value.string ⟨#[58]⟩); refine (c1 _ hL).mono ?_; rintro e wn ⟨rfl, hR⟩; replace hL := hR; clear hR)
    | (go_at_call 40; refine (c2 _ hL).mono ?_; rintro e wn ⟨rfl, hR⟩; replace hL := hR; clear hR))
  go_ret2
  exact ⟨by first | rfl | (simp; done) | (simp; omega), hL⟩
set_option maxRecDepth 100000 in
set_option maxHeartbeats 1000000 in
theorem spoken_b0_no {w0 w : World} {b : Nat} {l : List UInt8} {x : Int} (hL : Rd w0 b l w) (h1 : Dat.num? 2 1 12 l = some x) (x1 : 1 ≤ x) (x2 : x ≤ 12) (k1 : Dat.rd1 58 (l.drop 2) = none) (hh : Dat.halfN (l.drop 2) = none) :
    Calls Tryz.prog 20 #[.pointer (some ⟨b, 0, none⟩)] w fun e w' => ∃ v, e = .returned (.tuple #[.int .i64 v, .bool false]) ∧ ∃ r, Rd w0 b r w' := by
  have c0 := fun (w : World) hL => number_yes (w0 := w0) (w := w) (b := b) 2 _ _ 2 rfl hL h1 (by omega) (by omega)
  have c1 := fun (w : World) hL => takes_no (w0 := w0) (w := w) (b := b) 58 hL k1
  have c2 := fun (w : World) hL => half_no (w0 := w0) (w := w) (b := b) hL hh
  go_enter Tryz.func20, Tryz.ntmps20
  go_wp2_with (first
    | (go_at_call_of 30 (Value.int .i64 (12)); refine (c0 _ hL).mono ?_; rintro e wn ⟨rfl, hR⟩; replace hL := hR; clear hR)
    | (go_at_call_of 31 (Value.string ⟨#[58]⟩); refine (c1 _ hL).mono ?_; rintro e wn ⟨rfl, hR⟩; replace hL := hR; clear hR)
    | (go_at_call 40; refine (c2 _ hL).mono ?_; rintro e wn ⟨rfl, hR⟩; replace hL := hR; clear hR))
  go_ret2
  exact ⟨_, rfl, _, hL⟩
set_option maxRecDepth 100000 in
set_option maxHeartbeats 1000000 in
theorem spoken_b1_bad {w0 w : World} {b : Nat} {l : List UInt8} {x : Int} (hL : Rd w0 b l w) (h1 : Dat.num? 2 1 12 l = some x) (x1 : 1 ≤ x) (x2 : x ≤ 12) {l2 : List UInt8} (k1 : Dat.rd1 58 (l.drop 2) = some l2) (k2 : Dat.num? 2 0 59 l2 = none) :
    Calls Tryz.prog 20 #[.pointer (some ⟨b, 0, none⟩)] w fun e w' => ∃ v, e = .returned (.tuple #[.int .i64 v, .bool false]) ∧ ∃ r, Rd w0 b r w' := by
  have c0 := fun (w : World) hL => number_yes (w0 := w0) (w := w) (b := b) 2 _ _ 2 rfl hL h1 (by omega) (by omega)
  have c1 := fun (w : World) hL => takes_yes (w0 := w0) (w := w) (b := b) 58 hL k1
  have c2 := fun (w : World) hL => number_no (w0 := w0) (w := w) (b := b) 2 _ _ 2 rfl hL k2 (by omega) (by omega)
  go_enter Tryz.func20, Tryz.ntmps20
  go_wp2_with (first
    | (go_at_call_of 30 (Value.int .i64 (12)); refine (c0 _ hL).mono ?_; rintro e wn ⟨rfl, hR⟩; replace hL := hR; clear hR)
    | (go_at_call_of 31 (Value.string ⟨#[58]⟩); refine (c1 _ hL).mono ?_; rintro e wn ⟨rfl, hR⟩; replace hL := hR; clear hR)
    | (go_at_call_of 30 (Value.int .i64 (59)); refine (c2 _ hL).mono ?_; rintro e wn ⟨rfl, hR⟩; replace hL := hR; clear hR))
  go_ret2
  exact ⟨_, rfl, _, hL⟩
set_option maxRecDepth 100000 in
set_option maxHeartbeats 1000000 in
theorem spoken_b1 {w0 w : World} {b : Nat} {l : List UInt8} {x hf : Int} (hL : Rd w0 b l w) (h1 : Dat.num? 2 1 12 l = some x) (x1 : 1 ≤ x) (x2 : x ≤ 12) {l2 : List UInt8} (k1 : Dat.rd1 58 (l.drop 2) = some l2) {m : Int} (k2 : Dat.num? 2 0 59 l2 = some m) (m1 : 0 ≤ m) (m2 : m ≤ 59) (k3 : Dat.rd1 58 (l2.drop 2) = none) (hh : Dat.halfN (l2.drop 2) = some hf) (f1 : 0 ≤ hf) (f2 : hf ≤ 12) :
    Calls Tryz.prog 20 #[.pointer (some ⟨b, 0, none⟩)] w fun e w' => e = .returned (.tuple #[.int .i64 ((x % 12 + hf) * 3600 + m * 60 + 0), .bool true]) ∧ Rd w0 b [] w' := by
  have c0 := fun (w : World) hL => number_yes (w0 := w0) (w := w) (b := b) 2 _ _ 2 rfl hL h1 (by omega) (by omega)
  have c1 := fun (w : World) hL => takes_yes (w0 := w0) (w := w) (b := b) 58 hL k1
  have c2 := fun (w : World) hL => number_yes (w0 := w0) (w := w) (b := b) 2 _ _ 2 rfl hL k2 (by omega) (by omega)
  have c3 := fun (w : World) hL => takes_no (w0 := w0) (w := w) (b := b) 58 hL k3
  have c4 := fun (w : World) hL => half_yes (w0 := w0) (w := w) (b := b) hL hh
  go_enter Tryz.func20, Tryz.ntmps20
  go_wp2_with (first
    | (go_at_call_of 30 (Value.int .i64 (12)); refine (c0 _ hL).mono ?_; rintro e wn ⟨rfl, hR⟩; replace hL := hR; clear hR)
    | (go_at_call_of 31 (Value.string ⟨#[58]⟩); refine (c1 _ hL).mono ?_; rintro e wn ⟨rfl, hR⟩; replace hL := hR; clear hR)
    | (go_at_call_of 30 (Value.int .i64 (59)); refine (c2 _ hL).mono ?_; rintro e wn ⟨rfl, hR⟩; replace hL := hR; clear hR)
    | (go_at_call_of 31 (Value.string ⟨#[58]⟩); refine (c3 _ hL).mono ?_; rintro e wn ⟨rfl, hR⟩; replace hL := hR; clear hR)
    | (go_at_call 40; refine (c4 _ hL).mono ?_; rintro e wn ⟨rfl, hR⟩; replace hL := hR; clear hR))
  go_ret2
  exact ⟨by first | rfl | (simp; done) | (simp; omega), hL⟩
set_option maxRecDepth 100000 in
set_option maxHeartbeats 1000000 in
theorem spoken_b1_no {w0 w : World} {b : Nat} {l : List UInt8} {x : Int} (hL : Rd w0 b l w) (h1 : Dat.num? 2 1 12 l = some x) (x1 : 1 ≤ x) (x2 : x ≤ 12) {l2 : List UInt8} (k1 : Dat.rd1 58 (l.drop 2) = some l2) {m : Int} (k2 : Dat.num? 2 0 59 l2 = some m) (m1 : 0 ≤ m) (m2 : m ≤ 59) (k3 : Dat.rd1 58 (l2.drop 2) = none) (hh : Dat.halfN (l2.drop 2) = none) :
    Calls Tryz.prog 20 #[.pointer (some ⟨b, 0, none⟩)] w fun e w' => ∃ v, e = .returned (.tuple #[.int .i64 v, .bool false]) ∧ ∃ r, Rd w0 b r w' := by
  have c0 := fun (w : World) hL => number_yes (w0 := w0) (w := w) (b := b) 2 _ _ 2 rfl hL h1 (by omega) (by omega)
  have c1 := fun (w : World) hL => takes_yes (w0 := w0) (w := w) (b := b) 58 hL k1
  have c2 := fun (w : World) hL => number_yes (w0 := w0) (w := w) (b := b) 2 _ _ 2 rfl hL k2 (by omega) (by omega)
  have c3 := fun (w : World) hL => takes_no (w0 := w0) (w := w) (b := b) 58 hL k3
  have c4 := fun (w : World) hL => half_no (w0 := w0) (w := w) (b := b) hL hh
  go_enter Tryz.func20, Tryz.ntmps20
  go_wp2_with (first
    | (go_at_call_of 30 (Value.int .i64 (12)); refine (c0 _ hL).mono ?_; rintro e wn ⟨rfl, hR⟩; replace hL := hR; clear hR)
    | (go_at_call_of 31 (Value.string ⟨#[58]⟩); refine (c1 _ hL).mono ?_; rintro e wn ⟨rfl, hR⟩; replace hL := hR; clear hR)
    | (go_at_call_of 30 (Value.int .i64 (59)); refine (c2 _ hL).mono ?_; rintro e wn ⟨rfl, hR⟩; replace hL := hR; clear hR)
    | (go_at_call_of 31 (Value.string ⟨#[58]⟩); refine (c3 _ hL).mono ?_; rintro e wn ⟨rfl, hR⟩; replace hL := hR; clear hR)
    | (go_at_call 40; refine (c4 _ hL).mono ?_; rintro e wn ⟨rfl, hR⟩; replace hL := hR; clear hR))
  go_ret2
  exact ⟨_, rfl, _, hL⟩
set_option maxRecDepth 100000 in
set_option maxHeartbeats 1000000 in
theorem spoken_b2_bad {w0 w : World} {b : Nat} {l : List UInt8} {x : Int} (hL : Rd w0 b l w) (h1 : Dat.num? 2 1 12 l = some x) (x1 : 1 ≤ x) (x2 : x ≤ 12) {l2 : List UInt8} (k1 : Dat.rd1 58 (l.drop 2) = some l2) {m : Int} (k2 : Dat.num? 2 0 59 l2 = some m) (m1 : 0 ≤ m) (m2 : m ≤ 59) {l3 : List UInt8} (k3 : Dat.rd1 58 (l2.drop 2) = some l3) (k4 : Dat.num? 2 0 59 l3 = none) :
    Calls Tryz.prog 20 #[.pointer (some ⟨b, 0, none⟩)] w fun e w' => ∃ v, e = .returned (.tuple #[.int .i64 v, .bool false]) ∧ ∃ r, Rd w0 b r w' := by
  have c0 := fun (w : World) hL => number_yes (w0 := w0) (w := w) (b := b) 2 _ _ 2 rfl hL h1 (by omega) (by omega)
  have c1 := fun (w : World) hL => takes_yes (w0 := w0) (w := w) (b := b) 58 hL k1
  have c2 := fun (w : World) hL => number_yes (w0 := w0) (w := w) (b := b) 2 _ _ 2 rfl hL k2 (by omega) (by omega)
  have c3 := fun (w : World) hL => takes_yes (w0 := w0) (w := w) (b := b) 58 hL k3
  have c4 := fun (w : World) hL => number_no (w0 := w0) (w := w) (b := b) 2 _ _ 2 rfl hL k4 (by omega) (by omega)
  go_enter Tryz.func20, Tryz.ntmps20
  go_wp2_with (first
    | (go_at_call_of 30 (Value.int .i64 (12)); refine (c0 _ hL).mono ?_; rintro e wn ⟨rfl, hR⟩; replace hL := hR; clear hR)
    | (go_at_call_of 31 (Value.string ⟨#[58]⟩); refine (c1 _ hL).mono ?_; rintro e wn ⟨rfl, hR⟩; replace hL := hR; clear hR)
    | (go_at_call_of 30 (Value.int .i64 (59)); refine (c2 _ hL).mono ?_; rintro e wn ⟨rfl, hR⟩; replace hL := hR; clear hR)
    | (go_at_call_of 31 (Value.string ⟨#[58]⟩); refine (c3 _ hL).mono ?_; rintro e wn ⟨rfl, hR⟩; replace hL := hR; clear hR)
    | (go_at_call_of 30 (Value.int .i64 (59)); refine (c4 _ hL).mono ?_; rintro e wn ⟨rfl, hR⟩; replace hL := hR; clear hR))
  go_ret2
  exact ⟨_, rfl, _, hL⟩
set_option maxRecDepth 100000 in
set_option maxHeartbeats 1000000 in
theorem spoken_b2 {w0 w : World} {b : Nat} {l : List UInt8} {x hf : Int} (hL : Rd w0 b l w) (h1 : Dat.num? 2 1 12 l = some x) (x1 : 1 ≤ x) (x2 : x ≤ 12) {l2 : List UInt8} (k1 : Dat.rd1 58 (l.drop 2) = some l2) {m : Int} (k2 : Dat.num? 2 0 59 l2 = some m) (m1 : 0 ≤ m) (m2 : m ≤ 59) {l3 : List UInt8} (k3 : Dat.rd1 58 (l2.drop 2) = some l3) {s : Int} (k4 : Dat.num? 2 0 59 l3 = some s) (s1 : 0 ≤ s) (s2 : s ≤ 59) (hh : Dat.halfN (l3.drop 2) = some hf) (f1 : 0 ≤ hf) (f2 : hf ≤ 12) :
    Calls Tryz.prog 20 #[.pointer (some ⟨b, 0, none⟩)] w fun e w' => e = .returned (.tuple #[.int .i64 ((x % 12 + hf) * 3600 + m * 60 + s), .bool true]) ∧ Rd w0 b [] w' := by
  have c0 := fun (w : World) hL => number_yes (w0 := w0) (w := w) (b := b) 2 _ _ 2 rfl hL h1 (by omega) (by omega)
  have c1 := fun (w : World) hL => takes_yes (w0 := w0) (w := w) (b := b) 58 hL k1
  have c2 := fun (w : World) hL => number_yes (w0 := w0) (w := w) (b := b) 2 _ _ 2 rfl hL k2 (by omega) (by omega)
  have c3 := fun (w : World) hL => takes_yes (w0 := w0) (w := w) (b := b) 58 hL k3
  have c4 := fun (w : World) hL => number_yes (w0 := w0) (w := w) (b := b) 2 _ _ 2 rfl hL k4 (by omega) (by omega)
  have c5 := fun (w : World) hL => half_yes (w0 := w0) (w := w) (b := b) hL hh
  go_enter Tryz.func20, Tryz.ntmps20
  go_wp2_with (first
    | (go_at_call_of 30 (Value.int .i64 (12)); refine (c0 _ hL).mono ?_; rintro e wn ⟨rfl, hR⟩; replace hL := hR; clear hR)
    | (go_at_call_of 31 (Value.string ⟨#[58]⟩); refine (c1 _ hL).mono ?_; rintro e wn ⟨rfl, hR⟩; replace hL := hR; clear hR)
    | (go_at_call_of 30 (Value.int .i64 (59)); refine (c2 _ hL).mono ?_; rintro e wn ⟨rfl, hR⟩; replace hL := hR; clear hR)
    | (go_at_call_of 31 (Value.string ⟨#[58]⟩); refine (c3 _ hL).mono ?_; rintro e wn ⟨rfl, hR⟩; replace hL := hR; clear hR)
    | (go_at_call_of 30 (Value.int .i64 (59)); refine (c4 _ hL).mono ?_; rintro e wn ⟨rfl, hR⟩; replace hL := hR; clear hR)
    | (go_at_call 40; refine (c5 _ hL).mono ?_; rintro e wn ⟨rfl, hR⟩; replace hL := hR; clear hR))
  go_ret2
  exact ⟨by first | rfl | (simp; done) | (simp; omega), hL⟩
set_option maxRecDepth 100000 in
set_option maxHeartbeats 1000000 in
theorem spoken_b2_no {w0 w : World} {b : Nat} {l : List UInt8} {x : Int} (hL : Rd w0 b l w) (h1 : Dat.num? 2 1 12 l = some x) (x1 : 1 ≤ x) (x2 : x ≤ 12) {l2 : List UInt8} (k1 : Dat.rd1 58 (l.drop 2) = some l2) {m : Int} (k2 : Dat.num? 2 0 59 l2 = some m) (m1 : 0 ≤ m) (m2 : m ≤ 59) {l3 : List UInt8} (k3 : Dat.rd1 58 (l2.drop 2) = some l3) {s : Int} (k4 : Dat.num? 2 0 59 l3 = some s) (s1 : 0 ≤ s) (s2 : s ≤ 59) (hh : Dat.halfN (l3.drop 2) = none) :
    Calls Tryz.prog 20 #[.pointer (some ⟨b, 0, none⟩)] w fun e w' => ∃ v, e = .returned (.tuple #[.int .i64 v, .bool false]) ∧ ∃ r, Rd w0 b r w' := by
  have c0 := fun (w : World) hL => number_yes (w0 := w0) (w := w) (b := b) 2 _ _ 2 rfl hL h1 (by omega) (by omega)
  have c1 := fun (w : World) hL => takes_yes (w0 := w0) (w := w) (b := b) 58 hL k1
  have c2 := fun (w : World) hL => number_yes (w0 := w0) (w := w) (b := b) 2 _ _ 2 rfl hL k2 (by omega) (by omega)
  have c3 := fun (w : World) hL => takes_yes (w0 := w0) (w := w) (b := b) 58 hL k3
  have c4 := fun (w : World) hL => number_yes (w0 := w0) (w := w) (b := b) 2 _ _ 2 rfl hL k4 (by omega) (by omega)
  have c5 := fun (w : World) hL => half_no (w0 := w0) (w := w) (b := b) hL hh
  go_enter Tryz.func20, Tryz.ntmps20
  go_wp2_with (first
    | (go_at_call_of 30 (Value.int .i64 (12)); refine (c0 _ hL).mono ?_; rintro e wn ⟨rfl, hR⟩; replace hL := hR; clear hR)
    | (go_at_call_of 31 (Value.string ⟨#[58]⟩); refine (c1 _ hL).mono ?_; rintro e wn ⟨rfl, hR⟩; replace hL := hR; clear hR)
    | (go_at_call_of 30 (Value.int .i64 (59)); refine (c2 _ hL).mono ?_; rintro e wn ⟨rfl, hR⟩; replace hL := hR; clear hR)
    | (go_at_call_of 31 (Value.string ⟨#[58]⟩); refine (c3 _ hL).mono ?_; rintro e wn ⟨rfl, hR⟩; replace hL := hR; clear hR)
    | (go_at_call_of 30 (Value.int .i64 (59)); refine (c4 _ hL).mono ?_; rintro e wn ⟨rfl, hR⟩; replace hL := hR; clear hR)
    | (go_at_call 40; refine (c5 _ hL).mono ?_; rintro e wn ⟨rfl, hR⟩; replace hL := hR; clear hR))
  go_ret2
  exact ⟨_, rfl, _, hL⟩
set_option maxRecDepth 100000 in
set_option maxHeartbeats 1000000 in
theorem spoken_a0 {w0 w : World} {b : Nat} {l : List UInt8} {x hf : Int} (hL : Rd w0 b l w) (h0 : Dat.num? 2 1 12 l = none) (h1 : Dat.num? 1 1 9 l = some x) (x1 : 1 ≤ x) (x2 : x ≤ 9) (k1 : Dat.rd1 58 (l.drop 1) = none) (hh : Dat.halfN (l.drop 1) = some hf) (f1 : 0 ≤ hf) (f2 : hf ≤ 12) :
    Calls Tryz.prog 20 #[.pointer (some ⟨b, 0, none⟩)] w fun e w' => e = .returned (.tuple #[.int .i64 ((x % 12 + hf) * 3600 + 0 * 60 + 0), .bool true]) ∧ Rd w0 b [] w' := by
  have c0 := fun (w : World) hL => number_no (w0 := w0) (w := w) (b := b) 2 _ _ 2 rfl hL h0 (by omega) (by omega)
  have c1 := fun (w : World) hL => number_yes (w0 := w0) (w := w) (b := b) 1 _ _ 1 rfl hL h1 (by omega) (by omega)
  have c2 := fun (w : World) hL => takes_no (w0 := w0) (w := w) (b := b) 58 hL k1
  have c3 := fun (w : World) hL => half_yes (w0 := w0) (w := w) (b := b) hL hh
  go_enter Tryz.func20, Tryz.ntmps20
  go_wp2_with (first
    | (go_at_call_of 30 (Value.int .i64 (12)); refine (c0 _ hL).mono ?_; rintro e wn ⟨rfl, hR⟩; replace hL := hR; clear hR)
    | (go_at_call_of 30 (Value.int .i64 (9)); refine (c1 _ hL).mono ?_; rintro e wn ⟨rfl, hR⟩; replace hL := hR; clear hR)
    | (go_at_call_of 31 (Value.string ⟨#[58]⟩); refine (c2 _ hL).mono ?_; rintro e wn ⟨rfl, hR⟩; replace hL := hR; clear hR)
    | (go_at_call 40; refine (c3 _ hL).mono ?_; rintro e wn ⟨rfl, hR⟩; replace hL := hR; clear hR))
  go_ret2
  exact ⟨by first | rfl | (simp; done) | (simp; omega), hL⟩
set_option maxRecDepth 100000 in
set_option maxHeartbeats 1000000 in
theorem spoken_a0_no {w0 w : World} {b : Nat} {l : List UInt8} {x : Int} (hL : Rd w0 b l w) (h0 : Dat.num? 2 1 12 l = none) (h1 : Dat.num? 1 1 9 l = some x) (x1 : 1 ≤ x) (x2 : x ≤ 9) (k1 : Dat.rd1 58 (l.drop 1) = none) (hh : Dat.halfN (l.drop 1) = none) :
    Calls Tryz.prog 20 #[.pointer (some ⟨b, 0, none⟩)] w fun e w' => ∃ v, e = .returned (.tuple #[.int .i64 v, .bool false]) ∧ ∃ r, Rd w0 b r w' := by
  have c0 := fun (w : World) hL => number_no (w0 := w0) (w := w) (b := b) 2 _ _ 2 rfl hL h0 (by omega) (by omega)
  have c1 := fun (w : World) hL => number_yes (w0 := w0) (w := w) (b := b) 1 _ _ 1 rfl hL h1 (by omega) (by omega)
  have c2 := fun (w : World) hL => takes_no (w0 := w0) (w := w) (b := b) 58 hL k1
  have c3 := fun (w : World) hL => half_no (w0 := w0) (w := w) (b := b) hL hh
  go_enter Tryz.func20, Tryz.ntmps20
  go_wp2_with (first
    | (go_at_call_of 30 (Value.int .i64 (12)); refine (c0 _ hL).mono ?_; rintro e wn ⟨rfl, hR⟩; replace hL := hR; clear hR)
    | (go_at_call_of 30 (Value.int .i64 (9)); refine (c1 _ hL).mono ?_; rintro e wn ⟨rfl, hR⟩; replace hL := hR; clear hR)
    | (go_at_call_of 31 (Value.string ⟨#[58]⟩); refine (c2 _ hL).mono ?_; rintro e wn ⟨rfl, hR⟩; replace hL := hR; clear hR)
    | (go_at_call 40; refine (c3 _ hL).mono ?_; rintro e wn ⟨rfl, hR⟩; replace hL := hR; clear hR))
  go_ret2
  exact ⟨_, rfl, _, hL⟩
set_option maxRecDepth 100000 in
set_option maxHeartbeats 1000000 in
theorem spoken_a1_bad {w0 w : World} {b : Nat} {l : List UInt8} {x : Int} (hL : Rd w0 b l w) (h0 : Dat.num? 2 1 12 l = none) (h1 : Dat.num? 1 1 9 l = some x) (x1 : 1 ≤ x) (x2 : x ≤ 9) {l2 : List UInt8} (k1 : Dat.rd1 58 (l.drop 1) = some l2) (k2 : Dat.num? 2 0 59 l2 = none) :
    Calls Tryz.prog 20 #[.pointer (some ⟨b, 0, none⟩)] w fun e w' => ∃ v, e = .returned (.tuple #[.int .i64 v, .bool false]) ∧ ∃ r, Rd w0 b r w' := by
  have c0 := fun (w : World) hL => number_no (w0 := w0) (w := w) (b := b) 2 _ _ 2 rfl hL h0 (by omega) (by omega)
  have c1 := fun (w : World) hL => number_yes (w0 := w0) (w := w) (b := b) 1 _ _ 1 rfl hL h1 (by omega) (by omega)
  have c2 := fun (w : World) hL => takes_yes (w0 := w0) (w := w) (b := b) 58 hL k1
  have c3 := fun (w : World) hL => number_no (w0 := w0) (w := w) (b := b) 2 _ _ 2 rfl hL k2 (by omega) (by omega)
  go_enter Tryz.func20, Tryz.ntmps20
  go_wp2_with (first
    | (go_at_call_of 30 (Value.int .i64 (12)); refine (c0 _ hL).mono ?_; rintro e wn ⟨rfl, hR⟩; replace hL := hR; clear hR)
    | (go_at_call_of 30 (Value.int .i64 (9)); refine (c1 _ hL).mono ?_; rintro e wn ⟨rfl, hR⟩; replace hL := hR; clear hR)
    | (go_at_call_of 31 (Value.string ⟨#[58]⟩); refine (c2 _ hL).mono ?_; rintro e wn ⟨rfl, hR⟩; replace hL := hR; clear hR)
    | (go_at_call_of 30 (Value.int .i64 (59)); refine (c3 _ hL).mono ?_; rintro e wn ⟨rfl, hR⟩; replace hL := hR; clear hR))
  go_ret2
  exact ⟨_, rfl, _, hL⟩
set_option maxRecDepth 100000 in
set_option maxHeartbeats 1000000 in
theorem spoken_a1 {w0 w : World} {b : Nat} {l : List UInt8} {x hf : Int} (hL : Rd w0 b l w) (h0 : Dat.num? 2 1 12 l = none) (h1 : Dat.num? 1 1 9 l = some x) (x1 : 1 ≤ x) (x2 : x ≤ 9) {l2 : List UInt8} (k1 : Dat.rd1 58 (l.drop 1) = some l2) {m : Int} (k2 : Dat.num? 2 0 59 l2 = some m) (m1 : 0 ≤ m) (m2 : m ≤ 59) (k3 : Dat.rd1 58 (l2.drop 2) = none) (hh : Dat.halfN (l2.drop 2) = some hf) (f1 : 0 ≤ hf) (f2 : hf ≤ 12) :
    Calls Tryz.prog 20 #[.pointer (some ⟨b, 0, none⟩)] w fun e w' => e = .returned (.tuple #[.int .i64 ((x % 12 + hf) * 3600 + m * 60 + 0), .bool true]) ∧ Rd w0 b [] w' := by
  have c0 := fun (w : World) hL => number_no (w0 := w0) (w := w) (b := b) 2 _ _ 2 rfl hL h0 (by omega) (by omega)
  have c1 := fun (w : World) hL => number_yes (w0 := w0) (w := w) (b := b) 1 _ _ 1 rfl hL h1 (by omega) (by omega)
  have c2 := fun (w : World) hL => takes_yes (w0 := w0) (w := w) (b := b) 58 hL k1
  have c3 := fun (w : World) hL => number_yes (w0 := w0) (w := w) (b := b) 2 _ _ 2 rfl hL k2 (by omega) (by omega)
  have c4 := fun (w : World) hL => takes_no (w0 := w0) (w := w) (b := b) 58 hL k3
  have c5 := fun (w : World) hL => half_yes (w0 := w0) (w := w) (b := b) hL hh
  go_enter Tryz.func20, Tryz.ntmps20
  go_wp2_with (first
    | (go_at_call_of 30 (Value.int .i64 (12)); refine (c0 _ hL).mono ?_; rintro e wn ⟨rfl, hR⟩; replace hL := hR; clear hR)
    | (go_at_call_of 30 (Value.int .i64 (9)); refine (c1 _ hL).mono ?_; rintro e wn ⟨rfl, hR⟩; replace hL := hR; clear hR)
    | (go_at_call_of 31 (Value.string ⟨#[58]⟩); refine (c2 _ hL).mono ?_; rintro e wn ⟨rfl, hR⟩; replace hL := hR; clear hR)
    | (go_at_call_of 30 (Value.int .i64 (59)); refine (c3 _ hL).mono ?_; rintro e wn ⟨rfl, hR⟩; replace hL := hR; clear hR)
    | (go_at_call_of 31 (Value.string ⟨#[58]⟩); refine (c4 _ hL).mono ?_; rintro e wn ⟨rfl, hR⟩; replace hL := hR; clear hR)
    | (go_at_call 40; refine (c5 _ hL).mono ?_; rintro e wn ⟨rfl, hR⟩; replace hL := hR; clear hR))
  go_ret2
  exact ⟨by first | rfl | (simp; done) | (simp; omega), hL⟩
set_option maxRecDepth 100000 in
set_option maxHeartbeats 1000000 in
theorem spoken_a1_no {w0 w : World} {b : Nat} {l : List UInt8} {x : Int} (hL : Rd w0 b l w) (h0 : Dat.num? 2 1 12 l = none) (h1 : Dat.num? 1 1 9 l = some x) (x1 : 1 ≤ x) (x2 : x ≤ 9) {l2 : List UInt8} (k1 : Dat.rd1 58 (l.drop 1) = some l2) {m : Int} (k2 : Dat.num? 2 0 59 l2 = some m) (m1 : 0 ≤ m) (m2 : m ≤ 59) (k3 : Dat.rd1 58 (l2.drop 2) = none) (hh : Dat.halfN (l2.drop 2) = none) :
    Calls Tryz.prog 20 #[.pointer (some ⟨b, 0, none⟩)] w fun e w' => ∃ v, e = .returned (.tuple #[.int .i64 v, .bool false]) ∧ ∃ r, Rd w0 b r w' := by
  have c0 := fun (w : World) hL => number_no (w0 := w0) (w := w) (b := b) 2 _ _ 2 rfl hL h0 (by omega) (by omega)
  have c1 := fun (w : World) hL => number_yes (w0 := w0) (w := w) (b := b) 1 _ _ 1 rfl hL h1 (by omega) (by omega)
  have c2 := fun (w : World) hL => takes_yes (w0 := w0) (w := w) (b := b) 58 hL k1
  have c3 := fun (w : World) hL => number_yes (w0 := w0) (w := w) (b := b) 2 _ _ 2 rfl hL k2 (by omega) (by omega)
  have c4 := fun (w : World) hL => takes_no (w0 := w0) (w := w) (b := b) 58 hL k3
  have c5 := fun (w : World) hL => half_no (w0 := w0) (w := w) (b := b) hL hh
  go_enter Tryz.func20, Tryz.ntmps20
  go_wp2_with (first
    | (go_at_call_of 30 (Value.int .i64 (12)); refine (c0 _ hL).mono ?_; rintro e wn ⟨rfl, hR⟩; replace hL := hR; clear hR)
    | (go_at_call_of 30 (Value.int .i64 (9)); refine (c1 _ hL).mono ?_; rintro e wn ⟨rfl, hR⟩; replace hL := hR; clear hR)
    | (go_at_call_of 31 (Value.string ⟨#[58]⟩); refine (c2 _ hL).mono ?_; rintro e wn ⟨rfl, hR⟩; replace hL := hR; clear hR)
    | (go_at_call_of 30 (Value.int .i64 (59)); refine (c3 _ hL).mono ?_; rintro e wn ⟨rfl, hR⟩; replace hL := hR; clear hR)
    | (go_at_call_of 31 (Value.string ⟨#[58]⟩); refine (c4 _ hL).mono ?_; rintro e wn ⟨rfl, hR⟩; replace hL := hR; clear hR)
    | (go_at_call 40; refine (c5 _ hL).mono ?_; rintro e wn ⟨rfl, hR⟩; replace hL := hR; clear hR))
  go_ret2
  exact ⟨_, rfl, _, hL⟩
set_option maxRecDepth 100000 in
set_option maxHeartbeats 1000000 in
theorem spoken_a2_bad {w0 w : World} {b : Nat} {l : List UInt8} {x : Int} (hL : Rd w0 b l w) (h0 : Dat.num? 2 1 12 l = none) (h1 : Dat.num? 1 1 9 l = some x) (x1 : 1 ≤ x) (x2 : x ≤ 9) {l2 : List UInt8} (k1 : Dat.rd1 58 (l.drop 1) = some l2) {m : Int} (k2 : Dat.num? 2 0 59 l2 = some m) (m1 : 0 ≤ m) (m2 : m ≤ 59) {l3 : List UInt8} (k3 : Dat.rd1 58 (l2.drop 2) = some l3) (k4 : Dat.num? 2 0 59 l3 = none) :
    Calls Tryz.prog 20 #[.pointer (some ⟨b, 0, none⟩)] w fun e w' => ∃ v, e = .returned (.tuple #[.int .i64 v, .bool false]) ∧ ∃ r, Rd w0 b r w' := by
  have c0 := fun (w : World) hL => number_no (w0 := w0) (w := w) (b := b) 2 _ _ 2 rfl hL h0 (by omega) (by omega)
  have c1 := fun (w : World) hL => number_yes (w0 := w0) (w := w) (b := b) 1 _ _ 1 rfl hL h1 (by omega) (by omega)
  have c2 := fun (w : World) hL => takes_yes (w0 := w0) (w := w) (b := b) 58 hL k1
  have c3 := fun (w : World) hL => number_yes (w0 := w0) (w := w) (b := b) 2 _ _ 2 rfl hL k2 (by omega) (by omega)
  have c4 := fun (w : World) hL => takes_yes (w0 := w0) (w := w) (b := b) 58 hL k3
  have c5 := fun (w : World) hL => number_no (w0 := w0) (w := w) (b := b) 2 _ _ 2 rfl hL k4 (by omega) (by omega)
  go_enter Tryz.func20, Tryz.ntmps20
  go_wp2_with (first
    | (go_at_call_of 30 (Value.int .i64 (12)); refine (c0 _ hL).mono ?_; rintro e wn ⟨rfl, hR⟩; replace hL := hR; clear hR)
    | (go_at_call_of 30 (Value.int .i64 (9)); refine (c1 _ hL).mono ?_; rintro e wn ⟨rfl, hR⟩; replace hL := hR; clear hR)
    | (go_at_call_of 31 (Value.string ⟨#[58]⟩); refine (c2 _ hL).mono ?_; rintro e wn ⟨rfl, hR⟩; replace hL := hR; clear hR)
    | (go_at_call_of 30 (Value.int .i64 (59)); refine (c3 _ hL).mono ?_; rintro e wn ⟨rfl, hR⟩; replace hL := hR; clear hR)
    | (go_at_call_of 31 (Value.string ⟨#[58]⟩); refine (c4 _ hL).mono ?_; rintro e wn ⟨rfl, hR⟩; replace hL := hR; clear hR)
    | (go_at_call_of 30 (Value.int .i64 (59)); refine (c5 _ hL).mono ?_; rintro e wn ⟨rfl, hR⟩; replace hL := hR; clear hR))
  go_ret2
  exact ⟨_, rfl, _, hL⟩
set_option maxRecDepth 100000 in
set_option maxHeartbeats 1000000 in
theorem spoken_a2 {w0 w : World} {b : Nat} {l : List UInt8} {x hf : Int} (hL : Rd w0 b l w) (h0 : Dat.num? 2 1 12 l = none) (h1 : Dat.num? 1 1 9 l = some x) (x1 : 1 ≤ x) (x2 : x ≤ 9) {l2 : List UInt8} (k1 : Dat.rd1 58 (l.drop 1) = some l2) {m : Int} (k2 : Dat.num? 2 0 59 l2 = some m) (m1 : 0 ≤ m) (m2 : m ≤ 59) {l3 : List UInt8} (k3 : Dat.rd1 58 (l2.drop 2) = some l3) {s : Int} (k4 : Dat.num? 2 0 59 l3 = some s) (s1 : 0 ≤ s) (s2 : s ≤ 59) (hh : Dat.halfN (l3.drop 2) = some hf) (f1 : 0 ≤ hf) (f2 : hf ≤ 12) :
    Calls Tryz.prog 20 #[.pointer (some ⟨b, 0, none⟩)] w fun e w' => e = .returned (.tuple #[.int .i64 ((x % 12 + hf) * 3600 + m * 60 + s), .bool true]) ∧ Rd w0 b [] w' := by
  have c0 := fun (w : World) hL => number_no (w0 := w0) (w := w) (b := b) 2 _ _ 2 rfl hL h0 (by omega) (by omega)
  have c1 := fun (w : World) hL => number_yes (w0 := w0) (w := w) (b := b) 1 _ _ 1 rfl hL h1 (by omega) (by omega)
  have c2 := fun (w : World) hL => takes_yes (w0 := w0) (w := w) (b := b) 58 hL k1
  have c3 := fun (w : World) hL => number_yes (w0 := w0) (w := w) (b := b) 2 _ _ 2 rfl hL k2 (by omega) (by omega)
  have c4 := fun (w : World) hL => takes_yes (w0 := w0) (w := w) (b := b) 58 hL k3
  have c5 := fun (w : World) hL => number_yes (w0 := w0) (w := w) (b := b) 2 _ _ 2 rfl hL k4 (by omega) (by omega)
  have c6 := fun (w : World) hL => half_yes (w0 := w0) (w := w) (b := b) hL hh
  go_enter Tryz.func20, Tryz.ntmps20
  go_wp2_with (first
    | (go_at_call_of 30 (Value.int .i64 (12)); refine (c0 _ hL).mono ?_; rintro e wn ⟨rfl, hR⟩; replace hL := hR; clear hR)
    | (go_at_call_of 30 (Value.int .i64 (9)); refine (c1 _ hL).mono ?_; rintro e wn ⟨rfl, hR⟩; replace hL := hR; clear hR)
    | (go_at_call_of 31 (Value.string ⟨#[58]⟩); refine (c2 _ hL).mono ?_; rintro e wn ⟨rfl, hR⟩; replace hL := hR; clear hR)
    | (go_at_call_of 30 (Value.int .i64 (59)); refine (c3 _ hL).mono ?_; rintro e wn ⟨rfl, hR⟩; replace hL := hR; clear hR)
    | (go_at_call_of 31 (Value.string ⟨#[58]⟩); refine (c4 _ hL).mono ?_; rintro e wn ⟨rfl, hR⟩; replace hL := hR; clear hR)
    | (go_at_call_of 30 (Value.int .i64 (59)); refine (c5 _ hL).mono ?_; rintro e wn ⟨rfl, hR⟩; replace hL := hR; clear hR)
    | (go_at_call 40; refine (c6 _ hL).mono ?_; rintro e wn ⟨rfl, hR⟩; replace hL := hR; clear hR))
  go_ret2
  exact ⟨by first | rfl | (simp; done) | (simp; omega), hL⟩
set_option maxRecDepth 100000 in
set_option maxHeartbeats 1000000 in
theorem spoken_a2_no {w0 w : World} {b : Nat} {l : List UInt8} {x : Int} (hL : Rd w0 b l w) (h0 : Dat.num? 2 1 12 l = none) (h1 : Dat.num? 1 1 9 l = some x) (x1 : 1 ≤ x) (x2 : x ≤ 9) {l2 : List UInt8} (k1 : Dat.rd1 58 (l.drop 1) = some l2) {m : Int} (k2 : Dat.num? 2 0 59 l2 = some m) (m1 : 0 ≤ m) (m2 : m ≤ 59) {l3 : List UInt8} (k3 : Dat.rd1 58 (l2.drop 2) = some l3) {s : Int} (k4 : Dat.num? 2 0 59 l3 = some s) (s1 : 0 ≤ s) (s2 : s ≤ 59) (hh : Dat.halfN (l3.drop 2) = none) :
    Calls Tryz.prog 20 #[.pointer (some ⟨b, 0, none⟩)] w fun e w' => ∃ v, e = .returned (.tuple #[.int .i64 v, .bool false]) ∧ ∃ r, Rd w0 b r w' := by
  have c0 := fun (w : World) hL => number_no (w0 := w0) (w := w) (b := b) 2 _ _ 2 rfl hL h0 (by omega) (by omega)
  have c1 := fun (w : World) hL => number_yes (w0 := w0) (w := w) (b := b) 1 _ _ 1 rfl hL h1 (by omega) (by omega)
  have c2 := fun (w : World) hL => takes_yes (w0 := w0) (w := w) (b := b) 58 hL k1
  have c3 := fun (w : World) hL => number_yes (w0 := w0) (w := w) (b := b) 2 _ _ 2 rfl hL k2 (by omega) (by omega)
  have c4 := fun (w : World) hL => takes_yes (w0 := w0) (w := w) (b := b) 58 hL k3
  have c5 := fun (w : World) hL => number_yes (w0 := w0) (w := w) (b := b) 2 _ _ 2 rfl hL k4 (by omega) (by omega)
  have c6 := fun (w : World) hL => half_no (w0 := w0) (w := w) (b := b) hL hh
  go_enter Tryz.func20, Tryz.ntmps20
  go_wp2_with (first
    | (go_at_call_of 30 (Value.int .i64 (12)); refine (c0 _ hL).mono ?_; rintro e wn ⟨rfl, hR⟩; replace hL := hR; clear hR)
    | (go_at_call_of 30 (Value.int .i64 (9)); refine (c1 _ hL).mono ?_; rintro e wn ⟨rfl, hR⟩; replace hL := hR; clear hR)
    | (go_at_call_of 31 (Value.string ⟨#[58]⟩); refine (c2 _ hL).mono ?_; rintro e wn ⟨rfl, hR⟩; replace hL := hR; clear hR)
    | (go_at_call_of 30 (Value.int .i64 (59)); refine (c3 _ hL).mono ?_; rintro e wn ⟨rfl, hR⟩; replace hL := hR; clear hR)
    | (go_at_call_of 31 (Value.string ⟨#[58]⟩); refine (c4 _ hL).mono ?_; rintro e wn ⟨rfl, hR⟩; replace hL := hR; clear hR)
    | (go_at_call_of 30 (Value.int .i64 (59)); refine (c5 _ hL).mono ?_; rintro e wn ⟨rfl, hR⟩; replace hL := hR; clear hR)
    | (go_at_call 40; refine (c6 _ hL).mono ?_; rintro e wn ⟨rfl, hR⟩; replace hL := hR; clear hR))
  go_ret2
  exact ⟨_, rfl, _, hL⟩
end Go.Proofs.YtnklbeldheocmaaGreatDoor
