/- The walk of DateNext. -/
import Derived.Test.YtnklbeldheocmaaDoorKDateE
namespace Go.Proofs.YtnklbeldheocmaaDoor.dateNext
open Go.RowKit
theorem one_end {y m d : Int} (hv : Dat.Valid y m d) (h0 : ¬ Dat.Valid y m (d + 1)) : d = Dat.monthN y m := by
  obtain ⟨y1, y2, m1, m2, d1, d2⟩ := hv
  by_cases h : d + 1 ≤ Dat.monthN y m
  · exact absurd ⟨y1, y2, m1, m2, by omega, h⟩ h0
  · omega
theorem two_end {y m d : Int} (hv : Dat.Valid y m d) (h1 : ¬ Dat.Valid y (m + 1) 1) : m = 12 := by
  obtain ⟨y1, y2, m1, m2, d1, d2⟩ := hv
  by_cases h : m + 1 ≤ 12
  · exact absurd ⟨y1, y2, by omega, h, by omega, by have := Dat.monthN_bd y (m + 1); omega⟩ h1
  · omega
theorem three_end {y m d : Int} (hv : Dat.Valid y m d) (h2 : ¬ Dat.Valid (y + 1) 1 1) : y = 9999 := by
  obtain ⟨y1, y2, m1, m2, d1, d2⟩ := hv
  by_cases h : y + 1 ≤ 9999
  · exact absurd ⟨by omega, h, by omega, by omega, by omega, by have := Dat.monthN_bd (y + 1) 1; omega⟩ h2
  · omega
set_option maxRecDepth 100000 in
set_option maxHeartbeats 2000000 in
theorem no (y m d : Int) (w : World) (d1 : -9223372036854775808 ≤ d) (d2 : d ≤ 9223372036854775807) (hv : ¬ Dat.Valid y m d) (hE : Env6 w) :
    Calls Tryd.prog 6 #[.int .i64 y, .int .i64 m, .int .i64 d] w fun e w' => e = .returned (.bool true) ∧ Below w.heap.size w w' := by
  have hdy := days_no hv
  have hD := Days_any y m d w hE.ah d1 d2
  rw [hdy.1, hdy.2] at hD
  clear hdy hv
  go_enter Tryd.func6, Tryd.ntmps6
  go_wp2_with (first
    | (go_at_call 8; refine hD.mono ?_; rintro e w1 ⟨rfl, hw⟩; rw [hw]; clear hw)
    | (go_at_call 12; refine (alive6_any _ hE).mono ?_; rintro e w3 ⟨rfl, hb3⟩))
  go_ret
  exact ⟨rfl, hb3⟩
set_option maxRecDepth 100000 in
set_option maxHeartbeats 2000000 in
theorem yes (y m d : Int) (w : World) (hv : Dat.Valid y m d) (hE : Env6 w) :
    Calls Tryd.prog 6 #[.int .i64 y, .int .i64 m, .int .i64 d] w fun e w' => e = .returned (.bool true) ∧ Below w.heap.size w w' := by
  have hv0 := hv
  have hdy := days_yes hv
  have hN := Dat.num_bd hv
  have hD := Days_any y m d w hE.ah (by have := hv.2.2.2.2.1; omega) (by have := hv.2.2.2.2.2; have := Dat.monthN_bd y m; omega)
  rw [hdy.1, hdy.2] at hD
  have hC := Civil_yes (Dat.num y m d) y m d w hv rfl hE.ah
  obtain ⟨y1, y2, m1, m2, d1, d2⟩ := hv
  have d3 : d ≤ 31 := by have := Dat.monthN_bd y m; omega
  clear hdy
  have q0 := fun (h : Dat.Valid y m (d + 1)) => (days_yes h).1.trans (Dat.next_day y m d)
  have q1 := fun (h : ¬ Dat.Valid y m (d + 1)) (k : Dat.Valid y (m + 1) 1) => (days_yes k).1.trans (Dat.next_month hv0 (one_end hv0 h))
  have q2 : ¬ Dat.Valid y m (d + 1) → ¬ Dat.Valid y (m + 1) 1 → Dat.Valid (y + 1) 1 1 → daysV (y + 1) 1 1 = Dat.num y m d + 1 := fun h h2 k => by
    have e := one_end hv0 h
    obtain rfl := two_end hv0 h2
    exact (days_yes k).1.trans (Dat.next_year hv0 e)
  have Q0 : Hid _ := q0
  have Q1 : Hid _ := q1
  have Q2 : Hid _ := q2
  clear q0 q1 q2
  generalize Dat.num y m d = n at hD hC hN Q0 Q1 Q2
  have HV0 : Hid _ := hv0
  clear hv0
  obtain ⟨hN1, hN2⟩ := hN
  go_enter Tryd.func6, Tryd.ntmps6
  go_wp2_with (first
    | (go_at_call 8; refine hD.mono ?_; rintro e w1 ⟨rfl, hw⟩; rw [hw]; clear hw)
    | (go_at_call 13; refine hC.mono ?_; rintro e w1 ⟨rfl, hb⟩; have hE1 := hE.below hb))
  have hA1 := (Below.refl _ w1).alloc (Nat.le_refl _) (.cells #[.int .i64 y, .int .i64 m, .int .i64 (d + 1), .int .i64 y, .int .i64 (m + 1), .int .i64 1, .int .i64 (y + 1), .int .i64 1, .int .i64 1] 47)
  have hS1 : (w1.alloc (.cells #[.int .i64 y, .int .i64 m, .int .i64 (d + 1), .int .i64 y, .int .i64 (m + 1), .int .i64 1, .int .i64 (y + 1), .int .i64 1, .int .i64 1] 47)).heap[w1.heap.size]? = some (.cells #[.int .i64 y, .int .i64 m, .int .i64 (d + 1), .int .i64 y, .int .i64 (m + 1), .int .i64 1, .int .i64 (y + 1), .int .i64 1, .int .i64 1] 47 (0, 0)) := heap_alloc_last w1 _
  have hE2 := hE1.below hA1
  have hB2 := hb.trans (hA1.mono hb.size)
  generalize w1.alloc (.cells #[.int .i64 y, .int .i64 m, .int .i64 (d + 1), .int .i64 y, .int .i64 (m + 1), .int .i64 1, .int .i64 (y + 1), .int .i64 1, .int .i64 1] 47) = W at hS1 hE2 hB2
  clear hA1 hE1 hb
  generalize w1.heap.size = B at hS1
  clear w1
  go_loopw [71] (fun i wr => ∃ k : Nat, k ≤ 3 ∧ i = .int .i64 k ∧ wr.heap[B]? = some (.cells #[.int .i64 y, .int .i64 m, .int .i64 (d + 1), .int .i64 y, .int .i64 (m + 1), .int .i64 1, .int .i64 (y + 1), .int .i64 1, .int .i64 1] 47 (0, 0)) ∧ Env6 wr ∧ Below w.heap.size w wr ∧ Hid ((0 < k → ¬ Dat.Valid y m (d + 1)) ∧ (1 < k → ¬ Dat.Valid y (m + 1) 1) ∧ (2 < k → ¬ Dat.Valid (y + 1) 1 1))) (fun i _ => 3 - (intOf i).toNat)
  case atStart => exact ⟨0, by omega, rfl, hS1, hE2, hB2, ⟨fun h => by omega, fun h => by omega, fun h => by omega⟩⟩
  case round =>
    obtain ⟨k, hk, rfl, hS, hEr, hBr, HK⟩ := hrel
    match k, hk with
    | 0, _ =>
      have hA := (Below.refl _ wr).alloc (Nat.le_refl _) (.cells #[.int .i64 (y), .int .i64 (m), .int .i64 (d + 1)] 47)
      have c0 : wr.cell? ⟨B, 0, none⟩ = _ := Lib.cell_of_heap hS 0
      have c1 : wr.cell? ⟨B, 1, none⟩ = _ := Lib.cell_of_heap hS 1
      have c2 : wr.cell? ⟨B, 2, none⟩ = _ := Lib.cell_of_heap hS 2
      have hEa := hEr.below hA
      have hBa := hBr.trans (hA.mono hBr.size)
      have hSa : (wr.alloc (.cells #[.int .i64 (y), .int .i64 (m), .int .i64 (d + 1)] 47)).heap[B]? = _ := (hA.block B (Array.getElem?_eq_some_iff.1 hS).1).trans hS
      have hDk := fun w h => Days_any (y) (m) (d + 1) w h (by omega) (by omega)
      by_cases hx : Dat.Valid (y) (m) (d + 1)
      · have e1 := Q0.out hx
        have e2 := (days_yes hx).2
        rw [e1, e2] at hDk
        clear e1 e2 hx
        go_wp2_with (first
          | (go_at_call 8; refine (hDk _ hEa.ah).mono ?_; rintro e w2 ⟨rfl, hw⟩; rw [hw]; clear hw)
          | (go_at_call 12; refine (alive6_any _ hEa).mono ?_; rintro e w3 ⟨rfl, hb3⟩))
        go_ret
        exact ⟨rfl, hBa.trans (hb3.mono hBa.size)⟩
      · have e1 := (days_no hx).1
        have e2 := (days_no hx).2
        rw [e1, e2] at hDk
        have HX : Hid _ := hx
        clear e1 e2 hx
        go_wp2_with (first
          | (go_at_call 8; refine (hDk _ hEa.ah).mono ?_; rintro e w2 ⟨rfl, hw⟩; rw [hw]; clear hw))
        go_roundw
        case rel => exact ⟨1, by omega, rfl, hSa, hEa, hBa, ⟨fun h => HX.out, fun h => by omega, fun h => by omega⟩⟩
        case measure => simp [intOf]
    | 1, _ =>
      have hA := (Below.refl _ wr).alloc (Nat.le_refl _) (.cells #[.int .i64 (y), .int .i64 (m + 1), .int .i64 (1)] 47)
      have c3 : wr.cell? ⟨B, 3, none⟩ = _ := Lib.cell_of_heap hS 3
      have c4 : wr.cell? ⟨B, 4, none⟩ = _ := Lib.cell_of_heap hS 4
      have c5 : wr.cell? ⟨B, 5, none⟩ = _ := Lib.cell_of_heap hS 5
      have hEa := hEr.below hA
      have hBa := hBr.trans (hA.mono hBr.size)
      have hSa : (wr.alloc (.cells #[.int .i64 (y), .int .i64 (m + 1), .int .i64 (1)] 47)).heap[B]? = _ := (hA.block B (Array.getElem?_eq_some_iff.1 hS).1).trans hS
      have hDk := fun w h => Days_any (y) (m + 1) (1) w h (by omega) (by omega)
      by_cases hx : Dat.Valid (y) (m + 1) (1)
      · have e1 := Q1.out (HK.out.1 (by omega)) hx
        have e2 := (days_yes hx).2
        rw [e1, e2] at hDk
        clear e1 e2 hx
        go_wp2_with (first
          | (go_at_call 8; refine (hDk _ hEa.ah).mono ?_; rintro e w2 ⟨rfl, hw⟩; rw [hw]; clear hw)
          | (go_at_call 12; refine (alive6_any _ hEa).mono ?_; rintro e w3 ⟨rfl, hb3⟩))
        go_ret
        exact ⟨rfl, hBa.trans (hb3.mono hBa.size)⟩
      · have e1 := (days_no hx).1
        have e2 := (days_no hx).2
        rw [e1, e2] at hDk
        have HX : Hid _ := hx
        clear e1 e2 hx
        go_wp2_with (first
          | (go_at_call 8; refine (hDk _ hEa.ah).mono ?_; rintro e w2 ⟨rfl, hw⟩; rw [hw]; clear hw))
        go_roundw
        case rel => exact ⟨2, by omega, rfl, hSa, hEa, hBa, ⟨fun h => HK.out.1 (by omega), fun h => HX.out, fun h => by omega⟩⟩
        case measure => simp [intOf]
    | 2, _ =>
      have hA := (Below.refl _ wr).alloc (Nat.le_refl _) (.cells #[.int .i64 (y + 1), .int .i64 (1), .int .i64 (1)] 47)
      have c6 : wr.cell? ⟨B, 6, none⟩ = _ := Lib.cell_of_heap hS 6
      have c7 : wr.cell? ⟨B, 7, none⟩ = _ := Lib.cell_of_heap hS 7
      have c8 : wr.cell? ⟨B, 8, none⟩ = _ := Lib.cell_of_heap hS 8
      have hEa := hEr.below hA
      have hBa := hBr.trans (hA.mono hBr.size)
      have hSa : (wr.alloc (.cells #[.int .i64 (y + 1), .int .i64 (1), .int .i64 (1)] 47)).heap[B]? = _ := (hA.block B (Array.getElem?_eq_some_iff.1 hS).1).trans hS
      have hDk := fun w h => Days_any (y + 1) (1) (1) w h (by omega) (by omega)
      by_cases hx : Dat.Valid (y + 1) (1) (1)
      · have e1 := Q2.out (HK.out.1 (by omega)) (HK.out.2.1 (by omega)) hx
        have e2 := (days_yes hx).2
        rw [e1, e2] at hDk
        clear e1 e2 hx
        go_wp2_with (first
          | (go_at_call 8; refine (hDk _ hEa.ah).mono ?_; rintro e w2 ⟨rfl, hw⟩; rw [hw]; clear hw)
          | (go_at_call 12; refine (alive6_any _ hEa).mono ?_; rintro e w3 ⟨rfl, hb3⟩))
        go_ret
        exact ⟨rfl, hBa.trans (hb3.mono hBa.size)⟩
      · have e1 := (days_no hx).1
        have e2 := (days_no hx).2
        rw [e1, e2] at hDk
        have HX : Hid _ := hx
        clear e1 e2 hx
        go_wp2_with (first
          | (go_at_call 8; refine (hDk _ hEa.ah).mono ?_; rintro e w2 ⟨rfl, hw⟩; rw [hw]; clear hw))
        go_roundw
        case rel => exact ⟨3, by omega, rfl, hSa, hEa, hBa, ⟨fun h => HK.out.1 (by omega), fun h => HK.out.2.1 (by omega), fun h => HX.out⟩⟩
        case measure => simp [intOf]
    | 3, _ =>
      have ey : y = 9999 := three_end HV0.out (HK.out.2.2 (by omega))
      have em : m = 12 := two_end HV0.out (HK.out.2.1 (by omega))
      have ed : d = 31 := by
        have := one_end HV0.out (HK.out.1 (by omega))
        rw [em] at this
        exact this
      subst ey em ed
      go_wp2_with (first
        | (go_at_call 12; refine (alive6_any _ hEr).mono ?_; rintro e w3 ⟨rfl, hb3⟩))
      go_ret
      exact ⟨rfl, hBr.trans (hb3.mono hBr.size)⟩
theorem walk (y m d : Int) (w : World) (_hy : (Lit.int .i64 y).wf = true) (_hm : (Lit.int .i64 m).wf = true) (hd : (Lit.int .i64 d).wf = true) (hE : Env6 w) :
    Calls Tryd.prog 6 #[.int .i64 y, .int .i64 m, .int .i64 d] w fun e w' => e = .returned (.bool true) ∧ Below w.heap.size w w' := by
  obtain ⟨d1, d2⟩ := i64_bd hd
  by_cases hv : Dat.Valid y m d
  · exact yes y m d w hv hE
  · exact no y m d w d1 d2 hv hE
end Go.Proofs.YtnklbeldheocmaaDoor.dateNext
