/- The walk of JsonBlanks. -/
import Derived.Test.YtpnmiknikkhliabDoorKZH
import Derived.Test.YtpnmiknikkhliabDoorKJson
set_option linter.unusedVariables false
set_option linter.unusedSimpArgs false
namespace Go.Proofs.YtpnmiknikkhliabDoor.jsonBlanks
open Go.RowKit
theorem rv_vz (w : World) : RV (fun _ => True) w .zero (vv (.int .i64 0) (.string ⟨#[]⟩) (.slice none 0 0) (.slice none 0 0)) :=
  RV_mk.2 ⟨_, _, rfl, .inl ⟨_, _, rfl, rfl⟩, .inl ⟨_, _, rfl, rfl⟩⟩
theorem pad_str (l : List UInt8) : (⟨#[32, 9, 10]⟩ : ByteArray) ++ str l ++ (⟨#[13, 32]⟩ : ByteArray) = str (Jsn.padA ++ l ++ Jsn.padB) := by
  apply str_eq
  simp only [ByteArray.data_append, Array.toList_append, str_data]
  rfl
set_option maxHeartbeats 4000000 in
set_option maxRecDepth 100000 in
theorem long (l : List UInt8) (cut : Int) (w : World) (hl : 5000 < l.length) :
    Calls Tryd.prog 3 #[.string (str l), .int .i64 cut] w fun e w' => e = .returned (.bool true) ∧ Below w.heap.size w w' := by
  have hz := str_size l
  have hi : (5000 : Int) < (l.length : Int) := by omega
  go_enter Tryd.func3, Tryd.ntmps3
  go_wp2_with (first
    | (go_at_call 4; refine (alive7_any _).mono ?_; rintro e w1 ⟨rfl, hB1⟩))
  go_ret
  exact ⟨rfl, hB1⟩
set_option maxHeartbeats 4000000 in
set_option maxRecDepth 100000 in
theorem fault (l : List UInt8) (cut : Int) (w : World) (hl : l.length ≤ 5000) (y a y' a' : Int) (hf : Jsn.faultJ l = (y, a)) (hy : y ≠ 0) (hp : Jsn.parseJ l = .zero) (hf' : Jsn.faultJ (Jsn.padA ++ l ++ Jsn.padB) = (y', a')) (hy' : y' ≠ 0) (hp' : Jsn.parseJ (Jsn.padA ++ l ++ Jsn.padB) = .zero) :
    Calls Tryd.prog 3 #[.string (str l), .int .i64 cut] w fun e w' => e = .returned (.bool true) ∧ Below w.heap.size w w' := by
  have hz := str_size l
  have hi : ¬ (5000 : Int) < (l.length : Int) := by omega
  have hP := Parse_any l w (by omega)
  have hP' := fun w => Parse_any (Jsn.padA ++ l ++ Jsn.padB) w (by simp [Jsn.padA, Jsn.padB]; omega)
  rw [hf, hp] at hP
  rw [hf', hp', ← pad_str] at hP'
  have hy0 : (y == 0) = false := by simpa using hy
  have hy1 : (y' == 0) = false := by simpa using hy'
  have hS := fun v1 v2 w h1 h2 => Same_all .zero .zero v1 v2 w h1 h2 (by decide) (by decide)
  rw [Jsn.sameJ_refl] at hS
  clear hf hp hy hf' hp' hy'
  go_enter Tryd.func3, Tryd.ntmps3
  go_wp2_with (first
    | (go_at_call_of 5 (Value.string (str l)); refine hP.mono ?_; rintro e w1 ⟨hB1, v, rfl, hrv⟩; obtain ⟨aa, na, ca, ab, nb, cb, rfl⟩ := hrv.shape; have hr1 := RV.keep (Q' := fun _ => True) (Nat.le_refl _) (fun k _ _ => ⟨trivial, rfl⟩) hrv; clear hP; obtain ⟨hV, hN⟩ := VF.new w1 (.int .i64 Jsn.J.zero.kind) (.string (str Jsn.J.zero.text)) (.slice aa na ca) (.slice ab nb cb) y a; have hB2 := bel hB1 hN; have hr2 := RV.below hr1 hN)
    | (go_at_call 5; refine (hP' _).mono ?_; rintro e w3 ⟨hB5, v2, rfl, hrw⟩; obtain ⟨ba, ma, da, bb, mb, db, rfl⟩ := hrw.shape; have hq1 := RV.keep (Q' := fun _ => True) (Nat.le_refl _) (fun k _ _ => ⟨trivial, rfl⟩) hrw; clear hP'; obtain ⟨hV5, hN5⟩ := VF.new w3 (.int .i64 Jsn.J.zero.kind) (.string (str Jsn.J.zero.text)) (.slice ba ma da) (.slice bb mb db) y' a'; have hB6 := bel (bel hB2 hB5) hN5; have hr6 := (hr2.below hB5).below hN5; have hq6 := hq1.below hN5; have hV6 := (hV.keep hB5).keep hN5; obtain ⟨k0, k1, k2, k3, k4, k5⟩ := hV6.cells; obtain ⟨j0, j1, j2, j3, j4, j5⟩ := hV5.cells))
  generalize ((w3.alloc (.cells #[.int .i64 Jsn.J.zero.kind, .string (str Jsn.J.zero.text), .slice ba ma da, .slice bb mb db] 26)).alloc (.cells #[.int .i64 y', .int .i64 a'] 29)) = W6 at *
  clear hV5 hN5 hB5 hrw hq1
  go_region_with (go_at_call 6; refine (hS _ _ _ (RV.below hr6 (Below.refl _ _).drew) (RV.below hq6 (Below.refl _ _).drew)).mono ?_; rintro e w8 ⟨rfl, hB9⟩)
  all_goals (
    have hB10 := bel (bel hB6 (Below.refl _ _).drew) hB9
    obtain ⟨k0, k1, k2, k3, k4, k5⟩ := ((hV6.keep (Below.refl _ _).drew).keep hB9).cells
    go_wp2_with (first
      | (go_at_call 4; refine (alive7_any _).mono ?_; rintro e w9 ⟨rfl, hB11⟩))
    go_ret
    exact ⟨rfl, bel hB10 hB11⟩)
/-- Where a beginning ends: the number that comes in, brought to a place. -/
theorem cut_at (cut : Int) (L : Nat) (hL : 0 < L) (h0 : L ≤ 30000) : ∃ k : Nat, k < L ∧ ((cut.tmod L) + L).tmod L = (k : Int) ∧ -(L : Int) < cut.tmod L ∧ cut.tmod L < L := by
  have a1 : cut.tmod (L : Int) < L := Int.tmod_lt_of_pos cut (by omega)
  have a2 : -(L : Int) < cut.tmod (L : Int) := by
    have := Int.lt_tmod_of_pos cut (b := (L : Int)) (by omega)
    omega
  have a3 : 0 ≤ ((cut.tmod L) + L).tmod (L : Int) := Int.tmod_nonneg _ (by omega)
  have a4 : ((cut.tmod L) + L).tmod (L : Int) < L := Int.tmod_lt_of_pos _ (by omega)
  exact ⟨(((cut.tmod L) + L).tmod (L : Int)).toNat, by omega, by omega, a2, a1⟩
set_option maxHeartbeats 4000000 in
set_option maxRecDepth 100000 in
theorem other (l : List UInt8) (cut : Int) (w : World) (hl : l.length ≤ 5000) (t : Jsn.J) (hf : Jsn.faultJ l = (0, 0)) (hp : Jsn.parseJ l = t) (hf' : Jsn.faultJ (Jsn.padA ++ l ++ Jsn.padB) = (0, 0)) (hp' : Jsn.parseJ (Jsn.padA ++ l ++ Jsn.padB) = t) (hm : Jsn.mayJ t = true) (hq : (Jsn.textJ t).length ≤ 30000) (q4 : (t.kind == 4) = false) (q5 : (t.kind == 5) = false) (q6 : (t.kind == 6) = false) :
    Calls Tryd.prog 3 #[.string (str l), .int .i64 cut] w fun e w' => e = .returned (.bool true) ∧ Below w.heap.size w w' := by
  have hz := str_size l
  have hi : ¬ (5000 : Int) < (l.length : Int) := by omega
  have hP := Parse_any l w (by omega)
  have hP' := fun w => Parse_any (Jsn.padA ++ l ++ Jsn.padB) w (by simp [Jsn.padA, Jsn.padB]; omega)
  rw [hf, hp] at hP
  rw [hf', hp', ← pad_str] at hP'
  have hsz := (Jsn.may_sized hm).1
  have hsz2 : Jsn.sizeJ t ≤ 1000000000 := by omega
  have hT := fun v w hv => Text_any t v w hv hsz2
  have hS := fun v1 v2 w h1 h2 => Same_all t t v1 v2 w h1 h2 hsz2 hsz2
  rw [Jsn.sameJ_refl] at hS
  have hTR : textR t = (Jsn.textJ t, 0) := by unfold textR; rw [if_pos hm, if_pos (by omega)]
  rw [hTR] at hT
  clear hf hp hf' hp' hTR hm hsz hsz2
  clear hT
  go_enter Tryd.func3, Tryd.ntmps3
  go_wp2_with (first
    | (go_at_call_of 5 (Value.string (str l)); refine hP.mono ?_; rintro e w1 ⟨hB1, v, rfl, hrv⟩; obtain ⟨aa, na, ca, ab, nb, cb, rfl⟩ := hrv.shape; have hr1 := RV.keep (Q' := fun _ => True) (Nat.le_refl _) (fun k _ _ => ⟨trivial, rfl⟩) hrv; clear hP; obtain ⟨hV, hN⟩ := VF.new w1 (.int .i64 t.kind) (.string (str t.text)) (.slice aa na ca) (.slice ab nb cb) 0 0; have hB2 := bel hB1 hN; have hr2 := RV.below hr1 hN)
    | (go_at_call 5; refine (hP' _).mono ?_; rintro e w3 ⟨hB5, v2, rfl, hrw⟩; obtain ⟨ba, ma, da, bb, mb, db, rfl⟩ := hrw.shape; have hq1 := RV.keep (Q' := fun _ => True) (Nat.le_refl _) (fun k _ _ => ⟨trivial, rfl⟩) hrw; clear hP'; obtain ⟨hV5, hN5⟩ := VF.new w3 (.int .i64 t.kind) (.string (str t.text)) (.slice ba ma da) (.slice bb mb db) 0 0; have hB6 := bel (bel hB2 hB5) hN5; have hr6 := (hr2.below hB5).below hN5; have hq6 := hq1.below hN5; have hV6 := (hV.keep hB5).keep hN5; obtain ⟨k0, k1, k2, k3, k4, k5⟩ := hV6.cells; obtain ⟨j0, j1, j2, j3, j4, j5⟩ := hV5.cells))
  generalize ((w3.alloc (.cells #[.int .i64 t.kind, .string (str t.text), .slice ba ma da, .slice bb mb db] 26)).alloc (.cells #[.int .i64 0, .int .i64 0] 29)) = W6 at *
  clear hV5 hN5 hB5 hrw hq1
  go_cut [41] from 29 to 41 (fun r wc => r = .bool false ∧ Below w.heap.size w wc ∧ VF wc w1.heap.size (.int .i64 t.kind) (.string (str t.text)) (.slice aa na ca) (.slice ab nb cb) 0 0 ∧ RV (fun _ => True) wc t (vv (.int .i64 t.kind) (.string (str t.text)) (.slice aa na ca) (.slice ab nb cb)))
  case first =>
    go_region_with (go_at_call 6; refine (hS _ _ _ (RV.below hr6 (Below.refl _ _).drew) (RV.below hq6 (Below.refl _ _).drew)).mono ?_; rintro e w8 ⟨rfl, hB9⟩)
    all_goals (go_wp2_with fail; go_meet; exact ⟨rfl, bel (bel hB6 (Below.refl _ _).drew) hB9, (hV6.keep (Below.refl _ _).drew).keep hB9, (RV.below hr6 (Below.refl _ _).drew).below hB9⟩)
  case rest =>
    obtain ⟨rfl, hB10, hV8, hr8⟩ := hcut
    obtain ⟨k0, k1, k2, k3, k4, k5⟩ := hV8.cells
    clear j0 j1 j2 j3 j4 j5 hS
    go_wp2_with (first
      | (go_at_call 4; refine (alive7_any _).mono ?_; rintro e w9 ⟨rfl, hB11⟩))
    go_ret
    exact ⟨rfl, bel hB10 hB11⟩
set_option maxHeartbeats 4000000 in
set_option maxRecDepth 100000 in
theorem part5 (l : List UInt8) (cut : Int) (w : World) (hl : l.length ≤ 5000) (t : Jsn.J) (hf : Jsn.faultJ l = (0, 0)) (hp : Jsn.parseJ l = t) (hf' : Jsn.faultJ (Jsn.padA ++ l ++ Jsn.padB) = (0, 0)) (hp' : Jsn.parseJ (Jsn.padA ++ l ++ Jsn.padB) = t) (hm : Jsn.mayJ t = true) (hq : (Jsn.textJ t).length ≤ 30000) (q5 : (t.kind == 5) = true) (hq0 : 0 < (Jsn.textJ t).length) (hfp : ∀ k, k < (Jsn.textJ t).length → Jsn.faultJ ((Jsn.textJ t).take k) = (4, (k : Int)) ∨ Jsn.faultJ ((Jsn.textJ t).take k) = (9, 0)) (hci : -9223372036854775808 ≤ cut ∧ cut ≤ 9223372036854775807) :
    Calls Tryd.prog 3 #[.string (str l), .int .i64 cut] w fun e w' => e = .returned (.bool true) ∧ Below w.heap.size w w' := by
  have hz := str_size l
  have hi : ¬ (5000 : Int) < (l.length : Int) := by omega
  have hP := Parse_any l w (by omega)
  have hP' := fun w => Parse_any (Jsn.padA ++ l ++ Jsn.padB) w (by simp [Jsn.padA, Jsn.padB]; omega)
  rw [hf, hp] at hP
  rw [hf', hp', ← pad_str] at hP'
  have hsz := (Jsn.may_sized hm).1
  have hsz2 : Jsn.sizeJ t ≤ 1000000000 := by omega
  have hT := fun v w hv => Text_any t v w hv hsz2
  have hS := fun v1 v2 w h1 h2 => Same_all t t v1 v2 w h1 h2 hsz2 hsz2
  rw [Jsn.sameJ_refl] at hS
  have hTR : textR t = (Jsn.textJ t, 0) := by unfold textR; rw [if_pos hm, if_pos (by omega)]
  rw [hTR] at hT
  clear hf hp hf' hp' hTR hm hsz hsz2
  generalize Jsn.textJ t = q at *
  obtain ⟨kk, hk1, hk2, hk3, hk4⟩ := cut_at cut q.length hq0 hq
  have hP3 := fun w => Parse_any (q.take kk) w (by rw [List.length_take]; omega)
  have hqz := str_size q
  have hqe : (str q).toList.isEmpty = false := by rw [empty_is]; cases q with | nil => cases hq0 | cons _ _ => rfl
  have hfk := hfp kk hk1
  rw [← str_to] at hP3
  generalize Jsn.parseJ (q.take kk) = tz at hP3
  clear hfp
  go_enter Tryd.func3, Tryd.ntmps3
  go_wp2_with (first
    | (go_at_call_of 5 (Value.string (str l)); refine hP.mono ?_; rintro e w1 ⟨hB1, v, rfl, hrv⟩; obtain ⟨aa, na, ca, ab, nb, cb, rfl⟩ := hrv.shape; have hr1 := RV.keep (Q' := fun _ => True) (Nat.le_refl _) (fun k _ _ => ⟨trivial, rfl⟩) hrv; clear hP; obtain ⟨hV, hN⟩ := VF.new w1 (.int .i64 t.kind) (.string (str t.text)) (.slice aa na ca) (.slice ab nb cb) 0 0; have hB2 := bel hB1 hN; have hr2 := RV.below hr1 hN)
    | (go_at_call 5; refine (hP' _).mono ?_; rintro e w3 ⟨hB5, v2, rfl, hrw⟩; obtain ⟨ba, ma, da, bb, mb, db, rfl⟩ := hrw.shape; have hq1 := RV.keep (Q' := fun _ => True) (Nat.le_refl _) (fun k _ _ => ⟨trivial, rfl⟩) hrw; clear hP'; obtain ⟨hV5, hN5⟩ := VF.new w3 (.int .i64 t.kind) (.string (str t.text)) (.slice ba ma da) (.slice bb mb db) 0 0; have hB6 := bel (bel hB2 hB5) hN5; have hr6 := (hr2.below hB5).below hN5; have hq6 := hq1.below hN5; have hV6 := (hV.keep hB5).keep hN5; obtain ⟨k0, k1, k2, k3, k4, k5⟩ := hV6.cells; obtain ⟨j0, j1, j2, j3, j4, j5⟩ := hV5.cells))
  generalize ((w3.alloc (.cells #[.int .i64 t.kind, .string (str t.text), .slice ba ma da, .slice bb mb db] 26)).alloc (.cells #[.int .i64 0, .int .i64 0] 29)) = W6 at *
  clear hV5 hN5 hB5 hrw hq1
  go_cut [41] from 29 to 41 (fun r wc => r = .bool false ∧ Below w.heap.size w wc ∧ VF wc w1.heap.size (.int .i64 t.kind) (.string (str t.text)) (.slice aa na ca) (.slice ab nb cb) 0 0 ∧ RV (fun _ => True) wc t (vv (.int .i64 t.kind) (.string (str t.text)) (.slice aa na ca) (.slice ab nb cb)))
  case first =>
    go_region_with (go_at_call 6; refine (hS _ _ _ (RV.below hr6 (Below.refl _ _).drew) (RV.below hq6 (Below.refl _ _).drew)).mono ?_; rintro e w8 ⟨rfl, hB9⟩)
    all_goals (go_wp2_with fail; go_meet; exact ⟨rfl, bel (bel hB6 (Below.refl _ _).drew) hB9, (hV6.keep (Below.refl _ _).drew).keep hB9, (RV.below hr6 (Below.refl _ _).drew).below hB9⟩)
  case rest =>
    obtain ⟨rfl, hB10, hV8, hr8⟩ := hcut
    obtain ⟨k0, k1, k2, k3, k4, k5⟩ := hV8.cells
    clear j0 j1 j2 j3 j4 j5 hS
    rcases hfk with hfk | hfk
    all_goals (
      rw [hfk] at hP3
      clear hfk
      go_wp2_with (first
        | (go_at_call 7; refine (hT _ _ hr8).mono ?_; rintro e w9 ⟨rfl, hB11⟩; have hB12 := bel hB10 hB11; clear hT)
        | (go_at_call 5; refine (hP3 _).mono ?_; rintro e w11 ⟨hB13, vz3, rfl, hrz⟩; obtain ⟨ga, ha, ia, gb, hb, ib, rfl⟩ := hrz.shape; clear hP3; obtain ⟨hV13, hN13⟩ := VF.new w11 (.int .i64 tz.kind) (.string (str tz.text)) (.slice ga ha ia) (.slice gb hb ib) _ _; have hB14 := bel (bel hB12 hB13) hN13)
        | (go_at_call 4; refine (alive7_any _).mono ?_; rintro e w15 ⟨rfl, hB15⟩))
      go_ret
      exact ⟨rfl, bel hB14 hB15⟩)
set_option maxHeartbeats 4000000 in
set_option maxRecDepth 100000 in
theorem part6 (l : List UInt8) (cut : Int) (w : World) (hl : l.length ≤ 5000) (t : Jsn.J) (hf : Jsn.faultJ l = (0, 0)) (hp : Jsn.parseJ l = t) (hf' : Jsn.faultJ (Jsn.padA ++ l ++ Jsn.padB) = (0, 0)) (hp' : Jsn.parseJ (Jsn.padA ++ l ++ Jsn.padB) = t) (hm : Jsn.mayJ t = true) (hq : (Jsn.textJ t).length ≤ 30000) (q5 : (t.kind == 5) = false) (q6 : (t.kind == 6) = true) (hq0 : 0 < (Jsn.textJ t).length) (hfp : ∀ k, k < (Jsn.textJ t).length → Jsn.faultJ ((Jsn.textJ t).take k) = (4, (k : Int)) ∨ Jsn.faultJ ((Jsn.textJ t).take k) = (9, 0)) (hci : -9223372036854775808 ≤ cut ∧ cut ≤ 9223372036854775807) :
    Calls Tryd.prog 3 #[.string (str l), .int .i64 cut] w fun e w' => e = .returned (.bool true) ∧ Below w.heap.size w w' := by
  have hz := str_size l
  have hi : ¬ (5000 : Int) < (l.length : Int) := by omega
  have hP := Parse_any l w (by omega)
  have hP' := fun w => Parse_any (Jsn.padA ++ l ++ Jsn.padB) w (by simp [Jsn.padA, Jsn.padB]; omega)
  rw [hf, hp] at hP
  rw [hf', hp', ← pad_str] at hP'
  have hsz := (Jsn.may_sized hm).1
  have hsz2 : Jsn.sizeJ t ≤ 1000000000 := by omega
  have hT := fun v w hv => Text_any t v w hv hsz2
  have hS := fun v1 v2 w h1 h2 => Same_all t t v1 v2 w h1 h2 hsz2 hsz2
  rw [Jsn.sameJ_refl] at hS
  have hTR : textR t = (Jsn.textJ t, 0) := by unfold textR; rw [if_pos hm, if_pos (by omega)]
  rw [hTR] at hT
  clear hf hp hf' hp' hTR hm hsz hsz2
  generalize Jsn.textJ t = q at *
  obtain ⟨kk, hk1, hk2, hk3, hk4⟩ := cut_at cut q.length hq0 hq
  have hP3 := fun w => Parse_any (q.take kk) w (by rw [List.length_take]; omega)
  have hqz := str_size q
  have hqe : (str q).toList.isEmpty = false := by rw [empty_is]; cases q with | nil => cases hq0 | cons _ _ => rfl
  have hfk := hfp kk hk1
  rw [← str_to] at hP3
  generalize Jsn.parseJ (q.take kk) = tz at hP3
  clear hfp
  go_enter Tryd.func3, Tryd.ntmps3
  go_wp2_with (first
    | (go_at_call_of 5 (Value.string (str l)); refine hP.mono ?_; rintro e w1 ⟨hB1, v, rfl, hrv⟩; obtain ⟨aa, na, ca, ab, nb, cb, rfl⟩ := hrv.shape; have hr1 := RV.keep (Q' := fun _ => True) (Nat.le_refl _) (fun k _ _ => ⟨trivial, rfl⟩) hrv; clear hP; obtain ⟨hV, hN⟩ := VF.new w1 (.int .i64 t.kind) (.string (str t.text)) (.slice aa na ca) (.slice ab nb cb) 0 0; have hB2 := bel hB1 hN; have hr2 := RV.below hr1 hN)
    | (go_at_call 5; refine (hP' _).mono ?_; rintro e w3 ⟨hB5, v2, rfl, hrw⟩; obtain ⟨ba, ma, da, bb, mb, db, rfl⟩ := hrw.shape; have hq1 := RV.keep (Q' := fun _ => True) (Nat.le_refl _) (fun k _ _ => ⟨trivial, rfl⟩) hrw; clear hP'; obtain ⟨hV5, hN5⟩ := VF.new w3 (.int .i64 t.kind) (.string (str t.text)) (.slice ba ma da) (.slice bb mb db) 0 0; have hB6 := bel (bel hB2 hB5) hN5; have hr6 := (hr2.below hB5).below hN5; have hq6 := hq1.below hN5; have hV6 := (hV.keep hB5).keep hN5; obtain ⟨k0, k1, k2, k3, k4, k5⟩ := hV6.cells; obtain ⟨j0, j1, j2, j3, j4, j5⟩ := hV5.cells))
  generalize ((w3.alloc (.cells #[.int .i64 t.kind, .string (str t.text), .slice ba ma da, .slice bb mb db] 26)).alloc (.cells #[.int .i64 0, .int .i64 0] 29)) = W6 at *
  clear hV5 hN5 hB5 hrw hq1
  go_cut [41] from 29 to 41 (fun r wc => r = .bool false ∧ Below w.heap.size w wc ∧ VF wc w1.heap.size (.int .i64 t.kind) (.string (str t.text)) (.slice aa na ca) (.slice ab nb cb) 0 0 ∧ RV (fun _ => True) wc t (vv (.int .i64 t.kind) (.string (str t.text)) (.slice aa na ca) (.slice ab nb cb)))
  case first =>
    go_region_with (go_at_call 6; refine (hS _ _ _ (RV.below hr6 (Below.refl _ _).drew) (RV.below hq6 (Below.refl _ _).drew)).mono ?_; rintro e w8 ⟨rfl, hB9⟩)
    all_goals (go_wp2_with fail; go_meet; exact ⟨rfl, bel (bel hB6 (Below.refl _ _).drew) hB9, (hV6.keep (Below.refl _ _).drew).keep hB9, (RV.below hr6 (Below.refl _ _).drew).below hB9⟩)
  case rest =>
    obtain ⟨rfl, hB10, hV8, hr8⟩ := hcut
    obtain ⟨k0, k1, k2, k3, k4, k5⟩ := hV8.cells
    clear j0 j1 j2 j3 j4 j5 hS
    rcases hfk with hfk | hfk
    all_goals (
      rw [hfk] at hP3
      clear hfk
      go_wp2_with (first
        | (go_at_call 7; refine (hT _ _ hr8).mono ?_; rintro e w9 ⟨rfl, hB11⟩; have hB12 := bel hB10 hB11; clear hT)
        | (go_at_call 5; refine (hP3 _).mono ?_; rintro e w11 ⟨hB13, vz3, rfl, hrz⟩; obtain ⟨ga, ha, ia, gb, hb, ib, rfl⟩ := hrz.shape; clear hP3; obtain ⟨hV13, hN13⟩ := VF.new w11 (.int .i64 tz.kind) (.string (str tz.text)) (.slice ga ha ia) (.slice gb hb ib) _ _; have hB14 := bel (bel hB12 hB13) hN13)
        | (go_at_call 4; refine (alive7_any _).mono ?_; rintro e w15 ⟨rfl, hB15⟩))
      go_ret
      exact ⟨rfl, bel hB14 hB15⟩)
set_option maxHeartbeats 4000000 in
set_option maxRecDepth 100000 in
theorem part4 (l : List UInt8) (cut : Int) (w : World) (hl : l.length ≤ 5000) (t : Jsn.J) (hf : Jsn.faultJ l = (0, 0)) (hp : Jsn.parseJ l = t) (hf' : Jsn.faultJ (Jsn.padA ++ l ++ Jsn.padB) = (0, 0)) (hp' : Jsn.parseJ (Jsn.padA ++ l ++ Jsn.padB) = t) (hm : Jsn.mayJ t = true) (hq : (Jsn.textJ t).length ≤ 30000) (q5 : (t.kind == 5) = false) (q6 : (t.kind == 6) = false) (q4 : (t.kind == 4) = true) (hq0 : 0 < (Jsn.textJ t).length) (hfp : ∀ k, k < (Jsn.textJ t).length → Jsn.faultJ ((Jsn.textJ t).take k) = (4, (k : Int)) ∨ Jsn.faultJ ((Jsn.textJ t).take k) = (9, 0)) (hci : -9223372036854775808 ≤ cut ∧ cut ≤ 9223372036854775807) :
    Calls Tryd.prog 3 #[.string (str l), .int .i64 cut] w fun e w' => e = .returned (.bool true) ∧ Below w.heap.size w w' := by
  have hz := str_size l
  have hi : ¬ (5000 : Int) < (l.length : Int) := by omega
  have hP := Parse_any l w (by omega)
  have hP' := fun w => Parse_any (Jsn.padA ++ l ++ Jsn.padB) w (by simp [Jsn.padA, Jsn.padB]; omega)
  rw [hf, hp] at hP
  rw [hf', hp', ← pad_str] at hP'
  have hsz := (Jsn.may_sized hm).1
  have hsz2 : Jsn.sizeJ t ≤ 1000000000 := by omega
  have hT := fun v w hv => Text_any t v w hv hsz2
  have hS := fun v1 v2 w h1 h2 => Same_all t t v1 v2 w h1 h2 hsz2 hsz2
  rw [Jsn.sameJ_refl] at hS
  have hTR : textR t = (Jsn.textJ t, 0) := by unfold textR; rw [if_pos hm, if_pos (by omega)]
  rw [hTR] at hT
  clear hf hp hf' hp' hTR hm hsz hsz2
  generalize Jsn.textJ t = q at *
  obtain ⟨kk, hk1, hk2, hk3, hk4⟩ := cut_at cut q.length hq0 hq
  have hP3 := fun w => Parse_any (q.take kk) w (by rw [List.length_take]; omega)
  have hqz := str_size q
  have hqe : (str q).toList.isEmpty = false := by rw [empty_is]; cases q with | nil => cases hq0 | cons _ _ => rfl
  have hfk := hfp kk hk1
  rw [← str_to] at hP3
  generalize Jsn.parseJ (q.take kk) = tz at hP3
  clear hfp
  go_enter Tryd.func3, Tryd.ntmps3
  go_wp2_with (first
    | (go_at_call_of 5 (Value.string (str l)); refine hP.mono ?_; rintro e w1 ⟨hB1, v, rfl, hrv⟩; obtain ⟨aa, na, ca, ab, nb, cb, rfl⟩ := hrv.shape; have hr1 := RV.keep (Q' := fun _ => True) (Nat.le_refl _) (fun k _ _ => ⟨trivial, rfl⟩) hrv; clear hP; obtain ⟨hV, hN⟩ := VF.new w1 (.int .i64 t.kind) (.string (str t.text)) (.slice aa na ca) (.slice ab nb cb) 0 0; have hB2 := bel hB1 hN; have hr2 := RV.below hr1 hN)
    | (go_at_call 5; refine (hP' _).mono ?_; rintro e w3 ⟨hB5, v2, rfl, hrw⟩; obtain ⟨ba, ma, da, bb, mb, db, rfl⟩ := hrw.shape; have hq1 := RV.keep (Q' := fun _ => True) (Nat.le_refl _) (fun k _ _ => ⟨trivial, rfl⟩) hrw; clear hP'; obtain ⟨hV5, hN5⟩ := VF.new w3 (.int .i64 t.kind) (.string (str t.text)) (.slice ba ma da) (.slice bb mb db) 0 0; have hB6 := bel (bel hB2 hB5) hN5; have hr6 := (hr2.below hB5).below hN5; have hq6 := hq1.below hN5; have hV6 := (hV.keep hB5).keep hN5; obtain ⟨k0, k1, k2, k3, k4, k5⟩ := hV6.cells; obtain ⟨j0, j1, j2, j3, j4, j5⟩ := hV5.cells))
  generalize ((w3.alloc (.cells #[.int .i64 t.kind, .string (str t.text), .slice ba ma da, .slice bb mb db] 26)).alloc (.cells #[.int .i64 0, .int .i64 0] 29)) = W6 at *
  clear hV5 hN5 hB5 hrw hq1
  go_cut [41] from 29 to 41 (fun r wc => r = .bool false ∧ Below w.heap.size w wc ∧ VF wc w1.heap.size (.int .i64 t.kind) (.string (str t.text)) (.slice aa na ca) (.slice ab nb cb) 0 0 ∧ RV (fun _ => True) wc t (vv (.int .i64 t.kind) (.string (str t.text)) (.slice aa na ca) (.slice ab nb cb)))
  case first =>
    go_region_with (go_at_call 6; refine (hS _ _ _ (RV.below hr6 (Below.refl _ _).drew) (RV.below hq6 (Below.refl _ _).drew)).mono ?_; rintro e w8 ⟨rfl, hB9⟩)
    all_goals (go_wp2_with fail; go_meet; exact ⟨rfl, bel (bel hB6 (Below.refl _ _).drew) hB9, (hV6.keep (Below.refl _ _).drew).keep hB9, (RV.below hr6 (Below.refl _ _).drew).below hB9⟩)
  case rest =>
    obtain ⟨rfl, hB10, hV8, hr8⟩ := hcut
    obtain ⟨k0, k1, k2, k3, k4, k5⟩ := hV8.cells
    clear j0 j1 j2 j3 j4 j5 hS
    rcases hfk with hfk | hfk
    all_goals (
      rw [hfk] at hP3
      clear hfk
      go_wp2_with (first
        | (go_at_call 7; refine (hT _ _ hr8).mono ?_; rintro e w9 ⟨rfl, hB11⟩; have hB12 := bel hB10 hB11; clear hT)
        | (go_at_call 5; refine (hP3 _).mono ?_; rintro e w11 ⟨hB13, vz3, rfl, hrz⟩; obtain ⟨ga, ha, ia, gb, hb, ib, rfl⟩ := hrz.shape; clear hP3; obtain ⟨hV13, hN13⟩ := VF.new w11 (.int .i64 tz.kind) (.string (str tz.text)) (.slice ga ha ia) (.slice gb hb ib) _ _; have hB14 := bel (bel hB12 hB13) hN13)
        | (go_at_call 4; refine (alive7_any _).mono ?_; rintro e w15 ⟨rfl, hB15⟩))
      go_ret
      exact ⟨rfl, bel hB14 hB15⟩)
theorem walk (s : ByteArray) (cut : Int) (w : World) (_hs : s.size ≤ maxLen) (hc : (Lit.int .i64 cut).wf = true) (_hE : True) :
    Calls Tryd.prog 3 #[.string s, .int .i64 cut] w fun e w' => e = .returned (.bool true) ∧ Below w.heap.size w w' := by
  rw [← str_self s]
  generalize s.data.toList = l
  have hci := i64_bd hc
  by_cases hl : 5000 < l.length
  · exact long l cut w hl
  · rcases Jsn.blanks_all l (by omega) with ⟨y, a, y', a', h1, h2, h3, h4, h5, h6⟩ | ⟨v, h1, h2, h3, h4, h5, h6, h7⟩
    · exact fault l cut w (by omega) y a y' a' h1 h2 h3 h4 h5 h6
    · by_cases k5 : v.kind = 5
      · obtain ⟨p1, p2⟩ := h7 (.inr (.inl k5))
        exact part5 l cut w (by omega) v h1 h2 h3 h4 h5 h6 (by rw [k5]; rfl) p1 p2 hci
      · have q5 : (v.kind == 5) = false := by simpa using k5
        by_cases k6 : v.kind = 6
        · obtain ⟨p1, p2⟩ := h7 (.inr (.inr k6))
          exact part6 l cut w (by omega) v h1 h2 h3 h4 h5 h6 q5 (by rw [k6]; rfl) p1 p2 hci
        · have q6 : (v.kind == 6) = false := by simpa using k6
          by_cases k4 : v.kind = 4
          · obtain ⟨p1, p2⟩ := h7 (.inl k4)
            exact part4 l cut w (by omega) v h1 h2 h3 h4 h5 h6 q5 q6 (by rw [k4]; rfl) p1 p2 hci
          · exact other l cut w (by omega) v h1 h2 h3 h4 h5 h6 (by simpa using k4) q5 q6
end Go.Proofs.YtpnmiknikkhliabDoor.jsonBlanks
