/- The contract of the reference's Zone. -/
import Derived.Test.YtnklbeldheocmaaGreatDoorKDR3
namespace Go.Proofs.YtnklbeldheocmaaGreatDoor
open Go.RowKit
/-- What Zone answers of a text's end. -/
def zend (l : List UInt8) (h : Int) (x : Option Int) : Option Int := match x with
  | none => none
  | some m => if h < 0 ∨ 14 < h ∨ m < 0 ∨ 59 < m then none else some (if l[0]? = some 45 then - (h * 3600 + m * 60) else h * 3600 + m * 60)
theorem zend_none (l : List UInt8) (h : Int) : zend l h none = none := rfl
theorem zend_bad {l : List UInt8} {h m : Int} (hx : h < 0 ∨ 14 < h ∨ m < 0 ∨ 59 < m) : zend l h (some m) = none := by
  show (if _ then _ else _) = _
  rw [if_pos hx]
theorem zend_minus {l : List UInt8} {h m : Int} (h0 : l[0]? = some 45) (hx : ¬ (h < 0 ∨ 14 < h ∨ m < 0 ∨ 59 < m)) : zend l h (some m) = some (- (h * 3600 + m * 60)) := by
  show (if _ then _ else _) = _
  rw [if_neg hx, if_pos h0]
theorem zend_plus {l : List UInt8} {h m : Int} (h0 : ¬ l[0]? = some 45) (hx : ¬ (h < 0 ∨ 14 < h ∨ m < 0 ∨ 59 < m)) : zend l h (some m) = some (h * 3600 + m * 60) := by
  show (if _ then _ else _) = _
  rw [if_neg hx, if_neg h0]
theorem zone_rest {l : List UInt8} (h1 : ¬ (l = [90] ∨ l = [122])) (h3 : ¬ (l.length < 3 ∨ (l[0]? ≠ some 43 ∧ l[0]? ≠ some 45))) : Dat.zoneR l = zend l (Dat.two ((l.take 3).drop 1) 2) (Dat.zoneM (l.drop 3)) := by
  unfold Dat.zoneR
  rw [if_neg h1, if_neg h3]
  cases Dat.zoneM (l.drop 3) <;> rfl
theorem eq_lit_no {l m : List UInt8} (h : ¬ l = m) : ((str l).toList == m) = false := by
  rw [str_list]
  simpa using h
set_option maxRecDepth 100000 in
set_option maxHeartbeats 1000000 in
theorem RZone_any (l : List UInt8) (w : World) (hz0 : l.length ≤ 100000) :
    Calls Tryz.prog 10 #[.string (str l)] w fun e w' => e = .returned (timeV (Dat.zoneR l)) ∧ w' = w := by
  have hz : (str l).size = l.length := str_size l
  by_cases h90 : l = [90]
  · have hd : Dat.zoneR l = some 0 := by rw [h90]; rfl
    rw [hd]
    have e1 : ((str l).toList == [90]) = true := by rw [str_list, h90]; rfl
    clear hd h90
    go_enter Tryz.func10, Tryz.ntmps10
    go_wp2
    go_ret2
    exact ⟨rfl, rfl⟩
  have e1 := eq_lit_no h90
  by_cases h122 : l = [122]
  · have hd : Dat.zoneR l = some 0 := by rw [h122]; rfl
    rw [hd]
    have e2 : ((str l).toList == [122]) = true := by rw [str_list, h122]; rfl
    clear hd h122 h90
    go_enter Tryz.func10, Tryz.ntmps10
    go_wp2
    go_ret2
    exact ⟨rfl, rfl⟩
  have e2 := eq_lit_no h122
  have hno : ¬ (l = [90] ∨ l = [122]) := by rintro (h | h); exact h90 h; exact h122 h
  clear h90 h122
  by_cases h3 : l.length < 3
  · have hd : Dat.zoneR l = none := by unfold Dat.zoneR; rw [if_neg hno, if_pos (.inl h3)]
    rw [hd]
    have k3 : (l.length : Int) < 3 := by omega
    clear hd hno
    go_enter Tryz.func10, Tryz.ntmps10
    go_wp2
    go_ret2
    exact ⟨rfl, rfl⟩
  have k3 : ¬ (l.length : Int) < 3 := by omega
  have k3b : (3 : Int) ≤ (l.length : Int) := by omega
  have k0 : 0 < l.length := by omega
  obtain ⟨x, h0⟩ := some_at l 0 (by omega)
  have hat := str_at h0
  by_cases hs : x = 43 ∨ x = 45
  · have hX := zone_rest hno (by
      rintro (h | ⟨h, h'⟩)
      · exact h3 h
      · rcases hs with hs | hs
        · exact h (by rw [h0, hs])
        · exact h' (by rw [h0, hs]))
    generalize Dat.zoneR l = X at hX
    have c1 := fun w => Rtwo_str ((l.take 3).drop 1) 2 2 rfl w (by simp; omega)
    have e3 : (str l).extract 1 3 = str ((l.take 3).drop 1) := str_cut l 1 3
    have e4 : (str l).extract 3 l.length = str (l.drop 3) := str_from l 3
    have b1 := two_bd ((l.take 3).drop 1) 2
    have hr2 : (str (l.drop 3)).size = (l.drop 3).length := str_size _
    have hrl : (l.drop 3).length ≤ 100000 := by simp; omega
    have c2 := fun w => Rtwo_str (l.drop 3) 2 2 rfl w (by simp; omega)
    have c3 := fun w => Rtwo_str ((l.drop 3).drop 1) 2 2 rfl w (by simp; omega)
    have b2 := two_bd (l.drop 3) 2
    have b3 := two_bd ((l.drop 3).drop 1) 2
    have e5 : (str (l.drop 3)).extract 1 (l.drop 3).length = str ((l.drop 3).drop 1) := str_from _ 1
    have HZ : Hid (Dat.zoneM (l.drop 3) = if l.drop 3 = [] then some 0 else if (l.drop 3)[0]? = some 58 then (if (l.drop 3).drop 1 = [] then none else some (Dat.two ((l.drop 3).drop 1) 2)) else some (Dat.two (l.drop 3) 2)) := by
      show _ = _
      cases l.drop 3 with
      | nil => rfl
      | cons c r =>
        simp [Dat.zoneM_cons]
    generalize Dat.two ((l.take 3).drop 1) 2 = h at *
    generalize (l.take 3).drop 1 = v at *
    generalize l.drop 3 = r at *
    have HX : Hid _ := hX
    have H0 : Hid _ := h0
    have n1 : 0 < (str l).size := by omega
    clear hX hno
    rcases hs with hs | hs
    · subst hs
      have HZE : Hid (∀ {m : Int}, ¬ (h < 0 ∨ 14 < h ∨ m < 0 ∨ 59 < m) → zend l h (some m) = some (h * 3600 + m * 60)) := fun hx => zend_plus (by rw [H0.out]; decide) hx
      by_cases hr0 : r = []
      · have HM : Hid _ := (show Dat.zoneM r = some 0 from by rw [hr0]; rfl)
        have z0 : (str r).size = 0 := by rw [hr2, hr0]; rfl
        have z1 := left_no hr0
        clear hr0 hr2 hrl
        go_enter Tryz.func10, Tryz.ntmps10
        go_wp2_with (first
          | (go_at_call 15; refine (c1 _).mono ?_; rintro e w1 ⟨rfl, hw⟩; rw [hw]; clear hw))
        all_goals go_ret2
        all_goals first
          | exact ⟨by rw [HX.out, HM.out, zend_bad (by omega)]; rfl, rfl⟩
          | (refine ⟨?_, rfl⟩; rw [HX.out, HM.out, HZE.out (by omega)]; first | rfl | (simp [timeV, optE]; done) | (show Ending.returned (.tuple #[.int .i64 _, .int .i64 0]) = Ending.returned (.tuple #[.int .i64 _, .int .i64 0]); congr 4 <;> omega))
      · have z0 : (0 : Int) < ((str r).size : Int) := by
          rw [hr2]
          have := List.length_pos_iff.2 hr0
          omega
        have z0n : 0 < (str r).size := by omega
        have z1 := left_some hr0
        have z2 : (1 : Int) ≤ ((str r).size : Int) := by omega
        obtain ⟨y, hy⟩ := some_at r 0 (List.length_pos_iff.2 hr0)
        have hatr := str_at hy
        by_cases hy58 : y = 58
        · subst hy58
          generalize r.drop 1 = u at *
          by_cases hu : u = []
          · have HM : Hid _ := (show Dat.zoneM r = none from by rw [HZ.out, if_neg hr0, if_pos hy, if_pos hu])
            have u1 := left_no hu
            clear hr0 hy hu HZ
            go_enter Tryz.func10, Tryz.ntmps10
            go_wp2_with (first
              | (go_at_call 15; refine (c1 _).mono ?_; rintro e w1 ⟨rfl, hw⟩; rw [hw]; clear hw))
            go_ret2
            exact ⟨by rw [HX.out, HM.out, zend_none]; rfl, rfl⟩
          · have HM : Hid _ := (show Dat.zoneM r = some (Dat.two u 2) from by rw [HZ.out, if_neg hr0, if_pos hy, if_neg hu])
            have u1 := left_some hu
            clear hr0 hy hu HZ
            generalize Dat.two u 2 = m at *
            go_enter Tryz.func10, Tryz.ntmps10
            go_wp2_with (first
              | (go_at_call_of 15 (str v); refine (c1 _).mono ?_; rintro e w1 ⟨rfl, hw⟩; rw [hw]; clear hw)
              | (go_at_call_of 15 (str u); refine (c3 _).mono ?_; rintro e w1 ⟨rfl, hw⟩; rw [hw]; clear hw))
            all_goals go_ret2
            all_goals first
              | exact ⟨by rw [HX.out, HM.out, zend_bad (by omega)]; rfl, rfl⟩
              | (refine ⟨?_, rfl⟩; rw [HX.out, HM.out, HZE.out (by omega)]; first | rfl | (simp [timeV, optE]; done) | (show Ending.returned (.tuple #[.int .i64 _, .int .i64 0]) = Ending.returned (.tuple #[.int .i64 _, .int .i64 0]); congr 4 <;> omega))
        · have HM : Hid _ := (show Dat.zoneM r = some (Dat.two r 2) from by rw [HZ.out, if_neg hr0, if_neg (fun e => hy58 (Option.some.inj (hy.symm.trans e)))])
          have hn : ¬ (y.toNat : Int) = 58 := byte_n (k := 58) hy58 (by omega)
          have hn2 : ((y.toNat : Int) == 58) = false := by simpa using hn
          clear hr0 hy hy58 HZ
          generalize Dat.two r 2 = m at *
          go_enter Tryz.func10, Tryz.ntmps10
          go_wp2_with (first
            | (go_at_call_of 15 (str v); refine (c1 _).mono ?_; rintro e w1 ⟨rfl, hw⟩; rw [hw]; clear hw)
            | (go_at_call_of 15 (str r); refine (c2 _).mono ?_; rintro e w1 ⟨rfl, hw⟩; rw [hw]; clear hw))
          all_goals go_ret2
          all_goals first
            | exact ⟨by rw [HX.out, HM.out, zend_bad (by omega)]; rfl, rfl⟩
            | (refine ⟨?_, rfl⟩; rw [HX.out, HM.out, HZE.out (by omega)]; first | rfl | (simp [timeV, optE]; done) | (show Ending.returned (.tuple #[.int .i64 _, .int .i64 0]) = Ending.returned (.tuple #[.int .i64 _, .int .i64 0]); congr 4 <;> omega))
    · subst hs
      have HZE : Hid (∀ {m : Int}, ¬ (h < 0 ∨ 14 < h ∨ m < 0 ∨ 59 < m) → zend l h (some m) = some (- (h * 3600 + m * 60))) := fun hx => zend_minus H0.out hx
      by_cases hr0 : r = []
      · have HM : Hid _ := (show Dat.zoneM r = some 0 from by rw [hr0]; rfl)
        have z0 : (str r).size = 0 := by rw [hr2, hr0]; rfl
        have z1 := left_no hr0
        clear hr0 hr2 hrl
        go_enter Tryz.func10, Tryz.ntmps10
        go_wp2_with (first
          | (go_at_call 15; refine (c1 _).mono ?_; rintro e w1 ⟨rfl, hw⟩; rw [hw]; clear hw))
        all_goals go_ret2
        all_goals first
          | exact ⟨by rw [HX.out, HM.out, zend_bad (by omega)]; rfl, rfl⟩
          | (refine ⟨?_, rfl⟩; rw [HX.out, HM.out, HZE.out (by omega)]; first | rfl | (simp [timeV, optE]; done) | (show Ending.returned (.tuple #[.int .i64 _, .int .i64 0]) = Ending.returned (.tuple #[.int .i64 _, .int .i64 0]); congr 4 <;> omega))
      · have z0 : (0 : Int) < ((str r).size : Int) := by
          rw [hr2]
          have := List.length_pos_iff.2 hr0
          omega
        have z0n : 0 < (str r).size := by omega
        have z1 := left_some hr0
        have z2 : (1 : Int) ≤ ((str r).size : Int) := by omega
        obtain ⟨y, hy⟩ := some_at r 0 (List.length_pos_iff.2 hr0)
        have hatr := str_at hy
        by_cases hy58 : y = 58
        · subst hy58
          generalize r.drop 1 = u at *
          by_cases hu : u = []
          · have HM : Hid _ := (show Dat.zoneM r = none from by rw [HZ.out, if_neg hr0, if_pos hy, if_pos hu])
            have u1 := left_no hu
            clear hr0 hy hu HZ
            go_enter Tryz.func10, Tryz.ntmps10
            go_wp2_with (first
              | (go_at_call 15; refine (c1 _).mono ?_; rintro e w1 ⟨rfl, hw⟩; rw [hw]; clear hw))
            go_ret2
            exact ⟨by rw [HX.out, HM.out, zend_none]; rfl, rfl⟩
          · have HM : Hid _ := (show Dat.zoneM r = some (Dat.two u 2) from by rw [HZ.out, if_neg hr0, if_pos hy, if_neg hu])
            have u1 := left_some hu
            clear hr0 hy hu HZ
            generalize Dat.two u 2 = m at *
            go_enter Tryz.func10, Tryz.ntmps10
            go_wp2_with (first
              | (go_at_call_of 15 (str v); refine (c1 _).mono ?_; rintro e w1 ⟨rfl, hw⟩; rw [hw]; clear hw)
              | (go_at_call_of 15 (str u); refine (c3 _).mono ?_; rintro e w1 ⟨rfl, hw⟩; rw [hw]; clear hw))
            all_goals go_ret2
            all_goals first
              | exact ⟨by rw [HX.out, HM.out, zend_bad (by omega)]; rfl, rfl⟩
              | (refine ⟨?_, rfl⟩; rw [HX.out, HM.out, HZE.out (by omega)]; first | rfl | (simp [timeV, optE]; done) | (show Ending.returned (.tuple #[.int .i64 _, .int .i64 0]) = Ending.returned (.tuple #[.int .i64 _, .int .i64 0]); congr 4 <;> omega))
        · have HM : Hid _ := (show Dat.zoneM r = some (Dat.two r 2) from by rw [HZ.out, if_neg hr0, if_neg (fun e => hy58 (Option.some.inj (hy.symm.trans e)))])
          have hn : ¬ (y.toNat : Int) = 58 := byte_n (k := 58) hy58 (by omega)
          have hn2 : ((y.toNat : Int) == 58) = false := by simpa using hn
          clear hr0 hy hy58 HZ
          generalize Dat.two r 2 = m at *
          go_enter Tryz.func10, Tryz.ntmps10
          go_wp2_with (first
            | (go_at_call_of 15 (str v); refine (c1 _).mono ?_; rintro e w1 ⟨rfl, hw⟩; rw [hw]; clear hw)
            | (go_at_call_of 15 (str r); refine (c2 _).mono ?_; rintro e w1 ⟨rfl, hw⟩; rw [hw]; clear hw))
          all_goals go_ret2
          all_goals first
            | exact ⟨by rw [HX.out, HM.out, zend_bad (by omega)]; rfl, rfl⟩
            | (refine ⟨?_, rfl⟩; rw [HX.out, HM.out, HZE.out (by omega)]; first | rfl | (simp [timeV, optE]; done) | (show Ending.returned (.tuple #[.int .i64 _, .int .i64 0]) = Ending.returned (.tuple #[.int .i64 _, .int .i64 0]); congr 4 <;> omega))
  · have hd : Dat.zoneR l = none := by
      unfold Dat.zoneR
      rw [if_neg hno, if_pos (.inr ⟨fun h => hs (.inl (Option.some.inj (h0.symm.trans h))), fun h => hs (.inr (Option.some.inj (h0.symm.trans h)))⟩)]
    rw [hd]
    have n1 : 0 < (str l).size := by omega
    have m1 : ¬ (x.toNat : Int) = 43 := byte_n (k := 43) (fun h => hs (.inl h)) (by omega)
    have m2 : ¬ (x.toNat : Int) = 45 := byte_n (k := 45) (fun h => hs (.inr h)) (by omega)
    have m3 : ((x.toNat : Int) != 43) = true := by simpa using m1
    have m4 : ((x.toNat : Int) != 45) = true := by simpa using m2
    clear hd hno h0 hs
    go_enter Tryz.func10, Tryz.ntmps10
    go_wp2
    go_ret2
    exact ⟨rfl, rfl⟩
end Go.Proofs.YtnklbeldheocmaaGreatDoor
