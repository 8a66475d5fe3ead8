/- Contracts of the reference's time, Zone, blanks and split. -/
import Derived.Test.YtnklbeldheocmaaGreatDoorKDR2
namespace Go.Proofs.YtnklbeldheocmaaGreatDoor
open Go.RowKit
theorem drop_str (l : List UInt8) (k n : Nat) (hn : n = l.length) : (str l).extract k n = str (l.drop k) := by rw [hn]; exact str_from l k
theorem numErr_neg (l : List UInt8) : Asc.numErr l (-1) = if Asc.digForm l = true then 5 else 3 := by
  unfold Asc.numErr
  cases Asc.digForm l <;> rfl
/-- The end of a time: its parts in their bounds. -/
def fin (h m : Int) (x : Option Int) : Option Int := match x with
  | none => none
  | some s => if h < 0 ∨ 23 < h ∨ m < 0 ∨ 59 < m ∨ s < 0 ∨ 60 < s then none else some (h * 3600 + m * 60 + min s 59)
theorem fin_none (h m : Int) : fin h m none = none := rfl
theorem fin_bad {h m s : Int} (hx : h < 0 ∨ 23 < h ∨ m < 0 ∨ 59 < m ∨ s < 0 ∨ 60 < s) : fin h m (some s) = none := by
  show (if _ then _ else _) = _
  rw [if_pos hx]
theorem fin_good {h m s : Int} (hx : ¬ (h < 0 ∨ 23 < h ∨ m < 0 ∨ 59 < m ∨ s < 0 ∨ 60 < s)) : fin h m (some s) = some (h * 3600 + m * 60 + min s 59) := by
  show (if _ then _ else _) = _
  rw [if_neg hx]
theorem time_rest {l : List UInt8} (h5 : ¬ l.length < 5) (h2 : l[2]? = some 58) : Dat.timeR l = fin (Dat.two (l.take 2) 2) (Dat.two ((l.take 5).drop 3) 2) (Dat.secR (l.drop 5)) := by
  unfold Dat.timeR
  rw [if_neg (by rintro (h | h); exact h5 h; exact h h2)]
  cases Dat.secR (l.drop 5) <;> rfl
/-- What time answers. -/
def timeV (x : Option Int) : Value := .tuple #[.int .i64 (x.getD 0), .int .i64 (optE x)]
set_option maxRecDepth 100000 in
set_option maxHeartbeats 1000000 in
theorem Rtime_any (l : List UInt8) (w : World) (hz0 : l.length ≤ 100000) :
    Calls Tryz.prog 21 #[.string (str l)] w fun e w' => e = .returned (timeV (Dat.timeR l)) ∧ ∃ n, w' = w.drewN n := by
  have hz : (str l).size = l.length := str_size l
  by_cases h5 : l.length < 5
  · have hd : Dat.timeR l = none := by unfold Dat.timeR; rw [if_pos (.inl h5)]
    rw [hd]
    have k1 : (l.length : Int) < 5 := by omega
    go_enter Tryz.func21, Tryz.ntmps21
    go_wp2
    go_ret2
    exact ⟨rfl, 0, rfl⟩
  have k5 : ¬ (l.length : Int) < 5 := by omega
  have k5b : (5 : Int) ≤ (l.length : Int) := by omega
  obtain ⟨x, h2x⟩ := some_at l 2 (by omega)
  have hat := str_at h2x
  by_cases h2 : x = 58
  · subst h2
    have t1 : twoI ((str l).extract 0 2).data.toList 2 = Dat.two (l.take 2) 2 := by rw [str_to, str_data]; exact twoI_nat _ 2
    have t2 : twoI ((str l).extract 3 5).data.toList 2 = Dat.two ((l.take 5).drop 3) 2 := by rw [str_cut, str_data]; exact twoI_nat _ 2
    have T : Hid _ := And.intro t1 t2
    have hsz : (str l).size ≤ 1000000000 := by omega
    have hq : (str l).extract 5 l.length = str (l.drop 5) := str_from l 5
    have hX := time_rest h5 h2x
    generalize Dat.timeR l = X at hX
    have HX : Hid _ := hX
    clear hX
    have HQL : Hid ((l.drop 5).length = l.length - 5) := by show _ = _; simp
    have b1 := two_bd (l.take 2) 2
    have b2 := two_bd ((l.take 5).drop 3) 2
    clear t1 t2 h2x
    go_enter Tryz.func21, Tryz.ntmps21
    go_wp2_with (fail)
    go_quiet ((first
      | (go_at_call 15; exact Calls.quiet_of_same (Rtwo_any _ _ _ (ext_size _ _ _ hsz)))))
    rw [T.out.1, T.out.2]
    clear T
    generalize Dat.two (l.take 2) 2 = h at *
    generalize Dat.two ((l.take 5).drop 3) 2 = m at *
    have HW : Hid (∃ n, w.drewN nq = w.drewN n) := ⟨nq, rfl⟩
    generalize w.drewN nq = W at HW
    have hq2 : (str (l.drop 5)).size = (l.drop 5).length := str_size _
    generalize l.drop 5 = q at *
    have hql : q.length ≤ 100000 := by have := HQL.out; omega
    clear HQL k5 hsz hat h5 hz0
    by_cases hq0 : q = []
    · have es : Dat.secR q = some 0 := by rw [hq0]; rfl
      have z0 : (str q).size = 0 := by rw [hq2, hq0]; rfl
      have ES : Hid _ := es
      clear es hq0 hq2
      go_wp2
      all_goals go_ret2
      all_goals first
        | exact ⟨by rw [HX.out, ES.out, fin_bad (by omega)]; rfl, HW.out⟩
        | (refine ⟨?_, HW.out⟩; rw [HX.out, ES.out, fin_good (by omega)]; show Ending.returned (.tuple #[.int .i64 _, .int .i64 0]) = Ending.returned (.tuple #[.int .i64 _, .int .i64 0]); congr 4 <;> omega)
    · have z0 : (0 : Int) < ((str q).size : Int) := by
        rw [hq2]
        have := List.length_pos_iff.2 hq0
        omega
      by_cases h3 : q.length < 3 ∨ q[0]? ≠ some 58
      · have es : Dat.secR q = none := by unfold Dat.secR; rw [if_neg hq0, if_pos h3]
        have ES : Hid _ := es
        by_cases h3a : q.length < 3
        · have z3 : ((str q).size : Int) < 3 := by rw [hq2]; omega
          clear h3 es
          go_wp2
          go_ret2
          exact ⟨by rw [HX.out, ES.out, fin_none]; rfl, HW.out⟩
        · have z3 : ¬ ((str q).size : Int) < 3 := by rw [hq2]; omega
          obtain ⟨y, hy⟩ := some_at q 0 (by omega)
          have hat := str_at hy
          have z0n : 0 < (str q).size := by omega
          have hn : ¬ (y.toNat : Int) = 58 := byte_n (k := 58) (by rintro rfl; rcases h3 with h | h; exact h3a h; exact h hy) (by omega)
          have hn2 : ((y.toNat : Int) != 58) = true := by simpa using hn
          clear h3 es hy
          go_wp2
          go_ret2
          exact ⟨by rw [HX.out, ES.out, fin_none]; rfl, HW.out⟩
      · have h3a : ¬ q.length < 3 := fun h => h3 (.inl h)
        have h3b : q[0]? = some 58 := by
          by_cases hx : q[0]? = some 58
          · exact hx
          · exact absurd (.inr hx) h3
        have hat := str_at h3b
        have z3 : ¬ ((str q).size : Int) < 3 := by rw [hq2]; omega
        have z4 : (3 : Int) ≤ ((str q).size : Int) := by rw [hq2]; omega
        have c1 := fun w => Rtwo_str ((q.take 3).drop 1) 2 2 rfl w (by simp; omega)
        have e1 : (str q).extract 1 3 = str ((q.take 3).drop 1) := str_cut q 1 3
        have e2 : (str q).extract 3 (str q).size = str (q.drop 3) := drop_str q 3 _ hq2
        have e3 : (str q).extract 3 q.length = str (q.drop 3) := str_from q 3
        have b3 := two_bd ((q.take 3).drop 1) 2
        have HS : Hid (Dat.secR q = if q.drop 3 = [] then some (Dat.two ((q.take 3).drop 1) 2) else if (q.drop 3)[0]? ≠ some 46 ∨ Asc.digForm ((q.drop 3).drop 1) = false then none else some (Dat.two ((q.take 3).drop 1) 2)) := by
          show _ = _
          unfold Dat.secR
          rw [if_neg hq0, if_neg h3]
        have z0n : 0 < (str q).size := by omega
        generalize Dat.two ((q.take 3).drop 1) 2 = s at *
        generalize (q.take 3).drop 1 = v at *
        have ht2 : (str (q.drop 3)).size = (q.drop 3).length := str_size _
        have htl : (q.drop 3).length ≤ 100000 := by simp; omega
        generalize q.drop 3 = t at *
        by_cases ht0 : t = []
        · have es : Dat.secR q = some s := by rw [HS.out, if_pos ht0]
          have y0 : (str t).size = 0 := by rw [ht2, ht0]; rfl
          have ES : Hid _ := es
          clear es ht0 ht2 h3 h3a h3b
          go_wp2_with (first
            | (go_at_call 15; refine (c1 _).mono ?_; rintro e w1 ⟨rfl, hw⟩; rw [hw]; clear hw))
          all_goals go_ret2
          all_goals first
            | exact ⟨by rw [HX.out, ES.out, fin_bad (by omega)]; rfl, HW.out⟩
            | (refine ⟨?_, HW.out⟩; rw [HX.out, ES.out, fin_good (by omega)]; show Ending.returned (.tuple #[.int .i64 _, .int .i64 0]) = Ending.returned (.tuple #[.int .i64 _, .int .i64 0]); congr 4 <;> omega)
        · have y0 : (0 : Int) < ((str t).size : Int) := by
            rw [ht2]
            have := List.length_pos_iff.2 ht0
            omega
          have y1 : (1 : Int) ≤ ((str t).size : Int) := by omega
          have y2 : 0 < (str t).size := by omega
          have e4 : (str t).extract 1 (str t).size = str (t.drop 1) := drop_str t 1 _ ht2
          have e5 : (str t).extract 1 t.length = str (t.drop 1) := str_from t 1
          have hN := fun w => RNumber_any (str (t.drop 1)) (-1) w (by rw [str_size]; simp; omega) (by omega) (by omega)
          simp only [str_data, numErr_neg] at hN
          obtain ⟨y, hy⟩ := some_at t 0 (by have := List.length_pos_iff.2 ht0; omega)
          have hatt := str_at hy
          generalize ed : t.drop 1 = u at *
          by_cases hy46 : y = 46
          · subst hy46
            cases hdf : Asc.digForm u
            · have es : Dat.secR q = none := by rw [HS.out, if_neg ht0, if_pos (.inr hdf)]
              have ES : Hid _ := es
              rw [hdf] at hN
              clear es ht0 h3 h3a h3b hy ed hdf HS
              go_wp2_with (first
                | (go_at_call 15; refine (c1 _).mono ?_; rintro e w1 ⟨rfl, hw⟩; rw [hw]; clear hw)
                | (go_at_call 35; refine (hN _).mono ?_; rintro e w1 ⟨rfl, hw⟩; rw [hw]; clear hw))
              go_ret2
              exact ⟨by rw [HX.out, ES.out, fin_none]; rfl, HW.out⟩
            · have es : Dat.secR q = some s := by rw [HS.out, if_neg ht0, if_neg (by rintro (h | h); exact h hy; rw [hdf] at h; cases h)]
              have ES : Hid _ := es
              rw [hdf] at hN
              clear es ht0 h3 h3a h3b hy ed hdf HS
              go_wp2_with (first
                | (go_at_call 15; refine (c1 _).mono ?_; rintro e w1 ⟨rfl, hw⟩; rw [hw]; clear hw)
                | (go_at_call 35; refine (hN _).mono ?_; rintro e w1 ⟨rfl, hw⟩; rw [hw]; clear hw))
              all_goals go_ret2
              all_goals first
                | exact ⟨by rw [HX.out, ES.out, fin_bad (by omega)]; rfl, HW.out⟩
                | (refine ⟨?_, HW.out⟩; rw [HX.out, ES.out, fin_good (by omega)]; show Ending.returned (.tuple #[.int .i64 _, .int .i64 0]) = Ending.returned (.tuple #[.int .i64 _, .int .i64 0]); congr 4 <;> omega)
          · have es : Dat.secR q = none := by rw [HS.out, if_neg ht0, if_pos (.inl (fun h => hy46 (Option.some.inj (hy.symm.trans h))))]
            have ES : Hid _ := es
            have hn : ¬ (y.toNat : Int) = 46 := byte_n (k := 46) hy46 (by omega)
            have hn2 : ((y.toNat : Int) != 46) = true := by simpa using hn
            clear es ht0 h3 h3a h3b hy ed HS hy46
            go_wp2_with (first
              | (go_at_call 15; refine (c1 _).mono ?_; rintro e w1 ⟨rfl, hw⟩; rw [hw]; clear hw)
              | (go_at_call 35; refine (hN _).mono ?_; rintro e w1 ⟨rfl, hw⟩; rw [hw]; clear hw))
            all_goals go_ret2
            all_goals exact ⟨by rw [HX.out, ES.out, fin_none]; rfl, HW.out⟩
  · have hd : Dat.timeR l = none := by
      unfold Dat.timeR
      rw [if_pos (.inr (fun h => h2 (Option.some.inj (h2x.symm.trans h))))]
    rw [hd]
    have hn : ¬ (x.toNat : Int) = 58 := byte_n (k := 58) h2 (by omega)
    clear hd h2x h2
    go_enter Tryz.func21, Tryz.ntmps21
    go_wp2
    go_ret2
    exact ⟨rfl, 0, rfl⟩
end Go.Proofs.YtnklbeldheocmaaGreatDoor
