/- The contract of the reference's Parse. -/
import Derived.Test.YtnklbeldheocmaaDoorKDGR
namespace Go.Proofs.YtnklbeldheocmaaDoor
open Go.RowKit
/-- What the reference's Parse answers. -/
def parV (x : Option (Int × Bool × Bool)) : Value := .tuple #[mVal (x.getD mZero), .int .i64 (optE x)]
theorem takeW_len (f : UInt8 → Bool) (l : List UInt8) : (l.takeWhile f).length ≤ l.length := by
  have h := congrArg List.length (Dat.span_join f l)
  rw [List.length_append] at h
  omega
theorem day_bdR {p : List UInt8} {d : Int} (h : Dat.dayR p = some d) : -1000000 ≤ d ∧ d ≤ 3000000 := by
  have := Dat.day_back h []
  exact day_bd this
theorem time_bdR {p : List UInt8} {t : Int} (h : Dat.timeR p = some t) : 0 ≤ t ∧ t ≤ 86399 := by
  have := Dat.clock_back h (r := []) (by intro x hx; cases hx)
  exact clock_bd this
theorem zone_bdR {p : List UInt8} {v : Int} (h : Dat.zoneR p = some v) : -100000 ≤ v ∧ v ≤ 100000 := by
  rw [← Dat.zone_eq] at h
  exact zone_bd (Dat.whole_some.1 h)
/-- The document's moment, of a day's text and what is behind. -/
def parseTR (d : Int) (ck zn : List UInt8) : Option (Int × Bool × Bool) := match Dat.timeR ck with
  | none => none
  | some t => if zn = [] then some (d * 86400 + t, true, false) else match Dat.zoneR (zn.dropWhile Dat.sp) with
    | none => none
    | some z => some (d * 86400 + t - z, true, true)
def parsePR (p r : List UInt8) : Option (Int × Bool × Bool) := match Dat.dayR p with
  | none => none
  | some d => if r = [] then some (d * 86400, false, false) else match Dat.gap r with
    | none => none
    | some l2 => parseTR d (l2.takeWhile Dat.clkC) (l2.dropWhile Dat.clkC)
theorem parse_parts (t : List UInt8) : Dat.parseR t = parsePR (t.takeWhile Dat.dayC) (t.dropWhile Dat.dayC) := rfl
set_option maxRecDepth 100000 in
set_option maxHeartbeats 2000000 in
theorem RParse_trim (l t : List UInt8) (w : World) (hz0 : t.length ≤ 90000) (hT : ∀ w, Calls Tryd.prog 29 #[.string (str l)] w fun e w' => e = .returned (.string (str t)) ∧ w' = w) :
    Calls Tryd.prog 16 #[.string (str l)] w fun e w' => e = .returned (parV (Dat.parseR t)) ∧ Below w.heap.size w w' := by
  have hz := (zero_of_info zeroMR).1
  unfold mVal mCells mZero at hz
  have hzt : (str t).size = t.length := str_size t
  have hS := RS.start w
  go_enter Tryd.func16, Tryd.ntmps16
  go_wp2_with (first
    | (go_at_call 29; refine (hT _).mono ?_; rintro e w0 ⟨rfl, hw0⟩; rw [hw0]; clear hw0))
  clear hT
  generalize w.alloc (.cells #[.int .i64 0, .bool false, .bool false] 39) = W at hS
  generalize hc0 : w.heap.size = c at hS
  go_loop [4] (fun i => ∃ k : Nat, k ≤ t.length ∧ i = .int .i64 k ∧ Hid ((t.take k).all Dat.dayC = true)) (fun i => t.length - (intOf i).toNat)
  case atStart => exact ⟨0, by omega, rfl, rfl⟩
  case round =>
    obtain ⟨k, hk, rfl, HA⟩ := hrel
    by_cases hlt : k < t.length
    · obtain ⟨x, hx⟩ := some_at t k hlt
      have hat := str_at hx
      have hk2 : k < (str t).size := by omega
      have hI2 := RIsDigit_any x
      have kI2 : (k : Int) < (t.length : Int) := by omega
      cases hf : Dat.dayC x
      · have hI : Asc.isDig (Asc.bt x) = false := by
          cases hd : Asc.isDig (Asc.bt x)
          · rfl
          · unfold Dat.dayC at hf
            rw [hd] at hf
            cases hf
        have hn45 : ¬ (x.toNat : Int) = 45 := byte_n (k := 45) (by rintro rfl; cases hf) (by omega)
        have hm45 : ((x.toNat : Int) == 45) = false := by simpa using hn45
        have HT := take_len Dat.dayC t k HA.out (fun y hy => by rw [← Option.some.inj (hx.symm.trans hy)]; exact hf)
        have HP : Hid _ := parse_parts t
        rw [HT.1, HT.2] at HP
        have er : t.drop k = x :: t.drop (k + 1) := by
          rw [List.drop_eq_getElem_cons hlt]
          congr 1
          exact (List.getElem?_eq_some_iff.1 hx).2
        have e1 : (str t).extract 0 k = str (t.take k) := str_to t k
        have e2 : (str t).extract k t.length = str (x :: t.drop (k + 1)) := by rw [str_from, er]
        rw [er] at HP
        have ql : (t.drop (k + 1)).length ≤ 90000 := by simp; omega
        have cD := fun w => RDay_any (t.take k) w (by simp; omega)
        have kI : (k : Int) ≤ (t.length : Int) := by omega
        have hatk := hat
        rw [hI] at hI2
        clear hI HT er HA hat hf hx
        generalize t.take k = p at *
        generalize t.drop (k + 1) = q at *
        cases hd : Dat.dayR p with
        | none =>
          have HX : Hid _ := (show Dat.parseR t = none from by rw [HP.out]; unfold parsePR; rw [hd])
          rw [hd] at cD
          clear HP hd
          go_wp2_with (first
            | (go_at_call 30; refine (hI2 _).mono ?_; rintro e w9 ⟨rfl, hw⟩; rw [hw]; clear hw)
            | (go_at_call 31; refine (cD _).mono ?_; rintro e w1 ⟨rfl, hw1⟩; replace hS := hS.drew hw1; clear hw1)
            | ((with_reducible show wpList _ _ _ ({ dst := _, op := Op.store 39 _ _, type := _, pos := _, after := _, guard := _ } :: _) _ _); refine wpList_store_MR _ _ rfl rfl c (mZero) mZero rfl rfl hS.res ?_))
          exact ret_M2R (m := mZero) rfl rfl rfl rfl (hS.done _).1 ⟨by rw [HX.out]; rfl, (hS.done _).2⟩
        | some d =>
          obtain ⟨d1, d2⟩ := day_bdR hd
          rw [hd] at cD
          have hq := left_some (l := x :: q) (by simp)
          have hat := str_at (l := x :: q) (k := 0) (x := x) rfl
          have hzr : (str (x :: q)).size = q.length + 1 := by rw [str_size]; rfl
          have hzr1 : 0 < (str (x :: q)).size := by omega
          have e3 : (str (x :: q)).extract 1 (q.length + 1) = str q := drop_str (x :: q) 1 _ rfl
          by_cases hx84 : x = 84
          · subst hx84
            have hg : Dat.gap (84 :: q) = some q := rfl
            have HP2 : Hid (Dat.parseR t = parseTR d (q.takeWhile Dat.clkC) (q.dropWhile Dat.clkC)) := by
              show _ = _
              rw [HP.out]
              unfold parsePR
              rw [hd]
              simp only []
              rw [if_neg (by simp), hg]
            clear HP hd hg
            have cS := fun w => Rsplit_any q w (by omega)
            have cT := fun w => Rtime_any (q.takeWhile Dat.clkC) w (by have := takeW_len Dat.clkC q; omega)
            unfold timeV at cT
            have zl : (q.dropWhile Dat.clkC).length ≤ 100000 := by have := drop_len Dat.clkC q; omega
            generalize q.takeWhile Dat.clkC = ck at *
            generalize q.dropWhile Dat.clkC = zn at *
            cases ht : Dat.timeR ck with
            | none =>
              have HX : Hid _ := (show Dat.parseR t = none from by rw [HP2.out]; unfold parseTR; rw [ht])
              rw [ht] at cT
              clear HP2 ht
              go_wp2_with (first
                | (go_at_call 30; refine (hI2 _).mono ?_; rintro e w9 ⟨rfl, hw⟩; rw [hw]; clear hw)
                | (go_at_call 31; refine (cD _).mono ?_; rintro e w1 ⟨rfl, hw1⟩; replace hS := hS.drew hw1; clear hw1)
                | (go_at_call 33; refine (cS _).mono ?_; rintro e w2 ⟨rfl, hw2⟩; replace hS := hS.drew hw2; clear hw2)
                | (go_at_call 34; refine (cT _).mono ?_; rintro e w3 ⟨rfl, hw3⟩; replace hS := hS.drew hw3; clear hw3)
                | ((with_reducible show wpList _ _ _ ({ dst := _, op := Op.store 39 _ _, type := _, pos := _, after := _, guard := _ } :: _) _ _); refine wpList_store_MR _ _ rfl rfl c (mZero) mZero rfl rfl hS.res ?_))
              exact ret_M2R (m := mZero) rfl rfl rfl rfl (hS.done _).1 ⟨by rw [HX.out]; rfl, (hS.done _).2⟩
            | some tt =>
              obtain ⟨t1, t2⟩ := time_bdR ht
              rw [ht] at cT
              by_cases hz0 : zn = []
              · have HX : Hid _ := (show Dat.parseR t = some (d * 86400 + tt, true, false) from by rw [HP2.out]; unfold parseTR; rw [ht]; simp only []; rw [if_pos hz0])
                have hz1 := left_no hz0
                clear HP2 ht hz0
                go_wp2_with (first
                  | (go_at_call 30; refine (hI2 _).mono ?_; rintro e w9 ⟨rfl, hw⟩; rw [hw]; clear hw)
                  | (go_at_call 31; refine (cD _).mono ?_; rintro e w1 ⟨rfl, hw1⟩; replace hS := hS.drew hw1; clear hw1)
                  | (go_at_call 33; refine (cS _).mono ?_; rintro e w2 ⟨rfl, hw2⟩; replace hS := hS.drew hw2; clear hw2)
                  | (go_at_call 34; refine (cT _).mono ?_; rintro e w3 ⟨rfl, hw3⟩; replace hS := hS.drew hw3; clear hw3)
                  | ((with_reducible show wpList _ _ _ ({ dst := _, op := Op.store 39 _ _, type := _, pos := _, after := _, guard := _ } :: _) _ _); refine wpList_store_MR _ _ rfl rfl c ((d * 86400 + tt, true, false)) mZero rfl rfl hS.res ?_))
                exact ret_M2R (m := (d * 86400 + tt, true, false)) rfl rfl rfl rfl (hS.done _).1 ⟨by rw [HX.out]; rfl, (hS.done _).2⟩
              · have hz1 := left_some hz0
                have cB2 := fun w => Rblanks_any zn w zl
                have cZ := fun w => RZone_any (zn.dropWhile Dat.sp) w (by have := drop_len Dat.sp zn; omega)
                unfold timeV at cZ
                have HP3 : Hid (Dat.parseR t = match Dat.zoneR (zn.dropWhile Dat.sp) with | none => none | some z => some (d * 86400 + tt - z, true, true)) := by
                  show _ = _
                  rw [HP2.out]
                  unfold parseTR
                  rw [ht]
                  simp only []
                  rw [if_neg hz0]
                clear HP2 ht hz0
                generalize zn.dropWhile Dat.sp = zb at *
                cases hzz : Dat.zoneR zb with
                | none =>
                  have HX : Hid _ := (show Dat.parseR t = none from by rw [HP3.out, hzz])
                  rw [hzz] at cZ
                  clear HP3 hzz
                  go_wp2_with (first
                    | (go_at_call 30; refine (hI2 _).mono ?_; rintro e w9 ⟨rfl, hw⟩; rw [hw]; clear hw)
                    | (go_at_call 31; refine (cD _).mono ?_; rintro e w1 ⟨rfl, hw1⟩; replace hS := hS.drew hw1; clear hw1)
                    | (go_at_call_of 32 (str zn); refine (cB2 _).mono ?_; rintro e wb ⟨rfl, hwb⟩; rw [hwb]; clear hwb)
                    | (go_at_call 33; refine (cS _).mono ?_; rintro e w2 ⟨rfl, hw2⟩; replace hS := hS.drew hw2; clear hw2)
                    | (go_at_call 34; refine (cT _).mono ?_; rintro e w3 ⟨rfl, hw3⟩; replace hS := hS.drew hw3; clear hw3)
                    | (go_at_call 35; refine (cZ _).mono ?_; rintro e w4 ⟨rfl, hw4⟩; rw [hw4]; clear hw4)
                    | ((with_reducible show wpList _ _ _ ({ dst := _, op := Op.store 39 _ _, type := _, pos := _, after := _, guard := _ } :: _) _ _); refine wpList_store_MR _ _ rfl rfl c (mZero) mZero rfl rfl hS.res ?_))
                  exact ret_M2R (m := mZero) rfl rfl rfl rfl (hS.done _).1 ⟨by rw [HX.out]; rfl, (hS.done _).2⟩
                | some v =>
                  obtain ⟨v1, v2⟩ := zone_bdR hzz
                  have HX : Hid _ := (show Dat.parseR t = some (d * 86400 + tt - v, true, true) from by rw [HP3.out, hzz])
                  rw [hzz] at cZ
                  clear HP3 hzz
                  go_wp2_with (first
                    | (go_at_call 30; refine (hI2 _).mono ?_; rintro e w9 ⟨rfl, hw⟩; rw [hw]; clear hw)
                    | (go_at_call 31; refine (cD _).mono ?_; rintro e w1 ⟨rfl, hw1⟩; replace hS := hS.drew hw1; clear hw1)
                    | (go_at_call_of 32 (str zn); refine (cB2 _).mono ?_; rintro e wb ⟨rfl, hwb⟩; rw [hwb]; clear hwb)
                    | (go_at_call 33; refine (cS _).mono ?_; rintro e w2 ⟨rfl, hw2⟩; replace hS := hS.drew hw2; clear hw2)
                    | (go_at_call 34; refine (cT _).mono ?_; rintro e w3 ⟨rfl, hw3⟩; replace hS := hS.drew hw3; clear hw3)
                    | (go_at_call 35; refine (cZ _).mono ?_; rintro e w4 ⟨rfl, hw4⟩; rw [hw4]; clear hw4)
                    | ((with_reducible show wpList _ _ _ ({ dst := _, op := Op.store 39 _ _, type := _, pos := _, after := _, guard := _ } :: _) _ _); refine wpList_store_MR _ _ rfl rfl c ((d * 86400 + tt - v, true, true)) mZero rfl rfl hS.res ?_))
                  exact ret_M2R (m := (d * 86400 + tt - v, true, true)) rfl rfl rfl rfl (hS.done _).1 ⟨by rw [HX.out]; rfl, (hS.done _).2⟩
          have hn84 : ¬ (x.toNat : Int) = 84 := byte_n (k := 84) hx84 (by omega)
          have hm84 : ((x.toNat : Int) == 84) = false := by simpa using hn84
          by_cases hx116 : x = 116
          · subst hx116
            have hg : Dat.gap (116 :: q) = some q := rfl
            have HP2 : Hid (Dat.parseR t = parseTR d (q.takeWhile Dat.clkC) (q.dropWhile Dat.clkC)) := by
              show _ = _
              rw [HP.out]
              unfold parsePR
              rw [hd]
              simp only []
              rw [if_neg (by simp), hg]
            clear HP hd hg
            have cS := fun w => Rsplit_any q w (by omega)
            have cT := fun w => Rtime_any (q.takeWhile Dat.clkC) w (by have := takeW_len Dat.clkC q; omega)
            unfold timeV at cT
            have zl : (q.dropWhile Dat.clkC).length ≤ 100000 := by have := drop_len Dat.clkC q; omega
            generalize q.takeWhile Dat.clkC = ck at *
            generalize q.dropWhile Dat.clkC = zn at *
            cases ht : Dat.timeR ck with
            | none =>
              have HX : Hid _ := (show Dat.parseR t = none from by rw [HP2.out]; unfold parseTR; rw [ht])
              rw [ht] at cT
              clear HP2 ht
              go_wp2_with (first
                | (go_at_call 30; refine (hI2 _).mono ?_; rintro e w9 ⟨rfl, hw⟩; rw [hw]; clear hw)
                | (go_at_call 31; refine (cD _).mono ?_; rintro e w1 ⟨rfl, hw1⟩; replace hS := hS.drew hw1; clear hw1)
                | (go_at_call 33; refine (cS _).mono ?_; rintro e w2 ⟨rfl, hw2⟩; replace hS := hS.drew hw2; clear hw2)
                | (go_at_call 34; refine (cT _).mono ?_; rintro e w3 ⟨rfl, hw3⟩; replace hS := hS.drew hw3; clear hw3)
                | ((with_reducible show wpList _ _ _ ({ dst := _, op := Op.store 39 _ _, type := _, pos := _, after := _, guard := _ } :: _) _ _); refine wpList_store_MR _ _ rfl rfl c (mZero) mZero rfl rfl hS.res ?_))
              exact ret_M2R (m := mZero) rfl rfl rfl rfl (hS.done _).1 ⟨by rw [HX.out]; rfl, (hS.done _).2⟩
            | some tt =>
              obtain ⟨t1, t2⟩ := time_bdR ht
              rw [ht] at cT
              by_cases hz0 : zn = []
              · have HX : Hid _ := (show Dat.parseR t = some (d * 86400 + tt, true, false) from by rw [HP2.out]; unfold parseTR; rw [ht]; simp only []; rw [if_pos hz0])
                have hz1 := left_no hz0
                clear HP2 ht hz0
                go_wp2_with (first
                  | (go_at_call 30; refine (hI2 _).mono ?_; rintro e w9 ⟨rfl, hw⟩; rw [hw]; clear hw)
                  | (go_at_call 31; refine (cD _).mono ?_; rintro e w1 ⟨rfl, hw1⟩; replace hS := hS.drew hw1; clear hw1)
                  | (go_at_call 33; refine (cS _).mono ?_; rintro e w2 ⟨rfl, hw2⟩; replace hS := hS.drew hw2; clear hw2)
                  | (go_at_call 34; refine (cT _).mono ?_; rintro e w3 ⟨rfl, hw3⟩; replace hS := hS.drew hw3; clear hw3)
                  | ((with_reducible show wpList _ _ _ ({ dst := _, op := Op.store 39 _ _, type := _, pos := _, after := _, guard := _ } :: _) _ _); refine wpList_store_MR _ _ rfl rfl c ((d * 86400 + tt, true, false)) mZero rfl rfl hS.res ?_))
                exact ret_M2R (m := (d * 86400 + tt, true, false)) rfl rfl rfl rfl (hS.done _).1 ⟨by rw [HX.out]; rfl, (hS.done _).2⟩
              · have hz1 := left_some hz0
                have cB2 := fun w => Rblanks_any zn w zl
                have cZ := fun w => RZone_any (zn.dropWhile Dat.sp) w (by have := drop_len Dat.sp zn; omega)
                unfold timeV at cZ
                have HP3 : Hid (Dat.parseR t = match Dat.zoneR (zn.dropWhile Dat.sp) with | none => none | some z => some (d * 86400 + tt - z, true, true)) := by
                  show _ = _
                  rw [HP2.out]
                  unfold parseTR
                  rw [ht]
                  simp only []
                  rw [if_neg hz0]
                clear HP2 ht hz0
                generalize zn.dropWhile Dat.sp = zb at *
                cases hzz : Dat.zoneR zb with
                | none =>
                  have HX : Hid _ := (show Dat.parseR t = none from by rw [HP3.out, hzz])
                  rw [hzz] at cZ
                  clear HP3 hzz
                  go_wp2_with (first
                    | (go_at_call 30; refine (hI2 _).mono ?_; rintro e w9 ⟨rfl, hw⟩; rw [hw]; clear hw)
                    | (go_at_call 31; refine (cD _).mono ?_; rintro e w1 ⟨rfl, hw1⟩; replace hS := hS.drew hw1; clear hw1)
                    | (go_at_call_of 32 (str zn); refine (cB2 _).mono ?_; rintro e wb ⟨rfl, hwb⟩; rw [hwb]; clear hwb)
                    | (go_at_call 33; refine (cS _).mono ?_; rintro e w2 ⟨rfl, hw2⟩; replace hS := hS.drew hw2; clear hw2)
                    | (go_at_call 34; refine (cT _).mono ?_; rintro e w3 ⟨rfl, hw3⟩; replace hS := hS.drew hw3; clear hw3)
                    | (go_at_call 35; refine (cZ _).mono ?_; rintro e w4 ⟨rfl, hw4⟩; rw [hw4]; clear hw4)
                    | ((with_reducible show wpList _ _ _ ({ dst := _, op := Op.store 39 _ _, type := _, pos := _, after := _, guard := _ } :: _) _ _); refine wpList_store_MR _ _ rfl rfl c (mZero) mZero rfl rfl hS.res ?_))
                  exact ret_M2R (m := mZero) rfl rfl rfl rfl (hS.done _).1 ⟨by rw [HX.out]; rfl, (hS.done _).2⟩
                | some v =>
                  obtain ⟨v1, v2⟩ := zone_bdR hzz
                  have HX : Hid _ := (show Dat.parseR t = some (d * 86400 + tt - v, true, true) from by rw [HP3.out, hzz])
                  rw [hzz] at cZ
                  clear HP3 hzz
                  go_wp2_with (first
                    | (go_at_call 30; refine (hI2 _).mono ?_; rintro e w9 ⟨rfl, hw⟩; rw [hw]; clear hw)
                    | (go_at_call 31; refine (cD _).mono ?_; rintro e w1 ⟨rfl, hw1⟩; replace hS := hS.drew hw1; clear hw1)
                    | (go_at_call_of 32 (str zn); refine (cB2 _).mono ?_; rintro e wb ⟨rfl, hwb⟩; rw [hwb]; clear hwb)
                    | (go_at_call 33; refine (cS _).mono ?_; rintro e w2 ⟨rfl, hw2⟩; replace hS := hS.drew hw2; clear hw2)
                    | (go_at_call 34; refine (cT _).mono ?_; rintro e w3 ⟨rfl, hw3⟩; replace hS := hS.drew hw3; clear hw3)
                    | (go_at_call 35; refine (cZ _).mono ?_; rintro e w4 ⟨rfl, hw4⟩; rw [hw4]; clear hw4)
                    | ((with_reducible show wpList _ _ _ ({ dst := _, op := Op.store 39 _ _, type := _, pos := _, after := _, guard := _ } :: _) _ _); refine wpList_store_MR _ _ rfl rfl c ((d * 86400 + tt - v, true, true)) mZero rfl rfl hS.res ?_))
                  exact ret_M2R (m := (d * 86400 + tt - v, true, true)) rfl rfl rfl rfl (hS.done _).1 ⟨by rw [HX.out]; rfl, (hS.done _).2⟩
          have hn116 : ¬ (x.toNat : Int) = 116 := byte_n (k := 116) hx116 (by omega)
          have hm116 : ((x.toNat : Int) == 116) = false := by simpa using hn116
          by_cases hx32 : x = 32
          · subst hx32
            have hg : Dat.gap (32 :: q) = some ((32 :: q).dropWhile Dat.sp) := by
              rw [List.dropWhile_cons_of_pos (by decide)]
              rfl
            have cB := fun w => Rblanks_any (32 :: q) w (by simp; omega)
            have HP2 : Hid (Dat.parseR t = parseTR d (((32 :: q).dropWhile Dat.sp).takeWhile Dat.clkC) (((32 :: q).dropWhile Dat.sp).dropWhile Dat.clkC)) := by
              show _ = _
              rw [HP.out]
              unfold parsePR
              rw [hd]
              simp only []
              rw [if_neg (by simp), hg]
            have gl : ((32 :: q).dropWhile Dat.sp).length ≤ 100000 := by have := drop_len Dat.sp (32 :: q); simp at this ⊢; omega
            clear HP hd hg hx84 hx116
            generalize (32 :: q).dropWhile Dat.sp = g at *
            have cS := fun w => Rsplit_any g w (by omega)
            have cT := fun w => Rtime_any (g.takeWhile Dat.clkC) w (by have := takeW_len Dat.clkC g; omega)
            unfold timeV at cT
            have zl : (g.dropWhile Dat.clkC).length ≤ 100000 := by have := drop_len Dat.clkC g; omega
            generalize g.takeWhile Dat.clkC = ck at *
            generalize g.dropWhile Dat.clkC = zn at *
            cases ht : Dat.timeR ck with
            | none =>
              have HX : Hid _ := (show Dat.parseR t = none from by rw [HP2.out]; unfold parseTR; rw [ht])
              rw [ht] at cT
              clear HP2 ht
              go_wp2_with (first
                | (go_at_call 30; refine (hI2 _).mono ?_; rintro e w9 ⟨rfl, hw⟩; rw [hw]; clear hw)
                | (go_at_call 31; refine (cD _).mono ?_; rintro e w1 ⟨rfl, hw1⟩; replace hS := hS.drew hw1; clear hw1)
                | (go_at_call_of 32 (str (32 :: q)); refine (cB _).mono ?_; rintro e wb ⟨rfl, hwb⟩; rw [hwb]; clear hwb)
                | (go_at_call 33; refine (cS _).mono ?_; rintro e w2 ⟨rfl, hw2⟩; replace hS := hS.drew hw2; clear hw2)
                | (go_at_call 34; refine (cT _).mono ?_; rintro e w3 ⟨rfl, hw3⟩; replace hS := hS.drew hw3; clear hw3)
                | ((with_reducible show wpList _ _ _ ({ dst := _, op := Op.store 39 _ _, type := _, pos := _, after := _, guard := _ } :: _) _ _); refine wpList_store_MR _ _ rfl rfl c (mZero) mZero rfl rfl hS.res ?_))
              exact ret_M2R (m := mZero) rfl rfl rfl rfl (hS.done _).1 ⟨by rw [HX.out]; rfl, (hS.done _).2⟩
            | some tt =>
              obtain ⟨t1, t2⟩ := time_bdR ht
              rw [ht] at cT
              by_cases hz0 : zn = []
              · have HX : Hid _ := (show Dat.parseR t = some (d * 86400 + tt, true, false) from by rw [HP2.out]; unfold parseTR; rw [ht]; simp only []; rw [if_pos hz0])
                have hz1 := left_no hz0
                clear HP2 ht hz0
                go_wp2_with (first
                  | (go_at_call 30; refine (hI2 _).mono ?_; rintro e w9 ⟨rfl, hw⟩; rw [hw]; clear hw)
                  | (go_at_call 31; refine (cD _).mono ?_; rintro e w1 ⟨rfl, hw1⟩; replace hS := hS.drew hw1; clear hw1)
                  | (go_at_call_of 32 (str (32 :: q)); refine (cB _).mono ?_; rintro e wb ⟨rfl, hwb⟩; rw [hwb]; clear hwb)
                  | (go_at_call 33; refine (cS _).mono ?_; rintro e w2 ⟨rfl, hw2⟩; replace hS := hS.drew hw2; clear hw2)
                  | (go_at_call 34; refine (cT _).mono ?_; rintro e w3 ⟨rfl, hw3⟩; replace hS := hS.drew hw3; clear hw3)
                  | ((with_reducible show wpList _ _ _ ({ dst := _, op := Op.store 39 _ _, type := _, pos := _, after := _, guard := _ } :: _) _ _); refine wpList_store_MR _ _ rfl rfl c ((d * 86400 + tt, true, false)) mZero rfl rfl hS.res ?_))
                exact ret_M2R (m := (d * 86400 + tt, true, false)) rfl rfl rfl rfl (hS.done _).1 ⟨by rw [HX.out]; rfl, (hS.done _).2⟩
              · have hz1 := left_some hz0
                have cB2 := fun w => Rblanks_any zn w zl
                have cZ := fun w => RZone_any (zn.dropWhile Dat.sp) w (by have := drop_len Dat.sp zn; omega)
                unfold timeV at cZ
                have HP3 : Hid (Dat.parseR t = match Dat.zoneR (zn.dropWhile Dat.sp) with | none => none | some z => some (d * 86400 + tt - z, true, true)) := by
                  show _ = _
                  rw [HP2.out]
                  unfold parseTR
                  rw [ht]
                  simp only []
                  rw [if_neg hz0]
                clear HP2 ht hz0
                generalize zn.dropWhile Dat.sp = zb at *
                cases hzz : Dat.zoneR zb with
                | none =>
                  have HX : Hid _ := (show Dat.parseR t = none from by rw [HP3.out, hzz])
                  rw [hzz] at cZ
                  clear HP3 hzz
                  go_wp2_with (first
                    | (go_at_call 30; refine (hI2 _).mono ?_; rintro e w9 ⟨rfl, hw⟩; rw [hw]; clear hw)
                    | (go_at_call 31; refine (cD _).mono ?_; rintro e w1 ⟨rfl, hw1⟩; replace hS := hS.drew hw1; clear hw1)
                    | (go_at_call_of 32 (str (32 :: q)); refine (cB _).mono ?_; rintro e wb ⟨rfl, hwb⟩; rw [hwb]; clear hwb)
                    | (go_at_call_of 32 (str zn); refine (cB2 _).mono ?_; rintro e wb ⟨rfl, hwb⟩; rw [hwb]; clear hwb)
                    | (go_at_call 33; refine (cS _).mono ?_; rintro e w2 ⟨rfl, hw2⟩; replace hS := hS.drew hw2; clear hw2)
                    | (go_at_call 34; refine (cT _).mono ?_; rintro e w3 ⟨rfl, hw3⟩; replace hS := hS.drew hw3; clear hw3)
                    | (go_at_call 35; refine (cZ _).mono ?_; rintro e w4 ⟨rfl, hw4⟩; rw [hw4]; clear hw4)
                    | ((with_reducible show wpList _ _ _ ({ dst := _, op := Op.store 39 _ _, type := _, pos := _, after := _, guard := _ } :: _) _ _); refine wpList_store_MR _ _ rfl rfl c (mZero) mZero rfl rfl hS.res ?_))
                  exact ret_M2R (m := mZero) rfl rfl rfl rfl (hS.done _).1 ⟨by rw [HX.out]; rfl, (hS.done _).2⟩
                | some v =>
                  obtain ⟨v1, v2⟩ := zone_bdR hzz
                  have HX : Hid _ := (show Dat.parseR t = some (d * 86400 + tt - v, true, true) from by rw [HP3.out, hzz])
                  rw [hzz] at cZ
                  clear HP3 hzz
                  go_wp2_with (first
                    | (go_at_call 30; refine (hI2 _).mono ?_; rintro e w9 ⟨rfl, hw⟩; rw [hw]; clear hw)
                    | (go_at_call 31; refine (cD _).mono ?_; rintro e w1 ⟨rfl, hw1⟩; replace hS := hS.drew hw1; clear hw1)
                    | (go_at_call_of 32 (str (32 :: q)); refine (cB _).mono ?_; rintro e wb ⟨rfl, hwb⟩; rw [hwb]; clear hwb)
                    | (go_at_call_of 32 (str zn); refine (cB2 _).mono ?_; rintro e wb ⟨rfl, hwb⟩; rw [hwb]; clear hwb)
                    | (go_at_call 33; refine (cS _).mono ?_; rintro e w2 ⟨rfl, hw2⟩; replace hS := hS.drew hw2; clear hw2)
                    | (go_at_call 34; refine (cT _).mono ?_; rintro e w3 ⟨rfl, hw3⟩; replace hS := hS.drew hw3; clear hw3)
                    | (go_at_call 35; refine (cZ _).mono ?_; rintro e w4 ⟨rfl, hw4⟩; rw [hw4]; clear hw4)
                    | ((with_reducible show wpList _ _ _ ({ dst := _, op := Op.store 39 _ _, type := _, pos := _, after := _, guard := _ } :: _) _ _); refine wpList_store_MR _ _ rfl rfl c ((d * 86400 + tt - v, true, true)) mZero rfl rfl hS.res ?_))
                  exact ret_M2R (m := (d * 86400 + tt - v, true, true)) rfl rfl rfl rfl (hS.done _).1 ⟨by rw [HX.out]; rfl, (hS.done _).2⟩
          · have HX : Hid _ := (show Dat.parseR t = none from by
              rw [HP.out]
              unfold parsePR
              rw [hd]
              simp only []
              rw [if_neg (by simp)]
              have : Dat.gap (x :: q) = none := by
                show (if x = 84 ∨ x = 116 then some q else if x = 32 then some (q.dropWhile Dat.sp) else none) = none
                rw [if_neg (by rintro (e | e); exact hx84 e; exact hx116 e), if_neg hx32]
              rw [this])
            have hn32 : ¬ (x.toNat : Int) = 32 := byte_n (k := 32) hx32 (by omega)
            have hm32 : ((x.toNat : Int) != 32) = true := by simpa using hn32
            clear HP hd hx84 hx116 hx32
            go_wp2_with (first
              | (go_at_call 30; refine (hI2 _).mono ?_; rintro e w9 ⟨rfl, hw⟩; rw [hw]; clear hw)
              | (go_at_call 31; refine (cD _).mono ?_; rintro e w1 ⟨rfl, hw1⟩; replace hS := hS.drew hw1; clear hw1)
              | ((with_reducible show wpList _ _ _ ({ dst := _, op := Op.store 39 _ _, type := _, pos := _, after := _, guard := _ } :: _) _ _); refine wpList_store_MR _ _ rfl rfl c (mZero) mZero rfl rfl hS.res ?_))
            exact ret_M2R (m := mZero) rfl rfl rfl rfl (hS.done _).1 ⟨by rw [HX.out]; rfl, (hS.done _).2⟩
      · have HN : Hid _ := all_next HA.out hx hf
        cases hd : Asc.isDig (Asc.bt x)
        · rw [hd] at hI2
          have h45 : x = 45 := by
            have hf2 := hf
            unfold Dat.dayC at hf2
            rw [hd] at hf2
            simpa using hf2
          subst h45
          clear hd hf hx
          go_wp2_with (first
            | (go_at_call 30; refine (hI2 _).mono ?_; rintro e w1 ⟨rfl, hw⟩; rw [hw]; clear hw))
          go_round
          case rel => exact ⟨k + 1, by omega, by go_num, HN⟩
          case measure => simp [intOf]; omega
        · rw [hd] at hI2
          clear hd hf hx
          go_wp2_with (first
            | (go_at_call 30; refine (hI2 _).mono ?_; rintro e w1 ⟨rfl, hw⟩; rw [hw]; clear hw))
          go_round
          case rel => exact ⟨k + 1, by omega, by go_num, HN⟩
          case measure => simp [intOf]; omega
    · have HT := take_len Dat.dayC t k HA.out (fun y hy => by have := (List.getElem?_eq_some_iff.1 hy).1; omega)
      have HP : Hid _ := parse_parts t
      rw [HT.1, HT.2] at HP
      have er : t.drop k = [] := List.drop_eq_nil_of_le (by omega)
      rw [er] at HP
      have e1 : (str t).extract 0 k = str (t.take k) := str_to t k
      have e2 : (str t).extract k t.length = str [] := by rw [str_from, er]
      have cD := fun w => RDay_any (t.take k) w (by simp; omega)
      have kI : (k : Int) ≤ (t.length : Int) := by omega
      have kI2 : ¬ (k : Int) < (t.length : Int) := by omega
      clear HT er HA
      generalize t.take k = p at *
      cases hd : Dat.dayR p with
      | none =>
        have HX : Hid _ := (show Dat.parseR t = none from by rw [HP.out]; unfold parsePR; rw [hd])
        rw [hd] at cD
        clear HP hd
        go_wp2_with (first
          | (go_at_call 31; refine (cD _).mono ?_; rintro e w1 ⟨rfl, hw1⟩; replace hS := hS.drew hw1; clear hw1)
          | ((with_reducible show wpList _ _ _ ({ dst := _, op := Op.store 39 _ _, type := _, pos := _, after := _, guard := _ } :: _) _ _); refine wpList_store_MR _ _ rfl rfl c (mZero) mZero rfl rfl hS.res ?_))
        exact ret_M2R (m := mZero) rfl rfl rfl rfl (hS.done _).1 ⟨by rw [HX.out]; rfl, (hS.done _).2⟩
      | some d =>
        obtain ⟨d1, d2⟩ := day_bdR hd
        rw [hd] at cD
        have HX : Hid _ := (show Dat.parseR t = some (d * 86400, false, false) from by rw [HP.out]; unfold parsePR; rw [hd]; rfl)
        have hq := left_no (l := ([] : List UInt8)) rfl
        clear HP hd
        go_wp2_with (first
          | (go_at_call 31; refine (cD _).mono ?_; rintro e w1 ⟨rfl, hw1⟩; replace hS := hS.drew hw1; clear hw1)
          | ((with_reducible show wpList _ _ _ ({ dst := _, op := Op.store 39 _ _, type := _, pos := _, after := _, guard := _ } :: _) _ _); refine wpList_store_MR _ _ rfl rfl c ((d * 86400, false, false)) mZero rfl rfl hS.res ?_))
        exact ret_M2R (m := (d * 86400, false, false)) rfl rfl rfl rfl (hS.done _).1 ⟨by rw [HX.out]; rfl, (hS.done _).2⟩
end Go.Proofs.YtnklbeldheocmaaDoor
