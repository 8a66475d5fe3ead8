/- Texts laid as one. -/
import Derived.Test.YtiodaahncadodaaGreatDoorKRfEF
/- The contract of refs.number. -/
set_option linter.unusedVariables false
set_option linter.unusedSimpArgs false
namespace Go.Proofs.YtiodaahncadodaaGreatDoor
open Go.RowKit
set_option maxHeartbeats 2000000 in
set_option maxRecDepth 100000 in
theorem number_hex (t : List UInt8) (w : World) (hz : t.length ≤ 1000000000) (hW : Win w) (h : [35].isPrefixOf t = true) (h1 : [35,120].isPrefixOf t = true) :
    Calls Tryz.prog 176 #[.string (str t)] w fun e w' => e = .returned (.tuple #[.int .i32 (Rf.numSg t), .int .i64 (Rf.numSz t)]) ∧ w' = w := by
  have hb : Rf.isHx t = true := by unfold Rf.isHx; rw [h1]; rfl
  have hl := digs_len t h
  have ht := digs_take t
  have hsz := str_size t
  have HZ : Hid (Rf.numSz t = if Rf.isNo t = true then 2 + (Rf.digs t).length + Rf.semi (t.drop (2 + (Rf.digs t).length)) else 0) := by
    show _ = _
    unfold Rf.numSz
    rw [hb]
    rfl
  have HG : Hid (Rf.numSg t = if Rf.isNo t = true then Rf.numSign (Rf.hexCap (Rf.digs t)) else 0) := by
    show _ = _
    unfold Rf.numSg
    rw [hb]
    rfl
  have HV : Hid (Rf.digs t ≠ [] → 0 ≤ Rf.hexCap (Rf.digs t) ∧ Rf.hexCap (Rf.digs t) ≤ 4294967295) := by
    intro hd
    have := Rf.val_bd t hd
    rw [hb] at this
    exact this
  have HI : Hid (Rf.isNo t = !(Rf.digs t).isEmpty) := by
    show _ = _
    unfold Rf.isNo
    rw [h]
    rfl
  have hR : ∀ W, Calls Tryz.prog 192 #[.string (str (t.drop 2)), .func (.func 190) #[] #[]] W fun e w' => e = .returned (.int .i64 (Rf.digs t).length) ∧ w' = W := by
    intro W
    have := run_hex (str (t.drop 2)) W (by rw [str_size, List.length_drop]; omega)
    rw [str_data] at this
    unfold Rf.digs
    rw [hb]
    exact this
  rw [hb] at hl ht
  have ht' : (t.drop 2).take (Rf.digs t).length = Rf.digs t := ht
  have hl' : 2 + (Rf.digs t).length ≤ t.length := hl
  clear ht hl hb
  have q0 := Pre h
  have q1 := Pre h1
  clear h h1
  have he1 : (str t).extract 2 t.length = str (t.drop 2) := str_from t 2
  have he2 : (str t).extract 2 (2 + (Rf.digs t).length) = str (Rf.digs t) := by rw [str_mid, ht']
  have he3 : (str t).extract (2 + (Rf.digs t).length) t.length = str (t.drop (2 + (Rf.digs t).length)) := str_from t _
  have hr := hexadecimal_any (str (Rf.digs t))
  rw [str_data, str_size] at hr
  clear ht'
  generalize t.drop 2 = u at hR he1
  generalize Rf.digs t = D at *
  generalize hd : D.length = d at *
  by_cases hz0 : d = 0
  · have hD : D = [] := List.eq_nil_of_length_eq_zero (by omega)
    rw [hD] at HI
    have HI' : Hid (Rf.isNo t = false) := HI.out
    subst hz0
    clear hr HV hd HI
    go_enter Tryz.func176, Tryz.ntmps176
    go_wp2_with (first
      | (go_at_call 127; refine (q0 _).mono ?_; rintro e w1 ⟨rfl, hw⟩; rw [hw]; clear hw)
      | (go_at_call 127; refine (q1 _).mono ?_; rintro e w1 ⟨rfl, hw⟩; rw [hw]; clear hw)
      | (go_at_call 192; refine (hR _).mono ?_; rintro e w1 ⟨rfl, hw⟩; rw [hw]; clear hw))
    go_ret2
    rw [HG.out, HZ.out, HI'.out]
    exact ⟨rfl, rfl⟩
  · have hD : D ≠ [] := by intro e; rw [e] at hd; simp at hd; omega
    have HI' : Hid (Rf.isNo t = true) := by
      show _ = _
      rw [HI.out]
      cases D with
      | nil => exact absurd rfl hD
      | cons c r => rfl
    have hv := HV.out hD
    have hN := fun W => Number11_any (Rf.hexCap D) W hv.1 hv.2
    have HX : Hid (Rf.numSg t = Rf.numSign (Rf.hexCap D)) := by
      show _ = _
      rw [HG.out, HI'.out]
      rfl
    have HY : Hid (Rf.numSz t = 2 + d + Rf.semi (t.drop (2 + d))) := by
      show _ = _
      rw [HZ.out, HI'.out]
      rfl
    clear HV HI HI' HG HZ hD hd
    generalize Rf.hexCap D = v at *
    generalize Rf.numSign v = sg at *
    generalize t.drop (2 + d) = u2 at *
    cases hs : [59].isPrefixOf u2
    · have q3 := Pre hs
      have HS : Hid (Rf.semi u2 = 0) := by show _ = _; unfold Rf.semi; rw [hs]; rfl
      clear hs
      go_enter Tryz.func176, Tryz.ntmps176
      go_wp2_with (first
        | (go_at_call 127; refine (q0 _).mono ?_; rintro e w1 ⟨rfl, hw⟩; rw [hw]; clear hw)
        | (go_at_call 127; refine (q1 _).mono ?_; rintro e w1 ⟨rfl, hw⟩; rw [hw]; clear hw)
        | (go_at_call 127; refine (q3 _).mono ?_; rintro e w1 ⟨rfl, hw⟩; rw [hw]; clear hw)
        | (go_at_call 192; refine (hR _).mono ?_; rintro e w1 ⟨rfl, hw⟩; rw [hw]; clear hw)
        | (go_at_call 191; refine (hr _ (by omega)).mono ?_; rintro e w1 ⟨rfl, hw⟩; rw [hw]; clear hw)
        | (go_at_call 193; refine (hN _ hW).mono ?_; rintro e w1 ⟨rfl, hw⟩; rw [hw]; clear hw))
      go_ret2
      rw [HX.out, HY.out, HS.out]
      exact ⟨by simp, rfl⟩
    · have q3 := Pre hs
      have HS : Hid (Rf.semi u2 = 1) := by show _ = _; unfold Rf.semi; rw [hs]; rfl
      clear hs
      go_enter Tryz.func176, Tryz.ntmps176
      go_wp2_with (first
        | (go_at_call 127; refine (q0 _).mono ?_; rintro e w1 ⟨rfl, hw⟩; rw [hw]; clear hw)
        | (go_at_call 127; refine (q1 _).mono ?_; rintro e w1 ⟨rfl, hw⟩; rw [hw]; clear hw)
        | (go_at_call 127; refine (q3 _).mono ?_; rintro e w1 ⟨rfl, hw⟩; rw [hw]; clear hw)
        | (go_at_call 192; refine (hR _).mono ?_; rintro e w1 ⟨rfl, hw⟩; rw [hw]; clear hw)
        | (go_at_call 191; refine (hr _ (by omega)).mono ?_; rintro e w1 ⟨rfl, hw⟩; rw [hw]; clear hw)
        | (go_at_call 193; refine (hN _ hW).mono ?_; rintro e w1 ⟨rfl, hw⟩; rw [hw]; clear hw))
      go_ret2
      rw [HX.out, HY.out, HS.out]
      exact ⟨by simp, rfl⟩
end Go.Proofs.YtiodaahncadodaaGreatDoor
/- The contract of refs.number. -/
namespace Go.Proofs.YtiodaahncadodaaGreatDoor
open Go.RowKit
set_option maxHeartbeats 2000000 in
set_option maxRecDepth 100000 in
theorem number_heX (t : List UInt8) (w : World) (hz : t.length ≤ 1000000000) (hW : Win w) (h : [35].isPrefixOf t = true) (h1 : [35,120].isPrefixOf t = false) (h2 : [35,88].isPrefixOf t = true) :
    Calls Tryz.prog 176 #[.string (str t)] w fun e w' => e = .returned (.tuple #[.int .i32 (Rf.numSg t), .int .i64 (Rf.numSz t)]) ∧ w' = w := by
  have hb : Rf.isHx t = true := by unfold Rf.isHx; rw [h1, h2]; rfl
  have hl := digs_len t h
  have ht := digs_take t
  have hsz := str_size t
  have HZ : Hid (Rf.numSz t = if Rf.isNo t = true then 2 + (Rf.digs t).length + Rf.semi (t.drop (2 + (Rf.digs t).length)) else 0) := by
    show _ = _
    unfold Rf.numSz
    rw [hb]
    rfl
  have HG : Hid (Rf.numSg t = if Rf.isNo t = true then Rf.numSign (Rf.hexCap (Rf.digs t)) else 0) := by
    show _ = _
    unfold Rf.numSg
    rw [hb]
    rfl
  have HV : Hid (Rf.digs t ≠ [] → 0 ≤ Rf.hexCap (Rf.digs t) ∧ Rf.hexCap (Rf.digs t) ≤ 4294967295) := by
    intro hd
    have := Rf.val_bd t hd
    rw [hb] at this
    exact this
  have HI : Hid (Rf.isNo t = !(Rf.digs t).isEmpty) := by
    show _ = _
    unfold Rf.isNo
    rw [h]
    rfl
  have hR : ∀ W, Calls Tryz.prog 192 #[.string (str (t.drop 2)), .func (.func 190) #[] #[]] W fun e w' => e = .returned (.int .i64 (Rf.digs t).length) ∧ w' = W := by
    intro W
    have := run_hex (str (t.drop 2)) W (by rw [str_size, List.length_drop]; omega)
    rw [str_data] at this
    unfold Rf.digs
    rw [hb]
    exact this
  rw [hb] at hl ht
  have ht' : (t.drop 2).take (Rf.digs t).length = Rf.digs t := ht
  have hl' : 2 + (Rf.digs t).length ≤ t.length := hl
  clear ht hl hb
  have q0 := Pre h
  have q1 := Pre h1
  have q2 := Pre h2
  clear h h1 h2
  have he1 : (str t).extract 2 t.length = str (t.drop 2) := str_from t 2
  have he2 : (str t).extract 2 (2 + (Rf.digs t).length) = str (Rf.digs t) := by rw [str_mid, ht']
  have he3 : (str t).extract (2 + (Rf.digs t).length) t.length = str (t.drop (2 + (Rf.digs t).length)) := str_from t _
  have hr := hexadecimal_any (str (Rf.digs t))
  rw [str_data, str_size] at hr
  clear ht'
  generalize t.drop 2 = u at hR he1
  generalize Rf.digs t = D at *
  generalize hd : D.length = d at *
  by_cases hz0 : d = 0
  · have hD : D = [] := List.eq_nil_of_length_eq_zero (by omega)
    rw [hD] at HI
    have HI' : Hid (Rf.isNo t = false) := HI.out
    subst hz0
    clear hr HV hd HI
    go_enter Tryz.func176, Tryz.ntmps176
    go_wp2_with (first
      | (go_at_call 127; refine (q0 _).mono ?_; rintro e w1 ⟨rfl, hw⟩; rw [hw]; clear hw)
      | (go_at_call 127; refine (q1 _).mono ?_; rintro e w1 ⟨rfl, hw⟩; rw [hw]; clear hw)
      | (go_at_call 127; refine (q2 _).mono ?_; rintro e w1 ⟨rfl, hw⟩; rw [hw]; clear hw)
      | (go_at_call 192; refine (hR _).mono ?_; rintro e w1 ⟨rfl, hw⟩; rw [hw]; clear hw))
    go_ret2
    rw [HG.out, HZ.out, HI'.out]
    exact ⟨rfl, rfl⟩
  · have hD : D ≠ [] := by intro e; rw [e] at hd; simp at hd; omega
    have HI' : Hid (Rf.isNo t = true) := by
      show _ = _
      rw [HI.out]
      cases D with
      | nil => exact absurd rfl hD
      | cons c r => rfl
    have hv := HV.out hD
    have hN := fun W => Number11_any (Rf.hexCap D) W hv.1 hv.2
    have HX : Hid (Rf.numSg t = Rf.numSign (Rf.hexCap D)) := by
      show _ = _
      rw [HG.out, HI'.out]
      rfl
    have HY : Hid (Rf.numSz t = 2 + d + Rf.semi (t.drop (2 + d))) := by
      show _ = _
      rw [HZ.out, HI'.out]
      rfl
    clear HV HI HI' HG HZ hD hd
    generalize Rf.hexCap D = v at *
    generalize Rf.numSign v = sg at *
    generalize t.drop (2 + d) = u2 at *
    cases hs : [59].isPrefixOf u2
    · have q3 := Pre hs
      have HS : Hid (Rf.semi u2 = 0) := by show _ = _; unfold Rf.semi; rw [hs]; rfl
      clear hs
      go_enter Tryz.func176, Tryz.ntmps176
      go_wp2_with (first
        | (go_at_call 127; refine (q0 _).mono ?_; rintro e w1 ⟨rfl, hw⟩; rw [hw]; clear hw)
        | (go_at_call 127; refine (q1 _).mono ?_; rintro e w1 ⟨rfl, hw⟩; rw [hw]; clear hw)
        | (go_at_call 127; refine (q2 _).mono ?_; rintro e w1 ⟨rfl, hw⟩; rw [hw]; clear hw)
        | (go_at_call 127; refine (q3 _).mono ?_; rintro e w1 ⟨rfl, hw⟩; rw [hw]; clear hw)
        | (go_at_call 192; refine (hR _).mono ?_; rintro e w1 ⟨rfl, hw⟩; rw [hw]; clear hw)
        | (go_at_call 191; refine (hr _ (by omega)).mono ?_; rintro e w1 ⟨rfl, hw⟩; rw [hw]; clear hw)
        | (go_at_call 193; refine (hN _ hW).mono ?_; rintro e w1 ⟨rfl, hw⟩; rw [hw]; clear hw))
      go_ret2
      rw [HX.out, HY.out, HS.out]
      exact ⟨by simp, rfl⟩
    · have q3 := Pre hs
      have HS : Hid (Rf.semi u2 = 1) := by show _ = _; unfold Rf.semi; rw [hs]; rfl
      clear hs
      go_enter Tryz.func176, Tryz.ntmps176
      go_wp2_with (first
        | (go_at_call 127; refine (q0 _).mono ?_; rintro e w1 ⟨rfl, hw⟩; rw [hw]; clear hw)
        | (go_at_call 127; refine (q1 _).mono ?_; rintro e w1 ⟨rfl, hw⟩; rw [hw]; clear hw)
        | (go_at_call 127; refine (q2 _).mono ?_; rintro e w1 ⟨rfl, hw⟩; rw [hw]; clear hw)
        | (go_at_call 127; refine (q3 _).mono ?_; rintro e w1 ⟨rfl, hw⟩; rw [hw]; clear hw)
        | (go_at_call 192; refine (hR _).mono ?_; rintro e w1 ⟨rfl, hw⟩; rw [hw]; clear hw)
        | (go_at_call 191; refine (hr _ (by omega)).mono ?_; rintro e w1 ⟨rfl, hw⟩; rw [hw]; clear hw)
        | (go_at_call 193; refine (hN _ hW).mono ?_; rintro e w1 ⟨rfl, hw⟩; rw [hw]; clear hw))
      go_ret2
      rw [HX.out, HY.out, HS.out]
      exact ⟨by simp, rfl⟩
end Go.Proofs.YtiodaahncadodaaGreatDoor
