/- Texts laid as one. -/
import Derived.Test.YtmmpbjpeiclacaaGreatDoorKYA
import Derived.Test.YtmmpbjpeiclacaaGreatDoorKJson
import Derived.Deep.CutBlock
import Derived.Test.YtmmpbjpeiclacaaGreatDoorKZef
import Derived.Test.YtmmpbjpeiclacaaGreatDoorKTextR
import Derived.BigQuiet
/- The contracts of the document's digits and Number. -/
set_option linter.unusedVariables false
set_option linter.unusedSimpArgs false
namespace Go.Proofs.YtmmpbjpeiclacaaGreatDoor
open Go.RowKit
theorem hideN {p : Prop} (h : p) : Hid p := h
set_option maxHeartbeats 1000000 in
theorem RIsDigit_j (c : UInt8) (w : World) :
    Calls Tryz.prog 54 #[.int .u8 c.toNat] w fun e w' => e = .returned (.bool (Jsn.dgB c)) ∧ w' = w := RIsDigit_n _ _
theorem cnt_take (l : List UInt8) (n : Nat) (h : n < Jsn.cnt l) (hn : n < l.length) : Jsn.dgB l[n] = true := by
  induction l generalizing n with
  | nil => simp at hn
  | cons c l ih =>
    cases hc : Jsn.dgB c
    · rw [Jsn.cnt_no hc] at h; omega
    · cases n with
      | zero => exact hc
      | succ n => rw [Jsn.cnt_yes hc] at h; exact ih n (by omega) (by simpa using hn)
theorem cnt_stop (l : List UInt8) (hn : Jsn.cnt l < l.length) : Jsn.dgB l[Jsn.cnt l] = false := by
  induction l with
  | nil => simp at hn
  | cons c l ih =>
    cases hc : Jsn.dgB c
    · simp only [Jsn.cnt_no hc]; exact hc
    · have h1 := Jsn.cnt_yes (l := l) hc
      simp only [h1]
      simp only [h1] at hn
      exact ih (by simpa using hn)
set_option maxHeartbeats 2000000 in
set_option maxRecDepth 100000 in
theorem Rdigits_any (l : List UInt8) (w : World) (hl : l.length ≤ 1000000000) :
    Calls Tryz.prog 78 #[.string (str l)] w fun e w' => e = .returned (.int .i64 (Jsn.cnt l : Int)) ∧ w' = w := by
  have hsz := str_size l
  have hle := Jsn.cnt_le l
  go_enter Tryz.func78, Tryz.ntmps78
  go_wp2
  go_loopw [3] (fun i wr => ∃ n : Nat, n ≤ Jsn.cnt l ∧ i = .int .i64 n ∧ w = wr) (fun i _ => l.length - (intOf i).toNat)
  case atStart => exact ⟨0, Nat.zero_le _, rfl, rfl⟩
  case round =>
    obtain ⟨n, hn, rfl, rfl⟩ := hrel
    by_cases hlt : n < l.length
    · have hat : ((str l)[n]'(by rw [str_size]; exact hlt)) = l[n] := rfl
      have hI := RIsDigit_j l[n] w
      by_cases hc : n < Jsn.cnt l
      · rw [cnt_take l n hc hlt] at hI
        have HI := hideN hI
        clear hI
        go_wp2_with (go_at_call 54; refine HI.out.mono ?_; rintro e w2 ⟨rfl, he⟩; replace he := he.symm; subst he)
        exact ⟨⟨n + 1, by omega, by go_num, trivial⟩, by simp [intOf]; omega⟩
      · obtain rfl : n = Jsn.cnt l := by omega
        rw [cnt_stop l hlt] at hI
        have HI := hideN hI
        clear hI
        go_wp2_with (go_at_call 54; refine HI.out.mono ?_; rintro e w2 ⟨rfl, he⟩; replace he := he.symm; subst he)
        go_ret
        exact ⟨rfl, rfl⟩
    · obtain hc : n = Jsn.cnt l := by omega
      subst hc
      go_wp2
      go_ret
      exact ⟨rfl, rfl⟩
theorem emp_yes : ((str ([] : List UInt8)).toList.isEmpty) = true := by rw [str_list]; rfl
theorem emp_no (c : UInt8) (r : List UInt8) : ((str (c :: r)).toList.isEmpty) = false := by rw [str_list]; rfl
theorem beq_dec (a b : UInt8) : (a == b) = decide (a = b) := by by_cases h : a = b <;> simp [h]
theorem byte_eq (c : UInt8) (n : Nat) (hn : n < 256) : ((c.toNat : Int) == (n : Int)) = (c == UInt8.ofNat n) := by
  by_cases h : c = UInt8.ofNat n
  · subst h
    have : (UInt8.ofNat n).toNat = n := by simp; omega
    rw [this]; simp
  · have h2 : ¬ c.toNat = n := fun e => h (UInt8.toNat_inj.mp (by rw [e]; simp [Nat.mod_eq_of_lt hn]))
    rw [beq_eq_false_iff_ne.2 h, beq_eq_false_iff_ne]
    omega
set_option maxHeartbeats 4000000 in
set_option maxRecDepth 100000 in
theorem RNumber_any (l : List UInt8) (w : World) (hl : l.length ≤ 1000000000) :
    Calls Tryz.prog 56 #[.string (str l)] w fun e w' => e = .returned (.bool (Jsn.isNum l)) ∧ w' = w := by
  obtain ⟨X, HX⟩ : ∃ X, Hid (X = Jsn.numD l) := ⟨_, rfl⟩
  rw [← Jsn.num_eq, ← HX.out]
  have hl0 : (Jsn.cutIf Jsn.isMin l).length ≤ 1000000000 := by
    unfold Jsn.cutIf
    split
    · simp; omega
    · exact hl
  have HX1 : Hid (X = Jsn.intD (Jsn.cutIf Jsn.isMin l)) := HX.out
  obtain ⟨s, HS⟩ : ∃ s, Hid (s = Jsn.cutIf Jsn.isMin l) := ⟨_, rfl⟩
  rw [← HS.out] at HX1 hl0
  go_enter Tryz.func56, Tryz.ntmps56
  go_upto_region 1 with fail
  go_cut [10] from 4 to 9 (fun y w' => y = Value.bool (Jsn.starts Jsn.isMin l) ∧ w = w')
  case first =>
    cases l with
    | nil =>
      have e0 := emp_yes
      go_wp2_with fail
      go_meet
      exact ⟨rfl, rfl⟩
    | cons c r =>
      have e0 := emp_no c r
      have hz := str_size (c :: r)
      have hh : ((str (c :: r))[0]'(by rw [str_size]; simp)) = c := rfl
      have hb := byte_eq c 45 (by omega)
      go_wp2_with fail
      go_meet
      refine ⟨?_, rfl⟩
      show Value.bool _ = _
      congr 1
  case rest =>
    obtain ⟨rfl, rfl⟩ := hcut
    go_upto_if 10 with fail
    go_cut [0] from 10 to 12 (fun y w' => y = Value.string (str s) ∧ w = w')
    case first =>
      cases hst : Jsn.starts Jsn.isMin l with
      | true =>
        have HT : Hid (s = l.tail) := by show s = _; rw [HS.out]; unfold Jsn.cutIf; rw [if_pos hst]
        obtain ⟨c, r, rfl⟩ : ∃ c r, l = c :: r := by
          cases l with
          | nil => simp [Jsn.starts] at hst
          | cons c r => exact ⟨c, r, rfl⟩
        have hz := str_size (c :: r)
        have ht := str_tail c r
        clear hst
        go_wp2_with fail
        go_meet
        exact ⟨by rw [HT.out]; rfl, rfl⟩
      | false =>
        have HT : Hid (s = l) := by show s = _; rw [HS.out]; unfold Jsn.cutIf; rw [if_neg (by simp [hst])]
        clear hst
        go_wp2_with fail
        go_meet
        exact ⟨by rw [HT.out], rfl⟩
    case rest =>
      obtain ⟨rfl, rfl⟩ := hcut
      clear HX HS hl
      have hsz := str_size s
      have hle := Jsn.cnt_le s
      have D := hideN (fun (r : List UInt8) W (h : r.length ≤ 1000000000) => Rdigits_any r W h)
      go_upto_region 4 with (go_at_call 78; refine (D.out s _ hl0).mono ?_; rintro e w2 ⟨rfl, he⟩; replace he := he.symm; subst he)
      go_cut [25] from 15 to 25 (fun y w' => y = Value.bool (decide (Jsn.cnt s = 0 ∨ (1 < Jsn.cnt s ∧ Jsn.starts Jsn.isNul s = true))) ∧ w = w')
      case first =>
        by_cases h0 : Jsn.cnt s = 0
        · have h0' : ((Jsn.cnt s : Nat) : Int) = 0 := by omega
          have h0b : (((Jsn.cnt s : Nat) : Int) == 0) = true := by simpa using h0'
          clear D
          go_wp2_with fail
          go_meet
          exact ⟨by simp [h0], rfl⟩
        · have h0b : (((Jsn.cnt s : Nat) : Int) == 0) = false := by simpa using h0
          by_cases h1 : 1 < Jsn.cnt s
          · have h1' : (1 : Int) < ((Jsn.cnt s : Nat) : Int) := by omega
            cases s with
            | nil => simp [Jsn.cnt_nil] at h1
            | cons c r =>
              have hh : ((str (c :: r))[0]'(by rw [str_size]; simp)) = c := rfl
              have hb : ((c.toNat : Int) == 48) = (c == 48) := byte_eq c 48 (by omega)
              generalize Jsn.cnt (c :: r) = n at *
              clear D HX1
              go_wp2_with fail
              go_meet
              refine ⟨?_, rfl⟩
              show Value.bool _ = _
              congr 1
              simp [h0, h1, Jsn.starts, Jsn.isNul]
              first | (rw [hb, beq_dec]) | (rw [beq_dec])
          · have h1' : ¬ (1 : Int) < ((Jsn.cnt s : Nat) : Int) := by omega
            have h1b : decide ((1 : Int) < ((Jsn.cnt s : Nat) : Int)) = false := decide_eq_false h1'
            clear D HX1
            go_wp2_with fail
            go_meet
            exact ⟨by simp [h0, h1], rfl⟩
      case rest =>
        obtain ⟨rfl, rfl⟩ := hcut
        by_cases hbad : Jsn.cnt s = 0 ∨ (1 < Jsn.cnt s ∧ Jsn.starts Jsn.isNul s = true)
        · rw [decide_eq_true hbad]
          have HF : Hid (X = false) := by show X = _; rw [HX1.out]; unfold Jsn.intD; rw [if_pos hbad]
          clear D HX1 hbad
          go_wp2_with fail
          go_ret
          rw [HF.out]
          exact ⟨rfl, rfl⟩
        · rw [decide_eq_false hbad]
          have HX2 : Hid (X = Jsn.fracD (Jsn.digs s)) := by show X = _; rw [HX1.out]; unfold Jsn.intD; rw [if_neg hbad]
          have hd : (str s).extract (Jsn.cnt s) s.length = str (Jsn.digs s) := by rw [str_from, Jsn.drop_cnt]
          have hl1 : (Jsn.digs s).length ≤ 1000000000 := by have := Jsn.digs_le s; omega
          clear HX1 hbad
          generalize Jsn.digs s = r1 at *
          go_upto_region 7 with fail
          clear hd hsz hle hl0
          go_upto_region 7 with fail
          go_cut [35] from 29 to 35 (fun y w' => y = Value.bool (Jsn.starts Jsn.isDot r1) ∧ w = w')
          case first =>
            cases r1 with
            | nil =>
              have e0 := emp_yes
              go_wp2_with fail
              go_meet
              exact ⟨rfl, rfl⟩
            | cons c r =>
              have e0 := emp_no c r
              have hz := str_size (c :: r)
              have hh : ((str (c :: r))[0]'(by rw [str_size]; simp)) = c := rfl
              have hb := byte_eq c 46 (by omega)
              go_wp2_with fail
              go_meet
              refine ⟨?_, rfl⟩
              show Value.bool _ = _
              congr 1
          case rest =>
            obtain ⟨rfl, rfl⟩ := hcut
            cases hdot : Jsn.starts Jsn.isDot r1 with
            | true =>
              obtain ⟨c, r, rfl⟩ : ∃ c r, r1 = c :: r := by
                cases r1 with
                | nil => simp [Jsn.starts] at hdot
                | cons c r => exact ⟨c, r, rfl⟩
              have hz := str_size (c :: r)
              have ht := str_tail c r
              have hlr : r.length ≤ 1000000000 := by simp at hl1; omega
              have hcr := Jsn.cnt_le r
              by_cases hn0 : Jsn.cnt r = 0
              · have HF : Hid (X = false) := by show X = _; rw [HX2.out]; unfold Jsn.fracD; rw [if_pos hdot]; exact if_pos hn0
                have h0b : (((Jsn.cnt r : Nat) : Int) == 0) = true := by simpa using hn0
                clear HX2 hdot
                go_wp2_with (go_at_call 78; refine (D.out r _ hlr).mono ?_; rintro e w2 ⟨rfl, he⟩; replace he := he.symm; subst he)
                go_ret
                rw [HF.out]
                exact ⟨rfl, rfl⟩
              · have HX3 : Hid (X = Jsn.expD (Jsn.digs r)) := by show X = _; rw [HX2.out]; unfold Jsn.fracD; rw [if_pos hdot]; exact if_neg hn0
                have h0b : (((Jsn.cnt r : Nat) : Int) == 0) = false := by simpa using hn0
                have hd2 : (str (c :: r)).extract (Jsn.cnt r + 1) (r.length + 1) = str (Jsn.digs r) := by
                  have := str_from (c :: r) (Jsn.cnt r + 1)
                  rw [List.drop_succ_cons, Jsn.drop_cnt] at this
                  exact this
                have hl2 : (Jsn.digs r).length ≤ 1000000000 := by have := Jsn.digs_le r; omega
                clear HX2 hdot
                generalize Jsn.digs r = r2 at *
                go_upto_region 12 with (go_at_call 78; refine (D.out r _ hlr).mono ?_; rintro e w2 ⟨rfl, he⟩; replace he := he.symm; subst he)
                clear hd2 hz ht hlr hcr hn0 h0b hl1
                cases r2 with
                | nil =>
                  have e0 := emp_yes
                  have HF : Hid (X = true) := by show X = _; rw [HX3.out]; rfl
                  go_wp2_with fail
                  go_ret
                  rw [HF.out]
                  exact ⟨rfl, rfl⟩
                | cons c r =>
                  have e0 := emp_no c r
                  have hz := str_size (c :: r)
                  have hh : ((str (c :: r))[0]'(by rw [str_size]; simp)) = c := rfl
                  have ht := str_tail c r
                  have hb1 : ((c.toNat : Int) == 101) = (c == 101) := byte_eq c 101 (by omega)
                  have hb2 : ((c.toNat : Int) == 69) = (c == 69) := byte_eq c 69 (by omega)
                  have hlr : r.length ≤ 1000000000 := by simp at hl2; omega
                  cases hex : Jsn.isExp c with
                  | false =>
                    have HF : Hid (X = false) := by show X = _; rw [HX3.out]; unfold Jsn.expD; simp [Jsn.starts, hex]
                    have hx : (c == 101) = false ∧ (c == 69) = false := by unfold Jsn.isExp at hex; simpa using hex
                    have n1 : ((c.toNat : Int) != 101) = true := by unfold bne; rw [hb1, hx.1]; rfl
                    have n2 : ((c.toNat : Int) != 69) = true := by unfold bne; rw [hb2, hx.2]; rfl
                    rw [hx.1] at hb1
                    rw [hx.2] at hb2
                    clear hx hex HX3
                    go_wp2_with fail
                    go_ret
                    rw [HF.out]
                    exact ⟨rfl, rfl⟩
                  | true =>
                    have HX4 : Hid (X = (decide (Jsn.cutIf Jsn.isSgn r ≠ []) && decide (Jsn.cnt (Jsn.cutIf Jsn.isSgn r) = (Jsn.cutIf Jsn.isSgn r).length))) := by show X = _; rw [HX3.out]; unfold Jsn.expD; rw [if_neg (by simp), if_pos (show Jsn.starts Jsn.isExp (c :: r) = true from hex)]; rfl
                    go_upto_region 14 with fail
                    go_cut [54] from 48 to 54 (fun y w' => y = Value.bool false ∧ w = w')
                    case first =>
                      clear HX3 HX4 D
                      have hx : c = 101 ∨ c = 69 := by unfold Jsn.isExp at hex; simpa using hex
                      rcases hx with rfl | rfl
                      · go_wp2_with fail
                        go_meet
                        exact ⟨rfl, rfl⟩
                      · go_wp2_with fail
                        go_meet
                        exact ⟨rfl, rfl⟩
                    case rest =>
                      obtain ⟨rfl, rfl⟩ := hcut
                      go_upto_region 17 with fail
                      clear hb1 hb2 hh e0 hex HX3 hz ht hl2
                      obtain ⟨q, HQ⟩ : ∃ q, Hid (q = Jsn.cutIf Jsn.isSgn r) := ⟨_, rfl⟩
                      rw [← HQ.out] at HX4
                      have hlq : q.length ≤ 1000000000 := by
                        rw [HQ.out]
                        unfold Jsn.cutIf
                        split
                        · simp; omega
                        · exact hlr
                      go_upto_region 17 with fail
                      go_cut [68] from 57 to 68 (fun y w' => y = Value.bool (Jsn.starts Jsn.isSgn r) ∧ w = w')
                      case first =>
                        cases r with
                        | nil =>
                          have e0 := emp_yes
                          go_wp2_with fail
                          go_meet
                          exact ⟨rfl, rfl⟩
                        | cons c r =>
                          have e0 := emp_no c r
                          have hz := str_size (c :: r)
                          have hh : ((str (c :: r))[0]'(by rw [str_size]; simp)) = c := rfl
                          have hb := byte_eq c 43 (by omega)
                          have hb2 := byte_eq c 45 (by omega)
                          by_cases hc : c = 43
                          · subst hc
                            go_wp2_with fail
                            go_meet
                            exact ⟨rfl, rfl⟩
                          · have hq : ((c.toNat : Int) == 43) = false := by rw [show (43 : Int) = ((43 : Nat) : Int) from rfl, hb]; simpa using hc
                            clear hb
                            go_wp2_with fail
                            go_meet
                            refine ⟨?_, rfl⟩
                            show Value.bool _ = _
                            congr 1
                            show _ = (c == 43 || c == 45)
                            rw [beq_eq_false_iff_ne.2 hc, Bool.false_or]
                            exact byte_eq c 45 (by omega)
                      case rest =>
                        obtain ⟨rfl, rfl⟩ := hcut
                        go_upto_if 68 with fail
                        go_cut [0] from 68 to 70 (fun y w' => y = Value.string (str q) ∧ w = w')
                        case first =>
                          cases hst : Jsn.starts Jsn.isSgn r with
                          | true =>
                            have HT : Hid (q = r.tail) := by show q = _; rw [HQ.out]; unfold Jsn.cutIf; rw [if_pos hst]
                            obtain ⟨d, u, rfl⟩ : ∃ d u, r = d :: u := by
                              cases r with
                              | nil => simp [Jsn.starts] at hst
                              | cons d u => exact ⟨d, u, rfl⟩
                            have hz := str_size (d :: u)
                            have ht := str_tail d u
                            clear hst
                            go_wp2_with fail
                            go_meet
                            exact ⟨by rw [HT.out]; rfl, rfl⟩
                          | false =>
                            have HT : Hid (q = r) := by show q = _; rw [HQ.out]; unfold Jsn.cutIf; rw [if_neg (by simp [hst])]
                            clear hst
                            go_wp2_with fail
                            go_meet
                            exact ⟨by rw [HT.out], rfl⟩
                        case rest =>
                          obtain ⟨rfl, rfl⟩ := hcut
                          clear HQ hlr
                          cases q with
                          | nil =>
                            have e0 := emp_yes
                            have HF : Hid (X = false) := by show X = _; rw [HX4.out]; rfl
                            clear HX4
                            go_wp2_with fail
                            go_ret
                            rw [HF.out]
                            exact ⟨rfl, rfl⟩
                          | cons d u =>
                            have e0 := emp_no d u
                            have hz := str_size (d :: u)
                            have HF : Hid (X = decide (Jsn.cnt (d :: u) = (d :: u).length)) := by show X = _; rw [HX4.out]; simp
                            clear HX4
                            have DC := hideN (D.out (d :: u) w hlq)
                            generalize Jsn.cnt (d :: u) = k at *
                            go_wp2_with (go_at_call 78; refine DC.out.mono ?_; rintro e w2 ⟨rfl, he⟩; replace he := he.symm; subst he)
                            go_ret
                            rw [HF.out]
                            refine ⟨ret_bool ?_, rfl⟩
                            by_cases hk : k = u.length + 1
                            · simp [hk]
                            · have : ¬ (k : Int) = (u.length : Int) + 1 := by omega
                              simp [hk, this]
            | false =>
              have HX3 : Hid (X = Jsn.expD r1) := by show X = _; rw [HX2.out]; unfold Jsn.fracD; rw [if_neg (by simp [hdot])]
              clear HX2
              go_upto_region 12 with fail
              clear hdot
              cases r1 with
              | nil =>
                have e0 := emp_yes
                have HF : Hid (X = true) := by show X = _; rw [HX3.out]; rfl
                go_wp2_with fail
                go_ret
                rw [HF.out]
                exact ⟨rfl, rfl⟩
              | cons c r =>
                have e0 := emp_no c r
                have hz := str_size (c :: r)
                have hh : ((str (c :: r))[0]'(by rw [str_size]; simp)) = c := rfl
                have ht := str_tail c r
                have hb1 : ((c.toNat : Int) == 101) = (c == 101) := byte_eq c 101 (by omega)
                have hb2 : ((c.toNat : Int) == 69) = (c == 69) := byte_eq c 69 (by omega)
                have hlr : r.length ≤ 1000000000 := by simp at hl1; omega
                cases hex : Jsn.isExp c with
                | false =>
                  have HF : Hid (X = false) := by show X = _; rw [HX3.out]; unfold Jsn.expD; simp [Jsn.starts, hex]
                  have hx : (c == 101) = false ∧ (c == 69) = false := by unfold Jsn.isExp at hex; simpa using hex
                  have n1 : ((c.toNat : Int) != 101) = true := by unfold bne; rw [hb1, hx.1]; rfl
                  have n2 : ((c.toNat : Int) != 69) = true := by unfold bne; rw [hb2, hx.2]; rfl
                  rw [hx.1] at hb1
                  rw [hx.2] at hb2
                  clear hx hex HX3
                  go_wp2_with fail
                  go_ret
                  rw [HF.out]
                  exact ⟨rfl, rfl⟩
                | true =>
                  have HX4 : Hid (X = (decide (Jsn.cutIf Jsn.isSgn r ≠ []) && decide (Jsn.cnt (Jsn.cutIf Jsn.isSgn r) = (Jsn.cutIf Jsn.isSgn r).length))) := by show X = _; rw [HX3.out]; unfold Jsn.expD; rw [if_neg (by simp), if_pos (show Jsn.starts Jsn.isExp (c :: r) = true from hex)]; rfl
                  go_upto_region 14 with fail
                  go_cut [54] from 48 to 54 (fun y w' => y = Value.bool false ∧ w = w')
                  case first =>
                    clear HX3 HX4 D
                    have hx : c = 101 ∨ c = 69 := by unfold Jsn.isExp at hex; simpa using hex
                    rcases hx with rfl | rfl
                    · go_wp2_with fail
                      go_meet
                      exact ⟨rfl, rfl⟩
                    · go_wp2_with fail
                      go_meet
                      exact ⟨rfl, rfl⟩
                  case rest =>
                    obtain ⟨rfl, rfl⟩ := hcut
                    go_upto_region 17 with fail
                    clear hb1 hb2 hh e0 hex HX3 hz ht hl1
                    obtain ⟨q, HQ⟩ : ∃ q, Hid (q = Jsn.cutIf Jsn.isSgn r) := ⟨_, rfl⟩
                    rw [← HQ.out] at HX4
                    have hlq : q.length ≤ 1000000000 := by
                      rw [HQ.out]
                      unfold Jsn.cutIf
                      split
                      · simp; omega
                      · exact hlr
                    go_upto_region 17 with fail
                    go_cut [68] from 57 to 68 (fun y w' => y = Value.bool (Jsn.starts Jsn.isSgn r) ∧ w = w')
                    case first =>
                      cases r with
                      | nil =>
                        have e0 := emp_yes
                        go_wp2_with fail
                        go_meet
                        exact ⟨rfl, rfl⟩
                      | cons c r =>
                        have e0 := emp_no c r
                        have hz := str_size (c :: r)
                        have hh : ((str (c :: r))[0]'(by rw [str_size]; simp)) = c := rfl
                        have hb := byte_eq c 43 (by omega)
                        have hb2 := byte_eq c 45 (by omega)
                        by_cases hc : c = 43
                        · subst hc
                          go_wp2_with fail
                          go_meet
                          exact ⟨rfl, rfl⟩
                        · have hq : ((c.toNat : Int) == 43) = false := by rw [show (43 : Int) = ((43 : Nat) : Int) from rfl, hb]; simpa using hc
                          clear hb
                          go_wp2_with fail
                          go_meet
                          refine ⟨?_, rfl⟩
                          show Value.bool _ = _
                          congr 1
                          show _ = (c == 43 || c == 45)
                          rw [beq_eq_false_iff_ne.2 hc, Bool.false_or]
                          exact byte_eq c 45 (by omega)
                    case rest =>
                      obtain ⟨rfl, rfl⟩ := hcut
                      go_upto_if 68 with fail
                      go_cut [0] from 68 to 70 (fun y w' => y = Value.string (str q) ∧ w = w')
                      case first =>
                        cases hst : Jsn.starts Jsn.isSgn r with
                        | true =>
                          have HT : Hid (q = r.tail) := by show q = _; rw [HQ.out]; unfold Jsn.cutIf; rw [if_pos hst]
                          obtain ⟨d, u, rfl⟩ : ∃ d u, r = d :: u := by
                            cases r with
                            | nil => simp [Jsn.starts] at hst
                            | cons d u => exact ⟨d, u, rfl⟩
                          have hz := str_size (d :: u)
                          have ht := str_tail d u
                          clear hst
                          go_wp2_with fail
                          go_meet
                          exact ⟨by rw [HT.out]; rfl, rfl⟩
                        | false =>
                          have HT : Hid (q = r) := by show q = _; rw [HQ.out]; unfold Jsn.cutIf; rw [if_neg (by simp [hst])]
                          clear hst
                          go_wp2_with fail
                          go_meet
                          exact ⟨by rw [HT.out], rfl⟩
                      case rest =>
                        obtain ⟨rfl, rfl⟩ := hcut
                        clear HQ hlr
                        cases q with
                        | nil =>
                          have e0 := emp_yes
                          have HF : Hid (X = false) := by show X = _; rw [HX4.out]; rfl
                          clear HX4
                          go_wp2_with fail
                          go_ret
                          rw [HF.out]
                          exact ⟨rfl, rfl⟩
                        | cons d u =>
                          have e0 := emp_no d u
                          have hz := str_size (d :: u)
                          have HF : Hid (X = decide (Jsn.cnt (d :: u) = (d :: u).length)) := by show X = _; rw [HX4.out]; simp
                          clear HX4
                          have DC := hideN (D.out (d :: u) w hlq)
                          generalize Jsn.cnt (d :: u) = k at *
                          go_wp2_with (go_at_call 78; refine DC.out.mono ?_; rintro e w2 ⟨rfl, he⟩; replace he := he.symm; subst he)
                          go_ret
                          rw [HF.out]
                          refine ⟨ret_bool ?_, rfl⟩
                          by_cases hk : k = u.length + 1
                          · simp [hk]
                          · have : ¬ (k : Int) = (u.length : Int) + 1 := by omega
                            simp [hk, this]
end Go.Proofs.YtmmpbjpeiclacaaGreatDoor
/- The contracts of the document's Has and one. -/
set_option linter.unusedVariables false
set_option linter.unusedSimpArgs false
namespace Go.Proofs.YtmmpbjpeiclacaaGreatDoor
open Go.RowKit
set_option maxHeartbeats 2000000 in
set_option maxRecDepth 100000 in
theorem RHas_any (ks : List (List UInt8)) (x : List UInt8) (v : Value) (w : World) (h : RTs (fun _ => True) w ks v) (hl : ks.length ≤ 1000000000) :
    Calls Tryz.prog 35 #[v, .string (str x)] w fun e w' => e = .returned (.bool (decide (x ∈ ks))) ∧ w' = w := by
  obtain ⟨a, c, rfl⟩ := h.form
  obtain ⟨X, HX⟩ : ∃ X, Hid (X = decide (x ∈ ks)) := ⟨_, rfl⟩
  rw [← HX.out]
  go_enter Tryz.func35, Tryz.ntmps35
  go_wp2
  go_loopw [5] (fun i wr => ∃ n : Nat, n ≤ ks.length ∧ i = .int .i64 n ∧ x ∉ ks.take n ∧ w = wr) (fun i _ => ks.length - (intOf i).toNat)
  case atStart => exact ⟨0, Nat.zero_le _, rfl, by simp, rfl⟩
  case round =>
    obtain ⟨n, hn, rfl, hx, rfl⟩ := hrel
    have HN := hideN hx
    clear hx
    by_cases hlt : n < ks.length
    · obtain ⟨b, o, rfl, hc, _, hb, hcell⟩ := h.at (List.getElem?_eq_getElem hlt)
      by_cases he : ks[n] = x
      · have hq := str_beq_yes he
        have HT : Hid (X = true) := by show X = true; rw [HX.out]; exact decide_eq_true (by rw [← he]; exact List.getElem_mem hlt)
        generalize ks[n] = y at *
        go_wp2
        go_ret
        rw [HT.out]
        exact ⟨rfl, rfl⟩
      · have hq := str_beq_no he
        have HT : Hid (x ∉ ks.take (n + 1)) := by
          show x ∉ ks.take (n + 1)
          rw [List.take_succ_eq_append_getElem hlt]
          intro hm
          rcases List.mem_append.1 hm with hm | hm
          · exact HN.out hm
          · simp at hm; exact he hm.symm
        generalize ks[n] = y at *
        go_wp2
        exact ⟨⟨n + 1, by omega, by go_num, HT.out, trivial⟩, by simp [intOf]; omega⟩
    · have HT : Hid (X = false) := by
        show X = false
        rw [HX.out]
        have := HN.out
        rw [List.take_of_length_le (by omega)] at this
        exact decide_eq_false this
      clear h
      go_wp2
      go_ret
      rw [HT.out]
      exact ⟨rfl, rfl⟩
theorem emp_dec (tx : List UInt8) : ((str tx).toList.isEmpty) = decide (tx = []) := by
  cases tx with
  | nil => rw [str_list]; rfl
  | cons c r => rw [str_list]; rfl
theorem con_dec (tx u : List UInt8) : ((str tx).toList == u) = decide (tx = u) := by
  rw [str_list]
  by_cases h : tx = u <;> simp [h]
theorem VAtb {w w' : World} {b : Nat} {x0 x1 x2 x3 : Value} (h : VAt w b x0 x1 x2 x3) (hB : Below w.heap.size w w') : VAt w' b x0 x1 x2 x3 := h.keep (hB.block b h.lt)
theorem RTs_take {Q : Nat → Prop} {w : World} {ks : List (List UInt8)} {a : Option Addr} {c n : Nat} (h : RTs Q w ks (.slice a ks.length c)) (hn : n ≤ ks.length) : RTs Q w (ks.take n) (.slice a n c) := by
  rcases h with ⟨a', c', he, rfl⟩ | ⟨b, o, c', hq, he, h2, h3, h4⟩
  · obtain rfl : n = 0 := by simpa using hn
    exact .inl ⟨a, c, rfl, rfl⟩
  · cases he
    have hl : (ks.take n).length = n := by rw [List.length_take]; omega
    refine .inr ⟨b, o, c, hq, by rw [hl], by rw [hl]; omega, h3, fun j t hj => h4 j t ?_⟩
    rw [List.getElem?_take] at hj
    split at hj
    · exact hj
    · cases hj
/-- Is a value, but for its kids, as it should be? -/
def oneJ : Jsn.J → Bool
  | .mk k t ks cs => if k = 5 then (decide (ks = []) && decide (t = [])) else if k = 6 then (Jsn.keysOK ks && (decide (ks.length = cs.length) && decide (t = []))) else (decide (ks = [] ∧ cs = []) && Jsn.textOf k t)
theorem one_mk (k : Int) (t : List UInt8) (ks : List (List UInt8)) (cs : List Jsn.J) : oneJ (.mk k t ks cs) = if k = 5 then (decide (ks = []) && decide (t = [])) else if k = 6 then (Jsn.keysOK ks && (decide (ks.length = cs.length) && decide (t = []))) else (decide (ks = [] ∧ cs = []) && Jsn.textOf k t) := rfl
theorem len_nil {α : Type} (l : List α) : (((l.length : Nat) : Int) == 0) = decide (l = []) := by
  cases l with
  | nil => rfl
  | cons c r => simp; omega
set_option maxHeartbeats 8000000 in
set_option maxRecDepth 100000 in
theorem ROne_any (t : Jsn.J) (v : Value) (w : World) (hv : RV (fun _ => True) w t v) (hsz : Jsn.sizeJ t ≤ 1000000000) :
    Calls Tryz.prog 61 #[v] w fun e w' => e = .returned (.bool (oneJ t)) ∧ Below w.heap.size w w' := by
  obtain ⟨k, tx, ks, cs⟩ := t
  obtain ⟨kv, cv, rfl, hks, hcs⟩ := RV_mk.1 hv
  obtain ⟨a1, c1, rfl⟩ := hks.form
  obtain ⟨a2, c2, rfl⟩ := hcs.form
  rw [Jsn.sizeJ_mk] at hsz
  have hB1 : Below w.heap.size w (w.alloc (.cells #[.int .i64 k, .string (str tx), .slice a1 ks.length c1, .slice a2 cs.length c2] 27)) := (Below.refl _ w).alloc (Nat.le_refl _) _
  have hV1 : VAt (w.alloc (.cells #[.int .i64 k, .string (str tx), .slice a1 ks.length c1, .slice a2 cs.length c2] 27)) w.heap.size (.int .i64 k) (.string (str tx)) (.slice a1 ks.length c1) (.slice a2 cs.length c2) := val_new w _
  have hk1 : ks.length ≤ 1000000000 := by omega
  have hc1 : cs.length ≤ 1000000000 := by omega
  have ht1 : tx.length ≤ 1000000000 := by omega
  have HK := hideN hks
  have HL : Hid (∀ x ∈ ks, x.length ≤ 1000000000) := fun x hx => by
    have := Jsn.lenK_mem hx
    omega
  clear hv hks hcs hsz
  obtain ⟨X, HX⟩ : ∃ X, Hid (X = oneJ (.mk k tx ks cs)) := ⟨_, rfl⟩
  rw [← HX.out]
  have HX1 : Hid (X = _) := HX.out.trans (one_mk k tx ks cs)
  clear HX
  go_enter Tryz.func61, Tryz.ntmps61
  go_upto_region 1 with fail
  generalize w.alloc (.cells #[.int .i64 k, .string (str tx), .slice a1 ks.length c1, .slice a2 cs.length c2] 27) = w1 at *
  have q0 : w1.cell? ⟨w.heap.size, 0, none⟩ = some (.int .i64 k) := hV1.cell 0
  have q1 : w1.cell? ⟨w.heap.size, 1, none⟩ = some (.string (str tx)) := hV1.cell 1
  have q2 : w1.cell? ⟨w.heap.size, 2, none⟩ = some (.slice a1 ks.length c1) := hV1.cell 2
  have q3 : w1.cell? ⟨w.heap.size, 3, none⟩ = some (.slice a2 cs.length c2) := hV1.cell 3
  go_cut [3] from 5 to 14 (fun y w' => y = Value.bool (decide (ks = [] ∧ cs = [])) ∧ w1 = w')
  case first =>
    have e1 := len_nil ks
    have e2 := len_nil cs
    by_cases h1 : ks = []
    · rw [decide_eq_true h1] at e1
      by_cases h2 : cs = []
      · rw [decide_eq_true h2] at e2
        go_wp2_with fail
        go_meet
        exact ⟨by simp [h1, h2], rfl⟩
      · rw [decide_eq_false h2] at e2
        go_wp2_with fail
        go_meet
        exact ⟨by simp [h1, h2], rfl⟩
    · rw [decide_eq_false h1] at e1
      go_wp2_with fail
      go_meet
      exact ⟨by simp [h1], rfl⟩
  case rest =>
    obtain ⟨rfl, rfl⟩ := hcut
    generalize hbare : decide (ks = [] ∧ cs = []) = bare at *
    have hI := hideN (RIsText_any tx w1 ht1)
    have hN := hideN (RNumber_any tx w1 ht1)
    have f0 := emp_dec tx
    have f1 := con_dec tx [116, 114, 117, 101]
    have f2 := con_dec tx [102, 97, 108, 115, 101]
    by_cases k1 : k = 1
    · subst k1
      have HF : Hid (X = (bare && decide (tx = []))) := by show X = _; rw [HX1.out, if_neg (by decide), if_neg (by decide)]; unfold Jsn.textOf; rw [if_pos rfl]; cases tx <;> rfl
      clear HX1 hbare
      generalize decide (tx = []) = z at *
      cases bare
      · go_wp2_with fail
        go_ret
        rw [HF.out]
        exact ⟨rfl, hB1⟩
      · go_wp2_with fail
        go_ret
        rw [HF.out]
        exact ⟨by simp, hB1⟩
    by_cases k2 : k = 2
    · subst k2
      have HF : Hid (X = (bare && (decide (tx = [116, 114, 117, 101]) || decide (tx = [102, 97, 108, 115, 101])))) := by show X = _; rw [HX1.out, if_neg (by decide), if_neg (by decide)]; unfold Jsn.textOf; rw [if_neg (by decide), if_pos rfl, Bool.decide_or]; rfl
      clear HX1 hbare k1
      generalize decide (tx = [116, 114, 117, 101]) = z1 at *
      generalize decide (tx = [102, 97, 108, 115, 101]) = z2 at *
      cases bare
      · go_wp2_with fail
        go_ret
        rw [HF.out]
        exact ⟨rfl, hB1⟩
      · cases z1
        · go_wp2_with fail
          go_ret
          rw [HF.out]
          exact ⟨by simp, hB1⟩
        · go_wp2_with fail
          go_ret
          rw [HF.out]
          exact ⟨by simp, hB1⟩
    by_cases k3 : k = 3
    · subst k3
      have HF : Hid (X = (bare && Jsn.isNum tx)) := by show X = _; rw [HX1.out, if_neg (by decide), if_neg (by decide)]; unfold Jsn.textOf; rw [if_neg (by decide), if_neg (by decide), if_pos rfl]
      clear HX1 hbare k1 k2 f0 f1 f2
      cases bare
      · go_wp2_with fail
        go_ret
        rw [HF.out]
        exact ⟨rfl, hB1⟩
      · generalize Jsn.isNum tx = z at *
        go_wp2_with (go_at_call 56; refine hN.out.mono ?_; rintro e w2 ⟨rfl, he⟩; replace he := he.symm; subst he)
        go_ret
        rw [HF.out]
        exact ⟨by simp, hB1⟩
    by_cases k4 : k = 4
    · subst k4
      have HF : Hid (X = (bare && Utf.isText tx)) := by show X = _; rw [HX1.out, if_neg (by decide), if_neg (by decide)]; unfold Jsn.textOf; rw [if_neg (by decide), if_neg (by decide), if_neg (by decide), if_pos rfl]
      clear HX1 hbare k1 k2 k3 f0 f1 f2
      cases bare
      · go_wp2_with fail
        go_ret
        rw [HF.out]
        exact ⟨rfl, hB1⟩
      · generalize Utf.isText tx = z at *
        go_wp2_with (go_at_call 36; refine hI.out.mono ?_; rintro e w2 ⟨rfl, m, he⟩; have hB2 := bel hB1 (below_drewN m (Below.refl w1.heap.size w1)); have hB3 := hB2; rw [← he] at hB3)
        go_ret
        rw [HF.out]
        exact ⟨by simp, by first | exact hB2 | exact hB3⟩
    by_cases k5 : k = 5
    · subst k5
      have HF : Hid (X = (decide (ks = []) && decide (tx = []))) := by show X = _; rw [HX1.out, if_pos rfl]
      have e1 := len_nil ks
      clear HX1 hbare k1 k2 k3 k4 f1 f2
      generalize decide (ks = []) = z1 at *
      generalize decide (tx = []) = z2 at *
      cases z1
      · go_wp2_with fail
        go_ret
        rw [HF.out]
        exact ⟨rfl, hB1⟩
      · go_wp2_with fail
        go_ret
        rw [HF.out]
        exact ⟨by simp, hB1⟩
    by_cases k6 : k = 6
    · subst k6
      have HX2 : Hid (X = (Jsn.keysOK ks && (decide (ks.length = cs.length) && decide (tx = [])))) := by show X = _; rw [HX1.out, if_neg (by decide), if_pos rfl]
      clear HX1 hbare k1 k2 k3 k4 k5 f1 f2 hI hN
      go_wp2_with fail
      go_loopw [4] (fun i wr => ∃ n : Nat, n ≤ ks.length ∧ i = .int .i64 n ∧ Hid ((∀ y ∈ ks.take n, Utf.isText y = true) ∧ (ks.take n).Nodup) ∧ VAt wr w.heap.size (.int .i64 6) (.string (str tx)) (.slice a1 ks.length c1) (.slice a2 cs.length c2) ∧ Below w.heap.size w wr) (fun i _ => ks.length - (intOf i).toNat)
      case atStart => exact ⟨0, Nat.zero_le _, rfl, ⟨by simp, by simp⟩, hV1, hB1⟩
      case round =>
        obtain ⟨n, hn, rfl, HU, hV, hB⟩ := hrel
        clear hV1 hB1 q0 q1 q2 q3
        have q0 : wr.cell? ⟨w.heap.size, 0, none⟩ = some (.int .i64 6) := hV.cell 0
        have q1 : wr.cell? ⟨w.heap.size, 1, none⟩ = some (.string (str tx)) := hV.cell 1
        have q2 : wr.cell? ⟨w.heap.size, 2, none⟩ = some (.slice a1 ks.length c1) := hV.cell 2
        have q3 : wr.cell? ⟨w.heap.size, 3, none⟩ = some (.slice a2 cs.length c2) := hV.cell 3
        by_cases hlt : n < ks.length
        · obtain ⟨kb, ko, rfl, hkc, _, hkl, hkcell⟩ := HK.out.at (List.getElem?_eq_getElem hlt)
          have p := (hB.cell (p := ⟨kb, ko + n, none⟩) hkl).trans hkcell
          have hyl := HL.out _ (List.getElem_mem hlt)
          have hR := hideN (fun m => (RTs_take HK.out hn).keep (w' := wr.drewN m) (bel hB (below_drewN m (Below.refl wr.heap.size wr))).size (fun k _ hl => ⟨trivial, (bel hB (below_drewN m (Below.refl wr.heap.size wr))).block k hl⟩))
          have HT := hideN (fun W => RIsText_any ks[n] W hyl)
          have HH := hideN (fun m => RHas_any (ks.take n) ks[n] _ (wr.drewN m) (hR.out m) (by rw [List.length_take]; omega))
          have hlt' : (n : Int) < (ks.length : Int) := by omega
          clear hkcell
          cases htx : Utf.isText ks[n] with
          | false =>
            have HF : Hid (X = false) := by show X = _; rw [HX2.out, keys_not ks n hlt (by rw [htx]; simp)]; rfl
            rw [htx] at HT
            generalize ks[n] = y at *
            clear HX2 HU HH hR htx
            go_wp2_with fail
            go_quiet ((go_at_call 36; exact Calls.quiet_of (HT.out _)))
            have hD := bel hB (below_drewN nq (Below.refl wr.heap.size wr))
            go_wp2
            go_ret
            rw [HF.out]
            exact ⟨rfl, hD⟩
          | true =>
            rw [htx] at HT
            by_cases hm : ks[n] ∈ ks.take n
            · have HF : Hid (X = false) := by show X = _; rw [HX2.out, keys_not ks n hlt (fun h => h.2 hm)]; rfl
              rw [decide_eq_true hm] at HH
              generalize ks[n] = y at *
              clear HX2 HU hR htx hm
              go_wp2_with fail
              go_quiet (first
                | (go_at_call 36; exact Calls.quiet_of (HT.out _))
                | (go_at_call 35; exact Calls.quiet_of_same (HH.out _)))
              have hD := bel hB (below_drewN nq (Below.refl wr.heap.size wr))
              go_wp2
              go_ret
              rw [HF.out]
              exact ⟨rfl, hD⟩
            · have HU2 : Hid ((∀ y ∈ ks.take (n + 1), Utf.isText y = true) ∧ (ks.take (n + 1)).Nodup) := by
                refine ⟨?_, (keys_split ks n hlt HU.out.2).2 hm⟩
                rw [List.take_succ_eq_append_getElem hlt]
                intro y hy
                rcases List.mem_append.1 hy with hy | hy
                · exact HU.out.1 y hy
                · simp at hy; rw [hy]; exact htx
              rw [decide_eq_false hm] at HH
              generalize ks[n] = y at *
              clear HX2 HU hR htx hm
              go_wp2_with fail
              go_quiet (first
                | (go_at_call 36; exact Calls.quiet_of (HT.out _))
                | (go_at_call 35; exact Calls.quiet_of_same (HH.out _)))
              have hD := below_drewN nq (Below.refl wr.heap.size wr)
              have hV2 := VAtb hV hD
              have hB2 := bel hB hD
              go_wp2
              exact ⟨⟨n + 1, by omega, by go_num, HU2, hV2, hB2⟩, by simp [intOf]; omega⟩
        · have hall : ks.take n = ks := List.take_of_length_le (by omega)
          have HF : Hid (X = (decide (ks.length = cs.length) && decide (tx = []))) := by
            show X = _
            have hu := HU.out
            rw [hall] at hu
            have : Jsn.keysOK ks = true := by
              unfold Jsn.keysOK
              rw [Bool.and_eq_true]
              exact ⟨List.all_eq_true.2 hu.1, decide_eq_true hu.2⟩
            rw [HX2.out, this, Bool.true_and]
          have e1 : (((ks.length : Nat) : Int) == ((cs.length : Nat) : Int)) = decide (ks.length = cs.length) := by
            by_cases h : ks.length = cs.length <;> simp [h]
            omega
          clear HX2 HU hall
          generalize decide (ks.length = cs.length) = z1 at *
          generalize decide (tx = []) = z2 at *
          cases z1
          · go_wp2_with fail
            go_ret
            rw [HF.out]
            exact ⟨rfl, hB⟩
          · go_wp2_with fail
            go_ret
            rw [HF.out]
            exact ⟨by simp, hB⟩
    · have HF : Hid (X = false) := by show X = _; rw [HX1.out, if_neg k5, if_neg k6]; unfold Jsn.textOf; rw [if_neg k1, if_neg k2, if_neg k3, if_neg k4]; simp
      have j1 : (k == 1) = false := by simpa using k1
      have j2 : (k == 2) = false := by simpa using k2
      have j3 : (k == 3) = false := by simpa using k3
      have j4 : (k == 4) = false := by simpa using k4
      have j5 : (k == 5) = false := by simpa using k5
      have j6 : (k == 6) = false := by simpa using k6
      clear HX1 hbare k1 k2 k3 k4 k5 k6 f0 f1 f2
      go_wp2_with fail
      go_ret
      rw [HF.out]
      exact ⟨rfl, hB1⟩
end Go.Proofs.YtmmpbjpeiclacaaGreatDoor
