/- Contracts of package json's readers of numbers: startsWith, digits, integer, number; isTextOf. -/
import Derived.Test.YtmmpbjpeiclacaaGreatDoorKShelf
import Derived.Test.YtmmpbjpeiclacaaGreatDoorKGround
import Derived.Test.YtmmpbjpeiclacaaGreatDoorKJson
set_option linter.unusedVariables false
set_option linter.unusedSimpArgs false
namespace Go.Proofs.YtmmpbjpeiclacaaGreatDoor
open Go.RowKit
theorem IsDigit_j (c : UInt8) (w : World) :
    Calls Tryz.prog 129 #[.int .u8 c.toNat] w fun e w' => e = .returned (.bool (Jsn.dgB c)) ∧ w' = w := IsDigit_n _ _
/-- A set of signs as a text. -/
def setIs (cs : List UInt8) (f : UInt8 → Bool) : Prop := ∀ c : UInt8, decide (0 ≤ Lib.indexByte cs c) = f c
theorem IndexByte_j (cs : List UInt8) (c : UInt8) (w : World) :
    Calls Tryz.prog 128 #[.string (str cs), .int .u8 c.toNat] w fun e w' => e = .returned (.int .i64 (Lib.indexByte cs c)) ∧ w' = w := by
  have h := Tryz.strings_IndexByte (str cs) (c.toNat : Int) w
  rw [str_data, show (c.toNat : Int).toNat.toUInt8 = c from by simp] at h
  exact h
set_option maxHeartbeats 400000 in
theorem startsWith_any (l cs : List UInt8) (f : UInt8 → Bool) (hf : setIs cs f) (w : World) (hl : l.length ≤ 1000000000) :
    Calls Tryz.prog 112 #[.string (str l), .string (str cs)] w fun e w' => e = .returned (.bool (Jsn.starts f l)) ∧ w' = w := by
  have hz := str_size l
  cases l with
  | nil =>
    have hne : ((str ([] : List UInt8)).toList.isEmpty) = true := by rw [str_list]; rfl
    go_enter Tryz.func112, Tryz.ntmps112
    go_wp2
    go_ret
    exact ⟨rfl, rfl⟩
  | cons c r =>
    have hI := IndexByte_j cs c
    have hc := hf c
    have hne : ((str (c :: r)).toList.isEmpty) = false := by rw [str_list]; rfl
    generalize Lib.indexByte cs c = n at hI hc
    go_enter Tryz.func112, Tryz.ntmps112
    go_wp2_with (first
      | (go_at_call 128; refine (hI _).mono ?_; rintro e w1 ⟨rfl, hw⟩; rw [hw]; clear hw))
    go_ret
    exact ⟨rfl, rfl⟩
def textLen : Value → Nat
  | .string s => s.size
  | _ => 0
theorem str_head (c : UInt8) (r : List UInt8) (h : 0 < (str (c :: r)).size) : (str (c :: r))[0] = c := rfl
theorem str_tail (c : UInt8) (r : List UInt8) : (str (c :: r)).extract 1 (r.length + 1) = str r := str_from (c :: r) 1
set_option maxHeartbeats 400000 in
theorem digits_any (l : List UInt8) (w : World) (hl : l.length ≤ 1000000000) :
    Calls Tryz.prog 113 #[.string (str l)] w fun e w' => e = .returned (.tuple #[.string (str (Jsn.digR l).1), .bool (Jsn.digR l).2]) ∧ w' = w := by
  have hz := str_size l
  go_enter Tryz.func113, Tryz.ntmps113
  go_wp2
  go_loop [2] (fun s => ∃ r : List UInt8, s = .string (str r) ∧ r.length ≤ l.length ∧ Hid (Jsn.digs l = Jsn.digs r)) (fun s => textLen s)
  case atStart => exact ⟨l, rfl, Nat.le_refl _, rfl⟩
  case round =>
    obtain ⟨r, rfl, hr, HE⟩ := hrel
    have hz2 := str_size r
    cases r with
    | nil =>
      have hne : ((str ([] : List UInt8)).toList.isEmpty) = true := by rw [str_list]; rfl
      have HX : Hid (Jsn.digR l = ([], decide (0 < l.length))) := by
        show _ = _
        unfold Jsn.digR
        rw [HE.out]
        rfl
      go_wp2
      go_ret2
      rw [HX.out]
      exact ⟨by simp, rfl⟩
    | cons c r =>
      have hI := IsDigit_j c
      have hne : ((str (c :: r)).toList.isEmpty) = false := by rw [str_list]; rfl
      have hx := str_tail c r
      cases hc : Jsn.dgB c
      · have HX : Hid (Jsn.digR l = (c :: r, decide (r.length + 1 < l.length))) := by
          show _ = _
          unfold Jsn.digR
          rw [HE.out, Jsn.digs, List.dropWhile_cons_of_neg (by rw [hc]; decide)]
          rfl
        go_wp2_with (first
          | (go_at_call 129; refine (hI _).mono ?_; rintro e w1 ⟨rfl, hw⟩; rw [hw]; clear hw))
        go_ret2
        rw [HX.out]
        exact ⟨by simp; omega, rfl⟩
      · have HN : Hid (Jsn.digs l = Jsn.digs r) := by
          show _ = _
          rw [HE.out, Jsn.digs, List.dropWhile_cons_of_pos hc]
          rfl
        have hr3 : r.length ≤ l.length := by simp at hr; omega
        go_wp2_with (first
          | (go_at_call 129; refine (hI _).mono ?_; rintro e w1 ⟨rfl, hw⟩; rw [hw]; clear hw))
        go_round
        case rel => exact ⟨r, by first | rfl | (rw [← hx]; rfl), hr3, HN⟩
        case measure => simp [textLen, str_size]
theorem trim_minus (l : List UInt8) : Lib.trimPrefix l [45] = Jsn.cutIf Jsn.isMin l := by
  cases l with
  | nil => rfl
  | cons c r =>
    unfold Lib.trimPrefix Lib.hasPrefix Jsn.cutIf
    by_cases h : c = 45
    · subst h
      rfl
    · have e1 : Jsn.starts Jsn.isMin (c :: r) = false := by show (c == 45) = false; simpa using h
      have e2 : List.isPrefixOf [45] (c :: r) = false := by
        have : ¬ (45 : UInt8) = c := fun e => h e.symm
        simp [List.isPrefixOf, this]
      rw [e1, e2]
      rfl
theorem TrimMinus_any (l : List UInt8) (w : World) :
    Calls Tryz.prog 111 #[.string (str l), .string ⟨#[45]⟩] w fun e w' => e = .returned (.string (str (Jsn.cutIf Jsn.isMin l))) ∧ w' = w := by
  have h := Tryz.strings_TrimPrefix (str l) ⟨#[45]⟩ w
  rw [str_data, trim_minus] at h
  exact h
theorem set_dot : setIs [46] Jsn.isDot := fun c => by revert c; apply Jsn.byte_all; decide +kernel
theorem set_exp : setIs [101, 69] Jsn.isExp := fun c => by revert c; apply Jsn.byte_all; decide +kernel
theorem set_sgn : setIs [43, 45] Jsn.isSgn := fun c => by revert c; apply Jsn.byte_all; decide +kernel
theorem set_nul : setIs [48] Jsn.isNul := fun c => by revert c; apply Jsn.byte_all; decide +kernel
set_option maxHeartbeats 400000 in
theorem integer_any (l : List UInt8) (w : World) (hl : l.length ≤ 1000000000) :
    Calls Tryz.prog 110 #[.string (str l)] w fun e w' => e = .returned (.tuple #[.string (str (Jsn.intR l).1), .bool (Jsn.intR l).2]) ∧ w' = w := by
  have hS : ∀ w, Calls Tryz.prog 112 #[.string (str l), .string ⟨#[48]⟩] w fun e w' => e = .returned (.bool (Jsn.starts Jsn.isNul l)) ∧ w' = w := fun w => startsWith_any l [48] Jsn.isNul set_nul w hl
  have hD := fun w => digits_any l w hl
  have hz := str_size l
  cases hs : Jsn.starts Jsn.isNul l
  · have HX : Hid (Jsn.intR l = Jsn.digR l) := by
      show _ = _
      unfold Jsn.intR
      rw [hs]
      rfl
    go_enter Tryz.func110, Tryz.ntmps110
    go_wp2_with (first
      | (go_at_call 112; refine (hS _).mono ?_; rintro e w1 ⟨rfl, hw⟩; rw [hw]; clear hw)
      | (go_at_call 113; refine (hD _).mono ?_; rintro e w1 ⟨rfl, hw⟩; rw [hw]; clear hw))
    go_ret2
    rw [HX.out]
    exact ⟨rfl, rfl⟩
  · cases l with
    | nil => cases hs
    | cons c r =>
      have HX : Hid (Jsn.intR (c :: r) = (r, true)) := by
        show _ = _
        unfold Jsn.intR
        rw [hs]
        rfl
      have hx := str_tail c r
      go_enter Tryz.func110, Tryz.ntmps110
      go_wp2_with (first
        | (go_at_call 112; refine (hS _).mono ?_; rintro e w1 ⟨rfl, hw⟩; rw [hw]; clear hw))
      go_ret2
      rw [HX.out]
      exact ⟨rfl, rfl⟩
theorem starts_cons {f : UInt8 → Bool} {l : List UInt8} (h : Jsn.starts f l = true) : ∃ c r, l = c :: r := by
  cases l with
  | nil => cases h
  | cons c r => exact ⟨c, r, rfl⟩
theorem digR_le (l : List UInt8) : (Jsn.digR l).1.length ≤ l.length := Jsn.digs_le l
theorem intR_le (l : List UInt8) : (Jsn.intR l).1.length ≤ l.length := by
  unfold Jsn.intR
  split
  · simp
  · exact digR_le l
theorem cutIf_le (f : UInt8 → Bool) (l : List UInt8) : (Jsn.cutIf f l).length ≤ l.length := by
  unfold Jsn.cutIf
  split
  · simp
  · exact Nat.le_refl _
set_option maxHeartbeats 2000000 in
theorem number_any (l : List UInt8) (w : World) (hl : l.length ≤ 1000000000) :
    Calls Tryz.prog 91 #[.string (str l)] w fun e w' => e = .returned (.tuple #[.int .i64 ((l.length : Int) - ((Jsn.numR l).1.length : Int)), .bool (Jsn.numR l).2]) ∧ w' = w := by
  have hT := TrimMinus_any l
  have hN : Jsn.numR l = Jsn.expR (Jsn.fracR (Jsn.intR (Jsn.cutIf Jsn.isMin l))) := rfl
  have h1 := cutIf_le Jsn.isMin l
  have h2 := intR_le (Jsn.cutIf Jsn.isMin l)
  have hI := fun w => integer_any (Jsn.cutIf Jsn.isMin l) w (by omega)
  have hz := str_size l
  generalize Jsn.cutIf Jsn.isMin l = l1 at *
  generalize Jsn.intR l1 = p at hI hN h2
  obtain ⟨q, b⟩ := p
  dsimp only at hI h2
  have hzq := str_size q
  have hSd : ∀ w, Calls Tryz.prog 112 #[.string (str q), .string ⟨#[46]⟩] w fun e w' => e = .returned (.bool (Jsn.starts Jsn.isDot q)) ∧ w' = w := fun w => startsWith_any q [46] Jsn.isDot set_dot w (by omega)
  cases b with
  | false =>
    have HX : Hid (Jsn.numR l = (q, false)) := hN
    clear hN
    go_enter Tryz.func91, Tryz.ntmps91
    go_wp2_with (first
      | (go_at_call 111; refine (hT _).mono ?_; rintro e w1 ⟨rfl, hw⟩; rw [hw]; clear hw)
      | (go_at_call 110; refine (hI _).mono ?_; rintro e w1 ⟨rfl, hw⟩; rw [hw]; clear hw))
    go_ret2
    rw [HX.out]
    exact ⟨by go_num, rfl⟩
  | true =>
    cases hd : Jsn.starts Jsn.isDot q with
    | false =>
      have hf : Jsn.fracR (q, true) = (q, true) := by unfold Jsn.fracR; rw [hd]; rfl
      rw [hf] at hN
      clear hf
      have hSe : ∀ w, Calls Tryz.prog 112 #[.string (str q), .string ⟨#[101, 69]⟩] w fun e w' => e = .returned (.bool (Jsn.starts Jsn.isExp q)) ∧ w' = w := fun w => startsWith_any q [101, 69] Jsn.isExp set_exp w (by omega)
      cases he : Jsn.starts Jsn.isExp q with
      | false =>
        have HX : Hid (Jsn.numR l = (q, true)) := by show _ = _; rw [hN]; unfold Jsn.expR; rw [he]; rfl
        clear hN
        go_enter Tryz.func91, Tryz.ntmps91
        go_wp2_with (first
          | (go_at_call 111; refine (hT _).mono ?_; rintro e w1 ⟨rfl, hw⟩; rw [hw]; clear hw)
          | (go_at_call 110; refine (hI _).mono ?_; rintro e w1 ⟨rfl, hw⟩; rw [hw]; clear hw)
          | (go_at_call_of 112 (Value.string ⟨#[46]⟩); refine (hSd _).mono ?_; rintro e w1 ⟨rfl, hw⟩; rw [hw]; clear hw)
          | (go_at_call_of 112 (Value.string ⟨#[101, 69]⟩); refine (hSe _).mono ?_; rintro e w1 ⟨rfl, hw⟩; rw [hw]; clear hw))
        go_ret2
        rw [HX.out]
        exact ⟨by go_num, rfl⟩
      | true =>
        obtain ⟨c2, r2, e2⟩ := starts_cons he
        subst e2
        have hx2 := str_tail c2 r2
        have hz2 := str_size r2
        simp only [List.length_cons] at *
        have hSs : ∀ w, Calls Tryz.prog 112 #[.string (str r2), .string ⟨#[43, 45]⟩] w fun e w' => e = .returned (.bool (Jsn.starts Jsn.isSgn r2)) ∧ w' = w := fun w => startsWith_any r2 [43, 45] Jsn.isSgn set_sgn w (by omega)
        cases hg : Jsn.starts Jsn.isSgn r2 with
        | false =>
          have hDe := fun w => digits_any r2 w (by omega)
          have h5 := digR_le r2
          have hzd := str_size (Jsn.digR r2).1
          have HX : Hid (Jsn.numR l = Jsn.digR r2) := by show _ = _; rw [hN]; unfold Jsn.expR Jsn.cutIf; rw [if_pos ⟨rfl, he⟩, if_neg (by show ¬ Jsn.starts Jsn.isSgn r2 = true; rw [hg]; decide)]; rfl
          clear hN
          go_enter Tryz.func91, Tryz.ntmps91
          go_wp2_with (first
            | (go_at_call 111; refine (hT _).mono ?_; rintro e w1 ⟨rfl, hw⟩; rw [hw]; clear hw)
            | (go_at_call 110; refine (hI _).mono ?_; rintro e w1 ⟨rfl, hw⟩; rw [hw]; clear hw)
            | (go_at_call_of 112 (Value.string ⟨#[46]⟩); refine (hSd _).mono ?_; rintro e w1 ⟨rfl, hw⟩; rw [hw]; clear hw)
            | (go_at_call_of 112 (Value.string ⟨#[101, 69]⟩); refine (hSe _).mono ?_; rintro e w1 ⟨rfl, hw⟩; rw [hw]; clear hw)
            | (go_at_call_of 112 (Value.string ⟨#[43, 45]⟩); refine (hSs _).mono ?_; rintro e w1 ⟨rfl, hw⟩; rw [hw]; clear hw)
            | (go_at_call 113; refine (hDe _).mono ?_; rintro e w1 ⟨rfl, hw⟩; rw [hw]; clear hw))
          go_ret2
          rw [HX.out]
          exact ⟨by go_num, rfl⟩
        | true =>
          obtain ⟨c3, r3, e3⟩ := starts_cons hg
          subst e3
          have hx3 := str_tail c3 r3
          have hz3 := str_size r3
          simp only [List.length_cons] at *
          have hDe := fun w => digits_any r3 w (by omega)
          have h5 := digR_le r3
          have hzd := str_size (Jsn.digR r3).1
          have HX : Hid (Jsn.numR l = Jsn.digR r3) := by show _ = _; rw [hN]; unfold Jsn.expR Jsn.cutIf; rw [if_pos ⟨rfl, he⟩, if_pos (by show Jsn.starts Jsn.isSgn (c3 :: r3) = true; exact hg)]; rfl
          clear hN
          go_enter Tryz.func91, Tryz.ntmps91
          go_wp2_with (first
            | (go_at_call 111; refine (hT _).mono ?_; rintro e w1 ⟨rfl, hw⟩; rw [hw]; clear hw)
            | (go_at_call 110; refine (hI _).mono ?_; rintro e w1 ⟨rfl, hw⟩; rw [hw]; clear hw)
            | (go_at_call_of 112 (Value.string ⟨#[46]⟩); refine (hSd _).mono ?_; rintro e w1 ⟨rfl, hw⟩; rw [hw]; clear hw)
            | (go_at_call_of 112 (Value.string ⟨#[101, 69]⟩); refine (hSe _).mono ?_; rintro e w1 ⟨rfl, hw⟩; rw [hw]; clear hw)
            | (go_at_call_of 112 (Value.string ⟨#[43, 45]⟩); refine (hSs _).mono ?_; rintro e w1 ⟨rfl, hw⟩; rw [hw]; clear hw)
            | (go_at_call 113; refine (hDe _).mono ?_; rintro e w1 ⟨rfl, hw⟩; rw [hw]; clear hw))
          go_ret2
          rw [HX.out]
          exact ⟨by go_num, rfl⟩
    | true =>
      obtain ⟨c, r, e⟩ := starts_cons hd
      subst e
      have hx := str_tail c r
      have hzr := str_size r
      simp only [List.length_cons] at *
      have hf : Jsn.fracR (c :: r, true) = Jsn.digR r := by unfold Jsn.fracR; rw [hd]; rfl
      rw [hf] at hN
      clear hf
      have hDd := fun w => digits_any r w (by omega)
      have h4 := digR_le r
      generalize Jsn.digR r = p1 at hN hDd h4
      obtain ⟨q1, b1⟩ := p1
      dsimp only at hDd h4
      have hzq1 := str_size q1
      cases b1 with
      | false =>
        have HX : Hid (Jsn.numR l = (q1, false)) := by show _ = _; rw [hN]; rfl
        clear hN
        go_enter Tryz.func91, Tryz.ntmps91
        go_wp2_with (first
          | (go_at_call 111; refine (hT _).mono ?_; rintro e w1 ⟨rfl, hw⟩; rw [hw]; clear hw)
          | (go_at_call 110; refine (hI _).mono ?_; rintro e w1 ⟨rfl, hw⟩; rw [hw]; clear hw)
          | (go_at_call 112; refine (hSd _).mono ?_; rintro e w1 ⟨rfl, hw⟩; rw [hw]; clear hw)
          | (go_at_call 113; refine (hDd _).mono ?_; rintro e w1 ⟨rfl, hw⟩; rw [hw]; clear hw))
        go_ret2
        rw [HX.out]
        exact ⟨by go_num, rfl⟩
      | true =>
        have hSe : ∀ w, Calls Tryz.prog 112 #[.string (str q1), .string ⟨#[101, 69]⟩] w fun e w' => e = .returned (.bool (Jsn.starts Jsn.isExp q1)) ∧ w' = w := fun w => startsWith_any q1 [101, 69] Jsn.isExp set_exp w (by omega)
        cases he : Jsn.starts Jsn.isExp q1 with
        | false =>
          have HX : Hid (Jsn.numR l = (q1, true)) := by show _ = _; rw [hN]; unfold Jsn.expR; rw [he]; rfl
          clear hN
          go_enter Tryz.func91, Tryz.ntmps91
          go_wp2_with (first
            | (go_at_call 111; refine (hT _).mono ?_; rintro e w1 ⟨rfl, hw⟩; rw [hw]; clear hw)
            | (go_at_call 110; refine (hI _).mono ?_; rintro e w1 ⟨rfl, hw⟩; rw [hw]; clear hw)
            | (go_at_call_of 112 (Value.string ⟨#[46]⟩); refine (hSd _).mono ?_; rintro e w1 ⟨rfl, hw⟩; rw [hw]; clear hw)
            | (go_at_call 113; refine (hDd _).mono ?_; rintro e w1 ⟨rfl, hw⟩; rw [hw]; clear hw hDd)
            | (go_at_call_of 112 (Value.string ⟨#[101, 69]⟩); refine (hSe _).mono ?_; rintro e w1 ⟨rfl, hw⟩; rw [hw]; clear hw))
          go_ret2
          rw [HX.out]
          exact ⟨by go_num, rfl⟩
        | true =>
          obtain ⟨c2, r2, e2⟩ := starts_cons he
          subst e2
          have hx2 := str_tail c2 r2
          have hz2 := str_size r2
          simp only [List.length_cons] at *
          have hSs : ∀ w, Calls Tryz.prog 112 #[.string (str r2), .string ⟨#[43, 45]⟩] w fun e w' => e = .returned (.bool (Jsn.starts Jsn.isSgn r2)) ∧ w' = w := fun w => startsWith_any r2 [43, 45] Jsn.isSgn set_sgn w (by omega)
          cases hg : Jsn.starts Jsn.isSgn r2 with
          | false =>
            have hDe := fun w => digits_any r2 w (by omega)
            have h5 := digR_le r2
            have hzd := str_size (Jsn.digR r2).1
            have HX : Hid (Jsn.numR l = Jsn.digR r2) := by show _ = _; rw [hN]; unfold Jsn.expR Jsn.cutIf; rw [if_pos ⟨rfl, he⟩, if_neg (by show ¬ Jsn.starts Jsn.isSgn r2 = true; rw [hg]; decide)]; rfl
            clear hN
            go_enter Tryz.func91, Tryz.ntmps91
            go_wp2_with (first
              | (go_at_call 111; refine (hT _).mono ?_; rintro e w1 ⟨rfl, hw⟩; rw [hw]; clear hw)
              | (go_at_call 110; refine (hI _).mono ?_; rintro e w1 ⟨rfl, hw⟩; rw [hw]; clear hw)
              | (go_at_call_of 112 (Value.string ⟨#[46]⟩); refine (hSd _).mono ?_; rintro e w1 ⟨rfl, hw⟩; rw [hw]; clear hw)
              | (go_at_call 113; refine (hDd _).mono ?_; rintro e w1 ⟨rfl, hw⟩; rw [hw]; clear hw hDd)
              | (go_at_call_of 112 (Value.string ⟨#[101, 69]⟩); refine (hSe _).mono ?_; rintro e w1 ⟨rfl, hw⟩; rw [hw]; clear hw)
              | (go_at_call_of 112 (Value.string ⟨#[43, 45]⟩); refine (hSs _).mono ?_; rintro e w1 ⟨rfl, hw⟩; rw [hw]; clear hw)
              | (go_at_call 113; refine (hDe _).mono ?_; rintro e w1 ⟨rfl, hw⟩; rw [hw]; clear hw))
            go_ret2
            rw [HX.out]
            exact ⟨by go_num, rfl⟩
          | true =>
            obtain ⟨c3, r3, e3⟩ := starts_cons hg
            subst e3
            have hx3 := str_tail c3 r3
            have hz3 := str_size r3
            simp only [List.length_cons] at *
            have hDe := fun w => digits_any r3 w (by omega)
            have h5 := digR_le r3
            have hzd := str_size (Jsn.digR r3).1
            have HX : Hid (Jsn.numR l = Jsn.digR r3) := by show _ = _; rw [hN]; unfold Jsn.expR Jsn.cutIf; rw [if_pos ⟨rfl, he⟩, if_pos (by show Jsn.starts Jsn.isSgn (c3 :: r3) = true; exact hg)]; rfl
            clear hN
            go_enter Tryz.func91, Tryz.ntmps91
            go_wp2_with (first
              | (go_at_call 111; refine (hT _).mono ?_; rintro e w1 ⟨rfl, hw⟩; rw [hw]; clear hw)
              | (go_at_call 110; refine (hI _).mono ?_; rintro e w1 ⟨rfl, hw⟩; rw [hw]; clear hw)
              | (go_at_call_of 112 (Value.string ⟨#[46]⟩); refine (hSd _).mono ?_; rintro e w1 ⟨rfl, hw⟩; rw [hw]; clear hw)
              | (go_at_call 113; refine (hDd _).mono ?_; rintro e w1 ⟨rfl, hw⟩; rw [hw]; clear hw hDd)
              | (go_at_call_of 112 (Value.string ⟨#[101, 69]⟩); refine (hSe _).mono ?_; rintro e w1 ⟨rfl, hw⟩; rw [hw]; clear hw)
              | (go_at_call_of 112 (Value.string ⟨#[43, 45]⟩); refine (hSs _).mono ?_; rintro e w1 ⟨rfl, hw⟩; rw [hw]; clear hw)
              | (go_at_call 113; refine (hDe _).mono ?_; rintro e w1 ⟨rfl, hw⟩; rw [hw]; clear hw))
            go_ret2
            rw [HX.out]
            exact ⟨by go_num, rfl⟩
end Go.Proofs.YtmmpbjpeiclacaaGreatDoor
