/- Texts laid as one. -/
import Derived.Test.YtpnmiknikkhliaaDoorKShelf
import Derived.Test.YtpnmiknikkhliaaDoorKGround
import Derived.Test.YtpnmiknikkhliaaDoorKJson
import Derived.Shelf.Strings.SlTrimAscii
import Derived.Lib.Builder
import Derived.Lib.SmallJoins
import Derived.WalkLawsBesides
import Derived.Deep.RegionHeldLaw
import Derived.Deep.RegionWith
import Derived.WalkMore
import Derived.Laws.BitsLemmas
/- Contracts of package json's readers of numbers: startsWith, digits, integer, number; isTextOf. -/
set_option linter.unusedVariables false
set_option linter.unusedSimpArgs false
namespace Go.Proofs.YtpnmiknikkhliaaDoor
open Go.RowKit
theorem IsDigit_j (c : UInt8) (w : World) :
    Calls Tryd.prog 79 #[.int .u8 c.toNat] w fun e w' => e = .returned (.bool (Jsn.dgB c)) ∧ w' = w := IsDigit_n _ _
/-- A set of signs as a text. -/
def setIs (cs : List UInt8) (f : UInt8 → Bool) : Prop := ∀ c : UInt8, decide (0 ≤ Lib.indexByte cs c) = f c
theorem IndexByte_j (cs : List UInt8) (c : UInt8) (w : World) :
    Calls Tryd.prog 78 #[.string (str cs), .int .u8 c.toNat] w fun e w' => e = .returned (.int .i64 (Lib.indexByte cs c)) ∧ w' = w := by
  have h := Tryd.strings_IndexByte (str cs) (c.toNat : Int) w
  rw [str_data, show (c.toNat : Int).toNat.toUInt8 = c from by simp] at h
  exact h
set_option maxHeartbeats 400000 in
theorem startsWith_any (l cs : List UInt8) (f : UInt8 → Bool) (hf : setIs cs f) (w : World) (hl : l.length ≤ 1000000000) :
    Calls Tryd.prog 63 #[.string (str l), .string (str cs)] w fun e w' => e = .returned (.bool (Jsn.starts f l)) ∧ w' = w := by
  have hz := str_size l
  cases l with
  | nil =>
    have hne : ((str ([] : List UInt8)).toList.isEmpty) = true := by rw [str_list]; rfl
    go_enter Tryd.func63, Tryd.ntmps63
    go_wp2
    go_ret
    exact ⟨rfl, rfl⟩
  | cons c r =>
    have hI := IndexByte_j cs c
    have hc := hf c
    have hne : ((str (c :: r)).toList.isEmpty) = false := by rw [str_list]; rfl
    generalize Lib.indexByte cs c = n at hI hc
    go_enter Tryd.func63, Tryd.ntmps63
    go_wp2_with (first
      | (go_at_call 78; refine (hI _).mono ?_; rintro e w1 ⟨rfl, hw⟩; rw [hw]; clear hw))
    go_ret
    exact ⟨rfl, rfl⟩
def textLen : Value → Nat
  | .string s => s.size
  | _ => 0
theorem str_head (c : UInt8) (r : List UInt8) (h : 0 < (str (c :: r)).size) : (str (c :: r))[0] = c := rfl
theorem str_tail (c : UInt8) (r : List UInt8) : (str (c :: r)).extract 1 (r.length + 1) = str r := str_from (c :: r) 1
set_option maxHeartbeats 400000 in
theorem digits_any (l : List UInt8) (w : World) (hl : l.length ≤ 1000000000) :
    Calls Tryd.prog 64 #[.string (str l)] w fun e w' => e = .returned (.tuple #[.string (str (Jsn.digR l).1), .bool (Jsn.digR l).2]) ∧ w' = w := by
  have hz := str_size l
  go_enter Tryd.func64, Tryd.ntmps64
  go_wp2
  go_loop [2] (fun s => ∃ r : List UInt8, s = .string (str r) ∧ r.length ≤ l.length ∧ Hid (Jsn.digs l = Jsn.digs r)) (fun s => textLen s)
  case atStart => exact ⟨l, rfl, Nat.le_refl _, rfl⟩
  case round =>
    obtain ⟨r, rfl, hr, HE⟩ := hrel
    have hz2 := str_size r
    cases r with
    | nil =>
      have hne : ((str ([] : List UInt8)).toList.isEmpty) = true := by rw [str_list]; rfl
      have HX : Hid (Jsn.digR l = ([], decide (0 < l.length))) := by
        show _ = _
        unfold Jsn.digR
        rw [HE.out]
        rfl
      go_wp2
      go_ret2
      rw [HX.out]
      exact ⟨by simp, rfl⟩
    | cons c r =>
      have hI := IsDigit_j c
      have hne : ((str (c :: r)).toList.isEmpty) = false := by rw [str_list]; rfl
      have hx := str_tail c r
      cases hc : Jsn.dgB c
      · have HX : Hid (Jsn.digR l = (c :: r, decide (r.length + 1 < l.length))) := by
          show _ = _
          unfold Jsn.digR
          rw [HE.out, Jsn.digs, List.dropWhile_cons_of_neg (by rw [hc]; decide)]
          rfl
        go_wp2_with (first
          | (go_at_call 79; refine (hI _).mono ?_; rintro e w1 ⟨rfl, hw⟩; rw [hw]; clear hw))
        go_ret2
        rw [HX.out]
        exact ⟨by simp; omega, rfl⟩
      · have HN : Hid (Jsn.digs l = Jsn.digs r) := by
          show _ = _
          rw [HE.out, Jsn.digs, List.dropWhile_cons_of_pos hc]
          rfl
        have hr3 : r.length ≤ l.length := by simp at hr; omega
        go_wp2_with (first
          | (go_at_call 79; refine (hI _).mono ?_; rintro e w1 ⟨rfl, hw⟩; rw [hw]; clear hw))
        go_round
        case rel => exact ⟨r, by first | rfl | (rw [← hx]; rfl), hr3, HN⟩
        case measure => simp [textLen, str_size]
theorem trim_minus (l : List UInt8) : Lib.trimPrefix l [45] = Jsn.cutIf Jsn.isMin l := by
  cases l with
  | nil => rfl
  | cons c r =>
    unfold Lib.trimPrefix Lib.hasPrefix Jsn.cutIf
    by_cases h : c = 45
    · subst h
      rfl
    · have e1 : Jsn.starts Jsn.isMin (c :: r) = false := by show (c == 45) = false; simpa using h
      have e2 : List.isPrefixOf [45] (c :: r) = false := by
        have : ¬ (45 : UInt8) = c := fun e => h e.symm
        simp [List.isPrefixOf, this]
      rw [e1, e2]
      rfl
theorem TrimMinus_any (l : List UInt8) (w : World) :
    Calls Tryd.prog 62 #[.string (str l), .string ⟨#[45]⟩] w fun e w' => e = .returned (.string (str (Jsn.cutIf Jsn.isMin l))) ∧ w' = w := by
  have h := Tryd.strings_TrimPrefix (str l) ⟨#[45]⟩ w
  rw [str_data, trim_minus] at h
  exact h
theorem set_dot : setIs [46] Jsn.isDot := fun c => by revert c; apply Jsn.byte_all; decide +kernel
theorem set_exp : setIs [101, 69] Jsn.isExp := fun c => by revert c; apply Jsn.byte_all; decide +kernel
theorem set_sgn : setIs [43, 45] Jsn.isSgn := fun c => by revert c; apply Jsn.byte_all; decide +kernel
theorem set_nul : setIs [48] Jsn.isNul := fun c => by revert c; apply Jsn.byte_all; decide +kernel
set_option maxHeartbeats 400000 in
theorem integer_any (l : List UInt8) (w : World) (hl : l.length ≤ 1000000000) :
    Calls Tryd.prog 61 #[.string (str l)] w fun e w' => e = .returned (.tuple #[.string (str (Jsn.intR l).1), .bool (Jsn.intR l).2]) ∧ w' = w := by
  have hS : ∀ w, Calls Tryd.prog 63 #[.string (str l), .string ⟨#[48]⟩] w fun e w' => e = .returned (.bool (Jsn.starts Jsn.isNul l)) ∧ w' = w := fun w => startsWith_any l [48] Jsn.isNul set_nul w hl
  have hD := fun w => digits_any l w hl
  have hz := str_size l
  cases hs : Jsn.starts Jsn.isNul l
  · have HX : Hid (Jsn.intR l = Jsn.digR l) := by
      show _ = _
      unfold Jsn.intR
      rw [hs]
      rfl
    go_enter Tryd.func61, Tryd.ntmps61
    go_wp2_with (first
      | (go_at_call 63; refine (hS _).mono ?_; rintro e w1 ⟨rfl, hw⟩; rw [hw]; clear hw)
      | (go_at_call 64; refine (hD _).mono ?_; rintro e w1 ⟨rfl, hw⟩; rw [hw]; clear hw))
    go_ret2
    rw [HX.out]
    exact ⟨rfl, rfl⟩
  · cases l with
    | nil => cases hs
    | cons c r =>
      have HX : Hid (Jsn.intR (c :: r) = (r, true)) := by
        show _ = _
        unfold Jsn.intR
        rw [hs]
        rfl
      have hx := str_tail c r
      go_enter Tryd.func61, Tryd.ntmps61
      go_wp2_with (first
        | (go_at_call 63; refine (hS _).mono ?_; rintro e w1 ⟨rfl, hw⟩; rw [hw]; clear hw))
      go_ret2
      rw [HX.out]
      exact ⟨rfl, rfl⟩
theorem starts_cons {f : UInt8 → Bool} {l : List UInt8} (h : Jsn.starts f l = true) : ∃ c r, l = c :: r := by
  cases l with
  | nil => cases h
  | cons c r => exact ⟨c, r, rfl⟩
theorem digR_le (l : List UInt8) : (Jsn.digR l).1.length ≤ l.length := Jsn.digs_le l
theorem intR_le (l : List UInt8) : (Jsn.intR l).1.length ≤ l.length := by
  unfold Jsn.intR
  split
  · simp
  · exact digR_le l
theorem cutIf_le (f : UInt8 → Bool) (l : List UInt8) : (Jsn.cutIf f l).length ≤ l.length := by
  unfold Jsn.cutIf
  split
  · simp
  · exact Nat.le_refl _
set_option maxHeartbeats 2000000 in
theorem number_any (l : List UInt8) (w : World) (hl : l.length ≤ 1000000000) :
    Calls Tryd.prog 47 #[.string (str l)] w fun e w' => e = .returned (.tuple #[.int .i64 ((l.length : Int) - ((Jsn.numR l).1.length : Int)), .bool (Jsn.numR l).2]) ∧ w' = w := by
  have hT := TrimMinus_any l
  have hN : Jsn.numR l = Jsn.expR (Jsn.fracR (Jsn.intR (Jsn.cutIf Jsn.isMin l))) := rfl
  have h1 := cutIf_le Jsn.isMin l
  have h2 := intR_le (Jsn.cutIf Jsn.isMin l)
  have hI := fun w => integer_any (Jsn.cutIf Jsn.isMin l) w (by omega)
  have hz := str_size l
  generalize Jsn.cutIf Jsn.isMin l = l1 at *
  generalize Jsn.intR l1 = p at hI hN h2
  obtain ⟨q, b⟩ := p
  dsimp only at hI h2
  have hzq := str_size q
  have hSd : ∀ w, Calls Tryd.prog 63 #[.string (str q), .string ⟨#[46]⟩] w fun e w' => e = .returned (.bool (Jsn.starts Jsn.isDot q)) ∧ w' = w := fun w => startsWith_any q [46] Jsn.isDot set_dot w (by omega)
  cases b with
  | false =>
    have HX : Hid (Jsn.numR l = (q, false)) := hN
    clear hN
    go_enter Tryd.func47, Tryd.ntmps47
    go_wp2_with (first
      | (go_at_call 62; refine (hT _).mono ?_; rintro e w1 ⟨rfl, hw⟩; rw [hw]; clear hw)
      | (go_at_call 61; refine (hI _).mono ?_; rintro e w1 ⟨rfl, hw⟩; rw [hw]; clear hw))
    go_ret2
    rw [HX.out]
    exact ⟨by go_num, rfl⟩
  | true =>
    cases hd : Jsn.starts Jsn.isDot q with
    | false =>
      have hf : Jsn.fracR (q, true) = (q, true) := by unfold Jsn.fracR; rw [hd]; rfl
      rw [hf] at hN
      clear hf
      have hSe : ∀ w, Calls Tryd.prog 63 #[.string (str q), .string ⟨#[101, 69]⟩] w fun e w' => e = .returned (.bool (Jsn.starts Jsn.isExp q)) ∧ w' = w := fun w => startsWith_any q [101, 69] Jsn.isExp set_exp w (by omega)
      cases he : Jsn.starts Jsn.isExp q with
      | false =>
        have HX : Hid (Jsn.numR l = (q, true)) := by show _ = _; rw [hN]; unfold Jsn.expR; rw [he]; rfl
        clear hN
        go_enter Tryd.func47, Tryd.ntmps47
        go_wp2_with (first
          | (go_at_call 62; refine (hT _).mono ?_; rintro e w1 ⟨rfl, hw⟩; rw [hw]; clear hw)
          | (go_at_call 61; refine (hI _).mono ?_; rintro e w1 ⟨rfl, hw⟩; rw [hw]; clear hw)
          | (go_at_call_of 63 (Value.string ⟨#[46]⟩); refine (hSd _).mono ?_; rintro e w1 ⟨rfl, hw⟩; rw [hw]; clear hw)
          | (go_at_call_of 63 (Value.string ⟨#[101, 69]⟩); refine (hSe _).mono ?_; rintro e w1 ⟨rfl, hw⟩; rw [hw]; clear hw))
        go_ret2
        rw [HX.out]
        exact ⟨by go_num, rfl⟩
      | true =>
        obtain ⟨c2, r2, e2⟩ := starts_cons he
        subst e2
        have hx2 := str_tail c2 r2
        have hz2 := str_size r2
        simp only [List.length_cons] at *
        have hSs : ∀ w, Calls Tryd.prog 63 #[.string (str r2), .string ⟨#[43, 45]⟩] w fun e w' => e = .returned (.bool (Jsn.starts Jsn.isSgn r2)) ∧ w' = w := fun w => startsWith_any r2 [43, 45] Jsn.isSgn set_sgn w (by omega)
        cases hg : Jsn.starts Jsn.isSgn r2 with
        | false =>
          have hDe := fun w => digits_any r2 w (by omega)
          have h5 := digR_le r2
          have hzd := str_size (Jsn.digR r2).1
          have HX : Hid (Jsn.numR l = Jsn.digR r2) := by show _ = _; rw [hN]; unfold Jsn.expR Jsn.cutIf; rw [if_pos ⟨rfl, he⟩, if_neg (by show ¬ Jsn.starts Jsn.isSgn r2 = true; rw [hg]; decide)]; rfl
          clear hN
          go_enter Tryd.func47, Tryd.ntmps47
          go_wp2_with (first
            | (go_at_call 62; refine (hT _).mono ?_; rintro e w1 ⟨rfl, hw⟩; rw [hw]; clear hw)
            | (go_at_call 61; refine (hI _).mono ?_; rintro e w1 ⟨rfl, hw⟩; rw [hw]; clear hw)
            | (go_at_call_of 63 (Value.string ⟨#[46]⟩); refine (hSd _).mono ?_; rintro e w1 ⟨rfl, hw⟩; rw [hw]; clear hw)
            | (go_at_call_of 63 (Value.string ⟨#[101, 69]⟩); refine (hSe _).mono ?_; rintro e w1 ⟨rfl, hw⟩; rw [hw]; clear hw)
            | (go_at_call_of 63 (Value.string ⟨#[43, 45]⟩); refine (hSs _).mono ?_; rintro e w1 ⟨rfl, hw⟩; rw [hw]; clear hw)
            | (go_at_call 64; refine (hDe _).mono ?_; rintro e w1 ⟨rfl, hw⟩; rw [hw]; clear hw))
          go_ret2
          rw [HX.out]
          exact ⟨by go_num, rfl⟩
        | true =>
          obtain ⟨c3, r3, e3⟩ := starts_cons hg
          subst e3
          have hx3 := str_tail c3 r3
          have hz3 := str_size r3
          simp only [List.length_cons] at *
          have hDe := fun w => digits_any r3 w (by omega)
          have h5 := digR_le r3
          have hzd := str_size (Jsn.digR r3).1
          have HX : Hid (Jsn.numR l = Jsn.digR r3) := by show _ = _; rw [hN]; unfold Jsn.expR Jsn.cutIf; rw [if_pos ⟨rfl, he⟩, if_pos (by show Jsn.starts Jsn.isSgn (c3 :: r3) = true; exact hg)]; rfl
          clear hN
          go_enter Tryd.func47, Tryd.ntmps47
          go_wp2_with (first
            | (go_at_call 62; refine (hT _).mono ?_; rintro e w1 ⟨rfl, hw⟩; rw [hw]; clear hw)
            | (go_at_call 61; refine (hI _).mono ?_; rintro e w1 ⟨rfl, hw⟩; rw [hw]; clear hw)
            | (go_at_call_of 63 (Value.string ⟨#[46]⟩); refine (hSd _).mono ?_; rintro e w1 ⟨rfl, hw⟩; rw [hw]; clear hw)
            | (go_at_call_of 63 (Value.string ⟨#[101, 69]⟩); refine (hSe _).mono ?_; rintro e w1 ⟨rfl, hw⟩; rw [hw]; clear hw)
            | (go_at_call_of 63 (Value.string ⟨#[43, 45]⟩); refine (hSs _).mono ?_; rintro e w1 ⟨rfl, hw⟩; rw [hw]; clear hw)
            | (go_at_call 64; refine (hDe _).mono ?_; rintro e w1 ⟨rfl, hw⟩; rw [hw]; clear hw))
          go_ret2
          rw [HX.out]
          exact ⟨by go_num, rfl⟩
    | true =>
      obtain ⟨c, r, e⟩ := starts_cons hd
      subst e
      have hx := str_tail c r
      have hzr := str_size r
      simp only [List.length_cons] at *
      have hf : Jsn.fracR (c :: r, true) = Jsn.digR r := by unfold Jsn.fracR; rw [hd]; rfl
      rw [hf] at hN
      clear hf
      have hDd := fun w => digits_any r w (by omega)
      have h4 := digR_le r
      generalize Jsn.digR r = p1 at hN hDd h4
      obtain ⟨q1, b1⟩ := p1
      dsimp only at hDd h4
      have hzq1 := str_size q1
      cases b1 with
      | false =>
        have HX : Hid (Jsn.numR l = (q1, false)) := by show _ = _; rw [hN]; rfl
        clear hN
        go_enter Tryd.func47, Tryd.ntmps47
        go_wp2_with (first
          | (go_at_call 62; refine (hT _).mono ?_; rintro e w1 ⟨rfl, hw⟩; rw [hw]; clear hw)
          | (go_at_call 61; refine (hI _).mono ?_; rintro e w1 ⟨rfl, hw⟩; rw [hw]; clear hw)
          | (go_at_call 63; refine (hSd _).mono ?_; rintro e w1 ⟨rfl, hw⟩; rw [hw]; clear hw)
          | (go_at_call 64; refine (hDd _).mono ?_; rintro e w1 ⟨rfl, hw⟩; rw [hw]; clear hw))
        go_ret2
        rw [HX.out]
        exact ⟨by go_num, rfl⟩
      | true =>
        have hSe : ∀ w, Calls Tryd.prog 63 #[.string (str q1), .string ⟨#[101, 69]⟩] w fun e w' => e = .returned (.bool (Jsn.starts Jsn.isExp q1)) ∧ w' = w := fun w => startsWith_any q1 [101, 69] Jsn.isExp set_exp w (by omega)
        cases he : Jsn.starts Jsn.isExp q1 with
        | false =>
          have HX : Hid (Jsn.numR l = (q1, true)) := by show _ = _; rw [hN]; unfold Jsn.expR; rw [he]; rfl
          clear hN
          go_enter Tryd.func47, Tryd.ntmps47
          go_wp2_with (first
            | (go_at_call 62; refine (hT _).mono ?_; rintro e w1 ⟨rfl, hw⟩; rw [hw]; clear hw)
            | (go_at_call 61; refine (hI _).mono ?_; rintro e w1 ⟨rfl, hw⟩; rw [hw]; clear hw)
            | (go_at_call_of 63 (Value.string ⟨#[46]⟩); refine (hSd _).mono ?_; rintro e w1 ⟨rfl, hw⟩; rw [hw]; clear hw)
            | (go_at_call 64; refine (hDd _).mono ?_; rintro e w1 ⟨rfl, hw⟩; rw [hw]; clear hw hDd)
            | (go_at_call_of 63 (Value.string ⟨#[101, 69]⟩); refine (hSe _).mono ?_; rintro e w1 ⟨rfl, hw⟩; rw [hw]; clear hw))
          go_ret2
          rw [HX.out]
          exact ⟨by go_num, rfl⟩
        | true =>
          obtain ⟨c2, r2, e2⟩ := starts_cons he
          subst e2
          have hx2 := str_tail c2 r2
          have hz2 := str_size r2
          simp only [List.length_cons] at *
          have hSs : ∀ w, Calls Tryd.prog 63 #[.string (str r2), .string ⟨#[43, 45]⟩] w fun e w' => e = .returned (.bool (Jsn.starts Jsn.isSgn r2)) ∧ w' = w := fun w => startsWith_any r2 [43, 45] Jsn.isSgn set_sgn w (by omega)
          cases hg : Jsn.starts Jsn.isSgn r2 with
          | false =>
            have hDe := fun w => digits_any r2 w (by omega)
            have h5 := digR_le r2
            have hzd := str_size (Jsn.digR r2).1
            have HX : Hid (Jsn.numR l = Jsn.digR r2) := by show _ = _; rw [hN]; unfold Jsn.expR Jsn.cutIf; rw [if_pos ⟨rfl, he⟩, if_neg (by show ¬ Jsn.starts Jsn.isSgn r2 = true; rw [hg]; decide)]; rfl
            clear hN
            go_enter Tryd.func47, Tryd.ntmps47
            go_wp2_with (first
              | (go_at_call 62; refine (hT _).mono ?_; rintro e w1 ⟨rfl, hw⟩; rw [hw]; clear hw)
              | (go_at_call 61; refine (hI _).mono ?_; rintro e w1 ⟨rfl, hw⟩; rw [hw]; clear hw)
              | (go_at_call_of 63 (Value.string ⟨#[46]⟩); refine (hSd _).mono ?_; rintro e w1 ⟨rfl, hw⟩; rw [hw]; clear hw)
              | (go_at_call 64; refine (hDd _).mono ?_; rintro e w1 ⟨rfl, hw⟩; rw [hw]; clear hw hDd)
              | (go_at_call_of 63 (Value.string ⟨#[101, 69]⟩); refine (hSe _).mono ?_; rintro e w1 ⟨rfl, hw⟩; rw [hw]; clear hw)
              | (go_at_call_of 63 (Value.string ⟨#[43, 45]⟩); refine (hSs _).mono ?_; rintro e w1 ⟨rfl, hw⟩; rw [hw]; clear hw)
              | (go_at_call 64; refine (hDe _).mono ?_; rintro e w1 ⟨rfl, hw⟩; rw [hw]; clear hw))
            go_ret2
            rw [HX.out]
            exact ⟨by go_num, rfl⟩
          | true =>
            obtain ⟨c3, r3, e3⟩ := starts_cons hg
            subst e3
            have hx3 := str_tail c3 r3
            have hz3 := str_size r3
            simp only [List.length_cons] at *
            have hDe := fun w => digits_any r3 w (by omega)
            have h5 := digR_le r3
            have hzd := str_size (Jsn.digR r3).1
            have HX : Hid (Jsn.numR l = Jsn.digR r3) := by show _ = _; rw [hN]; unfold Jsn.expR Jsn.cutIf; rw [if_pos ⟨rfl, he⟩, if_pos (by show Jsn.starts Jsn.isSgn (c3 :: r3) = true; exact hg)]; rfl
            clear hN
            go_enter Tryd.func47, Tryd.ntmps47
            go_wp2_with (first
              | (go_at_call 62; refine (hT _).mono ?_; rintro e w1 ⟨rfl, hw⟩; rw [hw]; clear hw)
              | (go_at_call 61; refine (hI _).mono ?_; rintro e w1 ⟨rfl, hw⟩; rw [hw]; clear hw)
              | (go_at_call_of 63 (Value.string ⟨#[46]⟩); refine (hSd _).mono ?_; rintro e w1 ⟨rfl, hw⟩; rw [hw]; clear hw)
              | (go_at_call 64; refine (hDd _).mono ?_; rintro e w1 ⟨rfl, hw⟩; rw [hw]; clear hw hDd)
              | (go_at_call_of 63 (Value.string ⟨#[101, 69]⟩); refine (hSe _).mono ?_; rintro e w1 ⟨rfl, hw⟩; rw [hw]; clear hw)
              | (go_at_call_of 63 (Value.string ⟨#[43, 45]⟩); refine (hSs _).mono ?_; rintro e w1 ⟨rfl, hw⟩; rw [hw]; clear hw)
              | (go_at_call 64; refine (hDe _).mono ?_; rintro e w1 ⟨rfl, hw⟩; rw [hw]; clear hw))
            go_ret2
            rw [HX.out]
            exact ⟨by go_num, rfl⟩
end Go.Proofs.YtpnmiknikkhliaaDoor
/- A parser in memory, and the contracts of its small methods: peek, next, skipBlanks, part, takes, goesOn. -/
set_option linter.unusedVariables false
set_option linter.unusedSimpArgs false
namespace Go.Proofs.YtpnmiknikkhliaaDoor
open Go.RowKit
/-- All blocks but b are as they were. -/
structure Kept (b : Nat) (w w' : World) : Prop where
  os : w'.os = w.os
  tape : w'.tape = w.tape
  output : w'.output = w.output
  size : w.heap.size ≤ w'.heap.size
  block : ∀ k, k < w.heap.size → k ≠ b → w'.heap[k]? = w.heap[k]?
theorem Kept.refl (b : Nat) (w : World) : Kept b w w := ⟨rfl, rfl, rfl, Nat.le_refl _, fun _ _ _ => rfl⟩
theorem Kept.trans {b : Nat} {a c d : World} (h : Kept b a c) (k : Kept b c d) : Kept b a d :=
  ⟨k.os.trans h.os, k.tape.trans h.tape, k.output.trans h.output, Nat.le_trans h.size k.size, fun i hi hb => (k.block i (Nat.lt_of_lt_of_le hi h.size) hb).trans (h.block i hi hb)⟩
theorem Kept.of {b : Nat} {w w' : World} (h : Below w.heap.size w w') : Kept b w w' := ⟨h.os, h.tape, h.output, h.size, fun k hk _ => h.block k hk⟩
theorem Kept.set (b o : Nat) (w : World) (v : Value) : Kept b w (w.setCell ⟨b, o, none⟩ v) := by
  have h := (Below.refl 0 w).setCell (p := ⟨b, o, none⟩) (Nat.zero_le _) v
  exact ⟨h.os, h.tape, h.output, h.size, fun k _ hb => Below.heap_setCell _ _ _ _ hb⟩
theorem Kept.below {b : Nat} {w w' : World} (h : Kept b w w') (B : Nat) (h1 : B ≤ b) (h2 : B ≤ w.heap.size) : Below B w w' :=
  ⟨h.os, h.tape, h.output, h.size, fun k hk => h.block k (by omega) (by omega)⟩
theorem Kept.drew {b : Nat} {w w' : World} (h : Kept b w w') : Kept b w w'.drew := ⟨h.os, h.tape, h.output, h.size, h.block⟩
/-- The parser at b has the text s, of which l is left, and has met n values. -/
structure Ps (b : Nat) (s l : List UInt8) (n : Nat) (w : World) : Prop where
  at_ : w.heap[b]? = some (.cells #[.string (str s), .int .i64 ((s.length - l.length : Nat) : Int), .int .i64 (n : Int)] 53 (0, 0))
  suf : l <:+ s
  len : s.length ≤ 65536
  cnt : n ≤ 4096
theorem Ps.lt {b n : Nat} {s l : List UInt8} {w : World} (h : Ps b s l n w) : b < w.heap.size := (Array.getElem?_eq_some_iff.1 h.at_).1
theorem Ps.c0 {b n : Nat} {s l : List UInt8} {w : World} (h : Ps b s l n w) : w.cell? ⟨b, 0, none⟩ = some (.string (str s)) := Lib.cell_of_heap h.at_ 0
theorem Ps.c1 {b n : Nat} {s l : List UInt8} {w : World} (h : Ps b s l n w) : ∃ p : Nat, p + l.length = s.length ∧ w.cell? ⟨b, 1, none⟩ = some (.int .i64 (p : Int)) :=
  ⟨s.length - l.length, by have := h.suf.length_le; omega, Lib.cell_of_heap h.at_ 1⟩
theorem Ps.c2 {b n : Nat} {s l : List UInt8} {w : World} (h : Ps b s l n w) : w.cell? ⟨b, 2, none⟩ = some (.int .i64 (n : Int)) := Lib.cell_of_heap h.at_ 2
theorem Ps.free {b n : Nat} {s l : List UInt8} {w : World} (h : Ps b s l n w) (o : Nat) : w.frozen? ⟨b, o, none⟩ = false := Lib.frozen_of_heap h.at_ o
theorem Ps.le {b n : Nat} {s l : List UInt8} {w : World} (h : Ps b s l n w) : l.length ≤ s.length := h.suf.length_le
theorem Ps.drew {b n : Nat} {s l : List UInt8} {w : World} (h : Ps b s l n w) : Ps b s l n w.drew := ⟨h.at_, h.suf, h.len, h.cnt⟩
theorem Ps.setAt {b n : Nat} {s l z : List UInt8} {w : World} (q : Nat) (h : Ps b s l n w) (hz : z <:+ l) (hq : q + z.length = s.length) : Ps b s z n (w.setCell ⟨b, 1, none⟩ (.int .i64 (q : Int))) := by
  obtain rfl : q = s.length - z.length := by omega
  exact ⟨Go.Joins.block_setCell h.at_ _, hz.trans h.suf, h.len, h.cnt⟩
theorem Ps.setCnt {b n : Nat} {s l : List UInt8} {w : World} (m : Nat) (h : Ps b s l n w) (hm : m ≤ 4096) : Ps b s l m (w.setCell ⟨b, 2, none⟩ (.int .i64 (m : Int))) :=
  ⟨Go.Joins.block_setCell h.at_ _, h.suf, h.len, hm⟩
theorem Ps.step {b n : Nat} {s l : List UInt8} {w w' : World} (h : Ps b s l n w) (hb : Below w.heap.size w w') : Ps b s l n w' :=
  ⟨(hb.block b h.lt).trans h.at_, h.suf, h.len, h.cnt⟩
/-- What is left is the text's end. -/
theorem suf_from {l s : List UInt8} (h : l <:+ s) {p : Nat} (hp : p + l.length = s.length) : (str s).extract p s.length = str l := by
  obtain ⟨q, rfl⟩ := h
  obtain rfl : p = q.length := by simp at hp; omega
  rw [str_from]
  simp
theorem suf_at {c : UInt8} {r s : List UInt8} (h : c :: r <:+ s) {p : Nat} (hp : p + (r.length + 1) = s.length) (hi : p < (str s).size) : (str s)[p] = c := by
  obtain ⟨q, rfl⟩ := h
  obtain rfl : p = q.length := by simp at hp; omega
  have e : (str (q ++ c :: r)).data[q.length]? = some c := by rw [← Array.getElem?_toList, str_data]; simp
  exact (Array.getElem?_eq_some_iff.1 e).2
/-- A fault, thrown where so much is left. -/
abbrev boom (s : List UInt8) (why : Int) (left : Nat) : Ending := .panicked [{ v := .iface 37 (.agg #[.int .i64 why, .int .i64 ((s.length - left : Nat) : Int)]), recovered := false }]
/-- What a reader answers, as the walks have it. -/
def Ans {α : Type} (x : Jsn.R α) (good : α → List UInt8 → Prop) (bad : Int → Nat → Prop) : Prop := match x with
  | .ok a r => good a r
  | .err y k => bad y k
set_option maxHeartbeats 400000 in
theorem peek_ok {b n : Nat} {s r : List UInt8} {c : UInt8} {w : World} (h : Ps b s (c :: r) n w) :
    Calls Tryd.prog 65 #[.pointer (some ⟨b, 0, none⟩)] w fun e w' => e = .returned (.int .u8 c.toNat) ∧ Ps b s (c :: r) n w' ∧ Kept b w w' := by
  have c0 := h.c0
  obtain ⟨p, hp, c1⟩ := h.c1
  have hz := str_size s
  have hlen := h.len
  simp only [List.length_cons] at hp
  have hi := suf_at h.suf hp (by rw [hz]; omega)
  go_enter Tryd.func65, Tryd.ntmps65
  go_wp2
  go_region
  go_wp2
  go_region
  go_wp2
  go_ret
  exact ⟨rfl, h.drew.drew, (Kept.refl _ _).drew.drew⟩
set_option maxHeartbeats 400000 in
theorem peek_end {b n : Nat} {s : List UInt8} {w : World} (h : Ps b s [] n w) :
    Calls Tryd.prog 65 #[.pointer (some ⟨b, 0, none⟩)] w fun e w' => e = boom s 4 0 ∧ Kept b w w' := by
  have c0 := h.c0
  obtain ⟨p, hp, c1⟩ := h.c1
  have hz := str_size s
  have hlen := h.len
  simp only [List.length_nil, Nat.add_zero] at hp
  subst hp
  go_enter Tryd.func65, Tryd.ntmps65
  go_wp2
  go_region
  go_wp2
  exact ⟨rfl, rfl, (Kept.refl _ _).drew⟩
theorem Ps.tail {b n : Nat} {s r : List UInt8} {c : UInt8} {w : World} (p : Nat) (h : Ps b s (c :: r) n w) (hp : p + (r.length + 1) = s.length) : Ps b s r n (w.setCell ⟨b, 1, none⟩ (.int .i64 ((p : Int) + 1))) :=
  h.setAt (p + 1) (List.suffix_cons c r) (by omega)
set_option maxHeartbeats 400000 in
theorem next_ok {b n : Nat} {s r : List UInt8} {c : UInt8} {w : World} (h : Ps b s (c :: r) n w) :
    Calls Tryd.prog 70 #[.pointer (some ⟨b, 0, none⟩)] w fun e w' => e = .returned (.int .u8 c.toNat) ∧ Ps b s r n w' ∧ Kept b w w' := by
  go_enter Tryd.func70, Tryd.ntmps70
  go_wp2_with (first
    | (go_at_call 65; refine (peek_ok h).mono ?_; rintro e w1 ⟨rfl, hP, hK⟩; obtain ⟨p, hp, c1⟩ := hP.c1; have f1 := hP.free 1; have hlen := hP.len; simp only [List.length_cons] at hp))
  go_ret
  exact ⟨rfl, hP.tail p hp, hK.trans (Kept.set _ _ _ _)⟩
theorem next_end {b n : Nat} {s : List UInt8} {w : World} (h : Ps b s [] n w) :
    Calls Tryd.prog 70 #[.pointer (some ⟨b, 0, none⟩)] w fun e w' => e = boom s 4 0 ∧ Kept b w w' := by
  go_enter Tryd.func70, Tryd.ntmps70
  go_wp2_with (first
    | (go_at_call 65; refine (peek_end h).mono ?_; rintro e w1 ⟨rfl, hK⟩))
  exact ⟨rfl, rfl, hK⟩
theorem ws_set (c : UInt8) : [9, 10, 13, 32].contains c = Jsn.wsB c := by
  revert c; apply Jsn.byte_all; decide +kernel
theorem TrimWs_any (l : List UInt8) (w : World) :
    Calls Tryd.prog 54 #[.string (str l), .string ⟨#[9, 10, 13, 32]⟩] w fun e w' => e = .returned (.string (str (Jsn.skip l))) ∧ Below w.heap.size w w' := by
  have h := Any.strings_TrimLeft_laid Tryd.lays161 (by kernel_rfl) (str l) ⟨#[9, 10, 13, 32]⟩ w (by decide) (by
    intro j b hb
    have : b ∈ [9, 10, 13, 32] := List.mem_of_getElem? hb
    simp only [List.mem_cons, List.not_mem_nil, or_false] at this
    rcases this with rfl | rfl | rfl | rfl <;> decide)
  rw [str_data] at h
  have e : Lib.trimLeftS l [9, 10, 13, 32] = Jsn.skip l := by
    unfold Lib.trimLeftS
    congr 1
    funext c
    exact ws_set c
  rw [← e]
  exact h
end Go.Proofs.YtpnmiknikkhliaaDoor
/- The contract of skipBlanks. -/
set_option linter.unusedVariables false
set_option linter.unusedSimpArgs false
namespace Go.Proofs.YtpnmiknikkhliaaDoor
open Go.RowKit
set_option maxHeartbeats 1000000 in
theorem skip_any {b n : Nat} {s l : List UInt8} {w : World} (h : Ps b s l n w) :
    Calls Tryd.prog 39 #[.pointer (some ⟨b, 0, none⟩)] w fun e w' => e = .returned (.tuple #[]) ∧ Ps b s (Jsn.skip l) n w' ∧ Kept b w w' := by
  obtain ⟨p, hp, c1⟩ := h.c1
  have c0 := h.c0
  have f1 := h.free 1
  have hz := str_size s
  have hlen := h.len
  have hx := suf_from h.suf hp
  have hsk := Jsn.skip_suf l
  have hle := hsk.length_le
  have hz2 := str_size (Jsn.skip l)
  have hT := TrimWs_any l
  have b1 : (0 : Int) ≤ (p : Int) := by omega
  have b2 : (p : Int) ≤ (s.length : Int) := by omega
  go_enter Tryd.func39, Tryd.ntmps39
  have hwr : IntKind.i64.wrap ((s.length : Int) - ((Jsn.skip l).length : Int)) = ((s.length - (Jsn.skip l).length : Nat) : Int) := by
    rw [IntKind.wrap_i64]; omega
  go_region_with (go_at_call 54; refine (hT _).mono ?_; rintro e w1 ⟨rfl, hb⟩; have hP1 := h.drew.step hb; have c01 := hP1.c0; have f11 := hP1.free 1; have c11 := (hb.cell (p := ⟨b, 1, none⟩) h.lt).trans c1)
  all_goals (go_end0; exact ⟨rfl, hP1.setAt (s.length - (Jsn.skip l).length) hsk (by omega), ((Kept.refl _ _).drew.trans (Kept.of hb)).trans (Kept.set _ _ _ _)⟩)
end Go.Proofs.YtpnmiknikkhliaaDoor
/- Contracts of the parser's part, takes, goesOn, word, number. -/
set_option linter.unusedVariables false
set_option linter.unusedSimpArgs false
namespace Go.Proofs.YtpnmiknikkhliaaDoor
open Go.RowKit
open Jsn (skip)
theorem part_ok {b n : Nat} {s l r : List UInt8} {c : UInt8} {w : World} (h : Ps b s l n w) (hk : skip l = c :: r) :
    Calls Tryd.prog 49 #[.pointer (some ⟨b, 0, none⟩)] w fun e w' => e = .returned (.int .u8 c.toNat) ∧ Ps b s (c :: r) n w' ∧ Kept b w w' := by
  have hS := skip_any h
  rw [hk] at hS
  go_enter Tryd.func49, Tryd.ntmps49
  go_wp2_with (first
    | (go_at_call 39; refine hS.mono ?_; rintro e w1 ⟨rfl, hP1, hK1⟩)
    | (go_at_call 65; refine (peek_ok hP1).mono ?_; rintro e w2 ⟨rfl, hP2, hK2⟩))
  go_ret
  exact ⟨rfl, hP2, hK1.trans hK2⟩
theorem part_end {b n : Nat} {s l : List UInt8} {w : World} (h : Ps b s l n w) (hk : skip l = []) :
    Calls Tryd.prog 49 #[.pointer (some ⟨b, 0, none⟩)] w fun e w' => e = boom s 4 0 ∧ Kept b w w' := by
  have hS := skip_any h
  rw [hk] at hS
  go_enter Tryd.func49, Tryd.ntmps49
  go_wp2_with (first
    | (go_at_call 39; refine hS.mono ?_; rintro e w1 ⟨rfl, hP1, hK1⟩)
    | (go_at_call 65; refine (peek_end hP1).mono ?_; rintro e w2 ⟨rfl, hK2⟩))
  exact ⟨rfl, rfl, hK1.trans hK2⟩
theorem byte_eq_int {c d : UInt8} : ((c.toNat : Int) = (d.toNat : Int)) ↔ c = d := ⟨fun h => UInt8.toNat_inj.1 (by omega), fun h => by rw [h]⟩
set_option maxHeartbeats 400000 in
theorem takes_yes {b n : Nat} {s l r : List UInt8} {c : UInt8} {w : World} (h : Ps b s l n w) (hk : Jsn.takes c l = .ok true r) :
    Calls Tryd.prog 80 #[.pointer (some ⟨b, 0, none⟩), .int .u8 c.toNat] w fun e w' => e = .returned (.bool true) ∧ Ps b s r n w' ∧ Kept b w w' := by
  have hk2 := (Jsn.takes_true hk).1
  have hq : ((c.toNat : Int) == (c.toNat : Int)) = true := by simp
  go_enter Tryd.func80, Tryd.ntmps80
  go_wp2_with (first
    | (go_at_call 49; refine (part_ok h hk2).mono ?_; rintro e w1 ⟨rfl, hP1, hK1⟩; obtain ⟨p, hp, c1⟩ := hP1.c1; have f1 := hP1.free 1; have hlen := hP1.len; simp only [List.length_cons] at hp))
  go_ret
  exact ⟨rfl, hP1.tail p hp, hK1.trans (Kept.set _ _ _ _)⟩
set_option maxHeartbeats 400000 in
theorem takes_no {b n : Nat} {s l r : List UInt8} {c : UInt8} {w : World} (h : Ps b s l n w) (hk : Jsn.takes c l = .ok false r) :
    Calls Tryd.prog 80 #[.pointer (some ⟨b, 0, none⟩), .int .u8 c.toNat] w fun e w' => e = .returned (.bool false) ∧ Ps b s r n w' ∧ Kept b w w' := by
  obtain ⟨hk2, x, t, rfl, hx⟩ := Jsn.takes_false hk
  have hq : ((x.toNat : Int) == (c.toNat : Int)) = false := beq_eq_false_iff_ne.2 fun e => hx (byte_eq_int.1 e)
  go_enter Tryd.func80, Tryd.ntmps80
  go_wp2_with (first
    | (go_at_call 49; refine (part_ok h hk2).mono ?_; rintro e w1 ⟨rfl, hP1, hK1⟩))
  go_ret
  exact ⟨rfl, hP1, hK1⟩
theorem takes_end {b n : Nat} {s l : List UInt8} {c : UInt8} {w : World} (h : Ps b s l n w) (hk : skip l = []) :
    Calls Tryd.prog 80 #[.pointer (some ⟨b, 0, none⟩), .int .u8 c.toNat] w fun e w' => e = boom s 4 0 ∧ Kept b w w' := by
  go_enter Tryd.func80, Tryd.ntmps80
  go_wp2_with (first
    | (go_at_call 49; refine (part_end h hk).mono ?_; rintro e w1 ⟨rfl, hK1⟩))
  exact ⟨rfl, rfl, hK1⟩
theorem takes_err {c : UInt8} {l : List UInt8} {y : Int} {k : Nat} (h : Jsn.takes c l = .err y k) : skip l = [] ∧ y = 4 ∧ k = 0 := by
  unfold Jsn.takes at h
  split at h
  · rename_i e
    cases h
    exact ⟨e, rfl, rfl⟩
  · split at h <;> cases h
/-- What takes answers. -/
theorem takes_any {b n : Nat} {s l : List UInt8} {c : UInt8} {w : World} (h : Ps b s l n w) :
    Calls Tryd.prog 80 #[.pointer (some ⟨b, 0, none⟩), .int .u8 c.toNat] w fun e w' => Kept b w w' ∧ Ans (Jsn.takes c l) (fun is r => e = .returned (.bool is) ∧ Ps b s r n w') (fun y k => e = boom s y k) := by
  cases ht : Jsn.takes c l with
  | err y k =>
    obtain ⟨h1, rfl, rfl⟩ := takes_err ht
    exact (takes_end h h1).mono fun e w' ⟨h1, h2⟩ => ⟨h2, h1⟩
  | ok is r =>
    cases is with
    | true => exact (takes_yes h ht).mono fun e w' ⟨h1, h2, h3⟩ => ⟨h3, h1, h2⟩
    | false => exact (takes_no h ht).mono fun e w' ⟨h1, h2, h3⟩ => ⟨h3, h1, h2⟩
end Go.Proofs.YtpnmiknikkhliaaDoor
/- Contracts of the parser's goesOn, word, number. -/
set_option linter.unusedVariables false
set_option linter.unusedSimpArgs false
namespace Go.Proofs.YtpnmiknikkhliaaDoor
open Go.RowKit
open Jsn (skip)
theorem goesOn_any {b n : Nat} {s l : List UInt8} {c : UInt8} {w : World} (h : Ps b s l n w) :
    Calls Tryd.prog 81 #[.pointer (some ⟨b, 0, none⟩), .int .u8 c.toNat] w fun e w' => Kept b w w' ∧ Ans (Jsn.goesOn c l) (fun is r => e = .returned (.bool is) ∧ Ps b s r n w') (fun y k => e = boom s y k) := by
  have hX : Jsn.goesOn c l = (Jsn.takes c l).bind fun is r => if is = true then .ok false r else (Jsn.takes 44 r).bind fun is z => if is = true then .ok true z else .err 3 z.length := rfl
  cases ht : Jsn.takes c l with
  | err y k =>
    obtain ⟨h1, rfl, rfl⟩ := takes_err ht
    have hX2 : Jsn.goesOn c l = .err 4 0 := by rw [hX, ht]; rfl
    rw [hX2]
    clear hX hX2
    have hT := takes_end (c := c) h h1
    go_enter Tryd.func81, Tryd.ntmps81
    go_wp2_with (first
      | (go_at_call 80; refine hT.mono ?_; rintro e w1 ⟨rfl, hK1⟩))
    exact ⟨rfl, hK1, rfl⟩
  | ok is r =>
    rw [ht] at hX
    cases is with
    | true =>
      have hX2 : Jsn.goesOn c l = .ok false r := by rw [hX]; rfl
      rw [hX2]
      clear hX hX2
      have hT := takes_yes h ht
      go_enter Tryd.func81, Tryd.ntmps81
      go_wp2_with (first
        | (go_at_call 80; refine hT.mono ?_; rintro e w1 ⟨rfl, hP1, hK1⟩))
      go_ret
      exact ⟨hK1, rfl, hP1⟩
    | false =>
      have hT := takes_no h ht
      cases ht2 : Jsn.takes 44 r with
      | err y k =>
        obtain ⟨h1, rfl, rfl⟩ := takes_err ht2
        have hX2 : Jsn.goesOn c l = .err 4 0 := by rw [hX]; show (Jsn.takes 44 r).bind _ = _; rw [ht2]; rfl
        rw [hX2]
        clear hX hX2
        go_enter Tryd.func81, Tryd.ntmps81
        go_wp2_with (first
          | (go_at_call_of 80 (Value.int .u8 c.toNat); refine hT.mono ?_; rintro e w1 ⟨rfl, hP1, hK1⟩; clear hT)
          | (go_at_call 80; refine (takes_end (c := 44) hP1 h1).mono ?_; rintro e w2 ⟨rfl, hK2⟩))
        exact ⟨rfl, hK1.trans hK2, rfl⟩
      | ok is2 z =>
        cases is2 with
        | true =>
          have hX2 : Jsn.goesOn c l = .ok true z := by rw [hX]; show (Jsn.takes 44 r).bind _ = _; rw [ht2]; rfl
          rw [hX2]
          clear hX hX2
          go_enter Tryd.func81, Tryd.ntmps81
          go_wp2_with (first
            | (go_at_call_of 80 (Value.int .u8 c.toNat); refine hT.mono ?_; rintro e w1 ⟨rfl, hP1, hK1⟩; clear hT)
            | (go_at_call 80; refine (takes_yes (c := 44) hP1 ht2).mono ?_; rintro e w2 ⟨rfl, hP2, hK2⟩))
          go_ret
          exact ⟨hK1.trans hK2, rfl, hP2⟩
        | false =>
          have hX2 : Jsn.goesOn c l = .err 3 z.length := by rw [hX]; show (Jsn.takes 44 r).bind _ = _; rw [ht2]; rfl
          rw [hX2]
          clear hX hX2
          go_enter Tryd.func81, Tryd.ntmps81
          go_wp2_with (first
            | (go_at_call_of 80 (Value.int .u8 c.toNat); refine hT.mono ?_; rintro e w1 ⟨rfl, hP1, hK1⟩; clear hT)
            | (go_at_call 80; refine (takes_no (c := 44) hP1 ht2).mono ?_; rintro e w2 ⟨rfl, hP2, hK2⟩; obtain ⟨p, hp, c1⟩ := hP2.c1; obtain rfl : p = s.length - z.length := by omega))
          exact ⟨rfl, hK1.trans hK2, rfl⟩
set_option maxHeartbeats 1000000 in
theorem number_p {b n : Nat} {s l : List UInt8} {w : World} (h : Ps b s l n w) :
    Calls Tryd.prog 53 #[.pointer (some ⟨b, 0, none⟩)] w fun e w' => Kept b w w' ∧ Ans (Jsn.numV l) (fun t r => e = .returned (.string (str t)) ∧ Ps b s r n w') (fun y k => e = boom s y k) := by
  obtain ⟨p, hp, c1⟩ := h.c1
  have c0 := h.c0
  have f1 := h.free 1
  have hz := str_size s
  have hzl := str_size l
  have hlen := h.len
  have hx := suf_from h.suf hp
  have b1 : (0 : Int) ≤ (p : Int) := by omega
  have b2 : (p : Int) ≤ (s.length : Int) := by omega
  have hle := h.le
  have hN := fun w => number_any l w (by omega)
  have hsuf : (Jsn.numR l).1 <:+ l := by obtain ⟨q, hq⟩ := Jsn.numR_left l; exact ⟨q, hq.symm⟩
  have hl2 := hsuf.length_le
  unfold Jsn.numV
  generalize Jsn.numR l = q at *
  obtain ⟨z, b0⟩ := q
  dsimp only at hN hsuf hl2 ⊢
  cases b0 with
  | true =>
    rw [if_pos rfl]
    have hcut : (str l).extract 0 (l.length - z.length) = str (l.take (l.length - z.length)) := str_to _ _
    have e1 : (l.length : Int) - (z.length : Int) = ((l.length - z.length : Nat) : Int) := by omega
    rw [e1] at hN
    go_enter Tryd.func53, Tryd.ntmps53
    go_wp2
    go_region
    go_wp2_with (first
      | (go_at_call 47; refine (hN _).mono ?_; rintro e w1 ⟨rfl, hw⟩; rw [hw]; clear hw))
    go_ret
    exact ⟨(Kept.refl _ _).drew.trans (Kept.set _ _ _ _), rfl, h.drew.setAt (p + (l.length - z.length)) hsuf (by omega)⟩
  | false =>
    rw [if_neg (by decide)]
    by_cases hz0 : z = []
    · subst hz0
      rw [if_pos rfl]
      go_enter Tryd.func53, Tryd.ntmps53
      go_wp2
      go_region
      go_wp2_with (first
        | (go_at_call 47; refine (hN _).mono ?_; rintro e w1 ⟨rfl, hw⟩; rw [hw]; clear hw))
      exact ⟨rfl, (Kept.refl _ _).drew, rfl⟩
    · rw [if_neg hz0]
      have hz1 : 0 < z.length := List.length_pos_iff.2 hz0
      go_enter Tryd.func53, Tryd.ntmps53
      go_wp2
      go_region
      go_wp2_with (first
        | (go_at_call 47; refine (hN _).mono ?_; rintro e w1 ⟨rfl, hw⟩; rw [hw]; clear hw))
      obtain rfl : p = s.length - l.length := by omega
      exact ⟨rfl, (Kept.refl _ _).drew, rfl⟩
end Go.Proofs.YtpnmiknikkhliaaDoor
/- Contracts of the parser's word and four. -/
set_option linter.unusedVariables false
set_option linter.unusedSimpArgs false
namespace Go.Proofs.YtpnmiknikkhliaaDoor
open Go.RowKit
theorem takeH {md : Region.Mode} {ops : Array Oper} {Q : Exit → Act → World → Prop} {S : World → Prop} {fuel : Nat} {listed : Array Bool} {a : Act} {w : World} (i d : Nat) (v : Value) {oi : Oper} (hi : ops[i]? = some oi) (hd : oi.dst = some d)
    (hs : Region.noSelect ops = true) (hf : Region.free md ops listed i = true) (hr : (Region.ready md ops listed).contains i = true)
    (hQ : ∀ c a w, Q (.panic c) (a.put (some d) v) w → Q (.panic c) a w) (hy : YieldsIf Tryd.prog ops S oi v a) (hS : S w)
    (h : wpAnyH Tryd.prog md ops Q S fuel (listed.setIfInBounds i true) (a.put (some d) v) w) : wpAnyH Tryd.prog md ops Q S (fuel + 1) listed a w :=
  wpAnyH_take hi hs hf hr (by rw [hd]; exact hQ) hy hS (by rw [hd]; exact h)
theorem wordR_drop {m : Nat} {wd l : List UInt8} {k : Nat} (hk : k < wd.length) : Jsn.wordR m (wd.drop k) l = (Jsn.mustR m wd[k] l).bind fun _ r => Jsn.wordR m (wd.drop (k + 1)) r := by
  rw [List.drop_eq_getElem_cons hk]
  rfl
theorem run_index_str (l : List UInt8) (k : Nat) (hk : k < l.length) (W : World) : (Instr.index 9 (.string (str l)) (.int .i64 (k : Int))).run Tryd.prog W = .ok (.int .u8 l[k].toNat) W := by
  have h1 : (str l).size = l.length := str_size l
  have h2 : k < (str l).size := by rw [h1]; exact hk
  simp [go_sem, Tryd.underlying9, h2]
  rfl
set_option maxHeartbeats 1000000 in
theorem word_any {b n : Nat} {s l wd : List UInt8} {w : World} (h : Ps b s l n w) (hw : wd.length ≤ 100) :
    Calls Tryd.prog 52 #[.pointer (some ⟨b, 0, none⟩), .string (str wd)] w fun e w' => Kept b w w' ∧ Ans (Jsn.wordR l.length wd l) (fun _ r => e = .returned (.string (str wd)) ∧ Ps b s r n w') (fun y k => e = boom s y k) := by
  obtain ⟨p, hp, c1⟩ := h.c1
  have hlen := h.len
  have hz := str_size wd
  have hpb : boom s 3 l.length = .panicked [{ v := .iface 37 (.agg #[.int .i64 3, .int .i64 (p : Int)]), recovered := false }] := by
    obtain rfl : p = s.length - l.length := by omega
    rfl
  replace hpb := hpb.symm
  generalize hX : Jsn.wordR l.length wd l = X
  have HX : Hid (Jsn.wordR l.length wd l = X) := hX
  clear hX
  go_enter Tryd.func52, Tryd.ntmps52
  go_wp2
  go_loopw [13] (fun i wr => ∃ (k : Nat) (z : List UInt8), i = .int .i64 k ∧ k ≤ wd.length ∧ Ps b s z n wr ∧ Kept b w wr ∧ Hid (Jsn.wordR l.length (wd.drop k) z = X)) (fun i _ => wd.length - (intOf i).toNat)
  case atStart => exact ⟨0, l, rfl, Nat.zero_le _, h, Kept.refl _ _, HX.out⟩
  case round =>
    obtain ⟨k, z, rfl, hk, hP, hK, HE⟩ := hrel
    by_cases hlt : k < wd.length
    · have hE := HE.out
      rw [wordR_drop hlt] at hE
      cases z with
      | nil =>
        have HY : Hid (X = .err 4 0) := hE.symm
        clear hE HE
        have hix : ∀ (W : World), (Instr.index 9 (.string (str wd)) (.int .i64 (k : Int))).run Tryd.prog W = .ok (.int .u8 wd[k].toNat) W := fun W => run_index_str wd k hlt W
        go_wp2
        refine wp_region_held_drew (S := fun _ => True) (by kernel_rfl) trivial (fun hS => ?_)
        refine takeH 0 16 (.pointer (some ⟨b, 0, none⟩)) rfl rfl (by kernel_rfl) (by kernel_rfl) (by kernel_rfl) (fun _ _ _ h => h) (Or.inl ⟨by kernel_rfl, fun W _ => by go_simp⟩) hS ?_
        simp only [Act.put, List.setIfInBounds_toArray, List.set_cons_zero, List.set_cons_succ]
        refine takeH 2 18 (.string (str wd)) rfl rfl (by kernel_rfl) (by kernel_rfl) (by kernel_rfl) (fun _ _ _ h => h) (Or.inl ⟨by kernel_rfl, fun W _ => by go_simp⟩) hS ?_
        simp only [Act.put, List.setIfInBounds_toArray, List.set_cons_zero, List.set_cons_succ]
        refine takeH 3 19 (.int .i64 (k : Int)) rfl rfl (by kernel_rfl) (by kernel_rfl) (by kernel_rfl) (fun _ _ _ h => h) (Or.inl ⟨by kernel_rfl, fun W _ => by go_simp⟩) hS ?_
        simp only [Act.put, List.setIfInBounds_toArray, List.set_cons_zero, List.set_cons_succ]
        refine takeH 4 20 (.int .u8 wd[k].toNat) rfl rfl (by kernel_rfl) (by kernel_rfl) (by kernel_rfl) (fun _ _ _ h => h) (Or.inl ⟨by kernel_rfl, fun W _ => by go_simp⟩) hS ?_
        simp only [Act.put, List.setIfInBounds_toArray, List.set_cons_zero, List.set_cons_succ]
        refine wpAnyH_ready (rs := [1]) (by kernel_rfl) (by simp) ?_
        refine AllReadyH.cons rfl (fun K hK0 => ?_) AllReadyH.nil
        go_simp
        refine (next_end hP.drew).mono ?_
        rintro e w1 ⟨rfl, hK1⟩
        exact ⟨rfl, hK.drew.trans hK1, by rw [HY.out]; rfl⟩
      | cons c r =>
        have hix : ∀ (W : World), (Instr.index 9 (.string (str wd)) (.int .i64 (k : Int))).run Tryd.prog W = .ok (.int .u8 wd[k].toNat) W := fun W => run_index_str wd k hlt W
        generalize wd[k] = x at hix hE
        by_cases hc : c = x
        · have HY : Hid (Jsn.wordR l.length (wd.drop (k + 1)) r = X) := by
            show _ = _
            rw [← hE]
            show _ = (if c = x then (.ok () r : Jsn.R Unit) else .err 3 l.length).bind _
            rw [if_pos hc]
            rfl
          subst hc
          have hne : ((c.toNat : Int) != (c.toNat : Int)) = false := by simp
          clear hE HE
          go_wp2
          go_region_with (go_at_call 70; refine (next_ok hP.drew).mono ?_; rintro e w1 ⟨rfl, hP1, hK1⟩)
          all_goals (go_wp2; go_roundw; (case rel => exact ⟨k + 1, r, by go_num, by omega, hP1, hK.drew.trans hK1, HY⟩); (case measure => simp [intOf]; omega))
        · have HY : Hid (X = .err 3 l.length) := by
            show _ = _
            rw [← hE]
            show (if c = x then (.ok () r : Jsn.R Unit) else .err 3 l.length).bind _ = _
            rw [if_neg hc]
            rfl
          have hne : ((c.toNat : Int) != (x.toNat : Int)) = true := by
            rw [bne_iff_ne]
            exact fun e => hc (byte_eq_int.1 e)
          clear hE HE
          go_wp2
          go_region_with (go_at_call 70; refine (next_ok hP.drew).mono ?_; rintro e w1 ⟨rfl, hP1, hK1⟩)
          all_goals (go_wp2; rw [HY.out]; exact ⟨rfl, hK.drew.trans hK1, hpb⟩)
    · have HY : Hid (X = .ok () z) := by
        show _ = _
        rw [← HE.out, List.drop_of_length_le (by omega)]
        rfl
      go_wp2
      go_ret
      rw [HY.out]
      exact ⟨hK, rfl, hP⟩
end Go.Proofs.YtpnmiknikkhliaaDoor
/- Contracts of the parser's four, sign, escaped. -/
set_option linter.unusedVariables false
set_option linter.unusedSimpArgs false
namespace Go.Proofs.YtpnmiknikkhliaaDoor
open Go.RowKit
theorem Kept.drewN {b : Nat} {w w' : World} (h : Kept b w w') (q : Nat) : Kept b w (w'.drewN q) := ⟨h.os, h.tape, h.output, h.size, h.block⟩
theorem Ps.drewN {b n : Nat} {s l : List UInt8} {w : World} (h : Ps b s l n w) (q : Nat) : Ps b s l n (w.drewN q) := ⟨h.at_, h.suf, h.len, h.cnt⟩
theorem hex_one (c : UInt8) : (Asc.hexOk (Asc.bt c) = true → Asc.hexNum [c] = Asc.hexV (Asc.bt c) ∧ Asc.hexErr [c] = 0) ∧ (Asc.hexOk (Asc.bt c) = false → Asc.hexNum [c] = 0 ∧ Asc.hexErr [c] = 3) := by
  constructor
  · intro h
    refine Asc.hex_ok [c] _ ⟨by simp [Asc.allHex, h], List.cons_ne_nil _ _⟩ ?_
    have := Asc.hexFold_next [c] 0 0 (by simp) (by omega)
    simp at this
    rw [this]
    exact Asc.hexFold_end [] 0 _ (by simp)
  · intro h
    exact Asc.hex_form [c] fun e => by
      have := e.1
      simp [Asc.allHex, h] at this
theorem Hex_one (c : UInt8) (w : World) :
    Calls Tryd.prog 96 #[.string (str [c])] w fun e w' => e = .returned (.tuple #[.int .u32 (Asc.hexNum [c]), .int .i64 (Asc.hexErr [c])]) ∧ w' = w := by
  have h := Hex_any (str [c]) w (by rw [str_size]; simp)
  rw [str_data] at h
  exact h
theorem four_cons (m k : Nat) (v : Int) (c : UInt8) (r : List UInt8) : Jsn.four m (k + 1) v (c :: r) = if Asc.hexOk (Asc.bt c) = true then Jsn.four m k (v * 16 + Asc.hexV (Asc.bt c)) r else .err 3 m := rfl
theorem suf_one {c : UInt8} {r s : List UInt8} (h : c :: r <:+ s) {p : Nat} (hp : p + (r.length + 1) = s.length) : (str s).extract p (p + 1) = str [c] := by
  obtain ⟨q, rfl⟩ := h
  obtain rfl : p = q.length := by simp at hp; omega
  apply str_eq
  rw [data_cut, str_data, List.take_append]
  simp [List.take_of_length_le]
theorem or_hex32 (n d : Int) (h0 : 0 ≤ n) (h1 : n ≤ 65535) (h2 : 0 ≤ d) (h3 : d ≤ 15) : bits BinOp.or IntKind.i32 (n * 16) d = n * 16 + d :=
  bits_join .i32 31 (by decide) wraps_i32 4 (n * 16) d (by omega) (by omega) (by omega) h2 (by omega) (by omega)
set_option maxHeartbeats 2000000 in
theorem four_any {b n m : Nat} {s l : List UInt8} {w : World} (h : Ps b s l n w) (f : Nat) (hf : f + m = s.length) :
    Calls Tryd.prog 92 #[.pointer (some ⟨b, 0, none⟩), .int .i64 (f : Int)] w fun e w' => Kept b w w' ∧ Ans (Jsn.four m 4 0 l) (fun v r => e = .returned (.int .i32 v) ∧ Ps b s r n w') (fun y k => e = boom s y k) := by
  have hlen := h.len
  have hz := str_size s
  have hpb : .panicked [{ v := .iface 37 (.agg #[.int .i64 3, .int .i64 (f : Int)]), recovered := false }] = boom s 3 m := by
    obtain rfl : f = s.length - m := by omega
    rfl
  generalize hX : Jsn.four m 4 0 l = X
  have HX : Hid (Jsn.four m 4 0 l = X) := hX
  clear hX
  go_enter Tryd.func92, Tryd.ntmps92
  go_wp2
  go_loopw [5, 8] (fun v i wr => ∃ (k : Nat) (x : Int) (z : List UInt8), v = .int .i32 x ∧ i = .int .i64 k ∧ k ≤ 4 ∧ 0 ≤ x ∧ x < 16 ^ k ∧ Ps b s z n wr ∧ Kept b w wr ∧ Hid (Jsn.four m (4 - k) x z = X)) (fun _ i _ => 4 - (intOf i).toNat)
  case atStart => exact ⟨0, 0, l, rfl, rfl, by omega, by omega, by omega, h, Kept.refl _ _, HX.out⟩
  case round =>
    obtain ⟨k, x, z, rfl, rfl, hk, hx0, hx1, hP, hK, HE⟩ := hrel
    by_cases hlt : k < 4
    · obtain ⟨j, hj⟩ : ∃ j, 4 - k = j + 1 := ⟨3 - k, by omega⟩
      have hE := HE.out
      rw [hj] at hE
      cases z with
      | nil =>
        have HY : Hid (X = .err 4 0) := hE.symm
        clear hE HE
        go_wp2_with (first
          | (go_at_call 65; refine (peek_end hP).mono ?_; rintro e w1 ⟨rfl, hK1⟩))
        exact ⟨rfl, hK.trans hK1, by rw [HY.out]; rfl⟩
      | cons c r =>
        rw [four_cons] at hE
        have hb := Asc.hexV_bd (Asc.bt c)
        have hx2 : x < 65536 := by
          have : (16 : Int) ^ k ≤ 4096 := by
            match k, hlt with
            | 0, _ => decide
            | 1, _ => decide
            | 2, _ => decide
            | 3, _ => decide
          omega
        cases hc : Asc.hexOk (Asc.bt c)
        · have HY : Hid (X = .err 3 m) := by show _ = _; rw [← hE, hc]; rfl
          have hh := (hex_one c).2 hc
          have hH := fun w => Hex_one c w
          rw [hh.1, hh.2] at hH
          clear hE HE hh hc
          go_wp2_with (first
            | (go_at_call 65; refine (peek_ok hP).mono ?_; rintro e w1 ⟨rfl, hP1, hK1⟩; obtain ⟨p, hp, c1⟩ := hP1.c1; simp only [List.length_cons] at hp; have c0 := hP1.c0; have hcut := suf_one hP1.suf hp))
          have b1 : (0 : Int) ≤ (p : Int) := by omega
          have b2 : (p : Int) + 1 ≤ (s.length : Int) := by omega
          have b3 : (p : Int) ≤ (p : Int) + 1 := by omega
          have hwr : IntKind.i64.wrap ((p : Int) + 1) = (p : Int) + 1 := by rw [IntKind.wrap_i64]; omega
          have ht : ((p : Int) + 1).toNat = p + 1 := by omega
          go_quiet ((go_at_call 96; exact Calls.quiet_of_same (hH _)))
          go_wp2
          exact ⟨rfl, (hK.trans hK1).drewN nq, by rw [HY.out]; exact hpb⟩
        · have HY : Hid (Jsn.four m (4 - (k + 1)) (x * 16 + Asc.hexV (Asc.bt c)) r = X) := by
            show _ = _
            rw [← hE, hc, show 4 - (k + 1) = j from by omega]
            rfl
          have hh := (hex_one c).1 hc
          have hH := fun w => Hex_one c w
          rw [hh.1, hh.2] at hH
          clear hE HE hh hc
          generalize Asc.hexV (Asc.bt c) = d at *
          go_wp2_with (first
            | (go_at_call 65; refine (peek_ok hP).mono ?_; rintro e w1 ⟨rfl, hP1, hK1⟩; obtain ⟨p, hp, c1⟩ := hP1.c1; simp only [List.length_cons] at hp; have c0 := hP1.c0; have f1 := hP1.free 1; have hcut := suf_one hP1.suf hp))
          have b1 : (0 : Int) ≤ (p : Int) := by omega
          have b2 : (p : Int) + 1 ≤ (s.length : Int) := by omega
          have b3 : (p : Int) ≤ (p : Int) + 1 := by omega
          have hwr : IntKind.i64.wrap ((p : Int) + 1) = (p : Int) + 1 := by rw [IntKind.wrap_i64]; omega
          have ht : ((p : Int) + 1).toNat = p + 1 := by omega
          go_quiet ((go_at_call 96; exact Calls.quiet_of_same (hH _)))
          have hor : bits BinOp.or IntKind.i32 (x * 16) d = x * 16 + d := or_hex32 x d hx0 (by omega) hb.1 hb.2
          go_wp2
          go_roundw
          case rel =>
            refine ⟨k + 1, x * 16 + d, r, by first | rfl | rw [hor], by go_num, by omega, by omega, ?_, (hP1.drewN nq).tail p hp, ((hK.trans hK1).drewN nq).trans (Kept.set _ _ _ _), HY⟩
            have : (16 : Int) ^ (k + 1) = 16 ^ k * 16 := Int.pow_succ _ _
            omega
          case measure => simp [intOf]; omega
    · obtain rfl : k = 4 := by omega
      have HY : Hid (X = .ok x z) := HE.out.symm
      go_wp2
      go_ret
      rw [HY.out]
      exact ⟨hK, rfl, hP⟩
/-- Four hex digits are a number below 65536. -/
theorem four_bd (m : Nat) : ∀ (k : Nat) (v : Int) (l r : List UInt8) (x : Int), 0 ≤ v → Jsn.four m k v l = .ok x r → 0 ≤ x ∧ x < (v + 1) * 16 ^ k
  | 0, v, l, r, x, hv, h => by cases h; exact ⟨hv, by simp; omega⟩
  | k + 1, v, [], r, x, hv, h => by cases h
  | k + 1, v, c :: l, r, x, hv, h => by
    rw [four_cons] at h
    split at h
    · have hb := Asc.hexV_bd (Asc.bt c)
      have := four_bd m k _ l r x (by omega) h
      refine ⟨this.1, Int.lt_of_lt_of_le this.2 ?_⟩
      have e : (v + 1) * 16 ^ (k + 1) = ((v + 1) * 16) * 16 ^ k := by rw [Int.pow_succ, Int.mul_assoc, Int.mul_comm (16 ^ k) 16, ← Int.mul_assoc]
      rw [e]
      exact Int.mul_le_mul_of_nonneg_right (by omega) (Int.pow_nonneg (by decide))
    · cases h
theorem four_bd4 {m : Nat} {l r : List UInt8} {x : Int} (h : Jsn.four m 4 0 l = .ok x r) : 0 ≤ x ∧ x < 65536 := four_bd m 4 0 l r x (by omega) h
theorem must_ok {m : Nat} {c : UInt8} {l r : List UInt8} {u : Unit} (h : Jsn.mustR m c l = .ok u r) : l = c :: r := by
  cases l with
  | nil => cases h
  | cons d t =>
    replace h : (if d = c then (.ok () t : Jsn.R Unit) else .err 3 m) = .ok u r := h
    split at h
    · rename_i e; cases h; rw [e]
    · cases h
theorem must_err {m : Nat} {c : UInt8} {l : List UInt8} {y : Int} {k : Nat} (h : Jsn.mustR m c l = .err y k) : (l = [] ∧ y = 4 ∧ k = 0) ∨ ∃ d t, l = d :: t ∧ d ≠ c ∧ y = 3 ∧ k = m := by
  cases l with
  | nil => cases h; exact .inl ⟨rfl, rfl, rfl⟩
  | cons d t =>
    replace h : (if d = c then (.ok () t : Jsn.R Unit) else .err 3 m) = .err y k := h
    split at h
    · cases h
    · rename_i e; cases h; exact .inr ⟨d, t, rfl, e, rfl, rfl⟩
end Go.Proofs.YtpnmiknikkhliaaDoor
/- The contract of the parser's sign. -/
set_option linter.unusedVariables false
set_option linter.unusedSimpArgs false
namespace Go.Proofs.YtpnmiknikkhliaaDoor
open Go.RowKit
set_option maxHeartbeats 2000000 in
theorem sign_any {b n m : Nat} {s l : List UInt8} {w : World} (h : Ps b s l n w) (f : Nat) (hf : f + m = s.length) :
    Calls Tryd.prog 84 #[.pointer (some ⟨b, 0, none⟩), .int .i64 (f : Int)] w fun e w' => Kept b w w' ∧ Ans (Jsn.signR m l) (fun v r => e = .returned (.int .i32 v) ∧ Ps b s r n w') (fun y k => e = boom s y k) := by
  have hlen := h.len
  have hpb : .panicked [{ v := .iface 37 (.agg #[.int .i64 3, .int .i64 (f : Int)]), recovered := false }] = boom s 3 m := by
    obtain rfl : f = s.length - m := by omega
    rfl
  have hF1 := four_any h f hf
  have hX : Jsn.signR m l = (Jsn.four m 4 0 l).bind fun s l1 => if s < 55296 ∨ 57344 ≤ s then .ok s l1 else if 56320 ≤ s then .err 3 m else (Jsn.mustR m 92 l1).bind fun _ l2 => (Jsn.mustR m 117 l2).bind fun _ l3 => (Jsn.four m 4 0 l3).bind fun h l4 => if h < 56320 ∨ 57344 ≤ h then .err 3 m else .ok (65536 + (s - 55296) * 1024 + (h - 56320)) l4 := rfl
  cases hf1 : Jsn.four m 4 0 l with
  | err y k =>
    have hX2 : Jsn.signR m l = .err y k := by rw [hX, hf1]; rfl
    rw [hX2]
    clear hX hX2
    go_enter Tryd.func84, Tryd.ntmps84
    go_wp2_with (first
      | (go_at_call 92; refine hF1.mono ?_; rintro e w1 ⟨hK1, hA1⟩; rw [hf1] at hA1; replace hA1 : e = boom s y k := hA1; subst hA1))
    exact ⟨rfl, hK1, rfl⟩
  | ok x l1 =>
    rw [hf1] at hX
    replace hX : Jsn.signR m l = if x < 55296 ∨ 57344 ≤ x then .ok x l1 else if 56320 ≤ x then .err 3 m else (Jsn.mustR m 92 l1).bind fun _ l2 => (Jsn.mustR m 117 l2).bind fun _ l3 => (Jsn.four m 4 0 l3).bind fun h l4 => if h < 56320 ∨ 57344 ≤ h then .err 3 m else .ok (65536 + (x - 55296) * 1024 + (h - 56320)) l4 := hX
    have hbd := four_bd4 hf1
    by_cases hlo : x < 55296
    · rw [if_pos (.inl hlo)] at hX
      rw [hX]
      clear hX
      go_enter Tryd.func84, Tryd.ntmps84
      go_wp2_with (first
        | (go_at_call 92; refine hF1.mono ?_; rintro e w1 ⟨hK1, hA1⟩; rw [hf1] at hA1; obtain ⟨rfl, hP1⟩ := hA1; clear hF1))
      go_ret
      exact ⟨hK1, rfl, hP1⟩
    by_cases hhi : 57344 ≤ x
    · rw [if_pos (.inr hhi)] at hX
      rw [hX]
      clear hX
      go_enter Tryd.func84, Tryd.ntmps84
      go_wp2_with (first
        | (go_at_call 92; refine hF1.mono ?_; rintro e w1 ⟨hK1, hA1⟩; rw [hf1] at hA1; obtain ⟨rfl, hP1⟩ := hA1; clear hF1))
      go_ret
      exact ⟨hK1, rfl, hP1⟩
    rw [if_neg (by omega)] at hX
    by_cases hsec : 56320 ≤ x
    · rw [if_pos hsec] at hX
      rw [hX]
      clear hX
      go_enter Tryd.func84, Tryd.ntmps84
      go_wp2_with (first
        | (go_at_call 92; refine hF1.mono ?_; rintro e w1 ⟨hK1, hA1⟩; rw [hf1] at hA1; obtain ⟨rfl, hP1⟩ := hA1; clear hF1))
      exact ⟨rfl, hK1, hpb⟩
    rw [if_neg hsec] at hX
    cases hm1 : Jsn.mustR m 92 l1 with
    | err y k =>
      have hX2 : Jsn.signR m l = .err y k := by rw [hX, hm1]; rfl
      rw [hX2]
      clear hX hX2
      rcases must_err hm1 with ⟨rfl, rfl, rfl⟩ | ⟨d, t, rfl, hd, rfl, rfl⟩
      · clear hm1
        go_enter Tryd.func84, Tryd.ntmps84
        go_wp2_with (first
          | (go_at_call 92; refine hF1.mono ?_; rintro e w1 ⟨hK1, hA1⟩; rw [hf1] at hA1; obtain ⟨rfl, hP1⟩ := hA1; clear hF1)
          | (go_at_call 70; refine (next_end hP1).mono ?_; rintro e w2 ⟨rfl, hK2⟩))
        exact ⟨rfl, hK1.trans hK2, rfl⟩
      · clear hm1
        have hne : ((d.toNat : Int) != 92) = true := by rw [bne_iff_ne]; exact fun e => hd (byte_eq_int.1 e)
        go_enter Tryd.func84, Tryd.ntmps84
        go_wp2_with (first
          | (go_at_call 92; refine hF1.mono ?_; rintro e w1 ⟨hK1, hA1⟩; rw [hf1] at hA1; obtain ⟨rfl, hP1⟩ := hA1; clear hF1)
          | (go_at_call 70; refine (next_ok hP1).mono ?_; rintro e w2 ⟨rfl, hP2, hK2⟩))
        exact ⟨rfl, hK1.trans hK2, hpb⟩
    | ok _ l2 =>
      obtain rfl := must_ok hm1
      have hX2 : Jsn.signR m l = (Jsn.mustR m 117 l2).bind fun _ l3 => (Jsn.four m 4 0 l3).bind fun h l4 => if h < 56320 ∨ 57344 ≤ h then .err 3 m else .ok (65536 + (x - 55296) * 1024 + (h - 56320)) l4 := by rw [hX, hm1]; rfl
      clear hX hm1
      cases hm2 : Jsn.mustR m 117 l2 with
      | err y k =>
        have hX3 : Jsn.signR m l = .err y k := by rw [hX2, hm2]; rfl
        rw [hX3]
        clear hX2 hX3
        rcases must_err hm2 with ⟨rfl, rfl, rfl⟩ | ⟨d, t, rfl, hd, rfl, rfl⟩
        · clear hm2
          have hN := fun w (hP : Ps b s [92] n w) => next_ok hP
          go_enter Tryd.func84, Tryd.ntmps84
          go_wp2_with (first
            | (go_at_call 92; refine hF1.mono ?_; rintro e w1 ⟨hK1, hA1⟩; rw [hf1] at hA1; obtain ⟨rfl, hP1⟩ := hA1; clear hF1)
            | (go_at_call 70; refine (hN _ hP1).mono ?_; rintro e w2 ⟨rfl, hP2, hK2⟩; clear hN)
            | (go_at_call 70; refine (next_end hP2).mono ?_; rintro e w3 ⟨rfl, hK3⟩))
          exact ⟨rfl, (hK1.trans hK2).trans hK3, rfl⟩
        · clear hm2
          have hne : ((d.toNat : Int) != 117) = true := by rw [bne_iff_ne]; exact fun e => hd (byte_eq_int.1 e)
          have hN := fun w (hP : Ps b s (92 :: d :: t) n w) => next_ok hP
          go_enter Tryd.func84, Tryd.ntmps84
          go_wp2_with (first
            | (go_at_call 92; refine hF1.mono ?_; rintro e w1 ⟨hK1, hA1⟩; rw [hf1] at hA1; obtain ⟨rfl, hP1⟩ := hA1; clear hF1)
            | (go_at_call 70; refine (hN _ hP1).mono ?_; rintro e w2 ⟨rfl, hP2, hK2⟩; clear hN)
            | (go_at_call 70; refine (next_ok hP2).mono ?_; rintro e w3 ⟨rfl, hP3, hK3⟩))
          exact ⟨rfl, (hK1.trans hK2).trans hK3, hpb⟩
      | ok _ l3 =>
        obtain rfl := must_ok hm2
        have hX3 : Jsn.signR m l = (Jsn.four m 4 0 l3).bind fun h l4 => if h < 56320 ∨ 57344 ≤ h then .err 3 m else .ok (65536 + (x - 55296) * 1024 + (h - 56320)) l4 := by rw [hX2, hm2]; rfl
        clear hX2 hm2
        have hN := fun w (hP : Ps b s (92 :: 117 :: l3) n w) => next_ok hP
        cases hf2 : Jsn.four m 4 0 l3 with
        | err y k =>
          have hX4 : Jsn.signR m l = .err y k := by rw [hX3, hf2]; rfl
          rw [hX4]
          clear hX3 hX4
          go_enter Tryd.func84, Tryd.ntmps84
          go_wp2_with (first
            | (go_at_call 92; refine hF1.mono ?_; rintro e w1 ⟨hK1, hA1⟩; rw [hf1] at hA1; obtain ⟨rfl, hP1⟩ := hA1; clear hF1)
            | (go_at_call 70; refine (hN _ hP1).mono ?_; rintro e w2 ⟨rfl, hP2, hK2⟩; clear hN)
            | (go_at_call 70; refine (next_ok hP2).mono ?_; rintro e w3 ⟨rfl, hP3, hK3⟩)
            | (go_at_call 92; refine (four_any hP3 f hf).mono ?_; rintro e w4 ⟨hK4, hA4⟩; rw [hf2] at hA4; replace hA4 : e = boom s y k := hA4; subst hA4))
          exact ⟨rfl, ((hK1.trans hK2).trans hK3).trans hK4, rfl⟩
        | ok g l4 =>
          have hbd2 := four_bd4 hf2
          rw [hf2] at hX3
          replace hX3 : Jsn.signR m l = if g < 56320 ∨ 57344 ≤ g then .err 3 m else .ok (65536 + (x - 55296) * 1024 + (g - 56320)) l4 := hX3
          by_cases hg : g < 56320 ∨ 57344 ≤ g
          · rw [if_pos hg] at hX3
            rw [hX3]
            clear hX3
            rcases hg with hg | hg
            · skip
              go_enter Tryd.func84, Tryd.ntmps84
              go_wp2_with (first
                | (go_at_call 92; refine hF1.mono ?_; rintro e w1 ⟨hK1, hA1⟩; rw [hf1] at hA1; obtain ⟨rfl, hP1⟩ := hA1; clear hF1)
                | (go_at_call 70; refine (hN _ hP1).mono ?_; rintro e w2 ⟨rfl, hP2, hK2⟩; clear hN)
                | (go_at_call 70; refine (next_ok hP2).mono ?_; rintro e w3 ⟨rfl, hP3, hK3⟩)
                | (go_at_call 92; refine (four_any hP3 f hf).mono ?_; rintro e w4 ⟨hK4, hA4⟩; rw [hf2] at hA4; obtain ⟨rfl, hP4⟩ := hA4))
              exact ⟨rfl, ((hK1.trans hK2).trans hK3).trans hK4, hpb⟩
            · skip
              go_enter Tryd.func84, Tryd.ntmps84
              go_wp2_with (first
                | (go_at_call 92; refine hF1.mono ?_; rintro e w1 ⟨hK1, hA1⟩; rw [hf1] at hA1; obtain ⟨rfl, hP1⟩ := hA1; clear hF1)
                | (go_at_call 70; refine (hN _ hP1).mono ?_; rintro e w2 ⟨rfl, hP2, hK2⟩; clear hN)
                | (go_at_call 70; refine (next_ok hP2).mono ?_; rintro e w3 ⟨rfl, hP3, hK3⟩)
                | (go_at_call 92; refine (four_any hP3 f hf).mono ?_; rintro e w4 ⟨hK4, hA4⟩; rw [hf2] at hA4; obtain ⟨rfl, hP4⟩ := hA4))
              exact ⟨rfl, ((hK1.trans hK2).trans hK3).trans hK4, hpb⟩
          · rw [if_neg hg] at hX3
            rw [hX3]
            clear hX3
            have hg1 : ¬ g < 56320 := fun e => hg (.inl e)
            have hg2 : ¬ 57344 ≤ g := fun e => hg (.inr e)
            clear hg
            go_enter Tryd.func84, Tryd.ntmps84
            go_wp2_with (first
              | (go_at_call 92; refine hF1.mono ?_; rintro e w1 ⟨hK1, hA1⟩; rw [hf1] at hA1; obtain ⟨rfl, hP1⟩ := hA1; clear hF1)
              | (go_at_call 70; refine (hN _ hP1).mono ?_; rintro e w2 ⟨rfl, hP2, hK2⟩; clear hN)
              | (go_at_call 70; refine (next_ok hP2).mono ?_; rintro e w3 ⟨rfl, hP3, hK3⟩)
              | (go_at_call 92; refine (four_any hP3 f hf).mono ?_; rintro e w4 ⟨hK4, hA4⟩; rw [hf2] at hA4; obtain ⟨rfl, hP4⟩ := hA4))
            go_ret
            exact ⟨((hK1.trans hK2).trans hK3).trans hK4, by go_num, hP4⟩
end Go.Proofs.YtpnmiknikkhliaaDoor
/- The contract of the parser's escaped. -/
set_option linter.unusedVariables false
set_option linter.unusedSimpArgs false
namespace Go.Proofs.YtpnmiknikkhliaaDoor
open Go.RowKit
theorem ne_byte {c d : UInt8} (h : c ≠ d) : ((c.toNat : Int) == (d.toNat : Int)) = false := beq_eq_false_iff_ne.2 fun e => h (byte_eq_int.1 e)
theorem simple_no (c : UInt8) : Jsn.simple c = none → c ≠ 34 ∧ c ≠ 92 ∧ c ≠ 47 ∧ c ≠ 98 ∧ c ≠ 116 ∧ c ≠ 110 ∧ c ≠ 102 ∧ c ≠ 114 := by revert c; apply Jsn.byte_all; decide +kernel
theorem simple_yes (c : UInt8) : ∀ x, Jsn.simple c = some x → (c = 34 ∧ x = 34) ∨ (c = 92 ∧ x = 92) ∨ (c = 47 ∧ x = 47) ∨ (c = 98 ∧ x = 8) ∨ (c = 116 ∧ x = 9) ∨ (c = 110 ∧ x = 10) ∨ (c = 102 ∧ x = 12) ∨ (c = 114 ∧ x = 13) := by
  intro x
  unfold Jsn.simple
  intro h
  repeat' (split at h)
  all_goals first | (cases h; done) | (have e := Option.some.inj h; subst e; simp_all)
set_option maxHeartbeats 2000000 in
theorem escaped_any {b n : Nat} {s r : List UInt8} {x : UInt8} {w : World} (h : Ps b s (x :: r) n w) :
    Calls Tryd.prog 69 #[.pointer (some ⟨b, 0, none⟩)] w fun e w' => Kept b w w' ∧ Ans (Jsn.escR (r.length + 1) r) (fun v z => e = .returned (.int .i32 v) ∧ Ps b s z n w') (fun y k => e = boom s y k) := by
  obtain ⟨f, hf, c1⟩ := h.c1
  simp only [List.length_cons] at hf
  have f1 := h.free 1
  have hlen := h.len
  have hT := h.tail f hf
  have hKT := Kept.set b 1 w (.int .i64 ((f : Int) + 1))
  have hpb : .panicked [{ v := .iface 37 (.agg #[.int .i64 3, .int .i64 (f : Int)]), recovered := false }] = boom s 3 (r.length + 1) := by
    obtain rfl : f = s.length - (r.length + 1) := by omega
    rfl
  cases r with
  | nil =>
    go_enter Tryd.func69, Tryd.ntmps69
    go_wp2_with (first
      | (go_at_call 70; refine (next_end hT).mono ?_; rintro e w2 ⟨rfl, hK2⟩))
    exact ⟨rfl, hKT.trans hK2, rfl⟩
  | cons c t =>
    have hX : Jsn.escR ((c :: t).length + 1) (c :: t) = (match Jsn.simple c with | some x => .ok x t | none => if c = 117 then Jsn.signR ((c :: t).length + 1) t else .err 3 ((c :: t).length + 1)) := rfl
    have hN := next_ok hT
    cases hsm : Jsn.simple c with
    | some v =>
      rw [hsm] at hX
      replace hX : Jsn.escR ((c :: t).length + 1) (c :: t) = .ok v t := hX
      rw [hX]
      clear hX
      rcases simple_yes c v hsm with ⟨rfl, rfl⟩ | ⟨rfl, rfl⟩ | ⟨rfl, rfl⟩ | ⟨rfl, rfl⟩ | ⟨rfl, rfl⟩ | ⟨rfl, rfl⟩ | ⟨rfl, rfl⟩ | ⟨rfl, rfl⟩
      · clear hsm
        go_enter Tryd.func69, Tryd.ntmps69
        go_wp2_with (first
          | (go_at_call 70; refine hN.mono ?_; rintro e w2 ⟨rfl, hP2, hK2⟩))
        go_ret
        exact ⟨hKT.trans hK2, rfl, hP2⟩
      · clear hsm
        go_enter Tryd.func69, Tryd.ntmps69
        go_wp2_with (first
          | (go_at_call 70; refine hN.mono ?_; rintro e w2 ⟨rfl, hP2, hK2⟩))
        go_ret
        exact ⟨hKT.trans hK2, rfl, hP2⟩
      · clear hsm
        go_enter Tryd.func69, Tryd.ntmps69
        go_wp2_with (first
          | (go_at_call 70; refine hN.mono ?_; rintro e w2 ⟨rfl, hP2, hK2⟩))
        go_ret
        exact ⟨hKT.trans hK2, rfl, hP2⟩
      · clear hsm
        go_enter Tryd.func69, Tryd.ntmps69
        go_wp2_with (first
          | (go_at_call 70; refine hN.mono ?_; rintro e w2 ⟨rfl, hP2, hK2⟩))
        go_ret
        exact ⟨hKT.trans hK2, rfl, hP2⟩
      · clear hsm
        go_enter Tryd.func69, Tryd.ntmps69
        go_wp2_with (first
          | (go_at_call 70; refine hN.mono ?_; rintro e w2 ⟨rfl, hP2, hK2⟩))
        go_ret
        exact ⟨hKT.trans hK2, rfl, hP2⟩
      · clear hsm
        go_enter Tryd.func69, Tryd.ntmps69
        go_wp2_with (first
          | (go_at_call 70; refine hN.mono ?_; rintro e w2 ⟨rfl, hP2, hK2⟩))
        go_ret
        exact ⟨hKT.trans hK2, rfl, hP2⟩
      · clear hsm
        go_enter Tryd.func69, Tryd.ntmps69
        go_wp2_with (first
          | (go_at_call 70; refine hN.mono ?_; rintro e w2 ⟨rfl, hP2, hK2⟩))
        go_ret
        exact ⟨hKT.trans hK2, rfl, hP2⟩
      · clear hsm
        go_enter Tryd.func69, Tryd.ntmps69
        go_wp2_with (first
          | (go_at_call 70; refine hN.mono ?_; rintro e w2 ⟨rfl, hP2, hK2⟩))
        go_ret
        exact ⟨hKT.trans hK2, rfl, hP2⟩
    | none =>
      rw [hsm] at hX
      obtain ⟨n0, n1, n2, n3, n4, n5, n6, n7⟩ := simple_no c hsm
      clear hsm
      have q0 : ((c.toNat : Int) == 34) = false := ne_byte n0
      have q1 : ((c.toNat : Int) == 92) = false := ne_byte n1
      have q2 : ((c.toNat : Int) == 47) = false := ne_byte n2
      have q3 : ((c.toNat : Int) == 98) = false := ne_byte n3
      have q4 : ((c.toNat : Int) == 116) = false := ne_byte n4
      have q5 : ((c.toNat : Int) == 110) = false := ne_byte n5
      have q6 : ((c.toNat : Int) == 102) = false := ne_byte n6
      have q7 : ((c.toNat : Int) == 114) = false := ne_byte n7
      clear n0 n1 n2 n3 n4 n5 n6 n7
      by_cases hu : c = 117
      · replace hX : Jsn.escR ((c :: t).length + 1) (c :: t) = Jsn.signR ((c :: t).length + 1) t := by rw [hX]; exact if_pos hu
        subst hu
        cases hz : Jsn.signR ((117 :: t).length + 1) t with
        | err y k =>
          rw [hz] at hX
          rw [hX]
          clear hX
          go_enter Tryd.func69, Tryd.ntmps69
          go_wp2_with (first
            | (go_at_call 70; refine hN.mono ?_; rintro e w2 ⟨rfl, hP2, hK2⟩)
            | (go_at_call 84; refine (sign_any (m := (117 :: t).length + 1) hP2 f (by simp only [List.length_cons] at hf ⊢; omega)).mono ?_; rintro e w3 ⟨hK3, hA⟩; rw [hz] at hA; replace hA : e = boom s y k := hA; subst hA))
          exact ⟨rfl, (hKT.trans hK2).trans hK3, rfl⟩
        | ok v z =>
          rw [hz] at hX
          rw [hX]
          clear hX
          go_enter Tryd.func69, Tryd.ntmps69
          go_wp2_with (first
            | (go_at_call 70; refine hN.mono ?_; rintro e w2 ⟨rfl, hP2, hK2⟩)
            | (go_at_call 84; refine (sign_any (m := (117 :: t).length + 1) hP2 f (by simp only [List.length_cons] at hf ⊢; omega)).mono ?_; rintro e w3 ⟨hK3, hA⟩; rw [hz] at hA; obtain ⟨rfl, hP3⟩ := hA))
          go_ret
          exact ⟨(hKT.trans hK2).trans hK3, rfl, hP3⟩
      · replace hX : Jsn.escR ((c :: t).length + 1) (c :: t) = .err 3 ((c :: t).length + 1) := by rw [hX]; exact if_neg hu
        rw [hX]
        clear hX
        have q8 : ((c.toNat : Int) == 117) = false := ne_byte hu
        go_enter Tryd.func69, Tryd.ntmps69
        go_wp2_with (first
          | (go_at_call 70; refine hN.mono ?_; rintro e w2 ⟨rfl, hP2, hK2⟩))
        exact ⟨rfl, hKT.trans hK2, hpb⟩
end Go.Proofs.YtpnmiknikkhliaaDoor
