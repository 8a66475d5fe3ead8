/- Texts laid as one. -/
import Derived.Test.YtoiedadfpbbdgaaKRefA
import Derived.Test.YtoiedadfpbbdgaaKURepair
/- The contract of the reference's Next. -/
namespace Utf
/-- What goes on in the reference's first loop. -/
def goesOn (l : List UInt8) (k : Nat) : Bool := decide (k < sz (at' l 0)) && decide (k < l.length) && goodAt (at' l 0) k (at' l k)
theorem goes_on (l : List UInt8) (k : Nat) (h1 : 1 ≤ k) (hk : k ≤ (part l).1) (h : goesOn l k = true) : k + 1 ≤ (part l).1 := by
  unfold goesOn at h
  simp only [Bool.and_eq_true, decide_eq_true_eq] at h
  refine part_good l k h1 hk h.1.1 h.1.2 ?_
  intro hb
  have := (good_low (at' l 0) k (at' l k) (by omega)).2 hb
  rw [h.2] at this
  cases this
theorem stops (l : List UInt8) (k : Nat) (hl : l ≠ []) (h1 : 1 ≤ k) (hk : k ≤ (part l).1) (h : goesOn l k = false) : part l = (k, decide (k = sz (at' l 0))) := by
  by_cases hs : k < sz (at' l 0) ∧ k < l.length
  · unfold goesOn at h
    rw [decide_eq_true hs.1, decide_eq_true hs.2, Bool.true_and, Bool.true_and] at h
    rw [part_fail l k h1 hk hs.1 ((good_low (at' l 0) k (at' l k) (by omega)).1 h), decide_eq_false (by omega)]
  · exact part_end l k hl h1 hk hs
theorem part_le_sz (l : List UInt8) (h : sz (at' l 0) ≠ 0) : (part l).1 ≤ sz (at' l 0) := by
  unfold part partN
  repeat' split
  all_goals dsimp only
  all_goals omega
/-- The error's number. -/
def why (l : List UInt8) : Int := if (part l).2 then 0 else 9
theorem why_bad {l : List UInt8} (h : (part l).2 = false) : why l = 9 := by unfold why; rw [h]; rfl
theorem why_ok {l : List UInt8} (h : (part l).2 = true) : why l = 0 := by unfold why; rw [h]; rfl
theorem part_sz (l : List UInt8) (h : sz (at' l 0) = 0) : part l = (1, false) := by
  unfold part partN
  rw [if_neg (by omega), if_pos h]
end Utf
namespace Go.Proofs.Ytoiedadfpbbdgaa
open Go.RowKit
set_option maxHeartbeats 2000000 in
set_option maxRecDepth 100000 in
theorem RNext_any (s : ByteArray) (l : List UInt8) (hl : s.data.toList = l) (h : l ≠ []) (w : World) (hz : s.size ≤ 9223372036854775800) :
    Calls Try.prog 97 #[.string s] w fun e w' => e = .returned (.tuple #[.int .i32 ((Utf.dec l).1 : Nat), .int .i64 ((Utf.part l).1 : Nat), .int .i64 (Utf.why l)]) ∧ ∃ n, w' = w.drewN n := by
  have hlen : s.size = l.length := by rw [← hl]; rfl
  have hn := Utf.len_pos h
  have hb0 := Utf.at_lt l 0
  have HL : Hid (s.data.toList = l) := hl
  have h0 : 0 < s.size := by omega
  have g0 : s[0].toNat = Utf.at' l 0 := by rw [at_get s 0 h0, hl]
  have hs4 := Utf.sz_le4 (Utf.at' l 0)
  have hemp : s.toList.isEmpty = false := by
    rw [ByteArray.toList_eq, hl]
    cases l with
    | nil => exact absurd rfl h
    | cons _ _ => rfl
  clear hl
  by_cases hsz : Utf.sz (Utf.at' l 0) = 0
  · have HP : Hid (Utf.part l = (1, false)) := Utf.part_sz l hsz
    have HD : Hid (Utf.dec l = (65533, 1)) := Utf.dec_bad l h (by rw [HP.out])
    have hq : ((Utf.sz (Utf.at' l 0) : Int) == 0) = true := by rw [hsz]; rfl
    clear hsz
    go_enter Try.func97, Try.ntmps97
    go_wp2_with (go_at_call 110; refine (size_any _ _).mono ?_; rintro e w1 ⟨rfl, hw⟩; rw [hw]; clear hw)
    go_ret3
    exact ⟨by rw [Utf.why_bad (by rw [HP.out]), HP.out, HD.out]; rfl, 0, rfl⟩
  have hq : ((Utf.sz (Utf.at' l 0) : Int) == 0) = false := by rw [beq_eq_false_iff_ne]; omega
  go_enter Try.func97, Try.ntmps97
  go_wp2_with (go_at_call 110; refine (size_any _ _).mono ?_; rintro e w1 ⟨rfl, hw⟩; rw [hw]; clear hw)
  go_loopw [6] (fun i wr => ∃ k : Nat, 1 ≤ k ∧ k ≤ (Utf.part l).1 ∧ i = .int .i64 k ∧ Hid (∃ m, wr = w.drewN m)) (fun i _ => 5 - (intOf i).toNat)
  case atStart => exact ⟨1, Nat.le_refl _, Utf.part_pos l, rfl, 0, rfl⟩
  case round =>
    obtain ⟨k, hk1, hk, rfl, HW⟩ := hrel
    have hk4 := Utf.part_le4 l
    have hbk := Utf.at_lt l k
    by_cases q1 : k < Utf.sz (Utf.at' l 0)
    · by_cases q2 : k < l.length
      · have hk2 : k < s.size := by omega
        have gk : s[k].toNat = Utf.at' l k := by rw [at_get s k hk2, HL.out]
        cases hg : Utf.goodAt (Utf.at' l 0) k (Utf.at' l k)
        · have HS : Hid (Utf.part l = (k, decide (k = Utf.sz (Utf.at' l 0)))) := Utf.stops l k h hk1 hk (by unfold Utf.goesOn; rw [hg, Bool.and_false])
          have HD : Hid (Utf.dec l = (65533, 1)) := Utf.dec_bad l h (by rw [HS.out]; exact decide_eq_false (by omega))
          go_wp2
          go_quiet ((go_at_call 111; exact Calls.quiet_of_same (good_any _ _ _ _)))
          go_wp2
          go_ret3
          exact ⟨by rw [Utf.why_bad (by rw [HS.out]; exact decide_eq_false (by omega)), HS.out, HD.out]; rfl, quiet_more HW.out nq⟩
        · have HN : Hid (k + 1 ≤ (Utf.part l).1) := Utf.goes_on l k hk1 hk (by unfold Utf.goesOn; rw [hg, decide_eq_true q1, decide_eq_true q2]; rfl)
          go_wp2
          go_quiet ((go_at_call 111; exact Calls.quiet_of_same (good_any _ _ _ _)))
          go_wp2
          go_roundw
          case rel => exact ⟨k + 1, by omega, HN.out, by go_num, quiet_more HW.out nq⟩
          case measure => simp [intOf]; omega
      · have HS : Hid (Utf.part l = (k, decide (k = Utf.sz (Utf.at' l 0)))) := Utf.stops l k h hk1 hk (by unfold Utf.goesOn; rw [decide_eq_false q2, Bool.and_false]; rfl)
        have HD : Hid (Utf.dec l = (65533, 1)) := Utf.dec_bad l h (by rw [HS.out]; exact decide_eq_false (by omega))
        go_wp2
        go_quiet (fail)
        go_wp2
        go_ret3
        exact ⟨by rw [Utf.why_bad (by rw [HS.out]; exact decide_eq_false (by omega)), HS.out, HD.out]; rfl, quiet_more HW.out nq⟩
    · have hks : k = Utf.sz (Utf.at' l 0) := by have := Utf.part_le_sz l hsz; omega
      have HS : Hid (Utf.part l = (k, true)) := by
        show _ = _
        rw [Utf.stops l k h hk1 hk (by unfold Utf.goesOn; rw [decide_eq_false q1]; rfl), decide_eq_true hks]
      have hw : (Utf.part l).2 = true := by rw [HS.out]
      have hval := Utf.val_end l h hw
      have hbd := Utf.val_bd l hw
      have HK : Hid (k = Utf.sz (Utf.at' l 0)) := hks
      clear hks
      have HC : Hid (Utf.sz (Utf.at' l 0) ≤ s.size) := by
        show _ ≤ _
        have := Utf.part_len l h
        rw [HS.out] at this
        have := HK.out
        omega
      have HB : Hid (∀ i, 1 ≤ i → i < Utf.sz (Utf.at' l 0) → 0 ≤ Utf.valAt l (Utf.off (Utf.sz (Utf.at' l 0))) i ∧ Utf.valAt l (Utf.off (Utf.sz (Utf.at' l 0))) i ≤ 30000) := hbd
      have HV : Hid (Utf.valAt l (Utf.off (Utf.sz (Utf.at' l 0))) (Utf.sz (Utf.at' l 0)) = ((Utf.dec l).1 : Int)) := hval
      have HWH : Hid ((Utf.part l).2 = true) := hw
      clear hbd hval hw
      rcases Utf.sz_inv (Utf.at' l 0) hsz with q | q | q | q
      · have t2 : ((Utf.sz (Utf.at' l 0) : Int) == 2) = false := by rw [q.1]; rfl
        have t3 : ((Utf.sz (Utf.at' l 0) : Int) == 3) = false := by rw [q.1]; rfl
        have t4 : ((Utf.sz (Utf.at' l 0) : Int) == 4) = false := by rw [q.1]; rfl
        have HO : Hid (Utf.off (Utf.sz (Utf.at' l 0)) = 0) := by show _ = _; rw [q.1]; rfl
        have q' := q.2
        clear q
        go_wp2
        go_quiet (fail)
        go_wp2
        go_loopw [7, 8] (fun c i wr2 => ∃ j : Nat, 1 ≤ j ∧ j ≤ Utf.sz (Utf.at' l 0) ∧ i = .int .i64 j ∧ c = .int .i32 (Utf.valAt l (Utf.off (Utf.sz (Utf.at' l 0))) j) ∧ wr2 = wr.drewN nq) (fun _ i _ => 5 - (intOf i).toNat)
        case atStart => exact ⟨1, Nat.le_refl _, by omega, rfl, by rw [Utf.val_1, HO.out]; simp, rfl⟩
        case round =>
          obtain ⟨j, hj1, hj, rfl, rfl, rfl⟩ := hrel
          by_cases hjl : j < Utf.sz (Utf.at' l 0)
          · have hj2 : j < s.size := by have := HC.out; omega
            have hj3 : j < l.length := by omega
            have gj : s[j].toNat = Utf.at' l j := by rw [at_get s j hj2, HL.out]
            have hbj := Utf.at_lt l j
            have hvb := HB.out j hj1 hjl
            have HN : Hid (Utf.valAt l (Utf.off (Utf.sz (Utf.at' l 0))) (j + 1) = Utf.valAt l (Utf.off (Utf.sz (Utf.at' l 0))) j * 64 + (Utf.at' l j : Int) - 128) := Utf.val_s l _ j hj1
            go_wp2
            go_roundw
            case rel => exact ⟨j + 1, by omega, by omega, by go_num, by rw [HN.out], by trivial⟩
            case measure => simp [intOf]; omega
          · have HJ : Hid (j = Utf.sz (Utf.at' l 0)) := by show _ = _; omega
            go_wp2
            go_ret3
            exact ⟨by rw [Utf.why_ok HWH.out, ← HV.out, ← HJ.out, HS.out, HK.out, ← HJ.out]; rfl, quiet_more HW.out nq⟩
      · have t2 : ((Utf.sz (Utf.at' l 0) : Int) == 2) = true := by rw [q.1]; rfl
        have t3 : ((Utf.sz (Utf.at' l 0) : Int) == 3) = false := by rw [q.1]; rfl
        have t4 : ((Utf.sz (Utf.at' l 0) : Int) == 4) = false := by rw [q.1]; rfl
        have HO : Hid (Utf.off (Utf.sz (Utf.at' l 0)) = 192) := by show _ = _; rw [q.1]; rfl
        have q' := q.2
        clear q
        go_wp2
        go_quiet (fail)
        go_wp2
        go_loopw [7, 8] (fun c i wr2 => ∃ j : Nat, 1 ≤ j ∧ j ≤ Utf.sz (Utf.at' l 0) ∧ i = .int .i64 j ∧ c = .int .i32 (Utf.valAt l (Utf.off (Utf.sz (Utf.at' l 0))) j) ∧ wr2 = wr.drewN nq) (fun _ i _ => 5 - (intOf i).toNat)
        case atStart => exact ⟨1, Nat.le_refl _, by omega, rfl, by rw [Utf.val_1, HO.out], rfl⟩
        case round =>
          obtain ⟨j, hj1, hj, rfl, rfl, rfl⟩ := hrel
          by_cases hjl : j < Utf.sz (Utf.at' l 0)
          · have hj2 : j < s.size := by have := HC.out; omega
            have hj3 : j < l.length := by omega
            have gj : s[j].toNat = Utf.at' l j := by rw [at_get s j hj2, HL.out]
            have hbj := Utf.at_lt l j
            have hvb := HB.out j hj1 hjl
            have HN : Hid (Utf.valAt l (Utf.off (Utf.sz (Utf.at' l 0))) (j + 1) = Utf.valAt l (Utf.off (Utf.sz (Utf.at' l 0))) j * 64 + (Utf.at' l j : Int) - 128) := Utf.val_s l _ j hj1
            go_wp2
            go_roundw
            case rel => exact ⟨j + 1, by omega, by omega, by go_num, by rw [HN.out], by trivial⟩
            case measure => simp [intOf]; omega
          · have HJ : Hid (j = Utf.sz (Utf.at' l 0)) := by show _ = _; omega
            go_wp2
            go_ret3
            exact ⟨by rw [Utf.why_ok HWH.out, ← HV.out, ← HJ.out, HS.out, HK.out, ← HJ.out]; rfl, quiet_more HW.out nq⟩
      · have t2 : ((Utf.sz (Utf.at' l 0) : Int) == 2) = false := by rw [q.1]; rfl
        have t3 : ((Utf.sz (Utf.at' l 0) : Int) == 3) = true := by rw [q.1]; rfl
        have t4 : ((Utf.sz (Utf.at' l 0) : Int) == 4) = false := by rw [q.1]; rfl
        have HO : Hid (Utf.off (Utf.sz (Utf.at' l 0)) = 224) := by show _ = _; rw [q.1]; rfl
        have q' := q.2
        clear q
        go_wp2
        go_quiet (fail)
        go_wp2
        go_loopw [7, 8] (fun c i wr2 => ∃ j : Nat, 1 ≤ j ∧ j ≤ Utf.sz (Utf.at' l 0) ∧ i = .int .i64 j ∧ c = .int .i32 (Utf.valAt l (Utf.off (Utf.sz (Utf.at' l 0))) j) ∧ wr2 = wr.drewN nq) (fun _ i _ => 5 - (intOf i).toNat)
        case atStart => exact ⟨1, Nat.le_refl _, by omega, rfl, by rw [Utf.val_1, HO.out], rfl⟩
        case round =>
          obtain ⟨j, hj1, hj, rfl, rfl, rfl⟩ := hrel
          by_cases hjl : j < Utf.sz (Utf.at' l 0)
          · have hj2 : j < s.size := by have := HC.out; omega
            have hj3 : j < l.length := by omega
            have gj : s[j].toNat = Utf.at' l j := by rw [at_get s j hj2, HL.out]
            have hbj := Utf.at_lt l j
            have hvb := HB.out j hj1 hjl
            have HN : Hid (Utf.valAt l (Utf.off (Utf.sz (Utf.at' l 0))) (j + 1) = Utf.valAt l (Utf.off (Utf.sz (Utf.at' l 0))) j * 64 + (Utf.at' l j : Int) - 128) := Utf.val_s l _ j hj1
            go_wp2
            go_roundw
            case rel => exact ⟨j + 1, by omega, by omega, by go_num, by rw [HN.out], by trivial⟩
            case measure => simp [intOf]; omega
          · have HJ : Hid (j = Utf.sz (Utf.at' l 0)) := by show _ = _; omega
            go_wp2
            go_ret3
            exact ⟨by rw [Utf.why_ok HWH.out, ← HV.out, ← HJ.out, HS.out, HK.out, ← HJ.out]; rfl, quiet_more HW.out nq⟩
      · have t2 : ((Utf.sz (Utf.at' l 0) : Int) == 2) = false := by rw [q.1]; rfl
        have t3 : ((Utf.sz (Utf.at' l 0) : Int) == 3) = false := by rw [q.1]; rfl
        have t4 : ((Utf.sz (Utf.at' l 0) : Int) == 4) = true := by rw [q.1]; rfl
        have HO : Hid (Utf.off (Utf.sz (Utf.at' l 0)) = 240) := by show _ = _; rw [q.1]; rfl
        have q' := q.2
        clear q
        go_wp2
        go_quiet (fail)
        go_wp2
        go_loopw [7, 8] (fun c i wr2 => ∃ j : Nat, 1 ≤ j ∧ j ≤ Utf.sz (Utf.at' l 0) ∧ i = .int .i64 j ∧ c = .int .i32 (Utf.valAt l (Utf.off (Utf.sz (Utf.at' l 0))) j) ∧ wr2 = wr.drewN nq) (fun _ i _ => 5 - (intOf i).toNat)
        case atStart => exact ⟨1, Nat.le_refl _, by omega, rfl, by rw [Utf.val_1, HO.out], rfl⟩
        case round =>
          obtain ⟨j, hj1, hj, rfl, rfl, rfl⟩ := hrel
          by_cases hjl : j < Utf.sz (Utf.at' l 0)
          · have hj2 : j < s.size := by have := HC.out; omega
            have hj3 : j < l.length := by omega
            have gj : s[j].toNat = Utf.at' l j := by rw [at_get s j hj2, HL.out]
            have hbj := Utf.at_lt l j
            have hvb := HB.out j hj1 hjl
            have HN : Hid (Utf.valAt l (Utf.off (Utf.sz (Utf.at' l 0))) (j + 1) = Utf.valAt l (Utf.off (Utf.sz (Utf.at' l 0))) j * 64 + (Utf.at' l j : Int) - 128) := Utf.val_s l _ j hj1
            go_wp2
            go_roundw
            case rel => exact ⟨j + 1, by omega, by omega, by go_num, by rw [HN.out], by trivial⟩
            case measure => simp [intOf]; omega
          · have HJ : Hid (j = Utf.sz (Utf.at' l 0)) := by show _ = _; omega
            go_wp2
            go_ret3
            exact ⟨by rw [Utf.why_ok HWH.out, ← HV.out, ← HJ.out, HS.out, HK.out, ← HJ.out]; rfl, quiet_more HW.out nq⟩
end Go.Proofs.Ytoiedadfpbbdgaa
/- The contract of the reference's IsText alone (a seat without its Put). -/
namespace Go.Proofs.Ytoiedadfpbbdgaa
open Go.RowKit
def lenOf : Value → Nat
  | .string s => s.size
  | _ => 0
end Go.Proofs.Ytoiedadfpbbdgaa
