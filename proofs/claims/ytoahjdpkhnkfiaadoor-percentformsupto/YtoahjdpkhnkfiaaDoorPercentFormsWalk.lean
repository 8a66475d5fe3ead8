/- The walk of the law PercentForms, out of the contracts. -/
import Derived.Test.YtoahjdpkhnkfiaaDoorPercentPairsWalk
import Derived.Test.YtoahjdpkhnkfiaaDoorPRForm
import Derived.Test.YtoahjdpkhnkfiaaDoorPRParse
namespace Go.Proofs.YtoahjdpkhnkfiaaDoor.percentForms
open Go.RowKit
theorem parsed_len (l : List UInt8) : (parsed l).length ≤ 1000000 := by
  unfold parsed
  split
  · simp
  · have h1 := parse_le l
    omega
set_option maxHeartbeats 4000000 in
set_option maxRecDepth 100000 in
theorem walk (a0 : Option Addr) (len0 cap0 n0 : Nat) (z0 : List Pct.Pr) (a1 : ByteArray) (w : World) (h0 : ArgPairs w a0 len0 cap0 n0 z0) (hn0 : n0 ≤ 1048576) (_ : a1.size ≤ maxLen) (hT : MaxL w) :
    Calls Tryd.prog 4 #[.slice a0 len0 cap0, .string a1] w fun e w' => e = .returned (.bool true) ∧ Below w.heap.size w w' := by
  obtain ⟨rfl, hmx, hr, hz⟩ := h0
  have HR : Hid (ReadsPairs w (.slice a0 z0.length cap0) z0) := hr
  have HZ : Hid (∀ p ∈ z0, p.1.length ≤ n0 ∧ p.2.length ≤ n0) := hz
  clear hr hz
  unfold maxLen at hmx
  go_enter Tryd.func4, Tryd.ntmps4
  go_wp2_with fail
  go_at_call 15
  refine (far_any _ z0 _ HR.out hmx).mono ?_
  rintro e w1 ⟨r, rfl, hr, hb1⟩
  cases r
  case true =>
    go_wp2_with (go_at_call 10; refine (alive_any _ (hT.below hb1)).mono ?_; rintro e w2 ⟨rfl, hb⟩)
    go_ret
    exact ⟨rfl, bel hb1 hb⟩
  have h60 := hr rfl
  clear hr
  by_cases hl : 3000 < a1.size
  · have hlb := long_yes hl
    go_wp2_with (first
      | (go_at_call 9; refine (long_any _ _).mono ?_; rintro e w2 ⟨rfl, rfl⟩)
      | (go_at_call 10; refine (alive_any _ (hT.below hb1)).mono ?_; rintro e w3 ⟨rfl, hb⟩))
    go_ret
    exact ⟨rfl, bel hb1 hb⟩
  have hlb := long_no hl
  have hnl : a1.data.toList.length ≤ 3000 := by rw [← size_data0]; omega
  obtain ⟨l, rfl⟩ : ∃ l, a1 = str l := ⟨a1.data.toList, (str_self a1).symm⟩
  rw [str_data] at hnl
  have hpl := parsed_len l
  have hfl := form_len z0 n0 HZ.out
  have hfl2 : (Pct.form z0).length ≤ 1000000000 := by
    have h1 : z0.length * (6 * n0 + 2) ≤ 60 * (6 * 1048576 + 2) := Nat.mul_le_mul h60 (by omega)
    omega
  have HF : Hid ((Pct.form z0).length ≤ 1000000000) := hfl2
  have HZ2 : Hid (∀ p ∈ z0, p.1.length ≤ 100000000 ∧ p.2.length ≤ 100000000) := fun p hp => ⟨by have := (HZ.out p hp).1; omega, by have := (HZ.out p hp).2; omega⟩
  have hst := str_beq_yes (rfl : Pct.form z0 = Pct.form z0)
  clear hfl hfl2
  go_wp2_with (first
    | (go_at_call 9; refine (long_any _ _).mono ?_; rintro e w2 ⟨rfl, hw⟩; rw [hw]; clear hw; rw [hlb])
    | (go_at_call 16; refine (Parse_any l _ (hT.below hb1) (by omega)).mono ?_; rintro e w3 ⟨u3, rfl, ho3, hb3⟩; have hb3' := bel hb1 hb3; have hr3 := ho3.reads; clear ho3)
    | (go_at_call 17; refine (RParse_any l _ (by omega)).mono ?_; rintro e w4 ⟨u4, rfl, ho4, hb4⟩; have hb4' := bel hb3' hb4; have hr4 := ho4.reads; clear ho4)
    | (go_at_call 19; refine (theirs_any _ z0 _ (HR.out.below hb4') (by omega)).mono ?_; rintro e w5 ⟨u5, rfl, ho5, hb5⟩; have hb5' := bel hb4' hb5; have hr5 := ho5.reads; clear ho5)
    | (go_at_call 18; refine (Form_any _ z0 _ hr5 (hT.below hb5') (by omega) HZ2.out HF.out).mono ?_; rintro e w6 ⟨rfl, hb6⟩; have hb6' := bel hb5' hb6)
    | (go_at_call 20; refine (RForm_any _ z0 _ (HR.out.below hb6') (by omega) HZ2.out HF.out).mono ?_; rintro e w7 ⟨rfl, hb7⟩; have hb7' := bel hb6' hb7; have hB37 := bel (bel (bel hb4 hb5) hb6) hb7; have hB47 := bel (bel hb5 hb6) hb7)
    | (go_at_call 22; refine (ours_any _ (parsed l) _ (hr3.below hB37) hpl).mono ?_; rintro e w8 ⟨u8, rfl, ho8, hb8⟩; have hb8' := bel hb7' hb8; have hr8 := ho8.reads; clear ho8)
    | (go_at_call 21; refine (same_bel _ _ (parsed l) (parsed l) _ hr8 (hr4.below (bel hB47 hb8)) hpl hpl).mono ?_; rintro e w9 ⟨rfl, hb9⟩; rw [pairs_yes]; have hb9' := bel hb8' hb9)
    | (go_at_call 10; refine (alive_any _ (hT.below hb9')).mono ?_; rintro e w10 ⟨rfl, hb10⟩))
  go_ret
  exact ⟨rfl, bel hb9' hb10⟩
end Go.Proofs.YtoahjdpkhnkfiaaDoor.percentForms
