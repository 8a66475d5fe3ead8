/- The walk of the law PercentGets, out of the contracts. -/
import Derived.Test.YtoahjdpkhnkfiaaDoorPLaw
import Derived.Test.YtoahjdpkhnkfiaaDoorPFar
import Derived.Test.YtoahjdpkhnkfiaaDoorPArgs
import Derived.Test.YtoahjdpkhnkfiaaDoorPGet
namespace Go.Proofs.YtoahjdpkhnkfiaaDoor.percentGets
open Go.RowKit
theorem bool_yes (b : Bool) : (b == b) = true := by simp
set_option maxHeartbeats 4000000 in
set_option maxRecDepth 100000 in
theorem walk (a0 : Option Addr) (len0 cap0 n0 : Nat) (z0 : List Pct.Pr) (a1 : ByteArray) (w : World) (h0 : ArgPairs w a0 len0 cap0 n0 z0) (_ : a1.size ≤ maxLen) (hT : MaxL w) :
    Calls Tryd.prog 5 #[.slice a0 len0 cap0, .string a1] w fun e w' => e = .returned (.bool true) ∧ Below w.heap.size w w' := by
  obtain ⟨rfl, hmx, hr, hz⟩ := h0
  have HR : Hid (ReadsPairs w (.slice a0 z0.length cap0) z0) := hr
  clear hr hz
  unfold maxLen at hmx
  go_enter Tryd.func5, Tryd.ntmps5
  go_wp2_with fail
  go_at_call 15
  refine (far_any _ z0 _ HR.out hmx).mono ?_
  rintro e w1 ⟨r, rfl, hr, hb1⟩
  cases r
  case true =>
    go_wp2_with (go_at_call 10; refine (alive_any _ (hT.below hb1)).mono ?_; rintro e w2 ⟨rfl, hb⟩)
    go_ret
    exact ⟨rfl, bel hb1 hb⟩
  have h60 := hr rfl
  clear hr
  by_cases hl : 3000 < a1.size
  · have hlb := long_yes hl
    go_wp2_with (first
      | (go_at_call 9; refine (long_any _ _).mono ?_; rintro e w2 ⟨rfl, rfl⟩)
      | (go_at_call 10; refine (alive_any _ (hT.below hb1)).mono ?_; rintro e w3 ⟨rfl, hb⟩))
    go_ret
    exact ⟨rfl, bel hb1 hb⟩
  have hlb := long_no hl
  have hnl : a1.data.toList.length ≤ 3000 := by rw [← size_data0]; omega
  obtain ⟨n, rfl⟩ : ∃ n, a1 = str n := ⟨a1.data.toList, (str_self a1).symm⟩
  rw [str_data] at hnl
  have hal := Pct.all_len z0 n
  have hst := str_beq_yes (rfl : (Pct.get z0 n).1 = (Pct.get z0 n).1)
  go_wp2_with (first
    | (go_at_call 9; refine (long_any _ _).mono ?_; rintro e w2 ⟨rfl, rfl⟩; rw [hlb])
    | (go_at_call 19; refine (theirs_any _ z0 _ (HR.out.below hb1) (by omega)).mono ?_; rintro e w4 ⟨u, rfl, ho4, hb4⟩; have hb4' := bel hb1 hb4; have hr4 := ho4.reads; clear ho4)
    | (go_at_call 23; refine (Get_any _ z0 n _ hr4 (by omega)).mono ?_; rintro e w5 ⟨rfl, hb5⟩; have hb5' := bel hb4' hb5)
    | (go_at_call 24; refine (RGet_any _ z0 n _ (HR.out.below hb5') (by omega)).mono ?_; rintro e w6 ⟨rfl, hb6⟩; have hb6' := bel hb5' hb6))
  go_at_call 19
  refine (theirs_any _ z0 _ (HR.out.below hb6') (by omega)).mono ?_
  rintro e w7 ⟨u7, rfl, ho7, hb7⟩
  have hb7' := bel hb6' hb7
  have hr7 := ho7.reads
  clear ho7 hr4
  go_wp2_with (first
    | (go_at_call 26; refine (All_any _ z0 n _ hr7 (by omega) (by omega)).mono ?_; rintro e w8 ⟨u8, rfl, ho8, hb8⟩; have hb8' := bel hb7' hb8; have hr8 := ho8.reads; clear ho8)
    | (go_at_call 27; refine (RAll_any _ z0 n _ (HR.out.below hb8') (by omega) (by omega)).mono ?_; rintro e w9 ⟨u9, rfl, ho9, hb9⟩; have hb9' := bel hb8' hb9; have hr9 := ho9.reads; clear ho9)
    | (go_at_call 25; refine (Texts_bel _ _ _ _ _ (hr8.below hb9) hr9 (by omega) (by omega)).mono ?_; rintro e w10 ⟨rfl, hb10⟩; rw [texts_yes]; have hb10' := bel hb9' hb10)
    | (go_at_call 10; refine (alive_any _ (hT.below hb10')).mono ?_; rintro e w11 ⟨rfl, hb11⟩))
  go_ret
  exact ⟨rfl, bel hb10' hb11⟩
end Go.Proofs.YtoahjdpkhnkfiaaDoor.percentGets
