/- The walk of the law UtfTexts, out of the contracts. -/
import Derived.Test.YtooojamocndpiaaUAlive
import Derived.Test.YtooojamocndpiaaUSigns
namespace Go.Proofs.Ytooojamocndpiaa.utfTexts
open Go.RowKit
theorem RIsText_bel (l : List UInt8) (w : World) (hz : l.length ≤ 1000000000) :
    Calls Try.prog 14 #[.string (str l)] w fun e w' => e = .returned (.bool (Utf.isText l)) ∧ Below w.heap.size w w' := by
  refine (RIsText_any l w hz).mono ?_
  rintro e w' ⟨rfl, n, rfl⟩
  exact ⟨rfl, below_drewN n (Below.refl _ w)⟩
theorem same_bel (v u : Value) (ts us : List Int) (w : World) (hv : ReadsCells w v (cellsR ts)) (hu : ReadsCells w u (cellsR us)) (hl : ts.length ≤ 1000000000) (hm : us.length ≤ 1000000000) :
    Calls Try.prog 17 #[v, u] w fun e w' => e = .returned (.bool (decide (ts = us))) ∧ Below w.heap.size w w' := by
  refine (same_any v u ts us w hv hu hl hm).mono ?_
  rintro e w' ⟨rfl, n, rfl⟩
  exact ⟨rfl, below_drewN n (Below.refl _ w)⟩
theorem Cut_bel (l : List UInt8) (m : Int) (w : World) (hz : l.length ≤ 1000000000) (h0 : -9223372036854775808 ≤ m) (h1 : m ≤ 9223372036854775807) :
    Calls Try.prog 18 #[.string (str l), .int .i64 m] w fun e w' => e = .returned (.string (str (l.take (Utf.cut l m)))) ∧ Below w.heap.size w w' := by
  refine (Cut_any l m w hz h0 h1).mono ?_
  rintro e w' ⟨rfl, n, rfl⟩
  exact ⟨rfl, below_drewN n (Below.refl _ w)⟩
theorem RCut_bel (l : List UInt8) (m : Int) (w : World) (hz : l.length ≤ 1000000000) (h0 : -9223372036854775808 ≤ m) (h1 : m ≤ 9223372036854775807) :
    Calls Try.prog 19 #[.string (str l), .int .i64 m] w fun e w' => e = .returned (.string (str (l.take (Utf.cut l m)))) ∧ Below w.heap.size w w' := by
  refine (RCut_any l m w hz h0 h1).mono ?_
  rintro e w' ⟨rfl, n, rfl⟩
  exact ⟨rfl, below_drewN n (Below.refl _ w)⟩
set_option maxHeartbeats 2000000 in
set_option maxRecDepth 100000 in
theorem walk (a0 : ByteArray) (a1 : Int) (w : World) (_ : a0.size ≤ maxLen) (h1 : (Lit.int .i64 a1).wf = true) :
    Calls Try.prog 4 #[.string a0, .int .i64 a1] w fun e w' => e = .returned (.bool true) ∧ Below w.heap.size w w' := by
  have hm := i64_bd h1
  clear h1
  obtain ⟨l, rfl⟩ : ∃ l, a0 = str l := ⟨_, (str_self a0).symm⟩
  have hsz := str_size l
  by_cases hlong : 3000 < (str l).size
  · have hL := long_yes hlong
    go_enter Try.func4, Try.ntmps4
    go_wp2_with (first
      | (go_at_call 10; refine (long_any _ _).mono ?_; rintro e w1 ⟨rfl, hw⟩; rw [hw]; clear hw)
      | (go_at_call 7; refine (alive_any _).mono ?_; rintro e w2 ⟨rfl, hb⟩))
    go_ret
    exact ⟨rfl, hb⟩
  have hL := long_no hlong
  rw [hsz] at hlong
  have hlen : l.length ≤ 1000000000 := by omega
  have hB : Below w.heap.size w w := Below.refl _ _
  have hsl : (signsOf l).length ≤ 1000000000 := by
    have := signsZ_len l
    unfold signsOf
    split
    · omega
    · simp
  have hss : decide (signsOf l = signsOf l) = true := by simp
  have hbb : (Utf.isText l == Utf.isText l) = true := by simp
  have hx1 := str_list (Utf.rep l)
  have hx2 := str_list (l.take (Utf.cut l a1))
  go_enter Try.func4, Try.ntmps4
  go_wp2_with (first
    | (go_at_call 10; refine (long_any _ _).mono ?_; rintro e w1 ⟨rfl, hw⟩; rw [hw]; clear hw)
    | (go_at_call 11; refine (Signs_any _ _ hlen).mono ?_; rintro e w2 ⟨v2, rfl, hr2, hb2⟩; replace hB := bel hB hb2; clear hb2)
    | (go_at_call 12; refine (RSigns_any _ _ hlen).mono ?_; rintro e w3 ⟨v3, rfl, hr3, hb3⟩; replace hB := bel hB hb3; replace hr2 := hr2.below hb3; clear hb3)
    | (go_at_call 13; refine (IsText_any _ _).mono ?_; rintro e w4 ⟨rfl, hb4⟩; replace hB := bel hB hb4; replace hr2 := hr2.below hb4; replace hr3 := hr3.below hb4; clear hb4)
    | (go_at_call 14; refine (RIsText_bel _ _ hlen).mono ?_; rintro e w5 ⟨rfl, hb5⟩; replace hB := bel hB hb5; replace hr2 := hr2.below hb5; replace hr3 := hr3.below hb5; clear hb5)
    | (go_at_call 15; refine (Repair_any _ _ hlen).mono ?_; rintro e w6 ⟨rfl, hb6⟩; replace hB := bel hB hb6; replace hr2 := hr2.below hb6; replace hr3 := hr3.below hb6; clear hb6)
    | (go_at_call 16; refine (RRepair_any _ _ hlen).mono ?_; rintro e w7 ⟨rfl, hb7⟩; replace hB := bel hB hb7; replace hr2 := hr2.below hb7; replace hr3 := hr3.below hb7; clear hb7)
    | (go_at_call 17; refine (same_bel _ _ _ _ _ hr2 hr3 hsl hsl).mono ?_; rintro e w8 ⟨rfl, hb8⟩; replace hB := bel hB hb8; clear hb8)
    | (go_at_call 18; refine (Cut_bel _ _ _ hlen hm.1 hm.2).mono ?_; rintro e w9 ⟨rfl, hb9⟩; replace hB := bel hB hb9; clear hb9)
    | (go_at_call 19; refine (RCut_bel _ _ _ hlen hm.1 hm.2).mono ?_; rintro e w10 ⟨rfl, hb10⟩; replace hB := bel hB hb10; clear hb10)
    | (go_at_call 7; refine (alive_any _).mono ?_; rintro e w11 ⟨rfl, hb11⟩; replace hB := bel hB hb11; clear hb11))
  go_ret
  exact ⟨rfl, hB⟩
end Go.Proofs.Ytooojamocndpiaa.utfTexts
