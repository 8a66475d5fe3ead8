/- The walk of the law UtfCuts, out of the contracts. -/
import Derived.Test.YtooojamocndpiabUAlive
namespace Go.Proofs.Ytooojamocndpiab.utfCuts
open Go.RowKit
set_option maxHeartbeats 2000000 in
set_option maxRecDepth 100000 in
theorem walk (a0 : ByteArray) (a1 : Int) (w : World) (_ : a0.size ≤ maxLen) (h1 : (Lit.int .u16 a1).wf = true) :
    Calls Try.prog 3 #[.string a0, .int .u16 a1] w fun e w' => e = .returned (.bool true) ∧ Below w.heap.size w w' := by
  have hm : 0 ≤ a1 ∧ a1 ≤ 65535 := by
    simp only [Lit.wf, Bool.and_eq_true, decide_eq_true_eq] at h1
    exact h1
  clear h1
  obtain ⟨l, rfl⟩ : ∃ l, a0 = str l := ⟨_, (str_self a0).symm⟩
  have hsz := str_size l
  by_cases hlong : 3000 < (str l).size
  · have hL := long_yes hlong
    go_enter Try.func3, Try.ntmps3
    go_wp2_with (first
      | (go_at_call 4; refine (long_any _ _).mono ?_; rintro e w1 ⟨rfl, hw⟩; rw [hw]; clear hw)
      | (go_at_call 5; refine (alive_any _).mono ?_; rintro e w2 ⟨rfl, hb⟩))
    go_ret
    exact ⟨rfl, hb⟩
  have hL := long_no hlong
  rw [hsz] at hlong
  have hlen : l.length ≤ 1000000000 := by omega
  have c1 := Utf.cut_len l a1
  have c2 := Utf.cut_le l a1 hm.1
  have c3 := Utf.cut_near l a1
  have c4 := Utf.cut_text l a1
  have c5 := Utf.cut_cut l a1
  generalize hX : l.take (Utf.cut l a1) = X at *
  have hXl : X.length = Utf.cut l a1 := by rw [← hX, List.length_take]; omega
  have HX : Hid (l.take (Utf.cut l a1) = X) := hX
  have hpre : (str l).extract 0 (Utf.cut l a1) = str X := by rw [str_to, hX]
  clear hX
  have hsX : (str X).size = Utf.cut l a1 := by rw [str_size, hXl]
  have hlX : (str X).toList = X := str_list X
  have hself : str (X.take (Utf.cut X a1)) = str X := by rw [c5, ← hXl, List.take_length]
  have t0 : decide (a1 < (Utf.cut l a1 : Int)) = false := decide_eq_false (by omega)
  have t1 : ¬ a1 < (Utf.cut l a1 : Int) := by omega
  have t2 : ¬ l.length < Utf.cut l a1 := by omega
  have hcut : ∀ W : World, Calls Try.prog 6 #[.string (str l), .int .i64 a1] W fun e w' => e = .returned (.string (str X)) ∧ ∃ n, w' = W.drewN n := by
    intro W
    have := Cut_any l a1 W hlen (by omega) (by omega)
    rw [HX.out] at this
    exact this
  have hcut2 : ∀ W : World, Calls Try.prog 6 #[.string (str X), .int .i64 a1] W fun e w' => e = .returned (.string (str X)) ∧ ∃ n, w' = W.drewN n := by
    intro W
    have := Cut_any X a1 W (by omega) (by omega) (by omega)
    rw [hself] at this
    exact this
  clear hself c5
  go_enter Try.func3, Try.ntmps3
  go_wp2_with (first
    | (go_at_call 4; refine (long_any _ _).mono ?_; rintro e w1 ⟨rfl, hw⟩; rw [hw]; clear hw)
    | (go_at_call 6; refine (hcut _).mono ?_; rintro e w1 ⟨rfl, n1, rfl⟩))
  cases hT : Utf.isText l
  all_goals refine (IsText_any l _).mono ?_
  all_goals rintro e w2 ⟨rfl, hb2⟩
  all_goals rw [hT]
  · rcases c3 with c3 | c3
    · have c3' : ((Utf.cut l a1 : Int) == (l.length : Int)) = true := by rw [c3]; simp
      have C3 : Hid (Utf.cut l a1 = l.length) := c3
      clear c3
      go_wp2_with (first
        | (go_at_call 6; refine (hcut2 _).mono ?_; rintro e w3 ⟨rfl, n3, rfl⟩)
        | (go_at_call 5; refine (alive_any _).mono ?_; rintro e w4 ⟨rfl, hb4⟩))
      go_ret
      exact ⟨rfl, bel (below_drewN n3 (bel (below_drewN n1 (Below.refl _ w)) hb2)) hb4⟩
    · have t3 : a1 - 4 < (Utf.cut l a1 : Int) := by omega
      by_cases c6 : Utf.cut l a1 = l.length
      · have c3' : ((Utf.cut l a1 : Int) == (l.length : Int)) = true := by rw [c6]; simp
        have C3 : Hid (Utf.cut l a1 = l.length) := c6
        clear c6 c3
        go_wp2_with (first
          | (go_at_call 6; refine (hcut2 _).mono ?_; rintro e w3 ⟨rfl, n3, rfl⟩)
          | (go_at_call 5; refine (alive_any _).mono ?_; rintro e w4 ⟨rfl, hb4⟩))
        go_ret
        exact ⟨rfl, bel (below_drewN n3 (bel (below_drewN n1 (Below.refl _ w)) hb2)) hb4⟩
      · have c3' : ((Utf.cut l a1 : Int) == (l.length : Int)) = false := by rw [beq_eq_false_iff_ne]; omega
        have C3 : Hid (¬ Utf.cut l a1 = l.length) := c6
        clear c6 c3
        go_wp2_with (first
          | (go_at_call 6; refine (hcut2 _).mono ?_; rintro e w3 ⟨rfl, n3, rfl⟩)
          | (go_at_call 5; refine (alive_any _).mono ?_; rintro e w4 ⟨rfl, hb4⟩))
        go_ret
        exact ⟨rfl, bel (below_drewN n3 (bel (below_drewN n1 (Below.refl _ w)) hb2)) hb4⟩
  · have hTX := c4 hT
    clear c4
    by_cases c6 : Utf.cut l a1 = l.length
    · have c3' : ((Utf.cut l a1 : Int) == (l.length : Int)) = true := by rw [c6]; simp
      have C3 : Hid (Utf.cut l a1 = l.length) := c6
      clear c6 c3
      go_wp2_with (first
        | (go_at_call 7; refine (IsText_any X _).mono ?_; rintro e w5 ⟨rfl, hb5⟩)
        | (go_at_call 6; refine (hcut2 _).mono ?_; rintro e w3 ⟨rfl, n3, rfl⟩)
        | (go_at_call 5; refine (alive_any _).mono ?_; rintro e w4 ⟨rfl, hb4⟩))
      go_ret
      exact ⟨rfl, bel (below_drewN n3 (bel (bel (below_drewN n1 (Below.refl _ w)) hb2) hb5)) hb4⟩
    · have t3 : a1 - 4 < (Utf.cut l a1 : Int) := by omega
      have c3' : ((Utf.cut l a1 : Int) == (l.length : Int)) = false := by rw [beq_eq_false_iff_ne]; omega
      have C3 : Hid (¬ Utf.cut l a1 = l.length) := c6
      clear c6 c3
      go_wp2_with (first
        | (go_at_call 7; refine (IsText_any X _).mono ?_; rintro e w5 ⟨rfl, hb5⟩)
        | (go_at_call 6; refine (hcut2 _).mono ?_; rintro e w3 ⟨rfl, n3, rfl⟩)
        | (go_at_call 5; refine (alive_any _).mono ?_; rintro e w4 ⟨rfl, hb4⟩))
      go_ret
      exact ⟨rfl, bel (below_drewN n3 (bel (bel (below_drewN n1 (Below.refl _ w)) hb2) hb5)) hb4⟩
end Go.Proofs.Ytooojamocndpiab.utfCuts
