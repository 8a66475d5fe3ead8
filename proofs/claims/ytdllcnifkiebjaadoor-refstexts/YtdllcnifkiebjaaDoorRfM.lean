/- Contracts of the law's own alive and long. -/
import Derived.Test.YtdllcnifkiebjaaDoorRfL
set_option linter.unusedVariables false
set_option linter.unusedSimpArgs false
namespace Go.Proofs.YtdllcnifkiebjaaDoor
open Go.RowKit
theorem dec_alive : Rf.dec false [38, 108, 116, 59, 38, 35, 50, 51, 51, 59, 38, 97, 109, 112] = [60, 195, 169, 38] := by
  have e1 : Rf.next false [108, 116, 59, 38, 35, 50, 51, 51, 59, 38, 97, 109, 112] = (60, 3) := by decide +kernel
  have e2 : Rf.next false [35, 50, 51, 51, 59, 38, 97, 109, 112] = (233, 5) := by decide +kernel
  have e3 : Rf.next false [97, 109, 112] = (38, 3) := by decide +kernel
  rw [Rf.dec_some _ _ (by rw [e1]; decide), e1]
  simp only [List.drop_succ_cons, List.drop_zero]
  rw [Rf.dec_some _ _ (by rw [e2]; decide), e2]
  simp only [List.drop_succ_cons, List.drop_zero]
  rw [Rf.dec_some _ _ (by rw [e3]; decide), e3]
  simp only [List.drop_succ_cons, List.drop_zero]
  rw [Rf.dec_nil]
  decide +kernel
theorem enc_alive : Rf.enc false [60, 97, 38] = [38, 108, 116, 59, 97, 38, 97, 109, 112, 59] := by
  rw [Rf.enc_go _ _ (by simp), show Rf.one false [60, 97, 38] = ([38, 108, 116, 59], 1) from by decide +kernel]
  simp only [List.drop_succ_cons, List.drop_zero]
  rw [Rf.enc_go _ _ (by simp), show Rf.one false [97, 38] = ([97], 1) from by decide +kernel]
  simp only [List.drop_succ_cons, List.drop_zero]
  rw [Rf.enc_go _ _ (by simp), show Rf.one false [38] = ([38, 97, 109, 112, 59], 1) from by decide +kernel]
  simp only [List.drop_succ_cons, List.drop_zero]
  rw [Rf.enc_nil]
  rfl
set_option maxHeartbeats 1000000 in
set_option maxRecDepth 100000 in
theorem alive11_any (w : World) (hW : Win w) : Calls Tryd.prog 13 #[] w fun e w' => e = .returned (.bool true) ∧ Below w.heap.size w w' := by
  have h1 : ∀ W, Calls Tryd.prog 9 #[.string (str [101, 117, 114, 111])] W fun e w' => e = .returned (.tuple #[.int .i32 8364, .bool true]) ∧ Below W.heap.size W w' := by
    intro W
    have := Name_any [101, 117, 114, 111] W
    rw [show Rf.sgn [101, 117, 114, 111] = 8364 from by decide +kernel] at this
    exact this
  have h2 : ∀ W, Win W → Calls Tryd.prog 17 #[.string (str [38, 108, 116, 59, 38, 35, 50, 51, 51, 59, 38, 97, 109, 112]), .bool false] W fun e w' => e = .returned (.string (str [60, 195, 169, 38])) ∧ Below W.heap.size W w' := by
    intro W hW
    have := Decode_any [38, 108, 116, 59, 38, 35, 50, 51, 51, 59, 38, 97, 109, 112] false W (by decide) hW
    rw [dec_alive] at this
    exact this
  have h3 : ∀ W, Calls Tryd.prog 19 #[.string (str [60, 97, 38]), .bool false] W fun e w' => e = .returned (.string (str [38, 108, 116, 59, 97, 38, 97, 109, 112, 59])) ∧ Below W.heap.size W w' := by
    intro W
    have := Encode_any [60, 97, 38] false W (by decide)
    rw [enc_alive] at this
    exact this
  have q1 : ((str [60, 195, 169, 38]).toList == [60, 195, 169, 38]) = true := by rw [str_list]; rfl
  have q2 : ((str [38, 108, 116, 59, 97, 38, 97, 109, 112, 59]).toList == [38, 108, 116, 59, 97, 38, 97, 109, 112, 59]) = true := by rw [str_list]; rfl
  have hB : Below w.heap.size w w := Below.refl _ _
  have HW : Hid (Win w) := hW
  clear hW
  go_enter Tryd.func13, Tryd.ntmps13
  go_wp2_with (first
    | (go_at_call 9; refine (h1 _).mono ?_; rintro e w1 ⟨rfl, hb1⟩; replace hB := bel hB hb1; clear hb1)
    | (go_at_call 17; refine (h2 _ (HW.out.below hB)).mono ?_; rintro e w2 ⟨rfl, hb2⟩; replace hB := bel hB hb2; clear hb2)
    | (go_at_call 19; refine (h3 _).mono ?_; rintro e w3 ⟨rfl, hb3⟩; replace hB := bel hB hb3; clear hb3))
  go_ret
  exact ⟨by first | rfl | (rw [q2]), hB⟩
def longL (l : List UInt8) : Bool := decide (1500 < l.length)
theorem long11_any (l : List UInt8) (w : World) : Calls Tryd.prog 14 #[.string (str l)] w fun e w' => e = .returned (.bool (longL l)) ∧ w' = w := by
  have hz := str_size l
  unfold longL
  by_cases h : 1500 < l.length
  · rw [decide_eq_true h]
    go_enter Tryd.func14, Tryd.ntmps14
    go_wp2
    go_ret
    exact ⟨ret_bool (by first | rfl | (simp <;> omega)), rfl⟩
  · rw [decide_eq_false h]
    go_enter Tryd.func14, Tryd.ntmps14
    go_wp2
    go_ret
    exact ⟨ret_bool (by first | rfl | (simp <;> omega)), rfl⟩
end Go.Proofs.YtdllcnifkiebjaaDoor
