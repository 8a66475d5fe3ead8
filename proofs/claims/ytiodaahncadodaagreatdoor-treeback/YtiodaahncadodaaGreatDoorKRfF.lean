/- The contract of refs.number. -/
import Derived.Test.YtiodaahncadodaaGreatDoorKRfE
set_option linter.unusedVariables false
set_option linter.unusedSimpArgs false
namespace Go.Proofs.YtiodaahncadodaaGreatDoor
open Go.RowKit
theorem Pre {l p : List UInt8} {b : Bool} (h : p.isPrefixOf l = b) (w : World) :
    Calls Tryz.prog 127 #[.string (str l), .string (str p)] w fun e w' => e = .returned (.bool b) ∧ w' = w := by
  have := HasPrefix_l l p w
  rw [h] at this
  exact this
theorem str_mid (l : List UInt8) (f n : Nat) : (str l).extract f (f + n) = str ((l.drop f).take n) := by
  apply str_eq
  rw [data_cut, str_data, List.drop_take]
  congr 1
  omega
theorem digs_take (t : List UInt8) : (t.drop (Rf.fr (Rf.isHx t))).take (Rf.digs t).length = Rf.digs t := by
  unfold Rf.digs
  generalize t.drop (Rf.fr (Rf.isHx t)) = u
  generalize Rf.dOk (Rf.isHx t) = p
  induction u with
  | nil => rfl
  | cons c r ih =>
    rw [List.takeWhile_cons]
    cases h : p c
    · rfl
    · simp [ih]
theorem digs_len (t : List UInt8) (h : [35].isPrefixOf t = true) : Rf.fr (Rf.isHx t) + (Rf.digs t).length ≤ t.length := by
  have h1 : (Rf.digs t).length ≤ (t.drop (Rf.fr (Rf.isHx t))).length := by
    rw [← digs_take t, List.length_take]; omega
  have h2 : Rf.fr (Rf.isHx t) ≤ t.length := by
    cases hx : Rf.isHx t
    · obtain ⟨r, rfl⟩ := List.isPrefixOf_iff_prefix.1 h
      simp [Rf.fr]
    · unfold Rf.isHx at hx
      rw [Bool.or_eq_true] at hx
      rcases hx with hx | hx
      · obtain ⟨r, rfl⟩ := List.isPrefixOf_iff_prefix.1 hx
        simp [Rf.fr]
      · obtain ⟨r, rfl⟩ := List.isPrefixOf_iff_prefix.1 hx
        simp [Rf.fr]
  rw [List.length_drop] at h1
  omega
set_option maxHeartbeats 1000000 in
set_option maxRecDepth 100000 in
theorem number_not (t : List UInt8) (w : World) (h : [35].isPrefixOf t = false) :
    Calls Tryz.prog 176 #[.string (str t)] w fun e w' => e = .returned (.tuple #[.int .i32 (Rf.numSg t), .int .i64 (Rf.numSz t)]) ∧ w' = w := by
  have h0 := Pre h
  rw [(Rf.not_hash t h).1, (Rf.not_hash t h).2]
  clear h
  go_enter Tryz.func176, Tryz.ntmps176
  go_wp2_with (go_at_call 127; refine (h0 _).mono ?_; rintro e w1 ⟨rfl, hw⟩; rw [hw]; clear hw)
  go_ret2
  exact ⟨rfl, rfl⟩
end Go.Proofs.YtiodaahncadodaaGreatDoor
