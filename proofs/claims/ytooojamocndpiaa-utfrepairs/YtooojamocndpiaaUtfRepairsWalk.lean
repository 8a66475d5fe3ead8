/- The walk of the law UtfRepairs, out of the contracts. -/
import Derived.Test.YtooojamocndpiaaUAlive
namespace Go.Proofs.Ytooojamocndpiaa.utfRepairs
open Go.RowKit
set_option maxHeartbeats 2000000 in
set_option maxRecDepth 100000 in
theorem walk (a0 : ByteArray) (w : World) (_ : a0.size ≤ maxLen) :
    Calls Try.prog 5 #[.string a0] w fun e w' => e = .returned (.bool true) ∧ Below w.heap.size w w' := by
  obtain ⟨l, rfl⟩ : ∃ l, a0 = str l := ⟨_, (str_self a0).symm⟩
  have hsz := str_size l
  by_cases hlong : 3000 < (str l).size
  · have hL := long_yes hlong
    go_enter Try.func5, Try.ntmps5
    go_wp2_with (first
      | (go_at_call 10; refine (long_any _ _).mono ?_; rintro e w1 ⟨rfl, hw⟩; rw [hw]; clear hw)
      | (go_at_call 7; refine (alive_any _).mono ?_; rintro e w2 ⟨rfl, hb⟩))
    go_ret
    exact ⟨rfl, hb⟩
  have hL := long_no hlong
  rw [hsz] at hlong
  have hlen : l.length ≤ 1000000000 := by omega
  have hr3 := Utf.rep_len l
  have hxs := str_size (Utf.rep l)
  have hxl := str_list (Utf.rep l)
  have hll := str_list l
  have ht := Utf.rep_text l
  have hrr := Utf.rep_rep l
  have h3 : ¬ (3 * (l.length : Int) < ((Utf.rep l).length : Int)) := by omega
  have h4 : ((Utf.rep l).length : Int) ≤ 3 * (l.length : Int) := by omega
  cases hT : Utf.isText l
  · have hne : (Utf.rep l == l) = false := by
      rw [beq_eq_false_iff_ne]
      intro e
      rw [Utf.rep_eq l] at e
      rw [hT] at e
      cases e
    have hB : Below w.heap.size w w := Below.refl _ _
    go_enter Try.func5, Try.ntmps5
    go_wp2_with (first
      | (go_at_call 10; refine (long_any _ _).mono ?_; rintro e w1 ⟨rfl, hw⟩; rw [hw]; clear hw)
      | (go_at_call 15; refine (Repair_any _ _ (by omega)).mono ?_; rintro e w2 ⟨rfl, hb2⟩; replace hB := bel hB hb2; clear hb2)
      | (go_at_call 13; refine (IsText_any _ _).mono ?_; rintro e w3 ⟨rfl, hb3⟩; replace hB := bel hB hb3; clear hb3)
      | (go_at_call 7; refine (alive_any _).mono ?_; rintro e w4 ⟨rfl, hb4⟩; replace hB := bel hB hb4; clear hb4))
    go_ret
    exact ⟨rfl, hB⟩
  · have hne : (Utf.rep l == l) = true := by
      rw [Utf.rep_self l hT]
      simp
    have hB : Below w.heap.size w w := Below.refl _ _
    go_enter Try.func5, Try.ntmps5
    go_wp2_with (first
      | (go_at_call 10; refine (long_any _ _).mono ?_; rintro e w1 ⟨rfl, hw⟩; rw [hw]; clear hw)
      | (go_at_call 15; refine (Repair_any _ _ (by omega)).mono ?_; rintro e w2 ⟨rfl, hb2⟩; replace hB := bel hB hb2; clear hb2)
      | (go_at_call 13; refine (IsText_any _ _).mono ?_; rintro e w3 ⟨rfl, hb3⟩; replace hB := bel hB hb3; clear hb3)
      | (go_at_call 7; refine (alive_any _).mono ?_; rintro e w4 ⟨rfl, hb4⟩; replace hB := bel hB hb4; clear hb4))
    go_ret
    exact ⟨rfl, hB⟩
end Go.Proofs.Ytooojamocndpiaa.utfRepairs
