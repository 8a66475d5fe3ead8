/- The walk of the law UtfSigns, out of the contracts. -/
import Derived.Test.YtooojamocndpiaaUAlive
import Derived.Test.YtooojamocndpiaaUSigns
namespace Go.Proofs.Ytooojamocndpiaa.utfSigns
open Go.RowKit
theorem puts_signs (l : List UInt8) (h : Utf.isText l = true) : puts (signsZ l) = l := by
  unfold puts signsZ
  rw [List.flatMap_map, Utf.signs_rep, Utf.rep_self l h]
theorem signs_in (l : List UInt8) : ∀ c ∈ signsZ l, inR c := by
  refine Utf.ind (P := fun l => ∀ c ∈ signsZ l, inR c) ?_ ?_ l
  · intro c hc
    unfold signsZ at hc
    rw [Utf.signs_nil] at hc
    simp at hc
  · intro l h ih c hc
    unfold signsZ at hc
    rw [Utf.signs_go l h, List.map_cons, List.mem_cons] at hc
    rcases hc with rfl | hc
    · have := Utf.right_lt (Utf.dec_right l h)
      unfold inR
      omega
    · exact ih c hc
set_option maxHeartbeats 2000000 in
set_option maxRecDepth 100000 in
theorem walk (a0 : ByteArray) (w : World) (_ : a0.size ≤ maxLen) :
    Calls Try.prog 6 #[.string a0] w fun e w' => e = .returned (.bool true) ∧ Below w.heap.size w w' := by
  obtain ⟨l, rfl⟩ : ∃ l, a0 = str l := ⟨_, (str_self a0).symm⟩
  have hsz := str_size l
  by_cases hlong : 3000 < (str l).size
  · have hL := long_yes hlong
    go_enter Try.func6, Try.ntmps6
    go_wp2_with (first
      | (go_at_call 10; refine (long_any _ _).mono ?_; rintro e w1 ⟨rfl, hw⟩; rw [hw]; clear hw)
      | (go_at_call 7; refine (alive_any _).mono ?_; rintro e w2 ⟨rfl, hb⟩))
    go_ret
    exact ⟨rfl, hb⟩
  have hL := long_no hlong
  rw [hsz] at hlong
  have hlen : l.length ≤ 1000000000 := by omega
  have hll := str_list l
  have hB : Below w.heap.size w w := Below.refl _ _
  cases hT : Utf.isText l
  · have hy := whyText_no hT
    have hs := signsOf_no hT
    go_enter Try.func6, Try.ntmps6
    go_wp2_with (first
      | (go_at_call 10; refine (long_any _ _).mono ?_; rintro e w1 ⟨rfl, hw⟩; rw [hw]; clear hw)
      | (go_at_call 11; refine (Signs_any _ _ hlen).mono ?_; rintro e w2 ⟨v2, rfl, hr2, hb2⟩; replace hB := bel hB hb2; clear hb2; rw [hs] at hr2; obtain ⟨a2, c2, rfl⟩ := reads_slice hr2)
      | (go_at_call 13; refine (IsText_any _ _).mono ?_; rintro e w3 ⟨rfl, hb3⟩; replace hB := bel hB hb3; clear hb3)
      | (go_at_call 7; refine (alive_any _).mono ?_; rintro e w4 ⟨rfl, hb4⟩; replace hB := bel hB hb4; clear hb4))
    go_ret
    exact ⟨rfl, hB⟩
  · have hy := whyText_yes hT
    have hs := signsOf_yes hT
    have hsl := signsZ_len l
    have hin := signs_in l
    have hps := puts_signs l hT
    go_enter Try.func6, Try.ntmps6
    go_wp2_with (first
      | (go_at_call 10; refine (long_any _ _).mono ?_; rintro e w1 ⟨rfl, hw⟩; rw [hw]; clear hw)
      | (go_at_call 11; refine (Signs_any _ _ hlen).mono ?_; rintro e w2 ⟨v2, rfl, hr2, hb2⟩; replace hB := bel hB hb2; clear hb2; rw [hs] at hr2)
      | (go_at_call 8; refine (Put_any _ _ [] (signsZ l) _ (by simp) (by omega) (ReadsCells.nil _) hr2 hin).mono ?_; rintro e w5 ⟨v5, rfl, ho5, hb5⟩; replace hB := bel hB hb5; clear hb5; rw [hps, List.nil_append] at ho5; have hcv := conv_owned ho5)
      | (go_at_call 7; refine (alive_any _).mono ?_; rintro e w4 ⟨rfl, hb4⟩; replace hB := bel hB hb4; clear hb4))
    go_ret
    exact ⟨rfl, hB⟩
end Go.Proofs.Ytooojamocndpiaa.utfSigns
