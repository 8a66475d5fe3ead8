/- The contract of the law's own 'alive'. -/
import Derived.Test.YtooojamocndpiaaDoorURepair
import Derived.Test.YtooojamocndpiaaDoorUPut
namespace Go.Proofs.YtooojamocndpiaaDoor
open Go.RowKit
theorem rep_alive : Utf.rep [226, 130, 65] = [239, 191, 189, 65] := by
  rw [Utf.rep_go _ (by simp), show Utf.part [226, 130, 65] = (2, false) from by decide, show Utf.dec [226, 130, 65] = (65533, 1) from by decide]
  simp only [List.drop_succ_cons, List.drop_zero]
  rw [Utf.rep_go _ (by simp), show Utf.part [65] = (1, true) from by decide, show Utf.dec [65] = (65, 1) from by decide]
  simp only [List.drop_succ_cons, List.drop_zero]
  rw [Utf.rep_nil]
  decide
theorem text_alive : Utf.isText [97, 195, 169] = true := by
  rw [Utf.isText_go _ (by simp), show Utf.part [97, 195, 169] = (1, true) from by decide]
  simp only [List.drop_succ_cons, List.drop_zero]
  rw [Utf.isText_go _ (by simp), show Utf.part [195, 169] = (2, true) from by decide]
  simp only [List.drop_succ_cons, List.drop_zero]
  rw [Utf.isText_nil]
  rfl
theorem untext_alive : Utf.isText [195] = false := by
  rw [Utf.isText_go _ (by simp), show Utf.part [195] = (1, false) from by decide]
  rfl
theorem Repair_alive (w : World) : Calls Tryd.prog 14 #[.string ⟨#[226, 130, 65]⟩] w fun e w' => e = .returned (.string ⟨#[239, 191, 189, 65]⟩) ∧ Below w.heap.size w w' := by
  refine (Repair_any [226, 130, 65] w (by decide)).mono ?_
  rintro e w' ⟨rfl, hb⟩
  rw [rep_alive]
  exact ⟨rfl, hb⟩
theorem IsText_yes (w : World) : Calls Tryd.prog 15 #[.string ⟨#[97, 195, 169]⟩] w fun e w' => e = .returned (.bool true) ∧ Below w.heap.size w w' := by
  refine (IsText_any [97, 195, 169] w).mono ?_
  rintro e w' ⟨rfl, hb⟩
  rw [text_alive]
  exact ⟨rfl, hb⟩
theorem IsText_no (w : World) : Calls Tryd.prog 15 #[.string ⟨#[195]⟩] w fun e w' => e = .returned (.bool false) ∧ Below w.heap.size w w' := by
  refine (IsText_any [195] w).mono ?_
  rintro e w' ⟨rfl, hb⟩
  rw [untext_alive]
  exact ⟨rfl, hb⟩
/-- One sign put behind nothing. -/
theorem Put_one (c : Int) (w : World) (hc : inR c) :
    Calls Tryd.prog 8 #[.slice none 0 0, .slice (some ⟨w.heap.size, 0, none⟩) 1 1] (w.alloc (.cells #[.int .i32 c] 21)) fun e w' => ∃ v', e = .returned v' ∧ OwnsBytes w' w.heap.size v' (Lib.encodeRune c) ∧ Below w.heap.size w w' := by
  refine (Put_any _ _ [] [c] _ (by decide) (by simp) (ReadsCells.nil _) (.inr ⟨w.heap.size, 0, 1, rfl, Nat.le_refl _, ?_⟩) ?_).mono ?_
  · intro j x hj
    match j, hj with
    | 0, hj =>
      cases hj
      rw [Nat.zero_add, Lib.cell_of_heap (heap_new w _)]
      rfl
    | (j + 1), hj => simp [cellsR] at hj
  · intro x hx
    rw [List.mem_singleton.1 hx]
    exact hc
  · rintro e w' ⟨v', rfl, ho, hb⟩
    have e1 : [] ++ puts [c] = Lib.encodeRune c := by simp [puts]
    rw [e1] at ho
    refine ⟨v', rfl, ?_, (((Below.refl _ w).alloc (Nat.le_refl _) _).trans (hb.mono (by simp)))⟩
    refine ⟨ho.1, ?_⟩
    rcases ho.2 with h | ⟨g, cap, cur, h1, h2, h3⟩
    · exact .inl h
    · refine .inr ⟨g, cap, cur, h1, Nat.le_trans ?_ h2, h3⟩
      simp
set_option maxHeartbeats 1000000 in
theorem alive_any (w : World) : Calls Tryd.prog 7 #[] w fun e w' => e = .returned (.bool true) ∧ Below w.heap.size w w' := by
  go_enter Tryd.func7, Tryd.ntmps7
  have henc : Lib.encodeRune 8364 = [226, 130, 172] := by decide
  go_wp2_with (first
    | (go_at_call 14; refine (Repair_alive _).mono ?_; rintro e w1 ⟨rfl, hb1⟩)
    | (go_at_call 8; refine (Put_one 8364 _ (by unfold inR; omega)).mono ?_; rintro e w2 ⟨v2, rfl, ho2, hb2⟩; rw [henc] at ho2; have hcv := conv_owned ho2; have hst := str_list [226, 130, 172]))
  refine (IsText_yes _).mono ?_
  rintro e w3 ⟨rfl, hb3⟩
  go_wp2_with fail
  refine (IsText_no _).mono ?_
  rintro e w4 ⟨rfl, hb4⟩
  go_wp2
  go_ret
  exact ⟨rfl, bel (bel (bel hb1 hb2) hb3) hb4⟩
end Go.Proofs.YtooojamocndpiaaDoor
