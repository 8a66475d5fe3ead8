/- The contracts of the laws' alive, long and far. -/
import Derived.Test.YtoahjdpkhnkfiaaDoorPParse
namespace Go.Proofs.YtoahjdpkhnkfiaaDoor
open Go.RowKit
def pair0 : Pct.Pr := ([97, 32, 98], [195, 169])
def form0 : List UInt8 := [97, 43, 98, 61, 37, 67, 51, 37, 65, 57]
theorem form_0 : Pct.form [pair0] = form0 := by decide
theorem text_0 : Utf.isText pair0.1 = true ∧ Utf.isText pair0.2 = true := by
  have e1 : pair0.1 = Lib.encodeRune 97 ++ (Lib.encodeRune 32 ++ (Lib.encodeRune 98 ++ [])) := by decide
  have e2 : pair0.2 = Lib.encodeRune 233 ++ [] := by decide
  rw [e1, e2, Utf.isText_put, Utf.isText_put, Utf.isText_put, Utf.isText_put, Utf.isText_nil]
  exact ⟨rfl, rfl⟩
theorem parse_0 : parsed form0 = [pair0] ∧ perr form0 = 0 := by
  have h := parsed_ok (l := form0) (by decide)
  rw [h.1, h.2, ← form_0]
  exact ⟨Pct.parse_form _ (by intro p hp; rw [List.mem_singleton] at hp; subst hp; exact text_0), rfl⟩
theorem reads_0 (w : World) (t : TypeId) : ReadsPairs (w.alloc (.cells #[.string ⟨#[97, 32, 98]⟩, .string ⟨#[195, 169]⟩] t)) (.slice (some ⟨w.heap.size, 0, none⟩) 1 1) [pair0] := by
  refine .inr ⟨w.heap.size, 0, 1, rfl, Nat.le_refl _, fun j p hj => ?_⟩
  cases j with
  | zero =>
    simp at hj
    subst hj
    exact ⟨by simp [strV, pair0], by simp [strV, pair0]⟩
  | succ j => simp at hj
theorem Form_0 (w : World) (hM : MaxL w) (t : TypeId) :
    Calls Tryd.prog 18 #[.slice (some ⟨w.heap.size, 0, none⟩) 1 1] (w.alloc (.cells #[.string ⟨#[97, 32, 98]⟩, .string ⟨#[195, 169]⟩] t)) fun e w' => e = .returned (.string (str form0)) ∧ Below w.heap.size w w' := by
  have hb : Below w.heap.size w (w.alloc (.cells #[.string ⟨#[97, 32, 98]⟩, .string ⟨#[195, 169]⟩] t)) := (Below.refl _ w).alloc (Nat.le_refl _) _
  have := Form_any _ _ _ (reads_0 w t) (hM.below hb) (by decide) (by intro p hp; rw [List.mem_singleton] at hp; subst hp; decide) (by rw [form_0]; decide)
  refine this.mono ?_
  rintro e w' ⟨rfl, hb2⟩
  exact ⟨by rw [form_0], bel hb hb2⟩
theorem Parse_0 (w : World) (hM : MaxL w) :
    Calls Tryd.prog 16 #[.string (str form0)] w fun e w' => ∃ b c, e = .returned (.tuple #[.slice (some ⟨b, 0, none⟩) 1 c, .int .i64 0]) ∧ 1 ≤ c ∧ w'.cell? ⟨b, 0, none⟩ = some (.string (str [97, 32, 98])) ∧ Below w.heap.size w w' := by
  refine (Parse_any form0 w hM (by decide)).mono ?_
  rintro e w' ⟨u, rfl, hown, hb⟩
  rw [parse_0.1] at hown
  obtain ⟨a, c, rfl⟩ := hown.reads.form
  obtain ⟨b, o, rfl, hc, _, g1, _⟩ := hown.reads.at (k := 0) (p := pair0) rfl
  rcases hown.2 with ⟨h, _⟩ | ⟨g, cap, cur, h, _⟩
  · cases h
  · cases h
    exact ⟨_, _, by rw [parse_0.2]; rfl, hc, g1, hb⟩
set_option maxHeartbeats 2000000 in
set_option maxRecDepth 100000 in
theorem alive_any (w : World) (hM : MaxL w) :
    Calls Tryd.prog 10 #[] w fun e w' => e = .returned (.bool true) ∧ Below w.heap.size w w' := by
  have e1 : (str form0).toList = [97, 43, 98, 61, 37, 67, 51, 37, 65, 57] := str_list _
  have e2 : (str [97, 32, 98]).toList = [97, 32, 98] := str_list _
  go_enter Tryd.func10, Tryd.ntmps10
  go_wp2_with (first
    | (go_at_call 18; refine (Form_0 w hM _).mono ?_; rintro e w2 ⟨rfl, hb2⟩)
    | (go_at_call 16; refine (Parse_0 w2 (hM.below hb2)).mono ?_; rintro e w3 ⟨b, c, rfl, hc, hcell, hb3⟩))
  go_ret
  exact ⟨rfl, bel hb2 hb3⟩
theorem long_any (s : ByteArray) (w : World) :
    Calls Tryd.prog 9 #[.string s] w fun e w' => e = .returned (.bool (longB s)) ∧ w' = w := by
  by_cases h : 3000 < s.size
  · rw [long_yes h]
    go_enter Tryd.func9, Tryd.ntmps9
    go_wp2
    go_ret
    exact ⟨ret_bool (by first | rfl | (simp <;> omega)), rfl⟩
  · rw [long_no h]
    go_enter Tryd.func9, Tryd.ntmps9
    go_wp2
    go_ret
    exact ⟨ret_bool (by first | rfl | (simp <;> omega)), rfl⟩
end Go.Proofs.YtoahjdpkhnkfiaaDoor
