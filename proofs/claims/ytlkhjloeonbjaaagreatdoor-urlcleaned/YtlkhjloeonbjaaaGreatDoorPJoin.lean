/- The contract of the program's Join. -/
import Derived.Test.YtlkhjloeonbjaaaGreatDoorPHex
import Derived.Test.YtlkhjloeonbjaaaGreatDoorShelf
import Derived.Test.YtlkhjloeonbjaaaGreatDoorAscJoin
import Derived.Test.YtlkhjloeonbjaaaGreatDoorUPut
namespace Go.Proofs.YtlkhjloeonbjaaaGreatDoor
open Go.RowKit
theorem ReadsTexts.alloc {w : World} {v : Value} {ts : List (List UInt8)} (h : ReadsTexts w v ts) (o : Obj) : ReadsTexts (w.alloc o) v ts := by
  rcases h with h | ⟨b, o', c, rfl, hc, hr⟩
  · exact .inl h
  · exact .inr ⟨b, o', c, rfl, hc, fun j t hj => cell_alloc (hr j t hj)⟩
theorem ReadsTexts.below {w w' : World} {v : Value} {ts : List (List UInt8)} (h : ReadsTexts w v ts) (hb : Below w.heap.size w w') : ReadsTexts w' v ts := by
  rcases h with h | ⟨b, o, c, rfl, hc, hr⟩
  · exact .inl h
  · exact .inr ⟨b, o, c, rfl, hc, fun j t hj => (hb.cell (p := ⟨b, o + j, none⟩) (cell_lt (hr j t hj))).trans (hr j t hj)⟩
theorem texts_yes (ts : List (List UInt8)) : decide (ts = ts) = true := by simp
theorem map_str (ts : List (List UInt8)) : (ts.map str).map (·.data.toList) = ts := by
  rw [List.map_map]
  conv => rhs; rw [← List.map_id ts]
  apply List.map_congr_left
  intro t _
  exact str_data t
theorem JoinLib_any (b o c : Nat) (ts : List (List UInt8)) (sep : ByteArray) (w : World) (hr : ∀ (j : Nat) t, ts[j]? = some t → w.cell? ⟨b, o + j, none⟩ = some (strV t)) (hb : b < w.heap.size) (hc : ts.length ≤ c) (hn : ts.length ≤ 1000000000) (hl : (Lib.join ts sep.data.toList).length ≤ 1000000000) :
    Calls Tryz.prog 82 #[.slice (some ⟨b, o, none⟩) ts.length c, .string sep] w fun e w' => e = .returned (.string (str (Lib.join ts sep.data.toList))) ∧ Below w.heap.size w w' := by
  have h := Tryz.strings_Join b o c (ts.map str) sep w (fun j x hj => by
    rw [List.getElem?_map] at hj
    cases ht : ts[j]? with
    | none => rw [ht] at hj; cases hj
    | some t =>
      rw [ht] at hj
      cases hj
      exact hr j t ht) hb (by rw [List.length_map]; omega) (by rw [List.length_map]; exact hc) (by rw [map_str]; omega)
  rw [List.length_map, map_str] at h
  exact h
set_option maxHeartbeats 400000 in
theorem Join_any (sep : ByteArray) (v : Value) (ts : List (List UInt8)) (w : World) (hv : ReadsTexts w v ts) (hn : ts.length ≤ 1000000000) (hl : (Lib.join ts sep.data.toList).length ≤ 1000000000) :
    Calls Tryz.prog 50 #[.string sep, v] w fun e w' => e = .returned (.string (str (Lib.join ts sep.data.toList))) ∧ Below w.heap.size w w' := by
  rcases hv with ⟨a, c, rfl, rfl⟩ | ⟨b, o, c, rfl, hc, hr⟩
  · go_enter Tryz.func50, Tryz.ntmps50
    go_wp2_with (first
      | (go_at_call 82; refine (Tryz.strings_Join_none a c sep w).mono ?_; rintro e w1 ⟨rfl, hw⟩; rw [hw]; clear hw))
    go_ret
    exact ⟨rfl, Below.refl _ _⟩
  · by_cases hz : ts = []
    · subst hz
      go_enter Tryz.func50, Tryz.ntmps50
      go_wp2_with (first
        | (go_at_call 82; refine (Tryz.strings_Join_none (some ⟨b, o, none⟩) c sep w).mono ?_; rintro e w1 ⟨rfl, hw⟩; rw [hw]; clear hw))
      go_ret
      exact ⟨rfl, Below.refl _ _⟩
    · have hb : b < w.heap.size := by
        cases ts with
        | nil => exact absurd rfl hz
        | cons t r => exact cell_lt (hr 0 t rfl)
      have HR : Hid (∀ (j : Nat) t, ts[j]? = some t → w.cell? ⟨b, o + j, none⟩ = some (strV t)) := hr
      clear hr
      go_enter Tryz.func50, Tryz.ntmps50
      go_wp2_with (first
        | (go_at_call 82; refine (JoinLib_any b o c ts sep w HR.out hb hc hn hl).mono ?_; rintro e w1 ⟨rfl, hb1⟩))
      go_ret
      exact ⟨rfl, hb1⟩
end Go.Proofs.YtlkhjloeonbjaaaGreatDoor
