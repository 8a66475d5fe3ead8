/- The walk of JsonBack. -/
import Derived.Test.YtpnmiknikkhliaaDoorKZI
import Derived.Test.YtpnmiknikkhliaaDoorKJson
import Derived.Test.YtpnmiknikkhliaaDoorKURIs
set_option linter.unusedVariables false
set_option linter.unusedSimpArgs false
namespace Jsn
/-- A value that may be and is not too large: its text is a text, of which it is parsed. -/
theorem back_all (v : J) (hs : sizeJ v ≤ 3000) (hm : mayJ v = true) : (textJ v).length ≤ 18000 ∧ Utf.isText (textJ v) = true ∧ faultJ (textJ v) = (0, 0) ∧ parseJ (textJ v) = v := by
  have h1 := (may_sized hm).2
  have ht := text_text hm
  have hw := whole_text hm
  refine ⟨by omega, ht, ?_, ?_⟩
  · unfold faultJ; rw [if_neg (by omega), if_neg (by simp [ht]), hw]
  · unfold parseJ; rw [if_neg (by omega), if_neg (by simp [ht]), hw]
end Jsn
namespace Go.Proofs.YtpnmiknikkhliaaDoor.jsonBack
open Go.RowKit
set_option maxHeartbeats 4000000 in
set_option maxRecDepth 100000 in
theorem walk (t : Jsn.J) (v : Value) (w : World) (h : ArgV w v t) (_hE : True) :
    Calls Tryd.prog 4 #[v] w fun e w' => e = .returned (.bool true) ∧ Below w.heap.size w w' := by
  obtain ⟨hv, hfit⟩ := h
  obtain ⟨aa, na, ca, ab, nb, cb, rfl⟩ := hv.shape
  have hA : Below w.heap.size w (w.alloc (.cells #[.int .i64 t.kind, .string (str t.text), .slice aa na ca, .slice ab nb cb] 25)) := (Below.refl _ w).alloc (Nat.le_refl _) _
  have hbx : (w.alloc (.cells #[.int .i64 t.kind, .string (str t.text), .slice aa na ca, .slice ab nb cb] 25)).heap[w.heap.size]? = some (.cells #[.int .i64 t.kind, .string (str t.text), .slice aa na ca, .slice ab nb cb] 25 (0, 0)) := val_new _ _
  have hF := far_any t _ _ (hv.below hA) hfit
  go_enter Tryd.func4, Tryd.ntmps4
  go_wp2_with (first
    | (go_at_call 6; refine hF.mono ?_; rintro e w1 ⟨hB1, x, rfl, hx⟩; clear hF; have hB2 := bel hA hB1; have hb1 := (hB1.block _ (by simp)).trans hbx; have k0 := (Lib.cell_of_heap hb1 0).trans (rfl : _ = some (Value.int .i64 t.kind)); have k1 := (Lib.cell_of_heap hb1 1).trans (rfl : _ = some (Value.string (str t.text))); have k2 := (Lib.cell_of_heap hb1 2).trans (rfl : _ = some (Value.slice aa na ca)); have k3 := (Lib.cell_of_heap hb1 3).trans (rfl : _ = some (Value.slice ab nb cb)); cases x)
    | (go_at_call 7; refine (alive7_any _).mono ?_; rintro e w9 ⟨rfl, hB11⟩))
  · have hsz : Jsn.sizeJ t ≤ 3000 := by first | exact hx rfl | exact hx | simpa using hx
    have hsz2 : Jsn.sizeJ t ≤ 1000000000 := by omega
    have hr1 := (hv.below hA).below hB1
    have hT := Text_any t _ w1 hr1 hsz2
    have hM := fun v w hv => May_any t v w hv hsz2
    clear hx
    cases hmay : Jsn.mayJ t with
    | false =>
      have hTR : textR t = ([], 1) := by unfold textR; rw [hmay]; rfl
      rw [hTR] at hT
      rw [hmay] at hM
      clear hmay hTR hsz hsz2
      have e0 : (str ([] : List UInt8)).toList.isEmpty = true := empty_yes
      go_wp2_with (first
        | (go_at_call 11; refine hT.mono ?_; rintro e w2 ⟨rfl, hB3⟩; clear hT; have hB4 := bel hB2 hB3; have hr2 := hr1.below hB3; have hb2 := (hB3.block _ (Array.getElem?_eq_some_iff.1 hb1).1).trans hb1; have k0 := (Lib.cell_of_heap hb2 0).trans (rfl : _ = some (Value.int .i64 t.kind)); have k1 := (Lib.cell_of_heap hb2 1).trans (rfl : _ = some (Value.string (str t.text))); have k2 := (Lib.cell_of_heap hb2 2).trans (rfl : _ = some (Value.slice aa na ca)); have k3 := (Lib.cell_of_heap hb2 3).trans (rfl : _ = some (Value.slice ab nb cb)))
        | (go_at_call 12; refine (hM _ _ hr2).mono ?_; rintro e w3 ⟨rfl, hB5⟩; clear hM; have hB6 := bel hB4 hB5)
        | (go_at_call 7; refine (alive7_any _).mono ?_; rintro e w9 ⟨rfl, hB11⟩))
      go_ret
      exact ⟨rfl, bel hB6 hB11⟩
    | true =>
      obtain ⟨g1, g2, g3, g4⟩ := Jsn.back_all t hsz hmay
      have hTR : textR t = (Jsn.textJ t, 0) := by unfold textR; rw [if_pos hmay, if_pos (by omega)]
      rw [hTR] at hT
      have hP := fun w => Parse_any (Jsn.textJ t) w (by omega)
      rw [g3, g4] at hP
      have hU := fun w => RIsText_any (Jsn.textJ t) w (by omega)
      rw [g2] at hU
      have hS := fun v1 v2 w h1 h2 => Same_all t t v1 v2 w h1 h2 hsz2 hsz2
      rw [Jsn.sameJ_refl] at hS
      clear hmay hTR hsz hsz2 hM g2 g3 g4
      generalize Jsn.textJ t = q at *
      go_wp2_with (first
        | (go_at_call 11; refine hT.mono ?_; rintro e w2 ⟨rfl, hB3⟩; clear hT; have hB4 := bel hB2 hB3; have hr2 := hr1.below hB3; have hb2 := (hB3.block _ (Array.getElem?_eq_some_iff.1 hb1).1).trans hb1)
        | (go_at_call 13; refine (hP _).mono ?_; rintro e w3 ⟨hB5, v2, rfl, hrw⟩; obtain ⟨ba, ma, da, bb, mb, db, rfl⟩ := hrw.shape; have hq1 := RV.keep (Q' := fun _ => True) (Nat.le_refl _) (fun k _ _ => ⟨trivial, rfl⟩) hrw; clear hP; obtain ⟨hV5, hN5⟩ := VF.new w3 (.int .i64 t.kind) (.string (str t.text)) (.slice ba ma da) (.slice bb mb db) 0 0; have hB6 := bel (bel hB4 hB5) hN5; have hr6 := (hr2.below hB5).below hN5; have hq6 := hq1.below hN5; have hb3 := (hB5.block _ (Array.getElem?_eq_some_iff.1 hb2).1).trans hb2; have hb6 := (hN5.block _ (Array.getElem?_eq_some_iff.1 hb3).1).trans hb3; have k0 := (Lib.cell_of_heap hb6 0).trans (rfl : _ = some (Value.int .i64 t.kind)); have k1 := (Lib.cell_of_heap hb6 1).trans (rfl : _ = some (Value.string (str t.text))); have k2 := (Lib.cell_of_heap hb6 2).trans (rfl : _ = some (Value.slice aa na ca)); have k3 := (Lib.cell_of_heap hb6 3).trans (rfl : _ = some (Value.slice ab nb cb)); obtain ⟨j0, j1, j2, j3, j4, j5⟩ := hV5.cells)
        | (go_at_call 14; refine (hS _ _ _ hr6 hq6).mono ?_; rintro e w8 ⟨rfl, hB9⟩; clear hS; have hB10 := bel hB6 hB9)
        | (go_at_call 15; refine (hU _).mono ?_; rintro e w10 ⟨rfl, dn, rfl⟩; clear hU; have hB12 := below_drewN dn hB10)
        | (go_at_call 7; refine (alive7_any _).mono ?_; rintro e w9 ⟨rfl, hB11⟩))
      go_ret
      exact ⟨rfl, bel hB12 hB11⟩
  · go_ret
    exact ⟨rfl, bel hB2 hB11⟩
end Go.Proofs.YtpnmiknikkhliaaDoor.jsonBack
