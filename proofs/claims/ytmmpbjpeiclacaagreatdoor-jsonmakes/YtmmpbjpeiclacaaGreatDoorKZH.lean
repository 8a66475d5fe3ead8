/- The contract of the law's alive. -/
import Derived.Test.YtmmpbjpeiclacaaGreatDoorKZG
import Derived.Test.YtmmpbjpeiclacaaGreatDoorKYV
set_option linter.unusedVariables false
set_option linter.unusedSimpArgs false
namespace Jsn
def exS : List UInt8 := [123, 34, 97, 34, 58, 91, 49, 44, 34, 92, 117, 48, 48, 101, 57, 34, 93, 125]
def exT : List UInt8 := [123, 34, 97, 34, 58, 91, 49, 44, 34, 195, 169, 34, 93, 125]
theorem ex_fault : faultJ exS = (0, 0) := by decide +kernel
theorem ex_may : mayJ (parseJ exS) = true := by decide +kernel
theorem ex_text : textJ (parseJ exS) = exT := by decide +kernel
theorem ex_size : sizeJ (parseJ exS) ≤ 1000000000 := by decide +kernel
end Jsn
namespace Go.Proofs.YtmmpbjpeiclacaaGreatDoor
open Go.RowKit
/-- A value's block, and its fault's behind it. -/
structure VF (W : World) (b : Nat) (x0 x1 x2 x3 : Value) (y a : Int) : Prop where
  v : W.heap[b]? = some (.cells #[x0, x1, x2, x3] 27 (0, 0))
  f : W.heap[b + 1]? = some (.cells #[.int .i64 y, .int .i64 a] 41 (0, 0))
theorem VF.keep {W W' : World} {b : Nat} {x0 x1 x2 x3 : Value} {y a : Int} (h : VF W b x0 x1 x2 x3 y a) (hB : Below W.heap.size W W') : VF W' b x0 x1 x2 x3 y a :=
  ⟨(hB.block _ (Array.getElem?_eq_some_iff.1 h.v).1).trans h.v, (hB.block _ (Array.getElem?_eq_some_iff.1 h.f).1).trans h.f⟩
theorem VF.cells {W : World} {b : Nat} {x0 x1 x2 x3 : Value} {y a : Int} (h : VF W b x0 x1 x2 x3 y a) : W.cell? ⟨b, 0, none⟩ = some x0 ∧ W.cell? ⟨b, 1, none⟩ = some x1 ∧ W.cell? ⟨b, 2, none⟩ = some x2 ∧ W.cell? ⟨b, 3, none⟩ = some x3 ∧ W.cell? ⟨b + 1, 0, none⟩ = some (.int .i64 y) ∧ W.cell? ⟨b + 1, 1, none⟩ = some (.int .i64 a) := by
  refine ⟨?_, ?_, ?_, ?_, ?_, ?_⟩
  · rw [Lib.cell_of_heap h.v]; rfl
  · rw [Lib.cell_of_heap h.v]; rfl
  · rw [Lib.cell_of_heap h.v]; rfl
  · rw [Lib.cell_of_heap h.v]; rfl
  · rw [Lib.cell_of_heap h.f]; rfl
  · rw [Lib.cell_of_heap h.f]; rfl
theorem VF.new (w : World) (x0 x1 x2 x3 : Value) (y a : Int) : VF ((w.alloc (.cells #[x0, x1, x2, x3] 27)).alloc (.cells #[.int .i64 y, .int .i64 a] 41)) w.heap.size x0 x1 x2 x3 y a ∧ Below w.heap.size w ((w.alloc (.cells #[x0, x1, x2, x3] 27)).alloc (.cells #[.int .i64 y, .int .i64 a] 41)) := by
  have hb : Below (w.alloc (.cells #[x0, x1, x2, x3] 27)).heap.size (w.alloc (.cells #[x0, x1, x2, x3] 27)) ((w.alloc (.cells #[x0, x1, x2, x3] 27)).alloc (.cells #[.int .i64 y, .int .i64 a] 41)) := (Below.refl _ _).alloc (Nat.le_refl _) _
  have hs : (w.alloc (.cells #[x0, x1, x2, x3] 27)).heap.size = w.heap.size + 1 := by simp
  refine ⟨⟨(hb.block w.heap.size (by omega)).trans (val_new _ _), ?_⟩, bel ((Below.refl _ _).alloc (Nat.le_refl _) _) hb⟩
  have := val_new (w.alloc (.cells #[x0, x1, x2, x3] 27)) (.cells #[.int .i64 y, .int .i64 a] 41)
  rw [hs] at this
  exact this
theorem ex_textR : textR (Jsn.parseJ Jsn.exS) = (Jsn.exT, 0) := by
  unfold textR
  rw [if_pos Jsn.ex_may, Jsn.ex_text, if_pos (by decide)]
set_option maxHeartbeats 4000000 in
set_option maxRecDepth 100000 in
theorem alive7_any (w : World) :
    Calls Tryz.prog 4 #[] w fun e w' => e = .returned (.bool true) ∧ Below w.heap.size w w' := by
  have hP := Parse_any Jsn.exS w (by decide)
  rw [Jsn.ex_fault] at hP
  have hsz := Jsn.ex_size
  have hT := fun v w hv => Text_any (Jsn.parseJ Jsn.exS) v w hv hsz
  have hM := fun v w hv => May_any (Jsn.parseJ Jsn.exS) v w hv hsz
  rw [ex_textR] at hT
  rw [Jsn.ex_may] at hM
  clear hsz
  have hx : (str Jsn.exT).toList = [123, 34, 97, 34, 58, 91, 49, 44, 34, 195, 169, 34, 93, 125] := str_list Jsn.exT
  generalize Jsn.parseJ Jsn.exS = t at hP hT hM
  go_enter Tryz.func4, Tryz.ntmps4
  go_wp2_with (first
    | (go_at_call 19; refine hP.mono ?_; rintro e w1 ⟨hB1, v, rfl, hrv⟩; obtain ⟨aa, na, ca, ab, nb, cb, rfl⟩ := hrv.shape; have hr1 := RV.keep (Q' := fun _ => True) (Nat.le_refl _) (fun k _ _ => ⟨trivial, rfl⟩) hrv; clear hP; obtain ⟨hV, hN⟩ := VF.new w1 (.int .i64 t.kind) (.string (str t.text)) (.slice aa na ca) (.slice ab nb cb) 0 0; have hB2 := bel hB1 hN; have hr2 := RV.below hr1 hN)
    | (go_at_call 20; refine (hT _ _ hr2).mono ?_; rintro e w2 ⟨rfl, hB3⟩; clear hT; have hB4 := bel hB2 hB3; have hr3 := hr2.below hB3; have hV3 := hV.keep hB3; obtain ⟨k0, k1, k2, k3, k4, k5⟩ := hV3.cells)
    | (go_at_call 21; refine (hM _ _ hr3).mono ?_; rintro e w3 ⟨rfl, hB5⟩; clear hM))
  go_ret
  exact ⟨rfl, bel hB4 hB5⟩
end Go.Proofs.YtmmpbjpeiclacaaGreatDoor
