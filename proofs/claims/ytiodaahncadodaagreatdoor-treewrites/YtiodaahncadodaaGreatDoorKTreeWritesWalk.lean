/- The walk of the law TreeWrites, out of the contracts. -/
import Derived.Test.YtiodaahncadodaaGreatDoorKTrqL
import Derived.Test.YtiodaahncadodaaGreatDoorKTreTV
set_option linter.unusedVariables false
set_option linter.unusedSimpArgs false
namespace Go.Proofs.YtiodaahncadodaaGreatDoor.treeWrites
open Go.RowKit
set_option maxHeartbeats 8000000 in
set_option maxRecDepth 100000 in
theorem walk (na : List Nd) (va : Value) (at_ : Int) (w : World) (h1 : ArgDoc w va na) (h2 : (Lit.int .i64 at_).wf = true) (hT : EnvT w) :
    Calls Tryz.prog 5 #[va, .int .i64 at_] w fun e w' => e = .returned (.bool true) ∧ Below w.heap.size w w' := by
  have HT : Hid (EnvT w) := hT
  clear hT h2
  obtain ⟨aa, ac, rfl, hra, hla, hfa⟩ := h1
  have hb0 : Below w.heap.size w (w.alloc (.cells #[.slice aa na.length ac] 26)) := (Below.refl _ _).alloc (Nat.le_refl _) _
  have cc0 := doc_one (heap_new w (.cells #[.slice aa na.length ac] 26))
  have lc := cell_lt cc0
  have HB0 := hideT hb0
  have FA := hideT (far13_any na _ _ (hra.below hb0) hla)
  generalize hfA : Tre.farD na = fa at *
  cases fa with
  | true =>
    clear hfA hra hla hfa hb0 lc
    go_enter Tryz.func5, Tryz.ntmps5
    go_wp2_with (first
      | (go_at_call 14; refine FA.out.mono ?_; rintro e w3 ⟨rfl, hB3⟩; have HB3 := hideT (bel HB0.out hB3); clear hB3)
      | (go_at_call 10; refine (alive13_any _ (HT.out.below HB3.out)).mono ?_; rintro e w9 ⟨rfl, hB9⟩; have HB9 := hideT (bel HB3.out hB9); clear hB9))
    go_ret
    exact ⟨rfl, HB9.out⟩
  | false =>
    have hat : na.length ≤ 4096 → ∀ i, i < na.length → (Tre.ndAt na i).attrs.length ≤ 1000000 := fun h4 i hi => by
      have := (Tre.farD_no hfA).1
      have h2 := (Tre.farD_no hfA).2 i hi (by omega)
      omega
    have CW := hideT (fun W (hB : Below w.heap.size w W) => Write_may na _ W (hra.below hB) hla hat (far_few hfA) at_)
    have CR := hideT (fun W (hB : Below w.heap.size w W) => RWrite_any na _ W (hra.below hB) hla hfa hfA at_)
    generalize Tre.writeR na at_ = x at *
    obtain ⟨tx, q⟩ := x
    clear hfA hra hla hfa hb0 hat
    go_enter Tryz.func5, Tryz.ntmps5
    go_wp2_with (first
      | (go_at_call 14; refine FA.out.mono ?_; rintro e w3 ⟨rfl, hB3⟩; have HB3 := hideT (bel HB0.out hB3); have cc3 := (hB3.cell (p := ⟨w.heap.size, 0, none⟩) lc).trans cc0; have lc3 := cell_lt cc3; clear hB3 cc0 lc)
      | (go_at_call 20; refine (CW.out _ HB3.out).mono ?_; rintro e w4 ⟨rfl, hB4⟩; have HB4 := hideT (bel HB3.out hB4); have cc4 := (hB4.cell (p := ⟨w.heap.size, 0, none⟩) lc3).trans cc3; clear hB4 cc3 lc3)
      | (go_at_call 21; refine (CR.out _ HB4.out).mono ?_; rintro e w5 ⟨rfl, hB5⟩; have HB5 := hideT (bel HB4.out hB5); clear hB5 cc4)
      | (go_at_call 10; refine (alive13_any _ (HT.out.below HB5.out)).mono ?_; rintro e w9 ⟨rfl, hB9⟩; have HB9 := hideT (bel HB5.out hB9); clear hB9))
    go_ret
    exact ⟨rfl, HB9.out⟩
end Go.Proofs.YtiodaahncadodaaGreatDoor.treeWrites
