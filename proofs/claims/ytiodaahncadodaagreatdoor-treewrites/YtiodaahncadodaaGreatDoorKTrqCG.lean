/- Texts laid as one. -/
import Derived.Test.YtiodaahncadodaaGreatDoorKTrqAB
import Derived.Test.YtiodaahncadodaaGreatDoorKTreOQ
/- The contract of the reference's lay. -/
set_option linter.unusedVariables false
set_option linter.unusedSimpArgs false
namespace Go.Proofs.YtiodaahncadodaaGreatDoor
open Go.RowKit
section
variable {w : World} {B bb : Nat} {nv ov : Value} {ps : List PN} {op : List Nat}
end
end Go.Proofs.YtiodaahncadodaaGreatDoor
/- The contract of the reference's text. -/
namespace Go.Proofs.YtiodaahncadodaaGreatDoor
open Go.RowKit
theorem QPost.base {B bb : Nat} {w W w' : World} {b : Tre.St} (h : QPost B bb W b w') (hb : Below B w W) : QPost B bb w b w' := by
  obtain ⟨nv, ov, ps, h1, h2, h3⟩ := h
  exact ⟨nv, ov, ps, h1, h2, hb.trans h3⟩
section
variable {w : World} {B bb : Nat} {nv ov : Value} {ps : List PN} {op : List Nat}
end
end Go.Proofs.YtiodaahncadodaaGreatDoor
/- The contracts of the reference's Void, block and closes. -/
namespace Go.Proofs.YtiodaahncadodaaGreatDoor
open Go.RowKit
set_option maxHeartbeats 2000000 in
set_option maxRecDepth 100000 in
theorem RVoid13_any (l : List UInt8) (w : World) :
    Calls Tryz.prog 59 #[.string (str l)] w fun e w' => e = .returned (.bool (Tre.isVoid l)) ∧ Below w.heap.size w w' := by
  have h1 := own_lit w Tre.voidNames (by decide)
  have hb : Below w.heap.size w (w.alloc (.cells (Tre.voidNames.map strV).toArray 9)) := (Below.refl _ _).alloc (Nat.le_refl _) _
  have hc := RHas13_any Tre.voidNames _ l _ h1.reads (by decide)
  rw [show Tre.voidNames.contains l = Tre.isVoid l from rfl] at hc
  have HC := hideT hc
  have HB := hideT hb
  clear h1 hb hc
  go_enter Tryz.func59, Tryz.ntmps59
  go_wp2_with (go_at_call 60; refine HC.out.mono ?_; rintro e w1 ⟨rfl, he⟩; rw [he]; clear he)
  go_ret
  exact ⟨ret_bool rfl, HB.out⟩
end Go.Proofs.YtiodaahncadodaaGreatDoor
