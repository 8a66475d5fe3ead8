/- The contract of skipBlanks. -/
import Derived.Test.YtmmpbjpeiclacaaGreatDoorKYB
set_option linter.unusedVariables false
set_option linter.unusedSimpArgs false
namespace Go.Proofs.YtmmpbjpeiclacaaGreatDoor
open Go.RowKit
set_option maxHeartbeats 1000000 in
theorem skip_any {b n : Nat} {s l : List UInt8} {w : World} (h : Ps b s l n w) :
    Calls Tryz.prog 65 #[.pointer (some ⟨b, 0, none⟩)] w fun e w' => e = .returned (.tuple #[]) ∧ Ps b s (Jsn.skip l) n w' ∧ Kept b w w' := by
  obtain ⟨p, hp, c1⟩ := h.c1
  have c0 := h.c0
  have f1 := h.free 1
  have hz := str_size s
  have hlen := h.len
  have hx := suf_from h.suf hp
  have hsk := Jsn.skip_suf l
  have hle := hsk.length_le
  have hz2 := str_size (Jsn.skip l)
  have hT := TrimWs_any l
  have b1 : (0 : Int) ≤ (p : Int) := by omega
  have b2 : (p : Int) ≤ (s.length : Int) := by omega
  go_enter Tryz.func65, Tryz.ntmps65
  have hwr : IntKind.i64.wrap ((s.length : Int) - ((Jsn.skip l).length : Int)) = ((s.length - (Jsn.skip l).length : Nat) : Int) := by
    rw [IntKind.wrap_i64]; omega
  go_region_with (go_at_call 87; refine (hT _).mono ?_; rintro e w1 ⟨rfl, hb⟩; have hP1 := h.drew.step hb; have c01 := hP1.c0; have f11 := hP1.free 1; have c11 := (hb.cell (p := ⟨b, 1, none⟩) h.lt).trans c1)
  all_goals (go_end0; exact ⟨rfl, hP1.setAt (s.length - (Jsn.skip l).length) hsk (by omega), ((Kept.refl _ _).drew.trans (Kept.of hb)).trans (Kept.set _ _ _ _)⟩)
end Go.Proofs.YtmmpbjpeiclacaaGreatDoor
