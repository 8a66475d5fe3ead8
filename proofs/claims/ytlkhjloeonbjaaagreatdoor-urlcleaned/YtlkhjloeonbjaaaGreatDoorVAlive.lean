/- The contracts of the law's own long and alive. -/
import Derived.Test.YtlkhjloeonbjaaaGreatDoorVMay
import Derived.Test.YtlkhjloeonbjaaaGreatDoorUrlGood
namespace Go.Proofs.YtlkhjloeonbjaaaGreatDoor
open Go.RowKit
theorem UAt.cells {w : World} {b : Nat} {u : Url.U} (h : UAt w b u) : w.cell? ⟨b, 0, none⟩ = some (.string (str u.sch)) ∧ w.cell? ⟨b, 1, none⟩ = some (.string (str u.host)) ∧ w.cell? ⟨b, 2, none⟩ = some (.int .i64 u.port) ∧ w.cell? ⟨b, 3, none⟩ = some (.string (str u.path)) ∧ w.cell? ⟨b, 4, none⟩ = some (.string (str u.query)) ∧ w.cell? ⟨b, 5, none⟩ = some (.string (str u.frag)) ∧ w.cell? ⟨b, 6, none⟩ = some (.bool u.hq) ∧ w.cell? ⟨b, 7, none⟩ = some (.bool u.hf) :=
  ⟨h.cell 0, h.cell 1, h.cell 2, h.cell 3, h.cell 4, h.cell 5, h.cell 6, h.cell 7⟩
def longU (l : List UInt8) : Bool := decide (2200 < l.length)
theorem longU_yes {l : List UInt8} (h : 2200 < l.length) : longU l = true := decide_eq_true h
theorem longU_no {l : List UInt8} (h : ¬ 2200 < l.length) : longU l = false := decide_eq_false h
theorem long_any (l : List UInt8) (w : World) :
    Calls Tryz.prog 9 #[.string (str l)] w fun e w' => e = .returned (.bool (longU l)) ∧ w' = w := by
  have hsz := str_size l
  go_enter Tryz.func9, Tryz.ntmps9
  go_wp2
  go_ret
  exact ⟨ret_bool (by unfold longU; rw [decide_eq_decide]; omega), rfl⟩
def probeV : Array Value := #[.string ⟨#[104, 116, 116, 112]⟩, .string ⟨#[101, 120, 46, 111, 114, 103]⟩, .int .i64 0, .string ⟨#[47, 97, 47, 99]⟩, .string ⟨#[120]⟩, .string ⟨#[121]⟩, .bool true, .bool true]
theorem probeV_eq : uVal Url.probeU = .agg probeV := rfl
theorem probe_fits : Fits Url.probeU := by
  unfold Fits Url.probeU Url.http
  decide
set_option maxHeartbeats 2000000 in
set_option maxRecDepth 100000 in
theorem alive_any (w : World) (hE : Env w) :
    Calls Tryz.prog 10 #[] w fun e w' => e = .returned (.bool true) ∧ Below w.heap.size w w' := by
  have hzu := (zero_of_info zeroURL).1
  have hgd := guardU
  have parc : Calls Tryz.prog 11 #[.string ⟨#[72, 84, 84, 80, 58, 47, 47, 69, 120, 46, 111, 114, 103, 58, 56, 48, 47, 97, 47, 46, 47, 98, 47, 46, 46, 47, 99, 63, 120, 35, 121]⟩] w fun e w' => e = .returned (.tuple #[.agg probeV, .int .i64 0]) ∧ Below w.heap.size w w' := by
    have := Parse_any Url.probe w hE (by decide)
    rw [Url.probe_yes.1, Url.probe_yes.2, probeV_eq] at this
    exact this
  have strc : ∀ W : World, Env W → Calls Tryz.prog 22 #[.agg probeV] W fun e w' => e = .returned (.string ⟨#[104, 116, 116, 112, 58, 47, 47, 101, 120, 46, 111, 114, 103, 47, 97, 47, 99, 63, 120, 35, 121]⟩) ∧ Below W.heap.size W w' := fun W h => String_any Url.probeU W h probe_fits
  have heq : ∀ W : World, (binOp .eql 25 (.agg probeV) (.agg probeV)).run Tryz.prog W = .ok (.bool true) W := fun W => by
    have := eql_U Url.probeU Url.probeU W
    rw [Url.same_self] at this
    exact this
  unfold uVal uCells at hzu
  unfold probeV at parc strc heq
  go_enter Tryz.func10, Tryz.ntmps10
  go_wp2_with (first
    | (go_at_call 11; refine parc.mono ?_; rintro e w1 ⟨rfl, hb1⟩; have hE1 := hE.below hb1; have hn1 := hb1.size)
    | (go_at_call 22; refine (strc _ (hE1.below ((Below.refl _ w1).alloc (Nat.le_refl _) _))).mono ?_; rintro e w2 ⟨rfl, hb2⟩))
  go_ret
  exact ⟨rfl, bel (hb1.alloc hn1 _) hb2⟩
end Go.Proofs.YtlkhjloeonbjaaaGreatDoor
