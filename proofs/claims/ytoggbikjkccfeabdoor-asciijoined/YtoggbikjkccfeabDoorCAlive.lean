/- The contract of the laws' own 'alive': it answers true, and makes memory alone. -/
import Derived.Test.YtoggbikjkccfeabDoorCHex
import Derived.Test.YtoggbikjkccfeabDoorCPad
namespace Go.Proofs.YtoggbikjkccfeabDoor
open Go.RowKit
theorem Hex_ff (w : World) : Calls Tryd.prog 15 #[.string ⟨#[102, 70]⟩] w fun e w' => e = .returned (.tuple #[.int .u32 255, .int .i64 0]) ∧ w' = w := by
  have h := Hex_any ⟨#[102, 70]⟩ w (by decide)
  rw [show Asc.hexNum (⟨#[102, 70]⟩ : ByteArray).data.toList = 255 from by decide +kernel, show Asc.hexErr (⟨#[102, 70]⟩ : ByteArray).data.toList = 0 from by decide +kernel] at h
  exact h
theorem Words_ab (w : World) : Calls Tryd.prog 7 #[.string ⟨#[32, 97, 32, 32, 98]⟩] w fun e w' => ∃ v, e = .returned v ∧ OwnsTexts w' w.heap.size v [[97], [98]] ∧ Below w.heap.size w w' := by
  have h := Words_any ⟨#[32, 97, 32, 32, 98]⟩ w (by decide)
  rw [show Asc.words (⟨#[32, 97, 32, 32, 98]⟩ : ByteArray).data.toList = [[97], [98]] from by decide +kernel] at h
  exact h
theorem Pad_7 (w : World) (hT : Pow w) : Calls Tryd.prog 16 #[.int .i64 (-7), .int .i64 3] w fun e w' => e = .returned (.string ⟨#[45, 48, 48, 55]⟩) ∧ Below w.heap.size w w' := by
  have h := Pad_any (-7) 3 w (by omega) (by omega) hT
  rw [show strV (padL (-7) 3) = .string ⟨#[45, 48, 48, 55]⟩ from by
    unfold strV padL
    rw [show Lib.decDigits (-7 : Int).natAbs = [55] from by
      show Lib.decDigits 7 = [55]
      rw [Lib.decDigits]
      rfl]
    rfl] at h
  exact h
theorem Same_ab (w : World) : Calls Tryd.prog 12 #[.string ⟨#[97, 66]⟩, .string ⟨#[65, 98]⟩] w fun e w' => e = .returned (.bool true) ∧ ∃ n, w' = w.drewN n := by
  have h := Same_any ⟨#[97, 66]⟩ ⟨#[65, 98]⟩ w (by decide)
  rw [show decide (Asc.lower (⟨#[97, 66]⟩ : ByteArray).data.toList = Asc.lower (⟨#[65, 98]⟩ : ByteArray).data.toList) = true from by decide +kernel] at h
  exact h
theorem reads_two (w : World) : ReadsTexts (w.alloc (.cells #[.string ⟨#[97]⟩, .string ⟨#[98]⟩] 9)) (.slice (some ⟨w.heap.size, 0, none⟩) 2 2) [[97], [98]] := by
  refine .inr ⟨w.heap.size, 0, 2, rfl, Nat.le_refl _, fun j t hj => ?_⟩
  match j, hj with
  | 0, hj => simp at hj; subst hj; simp [strV]
  | 1, hj => simp at hj; subst hj; simp [strV]
theorem cell_lt {w : World} {a : Addr} {v : Value} (h : w.cell? a = some v) : a.block < w.heap.size := by
  by_cases hs : a.block < w.heap.size
  · exact hs
  · unfold World.cell? at h
    rw [Array.getElem?_eq_none (by omega)] at h
    simp at h
theorem cell_alloc {w : World} {a : Addr} {v : Value} {o : Obj} (h : w.cell? a = some v) : (w.alloc o).cell? a = some v := by
  rw [World.cell?_alloc_lt _ _ _ (cell_lt h), h]
theorem ReadsTexts.alloc {w : World} {v : Value} {ts : List (List UInt8)} (h : ReadsTexts w v ts) (o : Obj) : ReadsTexts (w.alloc o) v ts := by
  rcases h with h | ⟨b, o', c, rfl, hc, hr⟩
  · exact .inl h
  · exact .inr ⟨b, o', c, rfl, hc, fun j t hj => cell_alloc (hr j t hj)⟩
set_option maxHeartbeats 400000 in
theorem alive_any (w : World) (hT : Pow w) : Calls Tryd.prog 6 #[] w fun e w' => e = .returned (.bool true) ∧ Below w.heap.size w w' := by
  go_enter Tryd.func6, Tryd.ntmps6
  go_wp2_with (first
    | (go_at_call 15; refine (Hex_ff _).mono ?_; rintro e w1 ⟨rfl, hw⟩; rw [hw]; clear hw)
    | (go_at_call 7; refine (Words_ab _).mono ?_; rintro e w2 ⟨v, rfl, hown, hb2⟩))
  have hT2 := hT.below hb2
  refine (Texts_any v _ [[97], [98]] [[97], [98]] _ (hown.reads.alloc _) (reads_two w2) (by decide) (by decide)).mono ?_
  rintro e w3 ⟨rfl, n3, hw3⟩
  have hb3 : Below w.heap.size w w3 := by rw [hw3]; exact below_drewN (hb2.alloc hb2.size _) n3
  clear hw3
  have hT3 := hT.below hb3
  rw [show decide (([[97], [98]] : List (List UInt8)) = [[97], [98]]) = true from by decide]
  go_wp2_with (first
    | (go_at_call 16; refine (Pad_7 _ hT3).mono ?_; rintro e w4 ⟨rfl, hb4⟩)
    | (go_at_call 12; refine (Same_ab _).mono ?_; rintro e w5 ⟨rfl, n5, hw5⟩))
  go_ret
  exact ⟨rfl, below_drewN (hb3.trans (hb4.mono hb3.size)) n5⟩
end Go.Proofs.YtoggbikjkccfeabDoor
