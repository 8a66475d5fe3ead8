/- The walk of DateTexts. -/
import Derived.Test.YtnklbeldheocmaaGreatDoorKDateE
import Derived.Test.YtnklbeldheocmaaGreatDoorKDR9
namespace Go.Proofs.YtnklbeldheocmaaGreatDoor.dateTexts
open Go.RowKit
set_option maxRecDepth 100000 in
set_option maxHeartbeats 2000000 in
theorem walk_str (l : List UInt8) (w : World) (hE : Env6 w) :
    Calls Tryz.prog 3 #[.string (str l)] w fun e w' => e = .returned (.bool true) ∧ Below w.heap.size w w' := by
  have hz : (str l).size = l.length := str_size l
  by_cases hl : 1000 < l.length
  · have hlI : (1000 : Int) < (l.length : Int) := by omega
    go_enter Tryz.func3, Tryz.ntmps3
    go_wp2_with (first
      | (go_at_call 4; refine (alive6_any _ hE).mono ?_; rintro e w3 ⟨rfl, hb3⟩))
    go_ret
    exact ⟨rfl, hb3⟩
  · have hlI : ¬ (1000 : Int) < (l.length : Int) := by omega
    have h1 := fun w h => Day_date l w h (by omega)
    have h2 := fun w => RDay_any l w (by omega)
    have h3 := fun w h => Clock_date l w h (by omega)
    have h4 := fun w => RClock_any l w (by omega)
    have h5 := fun w h => Zone_date l w h (by omega)
    have h6 := fun w => RZone_any l w (by omega)
    unfold numV at h1 h3 h5
    unfold timeV at h4 h6
    generalize (Dat.dayR l).getD 0 = a1 at h1 h2
    generalize optE (Dat.dayR l) = a2 at h1 h2
    generalize (clkR l).getD 0 = b1 at h3 h4
    generalize optE (clkR l) = b2 at h3 h4
    generalize (Dat.zoneR l).getD 0 = c1 at h5 h6
    generalize optE (Dat.zoneR l) = c2 at h5 h6
    have h2b : ∀ w, Calls Tryz.prog 6 #[.string (str l)] w fun e w' => e = .returned (.tuple #[.int .i64 a1, .int .i64 a2]) ∧ Below w.heap.size w w' := fun w => (h2 w).mono (by
      rintro e w' ⟨rfl, k, rfl⟩
      exact ⟨rfl, below_drewN (Below.refl _ _) k⟩)
    clear hl h2
    have hB : Below w.heap.size w w := Below.refl _ _
    go_enter Tryz.func3, Tryz.ntmps3
    go_wp2_with (first
      | (go_at_call 5; refine (h1 _ hE.ah).mono ?_; rintro e wn ⟨rfl, hn⟩; have hE2 := hE.below hn; replace hE := hE2; clear hE2; replace hB := hB.trans (hn.mono hB.size); clear hn)
      | (go_at_call 6; refine (h2b _).mono ?_; rintro e wn ⟨rfl, hn⟩; have hE2 := hE.below hn; replace hE := hE2; clear hE2; replace hB := hB.trans (hn.mono hB.size); clear hn)
      | (go_at_call 7; refine (h3 _ hE.ah).mono ?_; rintro e wn ⟨rfl, hn⟩; have hE2 := hE.below hn; replace hE := hE2; clear hE2; replace hB := hB.trans (hn.mono hB.size); clear hn)
      | (go_at_call 8; refine (h4 _).mono ?_; rintro e wn ⟨rfl, hn⟩; have hE2 := hE.below hn; replace hE := hE2; clear hE2; replace hB := hB.trans (hn.mono hB.size); clear hn)
      | (go_at_call 9; refine (h5 _ hE.ah).mono ?_; rintro e wn ⟨rfl, hn⟩; have hE2 := hE.below hn; replace hE := hE2; clear hE2; replace hB := hB.trans (hn.mono hB.size); clear hn)
      | (go_at_call 10; refine (h6 _).mono ?_; rintro e wn ⟨rfl, hw⟩; rw [hw]; clear hw)
      | (go_at_call 4; refine (alive6_any _ hE).mono ?_; rintro e w3 ⟨rfl, hb3⟩))
    go_ret
    exact ⟨rfl, hB.trans (hb3.mono hB.size)⟩
theorem walk (a0 : ByteArray) (w : World) (_h0 : a0.size ≤ maxLen) (hE : Env6 w) :
    Calls Tryz.prog 3 #[.string a0] w fun e w' => e = .returned (.bool true) ∧ Below w.heap.size w w' := by
  have := walk_str a0.data.toList w hE
  rw [str_self] at this
  exact this
end Go.Proofs.YtnklbeldheocmaaGreatDoor.dateTexts
