/- The contracts of the reference's one and Put. -/
import Derived.Test.YtdllcnifkiebjaaDoorURef
import Derived.Test.YtdllcnifkiebjaaDoorUPut
namespace Go.Proofs.YtdllcnifkiebjaaDoor
open Go.RowKit
theorem owns_new (w : World) (xs : List Value) (l : List UInt8) (n : Nat) (h : cellsB l = xs) (hn : l.length = n) (hl : n ≤ 100) :
    OwnsBytes (w.alloc (.cells xs.toArray 5)) w.heap.size (.slice (some ⟨w.heap.size, 0, none⟩) n n) l := by
  subst h hn
  refine ⟨by rw [cellsB_length, Nat.mul_one], .inr ⟨w.heap.size, l.length, _, rfl, Nat.le_refl _, heap_new w _, Nat.le_refl _, by unfold maxLen; omega, ?_, ?_⟩⟩
  · rw [List.size_toArray, cellsB_length, Nat.mul_one]
  · rw [Nat.mul_one]
    exact List.take_of_length_le (by rw [cellsB_length]; exact Nat.le_refl _)
theorem cells_rune (c : Int) : cellsB (Lib.encodeRune c) = Lib.runeCells c := by rw [cellsB_byteCells, Lib.byteCells_encodeRune]
set_option maxHeartbeats 2000000 in
set_option maxRecDepth 100000 in
theorem one_right (c : Int) (w : World) (hc : Utf.right c = true) :
    Calls Tryd.prog 42 #[.int .i32 c] w fun e w' => ∃ v', e = .returned v' ∧ OwnsBytes w' w.heap.size v' (Lib.encodeRune c) ∧ Below w.heap.size w w' := by
  have hr : 0 ≤ c ∧ c ≤ 1114111 ∧ (c < 55296 ∨ 57343 < c) := by simpa [Utf.right] using hc
  have hb : ∀ o, Below w.heap.size w (w.alloc o) := fun o => (Below.refl _ w).alloc (Nat.le_refl _) _
  by_cases c1 : c < 128
  · have HE : Hid (cellsB (Lib.encodeRune c) = [.int .u8 c]) := by
      show _ = _
      rw [cells_rune, Lib.runeCells, Lib.encodeRuneZ_one hr.1 (by omega)]; rfl
    have HN : Hid ((Lib.encodeRune c).length = 1) := by show _ = _; rw [← cellsB_length, HE.out]; rfl
    go_enter Tryd.func42, Tryd.ntmps42
    go_wp2_with (go_at_call 22; refine (Right_n _ _).mono ?_; rintro e w1 ⟨rfl, hw⟩; rw [hw]; clear hw)
    go_ret
    exact ⟨_, rfl, owns_new w _ _ _ HE.out HN.out (by decide), hb _⟩
  by_cases c2 : c < 2048
  · have d1 : (c).tdiv 64 = c / 64 := Int.tdiv_eq_ediv_of_nonneg (by omega)
    have m1 : (c).tmod 64 = c % 64 := Int.tmod_eq_emod_of_nonneg (by omega)
    have HE : Hid (cellsB (Lib.encodeRune c) = [.int .u8 (192 + c / 64), .int .u8 (128 + c % 64)]) := by
      show _ = _
      rw [cells_rune, Lib.runeCells, Lib.encodeRuneZ_two (by omega) (by omega)]; rfl
    have HN : Hid ((Lib.encodeRune c).length = 2) := by show _ = _; rw [← cellsB_length, HE.out]; rfl
    go_enter Tryd.func42, Tryd.ntmps42
    go_wp2_with (go_at_call 22; refine (Right_n _ _).mono ?_; rintro e w1 ⟨rfl, hw⟩; rw [hw]; clear hw)
    go_ret
    exact ⟨_, rfl, owns_new w _ _ _ HE.out HN.out (by decide), hb _⟩
  by_cases c3 : c < 65536
  · have d1 : (c).tdiv 4096 = c / 4096 := Int.tdiv_eq_ediv_of_nonneg (by omega)
    have d2 : (c).tdiv 64 = c / 64 := Int.tdiv_eq_ediv_of_nonneg (by omega)
    have m1 : (c).tmod 64 = c % 64 := Int.tmod_eq_emod_of_nonneg (by omega)
    have m2 : (c / 64).tmod 64 = c / 64 % 64 := Int.tmod_eq_emod_of_nonneg (by omega)
    have HE : Hid (cellsB (Lib.encodeRune c) = [.int .u8 (224 + c / 4096), .int .u8 (128 + c / 64 % 64), .int .u8 (128 + c % 64)]) := by
      show _ = _
      rw [cells_rune, Lib.runeCells, Lib.encodeRuneZ_three (by omega)]; rfl
    have HN : Hid ((Lib.encodeRune c).length = 3) := by show _ = _; rw [← cellsB_length, HE.out]; rfl
    go_enter Tryd.func42, Tryd.ntmps42
    go_wp2_with (go_at_call 22; refine (Right_n _ _).mono ?_; rintro e w1 ⟨rfl, hw⟩; rw [hw]; clear hw)
    go_ret
    exact ⟨_, rfl, owns_new w _ _ _ HE.out HN.out (by decide), hb _⟩
  have d1 : (c).tdiv 262144 = c / 262144 := Int.tdiv_eq_ediv_of_nonneg (by omega)
  have d2 : (c).tdiv 4096 = c / 4096 := Int.tdiv_eq_ediv_of_nonneg (by omega)
  have d3 : (c).tdiv 64 = c / 64 := Int.tdiv_eq_ediv_of_nonneg (by omega)
  have m1 : (c).tmod 64 = c % 64 := Int.tmod_eq_emod_of_nonneg (by omega)
  have m2 : (c / 64).tmod 64 = c / 64 % 64 := Int.tmod_eq_emod_of_nonneg (by omega)
  have m3 : (c / 4096).tmod 64 = c / 4096 % 64 := Int.tmod_eq_emod_of_nonneg (by omega)
  have HE : Hid (cellsB (Lib.encodeRune c) = [.int .u8 (240 + c / 262144), .int .u8 (128 + c / 4096 % 64), .int .u8 (128 + c / 64 % 64), .int .u8 (128 + c % 64)]) := by
    show _ = _
    rw [cells_rune, Lib.runeCells, Lib.encodeRuneZ_four (by omega) (by omega)]; rfl
  have HN : Hid ((Lib.encodeRune c).length = 4) := by show _ = _; rw [← cellsB_length, HE.out]; rfl
  go_enter Tryd.func42, Tryd.ntmps42
  go_wp2_with (go_at_call 22; refine (Right_n _ _).mono ?_; rintro e w1 ⟨rfl, hw⟩; rw [hw]; clear hw)
  go_ret
  exact ⟨_, rfl, owns_new w _ _ _ HE.out HN.out (by decide), hb _⟩
theorem enc_none {c : Int} (h : Utf.right c = false) : Lib.encodeRune c = Lib.encodeRune 65533 := by
  rw [← Utf.encode_mend c]
  unfold Utf.mend
  rw [h]
  rfl
set_option maxHeartbeats 2000000 in
set_option maxRecDepth 100000 in
theorem one_any (c : Int) (w : World) :
    Calls Tryd.prog 42 #[.int .i32 c] w fun e w' => ∃ v', e = .returned v' ∧ OwnsBytes w' w.heap.size v' (Lib.encodeRune c) ∧ Below w.heap.size w w' := by
  cases hc : Utf.right c
  · have HE := enc_none hc
    rw [HE]
    go_enter Tryd.func42, Tryd.ntmps42
    go_wp2_with (first
      | (go_at_call 22; refine (Right_n _ _).mono ?_; rintro e w1 ⟨rfl, hw⟩; rw [hw]; clear hw)
      | (go_at_call 42; refine (one_right 65533 _ rfl).mono ?_; rintro e w2 ⟨v2, rfl, ho2, hb2⟩))
    go_ret
    exact ⟨_, rfl, ho2, hb2⟩
  · exact one_right c w hc
end Go.Proofs.YtdllcnifkiebjaaDoor
