/- The contracts of the reference's small functions, and of its Next. -/
import Derived.Test.YtdllcnifkiebjaaDoorUPart
import Derived.Laws.BitsAllLaws
namespace Utf
/-- The number that i bytes tell of a sign of n bytes. -/
def off (n : Nat) : Int := if n = 2 then 192 else if n = 3 then 224 else if n = 4 then 240 else 0
def valAt (l : List UInt8) (o : Int) : Nat → Int
  | 0 => 0
  | 1 => (at' l 0 : Int) - o
  | (i + 2) => valAt l o (i + 1) * 64 + (at' l (i + 1) : Int) - 128
theorem val_1 (l : List UInt8) (o : Int) : valAt l o 1 = (at' l 0 : Int) - o := rfl
theorem val_s (l : List UInt8) (o : Int) (i : Nat) (h : 1 ≤ i) : valAt l o (i + 1) = valAt l o i * 64 + (at' l i : Int) - 128 := by
  cases i with
  | zero => omega
  | succ i => rfl
theorem whole_sz (l : List UInt8) (hw : (part l).2 = true) : (part l).1 = sz (at' l 0) ∧ 1 ≤ sz (at' l 0) := by
  have hs4 := sz_le4 (at' l 0)
  unfold part partN at *
  revert hw
  repeat' split
  all_goals intro hw
  all_goals first | (cases hw; done) | skip
  all_goals dsimp only
  all_goals omega
theorem val_bd (l : List UInt8) (hw : (part l).2 = true) (i : Nat) (h1 : 1 ≤ i) (hi : i < sz (at' l 0)) : 0 ≤ valAt l (off (sz (at' l 0))) i ∧ valAt l (off (sz (at' l 0))) i ≤ 30000 := by
  obtain ⟨e1, e2⟩ := whole_sz l hw
  have cont : ∀ j, 1 ≤ j → j < sz (at' l 0) → 128 ≤ at' l j ∧ at' l j ≤ 191 := fun j a b => part_cont l j a (by omega)
  have hs4 := sz_le4 (at' l 0)
  have v1 : valAt l (off (sz (at' l 0))) 1 = _ := rfl
  have v2 : valAt l (off (sz (at' l 0))) 2 = _ := val_s l _ 1 (by omega)
  have v3 : valAt l (off (sz (at' l 0))) 3 = _ := val_s l _ 2 (by omega)
  rcases sz_inv (at' l 0) (by omega) with q | q | q | q
  · omega
  · have : off (sz (at' l 0)) = 192 := by rw [q.1]; rfl
    obtain rfl : i = 1 := by omega
    rw [val_1, this]; omega
  · have : off (sz (at' l 0)) = 224 := by rw [q.1]; rfl
    have c1 := cont 1 (by omega) (by omega)
    obtain rfl | rfl : i = 1 ∨ i = 2 := by omega
    · rw [val_1, this]; omega
    · rw [v2, val_1, this]; omega
  · have : off (sz (at' l 0)) = 240 := by rw [q.1]; rfl
    have c1 := cont 1 (by omega) (by omega)
    have c2 := cont 2 (by omega) (by omega)
    obtain rfl | rfl | rfl : i = 1 ∨ i = 2 ∨ i = 3 := by omega
    · rw [val_1, this]; omega
    · rw [v2, val_1, this]; omega
    · rw [v3, v2, val_1, this]; omega
theorem val_end (l : List UInt8) (h : l ≠ []) (hw : (part l).2 = true) : valAt l (off (sz (at' l 0))) (sz (at' l 0)) = ((dec l).1 : Int) := by
  obtain ⟨e1, e2⟩ := whole_sz l hw
  have cont : ∀ j, 1 ≤ j → j < sz (at' l 0) → 128 ≤ at' l j ∧ at' l j ≤ 191 := fun j a b => part_cont l j a (by omega)
  have hpl := part_len l h
  have hb2 : 2 ≤ sz (at' l 0) → lo (at' l 0) ≤ at' l 1 ∧ at' l 1 ≤ hi (at' l 0) := by
    intro h2
    unfold part partN at hw
    rw [if_neg (by omega), if_neg (by omega)] at hw
    split at hw
    · cases hw
    · omega
  rcases sz_inv (at' l 0) (by omega) with q | q | q | q
  · have : off (sz (at' l 0)) = 0 := by rw [q.1]; rfl
    rw [this, q.1, val_1]
    unfold dec
    rw [dec_1 _ _ _ _ _ q.2]
    omega
  · have : off (sz (at' l 0)) = 192 := by rw [q.1]; rfl
    have c1 := cont 1 (by omega) (by omega)
    rw [this, q.1, val_s l _ 1 (by omega), val_1]
    unfold dec
    rw [dec_2 _ _ _ _ _ (by omega) q.2 c1]
    simp only
    omega
  · have : off (sz (at' l 0)) = 224 := by rw [q.1]; rfl
    have c1 := cont 1 (by omega) (by omega)
    have c2 := cont 2 (by omega) (by omega)
    rw [this, q.1, val_s l _ 2 (by omega), val_s l _ 1 (by omega), val_1]
    unfold dec
    rw [dec_3 _ _ _ _ _ (by omega) q.2 (hb2 (by omega)) c2]
    simp only
    omega
  · have : off (sz (at' l 0)) = 240 := by rw [q.1]; rfl
    have c1 := cont 1 (by omega) (by omega)
    have c2 := cont 2 (by omega) (by omega)
    have c3 := cont 3 (by omega) (by omega)
    rw [this, q.1, val_s l _ 3 (by omega), val_s l _ 2 (by omega), val_s l _ 1 (by omega), val_1]
    unfold dec
    rw [dec_4 _ _ _ _ _ (by omega) q.2 (hb2 (by omega)) c2 c3]
    simp only
    omega
/-- May a byte stand at a place behind a first one? -/
def goodAt (b k x : Nat) : Bool := decide ((if k = 1 then lo b else 128) ≤ x ∧ x ≤ (if k = 1 then hi b else 191))
theorem good_low (b k x : Nat) (h : 1 < sz b) : goodAt b k x = false ↔ (x < lowAt b k ∨ highAt b k < x) := by
  have e' := lo_hi' (b := b) (by omega)
  unfold goodAt lowAt highAt
  rw [e'.1, e'.2, decide_eq_false_iff_not]
  omega
end Utf
namespace Go.Proofs.YtdllcnifkiebjaaDoor
open Go.RowKit
set_option maxHeartbeats 1000000 in
set_option maxRecDepth 100000 in
theorem Right_n (c : Int) (w : World) :
    Calls Tryd.prog 22 #[.int .i32 c] w fun e w' => e = .returned (.bool (Utf.right c)) ∧ w' = w := by
  by_cases h1 : 0 ≤ c
  · by_cases h2 : c ≤ 1114111
    · by_cases h3 : c < 55296
      · have hr : Utf.right c = true := by unfold Utf.right; exact decide_eq_true (by omega)
        rw [hr]
        go_enter Tryd.func22, Tryd.ntmps22
        go_wp2
        go_ret
        exact ⟨ret_bool (by first | rfl | (simp <;> omega)), rfl⟩
      · by_cases h4 : 57343 < c
        · have hr : Utf.right c = true := by unfold Utf.right; exact decide_eq_true (by omega)
          rw [hr]
          go_enter Tryd.func22, Tryd.ntmps22
          go_wp2
          go_ret
          exact ⟨ret_bool (by first | rfl | (simp <;> omega)), rfl⟩
        · have hr : Utf.right c = false := by unfold Utf.right; exact decide_eq_false (by omega)
          rw [hr]
          go_enter Tryd.func22, Tryd.ntmps22
          go_wp2
          go_ret
          exact ⟨ret_bool (by first | rfl | (simp <;> omega)), rfl⟩
    · have hr : Utf.right c = false := by unfold Utf.right; exact decide_eq_false (by omega)
      rw [hr]
      go_enter Tryd.func22, Tryd.ntmps22
      go_wp2
      go_ret
      exact ⟨ret_bool (by first | rfl | (simp <;> omega)), rfl⟩
  · have hr : Utf.right c = false := by unfold Utf.right; exact decide_eq_false (by omega)
    rw [hr]
    go_enter Tryd.func22, Tryd.ntmps22
    go_wp2
    go_ret
    exact ⟨ret_bool (by first | rfl | (simp <;> omega)), rfl⟩
set_option maxHeartbeats 1000000 in
set_option maxRecDepth 100000 in
theorem size_any (b : Nat) (w : World) :
    Calls Tryd.prog 62 #[.int .u8 b] w fun e w' => e = .returned (.int .i64 (Utf.sz b : Nat)) ∧ w' = w := by
  go_enter Tryd.func62, Tryd.ntmps62
  go_wp2
  all_goals go_ret
  all_goals refine ⟨?_, rfl⟩
  all_goals unfold Utf.sz
  all_goals repeat' split
  all_goals first | rfl | (exfalso; omega) | (exfalso; simp at *; omega)
set_option maxHeartbeats 2000000 in
set_option maxRecDepth 100000 in
theorem good_any (b k x : Nat) (w : World) :
    Calls Tryd.prog 63 #[.int .u8 b, .int .i64 k, .int .u8 x] w fun e w' => e = .returned (.bool (Utf.goodAt b k x)) ∧ w' = w := by
  by_cases hk : k = 1
  · subst hk
    go_enter Tryd.func63, Tryd.ntmps63
    go_wp2
    all_goals go_ret
    all_goals refine ⟨ret_bool ?_, rfl⟩
    all_goals rw [Bool.eq_iff_iff]
    all_goals unfold Utf.goodAt Utf.lo Utf.hi
    all_goals rw [decide_eq_true_iff]
    all_goals simp at *
    all_goals repeat' split
    all_goals omega
  · have hq : ((k : Int) == 1) = false := by rw [beq_eq_false_iff_ne]; omega
    go_enter Tryd.func63, Tryd.ntmps63
    go_wp2
    all_goals go_ret
    all_goals refine ⟨ret_bool ?_, rfl⟩
    all_goals rw [Bool.eq_iff_iff]
    all_goals unfold Utf.goodAt
    all_goals rw [decide_eq_true_iff, if_neg hk, if_neg hk]
    all_goals simp
    all_goals omega
end Go.Proofs.YtdllcnifkiebjaaDoor
