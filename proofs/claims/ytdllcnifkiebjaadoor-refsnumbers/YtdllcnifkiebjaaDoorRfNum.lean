/- A number's references, as plain mathematics: what the law RefsNumbers wants. -/
import Derived.Test.YtdllcnifkiebjaaDoorRfText
set_option linter.unusedVariables false
set_option linter.unusedSimpArgs false
namespace Rf
open Asc Go.Lib
theorem dig_not (c : UInt8) (h : digB c = true) : c ≠ 120 ∧ c ≠ 88 := by
  constructor
  · rintro rfl; revert h; decide
  · rintro rfl; revert h; decide
theorem num_ten (a : Bool) (T r : List UInt8) (n : Int) (hT : T.all digB = true) (hne : T ≠ []) (hv : foldCap 10 0 T = n) (hr : ∀ c ∈ r.head?, digB c = false) :
    dec a (38 :: 35 :: (T ++ r)) = encodeRune (numSign n) ++ dec a (r.drop (semi r)) := by
  have := dec_num a false [35] T r (fun y hy => by
    cases T with
    | nil => exact absurd rfl hne
    | cons d T =>
      rw [List.all_cons, Bool.and_eq_true] at hT
      have hd := dig_not d hT.1
      have e1 : ((120 : UInt8) == d) = false := beq_eq_false_iff_ne.2 (fun e => hd.1 e.symm)
      have e2 : ((88 : UInt8) == d) = false := beq_eq_false_iff_ne.2 (fun e => hd.2 e.symm)
      simp [isHx, List.isPrefixOf, e1, e2]) rfl rfl hne hT hr
  have hv' : foldCap (baseOf false) 0 T = n := hv
  rw [hv'] at this
  exact this
theorem num_hex (a : Bool) (x : UInt8) (hx : x = 120 ∨ x = 88) (T r : List UInt8) (n : Int) (hT : T.all hexB = true) (hne : T ≠ []) (hv : foldCap 16 0 T = n) (hr : ∀ c ∈ r.head?, hexB c = false) :
    dec a (38 :: 35 :: x :: (T ++ r)) = encodeRune (numSign n) ++ dec a (r.drop (semi r)) := by
  have := dec_num a true [35, x] T r (fun y hy => by
    rcases hx with rfl | rfl <;> simp [isHx, List.isPrefixOf]) rfl rfl hne hT hr
  have hv' : foldCap (baseOf true) 0 T = n := hv
  rw [hv'] at this
  exact this
theorem semi_one (r : List UInt8) : semi (59 :: r) = 1 := rfl
theorem ten_end (T : List UInt8) (n : Int) (hT : T.all digB = true) (hne : T ≠ []) (hv : foldCap 10 0 T = n) : dec false (38 :: 35 :: (T ++ [59])) = encodeRune (numSign n) := by
  rw [num_ten false T [59] n hT hne hv (by intro c hc; simp at hc; subst hc; decide), semi_one]
  simp [dec_nil]
theorem ten_bang (T : List UInt8) (n : Int) (hT : T.all digB = true) (hne : T ≠ []) (hv : foldCap 10 0 T = n) : dec true (38 :: 35 :: (T ++ [59, 33])) = encodeRune (numSign n) ++ [33] := by
  rw [num_ten true T [59, 33] n hT hne hv (by intro c hc; simp at hc; subst hc; decide), semi_one]
  show _ ++ dec true [33] = _
  rw [dec_plain true [33] (by decide)]
theorem ten_blank (T : List UInt8) (n : Int) (hT : T.all digB = true) (hne : T ≠ []) (hv : foldCap 10 0 T = n) : dec false (38 :: 35 :: (T ++ [32])) = encodeRune (numSign n) ++ [32] := by
  rw [num_ten false T [32] n hT hne hv (by intro c hc; simp at hc; subst hc; decide), show semi [32] = 0 from rfl]
  show _ ++ dec false [32] = _
  rw [dec_plain false [32] (by decide)]
theorem hex_end (x : UInt8) (hx : x = 120 ∨ x = 88) (T : List UInt8) (n : Int) (hT : T.all hexB = true) (hne : T ≠ []) (hv : foldCap 16 0 T = n) : dec false (38 :: 35 :: x :: (T ++ [59])) = encodeRune (numSign n) := by
  rw [num_hex false x hx T [59] n hT hne hv (by intro c hc; simp at hc; subst hc; decide), semi_one]
  simp [dec_nil]
theorem hex_bang (x : UInt8) (hx : x = 120 ∨ x = 88) (T : List UInt8) (n : Int) (hT : T.all hexB = true) (hne : T ≠ []) (hv : foldCap 16 0 T = n) : dec true (38 :: 35 :: x :: (T ++ [59, 33])) = encodeRune (numSign n) ++ [33] := by
  rw [num_hex true x hx T [59, 33] n hT hne hv (by intro c hc; simp at hc; subst hc; decide), semi_one]
  show _ ++ dec true [33] = _
  rw [dec_plain true [33] (by decide)]
/-- The digits that are there, and the number that is left of the first ones. -/
structure Dg (base : Nat) (most : Nat) (p : UInt8 → Bool) (n x : Nat) (b : Bool) (T : List UInt8) : Prop where
  fold : foldCap base x T = n
  all : T.all p = true
  none : b = true → T = []
  some : b = false → T ≠ []
  small : x < base ^ (most - T.length)
  len : T.length ≤ most
  le : x ≤ 4294967295
theorem Dg.start (base most : Nat) (p : UInt8 → Bool) (n : Nat) (h : n < base ^ most) (h2 : n ≤ 4294967295) : Dg base most p n n true [] :=
  ⟨rfl, rfl, fun _ => rfl, fun h => (by cases h), h, Nat.zero_le _, h2⟩
theorem Dg.step {base most n x : Nat} {p : UInt8 → Bool} {b : Bool} {T : List UInt8} (h : Dg base most p n x b T) (hb : 2 ≤ base) (hm : 1 ≤ most) (c : UInt8) (hc : p c = true) (hv : hexV (bt c) = ((x % base : Nat) : Int)) (hx : b = true ∨ 0 < x) : Dg base most p n (x / base) false (c :: T) := by
  have hlen : T.length + 1 ≤ most := by
    rcases hx with hx | hx
    · rw [h.none hx]; simpa using hm
    · have h1 := h.small
      have h2 := h.len
      by_cases he : T.length = most
      · rw [he, Nat.sub_self, Nat.pow_zero] at h1; omega
      · omega
  refine ⟨?_, by rw [List.all_cons, hc, h.all]; rfl, fun h => (by cases h), fun _ => by simp, ?_, by simpa using hlen, Nat.le_trans (Nat.div_le_self _ _) h.le⟩
  · rw [foldCap, hv]
    have e : ((x / base : Nat) : Int) * (base : Int) + ((x % base : Nat) : Int) = (x : Int) := by
      have := Nat.div_add_mod x base
      rw [Nat.mul_comm] at this
      exact_mod_cast this
    rw [e, Int.min_eq_left (by have := h.le; omega)]
    exact h.fold
  · have h1 := h.small
    rw [List.length_cons, show most - T.length = (most - (T.length + 1)) + 1 from by omega, Nat.pow_succ] at *
    exact Nat.div_lt_of_lt_mul (by rw [Nat.mul_comm]; exact h1)
theorem Dg.zero {base most n : Nat} {p : UInt8 → Bool} {T : List UInt8} (h : Dg base most p n 0 false T) : foldCap base 0 T = n ∧ T.all p = true ∧ T ≠ [] ∧ T.length ≤ most := ⟨h.fold, h.all, h.some rfl, h.len⟩
theorem fold_zero (base : Int) (T : List UInt8) : foldCap base 0 (48 :: T) = foldCap base 0 T := by
  rw [foldCap]
  congr 1
  have : hexV (bt 48) = 0 := by decide
  rw [this]
  omega
def hxD (k : Nat) : UInt8 := ([48, 49, 50, 51, 52, 53, 54, 55, 56, 57, 97, 98, 99, 100, 101, 102] : List UInt8).getD k 0
theorem hxD_fine : ∀ k, k < 16 → hexB (hxD k) = true ∧ hexV (bt (hxD k)) = (k : Int) := by
  intro k hk
  have : ∀ k : Fin 16, hexB (hxD k.val) = true ∧ hexV (bt (hxD k.val)) = (k.val : Int) := by decide +kernel
  exact this ⟨k, hk⟩
def tnD (k : Nat) : UInt8 := UInt8.ofNat (48 + k)
theorem tnD_fine : ∀ k, k < 10 → digB (tnD k) = true ∧ hexV (bt (tnD k)) = (k : Int) ∧ (tnD k).toNat = 48 + k := by
  intro k hk
  have : ∀ k : Fin 10, digB (tnD k.val) = true ∧ hexV (bt (tnD k.val)) = (k.val : Int) ∧ (tnD k.val).toNat = 48 + k.val := by decide +kernel
  exact this ⟨k, hk⟩
end Rf
