/- Plain facts: a number's digits are read as it, and what is read is written as it, but for zeros ahead. -/
import Derived.Test.YtlkhjloeonbjaaaGreatDoorAscNum
import Derived.Test.YtlkhjloeonbjaaaGreatDoorAscMath
import Derived.Lib.ItoaNum
namespace Asc
open Go
def valF (n : Int) (l : List UInt8) : Int := l.foldl (fun n c => n * 10 + (bt c - 48)) n
theorem allDig_cons (c : UInt8) (r : List UInt8) (h : allDig (c :: r) = true) : 48 ≤ bt c ∧ bt c ≤ 57 ∧ allDig r = true := by
  unfold allDig at *
  rw [List.all_cons, Bool.and_eq_true] at h
  refine ⟨?_, ?_, h.2⟩
  · have := h.1; simp [isDig] at this; omega
  · have := h.1; simp [isDig] at this; omega
theorem valF_cons (n : Int) (c : UInt8) (r : List UInt8) : valF n (c :: r) = valF (n * 10 + (bt c - 48)) r := rfl
theorem valF_snoc (n : Int) (l : List UInt8) (c : UInt8) : valF n (l ++ [c]) = valF n l * 10 + (bt c - 48) := by simp [valF, List.foldl_append]
theorem valF_ge (l : List UInt8) : ∀ n : Int, 0 ≤ n → allDig l = true → n ≤ valF n l := by
  induction l with
  | nil => intro n _ _; exact Int.le_refl _
  | cons c r ih =>
    intro n hn h
    obtain ⟨h1, h2, h3⟩ := allDig_cons c r h
    rw [valF_cons]
    have := ih (n * 10 + (bt c - 48)) (by omega) h3
    omega
theorem numFold_val (most : Int) (l : List UInt8) : ∀ n : Int, 0 ≤ n → n ≤ most → allDig l = true → numFold most n l = if valF n l ≤ most then some (valF n l) else none := by
  induction l with
  | nil => intro n _ hm _; rw [numFold, show valF n [] = n from rfl, if_pos hm]
  | cons c r ih =>
    intro n hn hm h
    obtain ⟨h1, h2, h3⟩ := allDig_cons c r h
    rw [numFold, valF_cons]
    by_cases hp : most < n * 10 + (bt c - 48)
    · have := valF_ge r (n * 10 + (bt c - 48)) (by omega) h3
      rw [if_pos hp, if_neg (by omega)]
    · rw [if_neg hp, ih _ (by omega) (by omega) h3]
theorem digit_bt (d : Nat) (h : d < 10) : bt (UInt8.ofNat (48 + d)) = 48 + d := by
  unfold bt
  rw [UInt8.toNat_ofNat']
  omega
theorem allDig_snoc (l : List UInt8) (c : UInt8) : allDig (l ++ [c]) = (allDig l && isDig (bt c)) := by
  unfold allDig
  rw [List.all_append]
  simp
theorem isDig_digit (d : Nat) (h : d < 10) : isDig (bt (UInt8.ofNat (48 + d))) = true := by
  rw [digit_bt d h]
  exact decide_eq_true (by omega)
theorem dec_facts (u : Nat) : allDig (Lib.decDigits u) = true ∧ valF 0 (Lib.decDigits u) = u ∧ Lib.decDigits u ≠ [] := by
  induction u using Nat.strongRecOn with
  | _ u ih =>
    by_cases h : u < 10
    · rw [Lib.decDigits, dif_pos h]
      refine ⟨?_, ?_, by simp⟩
      · have := allDig_snoc [] (UInt8.ofNat (48 + u))
        rw [isDig_digit u h] at this
        exact this
      · rw [valF_cons, digit_bt u h]
        show (0 : Int) * 10 + (48 + (u : Int) - 48) = u
        omega
    · obtain ⟨h1, h2, _⟩ := ih (u / 10) (by omega)
      rw [Lib.decDigits, dif_neg h]
      refine ⟨?_, ?_, by simp⟩
      · rw [allDig_snoc, h1, isDig_digit _ (by omega)]
        rfl
      · rw [valF_snoc, h2, digit_bt _ (by omega)]
        omega
theorem zeros_facts (j : Nat) (l : List UInt8) : (allDig (List.replicate j 48 ++ l) = allDig l) ∧ valF 0 (List.replicate j 48 ++ l) = valF 0 l := by
  induction j with
  | zero => exact ⟨rfl, rfl⟩
  | succ j ih =>
    rw [List.replicate_succ, List.cons_append]
    constructor
    · have : allDig (48 :: (List.replicate j 48 ++ l)) = (isDig (bt 48) && allDig (List.replicate j 48 ++ l)) := rfl
      rw [this, ih.1]
      rfl
    · rw [valF_cons, show (0 : Int) * 10 + (bt 48 - 48) = 0 from by decide, ih.2]
theorem form_of (l : List UInt8) (h : allDig l = true) (hn : l ≠ []) : digForm l = true := by
  unfold digForm
  rw [h]
  cases l with
  | nil => exact absurd rfl hn
  | cons _ _ => rfl
/-- A number's digits, zeros ahead or not, are read as it. -/
theorem read_digits (j u : Nat) (most : Int) (h : (u : Int) ≤ most) : numNum (List.replicate j 48 ++ Lib.decDigits u) most = u ∧ numErr (List.replicate j 48 ++ Lib.decDigits u) most = 0 := by
  obtain ⟨h1, h2, h3⟩ := dec_facts u
  obtain ⟨z1, z2⟩ := zeros_facts j (Lib.decDigits u)
  rw [h1] at z1
  rw [h2] at z2
  refine num_ok _ most u (form_of _ z1 (by simp [h3])) (by omega) ?_
  rw [numFold_val most _ 0 (by omega) (by omega) z1, z2, if_pos h]
def strip : List UInt8 → List UInt8
  | [] => []
  | [c] => [c]
  | c :: d :: r => if c = 48 then strip (d :: r) else c :: d :: r
theorem strip_facts (l : List UInt8) (hn : l ≠ []) (ha : allDig l = true) : allDig (strip l) = true ∧ valF 0 (strip l) = valF 0 l ∧ strip l ≠ [] ∧ ((strip l).length = 1 ∨ (strip l).head? ≠ some 48) := by
  induction l with
  | nil => exact absurd rfl hn
  | cons c r ih =>
    cases r with
    | nil => exact ⟨ha, rfl, hn, .inl rfl⟩
    | cons d r =>
      rw [strip]
      by_cases hc : c = 48
      · rw [if_pos hc]
        obtain ⟨a1, a2, a3⟩ := allDig_cons c (d :: r) ha
        obtain ⟨b1, b2, b3, b4⟩ := ih (by simp) a3
        refine ⟨b1, ?_, b3, b4⟩
        rw [b2, valF_cons 0 c, hc, show (0 : Int) * 10 + (bt 48 - 48) = 0 from by decide]
      · rw [if_neg hc]
        exact ⟨ha, rfl, by simp, .inr (by simp [hc])⟩
theorem bt_digit (c : UInt8) (h0 : 48 ≤ bt c) : UInt8.ofNat (48 + (bt c - 48).toNat) = c := by
  apply UInt8.toNat_inj.1
  rw [UInt8.toNat_ofNat']
  have := c.toNat_lt
  unfold bt at *
  omega
theorem head_pos (l : List UInt8) (hn : l ≠ []) (ha : allDig l = true) (hh : l.head? ≠ some 48) : 1 ≤ valF 0 l := by
  cases l with
  | nil => exact absurd rfl hn
  | cons c r =>
    obtain ⟨h1, h2, h3⟩ := allDig_cons c r ha
    have hc : bt c ≠ 48 := by
      intro e
      apply hh
      have : c = 48 := by
        apply UInt8.toNat_inj.1
        unfold bt at e
        have : (48 : UInt8).toNat = 48 := rfl
        omega
      rw [this]
      rfl
    rw [valF_cons]
    have := valF_ge r ((0 : Int) * 10 + (bt c - 48)) (by omega) h3
    omega
theorem dec_of_good (l : List UInt8) : l ≠ [] → allDig l = true → (l.length = 1 ∨ l.head? ≠ some 48) → Lib.decDigits (valF 0 l).toNat = l := by
  refine snoc_ind (P := fun l => l ≠ [] → allDig l = true → (l.length = 1 ∨ l.head? ≠ some 48) → Lib.decDigits (valF 0 l).toNat = l) ?_ ?_ l
  · intro h; exact absurd rfl h
  · intro a c ih _ ha hg
    rw [allDig_snoc, Bool.and_eq_true] at ha
    have hd : 48 ≤ bt c ∧ bt c ≤ 57 := by have := ha.2; simp [isDig] at this; exact this
    rw [valF_snoc]
    cases a with
    | nil =>
      show Lib.decDigits ((0 : Int) * 10 + (bt c - 48)).toNat = [c]
      rw [Lib.decDigits, dif_pos (by omega), show ((0 : Int) * 10 + (bt c - 48)).toNat = (bt c - 48).toNat from by omega, bt_digit c hd.1]
    | cons b r =>
      have hh : (b :: r).head? ≠ some 48 := by
        rcases hg with hg | hg
        · simp at hg
        · simpa using hg
      have hp := head_pos (b :: r) (by simp) ha.1 hh
      have hi := ih (by simp) ha.1 (.inr hh)
      rw [Lib.decDigits, dif_neg (by omega), show (valF 0 (b :: r) * 10 + (bt c - 48)).toNat / 10 = (valF 0 (b :: r)).toNat from by omega, hi, show (valF 0 (b :: r) * 10 + (bt c - 48)).toNat % 10 = (bt c - 48).toNat from by omega, bt_digit c hd.1]
/-- What is read is written as it, but for zeros ahead. -/
theorem read_back (l : List UInt8) (most : Int) (hm : 0 ≤ most) (h : numErr l most = 0) : 0 ≤ numNum l most ∧ numNum l most ≤ most ∧ Lib.itoa (numNum l most) = strip l ∧ l ≠ [] := by
  cases hf : digForm l with
  | false => rw [(num_form l most hf).2] at h; cases h
  | true =>
    have ha := digForm_all l hf
    have hn : l ≠ [] := by intro e; rw [e] at hf; cases hf
    have hv := numFold_val most l 0 (by omega) hm ha
    by_cases hle : valF 0 l ≤ most
    · rw [if_pos hle] at hv
      have h2 := num_ok l most _ hf hm hv
      rw [h2.1]
      have hg := valF_ge l 0 (by omega) ha
      refine ⟨hg, hle, ?_, hn⟩
      obtain ⟨s1, s2, s3, s4⟩ := strip_facts l hn ha
      have := dec_of_good (strip l) s3 s1 s4
      rw [s2] at this
      rw [Lib.itoa, if_neg (by omega), this]
    · rw [if_neg hle] at hv
      rw [(num_many l most hf hm hv).2] at h
      cases h
end Asc
