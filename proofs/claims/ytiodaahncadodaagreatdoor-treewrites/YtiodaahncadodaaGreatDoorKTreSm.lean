/- A tree that is not far has no great node, and no great text. -/
import Derived.Test.YtiodaahncadodaaGreatDoorKTreFar
import Derived.Test.YtiodaahncadodaaGreatDoorKTreSz
import Derived.Test.YtiodaahncadodaaGreatDoorKTreNW
set_option linter.unusedVariables false
namespace Tre
theorem sumTo_one_le {f : Nat → Nat} {i : Nat} : ∀ n, i < n → f i ≤ sumTo f n
  | 0, h => by omega
  | n + 1, h => by
    rw [sumTo]
    by_cases e : i = n
    · subst e; omega
    · have := sumTo_one_le (f := f) n (by omega : i < n); omega
theorem sumTo_two {f : Nat → Nat} {i u : Nat} (hne : i ≠ u) : ∀ n, i < n → u < n → f i + f u ≤ sumTo f n
  | 0, h, _ => by omega
  | n + 1, h, h2 => by
    rw [sumTo]
    by_cases e : i = n
    · subst e
      have := sumTo_one_le (f := f) (i := u) i (by omega); omega
    · by_cases e2 : u = n
      · subst e2
        have := sumTo_one_le (f := f) (i := i) u (by omega); omega
      · have := sumTo_two (f := f) hne n (by omega) (by omega); omega
theorem nTo_sum {ns : List Nd} : ∀ n, n ≤ ns.length → nTo ns n = sumTo (fun i => wNd (ndAt ns i)) n
  | 0, _ => by simp [nTo, sumTo]
  | n + 1, h => by rw [nTo_next ns n (by omega), nTo_sum n (by omega), sumTo]
theorem wt_wAt : ∀ ats : List At, (ats.map wAt).sum ≤ 2999 → Tk.wt ats ≤ (ats.map wAt).sum
  | [], _ => by simp [Tk.wt]
  | a :: l, h => by
    rw [List.map_cons, List.sum_cons] at h ⊢
    have ih := wt_wAt l (by omega)
    have e : Tk.wt (a :: l) = a.1.length + a.2.length + Tk.wt l := by unfold Tk.wt; rw [List.map_cons, List.sum_cons]
    have ha : wAt a = min a.1.length 3000 + min a.2.length 3000 + 1 := rfl
    omega
end Tre
namespace Go.Proofs.YtiodaahncadodaaGreatDoor
open Go.RowKit
theorem far_least {ns : List Nd} (h : Tre.farD ns = false) (hm : Tre.mayB ns = true) {i : Nat} (hi : i < ns.length) : leastN (Tre.ndAt ns i) ≤ 3000 ∧ (Tre.ndAt ns i).attrs.length ≤ 100 := by
  have hl4 := ((Tre.mayB_iff ns).1 hm).1.2
  have hl := (Tre.farD_no h).1
  have hats := (Tre.farD_no h).2 i hi (by omega)
  refine ⟨?_, hats⟩
  by_cases h0 : i = 0
  · subst h0
    have hs := Tre.may_shape hm hi
    unfold Tre.shapeB Tre.rootB at hs
    simp only [if_pos, Bool.and_eq_true, beq_iff_eq] at hs
    obtain ⟨_, _, h3, h4, h5⟩ := hs
    unfold leastN
    rw [h3, h5, List.length_eq_zero_iff.1 h4]
    simp [Tk.wt]
  · have hs : Tre.nTo ns 200 ≤ 3000 := by
      unfold Tre.farD at h
      simp only [Bool.or_eq_false_iff, decide_eq_false_iff_not] at h
      omega
    have e : Tre.nTo ns 200 = Tre.nTo ns ns.length := by
      unfold Tre.nTo
      rw [List.take_of_length_le (by omega), List.take_of_length_le (Nat.le_refl _)]
    rw [e, Tre.nTo_sum _ (Nat.le_refl _)] at hs
    have hu := Tre.may_up hm hi h0
    obtain ⟨u, hue⟩ : ∃ u : Nat, (Tre.ndAt ns i).up = (u : Int) := ⟨(Tre.ndAt ns i).up.toNat, by omega⟩
    have hul : u < ns.length := by omega
    have h2 := Tre.sumTo_two (f := fun i => Tre.wNd (Tre.ndAt ns i)) (i := i) (u := u) (by omega) ns.length hi hul
    have hk : 1 ≤ (Tre.ndAt ns u).kids.length := by
      rw [Tre.may_kids hm hul]
      exact List.length_pos_iff.2 (List.ne_nil_of_mem (Tre.kidsTo_has hue _ hi))
    have hw : 1 ≤ Tre.wNd (Tre.ndAt ns u) := by unfold Tre.wNd; omega
    have hwi : Tre.wNd (Tre.ndAt ns i) ≤ 2999 := by omega
    unfold Tre.wNd Tre.aTo at hwi
    rw [List.take_of_length_le (by omega : (Tre.ndAt ns i).attrs.length ≤ 100)] at hwi
    have h3 := Tre.wt_wAt (Tre.ndAt ns i).attrs (by omega)
    unfold leastN
    omega
theorem far_few {ns : List Nd} (h : Tre.farD ns = false) (hm : Tre.mayB ns = true) : Few ns := fun i hi => by
  have := far_least h hm hi
  exact ⟨by omega, by omega⟩
theorem far_own {ns : List Nd} (h : Tre.farD ns = false) (hm : Tre.mayB ns = true) : ∀ i, i < ns.length → Tre.own ns i ≤ 2000000000 := fun i hi => by
  have hl := (far_least h hm hi).1
  unfold Tre.own
  rcases may_form hm hi with ⟨h1, _, h3, h4⟩ | ⟨h1, h2, h3⟩
  · rw [if_pos h1]
    have he := Rf.enc_len false (Tre.ndAt ns i).text
    unfold leastN at hl
    split <;> omega
  · rw [if_neg h1]
    have hb := start_bears (n := Tre.ndAt ns i) (by omega) h3
    have h5 := hb.2.2.1
    have h6 := hb.2.2.2
    split <;> omega
/-- No node's text is too long to be counted. -/
theorem far_text {ns : List Nd} (h : Tre.farD ns = false) (hm : Tre.mayB ns = true) : ∀ i, i < ns.length → (Tre.nodeT ns i).length ≤ 10000000000000 := fun i hi => by
  have := Tre.all_len_le hm 2000000000 (far_own h hm) i hi
  omega
end Go.Proofs.YtiodaahncadodaaGreatDoor
