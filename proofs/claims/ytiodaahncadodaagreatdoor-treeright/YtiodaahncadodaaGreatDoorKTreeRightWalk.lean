/- The walk of the law TreeRight, out of the contracts. -/
import Derived.Test.YtiodaahncadodaaGreatDoorKTreTV
import Derived.Test.YtiodaahncadodaaGreatDoorKTreH
set_option linter.unusedVariables false
set_option linter.unusedSimpArgs false
namespace Go.Proofs.YtiodaahncadodaaGreatDoor.treeRight
open Go.RowKit
set_option maxHeartbeats 4000000 in
set_option maxRecDepth 100000 in
theorem walk (a0 : ByteArray) (w : World) (h0 : a0.size ≤ 140737488351232) (hT : EnvT w) :
    Calls Tryz.prog 6 #[.string a0] w fun e w' => e = .returned (.bool true) ∧ Below w.heap.size w w' := by
  have HT : Hid (EnvT w) := hT
  clear hT
  obtain ⟨l, rfl⟩ : ∃ l, a0 = str l := ⟨_, (str_self a0).symm⟩
  have hL := long13_any l w
  cases hlt : longT l
  · rw [hlt] at hL
    have hP := Parse_any l w HT.out
    by_cases h2 : (parseR l).2 = 0
    · obtain ⟨b, hW, _, hmay, hdeep, hlen, _, hfit⟩ := parse_fits l h2
      generalize parseR l = x at *
      obtain ⟨ns, q⟩ := x
      simp only at h2 hmay hdeep hlen hfit
      subst h2
      have HMy := hideT (fun W v h => May_any ns v W h (by omega) (fun _ i hi => by have := hfit i hi; omega))
      have HDp := hideT (fun W v h => Deep_any ns v W h (by omega) (fun _ i hi => by have := hfit i hi; omega))
      have HRM := hideT (fun W v h => RMay_any ns v W h (by omega) (fun _ i hi => by have := hfit i hi; omega))
      rw [hmay] at HMy HRM
      clear hW hmay hfit hlt
      generalize Tre.deepN ns = D at *
      have hD : (D : Int) ≤ 64 := by omega
      go_enter Tryz.func6, Tryz.ntmps6
      go_upto_region 4 with (first
        | (go_at_call 9; refine hL.mono ?_; rintro e w0 ⟨rfl, rfl⟩; clear hL)
        | (go_at_call 11; refine hP.mono ?_; rintro e w1 ⟨v, rfl, hR, hb1⟩; obtain ⟨a, c, rfl⟩ := hR.form))
      have hbA : Below w1.heap.size w1 (w1.alloc (.cells #[.slice a ns.length c] 26)) := (Below.refl _ _).alloc (Nat.le_refl _) _
      have cd := doc_one (heap_new w1 (.cells #[.slice a ns.length c] 26))
      have HR2 := hideT (hR.below hbA)
      have HB2 := hideT (bel hb1 hbA)
      have hds := cell_lt cd
      generalize (w1.alloc (.cells #[.slice a ns.length c] 26)) = W2 at *
      generalize w1.heap.size = b at *
      clear hR hP hbA hb1
      go_wp2_with (first
        | (go_at_call 15; refine (HMy.out _ _ HR2.out).mono ?_; rintro e w3 ⟨rfl, b3⟩; have HB3 := hideT b3; have cd3 := (b3.cell (p := ⟨b, 0, none⟩) hds).trans cd; have hds3 := Nat.lt_of_lt_of_le hds b3.size; clear b3)
        | (go_at_call 17; refine (HDp.out _ _ (HR2.out.below HB3.out)).mono ?_; rintro e w4 ⟨rfl, b4⟩; have HB4 := hideT (bel HB3.out b4); have cd4 := (b4.cell (p := ⟨b, 0, none⟩) hds3).trans cd3; clear b4)
        | (go_at_call 16; refine (HRM.out _ _ (HR2.out.below HB4.out)).mono ?_; rintro e w5 ⟨rfl, b5⟩; have HB5 := hideT (bel HB4.out b5); clear b5)
        | (go_at_call 10; refine (alive13_any _ (HT.out.below (bel HB2.out HB5.out))).mono ?_; rintro e w6 ⟨rfl, b6⟩; have HB6 := hideT (bel HB5.out b6); clear b6))
      go_ret
      exact ⟨rfl, bel HB2.out HB6.out⟩
    · have h3 : (parseR l).1 = [] := by
        unfold parseR at h2 ⊢
        split
        · rename_i h0'
          rw [if_pos h0'] at h2
          cases hp : Tre.parseT (allR l).1 with
          | error e => rfl
          | ok ns => rw [hp] at h2; exact absurd rfl h2
        · rfl
      generalize parseR l = x at *
      obtain ⟨ns, q⟩ := x
      simp only at h2 h3
      subst h3
      have hq : ((q : Int) != 0) = true := by simp; omega
      clear h2 hlt
      go_enter Tryz.func6, Tryz.ntmps6
      go_upto_region 4 with (first
        | (go_at_call 9; refine hL.mono ?_; rintro e w0 ⟨rfl, rfl⟩; clear hL)
        | (go_at_call 11; refine hP.mono ?_; rintro e w1 ⟨v, rfl, hR, hb1⟩; obtain ⟨a, c, rfl⟩ := hR.form))
      have hbA : Below w1.heap.size w1 (w1.alloc (.cells #[.slice a 0 c] 26)) := (Below.refl _ _).alloc (Nat.le_refl _) _
      have cd := doc_one (heap_new w1 (.cells #[.slice a 0 c] 26))
      have HB2 := hideT (bel hb1 hbA)
      generalize (w1.alloc (.cells #[.slice a 0 c] 26)) = W2 at *
      generalize w1.heap.size = b at *
      clear hR hP hbA hb1
      go_wp2_with (first
        | (go_at_call 10; refine (alive13_any _ (HT.out.below HB2.out)).mono ?_; rintro e w6 ⟨rfl, b6⟩; have HB6 := hideT b6; clear b6))
      go_ret
      exact ⟨rfl, bel HB2.out HB6.out⟩
  · rw [hlt] at hL
    go_enter Tryz.func6, Tryz.ntmps6
    go_wp2_with (first
      | (go_at_call 9; refine hL.mono ?_; rintro e w0 ⟨rfl, rfl⟩; clear hL)
      | (go_at_call 10; refine (alive13_any _ HT.out).mono ?_; rintro e w2 ⟨rfl, hb2⟩))
    go_ret
    exact ⟨rfl, hb2⟩
end Go.Proofs.YtiodaahncadodaaGreatDoor.treeRight
