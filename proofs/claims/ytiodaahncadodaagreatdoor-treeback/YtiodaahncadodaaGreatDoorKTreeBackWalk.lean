/- The walk of the law TreeBack, out of the contracts. -/
import Derived.Test.YtiodaahncadodaaGreatDoorKTreTV
set_option linter.unusedVariables false
set_option linter.unusedSimpArgs false
namespace Go.Proofs.YtiodaahncadodaaGreatDoor.treeBack
open Go.RowKit
set_option maxHeartbeats 8000000 in
set_option maxRecDepth 100000 in
theorem walk (a0 : ByteArray) (w : World) (h0 : a0.size ≤ 140737488351232) (hT : EnvT w) :
    Calls Tryz.prog 8 #[.string a0] w fun e w' => e = .returned (.bool true) ∧ Below w.heap.size w w' := by
  have HT : Hid (EnvT w) := hT
  clear hT
  obtain ⟨l, rfl⟩ : ∃ l, a0 = str l := ⟨_, (str_self a0).symm⟩
  have hL := long13_any l w
  cases hlt : longT l
  · rw [hlt] at hL
    have hP := Parse_any l w HT.out
    by_cases h2 : (parseR l).2 = 0
    · have hfew := parse_few l h2
      have hback := parse_back l h2
      obtain ⟨b, hW, _, hmay, hdeep, hlen, _, hfit⟩ := parse_fits l h2
      generalize parseR l = x at *
      obtain ⟨ns, q⟩ := x
      simp only at h2 hmay hdeep hlen hfit hback hfew
      subst h2
      have HWr := hideT (fun W v h => Write_any ns v W h (by omega) (fun _ i hi => by have := hfit i hi; omega) hfew 0)
      have HSm := hideT (fun W v u h1 h2 => TSame_any v u ns ns W h1 h2 (by omega) (by omega) (fun _ i hi => by have := hfit i hi; omega))
      rw [Tre.sameL_self] at HSm
      clear hW hmay hfit hlt hfew hdeep
      generalize Tre.writeR ns 0 = y at *
      obtain ⟨t, f⟩ := y
      simp only at hback
      have hst := str_size t
      have HN : Hid (ns.length ≤ 4096) := hlen
      clear hlen
      go_enter Tryz.func8, Tryz.ntmps8
      go_upto_region 4 with (first
        | (go_at_call 9; refine hL.mono ?_; rintro e w0 ⟨rfl, rfl⟩; clear hL)
        | (go_at_call 11; refine hP.mono ?_; rintro e w1 ⟨v, rfl, hR, hb1⟩; obtain ⟨a, c, rfl⟩ := hR.form))
      have hbA : Below w1.heap.size w1 (w1.alloc (.cells #[.slice a ns.length c] 26)) := (Below.refl _ _).alloc (Nat.le_refl _) _
      have cd := doc_one (heap_new w1 (.cells #[.slice a ns.length c] 26))
      have HR2 := hideT (hR.below hbA)
      have HB2 := hideT (bel hb1 hbA)
      have hds := cell_lt cd
      generalize (w1.alloc (.cells #[.slice a ns.length c] 26)) = W2 at *
      generalize w1.heap.size = b at *
      clear hR hP hbA hb1
      by_cases hf : f = 0
      · subst hf
        by_cases ht : t.length ≤ 65536
        · have HPt := hideT (fun W hE => by have := Parse_any t W hE; rw [hback rfl ht] at this; exact this : ∀ W, EnvT W → Calls Tryz.prog 11 #[.string (str t)] W (ParsePost W (ns, 0)))
          have i1 : ¬ (65536 : Int) < (t.length : Int) := by omega
          have qc := beq_self_eq_true (str t).toList
          clear hback ht
          go_upto_region 10 with (first
            | (go_at_call 20; refine (HWr.out _ _ HR2.out).mono ?_; rintro e w3 ⟨rfl, b3⟩; have HB3 := hideT b3; have cd3 := (b3.cell (p := ⟨b, 0, none⟩) hds).trans cd; have hds3 := Nat.lt_of_lt_of_le hds b3.size; have HR3 := hideT (HR2.out.below b3); clear b3)
            | (go_at_call 11; refine (HPt.out _ (HT.out.below (bel HB2.out HB3.out))).mono ?_; rintro e w4 ⟨v4, rfl, hR4, hb4⟩; obtain ⟨a4, c4, rfl⟩ := hR4.form))
          have hbA4 : Below w4.heap.size w4 (w4.alloc (.cells #[.slice a4 ns.length c4] 26)) := (Below.refl _ _).alloc (Nat.le_refl _) _
          have cdb := doc_one (heap_new w4 (.cells #[.slice a4 ns.length c4] 26))
          have HR5 := hideT (hR4.below hbA4)
          have HRd := hideT ((HR3.out.below hb4).below hbA4)
          have HB5 := hideT (bel (bel HB3.out hb4) hbA4)
          have hds4 := Nat.lt_of_lt_of_le hds3 hb4.size
          have cd5 := (hbA4.cell (p := ⟨b, 0, none⟩) hds4).trans ((hb4.cell (p := ⟨b, 0, none⟩) hds3).trans cd3)
          have hds5 := cell_lt cd5
          have hdb5 := cell_lt cdb
          generalize (w4.alloc (.cells #[.slice a4 ns.length c4] 26)) = W5 at *
          generalize w4.heap.size = b4 at *
          clear hR4 hb4 hbA4 cd cd3 hds hds3 hds4 HPt
          go_wp2_with (first
            | (go_at_call 20; refine (HWr.out _ _ HR5.out).mono ?_; rintro e w6 ⟨rfl, b6⟩; have HB6 := hideT (bel HB5.out b6); have cd6 := (b6.cell (p := ⟨b, 0, none⟩) hds5).trans cd5; have cdb6 := (b6.cell (p := ⟨b4, 0, none⟩) hdb5).trans cdb; have HR6 := hideT (HR5.out.below b6); have HRd6 := hideT (HRd.out.below b6); clear b6)
            | (go_at_call 19; refine (HSm.out _ _ _ HR6.out HRd6.out).mono ?_; rintro e w7 ⟨rfl, b7⟩; have HB7 := hideT (bel HB6.out b7); clear b7)
            | (go_at_call 10; refine (alive13_any _ (HT.out.below (bel HB2.out HB7.out))).mono ?_; rintro e w8 ⟨rfl, b8⟩; have HB8 := hideT (bel HB7.out b8); clear b8))
          go_ret
          exact ⟨rfl, bel HB2.out HB8.out⟩
        · have i1 : (65536 : Int) < (t.length : Int) := by omega
          clear hback ht
          go_wp2_with (first
            | (go_at_call 20; refine (HWr.out _ _ HR2.out).mono ?_; rintro e w3 ⟨rfl, b3⟩; have HB3 := hideT b3; clear b3)
            | (go_at_call 10; refine (alive13_any _ (HT.out.below (bel HB2.out HB3.out))).mono ?_; rintro e w8 ⟨rfl, b8⟩; have HB8 := hideT (bel HB3.out b8); clear b8))
          go_ret
          exact ⟨rfl, bel HB2.out HB8.out⟩
      · have hq : ((f : Int) != 0) = true := by simp; omega
        clear hback hf
        go_wp2_with (first
          | (go_at_call 20; refine (HWr.out _ _ HR2.out).mono ?_; rintro e w3 ⟨rfl, b3⟩; have HB3 := hideT b3; clear b3)
          | (go_at_call 10; refine (alive13_any _ (HT.out.below (bel HB2.out HB3.out))).mono ?_; rintro e w8 ⟨rfl, b8⟩; have HB8 := hideT (bel HB3.out b8); clear b8))
        go_ret
        exact ⟨rfl, bel HB2.out HB8.out⟩
    · have h3 : (parseR l).1 = [] := by
        unfold parseR at h2 ⊢
        split
        · rename_i h0'
          rw [if_pos h0'] at h2
          cases hp : Tre.parseT (allR l).1 with
          | error e => rfl
          | ok ns => rw [hp] at h2; exact absurd rfl h2
        · rfl
      generalize parseR l = x at *
      obtain ⟨ns, q⟩ := x
      simp only at h2 h3
      subst h3
      have hq : ((q : Int) != 0) = true := by simp; omega
      clear h2 hlt
      go_enter Tryz.func8, Tryz.ntmps8
      go_upto_region 4 with (first
        | (go_at_call 9; refine hL.mono ?_; rintro e w0 ⟨rfl, rfl⟩; clear hL)
        | (go_at_call 11; refine hP.mono ?_; rintro e w1 ⟨v, rfl, hR, hb1⟩; obtain ⟨a, c, rfl⟩ := hR.form))
      have hbA : Below w1.heap.size w1 (w1.alloc (.cells #[.slice a 0 c] 26)) := (Below.refl _ _).alloc (Nat.le_refl _) _
      have HB2 := hideT (bel hb1 hbA)
      generalize (w1.alloc (.cells #[.slice a 0 c] 26)) = W2 at *
      generalize w1.heap.size = b at *
      clear hR hP hbA hb1
      go_wp2_with (first
        | (go_at_call 10; refine (alive13_any _ (HT.out.below HB2.out)).mono ?_; rintro e w6 ⟨rfl, b6⟩; have HB6 := hideT b6; clear b6))
      go_ret
      exact ⟨rfl, bel HB2.out HB6.out⟩
  · rw [hlt] at hL
    go_enter Tryz.func8, Tryz.ntmps8
    go_wp2_with (first
      | (go_at_call 9; refine hL.mono ?_; rintro e w0 ⟨rfl, rfl⟩; clear hL)
      | (go_at_call 10; refine (alive13_any _ HT.out).mono ?_; rintro e w2 ⟨rfl, hb2⟩))
    go_ret
    exact ⟨rfl, hb2⟩
end Go.Proofs.YtiodaahncadodaaGreatDoor.treeBack
