/- The contract of the parser's sign. -/
import Derived.Test.YtfjgmejobldjoaaGreatDoorKYG
set_option linter.unusedVariables false
set_option linter.unusedSimpArgs false
namespace Go.Proofs.YtfjgmejobldjoaaGreatDoor
open Go.RowKit
set_option maxHeartbeats 2000000 in
theorem sign_any {b n m : Nat} {s l : List UInt8} {w : World} (h : Ps b s l n w) (f : Nat) (hf : f + m = s.length) :
    Calls Tryz.prog 132 #[.pointer (some ⟨b, 0, none⟩), .int .i64 (f : Int)] w fun e w' => Kept b w w' ∧ Ans (Jsn.signR m l) (fun v r => e = .returned (.int .i32 v) ∧ Ps b s r n w') (fun y k => e = boom s y k) := by
  have hlen := h.len
  have hpb : .panicked [{ v := .iface 45 (.agg #[.int .i64 3, .int .i64 (f : Int)]), recovered := false }] = boom s 3 m := by
    obtain rfl : f = s.length - m := by omega
    rfl
  have hF1 := four_any h f hf
  have hX : Jsn.signR m l = (Jsn.four m 4 0 l).bind fun s l1 => if s < 55296 ∨ 57344 ≤ s then .ok s l1 else if 56320 ≤ s then .err 3 m else (Jsn.mustR m 92 l1).bind fun _ l2 => (Jsn.mustR m 117 l2).bind fun _ l3 => (Jsn.four m 4 0 l3).bind fun h l4 => if h < 56320 ∨ 57344 ≤ h then .err 3 m else .ok (65536 + (s - 55296) * 1024 + (h - 56320)) l4 := rfl
  cases hf1 : Jsn.four m 4 0 l with
  | err y k =>
    have hX2 : Jsn.signR m l = .err y k := by rw [hX, hf1]; rfl
    rw [hX2]
    clear hX hX2
    go_enter Tryz.func132, Tryz.ntmps132
    go_wp2_with (first
      | (go_at_call 140; refine hF1.mono ?_; rintro e w1 ⟨hK1, hA1⟩; rw [hf1] at hA1; replace hA1 : e = boom s y k := hA1; subst hA1))
    exact ⟨rfl, hK1, rfl⟩
  | ok x l1 =>
    rw [hf1] at hX
    replace hX : Jsn.signR m l = if x < 55296 ∨ 57344 ≤ x then .ok x l1 else if 56320 ≤ x then .err 3 m else (Jsn.mustR m 92 l1).bind fun _ l2 => (Jsn.mustR m 117 l2).bind fun _ l3 => (Jsn.four m 4 0 l3).bind fun h l4 => if h < 56320 ∨ 57344 ≤ h then .err 3 m else .ok (65536 + (x - 55296) * 1024 + (h - 56320)) l4 := hX
    have hbd := four_bd4 hf1
    by_cases hlo : x < 55296
    · rw [if_pos (.inl hlo)] at hX
      rw [hX]
      clear hX
      go_enter Tryz.func132, Tryz.ntmps132
      go_wp2_with (first
        | (go_at_call 140; refine hF1.mono ?_; rintro e w1 ⟨hK1, hA1⟩; rw [hf1] at hA1; obtain ⟨rfl, hP1⟩ := hA1; clear hF1))
      go_ret
      exact ⟨hK1, rfl, hP1⟩
    by_cases hhi : 57344 ≤ x
    · rw [if_pos (.inr hhi)] at hX
      rw [hX]
      clear hX
      go_enter Tryz.func132, Tryz.ntmps132
      go_wp2_with (first
        | (go_at_call 140; refine hF1.mono ?_; rintro e w1 ⟨hK1, hA1⟩; rw [hf1] at hA1; obtain ⟨rfl, hP1⟩ := hA1; clear hF1))
      go_ret
      exact ⟨hK1, rfl, hP1⟩
    rw [if_neg (by omega)] at hX
    by_cases hsec : 56320 ≤ x
    · rw [if_pos hsec] at hX
      rw [hX]
      clear hX
      go_enter Tryz.func132, Tryz.ntmps132
      go_wp2_with (first
        | (go_at_call 140; refine hF1.mono ?_; rintro e w1 ⟨hK1, hA1⟩; rw [hf1] at hA1; obtain ⟨rfl, hP1⟩ := hA1; clear hF1))
      exact ⟨rfl, hK1, hpb⟩
    rw [if_neg hsec] at hX
    cases hm1 : Jsn.mustR m 92 l1 with
    | err y k =>
      have hX2 : Jsn.signR m l = .err y k := by rw [hX, hm1]; rfl
      rw [hX2]
      clear hX hX2
      rcases must_err hm1 with ⟨rfl, rfl, rfl⟩ | ⟨d, t, rfl, hd, rfl, rfl⟩
      · clear hm1
        go_enter Tryz.func132, Tryz.ntmps132
        go_wp2_with (first
          | (go_at_call 140; refine hF1.mono ?_; rintro e w1 ⟨hK1, hA1⟩; rw [hf1] at hA1; obtain ⟨rfl, hP1⟩ := hA1; clear hF1)
          | (go_at_call 115; refine (next_end hP1).mono ?_; rintro e w2 ⟨rfl, hK2⟩))
        exact ⟨rfl, hK1.trans hK2, rfl⟩
      · clear hm1
        have hne : ((d.toNat : Int) != 92) = true := by rw [bne_iff_ne]; exact fun e => hd (byte_eq_int.1 e)
        go_enter Tryz.func132, Tryz.ntmps132
        go_wp2_with (first
          | (go_at_call 140; refine hF1.mono ?_; rintro e w1 ⟨hK1, hA1⟩; rw [hf1] at hA1; obtain ⟨rfl, hP1⟩ := hA1; clear hF1)
          | (go_at_call 115; refine (next_ok hP1).mono ?_; rintro e w2 ⟨rfl, hP2, hK2⟩))
        exact ⟨rfl, hK1.trans hK2, hpb⟩
    | ok _ l2 =>
      obtain rfl := must_ok hm1
      have hX2 : Jsn.signR m l = (Jsn.mustR m 117 l2).bind fun _ l3 => (Jsn.four m 4 0 l3).bind fun h l4 => if h < 56320 ∨ 57344 ≤ h then .err 3 m else .ok (65536 + (x - 55296) * 1024 + (h - 56320)) l4 := by rw [hX, hm1]; rfl
      clear hX hm1
      cases hm2 : Jsn.mustR m 117 l2 with
      | err y k =>
        have hX3 : Jsn.signR m l = .err y k := by rw [hX2, hm2]; rfl
        rw [hX3]
        clear hX2 hX3
        rcases must_err hm2 with ⟨rfl, rfl, rfl⟩ | ⟨d, t, rfl, hd, rfl, rfl⟩
        · clear hm2
          have hN := fun w (hP : Ps b s [92] n w) => next_ok hP
          go_enter Tryz.func132, Tryz.ntmps132
          go_wp2_with (first
            | (go_at_call 140; refine hF1.mono ?_; rintro e w1 ⟨hK1, hA1⟩; rw [hf1] at hA1; obtain ⟨rfl, hP1⟩ := hA1; clear hF1)
            | (go_at_call 115; refine (hN _ hP1).mono ?_; rintro e w2 ⟨rfl, hP2, hK2⟩; clear hN)
            | (go_at_call 115; refine (next_end hP2).mono ?_; rintro e w3 ⟨rfl, hK3⟩))
          exact ⟨rfl, (hK1.trans hK2).trans hK3, rfl⟩
        · clear hm2
          have hne : ((d.toNat : Int) != 117) = true := by rw [bne_iff_ne]; exact fun e => hd (byte_eq_int.1 e)
          have hN := fun w (hP : Ps b s (92 :: d :: t) n w) => next_ok hP
          go_enter Tryz.func132, Tryz.ntmps132
          go_wp2_with (first
            | (go_at_call 140; refine hF1.mono ?_; rintro e w1 ⟨hK1, hA1⟩; rw [hf1] at hA1; obtain ⟨rfl, hP1⟩ := hA1; clear hF1)
            | (go_at_call 115; refine (hN _ hP1).mono ?_; rintro e w2 ⟨rfl, hP2, hK2⟩; clear hN)
            | (go_at_call 115; refine (next_ok hP2).mono ?_; rintro e w3 ⟨rfl, hP3, hK3⟩))
          exact ⟨rfl, (hK1.trans hK2).trans hK3, hpb⟩
      | ok _ l3 =>
        obtain rfl := must_ok hm2
        have hX3 : Jsn.signR m l = (Jsn.four m 4 0 l3).bind fun h l4 => if h < 56320 ∨ 57344 ≤ h then .err 3 m else .ok (65536 + (x - 55296) * 1024 + (h - 56320)) l4 := by rw [hX2, hm2]; rfl
        clear hX2 hm2
        have hN := fun w (hP : Ps b s (92 :: 117 :: l3) n w) => next_ok hP
        cases hf2 : Jsn.four m 4 0 l3 with
        | err y k =>
          have hX4 : Jsn.signR m l = .err y k := by rw [hX3, hf2]; rfl
          rw [hX4]
          clear hX3 hX4
          go_enter Tryz.func132, Tryz.ntmps132
          go_wp2_with (first
            | (go_at_call 140; refine hF1.mono ?_; rintro e w1 ⟨hK1, hA1⟩; rw [hf1] at hA1; obtain ⟨rfl, hP1⟩ := hA1; clear hF1)
            | (go_at_call 115; refine (hN _ hP1).mono ?_; rintro e w2 ⟨rfl, hP2, hK2⟩; clear hN)
            | (go_at_call 115; refine (next_ok hP2).mono ?_; rintro e w3 ⟨rfl, hP3, hK3⟩)
            | (go_at_call 140; refine (four_any hP3 f hf).mono ?_; rintro e w4 ⟨hK4, hA4⟩; rw [hf2] at hA4; replace hA4 : e = boom s y k := hA4; subst hA4))
          exact ⟨rfl, ((hK1.trans hK2).trans hK3).trans hK4, rfl⟩
        | ok g l4 =>
          have hbd2 := four_bd4 hf2
          rw [hf2] at hX3
          replace hX3 : Jsn.signR m l = if g < 56320 ∨ 57344 ≤ g then .err 3 m else .ok (65536 + (x - 55296) * 1024 + (g - 56320)) l4 := hX3
          by_cases hg : g < 56320 ∨ 57344 ≤ g
          · rw [if_pos hg] at hX3
            rw [hX3]
            clear hX3
            rcases hg with hg | hg
            · skip
              go_enter Tryz.func132, Tryz.ntmps132
              go_wp2_with (first
                | (go_at_call 140; refine hF1.mono ?_; rintro e w1 ⟨hK1, hA1⟩; rw [hf1] at hA1; obtain ⟨rfl, hP1⟩ := hA1; clear hF1)
                | (go_at_call 115; refine (hN _ hP1).mono ?_; rintro e w2 ⟨rfl, hP2, hK2⟩; clear hN)
                | (go_at_call 115; refine (next_ok hP2).mono ?_; rintro e w3 ⟨rfl, hP3, hK3⟩)
                | (go_at_call 140; refine (four_any hP3 f hf).mono ?_; rintro e w4 ⟨hK4, hA4⟩; rw [hf2] at hA4; obtain ⟨rfl, hP4⟩ := hA4))
              exact ⟨rfl, ((hK1.trans hK2).trans hK3).trans hK4, hpb⟩
            · skip
              go_enter Tryz.func132, Tryz.ntmps132
              go_wp2_with (first
                | (go_at_call 140; refine hF1.mono ?_; rintro e w1 ⟨hK1, hA1⟩; rw [hf1] at hA1; obtain ⟨rfl, hP1⟩ := hA1; clear hF1)
                | (go_at_call 115; refine (hN _ hP1).mono ?_; rintro e w2 ⟨rfl, hP2, hK2⟩; clear hN)
                | (go_at_call 115; refine (next_ok hP2).mono ?_; rintro e w3 ⟨rfl, hP3, hK3⟩)
                | (go_at_call 140; refine (four_any hP3 f hf).mono ?_; rintro e w4 ⟨hK4, hA4⟩; rw [hf2] at hA4; obtain ⟨rfl, hP4⟩ := hA4))
              exact ⟨rfl, ((hK1.trans hK2).trans hK3).trans hK4, hpb⟩
          · rw [if_neg hg] at hX3
            rw [hX3]
            clear hX3
            have hg1 : ¬ g < 56320 := fun e => hg (.inl e)
            have hg2 : ¬ 57344 ≤ g := fun e => hg (.inr e)
            clear hg
            go_enter Tryz.func132, Tryz.ntmps132
            go_wp2_with (first
              | (go_at_call 140; refine hF1.mono ?_; rintro e w1 ⟨hK1, hA1⟩; rw [hf1] at hA1; obtain ⟨rfl, hP1⟩ := hA1; clear hF1)
              | (go_at_call 115; refine (hN _ hP1).mono ?_; rintro e w2 ⟨rfl, hP2, hK2⟩; clear hN)
              | (go_at_call 115; refine (next_ok hP2).mono ?_; rintro e w3 ⟨rfl, hP3, hK3⟩)
              | (go_at_call 140; refine (four_any hP3 f hf).mono ?_; rintro e w4 ⟨hK4, hA4⟩; rw [hf2] at hA4; obtain ⟨rfl, hP4⟩ := hA4))
            go_ret
            exact ⟨((hK1.trans hK2).trans hK3).trans hK4, by go_num, hP4⟩
end Go.Proofs.YtfjgmejobldjoaaGreatDoor
