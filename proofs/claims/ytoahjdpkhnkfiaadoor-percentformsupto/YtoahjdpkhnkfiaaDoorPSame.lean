/- The contract of the laws' same: two slices of pairs. -/
import Derived.Test.YtoahjdpkhnkfiaaDoorPPairs
import Derived.Deep.QuietTactic
import Derived.BigQuiet
import Derived.WalkSmall
namespace Go.Proofs.YtoahjdpkhnkfiaaDoor
open Go.RowKit
set_option maxHeartbeats 1000000 in
set_option maxRecDepth 100000 in
theorem same_any (v u : Value) (ts us : List Pct.Pr) (w : World) (hv : ReadsPairs w v ts) (hu : ReadsPairs w u us) (hl : ts.length ≤ 1000000) (hm : us.length ≤ 1000000) :
    Calls Tryd.prog 21 #[v, u] w fun e w' => e = .returned (.bool (decide (ts = us))) ∧ ∃ n, w' = w.drewN n := by
  obtain ⟨a1, c1, rfl⟩ := hv.form
  obtain ⟨a2, c2, rfl⟩ := hu.form
  by_cases hlen : ts.length = us.length
  · have hb : ((ts.length : Int) != (us.length : Int)) = false := by simp [hlen]
    have HL : Hid (ts.length = us.length) := hlen
    have HV : Hid (ReadsPairs w (.slice a1 ts.length c1) ts) := hv
    have HU : Hid (ReadsPairs w (.slice a2 us.length c2) us) := hu
    clear hlen hv hu
    go_enter Tryd.func21, Tryd.ntmps21
    go_wp2
    go_loopw [13] (fun i wr => ∃ k m : Nat, k ≤ ts.length ∧ i = .int .i64 k ∧ Hid (ts.take k = us.take k) ∧ wr = w.drewN m) (fun i _ => ts.length - (intOf i).toNat)
    case atStart => exact ⟨0, 0, Nat.zero_le _, rfl, rfl, rfl⟩
    case round =>
      obtain ⟨k, m, hk, rfl, HE, rfl⟩ := hrel
      by_cases hlt : k < ts.length
      · have hlt2 : k < us.length := by have := HL.out; omega
        obtain ⟨p, hp⟩ : ∃ p, ts[k]? = some p := ⟨_, List.getElem?_eq_getElem hlt⟩
        obtain ⟨q, hq⟩ : ∃ q, us[k]? = some q := ⟨_, List.getElem?_eq_getElem hlt2⟩
        obtain ⟨b1, o1, rfl, hc1, hb1, g1, g2⟩ := HV.out.at hp
        obtain ⟨b2, o2, rfl, hc2, hb2, g3, g4⟩ := HU.out.at hq
        have HX : Hid (ts[k]? = some p ∧ us[k]? = some q) := ⟨hp, hq⟩
        clear hp hq
        by_cases hpq : p = q
        · subst hpq
          go_wp2
          go_quiet (fail)
          go_wp2
          go_roundw
          case rel => exact ⟨k + 1, m + nq, by omega, by go_num, by show _ = _; rw [List.take_add_one, List.take_add_one, HE.out, HX.out.1, HX.out.2], by simp⟩
          case measure => simp [intOf]; omega
        · have HN : Hid (decide (ts = us) = false) := by
            show _ = _
            rw [decide_eq_false_iff_not]
            rintro rfl
            exact hpq (Option.some.inj (HX.out.1.symm.trans HX.out.2))
          by_cases h1 : p.1 = q.1
          · have h2 : ¬ p.2 = q.2 := fun e => hpq (Prod.ext h1 e)
            have hs1 := str_beq_yes h1
            have hs2 := str_beq_no h2
            clear h1 h2 hpq
            go_wp2
            go_quiet (fail)
            go_wp2
            go_ret
            exact ⟨ret_bool HN.out.symm, m + nq, by simp⟩
          · have hs1 := str_beq_no h1
            clear h1 hpq
            go_wp2
            go_quiet (fail)
            go_wp2
            go_ret
            exact ⟨ret_bool HN.out.symm, m + nq, by simp⟩
      · have HN : Hid (decide (ts = us) = true) := by
          show _ = _
          rw [decide_eq_true_eq]
          have h1 := HE.out
          have h2 := HL.out
          rwa [List.take_of_length_le (by omega), List.take_of_length_le (by omega)] at h1
        go_wp2
        go_ret
        exact ⟨ret_bool HN.out.symm, m, rfl⟩
  · have hb : ((ts.length : Int) != (us.length : Int)) = true := by simp; omega
    have HN : Hid (decide (ts = us) = false) := by
      show _ = _
      rw [decide_eq_false_iff_not]
      rintro rfl
      exact hlen rfl
    clear hv hu
    go_enter Tryd.func21, Tryd.ntmps21
    go_wp2
    go_ret
    exact ⟨ret_bool HN.out.symm, 0, rfl⟩
end Go.Proofs.YtoahjdpkhnkfiaaDoor
