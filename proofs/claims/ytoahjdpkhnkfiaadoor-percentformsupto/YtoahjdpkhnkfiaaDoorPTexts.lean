/- Slices that read as texts; the reference's Texts. -/
import Derived.Test.YtoahjdpkhnkfiaaDoorPWords
import Derived.Deep.QuietTactic
import Derived.BigQuiet
import Derived.WalkSmall
namespace Go.Proofs.YtoahjdpkhnkfiaaDoor
open Go.RowKit
/-- The slice reads as these texts. -/
def ReadsTexts (w : World) (v : Value) (ts : List (List UInt8)) : Prop :=
  (∃ a c, v = .slice a 0 c ∧ ts = []) ∨ ∃ b o c, v = .slice (some ⟨b, o, none⟩) ts.length c ∧ ts.length ≤ c ∧ ∀ (j : Nat) t, ts[j]? = some t → w.cell? ⟨b, o + j, none⟩ = some (strV t)
theorem OwnsTexts.reads {w : World} {B : Nat} {v : Value} {ts : List (List UInt8)} (h : OwnsTexts w B v ts) : ReadsTexts w v ts := by
  rcases h.2 with ⟨rfl, h0⟩ | ⟨g, cap, cur, rfl, _, hg, hc, _, hcs, ht⟩
  · exact .inl ⟨_, _, rfl, List.eq_nil_of_length_eq_zero h0⟩
  · refine .inr ⟨g, 0, cap, rfl, hc, fun j t hj => ?_⟩
    have hlt : j < ts.length := (List.getElem?_eq_some_iff.1 hj).1
    have := World.ownsRow.cellAt (w := w) (base := B) (e := 9) (size := 1) (g := g) (cap := cap) (n := ts.length) (xs := ts.map strV) h j (by omega)
    rw [Nat.zero_add, this, List.getElem?_map, hj]
    rfl
set_option maxHeartbeats 400000 in
theorem Texts_any (v u : Value) (ts us : List (List UInt8)) (w : World) (hv : ReadsTexts w v ts) (hu : ReadsTexts w u us) (hl : ts.length ≤ 1000000000) (hm : us.length ≤ 1000000000) :
    Calls Tryd.prog 25 #[v, u] w fun e w' => e = .returned (.bool (decide (ts = us))) ∧ ∃ n, w' = w.drewN n := by
  obtain ⟨a1, c1, rfl⟩ : ∃ a c, v = .slice a ts.length c := by
    rcases hv with ⟨a, c, rfl, rfl⟩ | ⟨b, o, c, rfl, _, _⟩
    · exact ⟨_, _, rfl⟩
    · exact ⟨_, _, rfl⟩
  obtain ⟨a2, c2, rfl⟩ : ∃ a c, u = .slice a us.length c := by
    rcases hu with ⟨a, c, rfl, rfl⟩ | ⟨b, o, c, rfl, _, _⟩
    · exact ⟨_, _, rfl⟩
    · exact ⟨_, _, rfl⟩
  by_cases hlen : ts.length = us.length
  · have hb : ((ts.length : Int) != (us.length : Int)) = false := by simp [hlen]
    go_enter Tryd.func25, Tryd.ntmps25
    have HL : Hid (ts.length = us.length) := hlen
    have HV : Hid (ReadsTexts w (.slice a1 ts.length c1) ts) := hv
    have HU : Hid (ReadsTexts w (.slice a2 us.length c2) us) := hu
    clear hlen hv hu
    go_wp2
    go_loopw [5] (fun i wr => ∃ k m : Nat, k ≤ ts.length ∧ i = .int .i64 k ∧ Hid (ts.take k = us.take k) ∧ wr = w.drewN m) (fun i _ => ts.length - (intOf i).toNat)
    case atStart => exact ⟨0, 0, Nat.zero_le _, rfl, rfl, rfl⟩
    case round =>
      obtain ⟨k, m, hk, rfl, HE, rfl⟩ := hrel
      by_cases hlt : k < ts.length
      · obtain ⟨t, ht⟩ : ∃ t, ts[k]? = some t := ⟨_, List.getElem?_eq_getElem hlt⟩
        obtain ⟨x, hx⟩ : ∃ x, us[k]? = some x := ⟨_, List.getElem?_eq_getElem (by have := HL.out; omega)⟩
        obtain ⟨b1, o1, rfl, hc1, hw1⟩ : ∃ b o, a1 = some ⟨b, o, none⟩ ∧ ts.length ≤ c1 ∧ w.cell? ⟨b, o + k, none⟩ = some (strV t) := by
          rcases HV.out with ⟨a, c, h1, rfl⟩ | ⟨b, o, c, h1, h2, h3⟩
          · simp at hlt
          · cases h1
            exact ⟨b, o, rfl, h2, h3 k t ht⟩
        obtain ⟨b2, o2, rfl, hc2, hw2⟩ : ∃ b o, a2 = some ⟨b, o, none⟩ ∧ us.length ≤ c2 ∧ w.cell? ⟨b, o + k, none⟩ = some (strV x) := by
          rcases HU.out with ⟨a, c, h1, rfl⟩ | ⟨b, o, c, h1, h2, h3⟩
          · simp at hx
          · cases h1
            exact ⟨b, o, rfl, h2, h3 k x hx⟩
        have HX : Hid (ts[k]? = some t ∧ us[k]? = some x) := ⟨ht, hx⟩
        clear ht hx
        unfold strV at hw1 hw2
        have hlt2 : k < us.length := by have := HL.out; omega
        by_cases htx : t = x
        · subst htx
          have HN : Hid (ts.take (k + 1) = us.take (k + 1)) := by
            show _ = _
            have h1 := HX.out.1
            have h2 := HX.out.2
            rw [List.take_add_one, List.take_add_one, HE.out, h1, h2]
          go_wp2
          go_quiet (fail)
          go_wp2
          go_roundw
          case rel => exact ⟨k + 1, m + nq, by omega, by go_num, HN, rfl⟩
          case measure => simp [intOf]; omega
        · have HN : Hid (decide (ts = us) = false) := by
            show _ = _
            rw [decide_eq_false_iff_not]
            rintro rfl
            have := HX.out.1.symm.trans HX.out.2
            exact htx (Option.some.inj this)
          have hne : (t == x) = false := by simp [htx]
          go_wp2
          go_quiet (fail)
          go_wp2
          go_ret
          exact ⟨ret_bool HN.out.symm, m + nq, by simp⟩
      · have HN : Hid (decide (ts = us) = true) := by
            show _ = _
            rw [decide_eq_true_eq]
            have h1 := HE.out
            have h2 := HL.out
            rwa [List.take_of_length_le (by omega), List.take_of_length_le (by omega)] at h1
        go_wp2
        go_ret
        exact ⟨ret_bool HN.out.symm, m, rfl⟩
  · have hb : ((ts.length : Int) != (us.length : Int)) = true := by simp; omega
    have HN : Hid (decide (ts = us) = false) := by
      show _ = _
      rw [decide_eq_false_iff_not]
      rintro rfl
      exact hlen rfl
    clear hv hu
    go_enter Tryd.func25, Tryd.ntmps25
    go_wp2
    go_ret
    exact ⟨ret_bool HN.out.symm, 0, rfl⟩
end Go.Proofs.YtoahjdpkhnkfiaaDoor
