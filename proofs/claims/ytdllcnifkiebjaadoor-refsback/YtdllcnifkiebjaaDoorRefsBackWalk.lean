/- The walk of the law RefsBack, out of the contracts. -/
import Derived.Test.YtdllcnifkiebjaaDoorRfM
set_option linter.unusedVariables false
set_option linter.unusedSimpArgs false
namespace Go.Proofs.YtdllcnifkiebjaaDoor.refsBack
open Go.RowKit
theorem clean_at {a : Bool} {l : List UInt8} (h : l.all (Rf.clean a) = true) (k : Nat) (hk : k < l.length) : (a = true → ¬ (l[k].toNat : Int) = 34) ∧ (a = false → ¬ (l[k].toNat : Int) = 60 ∧ ¬ (l[k].toNat : Int) = 62) := by
  have h' := List.all_eq_true.1 h l[k] (List.getElem_mem hk)
  unfold Rf.clean at h'
  refine ⟨?_, ?_⟩
  · rintro rfl
    simp only [if_true] at h'
    exact byte_ne (k := 34) (by omega) (by simpa using h')
  · rintro rfl
    have h2 : (l[k] != 60 && l[k] != 62) = true := h'
    rw [Bool.and_eq_true] at h2
    exact ⟨byte_ne (k := 60) (by omega) (by simpa using h2.1), byte_ne (k := 62) (by omega) (by simpa using h2.2)⟩
set_option maxHeartbeats 2000000 in
set_option maxRecDepth 100000 in
theorem walk (a0 : ByteArray) (a1 : Bool) (w : World) (h0 : a0.size ≤ 140737488351232) (hT : Win w) :
    Calls Tryd.prog 6 #[.string a0, .bool a1] w fun e w' => e = .returned (.bool true) ∧ Below w.heap.size w w' := by
  have HT : Hid (Win w) := hT
  clear hT
  obtain ⟨l, rfl⟩ : ∃ l, a0 = str l := ⟨_, (str_self a0).symm⟩
  have hsz := str_size l
  have hB : Below w.heap.size w w := Below.refl _ _
  have hL := long11_any l
  unfold longL at hL
  by_cases hl : 1500 < l.length
  · rw [decide_eq_true hl] at hL
    go_enter Tryd.func6, Tryd.ntmps6
    go_wp2_with (first
      | (go_at_call 14; refine (hL _).mono ?_; rintro e w1 ⟨rfl, hw⟩; rw [hw]; clear hw)
      | (go_at_call 13; refine (alive11_any _ (HT.out.below hB)).mono ?_; rintro e w2 ⟨rfl, hb2⟩; replace hB := bel hB hb2; clear hb2))
    go_ret
    exact ⟨rfl, hB⟩
  · rw [decide_eq_false hl] at hL
    have hel := Rf.enc_len a1 l
    have hcl := Rf.enc_clean a1 l
    have hE := Encode_any l a1
    have hD : ∀ (b : Bool) W, Win W → Calls Tryd.prog 17 #[.string (str (Rf.enc a1 l)), .bool b] W fun e w' => e = .returned (.string (str l)) ∧ Below W.heap.size W w' := by
      intro b W hW
      have := Decode_any (Rf.enc a1 l) b W (by omega) hW
      rw [Rf.back] at this
      exact this
    generalize Rf.enc a1 l = x at *
    have hsx := str_size x
    have hq := beq_self_eq_true (str l).toList
    go_enter Tryd.func6, Tryd.ntmps6
    go_wp2_with (first
      | (go_at_call 14; refine (hL _).mono ?_; rintro e w1 ⟨rfl, hw⟩; rw [hw]; clear hw)
      | (go_at_call 19; refine (hE _ (by omega)).mono ?_; rintro e w2 ⟨rfl, hb2⟩; replace hB := bel hB hb2; clear hb2))
    have HC : Hid (x.all (Rf.clean a1) = true) := hcl
    clear hcl hL hE
    go_loop [15] (fun i => ∃ k : Nat, k ≤ x.length ∧ i = .int .i64 k) (fun i => x.length - (intOf i).toNat)
    case atStart => exact ⟨0, Nat.zero_le _, rfl⟩
    case round =>
      obtain ⟨k, hk, rfl⟩ := hrel
      by_cases hlt : k < x.length
      · have hlt2 : k < (str x).size := by omega
        have hc : (a1 = true → ¬ ((str x)[k].toNat : Int) = 34) ∧ (a1 = false → ¬ ((str x)[k].toNat : Int) = 60 ∧ ¬ ((str x)[k].toNat : Int) = 62) := clean_at HC.out k hlt
        by_cases h34 : ((str x)[k].toNat : Int) = 34
        · have ha : a1 = false := by
            cases a1
            · rfl
            · exact absurd h34 (hc.1 rfl)
          subst ha
          have q1 : (((str x)[k].toNat : Int) == 34) = true := by rw [h34]; rfl
          have q2 : (((str x)[k].toNat : Int) == 60) = false := by rw [h34]; rfl
          have q3 : (((str x)[k].toNat : Int) == 62) = false := by rw [h34]; rfl
          clear hc
          go_wp2
          go_round
          case rel => exact ⟨k + 1, by omega, by go_num⟩
          case measure => simp [intOf]; omega
        · have q1 : (((str x)[k].toNat : Int) == 34) = false := beq_eq_false_iff_ne.2 h34
          by_cases h60 : ((str x)[k].toNat : Int) = 60
          · have ha : a1 = true := by
              cases a1
              · exact absurd h60 (hc.2 rfl).1
              · rfl
            subst ha
            have q2 : (((str x)[k].toNat : Int) == 60) = true := by rw [h60]; rfl
            clear hc
            go_wp2
            go_round
            case rel => exact ⟨k + 1, by omega, by go_num⟩
            case measure => simp [intOf]; omega
          · have q2 : (((str x)[k].toNat : Int) == 60) = false := beq_eq_false_iff_ne.2 h60
            by_cases h62 : ((str x)[k].toNat : Int) = 62
            · have ha : a1 = true := by
                cases a1
                · exact absurd h62 (hc.2 rfl).2
                · rfl
              subst ha
              have q3 : (((str x)[k].toNat : Int) == 62) = true := by rw [h62]; rfl
              clear hc
              go_wp2
              go_round
              case rel => exact ⟨k + 1, by omega, by go_num⟩
              case measure => simp [intOf]; omega
            · have q3 : (((str x)[k].toNat : Int) == 62) = false := beq_eq_false_iff_ne.2 h62
              clear hc
              cases a1
              · go_wp2
                go_round
                case rel => exact ⟨k + 1, by omega, by go_num⟩
                case measure => simp [intOf]; omega
              · go_wp2
                go_round
                case rel => exact ⟨k + 1, by omega, by go_num⟩
                case measure => simp [intOf]; omega
      · have hD1 := hD a1
        have hD2 := hD (!a1)
        go_wp2_with (first
          | (go_at_call 17; refine (hD1 _ (HT.out.below hB)).mono ?_; rintro e w3 ⟨rfl, hb3⟩; replace hB := bel hB hb3; clear hb3 hD1)
          | (go_at_call 17; refine (hD2 _ (HT.out.below hB)).mono ?_; rintro e w4 ⟨rfl, hb4⟩; replace hB := bel hB hb4; clear hb4)
          | (go_at_call 13; refine (alive11_any _ (HT.out.below hB)).mono ?_; rintro e w5 ⟨rfl, hb5⟩; replace hB := bel hB hb5; clear hb5))
        go_ret
        exact ⟨rfl, hB⟩
end Go.Proofs.YtdllcnifkiebjaaDoor.refsBack
