/- The walk of the law RefsText, out of the contracts. -/
import Derived.Test.YtdllcnifkiebjaaDoorRfM
import Derived.Test.YtdllcnifkiebjaaDoorURIs
set_option linter.unusedVariables false
set_option linter.unusedSimpArgs false
namespace Go.Proofs.YtdllcnifkiebjaaDoor.refsText
open Go.RowKit
def has (l : List UInt8) (k : Nat) : Bool := (l.take k).any (fun c => c == 38)
theorem has_next (l : List UInt8) (k : Nat) (h : k < l.length) : has l (k + 1) = (has l k || l[k] == 38) := by
  unfold has
  rw [List.take_succ_eq_append_getElem h, List.any_append]
  simp only [List.any_cons, List.any_nil, Bool.or_false]
theorem has_all (l : List UInt8) (k : Nat) (h : l.length ≤ k) (hn : has l k = false) : (38 : UInt8) ∉ l := by
  unfold has at hn
  rw [List.take_of_length_le h, List.any_eq_false] at hn
  intro hm
  exact hn 38 hm rfl
theorem byte_38 (l : List UInt8) (k : Nat) (h : k < l.length) (h2 : k < (str l).size) : (((str l)[k].toNat : Int) == 38) = (l[k] == 38) := by
  have e : (str l)[k] = l[k] := rfl
  rw [e]
  by_cases hc : l[k] = 38
  · rw [hc]; rfl
  · rw [beq_eq_false_iff_ne.2 hc]
    exact beq_eq_false_iff_ne.2 (byte_ne (k := 38) (by omega) hc)
theorem IsText_b (l : List UInt8) (b : Bool) (hb : Utf.isText l = b) (w : World) (hz : l.length ≤ 1000000000) :
    Calls Tryd.prog 21 #[.string (str l)] w fun e w' => e = .returned (.bool b) ∧ Below w.heap.size w w' := by
  refine (RIsText_any l w hz).mono ?_
  rintro e w' ⟨rfl, n, rfl⟩
  exact ⟨by rw [hb], below_drewN n (Below.refl _ _)⟩
set_option maxHeartbeats 2000000 in
set_option maxRecDepth 100000 in
theorem walk (a0 : ByteArray) (a1 : Bool) (w : World) (h0 : a0.size ≤ 140737488351232) (hT : Win w) :
    Calls Tryd.prog 7 #[.string a0, .bool a1] w fun e w' => e = .returned (.bool true) ∧ Below w.heap.size w w' := by
  have HT : Hid (Win w) := hT
  clear hT
  obtain ⟨l, rfl⟩ : ∃ l, a0 = str l := ⟨_, (str_self a0).symm⟩
  have hsz := str_size l
  have hB : Below w.heap.size w w := Below.refl _ _
  have hL := long11_any l
  unfold longL at hL
  by_cases hl : 1500 < l.length
  · rw [decide_eq_true hl] at hL
    go_enter Tryd.func7, Tryd.ntmps7
    go_wp2_with (first
      | (go_at_call 14; refine (hL _).mono ?_; rintro e w1 ⟨rfl, hw⟩; rw [hw]; clear hw)
      | (go_at_call 13; refine (alive11_any _ (HT.out.below hB)).mono ?_; rintro e w2 ⟨rfl, hb2⟩; replace hB := bel hB hb2; clear hb2))
    go_ret
    exact ⟨rfl, hB⟩
  · rw [decide_eq_false hl] at hL
    have hdl := Rf.dec_len a1 l
    have HTX : Hid (Utf.isText l = true → Utf.isText (Rf.dec a1 l) = true) := Rf.dec_text a1 l
    have HPL : Hid ((38 : UInt8) ∉ l → Rf.dec a1 l = l) := Rf.dec_plain a1 l
    have hD := Decode_any l a1
    generalize Rf.dec a1 l = x at *
    have hsx := str_size x
    go_enter Tryd.func7, Tryd.ntmps7
    go_wp2_with (first
      | (go_at_call 14; refine (hL _).mono ?_; rintro e w1 ⟨rfl, hw⟩; rw [hw]; clear hw)
      | (go_at_call 17; refine (hD _ (by omega) (HT.out.below hB)).mono ?_; rintro e w2 ⟨rfl, hb2⟩; replace hB := bel hB hb2; clear hb2))
    clear hL hD
    go_loop [6, 16] (fun b i => ∃ k : Nat, k ≤ l.length ∧ i = .int .i64 k ∧ b = .bool (has l k)) (fun _ i => l.length - (intOf i).toNat)
    case atStart => exact ⟨0, Nat.zero_le _, rfl, rfl⟩
    case round =>
      obtain ⟨k, hk, rfl, rfl⟩ := hrel
      by_cases hlt : k < l.length
      · have hlt2 : k < (str l).size := by omega
        have HN := has_next l k hlt
        have hq := byte_38 l k hlt hlt2
        generalize (l[k] == 38) = bb at HN hq
        cases hh : has l k
        · rw [hh] at HN
          cases bb
          · have hq2 : ¬ ((str l)[k].toNat : Int) = 38 := by simpa using hq
            have HN2 : Hid (has l (k + 1) = false) := HN
            clear HN hh
            go_wp2
            go_round
            case rel => exact ⟨k + 1, by omega, by go_num, by rw [HN2.out]⟩
            case measure => simp [intOf]; omega
          · have hq2 : ((str l)[k].toNat : Int) = 38 := by simpa using hq
            have HN2 : Hid (has l (k + 1) = true) := HN
            clear HN hh
            go_wp2
            go_round
            case rel => exact ⟨k + 1, by omega, by go_num, by rw [HN2.out]⟩
            case measure => simp [intOf]; omega
        · rw [hh] at HN
          have HN2 : Hid (has l (k + 1) = true) := HN
          clear HN hh hq
          go_wp2
          go_round
          case rel => exact ⟨k + 1, by omega, by go_num, by rw [HN2.out]⟩
          case measure => simp [intOf]; omega
      · have hxl : (x.length : Int) ≤ (l.length : Int) := by omega
        cases hh : has l k
        · have hx : x = l := HPL.out (has_all l k (by omega) hh)
          subst hx
          have hq := beq_self_eq_true (str x).toList
          clear hh HPL
          cases ht : Utf.isText x
          · have hI1 := fun W => IsText_b x _ ht W (by omega)
            go_wp2_with (first
              | (go_at_call 21; refine (hI1 _).mono ?_; rintro e w3 ⟨rfl, hb3⟩; replace hB := bel hB hb3; clear hb3)
              | (go_at_call 13; refine (alive11_any _ (HT.out.below hB)).mono ?_; rintro e w5 ⟨rfl, hb5⟩; replace hB := bel hB hb5; clear hb5))
            go_ret
            exact ⟨ret_bool (by simp), hB⟩
          · have hI1 := fun W => IsText_b x _ ht W (by omega)
            go_wp2_with (first
              | (go_at_call 21; refine (hI1 _).mono ?_; rintro e w3 ⟨rfl, hb3⟩; replace hB := bel hB hb3; clear hb3)
              | (go_at_call 13; refine (alive11_any _ (HT.out.below hB)).mono ?_; rintro e w5 ⟨rfl, hb5⟩; replace hB := bel hB hb5; clear hb5))
            go_ret
            exact ⟨ret_bool (by simp), hB⟩
        · clear HPL
          cases ht : Utf.isText l
          · have hI1 := fun W => IsText_b l _ ht W (by omega)
            clear ht HTX
            go_wp2_with (first
              | (go_at_call 21; refine (hI1 _).mono ?_; rintro e w3 ⟨rfl, hb3⟩; replace hB := bel hB hb3; clear hb3 hI1)
              | (go_at_call 13; refine (alive11_any _ (HT.out.below hB)).mono ?_; rintro e w5 ⟨rfl, hb5⟩; replace hB := bel hB hb5; clear hb5))
            go_ret
            exact ⟨ret_bool (by simp), hB⟩
          · have hx := HTX.out ht
            have hI1 := fun W => IsText_b l _ ht W (by omega)
            have hI2 := fun W => IsText_b x _ hx W (by omega)
            clear ht HTX hx
            go_wp2_with (first
              | (go_at_call 21; refine (hI1 _).mono ?_; rintro e w3 ⟨rfl, hb3⟩; replace hB := bel hB hb3; clear hb3 hI1)
              | (go_at_call 21; refine (hI2 _).mono ?_; rintro e w4 ⟨rfl, hb4⟩; replace hB := bel hB hb4; clear hb4)
              | (go_at_call 13; refine (alive11_any _ (HT.out.below hB)).mono ?_; rintro e w5 ⟨rfl, hb5⟩; replace hB := bel hB hb5; clear hb5))
            go_ret
            exact ⟨ret_bool (by simp), hB⟩
end Go.Proofs.YtdllcnifkiebjaaDoor.refsText
