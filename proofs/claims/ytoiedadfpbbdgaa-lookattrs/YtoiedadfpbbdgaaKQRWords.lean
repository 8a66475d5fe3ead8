/- The contract of the reference's Words (over Base). -/
import Derived.Test.YtoiedadfpbbdgaaKAscii
import Derived.Test.YtoiedadfpbbdgaaKGround
namespace Go.Proofs.Ytoiedadfpbbdgaa
open Go.RowKit
theorem add_one (b s : ByteArray) (k : Nat) (h : k < s.size) : (b ++ s.extract k (k + 1)).data.toList = b.data.toList ++ [s[k]] := by
  rw [ByteArray.data_append, Array.toList_append, cut_one s k h]
theorem add_one_size (b s : ByteArray) (k : Nat) (h : k < s.size) : (b ++ s.extract k (k + 1)).size = b.size + 1 := by
  rw [size_data, add_one b s k h, List.length_append, ← size_data]
  rfl
theorem rw_letter (s : ByteArray) (k : Nat) (h : k < s.size) (hb : Asc.isBlank s[k] = false) : Asc.wst (s.data.toList.take (k + 1)) = ((Asc.wst (s.data.toList.take k)).1, (Asc.wst (s.data.toList.take k)).2 ++ [s[k]]) := by
  have e : Asc.wst (s.data.toList.take (k + 1)) = Asc.wstep (Asc.wst (s.data.toList.take k)) s[k] := Asc.wst_next s.data.toList k h
  rw [e, Asc.wstep, hb]
  rfl
theorem rw_word (s : ByteArray) (k : Nat) (h : k < s.size) (hb : Asc.isBlank s[k] = true) (hw : (Asc.wst (s.data.toList.take k)).2 ≠ []) : Asc.wst (s.data.toList.take (k + 1)) = ((Asc.wst (s.data.toList.take k)).1 ++ [(Asc.wst (s.data.toList.take k)).2], []) := by
  have e : Asc.wst (s.data.toList.take (k + 1)) = Asc.wstep (Asc.wst (s.data.toList.take k)) s[k] := Asc.wst_next s.data.toList k h
  rw [e, Asc.wstep, if_pos hb, if_neg (by simpa using hw)]
theorem rw_gap (s : ByteArray) (k : Nat) (h : k < s.size) (hb : Asc.isBlank s[k] = true) (hw : (Asc.wst (s.data.toList.take k)).2 = []) : Asc.wst (s.data.toList.take (k + 1)) = ((Asc.wst (s.data.toList.take k)).1, []) := by
  have e : Asc.wst (s.data.toList.take (k + 1)) = Asc.wstep (Asc.wst (s.data.toList.take k)) s[k] := Asc.wst_next s.data.toList k h
  rw [e, Asc.wstep, if_pos hb, hw]
  rfl
/-- What the loop holds at its head: the words that are whole, and the one under way; behind the text's end nothing is under way. -/
def RWAt (s : ByteArray) (k : Nat) (ts : List (List UInt8)) (b : ByteArray) : Prop :=
  (k ≤ s.size ∧ ts = (Asc.wst (s.data.toList.take k)).1 ∧ b.data.toList = (Asc.wst (s.data.toList.take k)).2) ∨ (k = s.size + 1 ∧ ts = Asc.words s.data.toList)
set_option maxHeartbeats 1000000 in
set_option maxRecDepth 100000 in
theorem RWords_any (s : ByteArray) (w : World) (hs : s.size ≤ 1000000000) :
    Calls Try.prog 57 #[.string s] w fun e w' => ∃ v, e = .returned v ∧ OwnsTexts w' w.heap.size v (Asc.words s.data.toList) ∧ Below w.heap.size w w' := by
  obtain ⟨i0, hi, hz0, hz1, hz2⟩ := info_parts info9
  go_enter Try.func57, Try.ntmps57
  go_wp2
  go_loopw [3, 4, 5] (fun v d i wr => ∃ (k : Nat) (b : ByteArray) (ts : List (List UInt8)), k ≤ s.size + 1 ∧ i = .int .i64 k ∧ d = .string b ∧ b.size ≤ k ∧ ts.length ≤ k ∧ Hid (RWAt s k ts b) ∧ OwnsTexts wr w.heap.size v ts ∧ Below w.heap.size w wr) (fun _ _ i _ => s.size + 1 - (intOf i).toNat)
  case atStart => exact ⟨0, ⟨#[]⟩, [], Nat.zero_le _, rfl, rfl, Nat.le_refl _, Nat.le_refl _, .inl ⟨Nat.zero_le _, rfl, rfl⟩, OwnsTexts.nil _ _, Below.refl _ _⟩
  case round =>
    obtain ⟨k, b, ts, hk, rfl, rfl, hbk, htk, HR, hown, hbel⟩ := hrel
    by_cases hlt : k < s.size
    · have HA : Hid (ts = (Asc.wst (s.data.toList.take k)).1 ∧ b.data.toList = (Asc.wst (s.data.toList.take k)).2) := by
        rcases HR.out with ⟨_, h1, h2⟩ | ⟨h1, _⟩
        · exact ⟨h1, h2⟩
        · omega
      clear HR
      cases hb : Asc.isBlank s[k]
      · have HN : Hid (RWAt s (k + 1) ts (b ++ s.extract k (k + 1))) := by
          refine .inl ⟨by omega, ?_, ?_⟩
          · rw [rw_letter s k hlt hb, HA.out.1]
          · rw [rw_letter s k hlt hb, add_one b s k hlt, HA.out.2]
        have HZ : Hid ((b ++ s.extract k (k + 1)).size = b.size + 1) := add_one_size b s k hlt
        have hcz : (s.extract k (k + 1)).size ≤ 1 := by rw [cut_size s k (k + 1) (by omega)]; omega
        go_wp2_with (first
          | (go_at_call 31; refine (RIsBlank_any _ _).mono ?_; rintro e w1 ⟨rfl, hw⟩; rw [hw]; clear hw))
        go_roundw
        case rel => exact ⟨k + 1, _, ts, by omega, by go_num, rfl, by have := HZ.out; omega, by omega, HN, hown, hbel⟩
        case measure => simp [intOf]; omega
      · by_cases hbz : b.size = 0
        · have he := empty_yes b hbz
          have HN : Hid (RWAt s (k + 1) ts ⟨#[]⟩) := by
            have h0 : (Asc.wst (s.data.toList.take k)).2 = [] := by
              rw [← HA.out.2]
              exact List.eq_nil_of_length_eq_zero (by rw [← size_data]; exact hbz)
            refine .inl ⟨by omega, ?_, ?_⟩
            · rw [rw_gap s k hlt hb h0, HA.out.1]
            · rw [rw_gap s k hlt hb h0]
          clear hbz
          go_wp2_with (first
            | (go_at_call 31; refine (RIsBlank_any _ _).mono ?_; rintro e w1 ⟨rfl, hw⟩; rw [hw]; clear hw))
          go_roundw
          case rel => exact ⟨k + 1, ⟨#[]⟩, ts, by omega, by go_num, rfl, Nat.zero_le _, by omega, HN, hown, hbel⟩
          case measure => simp [intOf]; omega
        · have he := empty_no b hbz
          have HN : Hid (RWAt s (k + 1) (ts ++ [b.data.toList]) ⟨#[]⟩) := by
            have h0 : (Asc.wst (s.data.toList.take k)).2 ≠ [] := by
              rw [← HA.out.2]
              intro e
              exact hbz (by rw [size_data, e]; rfl)
            refine .inl ⟨by omega, ?_, ?_⟩
            · rw [rw_word s k hlt hb h0, HA.out.1, HA.out.2]
            · rw [rw_word s k hlt hb h0]
          clear hbz
          go_wp2_with (first
            | (go_at_call 31; refine (RIsBlank_any _ _).mono ?_; rintro e w1 ⟨rfl, hw⟩; rw [hw]; clear hw)
            | (at_builtin; refine wpList_append_own _ rfl _ _ 31 rfl w.heap.size 9 i0 (.string ByteArray.empty) 1 16 Try.underlying31 hi hz0 hz1 hz2 rfl (by decide) _ _ _ rfl (World.ownsRow.alloc hown _) ⟨wr.heap.size, 0, none⟩ 1 1 [.string b] rfl rfl (cell_one_new _ _ _) (fun x hx => by simp at hx; subst hx; rfl) (by unfold maxLen; omega) (by omega) (by have := hbel.size; simp; omega) ?_; intro v' w3 hown' hgrow3 hnil3))
          go_roundw
          case rel => exact ⟨k + 1, ⟨#[]⟩, ts ++ [b.data.toList], by omega, by go_num, rfl, Nat.zero_le _, by rw [List.length_append]; simp; omega, HN, OwnsTexts.of rfl (strV_data b) hown', (hbel.alloc hbel.size _).grown hgrow3 (by have := hbel.size; simp; omega) (fun q hq => (World.ownsRow.lt hown q hq).1)⟩
          case measure => simp [intOf]; omega
    · by_cases hend : k = s.size
      · have HA : Hid (ts = (Asc.wst s.data.toList).1 ∧ b.data.toList = (Asc.wst s.data.toList).2) := by
          rcases HR.out with ⟨_, h1, h2⟩ | ⟨h1, _⟩
          · rw [take_all s k (by omega)] at h1 h2
            exact ⟨h1, h2⟩
          · omega
        have hkI : (k : Int) ≤ (s.size : Int) := by omega
        have HK : Hid (k = s.size) := hend
        clear HR hend
        by_cases hbz : b.size = 0
        · have he := empty_yes b hbz
          have HN : Hid (RWAt s (k + 1) ts ⟨#[]⟩) := by
            have h0 : (Asc.wst s.data.toList).2 = [] := by
              rw [← HA.out.2]
              exact List.eq_nil_of_length_eq_zero (by rw [← size_data]; exact hbz)
            refine .inr ⟨by rw [HK.out], ?_⟩
            unfold Asc.words Asc.wfin
            rw [h0, HA.out.1]
            rfl
          clear hbz
          go_wp2
          go_roundw
          case rel => exact ⟨k + 1, ⟨#[]⟩, ts, by omega, by go_num, rfl, Nat.zero_le _, by omega, HN, hown, hbel⟩
          case measure => simp [intOf]; omega
        · have he := empty_no b hbz
          have HN : Hid (RWAt s (k + 1) (ts ++ [b.data.toList]) ⟨#[]⟩) := by
            have h0 : (Asc.wst s.data.toList).2 ≠ [] := by
              rw [← HA.out.2]
              intro e
              exact hbz (by rw [size_data, e]; rfl)
            refine .inr ⟨by rw [HK.out], ?_⟩
            unfold Asc.words Asc.wfin
            rw [if_neg (by simpa using h0), HA.out.1, HA.out.2]
          clear hbz
          go_wp2_with (first
            | (at_builtin; refine wpList_append_own _ rfl _ _ 31 rfl w.heap.size 9 i0 (.string ByteArray.empty) 1 16 Try.underlying31 hi hz0 hz1 hz2 rfl (by decide) _ _ _ rfl (World.ownsRow.alloc hown _) ⟨wr.heap.size, 0, none⟩ 1 1 [.string b] rfl rfl (cell_one_new _ _ _) (fun x hx => by simp at hx; subst hx; rfl) (by unfold maxLen; omega) (by omega) (by have := hbel.size; simp; omega) ?_; intro v' w3 hown' hgrow3 hnil3))
          go_roundw
          case rel => exact ⟨k + 1, ⟨#[]⟩, ts ++ [b.data.toList], by omega, by go_num, rfl, Nat.zero_le _, by rw [List.length_append]; simp; omega, HN, OwnsTexts.of rfl (strV_data b) hown', (hbel.alloc hbel.size _).grown hgrow3 (by have := hbel.size; simp; omega) (fun q hq => (World.ownsRow.lt hown q hq).1)⟩
          case measure => simp [intOf]; omega
      · have HA : Hid (ts = Asc.words s.data.toList) := by
          rcases HR.out with ⟨h0, _⟩ | ⟨_, h1⟩
          · omega
          · exact h1
        have hkI : ¬ (k : Int) ≤ (s.size : Int) := by omega
        clear HR hend
        go_wp2
        go_ret
        exact ⟨_, rfl, by rw [← HA.out]; exact hown, hbel⟩
end Go.Proofs.Ytoiedadfpbbdgaa
