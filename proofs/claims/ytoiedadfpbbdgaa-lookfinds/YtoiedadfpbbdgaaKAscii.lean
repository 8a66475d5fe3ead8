/- Texts laid as one. -/
import Derived.Test.YtoiedadfpbbdgaaKGround
import Derived.Laws.IdiomStrings
import Derived.Laws.OwnMore
import Derived.Test.YtoiedadfpbbdgaaKMath
import Derived.Test.YtoiedadfpbbdgaaKShelf
import Derived.Lib.ItoaLen
import Derived.Lib.LaidTab
import Derived.Lib.ItoaNum
import Derived.PlainAid
import Derived.Laws.BytesArg
/- Contracts of Lower, the program's and the reference's. -/
namespace Go.Proofs.Ytoiedadfpbbdgaa
open Go.RowKit
theorem OwnsBytes.of {w : World} {B : Nat} {v : Value} {l m : List UInt8} {c : UInt8} {x : Int} (h : m = l ++ [c]) (hx : x = (c.toNat : Int)) (ho : w.ownsRow B 5 1 v (l.length + 1) (cellsB l ++ [.int .u8 x])) : OwnsBytes w B v m := by
  subst h; subst hx
  unfold OwnsBytes cellsB at *
  simpa using ho
theorem lower_len (s : ByteArray) (k : Nat) (h : k ≤ s.size) : (Asc.lower (s.data.toList.take k)).length = k := by
  unfold Asc.lower
  rw [List.length_map, List.length_take, ← size_data]
  omega
set_option maxHeartbeats 400000 in
set_option maxRecDepth 100000 in
theorem RLower_any (s : ByteArray) (w : World) (hs : s.size ≤ 1000000000) :
    Calls Try.prog 99 #[.string s] w fun e w' => e = .returned (.string (str (Asc.lower s.data.toList))) ∧ Below w.heap.size w w' := by
  obtain ⟨i0, hi, hz0, hz1, hz2⟩ := info_parts infoByte
  go_enter Try.func99, Try.ntmps99
  go_wp2
  go_loopw [3, 4] (fun v i wr => ∃ k : Nat, k ≤ s.size ∧ i = .int .i64 k ∧ OwnsBytes wr w.heap.size v (Asc.lower (s.data.toList.take k)) ∧ Below w.heap.size w wr) (fun _ i _ => s.size - (intOf i).toNat)
  case atStart => exact ⟨0, Nat.zero_le _, rfl, OwnsBytes.nil _ _, Below.refl _ _⟩
  case round =>
    obtain ⟨k, hk, rfl, hown, hbel⟩ := hrel
    by_cases hlt : k < s.size
    · have hll := lower_len s k hk
      have HL : Hid ((Asc.lower (s.data.toList.take k)).length = k) := hll
      have hlo : (Asc.lower (s.data.toList.take k)).length ≤ 1000000000 := by omega
      clear hll
      have hbd := byte_bd s[k]
      obtain ⟨hb0, hb1⟩ := hbd
      have HN : Hid (Asc.lower (s.data.toList.take (k + 1)) = Asc.lower (s.data.toList.take k) ++ [Asc.lowerC s[k]]) := by
        show _ = _
        rw [List.take_succ_eq_append_getElem (show k < s.data.toList.length from by rw [← size_data]; exact hlt), Asc.lower_snoc]
        rfl
      rcases (show (65 ≤ (s[k].toNat : Int) ∧ (s[k].toNat : Int) ≤ 90) ∨ (s[k].toNat : Int) < 65 ∨ 90 < (s[k].toNat : Int) from by omega) with ⟨ha, hb⟩ | ha | ha
      · have HV : Hid ((s[k].toNat : Int) + 32 = ((Asc.lowerC s[k]).toNat : Int)) := by
          show _ = _
          rw [← Asc.lowN_byte, Asc.lowN, if_pos ⟨ha, hb⟩]
        go_wp2_with (first
          | (at_builtin; refine wpList_append_own _ rfl _ _ 90 rfl w.heap.size 5 i0 (.int .u8 0) 1 1 Try.underlying90 hi hz0 hz1 hz2 rfl (by decide) _ _ _ rfl (World.ownsRow.alloc hown _) ⟨wr.heap.size, 0, none⟩ 1 1 [.int .u8 ((s[k].toNat : Int) + 32)] rfl rfl (cell_one_new _ _ _) (fun x hx => by simp at hx; subst hx; rfl) (by unfold maxLen; omega) (by omega) (by have := hbel.size; simp; omega) ?_; intro v' w3 hown' hgrow3 hnil3))
        go_roundw
        case rel => exact ⟨k + 1, by omega, by go_num, OwnsBytes.of HN.out HV.out hown', (hbel.alloc hbel.size _).grown hgrow3 (by have := hbel.size; simp; omega) (fun q hq => (World.ownsRow.lt hown q hq).1)⟩
        case measure => simp [intOf]; omega
      all_goals
        have HV : Hid ((s[k].toNat : Int) = ((Asc.lowerC s[k]).toNat : Int)) := by
          show _ = _
          rw [← Asc.lowN_byte, Asc.lowN, if_neg (by omega)]
        go_wp2_with (first
          | (at_builtin; refine wpList_append_own _ rfl _ _ 90 rfl w.heap.size 5 i0 (.int .u8 0) 1 1 Try.underlying90 hi hz0 hz1 hz2 rfl (by decide) _ _ _ rfl (World.ownsRow.alloc hown _) ⟨wr.heap.size, 0, none⟩ 1 1 [.int .u8 (s[k].toNat : Int)] rfl rfl (cell_one_new _ _ _) (fun x hx => by simp at hx; subst hx; rfl) (by unfold maxLen; omega) (by omega) (by have := hbel.size; simp; omega) ?_; intro v' w3 hown' hgrow3 hnil3))
        go_roundw
        case rel => exact ⟨k + 1, by omega, by go_num, OwnsBytes.of HN.out HV.out hown', (hbel.alloc hbel.size _).grown hgrow3 (by have := hbel.size; simp; omega) (fun q hq => (World.ownsRow.lt hown q hq).1)⟩
        case measure => simp [intOf]; omega
    · have hcv := conv_owned hown
      rw [take_all s k (by omega)] at hcv
      clear hown
      go_wp2
      go_ret
      exact ⟨rfl, hbel⟩
end Go.Proofs.Ytoiedadfpbbdgaa
/- Contracts of Number, the program's and the reference's. -/
namespace Go.Proofs.Ytoiedadfpbbdgaa
open Go.RowKit
end Go.Proofs.Ytoiedadfpbbdgaa
/- Contracts of Text, the program's and the reference's. -/
namespace Go.Proofs.Ytoiedadfpbbdgaa
open Go.RowKit
def txt (n : Int) : ByteArray := ⟨(Lib.itoa n).toArray⟩
/-- The text of one byte. -/
def one (n : Int) : ByteArray := strOfNums [n]
theorem one_size (n : Int) : (one n).size = 1 := by unfold one; rw [strOfNums_size]; rfl
end Go.Proofs.Ytoiedadfpbbdgaa
/- Contracts of Trim, the program's and the reference's. -/
namespace Go.Proofs.Ytoiedadfpbbdgaa
open Go.RowKit
theorem RIsBlank_any (c : UInt8) (w : World) :
    Calls Try.prog 31 #[.int .u8 c.toNat] w fun e w' => e = .returned (.bool (Asc.isBlank c)) ∧ w' = w := by
  rw [← blankN_byte]
  exact RIsBlank_n _ _
set_option maxHeartbeats 400000 in
theorem Trim_any (s : ByteArray) (w : World) (hs : s.size ≤ 1000000000) :
    Calls Try.prog 50 #[.string s] w fun e w' => e = .returned (.string (str (Asc.trim s.data.toList))) ∧ w' = w := by
  go_enter Try.func50, Try.ntmps50
  go_wp2
  go_loop [3] (fun i => ∃ f : Nat, f ≤ s.size ∧ i = .int .i64 f ∧ Hid (Asc.trimL (s.data.toList.drop f) = Asc.trimL s.data.toList)) (fun i => s.size - (intOf i).toNat)
  case atStart => exact ⟨0, Nat.zero_le _, rfl, rfl⟩
  case round =>
    obtain ⟨f, hf, rfl, HE⟩ := hrel
    by_cases hc : ∃ h : f < s.size, Asc.isBlank s[f] = true
    · obtain ⟨hlt, hb⟩ := hc
      have HN : Hid (Asc.trimL (s.data.toList.drop (f + 1)) = Asc.trimL s.data.toList) := (Asc.trimL_next s.data.toList f hlt hb).trans HE.out
      go_wp2_with (first
        | (go_at_call 56; refine (IsBlank_any _ _).mono ?_; rintro e w1 ⟨rfl, hw⟩; rw [hw]; clear hw))
      go_round
      case rel => exact ⟨f + 1, by omega, by go_num, HN⟩
      case measure => simp [intOf]; omega
    · have HD : Hid (s.data.toList.drop f = Asc.trimL s.data.toList) := by
        show _ = _
        rw [← HE.out]
        by_cases hlt : f < s.size
        · exact (Asc.trimL_stop _ f hlt (by
            rw [Bool.eq_false_iff]
            intro h
            exact hc ⟨hlt, h⟩)).symm
        · exact (Asc.trimL_end _ f (by rw [← size_data]; omega)).symm
      have HX : Hid (f < s.size → ∀ h : f < s.size, Asc.isBlank s[f] = false) := fun _ h => by
        rw [Bool.eq_false_iff]
        intro e
        exact hc ⟨h, e⟩
      clear hc HE
      by_cases hlt : f < s.size
      · have hb := HX.out hlt hlt
        go_wp2_with (first
          | (go_at_call 56; refine (IsBlank_any _ _).mono ?_; rintro e w1 ⟨rfl, hw⟩; rw [hw]; clear hw))
        go_loop [4] (fun i => ∃ t : Nat, f ≤ t ∧ t ≤ s.size ∧ i = .int .i64 t ∧ Hid (Asc.trimR ((s.data.toList.take t).drop f) = Asc.trim s.data.toList)) (fun i => (intOf i).toNat)
        case atStart => exact ⟨s.size, hf, Nat.le_refl _, rfl, by
          show _ = _
          rw [take_all s s.size (Nat.le_refl _), HD.out]
          rfl⟩
        case round =>
          obtain ⟨t, hft, ht, rfl, HT⟩ := hrel
          by_cases hft2 : f < t
          · obtain ⟨j, rfl⟩ : ∃ j, t = j + 1 := ⟨t - 1, by omega⟩
            have hj : j < s.size := by omega
            have hj2 : (j : Int) < (s.size : Int) := by omega
            cases hb2 : Asc.isBlank s[j]
            · have HN : Hid ((s.extract f (j + 1)).data.toList = Asc.trim s.data.toList) := by
                show _ = _
                rw [data_cut, ← HT.out]
                exact (Asc.trimR_done s.data.toList f j hj (by omega) hb2).symm
              go_wp2_with (first
                | (go_at_call 56; refine (IsBlank_any _ _).mono ?_; rintro e w1 ⟨rfl, hw⟩; rw [hw]; clear hw))
              go_ret
              exact ⟨ret_text HN.out, rfl⟩
            · have HN : Hid (Asc.trimR ((s.data.toList.take j).drop f) = Asc.trim s.data.toList) := (Asc.trimR_next s.data.toList f j hj (by omega) hb2).trans HT.out
              go_wp2_with (first
                | (go_at_call 56; refine (IsBlank_any _ _).mono ?_; rintro e w1 ⟨rfl, hw⟩; rw [hw]; clear hw))
              go_round
              case rel => exact ⟨j, by omega, by omega, by go_num, HN⟩
              case measure => simp [intOf]
          · have HN : Hid ((s.extract f t).data.toList = Asc.trim s.data.toList) := by
              show _ = _
              rw [data_cut, ← HT.out]
              exact (Asc.trimR_empty s.data.toList f t (by omega)).symm
            go_wp2
            go_ret
            exact ⟨ret_text HN.out, rfl⟩
      · go_wp2
        go_loop [4] (fun i => ∃ t : Nat, f ≤ t ∧ t ≤ s.size ∧ i = .int .i64 t ∧ Hid (Asc.trimR ((s.data.toList.take t).drop f) = Asc.trim s.data.toList)) (fun i => (intOf i).toNat)
        case atStart => exact ⟨s.size, hf, Nat.le_refl _, rfl, by
          show _ = _
          rw [take_all s s.size (Nat.le_refl _), HD.out]
          rfl⟩
        case round =>
          obtain ⟨t, hft, ht, rfl, HT⟩ := hrel
          by_cases hft2 : f < t
          · omega
          · have HN : Hid ((s.extract f t).data.toList = Asc.trim s.data.toList) := by
              show _ = _
              rw [data_cut, ← HT.out]
              exact (Asc.trimR_empty s.data.toList f t (by omega)).symm
            go_wp2
            go_ret
            exact ⟨ret_text HN.out, rfl⟩
end Go.Proofs.Ytoiedadfpbbdgaa
