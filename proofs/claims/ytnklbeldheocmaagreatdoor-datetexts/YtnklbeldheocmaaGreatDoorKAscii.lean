/- Texts laid as one. -/
import Derived.Test.YtnklbeldheocmaaGreatDoorKGround
import Derived.Laws.IdiomStrings
import Derived.Laws.OwnMore
import Derived.Test.YtnklbeldheocmaaGreatDoorKMath
import Derived.Test.YtnklbeldheocmaaGreatDoorKShelf
import Derived.Lib.ItoaLen
import Derived.Lib.LaidTab
import Derived.Lib.ItoaNum
import Derived.PlainAid
import Derived.Laws.BytesArg
import Derived.Lib.Repeat
/- Contracts of Lower, the program's and the reference's. -/
namespace Go.Proofs.YtnklbeldheocmaaGreatDoor
open Go.RowKit
theorem OwnsBytes.of {w : World} {B : Nat} {v : Value} {l m : List UInt8} {c : UInt8} {x : Int} (h : m = l ++ [c]) (hx : x = (c.toNat : Int)) (ho : w.ownsRow B 5 1 v (l.length + 1) (cellsB l ++ [.int .u8 x])) : OwnsBytes w B v m := by
  subst h; subst hx
  unfold OwnsBytes cellsB at *
  simpa using ho
theorem made_cells (n : Nat) : (madeCells (Value.int .u8 0).cells (n * 1)).toList = cellsB (List.replicate n 0) := by
  unfold madeCells cellsB
  rw [Nat.mul_one, List.map_replicate]
  apply List.ext_getElem
  · simp
  · intro i h1 h2
    simp [Value.cells, Nat.mod_one]
theorem set_next (a : List UInt8) (c : UInt8) (m : Nat) : (cellsB (a ++ List.replicate (m + 1) 0)).set a.length (.int .u8 c.toNat) = cellsB (a ++ [c] ++ List.replicate m 0) := by
  unfold cellsB
  rw [List.map_append, List.set_append_right _ _ (by simp)]
  simp [List.replicate_succ]
theorem cell_next (a : List UInt8) (m : Nat) : (cellsB (a ++ List.replicate (m + 1) 0))[a.length]? = some (.int .u8 0) := by
  unfold cellsB
  rw [List.map_append, List.getElem?_append_right (by simp)]
  simp [List.replicate_succ]
/-- What lies in the row behind k rounds. -/
def lowTo (s : ByteArray) (k : Nat) : List UInt8 := Asc.lower (s.data.toList.take k) ++ List.replicate (s.size - k) 0
theorem lower_len (s : ByteArray) (k : Nat) (h : k ≤ s.size) : (Asc.lower (s.data.toList.take k)).length = k := by
  unfold Asc.lower
  rw [List.length_map, List.length_take, ← size_data]
  omega
theorem lowTo_next (s : ByteArray) (k : Nat) (h : k < s.size) : (cellsB (lowTo s k)).set k (.int .u8 (Asc.lowerC s[k]).toNat) = cellsB (lowTo s (k + 1)) := by
  have e := set_next (Asc.lower (s.data.toList.take k)) (Asc.lowerC s[k]) (s.size - (k + 1))
  rw [lower_len s k (by omega), show s.size - (k + 1) + 1 = s.size - k from by omega] at e
  unfold lowTo
  rw [e, List.take_succ_eq_append_getElem (show k < s.data.toList.length from by rw [← size_data]; exact h), Asc.lower_snoc]
  rfl
theorem lowTo_cell (s : ByteArray) (k : Nat) (h : k < s.size) : (cellsB (lowTo s k))[k]? = some (.int .u8 0) := by
  have e := cell_next (Asc.lower (s.data.toList.take k)) (s.size - (k + 1))
  rw [lower_len s k (by omega), show s.size - (k + 1) + 1 = s.size - k from by omega] at e
  exact e
theorem lowTo_len (s : ByteArray) (k : Nat) (h : k ≤ s.size) : (lowTo s k).length = s.size := by
  unfold lowTo
  rw [List.length_append, lower_len s k h, List.length_replicate]
  omega
theorem lowTo_end (s : ByteArray) (k : Nat) (h : k ≤ s.size) (h2 : ¬ k < s.size) : lowTo s k = Asc.lower s.data.toList := by
  unfold lowTo
  rw [take_all s k (by omega), show s.size - k = 0 from by omega]
  simp
set_option maxHeartbeats 400000 in
theorem Lower_any (s : ByteArray) (w : World) (hs : s.size ≤ 1000000000) :
    Calls Tryz.prog 54 #[.string s] w fun e w' => e = .returned (.string (str (Asc.lower s.data.toList))) ∧ Below w.heap.size w w' := by
  obtain ⟨i0, hi, hz0, hz1, hz2⟩ := info_parts infoByte
  go_enter Tryz.func54, Tryz.ntmps54
  go_wp2_with (first
    | (at_make; refine wpList_make_full _ rfl (.tmp 6) (.tmp 6) 84 rfl w.heap.size 5 i0 (.int .u8 0) 1 Tryz.underlying84 hi hz0 hz1 _ _ _ _ s.size rfl rfl rfl rfl (by rw [hz2]; omega) (by unfold maxLen; omega) (Nat.le_refl _) ?_; intro w1 hown1 hgrow1))
  go_loopw [10] (fun i wr => ∃ k : Nat, k ≤ s.size ∧ i = .int .i64 k ∧ wr.ownsRow w.heap.size 5 1 (.slice (some ⟨w.heap.size, 0, none⟩) s.size s.size) s.size (cellsB (lowTo s k)) ∧ Below w.heap.size w wr) (fun i _ => s.size - (intOf i).toNat)
  case atStart =>
    refine ⟨0, Nat.zero_le _, rfl, ?_, (Below.refl _ _).grown hgrow1 (Nat.le_refl _) (by simp)⟩
    rw [made_cells] at hown1
    exact hown1
  case round =>
    obtain ⟨k, hk, rfl, hown, hbel⟩ := hrel
    by_cases hlt : k < s.size
    · have hc : wr.cell? ⟨w.heap.size, k, none⟩ = some (.int .u8 0) := (World.ownsRow.cellAt (w := wr) hown k (by omega)).trans (lowTo_cell s k hlt)
      have hf := World.ownsRow.frozenAt (w := wr) hown k
      have hst := World.ownsRow.stored (w := wr) hown k (.int .u8 (Asc.lowerC s[k]).toNat)
      rw [lowTo_next s k hlt] at hst
      have HS := show Hid _ from hst
      clear hst hown
      go_wp2_with (first
        | (go_at_call 66; refine (lowerByte_any _ _).mono ?_; rintro e w2 ⟨rfl, hw⟩; rw [hw]; clear hw))
      go_roundw
      case rel => exact ⟨k + 1, by omega, by go_num, HS.out.1, hbel.setCell (Nat.le_refl _) _⟩
      case measure => simp [intOf]; omega
    · have hown2 : OwnsBytes wr w.heap.size (.slice (some ⟨w.heap.size, 0, none⟩) s.size s.size) (lowTo s k) := by
        unfold OwnsBytes
        rw [lowTo_len s k hk]
        exact hown
      have hcv := conv_owned hown2
      rw [lowTo_end s k hk hlt] at hcv
      clear hown hown2
      go_wp2
      go_ret
      exact ⟨rfl, hbel⟩
set_option maxHeartbeats 400000 in
set_option maxRecDepth 100000 in
theorem RLower_any (s : ByteArray) (w : World) (hs : s.size ≤ 1000000000) :
    Calls Tryz.prog 55 #[.string s] w fun e w' => e = .returned (.string (str (Asc.lower s.data.toList))) ∧ Below w.heap.size w w' := by
  obtain ⟨i0, hi, hz0, hz1, hz2⟩ := info_parts infoByte
  go_enter Tryz.func55, Tryz.ntmps55
  go_wp2
  go_loopw [3, 4] (fun v i wr => ∃ k : Nat, k ≤ s.size ∧ i = .int .i64 k ∧ OwnsBytes wr w.heap.size v (Asc.lower (s.data.toList.take k)) ∧ Below w.heap.size w wr) (fun _ i _ => s.size - (intOf i).toNat)
  case atStart => exact ⟨0, Nat.zero_le _, rfl, OwnsBytes.nil _ _, Below.refl _ _⟩
  case round =>
    obtain ⟨k, hk, rfl, hown, hbel⟩ := hrel
    by_cases hlt : k < s.size
    · have hll := lower_len s k hk
      have HL : Hid ((Asc.lower (s.data.toList.take k)).length = k) := hll
      have hlo : (Asc.lower (s.data.toList.take k)).length ≤ 1000000000 := by omega
      clear hll
      have hbd := byte_bd s[k]
      obtain ⟨hb0, hb1⟩ := hbd
      have HN : Hid (Asc.lower (s.data.toList.take (k + 1)) = Asc.lower (s.data.toList.take k) ++ [Asc.lowerC s[k]]) := by
        show _ = _
        rw [List.take_succ_eq_append_getElem (show k < s.data.toList.length from by rw [← size_data]; exact hlt), Asc.lower_snoc]
        rfl
      rcases (show (65 ≤ (s[k].toNat : Int) ∧ (s[k].toNat : Int) ≤ 90) ∨ (s[k].toNat : Int) < 65 ∨ 90 < (s[k].toNat : Int) from by omega) with ⟨ha, hb⟩ | ha | ha
      · have HV : Hid ((s[k].toNat : Int) + 32 = ((Asc.lowerC s[k]).toNat : Int)) := by
          show _ = _
          rw [← Asc.lowN_byte, Asc.lowN, if_pos ⟨ha, hb⟩]
        go_wp2_with (first
          | (at_builtin; refine wpList_append_own _ rfl _ _ 84 rfl w.heap.size 5 i0 (.int .u8 0) 1 1 Tryz.underlying84 hi hz0 hz1 hz2 rfl (by decide) _ _ _ rfl (World.ownsRow.alloc hown _) ⟨wr.heap.size, 0, none⟩ 1 1 [.int .u8 ((s[k].toNat : Int) + 32)] rfl rfl (cell_one_new _ _ _) (fun x hx => by simp at hx; subst hx; rfl) (by unfold maxLen; omega) (by omega) (by have := hbel.size; simp; omega) ?_; intro v' w3 hown' hgrow3 hnil3))
        go_roundw
        case rel => exact ⟨k + 1, by omega, by go_num, OwnsBytes.of HN.out HV.out hown', (hbel.alloc hbel.size _).grown hgrow3 (by have := hbel.size; simp; omega) (fun q hq => (World.ownsRow.lt hown q hq).1)⟩
        case measure => simp [intOf]; omega
      all_goals
        have HV : Hid ((s[k].toNat : Int) = ((Asc.lowerC s[k]).toNat : Int)) := by
          show _ = _
          rw [← Asc.lowN_byte, Asc.lowN, if_neg (by omega)]
        go_wp2_with (first
          | (at_builtin; refine wpList_append_own _ rfl _ _ 84 rfl w.heap.size 5 i0 (.int .u8 0) 1 1 Tryz.underlying84 hi hz0 hz1 hz2 rfl (by decide) _ _ _ rfl (World.ownsRow.alloc hown _) ⟨wr.heap.size, 0, none⟩ 1 1 [.int .u8 (s[k].toNat : Int)] rfl rfl (cell_one_new _ _ _) (fun x hx => by simp at hx; subst hx; rfl) (by unfold maxLen; omega) (by omega) (by have := hbel.size; simp; omega) ?_; intro v' w3 hown' hgrow3 hnil3))
        go_roundw
        case rel => exact ⟨k + 1, by omega, by go_num, OwnsBytes.of HN.out HV.out hown', (hbel.alloc hbel.size _).grown hgrow3 (by have := hbel.size; simp; omega) (fun q hq => (World.ownsRow.lt hown q hq).1)⟩
        case measure => simp [intOf]; omega
    · have hcv := conv_owned hown
      rw [take_all s k (by omega)] at hcv
      clear hown
      go_wp2
      go_ret
      exact ⟨rfl, hbel⟩
end Go.Proofs.YtnklbeldheocmaaGreatDoor
/- Contracts of Number, the program's and the reference's. -/
namespace Go.Proofs.YtnklbeldheocmaaGreatDoor
open Go.RowKit
theorem IsDigit_any (c : UInt8) (w : World) :
    Calls Tryz.prog 77 #[.int .u8 c.toNat] w fun e w' => e = .returned (.bool (Asc.isDig (Asc.bt c))) ∧ w' = w := IsDigit_n _ _
theorem RIsDigit_any (c : UInt8) (w : World) :
    Calls Tryz.prog 53 #[.int .u8 c.toNat] w fun e w' => e = .returned (.bool (Asc.isDig (Asc.bt c))) ∧ w' = w := RIsDigit_n _ _
set_option maxHeartbeats 400000 in
theorem isNumber_any (s : ByteArray) (w : World) (hs : s.size ≤ 1000000000) :
    Calls Tryz.prog 64 #[.string s] w fun e w' => e = .returned (.bool (Asc.digForm s.data.toList)) ∧ w' = w := by
  go_enter Tryz.func64, Tryz.ntmps64
  go_wp2
  go_loop [6] (fun i => ∃ k : Nat, k ≤ s.size ∧ i = .int .i64 k ∧ Hid (Asc.allDig (s.data.toList.take k) = true)) (fun i => s.size - (intOf i).toNat)
  case atStart => exact ⟨0, Nat.zero_le _, rfl, rfl⟩
  case round =>
    obtain ⟨k, hk, rfl, HE⟩ := hrel
    by_cases hlt : k < s.size
    · cases hx : Asc.isDig (Asc.bt s[k])
      · have HN : Hid (Asc.digForm s.data.toList = false) := by
          show _ = _
          unfold Asc.digForm
          rw [Asc.allDig_not s.data.toList k hlt hx]
          rfl
        go_wp2_with (first
          | (go_at_call 77; refine (IsDigit_any _ _).mono ?_; rintro e w1 ⟨rfl, hw⟩; rw [hw]; clear hw))
        go_ret
        exact ⟨ret_bool HN.out.symm, rfl⟩
      · have HN : Hid (Asc.allDig (s.data.toList.take (k + 1)) = true) := by
          show _ = _
          rw [Asc.allDig_take s.data.toList k hlt, HE.out, Bool.true_and]
          exact hx
        go_wp2_with (first
          | (go_at_call 77; refine (IsDigit_any _ _).mono ?_; rintro e w1 ⟨rfl, hw⟩; rw [hw]; clear hw))
        go_round
        case rel => exact ⟨k + 1, by omega, by go_num, HN⟩
        case measure => simp [intOf]; omega
    · have HN : Hid (Asc.allDig s.data.toList = true) := by
        have := HE.out
        rwa [take_all s k (by omega)] at this
      go_wp2
      go_ret
      exact ⟨ret_bool (by unfold Asc.digForm; rw [HN.out, ByteArray.toList_eq]; rfl), rfl⟩
set_option maxHeartbeats 1000000 in
theorem Number_any (s : ByteArray) (most : Int) (w : World) (hs : s.size ≤ 1000000000) (hm1 : most ≤ 9223372036854775807) :
    Calls Tryz.prog 50 #[.string s, .int .i64 most] w fun e w' => e = .returned (.tuple #[.int .i64 (Asc.numNum s.data.toList most), .int .i64 (Asc.numErr s.data.toList most)]) ∧ w' = w := by
  cases hx : (Asc.digForm s.data.toList)
  · have HN : Hid (Asc.numNum s.data.toList most = 0 ∧ Asc.numErr s.data.toList most = 3) := Asc.num_form _ _ hx
    go_enter Tryz.func50, Tryz.ntmps50
    go_wp2_with (first
      | (go_at_call 64; refine (isNumber_any s _ hs).mono ?_; rintro e w1 ⟨rfl, hw⟩; rw [hw]; clear hw))
    go_ret2
    exact ⟨ret_pair (by rw [HN.out.1]; rfl) (by rw [HN.out.2]; rfl), rfl⟩
  · by_cases hm : most < 0
    · have HN : Hid (Asc.numNum s.data.toList most = 0 ∧ Asc.numErr s.data.toList most = 5) := Asc.num_neg _ _ hx hm
      go_enter Tryz.func50, Tryz.ntmps50
      go_wp2_with (first
        | (go_at_call 64; refine (isNumber_any s _ hs).mono ?_; rintro e w1 ⟨rfl, hw⟩; rw [hw]; clear hw))
      go_ret2
      exact ⟨ret_pair (by rw [HN.out.1]; rfl) (by rw [HN.out.2]; rfl), rfl⟩
    · have hm0 : 0 ≤ most := by omega
      have HX : Hid (Asc.digForm s.data.toList = true) := hx
      clear hm
      go_enter Tryz.func50, Tryz.ntmps50
      go_wp2_with (first
        | (go_at_call 64; refine (isNumber_any s _ hs).mono ?_; rintro e w1 ⟨rfl, hw⟩; rw [hw]; clear hw))
      clear hx
      go_loop [6, 16] (fun m i => ∃ (k : Nat) (n : Int), k ≤ s.size ∧ i = .int .i64 k ∧ m = .int .i64 n ∧ 0 ≤ n ∧ n ≤ most ∧ Hid (Asc.numFold most n (s.data.toList.drop k) = Asc.numFold most 0 s.data.toList)) (fun _ i => s.size - (intOf i).toNat)
      case atStart => exact ⟨0, 0, Nat.zero_le _, rfl, rfl, by omega, hm0, rfl⟩
      case round =>
        obtain ⟨k, n, hk, rfl, rfl, hn0, hn1, HE⟩ := hrel
        by_cases hlt : k < s.size
        · have hd := Asc.allDig_at s.data.toList k hlt (Asc.digForm_all _ HX.out)
          have hd0 : (48 : Int) ≤ (s[k].toNat : Int) := hd.1
          have hd1 : (s[k].toNat : Int) ≤ 57 := hd.2
          clear hd
          have HS : Hid (most < n * 10 + ((s[k].toNat : Int) - 48) → Asc.numNum s.data.toList most = 0 ∧ Asc.numErr s.data.toList most = 5) := fun h => Asc.num_many _ most HX.out hm0 (by rw [← HE.out]; exact Asc.numFold_stop most _ k n hlt h)
          have HN : Hid (¬ most < n * 10 + ((s[k].toNat : Int) - 48) → Asc.numFold most (n * 10 + ((s[k].toNat : Int) - 48)) (s.data.toList.drop (k + 1)) = Asc.numFold most 0 s.data.toList) := fun h => by
            rw [← HE.out]
            exact (Asc.numFold_next most _ k n hlt h).symm
          rcases (show most / 10 < n ∨ n < most / 10 ∨ n = most / 10 from by omega) with hc | hc | hc
          · go_wp2
            go_ret2
            have h := HS.out (by omega)
            exact ⟨ret_pair (by rw [h.1]; rfl) (by rw [h.2]; rfl), rfl⟩
          · have hq : (n == most / 10) = false := by rw [beq_eq_false_iff_ne]; omega
            go_wp2
            go_round
            case rel => exact ⟨k + 1, n * 10 + ((s[k].toNat : Int) - 48), by omega, by go_num, rfl, by omega, by omega, HN.out (by omega)⟩
            case measure => simp [intOf]; omega
          · have hq : (n == most / 10) = true := by rw [beq_iff_eq]; exact hc
            have HQ : Hid (n = most / 10) := hc
            have hn9 : n * 10 ≤ most := by omega
            clear hc
            by_cases hr : most % 10 < (s[k].toNat : Int) - 48
            · go_wp2
              go_ret2
              have h := HS.out (by have := HQ.out; omega)
              exact ⟨ret_pair (by rw [h.1]; rfl) (by rw [h.2]; rfl), rfl⟩
            · have hn8 : n * 10 + ((s[k].toNat : Int) - 48) ≤ most := by have := HQ.out; omega
              go_wp2
              go_round
              case rel => exact ⟨k + 1, n * 10 + ((s[k].toNat : Int) - 48), by omega, by go_num, rfl, by omega, by omega, HN.out (by omega)⟩
              case measure => simp [intOf]; omega
        · have HN : Hid (Asc.numNum s.data.toList most = n ∧ Asc.numErr s.data.toList most = 0) := Asc.num_ok _ most n HX.out hm0 (by rw [← HE.out]; exact Asc.numFold_end most _ k n (by simpa using Nat.le_of_not_lt hlt))
          go_wp2
          go_ret2
          exact ⟨ret_pair (by rw [HN.out.1]; rfl) (by rw [HN.out.2]; rfl), rfl⟩
theorem digForm_empty (s : ByteArray) (h : s.size = 0) : Asc.digForm s.data.toList = false := by
  have := empty_yes s h
  rw [ByteArray.toList_eq] at this
  unfold Asc.digForm
  rw [this]
  simp
theorem digForm_yes (s : ByteArray) (h : ¬ s.size = 0) (ha : Asc.allDig s.data.toList = true) : Asc.digForm s.data.toList = true := by
  have := empty_no s h
  rw [ByteArray.toList_eq] at this
  unfold Asc.digForm
  rw [this, ha]
  rfl
theorem tdiv_form (most : Int) (h : most < 0) : most.tdiv 10 = -((-most) / 10) := by
  have e : most = -(-most) := by omega
  conv => lhs; rw [e]
  rw [Int.neg_tdiv, Int.tdiv_eq_ediv_of_nonneg (by omega)]
theorem tdiv_low (most : Int) (h0 : -9223372036854775808 ≤ most) (h : most ≤ -10) : -9223372036854775808 ≤ most.tdiv 10 ∧ most.tdiv 10 < 0 := by
  rw [tdiv_form most (by omega)]
  omega
theorem tdiv_zero (most : Int) (h : most < 0) (h2 : -10 < most) : most.tdiv 10 = 0 := by
  rw [tdiv_form most h]
  omega
theorem tmod_same (most : Int) (h : most < 0) (h2 : -10 < most) : most.tmod 10 = most := by
  have := Int.tmod_add_tdiv_mul most 10
  rw [tdiv_zero most h h2] at this
  omega
set_option maxHeartbeats 1000000 in
theorem RNumber_any (s : ByteArray) (most : Int) (w : World) (hs : s.size ≤ 1000000000) (hm2 : -9223372036854775808 ≤ most) (hm1 : most ≤ 9223372036854775807) :
    Calls Tryz.prog 35 #[.string s, .int .i64 most] w fun e w' => e = .returned (.tuple #[.int .i64 (Asc.numNum s.data.toList most), .int .i64 (Asc.numErr s.data.toList most)]) ∧ w' = w := by
  go_enter Tryz.func35, Tryz.ntmps35
  go_wp2
  go_loop [6] (fun i => ∃ k : Nat, k ≤ s.size ∧ i = .int .i64 k ∧ Hid (Asc.allDig (s.data.toList.take k) = true)) (fun i => s.size - (intOf i).toNat)
  case atStart => exact ⟨0, Nat.zero_le _, rfl, rfl⟩
  case round =>
    obtain ⟨k, hk, rfl, HE⟩ := hrel
    by_cases hlt : k < s.size
    · cases hx : Asc.isDig (Asc.bt s[k])
      · have HN : Hid (Asc.numNum s.data.toList most = 0 ∧ Asc.numErr s.data.toList most = 3) := Asc.num_form _ _ (by
          unfold Asc.digForm
          rw [Asc.allDig_not s.data.toList k hlt hx]
          rfl)
        go_wp2_with (first
          | (go_at_call 53; refine (RIsDigit_any _ _).mono ?_; rintro e w1 ⟨rfl, hw⟩; rw [hw]; clear hw))
        go_ret2
        exact ⟨ret_pair (by rw [HN.out.1]; rfl) (by rw [HN.out.2]; rfl), rfl⟩
      · have HN : Hid (Asc.allDig (s.data.toList.take (k + 1)) = true) := by
          show _ = _
          rw [Asc.allDig_take s.data.toList k hlt, HE.out, Bool.true_and]
          exact hx
        go_wp2_with (first
          | (go_at_call 53; refine (RIsDigit_any _ _).mono ?_; rintro e w1 ⟨rfl, hw⟩; rw [hw]; clear hw))
        go_round
        case rel => exact ⟨k + 1, by omega, by go_num, HN⟩
        case measure => simp [intOf]; omega
    · have HA : Hid (Asc.allDig s.data.toList = true) := by
        have := HE.out
        rwa [take_all s k (by omega)] at this
      by_cases hz : s.size = 0
      · have HN : Hid (Asc.numNum s.data.toList most = 0 ∧ Asc.numErr s.data.toList most = 3) := Asc.num_form _ _ (digForm_empty s hz)
        have he := empty_yes s hz
        clear hz
        go_wp2
        go_ret2
        exact ⟨ret_pair (by rw [HN.out.1]; rfl) (by rw [HN.out.2]; rfl), rfl⟩
      · have HX : Hid (Asc.digForm s.data.toList = true) := digForm_yes s hz HA.out
        have he := empty_no s hz
        have hpos : 0 < s.size := by omega
        clear hz
        by_cases hm : most < 0
        · have HN : Hid (Asc.numNum s.data.toList most = 0 ∧ Asc.numErr s.data.toList most = 5) := Asc.num_neg _ _ HX.out hm
          go_wp2
          go_loop [7, 8] (fun m i => m = .int .i64 0 ∧ i = .int .i64 0) (fun _ _ => 0)
          case atStart => exact ⟨rfl, rfl⟩
          case round =>
            obtain ⟨rfl, rfl⟩ := hrel
            have hd := Asc.allDig_at s.data.toList 0 hpos (Asc.digForm_all _ HX.out)
            have hd0 : (48 : Int) ≤ (s[0].toNat : Int) := hd.1
            have hd1 : (s[0].toNat : Int) ≤ 57 := hd.2
            clear hd
            by_cases h10 : most ≤ -10
            · have hq := tdiv_low most hm2 h10
              obtain ⟨hq0, hq1⟩ := hq
              go_wp2
              go_ret2
              exact ⟨ret_pair (by rw [HN.out.1]; rfl) (by rw [HN.out.2]; rfl), rfl⟩
            · have hq0 := tdiv_zero most hm (by omega)
              have hq1 := tmod_same most hm (by omega)
              go_wp2
              go_ret2
              exact ⟨ret_pair (by rw [HN.out.1]; rfl) (by rw [HN.out.2]; rfl), rfl⟩
        · have hm0 : 0 ≤ most := by omega
          clear hm
          go_wp2
          go_loop [7, 8] (fun m i => ∃ (k : Nat) (n : Int), k ≤ s.size ∧ i = .int .i64 k ∧ m = .int .i64 n ∧ 0 ≤ n ∧ n ≤ most ∧ Hid (Asc.numFold most n (s.data.toList.drop k) = Asc.numFold most 0 s.data.toList)) (fun _ i => s.size - (intOf i).toNat)
          case atStart => exact ⟨0, 0, Nat.zero_le _, rfl, rfl, by omega, hm0, rfl⟩
          case round =>
            clear HE hlt hk
            obtain ⟨j, n, hk, rfl, rfl, hn0, hn1, HE⟩ := hrel
            by_cases hlt : j < s.size
            · have hd := Asc.allDig_at s.data.toList j hlt (Asc.digForm_all _ HX.out)
              have hd0 : (48 : Int) ≤ (s[j].toNat : Int) := hd.1
              have hd1 : (s[j].toNat : Int) ≤ 57 := hd.2
              clear hd
              have HS : Hid (most < n * 10 + ((s[j].toNat : Int) - 48) → Asc.numNum s.data.toList most = 0 ∧ Asc.numErr s.data.toList most = 5) := fun h => Asc.num_many _ most HX.out hm0 (by rw [← HE.out]; exact Asc.numFold_stop most _ j n hlt h)
              have HN : Hid (¬ most < n * 10 + ((s[j].toNat : Int) - 48) → Asc.numFold most (n * 10 + ((s[j].toNat : Int) - 48)) (s.data.toList.drop (j + 1)) = Asc.numFold most 0 s.data.toList) := fun h => by
                rw [← HE.out]
                exact (Asc.numFold_next most _ j n hlt h).symm
              rcases (show most / 10 < n ∨ n < most / 10 ∨ n = most / 10 from by omega) with hc | hc | hc
              · go_wp2
                go_ret2
                have h := HS.out (by omega)
                exact ⟨ret_pair (by rw [h.1]; rfl) (by rw [h.2]; rfl), rfl⟩
              · have hq : (n == most / 10) = false := by rw [beq_eq_false_iff_ne]; omega
                go_wp2
                go_round
                case rel => exact ⟨j + 1, n * 10 + ((s[j].toNat : Int) - 48), by omega, by go_num, rfl, by omega, by omega, HN.out (by omega)⟩
                case measure => simp [intOf]; omega
              · have hq : (n == most / 10) = true := by rw [beq_iff_eq]; exact hc
                have HQ : Hid (n = most / 10) := hc
                have hn9 : n * 10 ≤ most := by omega
                clear hc
                by_cases hr : most % 10 < (s[j].toNat : Int) - 48
                · go_wp2
                  go_ret2
                  have h := HS.out (by have := HQ.out; omega)
                  exact ⟨ret_pair (by rw [h.1]; rfl) (by rw [h.2]; rfl), rfl⟩
                · have hn8 : n * 10 + ((s[j].toNat : Int) - 48) ≤ most := by have := HQ.out; omega
                  go_wp2
                  go_round
                  case rel => exact ⟨j + 1, n * 10 + ((s[j].toNat : Int) - 48), by omega, by go_num, rfl, by omega, by omega, HN.out (by omega)⟩
                  case measure => simp [intOf]; omega
            · have HN : Hid (Asc.numNum s.data.toList most = n ∧ Asc.numErr s.data.toList most = 0) := Asc.num_ok _ most n HX.out hm0 (by rw [← HE.out]; exact Asc.numFold_end most _ j n (by simpa using Nat.le_of_not_lt hlt))
              go_wp2
              go_ret2
              exact ⟨ret_pair (by rw [HN.out.1]; rfl) (by rw [HN.out.2]; rfl), rfl⟩
end Go.Proofs.YtnklbeldheocmaaGreatDoor
/- Contracts of Text, the program's and the reference's. -/
namespace Go.Proofs.YtnklbeldheocmaaGreatDoor
open Go.RowKit
theorem gPow : Tryz.prog.globalNamed "internal/strconv.uint64pow10" = some 2 := by kernel_rfl
theorem tPow : (Tryz.prog.globals[2]?).map (·.type) = some 127 := by kernel_rfl
/-- What the walks are told of strconv's table of powers of ten. -/
def Pow (w : World) : Prop := Lib.TabIs Tryz.prog w "internal/strconv.uint64pow10" .u64 Lib.pow10Tab
theorem Pow.lt {w : World} (h : Pow w) : 2 < w.heap.size := by
  have := Lib.TabIs.cell h gPow 0 (by decide)
  unfold World.cell? at this
  simp at this
  by_cases hs : 2 < w.heap.size
  · exact hs
  · rw [Array.getElem?_eq_none (by omega)] at this
    simp at this
theorem Pow.below {w w' : World} (h : Pow w) (hb : Below w.heap.size w w') : Pow w' := var?_below hb gPow h.lt h
def txt (n : Int) : ByteArray := ⟨(Lib.itoa n).toArray⟩
theorem txt_size (n : Int) : (txt n).size = (Lib.itoa n).length := by simp [txt, ByteArray.size]
theorem below_grow {w : World} (k : Nat) (os : Array Obj) : Below w.heap.size w (Go.Sort.grow (w.drewN k) os) := by
  refine ⟨rfl, rfl, rfl, ?_, ?_⟩
  · simp [Go.Sort.grow]
  · intro j hj
    show (w.heap ++ os)[j]? = _
    rw [Array.getElem?_append_left hj]
set_option maxHeartbeats 400000 in
theorem Text_any (n : Int) (w : World) (h0 : -9223372036854775808 ≤ n) (h1 : n ≤ 9223372036854775807) (hT : Pow w) :
    Calls Tryz.prog 48 #[.int .i64 n] w fun e w' => e = .returned (.string (txt n)) ∧ Below w.heap.size w w' := by
  go_enter Tryz.func48, Tryz.ntmps48
  go_wp2_with (first
    | (go_at_call 60; refine (Tryz.strconv_FormatInt_10 n h0 h1 w hT).mono ?_; rintro e w1 ⟨rfl, k, os, rfl⟩))
  go_ret
  exact ⟨rfl, below_grow k os⟩
/-- The document's Pad: the digits, zeros ahead of them up to the size (20 at most), the sign ahead of all. -/
def padL (n size : Int) : List UInt8 :=
  (if n < 0 then [45] else []) ++ (List.replicate (min size 20 - ((Lib.decDigits n.natAbs).length : Int)).toNat 48 ++ Lib.decDigits n.natAbs)
theorem str_of {b : ByteArray} {l : List UInt8} (h : b.data.toList = l) : Value.string b = strV l := by rw [← h, strV_data]
theorem ret_str {b : ByteArray} {l : List UInt8} (h : b.data.toList = l) : Ending.returned (.string b) = .returned (strV l) := by rw [str_of h]
theorem txt_data (n : Int) : (txt n).data.toList = Lib.itoa n := by simp [txt]
theorem itoa_neg' (n : Int) (h : n < 0) : Lib.itoa n = 45 :: Lib.decDigits n.natAbs := by rw [Lib.itoa, if_pos h]
theorem itoa_pos' (n : Int) (h : 0 ≤ n) : Lib.itoa n = Lib.decDigits n.natAbs := by
  rw [Lib.itoa, if_neg (by omega)]
  congr 1
  omega
/-- The text of one byte. -/
def one (n : Int) : ByteArray := strOfNums [n]
theorem one_size (n : Int) : (one n).size = 1 := by unfold one; rw [strOfNums_size]; rfl
theorem one_data (n : Int) : (one n).data.toList = [UInt8.ofNat n.toNat] := rfl
theorem conv_one (W : World) (n : Int) : (convert 84 9 (.slice (some ⟨W.heap.size, 0, none⟩) 1 1)).run Tryz.prog (W.alloc (.cells #[.int .u8 n] 5)) = .ok (.string (one n)) (W.alloc (.cells #[.int .u8 n] 5)) :=
  run_convert_bytes_arg (P := Tryz.prog) (W.alloc (.cells #[.int .u8 n] 5)) 84 5 Tryz.underlying84 Tryz.underlying5 W.heap.size 0 1 1 [n] rfl (fun i hi => by
    have : i = 0 := by omega
    subst this
    simp) 9 Tryz.underlying9
theorem one_digit (m : Nat) : (one (48 + ↑m % 10)).data.toList = [UInt8.ofNat (48 + m % 10)] := by
  rw [one_data, show (48 + (m : Int) % 10).toNat = 48 + m % 10 from by omega]
theorem dec_small (m : Nat) (h : m < 10) : Lib.decDigits m = (one (48 + ↑m % 10)).data.toList := by
  rw [Lib.decDigits, dif_pos h, one_digit, Nat.mod_eq_of_lt h]
theorem dec_big (m : Nat) (h : ¬ m < 10) : Lib.decDigits m = Lib.decDigits (m / 10) ++ (one (48 + ↑m % 10)).data.toList := by
  rw [Lib.decDigits, dif_neg h, one_digit]
def strOf : Value → ByteArray
  | .string b => b
  | _ => ⟨#[]⟩
theorem padL_one (n : Int) : padL n 1 = Lib.itoa n := by
  unfold padL
  have : 1 ≤ (Lib.decDigits n.natAbs).length := by rw [Lib.decDigits_length]; exact Lib.nDigits_pos _
  rw [show (min 1 20 - ((Lib.decDigits n.natAbs).length : Int)).toNat = 0 from by omega]
  by_cases h : n < 0
  · rw [if_pos h, itoa_neg' n h]
    rfl
  · rw [if_neg h, itoa_pos' n (by omega)]
    rfl
end Go.Proofs.YtnklbeldheocmaaGreatDoor
/- Contracts of Trim, the program's and the reference's. -/
namespace Go.Proofs.YtnklbeldheocmaaGreatDoor
open Go.RowKit
set_option maxHeartbeats 400000 in
theorem Trim_any (s : ByteArray) (w : World) (hs : s.size ≤ 1000000000) :
    Calls Tryz.prog 25 #[.string s] w fun e w' => e = .returned (.string (str (Asc.trim s.data.toList))) ∧ w' = w := by
  go_enter Tryz.func25, Tryz.ntmps25
  go_wp2
  go_loop [3] (fun i => ∃ f : Nat, f ≤ s.size ∧ i = .int .i64 f ∧ Hid (Asc.trimL (s.data.toList.drop f) = Asc.trimL s.data.toList)) (fun i => s.size - (intOf i).toNat)
  case atStart => exact ⟨0, Nat.zero_le _, rfl, rfl⟩
  case round =>
    obtain ⟨f, hf, rfl, HE⟩ := hrel
    by_cases hc : ∃ h : f < s.size, Asc.isBlank s[f] = true
    · obtain ⟨hlt, hb⟩ := hc
      have HN : Hid (Asc.trimL (s.data.toList.drop (f + 1)) = Asc.trimL s.data.toList) := (Asc.trimL_next s.data.toList f hlt hb).trans HE.out
      go_wp2_with (first
        | (go_at_call 43; refine (IsBlank_any _ _).mono ?_; rintro e w1 ⟨rfl, hw⟩; rw [hw]; clear hw))
      go_round
      case rel => exact ⟨f + 1, by omega, by go_num, HN⟩
      case measure => simp [intOf]; omega
    · have HD : Hid (s.data.toList.drop f = Asc.trimL s.data.toList) := by
        show _ = _
        rw [← HE.out]
        by_cases hlt : f < s.size
        · exact (Asc.trimL_stop _ f hlt (by
            rw [Bool.eq_false_iff]
            intro h
            exact hc ⟨hlt, h⟩)).symm
        · exact (Asc.trimL_end _ f (by rw [← size_data]; omega)).symm
      have HX : Hid (f < s.size → ∀ h : f < s.size, Asc.isBlank s[f] = false) := fun _ h => by
        rw [Bool.eq_false_iff]
        intro e
        exact hc ⟨h, e⟩
      clear hc HE
      by_cases hlt : f < s.size
      · have hb := HX.out hlt hlt
        go_wp2_with (first
          | (go_at_call 43; refine (IsBlank_any _ _).mono ?_; rintro e w1 ⟨rfl, hw⟩; rw [hw]; clear hw))
        go_loop [4] (fun i => ∃ t : Nat, f ≤ t ∧ t ≤ s.size ∧ i = .int .i64 t ∧ Hid (Asc.trimR ((s.data.toList.take t).drop f) = Asc.trim s.data.toList)) (fun i => (intOf i).toNat)
        case atStart => exact ⟨s.size, hf, Nat.le_refl _, rfl, by
          show _ = _
          rw [take_all s s.size (Nat.le_refl _), HD.out]
          rfl⟩
        case round =>
          obtain ⟨t, hft, ht, rfl, HT⟩ := hrel
          by_cases hft2 : f < t
          · obtain ⟨j, rfl⟩ : ∃ j, t = j + 1 := ⟨t - 1, by omega⟩
            have hj : j < s.size := by omega
            have hj2 : (j : Int) < (s.size : Int) := by omega
            cases hb2 : Asc.isBlank s[j]
            · have HN : Hid ((s.extract f (j + 1)).data.toList = Asc.trim s.data.toList) := by
                show _ = _
                rw [data_cut, ← HT.out]
                exact (Asc.trimR_done s.data.toList f j hj (by omega) hb2).symm
              go_wp2_with (first
                | (go_at_call 43; refine (IsBlank_any _ _).mono ?_; rintro e w1 ⟨rfl, hw⟩; rw [hw]; clear hw))
              go_ret
              exact ⟨ret_text HN.out, rfl⟩
            · have HN : Hid (Asc.trimR ((s.data.toList.take j).drop f) = Asc.trim s.data.toList) := (Asc.trimR_next s.data.toList f j hj (by omega) hb2).trans HT.out
              go_wp2_with (first
                | (go_at_call 43; refine (IsBlank_any _ _).mono ?_; rintro e w1 ⟨rfl, hw⟩; rw [hw]; clear hw))
              go_round
              case rel => exact ⟨j, by omega, by omega, by go_num, HN⟩
              case measure => simp [intOf]
          · have HN : Hid ((s.extract f t).data.toList = Asc.trim s.data.toList) := by
              show _ = _
              rw [data_cut, ← HT.out]
              exact (Asc.trimR_empty s.data.toList f t (by omega)).symm
            go_wp2
            go_ret
            exact ⟨ret_text HN.out, rfl⟩
      · go_wp2
        go_loop [4] (fun i => ∃ t : Nat, f ≤ t ∧ t ≤ s.size ∧ i = .int .i64 t ∧ Hid (Asc.trimR ((s.data.toList.take t).drop f) = Asc.trim s.data.toList)) (fun i => (intOf i).toNat)
        case atStart => exact ⟨s.size, hf, Nat.le_refl _, rfl, by
          show _ = _
          rw [take_all s s.size (Nat.le_refl _), HD.out]
          rfl⟩
        case round =>
          obtain ⟨t, hft, ht, rfl, HT⟩ := hrel
          by_cases hft2 : f < t
          · omega
          · have HN : Hid ((s.extract f t).data.toList = Asc.trim s.data.toList) := by
              show _ = _
              rw [data_cut, ← HT.out]
              exact (Asc.trimR_empty s.data.toList f t (by omega)).symm
            go_wp2
            go_ret
            exact ⟨ret_text HN.out, rfl⟩
theorem first_cut (b : ByteArray) (h : 0 < b.size) (hb : Asc.isBlank b[0] = true) : Asc.trimL (b.extract 1 b.size).data.toList = Asc.trimL b.data.toList := by
  rw [data_cut, take_all b b.size (Nat.le_refl _)]
  exact Asc.trimL_next b.data.toList 0 h hb
theorem first_stop (b : ByteArray) (h : ∀ h : 0 < b.size, Asc.isBlank b[0] = false) : Asc.trimL b.data.toList = b.data.toList := by
  by_cases hz : 0 < b.size
  · exact Asc.trimL_stop b.data.toList 0 hz (h hz)
  · exact Asc.trimL_end b.data.toList 0 (by rw [← size_data]; omega)
theorem last_cut (b : ByteArray) (j : Nat) (h : b.size = j + 1) (hb : Asc.isBlank (b[j]'(by omega)) = true) : Asc.trimR (b.extract 0 j).data.toList = Asc.trimR b.data.toList := by
  rw [data_cut]
  have := Asc.trimR_next b.data.toList 0 j (by rw [← size_data]; omega) (Nat.zero_le _) hb
  rw [this, take_all b (j + 1) (by omega)]
  rfl
theorem last_stop (b : ByteArray) (j : Nat) (h : b.size = j + 1) (hb : Asc.isBlank (b[j]'(by omega)) = false) : Asc.trimR b.data.toList = b.data.toList := by
  have := Asc.trimR_done b.data.toList 0 j (by rw [← size_data]; omega) (Nat.zero_le _) hb
  rw [take_all b (j + 1) (by omega)] at this
  exact this
theorem last_empty (b : ByteArray) (h : b.size = 0) : Asc.trimR b.data.toList = b.data.toList := by
  have : b.data.toList = [] := List.eq_nil_of_length_eq_zero (by rw [← size_data]; exact h)
  rw [this]
  rfl
end Go.Proofs.YtnklbeldheocmaaGreatDoor
/- The contract of the program's Pad. -/
namespace Go.Proofs.YtnklbeldheocmaaGreatDoor
open Go.RowKit
def zeros (m : Int) : ByteArray := ⟨(List.replicate m.toNat 48).toArray⟩
theorem zeros_size (m : Int) : (zeros m).size = m.toNat := by simp [zeros, ByteArray.size]
theorem repeatL_zero : ∀ k : Nat, Lib.repeatL [48] k = List.replicate k 48
  | 0 => rfl
  | k + 1 => by rw [Lib.repeatL, repeatL_zero k]; rfl
theorem Repeat_any (m : Int) (w : World) (h0 : 0 ≤ m) (h1 : m ≤ 100) :
    Calls Tryz.prog 49 #[.string ⟨#[48]⟩, .int .i64 m] w fun e w' => e = .returned (.string (zeros m)) ∧ Below w.heap.size w w' := by
  obtain ⟨k, rfl⟩ := Int.eq_ofNat_of_zero_le h0
  refine (Tryz.strings_Repeat ⟨#[48]⟩ k w (by omega) (by simp [ByteArray.size]; omega)).mono ?_
  rintro e w' ⟨rfl, hb⟩
  refine ⟨?_, hb⟩
  rw [repeatL_zero]
  rfl
theorem zeros_data (m : Int) : (zeros m).data.toList = List.replicate m.toNat 48 := by simp [zeros]
set_option maxHeartbeats 400000 in
theorem Pad_neg (n size : Int) (w : World) (h0 : -9223372036854775808 ≤ n) (h1 : n < 0) (hT : Pow w) :
    Calls Tryz.prog 29 #[.int .i64 n, .int .i64 size] w fun e w' => e = .returned (strV (padL n size)) ∧ Below w.heap.size w w' := by
  have hl := Lib.itoa_length_le n h0 (by omega)
  rw [← txt_size] at hl
  have HD : Hid ((txt n).size = (Lib.decDigits n.natAbs).length + 1) := by
    show _ = _
    rw [txt_size, itoa_neg' n h1]
    rfl
  have hpI : (1 : Int) ≤ ((txt n).size : Int) := by have := HD.out; omega
  have hz : (zeros (max (↑((txt n).size - 1)) (min size 20) - ↑((txt n).size - 1))).size ≤ 20 := by rw [zeros_size]; omega
  have HF : Hid (({ data := #[45] } ++ zeros (max (↑((txt n).size - 1)) (min size 20) - ↑((txt n).size - 1)) ++ (txt n).extract 1 (txt n).size : ByteArray).data.toList = padL n size) := by
    show _ = _
    have hd := HD.out
    rw [ByteArray.data_append, ByteArray.data_append, Array.toList_append, Array.toList_append, zeros_data, data_cut, txt_data, List.take_of_length_le (by rw [txt_size]; omega), itoa_neg' n h1, hd]
    unfold padL
    rw [if_pos h1, List.append_assoc]
    have e : (max (↑((Lib.decDigits n.natAbs).length + 1 - 1) : Int) (min size 20) - ↑((Lib.decDigits n.natAbs).length + 1 - 1)).toNat = (min size 20 - ((Lib.decDigits n.natAbs).length : Int)).toNat := by omega
    rw [e]
    rfl
  go_enter Tryz.func29, Tryz.ntmps29
  go_wp2_with (first
    | (go_at_call 48; refine (Text_any n _ h0 (by omega) hT).mono ?_; rintro e w1 ⟨rfl, hb⟩))
  go_quiet (fail)
  go_wp2_with (first
    | (go_at_call 49; refine (Repeat_any _ _ (by omega) (by omega)).mono ?_; rintro e w2 ⟨rfl, hb2⟩))
  go_ret
  exact ⟨ret_str HF.out, (below_drewN hb nq).trans (hb2.mono (below_drewN hb nq).size)⟩
set_option maxHeartbeats 400000 in
theorem Pad_pos (n size : Int) (w : World) (h0 : 0 ≤ n) (h1 : n ≤ 9223372036854775807) (hT : Pow w) :
    Calls Tryz.prog 29 #[.int .i64 n, .int .i64 size] w fun e w' => e = .returned (strV (padL n size)) ∧ Below w.heap.size w w' := by
  have hl := Lib.itoa_length_le n (by omega) h1
  rw [← txt_size] at hl
  have HD : Hid ((txt n).size = (Lib.decDigits n.natAbs).length) := by
    show _ = _
    rw [txt_size, itoa_pos' n h0]
  have hz : (zeros (max (↑(txt n).size) (min size 20) - ↑(txt n).size)).size ≤ 20 := by rw [zeros_size]; omega
  have HF : Hid ((zeros (max (↑(txt n).size) (min size 20) - ↑(txt n).size) ++ txt n : ByteArray).data.toList = padL n size) := by
    show _ = _
    have hd := HD.out
    rw [ByteArray.data_append, Array.toList_append, zeros_data, txt_data, itoa_pos' n h0, hd]
    unfold padL
    rw [if_neg (by omega)]
    have e : (max ((Lib.decDigits n.natAbs).length : Int) (min size 20) - ((Lib.decDigits n.natAbs).length : Int)).toNat = (min size 20 - ((Lib.decDigits n.natAbs).length : Int)).toNat := by omega
    rw [e]
    rfl
  go_enter Tryz.func29, Tryz.ntmps29
  go_wp2_with (first
    | (go_at_call 48; refine (Text_any n _ (by omega) h1 hT).mono ?_; rintro e w1 ⟨rfl, hb⟩)
    | (go_at_call 49; refine (Repeat_any _ _ (by omega) (by omega)).mono ?_; rintro e w2 ⟨rfl, hb2⟩))
  go_ret
  exact ⟨ret_str HF.out, hb.trans (hb2.mono hb.size)⟩
theorem Pad_any (n size : Int) (w : World) (h0 : -9223372036854775808 ≤ n) (h1 : n ≤ 9223372036854775807) (hT : Pow w) :
    Calls Tryz.prog 29 #[.int .i64 n, .int .i64 size] w fun e w' => e = .returned (strV (padL n size)) ∧ Below w.heap.size w w' := by
  by_cases h : n < 0
  · exact Pad_neg n size w h0 h hT
  · exact Pad_pos n size w (by omega) h1 hT
end Go.Proofs.YtnklbeldheocmaaGreatDoor
/- The contract of the program's Join (for a seat without UPut). -/
namespace Go.Proofs.YtnklbeldheocmaaGreatDoor
open Go.RowKit
theorem cell_lt {w : World} {a : Addr} {v : Value} (h : w.cell? a = some v) : a.block < w.heap.size := by
  by_cases hs : a.block < w.heap.size
  · exact hs
  · unfold World.cell? at h
    rw [Array.getElem?_eq_none (by omega)] at h
    simp at h
theorem cell_alloc {w : World} {a : Addr} {v : Value} {o : Obj} (h : w.cell? a = some v) : (w.alloc o).cell? a = some v := by
  rw [World.cell?_alloc_lt _ _ _ (cell_lt h), h]
theorem ReadsTexts.alloc {w : World} {v : Value} {ts : List (List UInt8)} (h : ReadsTexts w v ts) (o : Obj) : ReadsTexts (w.alloc o) v ts := by
  rcases h with h | ⟨b, o', c, rfl, hc, hr⟩
  · exact .inl h
  · exact .inr ⟨b, o', c, rfl, hc, fun j t hj => cell_alloc (hr j t hj)⟩
theorem ReadsTexts.below {w w' : World} {v : Value} {ts : List (List UInt8)} (h : ReadsTexts w v ts) (hb : Below w.heap.size w w') : ReadsTexts w' v ts := by
  rcases h with h | ⟨b, o, c, rfl, hc, hr⟩
  · exact .inl h
  · exact .inr ⟨b, o, c, rfl, hc, fun j t hj => (hb.cell (p := ⟨b, o + j, none⟩) (cell_lt (hr j t hj))).trans (hr j t hj)⟩
theorem map_str (ts : List (List UInt8)) : (ts.map str).map (·.data.toList) = ts := by
  rw [List.map_map]
  conv => rhs; rw [← List.map_id ts]
  apply List.map_congr_left
  intro t _
  exact str_data t
theorem JoinLib_any (b o c : Nat) (ts : List (List UInt8)) (sep : ByteArray) (w : World) (hr : ∀ (j : Nat) t, ts[j]? = some t → w.cell? ⟨b, o + j, none⟩ = some (strV t)) (hb : b < w.heap.size) (hc : ts.length ≤ c) (hn : ts.length ≤ 1000000000) (hl : (Lib.join ts sep.data.toList).length ≤ 1000000000) :
    Calls Tryz.prog 47 #[.slice (some ⟨b, o, none⟩) ts.length c, .string sep] w fun e w' => e = .returned (.string (str (Lib.join ts sep.data.toList))) ∧ Below w.heap.size w w' := by
  have h := Tryz.strings_Join b o c (ts.map str) sep w (fun j x hj => by
    rw [List.getElem?_map] at hj
    cases ht : ts[j]? with
    | none => rw [ht] at hj; cases hj
    | some t =>
      rw [ht] at hj
      cases hj
      exact hr j t ht) hb (by rw [List.length_map]; omega) (by rw [List.length_map]; exact hc) (by rw [map_str]; omega)
  rw [List.length_map, map_str] at h
  exact h
set_option maxHeartbeats 400000 in
theorem Join_any (sep : ByteArray) (v : Value) (ts : List (List UInt8)) (w : World) (hv : ReadsTexts w v ts) (hn : ts.length ≤ 1000000000) (hl : (Lib.join ts sep.data.toList).length ≤ 1000000000) :
    Calls Tryz.prog 28 #[.string sep, v] w fun e w' => e = .returned (.string (str (Lib.join ts sep.data.toList))) ∧ Below w.heap.size w w' := by
  rcases hv with ⟨a, c, rfl, rfl⟩ | ⟨b, o, c, rfl, hc, hr⟩
  · go_enter Tryz.func28, Tryz.ntmps28
    go_wp2_with (first
      | (go_at_call 47; refine (Tryz.strings_Join_none a c sep w).mono ?_; rintro e w1 ⟨rfl, hw⟩; rw [hw]; clear hw))
    go_ret
    exact ⟨rfl, Below.refl _ _⟩
  · by_cases hz : ts = []
    · subst hz
      go_enter Tryz.func28, Tryz.ntmps28
      go_wp2_with (first
        | (go_at_call 47; refine (Tryz.strings_Join_none (some ⟨b, o, none⟩) c sep w).mono ?_; rintro e w1 ⟨rfl, hw⟩; rw [hw]; clear hw))
      go_ret
      exact ⟨rfl, Below.refl _ _⟩
    · have hb : b < w.heap.size := by
        cases ts with
        | nil => exact absurd rfl hz
        | cons t r => exact cell_lt (hr 0 t rfl)
      have HR : Hid (∀ (j : Nat) t, ts[j]? = some t → w.cell? ⟨b, o + j, none⟩ = some (strV t)) := hr
      clear hr
      go_enter Tryz.func28, Tryz.ntmps28
      go_wp2_with (first
        | (go_at_call 47; refine (JoinLib_any b o c ts sep w HR.out hb hc hn hl).mono ?_; rintro e w1 ⟨rfl, hb1⟩))
      go_ret
      exact ⟨rfl, hb1⟩
end Go.Proofs.YtnklbeldheocmaaGreatDoor
