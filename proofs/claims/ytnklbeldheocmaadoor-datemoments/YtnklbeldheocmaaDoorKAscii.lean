/- Texts laid as one. -/
import Derived.Test.YtnklbeldheocmaaDoorKGround
import Derived.Laws.IdiomStrings
import Derived.Laws.OwnMore
import Derived.Test.YtnklbeldheocmaaDoorKMath
import Derived.Test.YtnklbeldheocmaaDoorKShelf
import Derived.Lib.ItoaLen
import Derived.Lib.LaidTab
import Derived.Lib.ItoaNum
import Derived.PlainAid
import Derived.Laws.BytesArg
import Derived.Lib.Repeat
/- Contracts of Lower, the program's and the reference's. -/
namespace Go.Proofs.YtnklbeldheocmaaDoor
open Go.RowKit
theorem OwnsBytes.of {w : World} {B : Nat} {v : Value} {l m : List UInt8} {c : UInt8} {x : Int} (h : m = l ++ [c]) (hx : x = (c.toNat : Int)) (ho : w.ownsRow B 5 1 v (l.length + 1) (cellsB l ++ [.int .u8 x])) : OwnsBytes w B v m := by
  subst h; subst hx
  unfold OwnsBytes cellsB at *
  simpa using ho
theorem made_cells (n : Nat) : (madeCells (Value.int .u8 0).cells (n * 1)).toList = cellsB (List.replicate n 0) := by
  unfold madeCells cellsB
  rw [Nat.mul_one, List.map_replicate]
  apply List.ext_getElem
  · simp
  · intro i h1 h2
    simp [Value.cells, Nat.mod_one]
theorem set_next (a : List UInt8) (c : UInt8) (m : Nat) : (cellsB (a ++ List.replicate (m + 1) 0)).set a.length (.int .u8 c.toNat) = cellsB (a ++ [c] ++ List.replicate m 0) := by
  unfold cellsB
  rw [List.map_append, List.set_append_right _ _ (by simp)]
  simp [List.replicate_succ]
theorem cell_next (a : List UInt8) (m : Nat) : (cellsB (a ++ List.replicate (m + 1) 0))[a.length]? = some (.int .u8 0) := by
  unfold cellsB
  rw [List.map_append, List.getElem?_append_right (by simp)]
  simp [List.replicate_succ]
/-- What lies in the row behind k rounds. -/
def lowTo (s : ByteArray) (k : Nat) : List UInt8 := Asc.lower (s.data.toList.take k) ++ List.replicate (s.size - k) 0
theorem lower_len (s : ByteArray) (k : Nat) (h : k ≤ s.size) : (Asc.lower (s.data.toList.take k)).length = k := by
  unfold Asc.lower
  rw [List.length_map, List.length_take, ← size_data]
  omega
theorem lowTo_next (s : ByteArray) (k : Nat) (h : k < s.size) : (cellsB (lowTo s k)).set k (.int .u8 (Asc.lowerC s[k]).toNat) = cellsB (lowTo s (k + 1)) := by
  have e := set_next (Asc.lower (s.data.toList.take k)) (Asc.lowerC s[k]) (s.size - (k + 1))
  rw [lower_len s k (by omega), show s.size - (k + 1) + 1 = s.size - k from by omega] at e
  unfold lowTo
  rw [e, List.take_succ_eq_append_getElem (show k < s.data.toList.length from by rw [← size_data]; exact h), Asc.lower_snoc]
  rfl
theorem lowTo_cell (s : ByteArray) (k : Nat) (h : k < s.size) : (cellsB (lowTo s k))[k]? = some (.int .u8 0) := by
  have e := cell_next (Asc.lower (s.data.toList.take k)) (s.size - (k + 1))
  rw [lower_len s k (by omega), show s.size - (k + 1) + 1 = s.size - k from by omega] at e
  exact e
theorem lowTo_len (s : ByteArray) (k : Nat) (h : k ≤ s.size) : (lowTo s k).length = s.size := by
  unfold lowTo
  rw [List.length_append, lower_len s k h, List.length_replicate]
  omega
theorem lowTo_end (s : ByteArray) (k : Nat) (h : k ≤ s.size) (h2 : ¬ k < s.size) : lowTo s k = Asc.lower s.data.toList := by
  unfold lowTo
  rw [take_all s k (by omega), show s.size - k = 0 from by omega]
  simp
end Go.Proofs.YtnklbeldheocmaaDoor
/- Contracts of Number, the program's and the reference's. -/
namespace Go.Proofs.YtnklbeldheocmaaDoor
open Go.RowKit
theorem IsDigit_any (c : UInt8) (w : World) :
    Calls Tryd.prog 85 #[.int .u8 c.toNat] w fun e w' => e = .returned (.bool (Asc.isDig (Asc.bt c))) ∧ w' = w := IsDigit_n _ _
theorem RIsDigit_any (c : UInt8) (w : World) :
    Calls Tryd.prog 30 #[.int .u8 c.toNat] w fun e w' => e = .returned (.bool (Asc.isDig (Asc.bt c))) ∧ w' = w := RIsDigit_n _ _
set_option maxHeartbeats 400000 in
theorem isNumber_any (s : ByteArray) (w : World) (hs : s.size ≤ 1000000000) :
    Calls Tryd.prog 75 #[.string s] w fun e w' => e = .returned (.bool (Asc.digForm s.data.toList)) ∧ w' = w := by
  go_enter Tryd.func75, Tryd.ntmps75
  go_wp2
  go_loop [6] (fun i => ∃ k : Nat, k ≤ s.size ∧ i = .int .i64 k ∧ Hid (Asc.allDig (s.data.toList.take k) = true)) (fun i => s.size - (intOf i).toNat)
  case atStart => exact ⟨0, Nat.zero_le _, rfl, rfl⟩
  case round =>
    obtain ⟨k, hk, rfl, HE⟩ := hrel
    by_cases hlt : k < s.size
    · cases hx : Asc.isDig (Asc.bt s[k])
      · have HN : Hid (Asc.digForm s.data.toList = false) := by
          show _ = _
          unfold Asc.digForm
          rw [Asc.allDig_not s.data.toList k hlt hx]
          rfl
        go_wp2_with (first
          | (go_at_call 85; refine (IsDigit_any _ _).mono ?_; rintro e w1 ⟨rfl, hw⟩; rw [hw]; clear hw))
        go_ret
        exact ⟨ret_bool HN.out.symm, rfl⟩
      · have HN : Hid (Asc.allDig (s.data.toList.take (k + 1)) = true) := by
          show _ = _
          rw [Asc.allDig_take s.data.toList k hlt, HE.out, Bool.true_and]
          exact hx
        go_wp2_with (first
          | (go_at_call 85; refine (IsDigit_any _ _).mono ?_; rintro e w1 ⟨rfl, hw⟩; rw [hw]; clear hw))
        go_round
        case rel => exact ⟨k + 1, by omega, by go_num, HN⟩
        case measure => simp [intOf]; omega
    · have HN : Hid (Asc.allDig s.data.toList = true) := by
        have := HE.out
        rwa [take_all s k (by omega)] at this
      go_wp2
      go_ret
      exact ⟨ret_bool (by unfold Asc.digForm; rw [HN.out, ByteArray.toList_eq]; rfl), rfl⟩
set_option maxHeartbeats 1000000 in
theorem Number_any (s : ByteArray) (most : Int) (w : World) (hs : s.size ≤ 1000000000) (hm1 : most ≤ 9223372036854775807) :
    Calls Tryd.prog 63 #[.string s, .int .i64 most] w fun e w' => e = .returned (.tuple #[.int .i64 (Asc.numNum s.data.toList most), .int .i64 (Asc.numErr s.data.toList most)]) ∧ w' = w := by
  cases hx : (Asc.digForm s.data.toList)
  · have HN : Hid (Asc.numNum s.data.toList most = 0 ∧ Asc.numErr s.data.toList most = 3) := Asc.num_form _ _ hx
    go_enter Tryd.func63, Tryd.ntmps63
    go_wp2_with (first
      | (go_at_call 75; refine (isNumber_any s _ hs).mono ?_; rintro e w1 ⟨rfl, hw⟩; rw [hw]; clear hw))
    go_ret2
    exact ⟨ret_pair (by rw [HN.out.1]; rfl) (by rw [HN.out.2]; rfl), rfl⟩
  · by_cases hm : most < 0
    · have HN : Hid (Asc.numNum s.data.toList most = 0 ∧ Asc.numErr s.data.toList most = 5) := Asc.num_neg _ _ hx hm
      go_enter Tryd.func63, Tryd.ntmps63
      go_wp2_with (first
        | (go_at_call 75; refine (isNumber_any s _ hs).mono ?_; rintro e w1 ⟨rfl, hw⟩; rw [hw]; clear hw))
      go_ret2
      exact ⟨ret_pair (by rw [HN.out.1]; rfl) (by rw [HN.out.2]; rfl), rfl⟩
    · have hm0 : 0 ≤ most := by omega
      have HX : Hid (Asc.digForm s.data.toList = true) := hx
      clear hm
      go_enter Tryd.func63, Tryd.ntmps63
      go_wp2_with (first
        | (go_at_call 75; refine (isNumber_any s _ hs).mono ?_; rintro e w1 ⟨rfl, hw⟩; rw [hw]; clear hw))
      clear hx
      go_loop [6, 16] (fun m i => ∃ (k : Nat) (n : Int), k ≤ s.size ∧ i = .int .i64 k ∧ m = .int .i64 n ∧ 0 ≤ n ∧ n ≤ most ∧ Hid (Asc.numFold most n (s.data.toList.drop k) = Asc.numFold most 0 s.data.toList)) (fun _ i => s.size - (intOf i).toNat)
      case atStart => exact ⟨0, 0, Nat.zero_le _, rfl, rfl, by omega, hm0, rfl⟩
      case round =>
        obtain ⟨k, n, hk, rfl, rfl, hn0, hn1, HE⟩ := hrel
        by_cases hlt : k < s.size
        · have hd := Asc.allDig_at s.data.toList k hlt (Asc.digForm_all _ HX.out)
          have hd0 : (48 : Int) ≤ (s[k].toNat : Int) := hd.1
          have hd1 : (s[k].toNat : Int) ≤ 57 := hd.2
          clear hd
          have HS : Hid (most < n * 10 + ((s[k].toNat : Int) - 48) → Asc.numNum s.data.toList most = 0 ∧ Asc.numErr s.data.toList most = 5) := fun h => Asc.num_many _ most HX.out hm0 (by rw [← HE.out]; exact Asc.numFold_stop most _ k n hlt h)
          have HN : Hid (¬ most < n * 10 + ((s[k].toNat : Int) - 48) → Asc.numFold most (n * 10 + ((s[k].toNat : Int) - 48)) (s.data.toList.drop (k + 1)) = Asc.numFold most 0 s.data.toList) := fun h => by
            rw [← HE.out]
            exact (Asc.numFold_next most _ k n hlt h).symm
          rcases (show most / 10 < n ∨ n < most / 10 ∨ n = most / 10 from by omega) with hc | hc | hc
          · go_wp2
            go_ret2
            have h := HS.out (by omega)
            exact ⟨ret_pair (by rw [h.1]; rfl) (by rw [h.2]; rfl), rfl⟩
          · have hq : (n == most / 10) = false := by rw [beq_eq_false_iff_ne]; omega
            go_wp2
            go_round
            case rel => exact ⟨k + 1, n * 10 + ((s[k].toNat : Int) - 48), by omega, by go_num, rfl, by omega, by omega, HN.out (by omega)⟩
            case measure => simp [intOf]; omega
          · have hq : (n == most / 10) = true := by rw [beq_iff_eq]; exact hc
            have HQ : Hid (n = most / 10) := hc
            have hn9 : n * 10 ≤ most := by omega
            clear hc
            by_cases hr : most % 10 < (s[k].toNat : Int) - 48
            · go_wp2
              go_ret2
              have h := HS.out (by have := HQ.out; omega)
              exact ⟨ret_pair (by rw [h.1]; rfl) (by rw [h.2]; rfl), rfl⟩
            · have hn8 : n * 10 + ((s[k].toNat : Int) - 48) ≤ most := by have := HQ.out; omega
              go_wp2
              go_round
              case rel => exact ⟨k + 1, n * 10 + ((s[k].toNat : Int) - 48), by omega, by go_num, rfl, by omega, by omega, HN.out (by omega)⟩
              case measure => simp [intOf]; omega
        · have HN : Hid (Asc.numNum s.data.toList most = n ∧ Asc.numErr s.data.toList most = 0) := Asc.num_ok _ most n HX.out hm0 (by rw [← HE.out]; exact Asc.numFold_end most _ k n (by simpa using Nat.le_of_not_lt hlt))
          go_wp2
          go_ret2
          exact ⟨ret_pair (by rw [HN.out.1]; rfl) (by rw [HN.out.2]; rfl), rfl⟩
theorem digForm_empty (s : ByteArray) (h : s.size = 0) : Asc.digForm s.data.toList = false := by
  have := empty_yes s h
  rw [ByteArray.toList_eq] at this
  unfold Asc.digForm
  rw [this]
  simp
theorem digForm_yes (s : ByteArray) (h : ¬ s.size = 0) (ha : Asc.allDig s.data.toList = true) : Asc.digForm s.data.toList = true := by
  have := empty_no s h
  rw [ByteArray.toList_eq] at this
  unfold Asc.digForm
  rw [this, ha]
  rfl
theorem tdiv_form (most : Int) (h : most < 0) : most.tdiv 10 = -((-most) / 10) := by
  have e : most = -(-most) := by omega
  conv => lhs; rw [e]
  rw [Int.neg_tdiv, Int.tdiv_eq_ediv_of_nonneg (by omega)]
theorem tdiv_low (most : Int) (h0 : -9223372036854775808 ≤ most) (h : most ≤ -10) : -9223372036854775808 ≤ most.tdiv 10 ∧ most.tdiv 10 < 0 := by
  rw [tdiv_form most (by omega)]
  omega
theorem tdiv_zero (most : Int) (h : most < 0) (h2 : -10 < most) : most.tdiv 10 = 0 := by
  rw [tdiv_form most h]
  omega
theorem tmod_same (most : Int) (h : most < 0) (h2 : -10 < most) : most.tmod 10 = most := by
  have := Int.tmod_add_tdiv_mul most 10
  rw [tdiv_zero most h h2] at this
  omega
set_option maxHeartbeats 1000000 in
theorem RNumber_any (s : ByteArray) (most : Int) (w : World) (hs : s.size ≤ 1000000000) (hm2 : -9223372036854775808 ≤ most) (hm1 : most ≤ 9223372036854775807) :
    Calls Tryd.prog 47 #[.string s, .int .i64 most] w fun e w' => e = .returned (.tuple #[.int .i64 (Asc.numNum s.data.toList most), .int .i64 (Asc.numErr s.data.toList most)]) ∧ w' = w := by
  go_enter Tryd.func47, Tryd.ntmps47
  go_wp2
  go_loop [6] (fun i => ∃ k : Nat, k ≤ s.size ∧ i = .int .i64 k ∧ Hid (Asc.allDig (s.data.toList.take k) = true)) (fun i => s.size - (intOf i).toNat)
  case atStart => exact ⟨0, Nat.zero_le _, rfl, rfl⟩
  case round =>
    obtain ⟨k, hk, rfl, HE⟩ := hrel
    by_cases hlt : k < s.size
    · cases hx : Asc.isDig (Asc.bt s[k])
      · have HN : Hid (Asc.numNum s.data.toList most = 0 ∧ Asc.numErr s.data.toList most = 3) := Asc.num_form _ _ (by
          unfold Asc.digForm
          rw [Asc.allDig_not s.data.toList k hlt hx]
          rfl)
        go_wp2_with (first
          | (go_at_call 30; refine (RIsDigit_any _ _).mono ?_; rintro e w1 ⟨rfl, hw⟩; rw [hw]; clear hw))
        go_ret2
        exact ⟨ret_pair (by rw [HN.out.1]; rfl) (by rw [HN.out.2]; rfl), rfl⟩
      · have HN : Hid (Asc.allDig (s.data.toList.take (k + 1)) = true) := by
          show _ = _
          rw [Asc.allDig_take s.data.toList k hlt, HE.out, Bool.true_and]
          exact hx
        go_wp2_with (first
          | (go_at_call 30; refine (RIsDigit_any _ _).mono ?_; rintro e w1 ⟨rfl, hw⟩; rw [hw]; clear hw))
        go_round
        case rel => exact ⟨k + 1, by omega, by go_num, HN⟩
        case measure => simp [intOf]; omega
    · have HA : Hid (Asc.allDig s.data.toList = true) := by
        have := HE.out
        rwa [take_all s k (by omega)] at this
      by_cases hz : s.size = 0
      · have HN : Hid (Asc.numNum s.data.toList most = 0 ∧ Asc.numErr s.data.toList most = 3) := Asc.num_form _ _ (digForm_empty s hz)
        have he := empty_yes s hz
        clear hz
        go_wp2
        go_ret2
        exact ⟨ret_pair (by rw [HN.out.1]; rfl) (by rw [HN.out.2]; rfl), rfl⟩
      · have HX : Hid (Asc.digForm s.data.toList = true) := digForm_yes s hz HA.out
        have he := empty_no s hz
        have hpos : 0 < s.size := by omega
        clear hz
        by_cases hm : most < 0
        · have HN : Hid (Asc.numNum s.data.toList most = 0 ∧ Asc.numErr s.data.toList most = 5) := Asc.num_neg _ _ HX.out hm
          go_wp2
          go_loop [7, 8] (fun m i => m = .int .i64 0 ∧ i = .int .i64 0) (fun _ _ => 0)
          case atStart => exact ⟨rfl, rfl⟩
          case round =>
            obtain ⟨rfl, rfl⟩ := hrel
            have hd := Asc.allDig_at s.data.toList 0 hpos (Asc.digForm_all _ HX.out)
            have hd0 : (48 : Int) ≤ (s[0].toNat : Int) := hd.1
            have hd1 : (s[0].toNat : Int) ≤ 57 := hd.2
            clear hd
            by_cases h10 : most ≤ -10
            · have hq := tdiv_low most hm2 h10
              obtain ⟨hq0, hq1⟩ := hq
              go_wp2
              go_ret2
              exact ⟨ret_pair (by rw [HN.out.1]; rfl) (by rw [HN.out.2]; rfl), rfl⟩
            · have hq0 := tdiv_zero most hm (by omega)
              have hq1 := tmod_same most hm (by omega)
              go_wp2
              go_ret2
              exact ⟨ret_pair (by rw [HN.out.1]; rfl) (by rw [HN.out.2]; rfl), rfl⟩
        · have hm0 : 0 ≤ most := by omega
          clear hm
          go_wp2
          go_loop [7, 8] (fun m i => ∃ (k : Nat) (n : Int), k ≤ s.size ∧ i = .int .i64 k ∧ m = .int .i64 n ∧ 0 ≤ n ∧ n ≤ most ∧ Hid (Asc.numFold most n (s.data.toList.drop k) = Asc.numFold most 0 s.data.toList)) (fun _ i => s.size - (intOf i).toNat)
          case atStart => exact ⟨0, 0, Nat.zero_le _, rfl, rfl, by omega, hm0, rfl⟩
          case round =>
            clear HE hlt hk
            obtain ⟨j, n, hk, rfl, rfl, hn0, hn1, HE⟩ := hrel
            by_cases hlt : j < s.size
            · have hd := Asc.allDig_at s.data.toList j hlt (Asc.digForm_all _ HX.out)
              have hd0 : (48 : Int) ≤ (s[j].toNat : Int) := hd.1
              have hd1 : (s[j].toNat : Int) ≤ 57 := hd.2
              clear hd
              have HS : Hid (most < n * 10 + ((s[j].toNat : Int) - 48) → Asc.numNum s.data.toList most = 0 ∧ Asc.numErr s.data.toList most = 5) := fun h => Asc.num_many _ most HX.out hm0 (by rw [← HE.out]; exact Asc.numFold_stop most _ j n hlt h)
              have HN : Hid (¬ most < n * 10 + ((s[j].toNat : Int) - 48) → Asc.numFold most (n * 10 + ((s[j].toNat : Int) - 48)) (s.data.toList.drop (j + 1)) = Asc.numFold most 0 s.data.toList) := fun h => by
                rw [← HE.out]
                exact (Asc.numFold_next most _ j n hlt h).symm
              rcases (show most / 10 < n ∨ n < most / 10 ∨ n = most / 10 from by omega) with hc | hc | hc
              · go_wp2
                go_ret2
                have h := HS.out (by omega)
                exact ⟨ret_pair (by rw [h.1]; rfl) (by rw [h.2]; rfl), rfl⟩
              · have hq : (n == most / 10) = false := by rw [beq_eq_false_iff_ne]; omega
                go_wp2
                go_round
                case rel => exact ⟨j + 1, n * 10 + ((s[j].toNat : Int) - 48), by omega, by go_num, rfl, by omega, by omega, HN.out (by omega)⟩
                case measure => simp [intOf]; omega
              · have hq : (n == most / 10) = true := by rw [beq_iff_eq]; exact hc
                have HQ : Hid (n = most / 10) := hc
                have hn9 : n * 10 ≤ most := by omega
                clear hc
                by_cases hr : most % 10 < (s[j].toNat : Int) - 48
                · go_wp2
                  go_ret2
                  have h := HS.out (by have := HQ.out; omega)
                  exact ⟨ret_pair (by rw [h.1]; rfl) (by rw [h.2]; rfl), rfl⟩
                · have hn8 : n * 10 + ((s[j].toNat : Int) - 48) ≤ most := by have := HQ.out; omega
                  go_wp2
                  go_round
                  case rel => exact ⟨j + 1, n * 10 + ((s[j].toNat : Int) - 48), by omega, by go_num, rfl, by omega, by omega, HN.out (by omega)⟩
                  case measure => simp [intOf]; omega
            · have HN : Hid (Asc.numNum s.data.toList most = n ∧ Asc.numErr s.data.toList most = 0) := Asc.num_ok _ most n HX.out hm0 (by rw [← HE.out]; exact Asc.numFold_end most _ j n (by simpa using Nat.le_of_not_lt hlt))
              go_wp2
              go_ret2
              exact ⟨ret_pair (by rw [HN.out.1]; rfl) (by rw [HN.out.2]; rfl), rfl⟩
end Go.Proofs.YtnklbeldheocmaaDoor
/- Contracts of Text, the program's and the reference's. -/
namespace Go.Proofs.YtnklbeldheocmaaDoor
open Go.RowKit
theorem gPow : Tryd.prog.globalNamed "internal/strconv.uint64pow10" = some 2 := by kernel_rfl
theorem tPow : (Tryd.prog.globals[2]?).map (·.type) = some 133 := by kernel_rfl
/-- What the walks are told of strconv's table of powers of ten. -/
def Pow (w : World) : Prop := Lib.TabIs Tryd.prog w "internal/strconv.uint64pow10" .u64 Lib.pow10Tab
theorem Pow.lt {w : World} (h : Pow w) : 2 < w.heap.size := by
  have := Lib.TabIs.cell h gPow 0 (by decide)
  unfold World.cell? at this
  simp at this
  by_cases hs : 2 < w.heap.size
  · exact hs
  · rw [Array.getElem?_eq_none (by omega)] at this
    simp at this
theorem Pow.below {w w' : World} (h : Pow w) (hb : Below w.heap.size w w') : Pow w' := var?_below hb gPow h.lt h
def txt (n : Int) : ByteArray := ⟨(Lib.itoa n).toArray⟩
theorem txt_size (n : Int) : (txt n).size = (Lib.itoa n).length := by simp [txt, ByteArray.size]
theorem below_grow {w : World} (k : Nat) (os : Array Obj) : Below w.heap.size w (Go.Sort.grow (w.drewN k) os) := by
  refine ⟨rfl, rfl, rfl, ?_, ?_⟩
  · simp [Go.Sort.grow]
  · intro j hj
    show (w.heap ++ os)[j]? = _
    rw [Array.getElem?_append_left hj]
set_option maxHeartbeats 400000 in
theorem Text_any (n : Int) (w : World) (h0 : -9223372036854775808 ≤ n) (h1 : n ≤ 9223372036854775807) (hT : Pow w) :
    Calls Tryd.prog 49 #[.int .i64 n] w fun e w' => e = .returned (.string (txt n)) ∧ Below w.heap.size w w' := by
  go_enter Tryd.func49, Tryd.ntmps49
  go_wp2_with (first
    | (go_at_call 59; refine (Tryd.strconv_FormatInt_10 n h0 h1 w hT).mono ?_; rintro e w1 ⟨rfl, k, os, rfl⟩))
  go_ret
  exact ⟨rfl, below_grow k os⟩
/-- The document's Pad: the digits, zeros ahead of them up to the size (20 at most), the sign ahead of all. -/
def padL (n size : Int) : List UInt8 :=
  (if n < 0 then [45] else []) ++ (List.replicate (min size 20 - ((Lib.decDigits n.natAbs).length : Int)).toNat 48 ++ Lib.decDigits n.natAbs)
theorem str_of {b : ByteArray} {l : List UInt8} (h : b.data.toList = l) : Value.string b = strV l := by rw [← h, strV_data]
theorem ret_str {b : ByteArray} {l : List UInt8} (h : b.data.toList = l) : Ending.returned (.string b) = .returned (strV l) := by rw [str_of h]
theorem txt_data (n : Int) : (txt n).data.toList = Lib.itoa n := by simp [txt]
theorem itoa_neg' (n : Int) (h : n < 0) : Lib.itoa n = 45 :: Lib.decDigits n.natAbs := by rw [Lib.itoa, if_pos h]
theorem itoa_pos' (n : Int) (h : 0 ≤ n) : Lib.itoa n = Lib.decDigits n.natAbs := by
  rw [Lib.itoa, if_neg (by omega)]
  congr 1
  omega
/-- The text of one byte. -/
def one (n : Int) : ByteArray := strOfNums [n]
theorem one_size (n : Int) : (one n).size = 1 := by unfold one; rw [strOfNums_size]; rfl
theorem one_data (n : Int) : (one n).data.toList = [UInt8.ofNat n.toNat] := rfl
theorem conv_one (W : World) (n : Int) : (convert 91 9 (.slice (some ⟨W.heap.size, 0, none⟩) 1 1)).run Tryd.prog (W.alloc (.cells #[.int .u8 n] 5)) = .ok (.string (one n)) (W.alloc (.cells #[.int .u8 n] 5)) :=
  run_convert_bytes_arg (P := Tryd.prog) (W.alloc (.cells #[.int .u8 n] 5)) 91 5 Tryd.underlying91 Tryd.underlying5 W.heap.size 0 1 1 [n] rfl (fun i hi => by
    have : i = 0 := by omega
    subst this
    simp) 9 Tryd.underlying9
theorem one_digit (m : Nat) : (one (48 + ↑m % 10)).data.toList = [UInt8.ofNat (48 + m % 10)] := by
  rw [one_data, show (48 + (m : Int) % 10).toNat = 48 + m % 10 from by omega]
theorem dec_small (m : Nat) (h : m < 10) : Lib.decDigits m = (one (48 + ↑m % 10)).data.toList := by
  rw [Lib.decDigits, dif_pos h, one_digit, Nat.mod_eq_of_lt h]
theorem dec_big (m : Nat) (h : ¬ m < 10) : Lib.decDigits m = Lib.decDigits (m / 10) ++ (one (48 + ↑m % 10)).data.toList := by
  rw [Lib.decDigits, dif_neg h, one_digit]
set_option maxHeartbeats 400000 in
theorem Rdigits_any (u : Nat) (w : World) (hu : u < 18446744073709551616) :
    Calls Tryd.prog 51 #[.int .u64 u] w fun e w' => e = .returned (strV (Lib.decDigits u)) ∧ Below w.heap.size w w' := by
  have hu20 := Lib.nDigits_le20 u (by omega)
  go_enter Tryd.func51, Tryd.ntmps51
  go_wp2
  go_loopw [0, 3] (fun n s wr => ∃ (m : Nat) (b : ByteArray), m < 18446744073709551616 ∧ n = .int .u64 m ∧ s = .string b ∧ b.size ≤ 20 ∧ Hid (Lib.decDigits m ++ b.data.toList = Lib.decDigits u) ∧ Below w.heap.size w wr) (fun n _ _ => (intOf n).toNat)
  case atStart => exact ⟨u, ⟨#[]⟩, hu, rfl, rfl, by decide, by show _ = _; simp, Below.refl _ _⟩
  case round =>
    obtain ⟨m, b, hm, rfl, rfl, hbs, HE, hbel⟩ := hrel
    have hconv := conv_one wr (48 + ↑m % 10)
    have h1 := one_size (48 + ↑m % 10)
    have h1' : (one (48 + ↑m % 10)).size ≤ 1 := by omega
    clear h1
    by_cases h10 : m < 10
    · have hq : ((↑m / 10 : Int) == 0) = true := by rw [beq_iff_eq]; omega
      have HF : Hid ((one (48 + ↑m % 10) ++ b).data.toList = Lib.decDigits u) := by
        show _ = _
        rw [← HE.out, dec_small m h10, ByteArray.data_append, Array.toList_append]
      go_wp2
      go_ret
      exact ⟨ret_str HF.out, hbel.alloc hbel.size _⟩
    · have hq : ((↑m / 10 : Int) == 0) = false := by rw [beq_eq_false_iff_ne]; omega
      have HF : Hid (Lib.decDigits (m / 10) ++ (one (48 + ↑m % 10) ++ b).data.toList = Lib.decDigits u) := by
        show _ = _
        rw [← HE.out, dec_big m h10, ByteArray.data_append, Array.toList_append, List.append_assoc]
      have HS : Hid ((one (48 + ↑m % 10) ++ b).size ≤ 20) := by
        show _ ≤ _
        have := congrArg List.length HF.out
        rw [List.length_append, Lib.decDigits_length, Lib.decDigits_length] at this
        have h2 := size_data (one (48 + ↑m % 10) ++ b)
        omega
      go_wp2
      go_roundw
      case rel => exact ⟨m / 10, _, by omega, by go_num, rfl, HS.out, HF, hbel.alloc hbel.size _⟩
      case measure => simp [intOf]; omega
theorem Rdigits_int (x : Int) (w : World) (h0 : 0 ≤ x) (h1 : x < 18446744073709551616) :
    Calls Tryd.prog 51 #[.int .u64 x] w fun e w' => e = .returned (strV (Lib.decDigits x.toNat)) ∧ Below w.heap.size w w' := by
  obtain ⟨u, rfl⟩ := Int.eq_ofNat_of_zero_le h0
  exact Rdigits_any u w (by omega)
def strOf : Value → ByteArray
  | .string b => b
  | _ => ⟨#[]⟩
set_option maxHeartbeats 400000 in
theorem RPad_neg (n size : Int) (w : World) (h0 : -9223372036854775808 ≤ n) (h1 : n < 0) :
    Calls Tryd.prog 38 #[.int .i64 n, .int .i64 size] w fun e w' => e = .returned (strV (padL n size)) ∧ Below w.heap.size w w' := by
  have hd20 := Lib.nDigits_le20 n.natAbs (by omega)
  rw [← Lib.decDigits_length] at hd20
  have HP : Hid (padL n size = [45] ++ (List.replicate (min size 20 - ((Lib.decDigits n.natAbs).length : Int)).toNat 48 ++ Lib.decDigits n.natAbs)) := by
    show _ = _
    unfold padL
    rw [if_pos h1]
  go_enter Tryd.func38, Tryd.ntmps38
  go_wp2_with (first
    | (go_at_call 51; refine (Rdigits_int _ _ (by omega) (by omega)).mono ?_; rintro e w1 ⟨rfl, hb⟩))
  go_loop [6] (fun d => ∃ (b : ByteArray) (j : Nat), d = .string b ∧ b.size ≤ 20 ∧ j ≤ (min size 20 - ((Lib.decDigits n.natAbs).length : Int)).toNat ∧ Hid (b.data.toList = List.replicate j 48 ++ Lib.decDigits n.natAbs)) (fun d => 20 - (strOf d).size)
  case atStart => exact ⟨_, 0, by show strV _ = _; rw [show (-(n + 1) + 1).toNat = n.natAbs from by omega]; rfl, by rw [str_size]; exact hd20, Nat.zero_le _, str_data _⟩
  case round =>
    obtain ⟨b, j, rfl, hbs, hj, HB⟩ := hrel
    have hsz : b.size = j + (Lib.decDigits n.natAbs).length := by
      have := congrArg List.length HB.out
      rw [List.length_append, List.length_replicate, ← size_data] at this
      exact this
    have HZ : Hid (b.size = j + (Lib.decDigits n.natAbs).length) := hsz
    clear hsz
    by_cases hlt : (b.size : Int) < min size 20
    · have HN : Hid (({ data := #[48] } ++ b : ByteArray).data.toList = List.replicate (j + 1) 48 ++ Lib.decDigits n.natAbs) := by
        show _ = _
        rw [ByteArray.data_append, Array.toList_append, HB.out]
        rfl
      have HS : Hid (({ data := #[48] } ++ b : ByteArray).size = b.size + 1) := by
        show _ = _
        rw [size_data, HN.out, List.length_append, List.length_replicate, HZ.out]
        omega
      go_wp2
      go_round
      case rel => exact ⟨_, j + 1, rfl, by have := HS.out; omega, by have := HZ.out; omega, HN⟩
      case measure =>
        have := HS.out
        show 20 - ({ data := #[48] } ++ b : ByteArray).size < 20 - b.size
        omega
    · have HF : Hid (({ data := #[45] } ++ b : ByteArray).data.toList = padL n size) := by
        show _ = _
        have hz := HZ.out
        rw [HP.out, show (min size 20 - ((Lib.decDigits n.natAbs).length : Int)).toNat = j from by omega, ← HB.out]
        rw [ByteArray.data_append, Array.toList_append]
      go_wp2
      go_ret
      exact ⟨ret_str HF.out, hb⟩
set_option maxHeartbeats 400000 in
theorem RPad_pos (n size : Int) (w : World) (h0 : 0 ≤ n) (h1 : n ≤ 9223372036854775807) :
    Calls Tryd.prog 38 #[.int .i64 n, .int .i64 size] w fun e w' => e = .returned (strV (padL n size)) ∧ Below w.heap.size w w' := by
  have hd20 := Lib.nDigits_le20 n.natAbs (by omega)
  rw [← Lib.decDigits_length] at hd20
  have HP : Hid (padL n size = [] ++ (List.replicate (min size 20 - ((Lib.decDigits n.natAbs).length : Int)).toNat 48 ++ Lib.decDigits n.natAbs)) := by
    show _ = _
    unfold padL
    rw [if_neg (by omega)]
  go_enter Tryd.func38, Tryd.ntmps38
  go_wp2_with (first
    | (go_at_call 51; refine (Rdigits_int _ _ (by omega) (by omega)).mono ?_; rintro e w1 ⟨rfl, hb⟩))
  go_loop [6] (fun d => ∃ (b : ByteArray) (j : Nat), d = .string b ∧ b.size ≤ 20 ∧ j ≤ (min size 20 - ((Lib.decDigits n.natAbs).length : Int)).toNat ∧ Hid (b.data.toList = List.replicate j 48 ++ Lib.decDigits n.natAbs)) (fun d => 20 - (strOf d).size)
  case atStart => exact ⟨_, 0, by show strV _ = _; rw [show n.toNat = n.natAbs from by omega]; rfl, by rw [str_size]; exact hd20, Nat.zero_le _, str_data _⟩
  case round =>
    obtain ⟨b, j, rfl, hbs, hj, HB⟩ := hrel
    have hsz : b.size = j + (Lib.decDigits n.natAbs).length := by
      have := congrArg List.length HB.out
      rw [List.length_append, List.length_replicate, ← size_data] at this
      exact this
    have HZ : Hid (b.size = j + (Lib.decDigits n.natAbs).length) := hsz
    clear hsz
    by_cases hlt : (b.size : Int) < min size 20
    · have HN : Hid (({ data := #[48] } ++ b : ByteArray).data.toList = List.replicate (j + 1) 48 ++ Lib.decDigits n.natAbs) := by
        show _ = _
        rw [ByteArray.data_append, Array.toList_append, HB.out]
        rfl
      have HS : Hid (({ data := #[48] } ++ b : ByteArray).size = b.size + 1) := by
        show _ = _
        rw [size_data, HN.out, List.length_append, List.length_replicate, HZ.out]
        omega
      go_wp2
      go_round
      case rel => exact ⟨_, j + 1, rfl, by have := HS.out; omega, by have := HZ.out; omega, HN⟩
      case measure =>
        have := HS.out
        show 20 - ({ data := #[48] } ++ b : ByteArray).size < 20 - b.size
        omega
    · have HF : Hid ((b).data.toList = padL n size) := by
        show _ = _
        have hz := HZ.out
        rw [HP.out, show (min size 20 - ((Lib.decDigits n.natAbs).length : Int)).toNat = j from by omega, ← HB.out]
        rfl
      go_wp2
      go_ret
      exact ⟨ret_str HF.out, hb⟩
theorem RPad_any (n size : Int) (w : World) (h0 : -9223372036854775808 ≤ n) (h1 : n ≤ 9223372036854775807) :
    Calls Tryd.prog 38 #[.int .i64 n, .int .i64 size] w fun e w' => e = .returned (strV (padL n size)) ∧ Below w.heap.size w w' := by
  by_cases h : n < 0
  · exact RPad_neg n size w h0 h
  · exact RPad_pos n size w (by omega) h1
theorem padL_one (n : Int) : padL n 1 = Lib.itoa n := by
  unfold padL
  have : 1 ≤ (Lib.decDigits n.natAbs).length := by rw [Lib.decDigits_length]; exact Lib.nDigits_pos _
  rw [show (min 1 20 - ((Lib.decDigits n.natAbs).length : Int)).toNat = 0 from by omega]
  by_cases h : n < 0
  · rw [if_pos h, itoa_neg' n h]
    rfl
  · rw [if_neg h, itoa_pos' n (by omega)]
    rfl
end Go.Proofs.YtnklbeldheocmaaDoor
/- Contracts of Trim, the program's and the reference's. -/
namespace Go.Proofs.YtnklbeldheocmaaDoor
open Go.RowKit
theorem RIsBlank_any (c : UInt8) (w : World) :
    Calls Tryd.prog 45 #[.int .u8 c.toNat] w fun e w' => e = .returned (.bool (Asc.isBlank c)) ∧ w' = w := by
  rw [← blankN_byte]
  exact RIsBlank_n _ _
set_option maxHeartbeats 400000 in
theorem Trim_any (s : ByteArray) (w : World) (hs : s.size ≤ 1000000000) :
    Calls Tryd.prog 27 #[.string s] w fun e w' => e = .returned (.string (str (Asc.trim s.data.toList))) ∧ w' = w := by
  go_enter Tryd.func27, Tryd.ntmps27
  go_wp2
  go_loop [3] (fun i => ∃ f : Nat, f ≤ s.size ∧ i = .int .i64 f ∧ Hid (Asc.trimL (s.data.toList.drop f) = Asc.trimL s.data.toList)) (fun i => s.size - (intOf i).toNat)
  case atStart => exact ⟨0, Nat.zero_le _, rfl, rfl⟩
  case round =>
    obtain ⟨f, hf, rfl, HE⟩ := hrel
    by_cases hc : ∃ h : f < s.size, Asc.isBlank s[f] = true
    · obtain ⟨hlt, hb⟩ := hc
      have HN : Hid (Asc.trimL (s.data.toList.drop (f + 1)) = Asc.trimL s.data.toList) := (Asc.trimL_next s.data.toList f hlt hb).trans HE.out
      go_wp2_with (first
        | (go_at_call 39; refine (IsBlank_any _ _).mono ?_; rintro e w1 ⟨rfl, hw⟩; rw [hw]; clear hw))
      go_round
      case rel => exact ⟨f + 1, by omega, by go_num, HN⟩
      case measure => simp [intOf]; omega
    · have HD : Hid (s.data.toList.drop f = Asc.trimL s.data.toList) := by
        show _ = _
        rw [← HE.out]
        by_cases hlt : f < s.size
        · exact (Asc.trimL_stop _ f hlt (by
            rw [Bool.eq_false_iff]
            intro h
            exact hc ⟨hlt, h⟩)).symm
        · exact (Asc.trimL_end _ f (by rw [← size_data]; omega)).symm
      have HX : Hid (f < s.size → ∀ h : f < s.size, Asc.isBlank s[f] = false) := fun _ h => by
        rw [Bool.eq_false_iff]
        intro e
        exact hc ⟨h, e⟩
      clear hc HE
      by_cases hlt : f < s.size
      · have hb := HX.out hlt hlt
        go_wp2_with (first
          | (go_at_call 39; refine (IsBlank_any _ _).mono ?_; rintro e w1 ⟨rfl, hw⟩; rw [hw]; clear hw))
        go_loop [4] (fun i => ∃ t : Nat, f ≤ t ∧ t ≤ s.size ∧ i = .int .i64 t ∧ Hid (Asc.trimR ((s.data.toList.take t).drop f) = Asc.trim s.data.toList)) (fun i => (intOf i).toNat)
        case atStart => exact ⟨s.size, hf, Nat.le_refl _, rfl, by
          show _ = _
          rw [take_all s s.size (Nat.le_refl _), HD.out]
          rfl⟩
        case round =>
          obtain ⟨t, hft, ht, rfl, HT⟩ := hrel
          by_cases hft2 : f < t
          · obtain ⟨j, rfl⟩ : ∃ j, t = j + 1 := ⟨t - 1, by omega⟩
            have hj : j < s.size := by omega
            have hj2 : (j : Int) < (s.size : Int) := by omega
            cases hb2 : Asc.isBlank s[j]
            · have HN : Hid ((s.extract f (j + 1)).data.toList = Asc.trim s.data.toList) := by
                show _ = _
                rw [data_cut, ← HT.out]
                exact (Asc.trimR_done s.data.toList f j hj (by omega) hb2).symm
              go_wp2_with (first
                | (go_at_call 39; refine (IsBlank_any _ _).mono ?_; rintro e w1 ⟨rfl, hw⟩; rw [hw]; clear hw))
              go_ret
              exact ⟨ret_text HN.out, rfl⟩
            · have HN : Hid (Asc.trimR ((s.data.toList.take j).drop f) = Asc.trim s.data.toList) := (Asc.trimR_next s.data.toList f j hj (by omega) hb2).trans HT.out
              go_wp2_with (first
                | (go_at_call 39; refine (IsBlank_any _ _).mono ?_; rintro e w1 ⟨rfl, hw⟩; rw [hw]; clear hw))
              go_round
              case rel => exact ⟨j, by omega, by omega, by go_num, HN⟩
              case measure => simp [intOf]
          · have HN : Hid ((s.extract f t).data.toList = Asc.trim s.data.toList) := by
              show _ = _
              rw [data_cut, ← HT.out]
              exact (Asc.trimR_empty s.data.toList f t (by omega)).symm
            go_wp2
            go_ret
            exact ⟨ret_text HN.out, rfl⟩
      · go_wp2
        go_loop [4] (fun i => ∃ t : Nat, f ≤ t ∧ t ≤ s.size ∧ i = .int .i64 t ∧ Hid (Asc.trimR ((s.data.toList.take t).drop f) = Asc.trim s.data.toList)) (fun i => (intOf i).toNat)
        case atStart => exact ⟨s.size, hf, Nat.le_refl _, rfl, by
          show _ = _
          rw [take_all s s.size (Nat.le_refl _), HD.out]
          rfl⟩
        case round =>
          obtain ⟨t, hft, ht, rfl, HT⟩ := hrel
          by_cases hft2 : f < t
          · omega
          · have HN : Hid ((s.extract f t).data.toList = Asc.trim s.data.toList) := by
              show _ = _
              rw [data_cut, ← HT.out]
              exact (Asc.trimR_empty s.data.toList f t (by omega)).symm
            go_wp2
            go_ret
            exact ⟨ret_text HN.out, rfl⟩
theorem first_cut (b : ByteArray) (h : 0 < b.size) (hb : Asc.isBlank b[0] = true) : Asc.trimL (b.extract 1 b.size).data.toList = Asc.trimL b.data.toList := by
  rw [data_cut, take_all b b.size (Nat.le_refl _)]
  exact Asc.trimL_next b.data.toList 0 h hb
theorem first_stop (b : ByteArray) (h : ∀ h : 0 < b.size, Asc.isBlank b[0] = false) : Asc.trimL b.data.toList = b.data.toList := by
  by_cases hz : 0 < b.size
  · exact Asc.trimL_stop b.data.toList 0 hz (h hz)
  · exact Asc.trimL_end b.data.toList 0 (by rw [← size_data]; omega)
theorem last_cut (b : ByteArray) (j : Nat) (h : b.size = j + 1) (hb : Asc.isBlank (b[j]'(by omega)) = true) : Asc.trimR (b.extract 0 j).data.toList = Asc.trimR b.data.toList := by
  rw [data_cut]
  have := Asc.trimR_next b.data.toList 0 j (by rw [← size_data]; omega) (Nat.zero_le _) hb
  rw [this, take_all b (j + 1) (by omega)]
  rfl
theorem last_stop (b : ByteArray) (j : Nat) (h : b.size = j + 1) (hb : Asc.isBlank (b[j]'(by omega)) = false) : Asc.trimR b.data.toList = b.data.toList := by
  have := Asc.trimR_done b.data.toList 0 j (by rw [← size_data]; omega) (Nat.zero_le _) hb
  rw [take_all b (j + 1) (by omega)] at this
  exact this
theorem last_empty (b : ByteArray) (h : b.size = 0) : Asc.trimR b.data.toList = b.data.toList := by
  have : b.data.toList = [] := List.eq_nil_of_length_eq_zero (by rw [← size_data]; exact h)
  rw [this]
  rfl
set_option maxHeartbeats 1000000 in
theorem RTrim_any (s : ByteArray) (w : World) (hs : s.size ≤ 1000000000) :
    Calls Tryd.prog 29 #[.string s] w fun e w' => e = .returned (.string (str (Asc.trim s.data.toList))) ∧ w' = w := by
  go_enter Tryd.func29, Tryd.ntmps29
  go_wp2
  go_loop [0] (fun d => ∃ b : ByteArray, d = .string b ∧ b.size ≤ s.size ∧ Hid (Asc.trimL b.data.toList = Asc.trimL s.data.toList)) (fun d => (strOf d).size)
  case atStart => exact ⟨s, rfl, Nat.le_refl _, rfl⟩
  case round =>
    obtain ⟨b, rfl, hbs, HE⟩ := hrel
    by_cases hc : ∃ h : 0 < b.size, Asc.isBlank b[0] = true
    · obtain ⟨hlt, hb⟩ := hc
      have HN : Hid (Asc.trimL (b.extract 1 b.size).data.toList = Asc.trimL s.data.toList) := (first_cut b hlt hb).trans HE.out
      have HZ : Hid ((b.extract 1 b.size).size = b.size - 1) := cut_size b 1 b.size (Nat.le_refl _)
      go_wp2_with (first
        | (go_at_call 45; refine (RIsBlank_any _ _).mono ?_; rintro e w1 ⟨rfl, hw⟩; rw [hw]; clear hw))
      go_round
      case rel => exact ⟨_, rfl, by have := HZ.out; omega, HN⟩
      case measure =>
        have := HZ.out
        show (b.extract 1 b.size).size < b.size
        omega
    · have HX : Hid (∀ h : 0 < b.size, Asc.isBlank b[0] = false) := fun h => by
        rw [Bool.eq_false_iff]
        intro e
        exact hc ⟨h, e⟩
      have HD : Hid (b.data.toList = Asc.trimL s.data.toList) := by
        show _ = _
        rw [← HE.out]
        exact (first_stop b HX.out).symm
      clear hc HE
      by_cases hlt : 0 < b.size
      · have hb := HX.out hlt
        go_wp2_with (first
          | (go_at_call 45; refine (RIsBlank_any _ _).mono ?_; rintro e w1 ⟨rfl, hw⟩; rw [hw]; clear hw))
        go_loop [0] (fun d => ∃ c : ByteArray, d = .string c ∧ c.size ≤ b.size ∧ Hid (Asc.trimR c.data.toList = Asc.trim s.data.toList)) (fun d => (strOf d).size)
        case atStart => exact ⟨b, rfl, Nat.le_refl _, by show _ = _; rw [HD.out]; rfl⟩
        case round =>
          obtain ⟨c, rfl, hcs, HT⟩ := hrel
          by_cases hz : 0 < c.size
          · obtain ⟨j, hj⟩ : ∃ j, c.size = j + 1 := ⟨c.size - 1, by omega⟩
            have HJ : Hid (c.size = j + 1) := hj
            have hj1 : j < c.size := by omega
            have hjI : ((c.size : Int) - 1) = (j : Int) := by omega
            clear hj
            cases hb2 : Asc.isBlank c[j]
            · have HN : Hid (c.data.toList = Asc.trim s.data.toList) := (last_stop c j HJ.out hb2).symm.trans HT.out
              go_wp2_with (first
                | (go_at_call 45; refine (RIsBlank_any _ _).mono ?_; rintro e w1 ⟨rfl, hw⟩; rw [hw]; clear hw))
              go_ret
              exact ⟨ret_text HN.out, rfl⟩
            · have HN : Hid (Asc.trimR (c.extract 0 j).data.toList = Asc.trim s.data.toList) := (last_cut c j HJ.out hb2).trans HT.out
              have HZ : Hid ((c.extract 0 j).size = j) := (cut_size c 0 j (by omega)).trans (by omega)
              go_wp2_with (first
                | (go_at_call 45; refine (RIsBlank_any _ _).mono ?_; rintro e w1 ⟨rfl, hw⟩; rw [hw]; clear hw))
              go_round
              case rel => exact ⟨_, rfl, by have := HZ.out; omega, HN⟩
              case measure =>
                have := HZ.out
                show (c.extract 0 j).size < c.size
                omega
          · have HN : Hid (c.data.toList = Asc.trim s.data.toList) := (last_empty c (by omega)).symm.trans HT.out
            go_wp2
            go_ret
            exact ⟨ret_text HN.out, rfl⟩
      · go_wp2
        go_loop [0] (fun d => ∃ c : ByteArray, d = .string c ∧ c.size ≤ b.size ∧ Hid (Asc.trimR c.data.toList = Asc.trim s.data.toList)) (fun d => (strOf d).size)
        case atStart => exact ⟨b, rfl, Nat.le_refl _, by show _ = _; rw [HD.out]; rfl⟩
        case round =>
          obtain ⟨c, rfl, hcs, HT⟩ := hrel
          have HN : Hid (c.data.toList = Asc.trim s.data.toList) := (last_empty c (by omega)).symm.trans HT.out
          have hz : ¬ 0 < c.size := by omega
          go_wp2
          go_ret
          exact ⟨ret_text HN.out, rfl⟩
end Go.Proofs.YtnklbeldheocmaaDoor
/- The contract of the program's Pad. -/
namespace Go.Proofs.YtnklbeldheocmaaDoor
open Go.RowKit
def zeros (m : Int) : ByteArray := ⟨(List.replicate m.toNat 48).toArray⟩
theorem zeros_size (m : Int) : (zeros m).size = m.toNat := by simp [zeros, ByteArray.size]
theorem repeatL_zero : ∀ k : Nat, Lib.repeatL [48] k = List.replicate k 48
  | 0 => rfl
  | k + 1 => by rw [Lib.repeatL, repeatL_zero k]; rfl
theorem Repeat_any (m : Int) (w : World) (h0 : 0 ≤ m) (h1 : m ≤ 100) :
    Calls Tryd.prog 50 #[.string ⟨#[48]⟩, .int .i64 m] w fun e w' => e = .returned (.string (zeros m)) ∧ Below w.heap.size w w' := by
  obtain ⟨k, rfl⟩ := Int.eq_ofNat_of_zero_le h0
  refine (Tryd.strings_Repeat ⟨#[48]⟩ k w (by omega) (by simp [ByteArray.size]; omega)).mono ?_
  rintro e w' ⟨rfl, hb⟩
  refine ⟨?_, hb⟩
  rw [repeatL_zero]
  rfl
theorem zeros_data (m : Int) : (zeros m).data.toList = List.replicate m.toNat 48 := by simp [zeros]
set_option maxHeartbeats 400000 in
theorem Pad_neg (n size : Int) (w : World) (h0 : -9223372036854775808 ≤ n) (h1 : n < 0) (hT : Pow w) :
    Calls Tryd.prog 37 #[.int .i64 n, .int .i64 size] w fun e w' => e = .returned (strV (padL n size)) ∧ Below w.heap.size w w' := by
  have hl := Lib.itoa_length_le n h0 (by omega)
  rw [← txt_size] at hl
  have HD : Hid ((txt n).size = (Lib.decDigits n.natAbs).length + 1) := by
    show _ = _
    rw [txt_size, itoa_neg' n h1]
    rfl
  have hpI : (1 : Int) ≤ ((txt n).size : Int) := by have := HD.out; omega
  have hz : (zeros (max (↑((txt n).size - 1)) (min size 20) - ↑((txt n).size - 1))).size ≤ 20 := by rw [zeros_size]; omega
  have HF : Hid (({ data := #[45] } ++ zeros (max (↑((txt n).size - 1)) (min size 20) - ↑((txt n).size - 1)) ++ (txt n).extract 1 (txt n).size : ByteArray).data.toList = padL n size) := by
    show _ = _
    have hd := HD.out
    rw [ByteArray.data_append, ByteArray.data_append, Array.toList_append, Array.toList_append, zeros_data, data_cut, txt_data, List.take_of_length_le (by rw [txt_size]; omega), itoa_neg' n h1, hd]
    unfold padL
    rw [if_pos h1, List.append_assoc]
    have e : (max (↑((Lib.decDigits n.natAbs).length + 1 - 1) : Int) (min size 20) - ↑((Lib.decDigits n.natAbs).length + 1 - 1)).toNat = (min size 20 - ((Lib.decDigits n.natAbs).length : Int)).toNat := by omega
    rw [e]
    rfl
  go_enter Tryd.func37, Tryd.ntmps37
  go_wp2_with (first
    | (go_at_call 49; refine (Text_any n _ h0 (by omega) hT).mono ?_; rintro e w1 ⟨rfl, hb⟩))
  go_quiet (fail)
  go_wp2_with (first
    | (go_at_call 50; refine (Repeat_any _ _ (by omega) (by omega)).mono ?_; rintro e w2 ⟨rfl, hb2⟩))
  go_ret
  exact ⟨ret_str HF.out, (below_drewN hb nq).trans (hb2.mono (below_drewN hb nq).size)⟩
set_option maxHeartbeats 400000 in
theorem Pad_pos (n size : Int) (w : World) (h0 : 0 ≤ n) (h1 : n ≤ 9223372036854775807) (hT : Pow w) :
    Calls Tryd.prog 37 #[.int .i64 n, .int .i64 size] w fun e w' => e = .returned (strV (padL n size)) ∧ Below w.heap.size w w' := by
  have hl := Lib.itoa_length_le n (by omega) h1
  rw [← txt_size] at hl
  have HD : Hid ((txt n).size = (Lib.decDigits n.natAbs).length) := by
    show _ = _
    rw [txt_size, itoa_pos' n h0]
  have hz : (zeros (max (↑(txt n).size) (min size 20) - ↑(txt n).size)).size ≤ 20 := by rw [zeros_size]; omega
  have HF : Hid ((zeros (max (↑(txt n).size) (min size 20) - ↑(txt n).size) ++ txt n : ByteArray).data.toList = padL n size) := by
    show _ = _
    have hd := HD.out
    rw [ByteArray.data_append, Array.toList_append, zeros_data, txt_data, itoa_pos' n h0, hd]
    unfold padL
    rw [if_neg (by omega)]
    have e : (max ((Lib.decDigits n.natAbs).length : Int) (min size 20) - ((Lib.decDigits n.natAbs).length : Int)).toNat = (min size 20 - ((Lib.decDigits n.natAbs).length : Int)).toNat := by omega
    rw [e]
    rfl
  go_enter Tryd.func37, Tryd.ntmps37
  go_wp2_with (first
    | (go_at_call 49; refine (Text_any n _ (by omega) h1 hT).mono ?_; rintro e w1 ⟨rfl, hb⟩)
    | (go_at_call 50; refine (Repeat_any _ _ (by omega) (by omega)).mono ?_; rintro e w2 ⟨rfl, hb2⟩))
  go_ret
  exact ⟨ret_str HF.out, hb.trans (hb2.mono hb.size)⟩
theorem Pad_any (n size : Int) (w : World) (h0 : -9223372036854775808 ≤ n) (h1 : n ≤ 9223372036854775807) (hT : Pow w) :
    Calls Tryd.prog 37 #[.int .i64 n, .int .i64 size] w fun e w' => e = .returned (strV (padL n size)) ∧ Below w.heap.size w w' := by
  by_cases h : n < 0
  · exact Pad_neg n size w h0 h hT
  · exact Pad_pos n size w (by omega) h1 hT
end Go.Proofs.YtnklbeldheocmaaDoor
/- The contract of the program's Join (for a seat without UPut). -/
namespace Go.Proofs.YtnklbeldheocmaaDoor
open Go.RowKit
theorem cell_lt {w : World} {a : Addr} {v : Value} (h : w.cell? a = some v) : a.block < w.heap.size := by
  by_cases hs : a.block < w.heap.size
  · exact hs
  · unfold World.cell? at h
    rw [Array.getElem?_eq_none (by omega)] at h
    simp at h
theorem cell_alloc {w : World} {a : Addr} {v : Value} {o : Obj} (h : w.cell? a = some v) : (w.alloc o).cell? a = some v := by
  rw [World.cell?_alloc_lt _ _ _ (cell_lt h), h]
theorem ReadsTexts.alloc {w : World} {v : Value} {ts : List (List UInt8)} (h : ReadsTexts w v ts) (o : Obj) : ReadsTexts (w.alloc o) v ts := by
  rcases h with h | ⟨b, o', c, rfl, hc, hr⟩
  · exact .inl h
  · exact .inr ⟨b, o', c, rfl, hc, fun j t hj => cell_alloc (hr j t hj)⟩
theorem ReadsTexts.below {w w' : World} {v : Value} {ts : List (List UInt8)} (h : ReadsTexts w v ts) (hb : Below w.heap.size w w') : ReadsTexts w' v ts := by
  rcases h with h | ⟨b, o, c, rfl, hc, hr⟩
  · exact .inl h
  · exact .inr ⟨b, o, c, rfl, hc, fun j t hj => (hb.cell (p := ⟨b, o + j, none⟩) (cell_lt (hr j t hj))).trans (hr j t hj)⟩
theorem map_str (ts : List (List UInt8)) : (ts.map str).map (·.data.toList) = ts := by
  rw [List.map_map]
  conv => rhs; rw [← List.map_id ts]
  apply List.map_congr_left
  intro t _
  exact str_data t
theorem JoinLib_any (b o c : Nat) (ts : List (List UInt8)) (sep : ByteArray) (w : World) (hr : ∀ (j : Nat) t, ts[j]? = some t → w.cell? ⟨b, o + j, none⟩ = some (strV t)) (hb : b < w.heap.size) (hc : ts.length ≤ c) (hn : ts.length ≤ 1000000000) (hl : (Lib.join ts sep.data.toList).length ≤ 1000000000) :
    Calls Tryd.prog 48 #[.slice (some ⟨b, o, none⟩) ts.length c, .string sep] w fun e w' => e = .returned (.string (str (Lib.join ts sep.data.toList))) ∧ Below w.heap.size w w' := by
  have h := Tryd.strings_Join b o c (ts.map str) sep w (fun j x hj => by
    rw [List.getElem?_map] at hj
    cases ht : ts[j]? with
    | none => rw [ht] at hj; cases hj
    | some t =>
      rw [ht] at hj
      cases hj
      exact hr j t ht) hb (by rw [List.length_map]; omega) (by rw [List.length_map]; exact hc) (by rw [map_str]; omega)
  rw [List.length_map, map_str] at h
  exact h
set_option maxHeartbeats 400000 in
theorem Join_any (sep : ByteArray) (v : Value) (ts : List (List UInt8)) (w : World) (hv : ReadsTexts w v ts) (hn : ts.length ≤ 1000000000) (hl : (Lib.join ts sep.data.toList).length ≤ 1000000000) :
    Calls Tryd.prog 36 #[.string sep, v] w fun e w' => e = .returned (.string (str (Lib.join ts sep.data.toList))) ∧ Below w.heap.size w w' := by
  rcases hv with ⟨a, c, rfl, rfl⟩ | ⟨b, o, c, rfl, hc, hr⟩
  · go_enter Tryd.func36, Tryd.ntmps36
    go_wp2_with (first
      | (go_at_call 48; refine (Tryd.strings_Join_none a c sep w).mono ?_; rintro e w1 ⟨rfl, hw⟩; rw [hw]; clear hw))
    go_ret
    exact ⟨rfl, Below.refl _ _⟩
  · by_cases hz : ts = []
    · subst hz
      go_enter Tryd.func36, Tryd.ntmps36
      go_wp2_with (first
        | (go_at_call 48; refine (Tryd.strings_Join_none (some ⟨b, o, none⟩) c sep w).mono ?_; rintro e w1 ⟨rfl, hw⟩; rw [hw]; clear hw))
      go_ret
      exact ⟨rfl, Below.refl _ _⟩
    · have hb : b < w.heap.size := by
        cases ts with
        | nil => exact absurd rfl hz
        | cons t r => exact cell_lt (hr 0 t rfl)
      have HR : Hid (∀ (j : Nat) t, ts[j]? = some t → w.cell? ⟨b, o + j, none⟩ = some (strV t)) := hr
      clear hr
      go_enter Tryd.func36, Tryd.ntmps36
      go_wp2_with (first
        | (go_at_call 48; refine (JoinLib_any b o c ts sep w HR.out hb hc hn hl).mono ?_; rintro e w1 ⟨rfl, hb1⟩))
      go_ret
      exact ⟨rfl, hb1⟩
end Go.Proofs.YtnklbeldheocmaaDoor
