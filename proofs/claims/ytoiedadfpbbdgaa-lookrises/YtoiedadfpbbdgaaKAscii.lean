/- Texts laid as one. -/
import Derived.Test.YtoiedadfpbbdgaaKGround
import Derived.Laws.IdiomStrings
import Derived.Laws.OwnMore
import Derived.Test.YtoiedadfpbbdgaaKMath
import Derived.Test.YtoiedadfpbbdgaaKShelf
import Derived.Lib.ItoaLen
import Derived.Lib.LaidTab
import Derived.Lib.ItoaNum
import Derived.PlainAid
import Derived.Laws.BytesArg
/- Contracts of Lower, the program's and the reference's. -/
namespace Go.Proofs.Ytoiedadfpbbdgaa
open Go.RowKit
theorem OwnsBytes.of {w : World} {B : Nat} {v : Value} {l m : List UInt8} {c : UInt8} {x : Int} (h : m = l ++ [c]) (hx : x = (c.toNat : Int)) (ho : w.ownsRow B 5 1 v (l.length + 1) (cellsB l ++ [.int .u8 x])) : OwnsBytes w B v m := by
  subst h; subst hx
  unfold OwnsBytes cellsB at *
  simpa using ho
theorem made_cells (n : Nat) : (madeCells (Value.int .u8 0).cells (n * 1)).toList = cellsB (List.replicate n 0) := by
  unfold madeCells cellsB
  rw [Nat.mul_one, List.map_replicate]
  apply List.ext_getElem
  · simp
  · intro i h1 h2
    simp [Value.cells, Nat.mod_one]
theorem set_next (a : List UInt8) (c : UInt8) (m : Nat) : (cellsB (a ++ List.replicate (m + 1) 0)).set a.length (.int .u8 c.toNat) = cellsB (a ++ [c] ++ List.replicate m 0) := by
  unfold cellsB
  rw [List.map_append, List.set_append_right _ _ (by simp)]
  simp [List.replicate_succ]
theorem cell_next (a : List UInt8) (m : Nat) : (cellsB (a ++ List.replicate (m + 1) 0))[a.length]? = some (.int .u8 0) := by
  unfold cellsB
  rw [List.map_append, List.getElem?_append_right (by simp)]
  simp [List.replicate_succ]
/-- What lies in the row behind k rounds. -/
def lowTo (s : ByteArray) (k : Nat) : List UInt8 := Asc.lower (s.data.toList.take k) ++ List.replicate (s.size - k) 0
theorem lower_len (s : ByteArray) (k : Nat) (h : k ≤ s.size) : (Asc.lower (s.data.toList.take k)).length = k := by
  unfold Asc.lower
  rw [List.length_map, List.length_take, ← size_data]
  omega
theorem lowTo_next (s : ByteArray) (k : Nat) (h : k < s.size) : (cellsB (lowTo s k)).set k (.int .u8 (Asc.lowerC s[k]).toNat) = cellsB (lowTo s (k + 1)) := by
  have e := set_next (Asc.lower (s.data.toList.take k)) (Asc.lowerC s[k]) (s.size - (k + 1))
  rw [lower_len s k (by omega), show s.size - (k + 1) + 1 = s.size - k from by omega] at e
  unfold lowTo
  rw [e, List.take_succ_eq_append_getElem (show k < s.data.toList.length from by rw [← size_data]; exact h), Asc.lower_snoc]
  rfl
theorem lowTo_cell (s : ByteArray) (k : Nat) (h : k < s.size) : (cellsB (lowTo s k))[k]? = some (.int .u8 0) := by
  have e := cell_next (Asc.lower (s.data.toList.take k)) (s.size - (k + 1))
  rw [lower_len s k (by omega), show s.size - (k + 1) + 1 = s.size - k from by omega] at e
  exact e
theorem lowTo_len (s : ByteArray) (k : Nat) (h : k ≤ s.size) : (lowTo s k).length = s.size := by
  unfold lowTo
  rw [List.length_append, lower_len s k h, List.length_replicate]
  omega
theorem lowTo_end (s : ByteArray) (k : Nat) (h : k ≤ s.size) (h2 : ¬ k < s.size) : lowTo s k = Asc.lower s.data.toList := by
  unfold lowTo
  rw [take_all s k (by omega), show s.size - k = 0 from by omega]
  simp
set_option maxHeartbeats 400000 in
set_option maxRecDepth 100000 in
theorem RLower_any (s : ByteArray) (w : World) (hs : s.size ≤ 1000000000) :
    Calls Try.prog 99 #[.string s] w fun e w' => e = .returned (.string (str (Asc.lower s.data.toList))) ∧ Below w.heap.size w w' := by
  obtain ⟨i0, hi, hz0, hz1, hz2⟩ := info_parts infoByte
  go_enter Try.func99, Try.ntmps99
  go_wp2
  go_loopw [3, 4] (fun v i wr => ∃ k : Nat, k ≤ s.size ∧ i = .int .i64 k ∧ OwnsBytes wr w.heap.size v (Asc.lower (s.data.toList.take k)) ∧ Below w.heap.size w wr) (fun _ i _ => s.size - (intOf i).toNat)
  case atStart => exact ⟨0, Nat.zero_le _, rfl, OwnsBytes.nil _ _, Below.refl _ _⟩
  case round =>
    obtain ⟨k, hk, rfl, hown, hbel⟩ := hrel
    by_cases hlt : k < s.size
    · have hll := lower_len s k hk
      have HL : Hid ((Asc.lower (s.data.toList.take k)).length = k) := hll
      have hlo : (Asc.lower (s.data.toList.take k)).length ≤ 1000000000 := by omega
      clear hll
      have hbd := byte_bd s[k]
      obtain ⟨hb0, hb1⟩ := hbd
      have HN : Hid (Asc.lower (s.data.toList.take (k + 1)) = Asc.lower (s.data.toList.take k) ++ [Asc.lowerC s[k]]) := by
        show _ = _
        rw [List.take_succ_eq_append_getElem (show k < s.data.toList.length from by rw [← size_data]; exact hlt), Asc.lower_snoc]
        rfl
      rcases (show (65 ≤ (s[k].toNat : Int) ∧ (s[k].toNat : Int) ≤ 90) ∨ (s[k].toNat : Int) < 65 ∨ 90 < (s[k].toNat : Int) from by omega) with ⟨ha, hb⟩ | ha | ha
      · have HV : Hid ((s[k].toNat : Int) + 32 = ((Asc.lowerC s[k]).toNat : Int)) := by
          show _ = _
          rw [← Asc.lowN_byte, Asc.lowN, if_pos ⟨ha, hb⟩]
        go_wp2_with (first
          | (at_builtin; refine wpList_append_own _ rfl _ _ 90 rfl w.heap.size 5 i0 (.int .u8 0) 1 1 Try.underlying90 hi hz0 hz1 hz2 rfl (by decide) _ _ _ rfl (World.ownsRow.alloc hown _) ⟨wr.heap.size, 0, none⟩ 1 1 [.int .u8 ((s[k].toNat : Int) + 32)] rfl rfl (cell_one_new _ _ _) (fun x hx => by simp at hx; subst hx; rfl) (by unfold maxLen; omega) (by omega) (by have := hbel.size; simp; omega) ?_; intro v' w3 hown' hgrow3 hnil3))
        go_roundw
        case rel => exact ⟨k + 1, by omega, by go_num, OwnsBytes.of HN.out HV.out hown', (hbel.alloc hbel.size _).grown hgrow3 (by have := hbel.size; simp; omega) (fun q hq => (World.ownsRow.lt hown q hq).1)⟩
        case measure => simp [intOf]; omega
      all_goals
        have HV : Hid ((s[k].toNat : Int) = ((Asc.lowerC s[k]).toNat : Int)) := by
          show _ = _
          rw [← Asc.lowN_byte, Asc.lowN, if_neg (by omega)]
        go_wp2_with (first
          | (at_builtin; refine wpList_append_own _ rfl _ _ 90 rfl w.heap.size 5 i0 (.int .u8 0) 1 1 Try.underlying90 hi hz0 hz1 hz2 rfl (by decide) _ _ _ rfl (World.ownsRow.alloc hown _) ⟨wr.heap.size, 0, none⟩ 1 1 [.int .u8 (s[k].toNat : Int)] rfl rfl (cell_one_new _ _ _) (fun x hx => by simp at hx; subst hx; rfl) (by unfold maxLen; omega) (by omega) (by have := hbel.size; simp; omega) ?_; intro v' w3 hown' hgrow3 hnil3))
        go_roundw
        case rel => exact ⟨k + 1, by omega, by go_num, OwnsBytes.of HN.out HV.out hown', (hbel.alloc hbel.size _).grown hgrow3 (by have := hbel.size; simp; omega) (fun q hq => (World.ownsRow.lt hown q hq).1)⟩
        case measure => simp [intOf]; omega
    · have hcv := conv_owned hown
      rw [take_all s k (by omega)] at hcv
      clear hown
      go_wp2
      go_ret
      exact ⟨rfl, hbel⟩
end Go.Proofs.Ytoiedadfpbbdgaa
/- Contracts of Number, the program's and the reference's. -/
namespace Go.Proofs.Ytoiedadfpbbdgaa
open Go.RowKit
theorem RIsDigit_any (c : UInt8) (w : World) :
    Calls Try.prog 105 #[.int .u8 c.toNat] w fun e w' => e = .returned (.bool (Asc.isDig (Asc.bt c))) ∧ w' = w := RIsDigit_n _ _
theorem digForm_empty (s : ByteArray) (h : s.size = 0) : Asc.digForm s.data.toList = false := by
  have := empty_yes s h
  rw [ByteArray.toList_eq] at this
  unfold Asc.digForm
  rw [this]
  simp
theorem digForm_yes (s : ByteArray) (h : ¬ s.size = 0) (ha : Asc.allDig s.data.toList = true) : Asc.digForm s.data.toList = true := by
  have := empty_no s h
  rw [ByteArray.toList_eq] at this
  unfold Asc.digForm
  rw [this, ha]
  rfl
theorem tdiv_form (most : Int) (h : most < 0) : most.tdiv 10 = -((-most) / 10) := by
  have e : most = -(-most) := by omega
  conv => lhs; rw [e]
  rw [Int.neg_tdiv, Int.tdiv_eq_ediv_of_nonneg (by omega)]
theorem tdiv_low (most : Int) (h0 : -9223372036854775808 ≤ most) (h : most ≤ -10) : -9223372036854775808 ≤ most.tdiv 10 ∧ most.tdiv 10 < 0 := by
  rw [tdiv_form most (by omega)]
  omega
theorem tdiv_zero (most : Int) (h : most < 0) (h2 : -10 < most) : most.tdiv 10 = 0 := by
  rw [tdiv_form most h]
  omega
theorem tmod_same (most : Int) (h : most < 0) (h2 : -10 < most) : most.tmod 10 = most := by
  have := Int.tmod_add_tdiv_mul most 10
  rw [tdiv_zero most h h2] at this
  omega
end Go.Proofs.Ytoiedadfpbbdgaa
/- Contracts of Text, the program's and the reference's. -/
namespace Go.Proofs.Ytoiedadfpbbdgaa
open Go.RowKit
/-- What the walks are told of strconv's table of powers of ten. -/
def Pow (w : World) : Prop := Lib.TabIs Try.prog w "internal/strconv.uint64pow10" .u64 Lib.pow10Tab
def txt (n : Int) : ByteArray := ⟨(Lib.itoa n).toArray⟩
theorem txt_size (n : Int) : (txt n).size = (Lib.itoa n).length := by simp [txt, ByteArray.size]
theorem below_grow {w : World} (k : Nat) (os : Array Obj) : Below w.heap.size w (Go.Sort.grow (w.drewN k) os) := by
  refine ⟨rfl, rfl, rfl, ?_, ?_⟩
  · simp [Go.Sort.grow]
  · intro j hj
    show (w.heap ++ os)[j]? = _
    rw [Array.getElem?_append_left hj]
/-- The document's Pad: the digits, zeros ahead of them up to the size (20 at most), the sign ahead of all. -/
def padL (n size : Int) : List UInt8 :=
  (if n < 0 then [45] else []) ++ (List.replicate (min size 20 - ((Lib.decDigits n.natAbs).length : Int)).toNat 48 ++ Lib.decDigits n.natAbs)
theorem str_of {b : ByteArray} {l : List UInt8} (h : b.data.toList = l) : Value.string b = strV l := by rw [← h, strV_data]
theorem ret_str {b : ByteArray} {l : List UInt8} (h : b.data.toList = l) : Ending.returned (.string b) = .returned (strV l) := by rw [str_of h]
theorem txt_data (n : Int) : (txt n).data.toList = Lib.itoa n := by simp [txt]
theorem itoa_neg' (n : Int) (h : n < 0) : Lib.itoa n = 45 :: Lib.decDigits n.natAbs := by rw [Lib.itoa, if_pos h]
theorem itoa_pos' (n : Int) (h : 0 ≤ n) : Lib.itoa n = Lib.decDigits n.natAbs := by
  rw [Lib.itoa, if_neg (by omega)]
  congr 1
  omega
/-- The text of one byte. -/
def one (n : Int) : ByteArray := strOfNums [n]
theorem one_size (n : Int) : (one n).size = 1 := by unfold one; rw [strOfNums_size]; rfl
theorem one_data (n : Int) : (one n).data.toList = [UInt8.ofNat n.toNat] := rfl
theorem conv_one (W : World) (n : Int) : (convert 90 9 (.slice (some ⟨W.heap.size, 0, none⟩) 1 1)).run Try.prog (W.alloc (.cells #[.int .u8 n] 5)) = .ok (.string (one n)) (W.alloc (.cells #[.int .u8 n] 5)) :=
  run_convert_bytes_arg (P := Try.prog) (W.alloc (.cells #[.int .u8 n] 5)) 90 5 Try.underlying90 Try.underlying5 W.heap.size 0 1 1 [n] rfl (fun i hi => by
    have : i = 0 := by omega
    subst this
    simp) 9 Try.underlying9
theorem one_digit (m : Nat) : (one (48 + ↑m % 10)).data.toList = [UInt8.ofNat (48 + m % 10)] := by
  rw [one_data, show (48 + (m : Int) % 10).toNat = 48 + m % 10 from by omega]
theorem dec_small (m : Nat) (h : m < 10) : Lib.decDigits m = (one (48 + ↑m % 10)).data.toList := by
  rw [Lib.decDigits, dif_pos h, one_digit, Nat.mod_eq_of_lt h]
theorem dec_big (m : Nat) (h : ¬ m < 10) : Lib.decDigits m = Lib.decDigits (m / 10) ++ (one (48 + ↑m % 10)).data.toList := by
  rw [Lib.decDigits, dif_neg h, one_digit]
def strOf : Value → ByteArray
  | .string b => b
  | _ => ⟨#[]⟩
theorem padL_one (n : Int) : padL n 1 = Lib.itoa n := by
  unfold padL
  have : 1 ≤ (Lib.decDigits n.natAbs).length := by rw [Lib.decDigits_length]; exact Lib.nDigits_pos _
  rw [show (min 1 20 - ((Lib.decDigits n.natAbs).length : Int)).toNat = 0 from by omega]
  by_cases h : n < 0
  · rw [if_pos h, itoa_neg' n h]
    rfl
  · rw [if_neg h, itoa_pos' n (by omega)]
    rfl
end Go.Proofs.Ytoiedadfpbbdgaa
/- Contracts of Trim, the program's and the reference's. -/
namespace Go.Proofs.Ytoiedadfpbbdgaa
open Go.RowKit
theorem RIsBlank_any (c : UInt8) (w : World) :
    Calls Try.prog 31 #[.int .u8 c.toNat] w fun e w' => e = .returned (.bool (Asc.isBlank c)) ∧ w' = w := by
  rw [← blankN_byte]
  exact RIsBlank_n _ _
set_option maxHeartbeats 400000 in
theorem Trim_any (s : ByteArray) (w : World) (hs : s.size ≤ 1000000000) :
    Calls Try.prog 50 #[.string s] w fun e w' => e = .returned (.string (str (Asc.trim s.data.toList))) ∧ w' = w := by
  go_enter Try.func50, Try.ntmps50
  go_wp2
  go_loop [3] (fun i => ∃ f : Nat, f ≤ s.size ∧ i = .int .i64 f ∧ Hid (Asc.trimL (s.data.toList.drop f) = Asc.trimL s.data.toList)) (fun i => s.size - (intOf i).toNat)
  case atStart => exact ⟨0, Nat.zero_le _, rfl, rfl⟩
  case round =>
    obtain ⟨f, hf, rfl, HE⟩ := hrel
    by_cases hc : ∃ h : f < s.size, Asc.isBlank s[f] = true
    · obtain ⟨hlt, hb⟩ := hc
      have HN : Hid (Asc.trimL (s.data.toList.drop (f + 1)) = Asc.trimL s.data.toList) := (Asc.trimL_next s.data.toList f hlt hb).trans HE.out
      go_wp2_with (first
        | (go_at_call 56; refine (IsBlank_any _ _).mono ?_; rintro e w1 ⟨rfl, hw⟩; rw [hw]; clear hw))
      go_round
      case rel => exact ⟨f + 1, by omega, by go_num, HN⟩
      case measure => simp [intOf]; omega
    · have HD : Hid (s.data.toList.drop f = Asc.trimL s.data.toList) := by
        show _ = _
        rw [← HE.out]
        by_cases hlt : f < s.size
        · exact (Asc.trimL_stop _ f hlt (by
            rw [Bool.eq_false_iff]
            intro h
            exact hc ⟨hlt, h⟩)).symm
        · exact (Asc.trimL_end _ f (by rw [← size_data]; omega)).symm
      have HX : Hid (f < s.size → ∀ h : f < s.size, Asc.isBlank s[f] = false) := fun _ h => by
        rw [Bool.eq_false_iff]
        intro e
        exact hc ⟨h, e⟩
      clear hc HE
      by_cases hlt : f < s.size
      · have hb := HX.out hlt hlt
        go_wp2_with (first
          | (go_at_call 56; refine (IsBlank_any _ _).mono ?_; rintro e w1 ⟨rfl, hw⟩; rw [hw]; clear hw))
        go_loop [4] (fun i => ∃ t : Nat, f ≤ t ∧ t ≤ s.size ∧ i = .int .i64 t ∧ Hid (Asc.trimR ((s.data.toList.take t).drop f) = Asc.trim s.data.toList)) (fun i => (intOf i).toNat)
        case atStart => exact ⟨s.size, hf, Nat.le_refl _, rfl, by
          show _ = _
          rw [take_all s s.size (Nat.le_refl _), HD.out]
          rfl⟩
        case round =>
          obtain ⟨t, hft, ht, rfl, HT⟩ := hrel
          by_cases hft2 : f < t
          · obtain ⟨j, rfl⟩ : ∃ j, t = j + 1 := ⟨t - 1, by omega⟩
            have hj : j < s.size := by omega
            have hj2 : (j : Int) < (s.size : Int) := by omega
            cases hb2 : Asc.isBlank s[j]
            · have HN : Hid ((s.extract f (j + 1)).data.toList = Asc.trim s.data.toList) := by
                show _ = _
                rw [data_cut, ← HT.out]
                exact (Asc.trimR_done s.data.toList f j hj (by omega) hb2).symm
              go_wp2_with (first
                | (go_at_call 56; refine (IsBlank_any _ _).mono ?_; rintro e w1 ⟨rfl, hw⟩; rw [hw]; clear hw))
              go_ret
              exact ⟨ret_text HN.out, rfl⟩
            · have HN : Hid (Asc.trimR ((s.data.toList.take j).drop f) = Asc.trim s.data.toList) := (Asc.trimR_next s.data.toList f j hj (by omega) hb2).trans HT.out
              go_wp2_with (first
                | (go_at_call 56; refine (IsBlank_any _ _).mono ?_; rintro e w1 ⟨rfl, hw⟩; rw [hw]; clear hw))
              go_round
              case rel => exact ⟨j, by omega, by omega, by go_num, HN⟩
              case measure => simp [intOf]
          · have HN : Hid ((s.extract f t).data.toList = Asc.trim s.data.toList) := by
              show _ = _
              rw [data_cut, ← HT.out]
              exact (Asc.trimR_empty s.data.toList f t (by omega)).symm
            go_wp2
            go_ret
            exact ⟨ret_text HN.out, rfl⟩
      · go_wp2
        go_loop [4] (fun i => ∃ t : Nat, f ≤ t ∧ t ≤ s.size ∧ i = .int .i64 t ∧ Hid (Asc.trimR ((s.data.toList.take t).drop f) = Asc.trim s.data.toList)) (fun i => (intOf i).toNat)
        case atStart => exact ⟨s.size, hf, Nat.le_refl _, rfl, by
          show _ = _
          rw [take_all s s.size (Nat.le_refl _), HD.out]
          rfl⟩
        case round =>
          obtain ⟨t, hft, ht, rfl, HT⟩ := hrel
          by_cases hft2 : f < t
          · omega
          · have HN : Hid ((s.extract f t).data.toList = Asc.trim s.data.toList) := by
              show _ = _
              rw [data_cut, ← HT.out]
              exact (Asc.trimR_empty s.data.toList f t (by omega)).symm
            go_wp2
            go_ret
            exact ⟨ret_text HN.out, rfl⟩
theorem first_cut (b : ByteArray) (h : 0 < b.size) (hb : Asc.isBlank b[0] = true) : Asc.trimL (b.extract 1 b.size).data.toList = Asc.trimL b.data.toList := by
  rw [data_cut, take_all b b.size (Nat.le_refl _)]
  exact Asc.trimL_next b.data.toList 0 h hb
theorem first_stop (b : ByteArray) (h : ∀ h : 0 < b.size, Asc.isBlank b[0] = false) : Asc.trimL b.data.toList = b.data.toList := by
  by_cases hz : 0 < b.size
  · exact Asc.trimL_stop b.data.toList 0 hz (h hz)
  · exact Asc.trimL_end b.data.toList 0 (by rw [← size_data]; omega)
theorem last_cut (b : ByteArray) (j : Nat) (h : b.size = j + 1) (hb : Asc.isBlank (b[j]'(by omega)) = true) : Asc.trimR (b.extract 0 j).data.toList = Asc.trimR b.data.toList := by
  rw [data_cut]
  have := Asc.trimR_next b.data.toList 0 j (by rw [← size_data]; omega) (Nat.zero_le _) hb
  rw [this, take_all b (j + 1) (by omega)]
  rfl
theorem last_stop (b : ByteArray) (j : Nat) (h : b.size = j + 1) (hb : Asc.isBlank (b[j]'(by omega)) = false) : Asc.trimR b.data.toList = b.data.toList := by
  have := Asc.trimR_done b.data.toList 0 j (by rw [← size_data]; omega) (Nat.zero_le _) hb
  rw [take_all b (j + 1) (by omega)] at this
  exact this
theorem last_empty (b : ByteArray) (h : b.size = 0) : Asc.trimR b.data.toList = b.data.toList := by
  have : b.data.toList = [] := List.eq_nil_of_length_eq_zero (by rw [← size_data]; exact h)
  rw [this]
  rfl
end Go.Proofs.Ytoiedadfpbbdgaa
