/- Texts laid as one. -/
import Derived.Test.YtiodaahncadodaaGreatDoorKGround
import Derived.Laws.IdiomStrings
import Derived.Laws.OwnMore
import Derived.Test.YtiodaahncadodaaGreatDoorKMath
/- Contracts of Lower, the program's and the reference's. -/
namespace Go.Proofs.YtiodaahncadodaaGreatDoor
open Go.RowKit
theorem OwnsBytes.of {w : World} {B : Nat} {v : Value} {l m : List UInt8} {c : UInt8} {x : Int} (h : m = l ++ [c]) (hx : x = (c.toNat : Int)) (ho : w.ownsRow B 5 1 v (l.length + 1) (cellsB l ++ [.int .u8 x])) : OwnsBytes w B v m := by
  subst h; subst hx
  unfold OwnsBytes cellsB at *
  simpa using ho
theorem made_cells (n : Nat) : (madeCells (Value.int .u8 0).cells (n * 1)).toList = cellsB (List.replicate n 0) := by
  unfold madeCells cellsB
  rw [Nat.mul_one, List.map_replicate]
  apply List.ext_getElem
  · simp
  · intro i h1 h2
    simp [Value.cells, Nat.mod_one]
theorem set_next (a : List UInt8) (c : UInt8) (m : Nat) : (cellsB (a ++ List.replicate (m + 1) 0)).set a.length (.int .u8 c.toNat) = cellsB (a ++ [c] ++ List.replicate m 0) := by
  unfold cellsB
  rw [List.map_append, List.set_append_right _ _ (by simp)]
  simp [List.replicate_succ]
theorem cell_next (a : List UInt8) (m : Nat) : (cellsB (a ++ List.replicate (m + 1) 0))[a.length]? = some (.int .u8 0) := by
  unfold cellsB
  rw [List.map_append, List.getElem?_append_right (by simp)]
  simp [List.replicate_succ]
/-- What lies in the row behind k rounds. -/
def lowTo (s : ByteArray) (k : Nat) : List UInt8 := Asc.lower (s.data.toList.take k) ++ List.replicate (s.size - k) 0
theorem lower_len (s : ByteArray) (k : Nat) (h : k ≤ s.size) : (Asc.lower (s.data.toList.take k)).length = k := by
  unfold Asc.lower
  rw [List.length_map, List.length_take, ← size_data]
  omega
theorem lowTo_next (s : ByteArray) (k : Nat) (h : k < s.size) : (cellsB (lowTo s k)).set k (.int .u8 (Asc.lowerC s[k]).toNat) = cellsB (lowTo s (k + 1)) := by
  have e := set_next (Asc.lower (s.data.toList.take k)) (Asc.lowerC s[k]) (s.size - (k + 1))
  rw [lower_len s k (by omega), show s.size - (k + 1) + 1 = s.size - k from by omega] at e
  unfold lowTo
  rw [e, List.take_succ_eq_append_getElem (show k < s.data.toList.length from by rw [← size_data]; exact h), Asc.lower_snoc]
  rfl
theorem lowTo_cell (s : ByteArray) (k : Nat) (h : k < s.size) : (cellsB (lowTo s k))[k]? = some (.int .u8 0) := by
  have e := cell_next (Asc.lower (s.data.toList.take k)) (s.size - (k + 1))
  rw [lower_len s k (by omega), show s.size - (k + 1) + 1 = s.size - k from by omega] at e
  exact e
theorem lowTo_len (s : ByteArray) (k : Nat) (h : k ≤ s.size) : (lowTo s k).length = s.size := by
  unfold lowTo
  rw [List.length_append, lower_len s k h, List.length_replicate]
  omega
theorem lowTo_end (s : ByteArray) (k : Nat) (h : k ≤ s.size) (h2 : ¬ k < s.size) : lowTo s k = Asc.lower s.data.toList := by
  unfold lowTo
  rw [take_all s k (by omega), show s.size - k = 0 from by omega]
  simp
set_option maxHeartbeats 400000 in
theorem Lower_any (s : ByteArray) (w : World) (hs : s.size ≤ 1000000000) :
    Calls Tryz.prog 154 #[.string s] w fun e w' => e = .returned (.string (str (Asc.lower s.data.toList))) ∧ Below w.heap.size w w' := by
  obtain ⟨i0, hi, hz0, hz1, hz2⟩ := info_parts infoByte
  go_enter Tryz.func154, Tryz.ntmps154
  go_wp2_with (first
    | (at_make; refine wpList_make_full _ rfl (.tmp 6) (.tmp 6) 78 rfl w.heap.size 5 i0 (.int .u8 0) 1 Tryz.underlying78 hi hz0 hz1 _ _ _ _ s.size rfl rfl rfl rfl (by rw [hz2]; omega) (by unfold maxLen; omega) (Nat.le_refl _) ?_; intro w1 hown1 hgrow1))
  go_loopw [10] (fun i wr => ∃ k : Nat, k ≤ s.size ∧ i = .int .i64 k ∧ wr.ownsRow w.heap.size 5 1 (.slice (some ⟨w.heap.size, 0, none⟩) s.size s.size) s.size (cellsB (lowTo s k)) ∧ Below w.heap.size w wr) (fun i _ => s.size - (intOf i).toNat)
  case atStart =>
    refine ⟨0, Nat.zero_le _, rfl, ?_, (Below.refl _ _).grown hgrow1 (Nat.le_refl _) (by simp)⟩
    rw [made_cells] at hown1
    exact hown1
  case round =>
    obtain ⟨k, hk, rfl, hown, hbel⟩ := hrel
    by_cases hlt : k < s.size
    · have hc : wr.cell? ⟨w.heap.size, k, none⟩ = some (.int .u8 0) := (World.ownsRow.cellAt (w := wr) hown k (by omega)).trans (lowTo_cell s k hlt)
      have hf := World.ownsRow.frozenAt (w := wr) hown k
      have hst := World.ownsRow.stored (w := wr) hown k (.int .u8 (Asc.lowerC s[k]).toNat)
      rw [lowTo_next s k hlt] at hst
      have HS := show Hid _ from hst
      clear hst hown
      go_wp2_with (first
        | (go_at_call 175; refine (lowerByte_any _ _).mono ?_; rintro e w2 ⟨rfl, hw⟩; rw [hw]; clear hw))
      go_roundw
      case rel => exact ⟨k + 1, by omega, by go_num, HS.out.1, hbel.setCell (Nat.le_refl _) _⟩
      case measure => simp [intOf]; omega
    · have hown2 : OwnsBytes wr w.heap.size (.slice (some ⟨w.heap.size, 0, none⟩) s.size s.size) (lowTo s k) := by
        unfold OwnsBytes
        rw [lowTo_len s k hk]
        exact hown
      have hcv := conv_owned hown2
      rw [lowTo_end s k hk hlt] at hcv
      clear hown hown2
      go_wp2
      go_ret
      exact ⟨rfl, hbel⟩
set_option maxHeartbeats 400000 in
set_option maxRecDepth 100000 in
theorem RLower_any (s : ByteArray) (w : World) (hs : s.size ≤ 1000000000) :
    Calls Tryz.prog 107 #[.string s] w fun e w' => e = .returned (.string (str (Asc.lower s.data.toList))) ∧ Below w.heap.size w w' := by
  obtain ⟨i0, hi, hz0, hz1, hz2⟩ := info_parts infoByte
  go_enter Tryz.func107, Tryz.ntmps107
  go_wp2
  go_loopw [3, 4] (fun v i wr => ∃ k : Nat, k ≤ s.size ∧ i = .int .i64 k ∧ OwnsBytes wr w.heap.size v (Asc.lower (s.data.toList.take k)) ∧ Below w.heap.size w wr) (fun _ i _ => s.size - (intOf i).toNat)
  case atStart => exact ⟨0, Nat.zero_le _, rfl, OwnsBytes.nil _ _, Below.refl _ _⟩
  case round =>
    obtain ⟨k, hk, rfl, hown, hbel⟩ := hrel
    by_cases hlt : k < s.size
    · have hll := lower_len s k hk
      have HL : Hid ((Asc.lower (s.data.toList.take k)).length = k) := hll
      have hlo : (Asc.lower (s.data.toList.take k)).length ≤ 1000000000 := by omega
      clear hll
      have hbd := byte_bd s[k]
      obtain ⟨hb0, hb1⟩ := hbd
      have HN : Hid (Asc.lower (s.data.toList.take (k + 1)) = Asc.lower (s.data.toList.take k) ++ [Asc.lowerC s[k]]) := by
        show _ = _
        rw [List.take_succ_eq_append_getElem (show k < s.data.toList.length from by rw [← size_data]; exact hlt), Asc.lower_snoc]
        rfl
      rcases (show (65 ≤ (s[k].toNat : Int) ∧ (s[k].toNat : Int) ≤ 90) ∨ (s[k].toNat : Int) < 65 ∨ 90 < (s[k].toNat : Int) from by omega) with ⟨ha, hb⟩ | ha | ha
      · have HV : Hid ((s[k].toNat : Int) + 32 = ((Asc.lowerC s[k]).toNat : Int)) := by
          show _ = _
          rw [← Asc.lowN_byte, Asc.lowN, if_pos ⟨ha, hb⟩]
        go_wp2_with (first
          | (at_builtin; refine wpList_append_own _ rfl _ _ 78 rfl w.heap.size 5 i0 (.int .u8 0) 1 1 Tryz.underlying78 hi hz0 hz1 hz2 rfl (by decide) _ _ _ rfl (World.ownsRow.alloc hown _) ⟨wr.heap.size, 0, none⟩ 1 1 [.int .u8 ((s[k].toNat : Int) + 32)] rfl rfl (cell_one_new _ _ _) (fun x hx => by simp at hx; subst hx; rfl) (by unfold maxLen; omega) (by omega) (by have := hbel.size; simp; omega) ?_; intro v' w3 hown' hgrow3 hnil3))
        go_roundw
        case rel => exact ⟨k + 1, by omega, by go_num, OwnsBytes.of HN.out HV.out hown', (hbel.alloc hbel.size _).grown hgrow3 (by have := hbel.size; simp; omega) (fun q hq => (World.ownsRow.lt hown q hq).1)⟩
        case measure => simp [intOf]; omega
      all_goals
        have HV : Hid ((s[k].toNat : Int) = ((Asc.lowerC s[k]).toNat : Int)) := by
          show _ = _
          rw [← Asc.lowN_byte, Asc.lowN, if_neg (by omega)]
        go_wp2_with (first
          | (at_builtin; refine wpList_append_own _ rfl _ _ 78 rfl w.heap.size 5 i0 (.int .u8 0) 1 1 Tryz.underlying78 hi hz0 hz1 hz2 rfl (by decide) _ _ _ rfl (World.ownsRow.alloc hown _) ⟨wr.heap.size, 0, none⟩ 1 1 [.int .u8 (s[k].toNat : Int)] rfl rfl (cell_one_new _ _ _) (fun x hx => by simp at hx; subst hx; rfl) (by unfold maxLen; omega) (by omega) (by have := hbel.size; simp; omega) ?_; intro v' w3 hown' hgrow3 hnil3))
        go_roundw
        case rel => exact ⟨k + 1, by omega, by go_num, OwnsBytes.of HN.out HV.out hown', (hbel.alloc hbel.size _).grown hgrow3 (by have := hbel.size; simp; omega) (fun q hq => (World.ownsRow.lt hown q hq).1)⟩
        case measure => simp [intOf]; omega
    · have hcv := conv_owned hown
      rw [take_all s k (by omega)] at hcv
      clear hown
      go_wp2
      go_ret
      exact ⟨rfl, hbel⟩
end Go.Proofs.YtiodaahncadodaaGreatDoor
/- Contracts of Number, the program's and the reference's. -/
namespace Go.Proofs.YtiodaahncadodaaGreatDoor
open Go.RowKit
theorem IsDigit_any (c : UInt8) (w : World) :
    Calls Tryz.prog 188 #[.int .u8 c.toNat] w fun e w' => e = .returned (.bool (Asc.isDig (Asc.bt c))) ∧ w' = w := IsDigit_n _ _
set_option maxHeartbeats 400000 in
theorem isNumber_any (s : ByteArray) (w : World) (hs : s.size ≤ 1000000000) :
    Calls Tryz.prog 202 #[.string s] w fun e w' => e = .returned (.bool (Asc.digForm s.data.toList)) ∧ w' = w := by
  go_enter Tryz.func202, Tryz.ntmps202
  go_wp2
  go_loop [6] (fun i => ∃ k : Nat, k ≤ s.size ∧ i = .int .i64 k ∧ Hid (Asc.allDig (s.data.toList.take k) = true)) (fun i => s.size - (intOf i).toNat)
  case atStart => exact ⟨0, Nat.zero_le _, rfl, rfl⟩
  case round =>
    obtain ⟨k, hk, rfl, HE⟩ := hrel
    by_cases hlt : k < s.size
    · cases hx : Asc.isDig (Asc.bt s[k])
      · have HN : Hid (Asc.digForm s.data.toList = false) := by
          show _ = _
          unfold Asc.digForm
          rw [Asc.allDig_not s.data.toList k hlt hx]
          rfl
        go_wp2_with (first
          | (go_at_call 188; refine (IsDigit_any _ _).mono ?_; rintro e w1 ⟨rfl, hw⟩; rw [hw]; clear hw))
        go_ret
        exact ⟨ret_bool HN.out.symm, rfl⟩
      · have HN : Hid (Asc.allDig (s.data.toList.take (k + 1)) = true) := by
          show _ = _
          rw [Asc.allDig_take s.data.toList k hlt, HE.out, Bool.true_and]
          exact hx
        go_wp2_with (first
          | (go_at_call 188; refine (IsDigit_any _ _).mono ?_; rintro e w1 ⟨rfl, hw⟩; rw [hw]; clear hw))
        go_round
        case rel => exact ⟨k + 1, by omega, by go_num, HN⟩
        case measure => simp [intOf]; omega
    · have HN : Hid (Asc.allDig s.data.toList = true) := by
        have := HE.out
        rwa [take_all s k (by omega)] at this
      go_wp2
      go_ret
      exact ⟨ret_bool (by unfold Asc.digForm; rw [HN.out, ByteArray.toList_eq]; rfl), rfl⟩
set_option maxHeartbeats 1000000 in
theorem Number_any (s : ByteArray) (most : Int) (w : World) (hs : s.size ≤ 1000000000) (hm1 : most ≤ 9223372036854775807) :
    Calls Tryz.prog 199 #[.string s, .int .i64 most] w fun e w' => e = .returned (.tuple #[.int .i64 (Asc.numNum s.data.toList most), .int .i64 (Asc.numErr s.data.toList most)]) ∧ w' = w := by
  cases hx : (Asc.digForm s.data.toList)
  · have HN : Hid (Asc.numNum s.data.toList most = 0 ∧ Asc.numErr s.data.toList most = 3) := Asc.num_form _ _ hx
    go_enter Tryz.func199, Tryz.ntmps199
    go_wp2_with (first
      | (go_at_call 202; refine (isNumber_any s _ hs).mono ?_; rintro e w1 ⟨rfl, hw⟩; rw [hw]; clear hw))
    go_ret2
    exact ⟨ret_pair (by rw [HN.out.1]; rfl) (by rw [HN.out.2]; rfl), rfl⟩
  · by_cases hm : most < 0
    · have HN : Hid (Asc.numNum s.data.toList most = 0 ∧ Asc.numErr s.data.toList most = 5) := Asc.num_neg _ _ hx hm
      go_enter Tryz.func199, Tryz.ntmps199
      go_wp2_with (first
        | (go_at_call 202; refine (isNumber_any s _ hs).mono ?_; rintro e w1 ⟨rfl, hw⟩; rw [hw]; clear hw))
      go_ret2
      exact ⟨ret_pair (by rw [HN.out.1]; rfl) (by rw [HN.out.2]; rfl), rfl⟩
    · have hm0 : 0 ≤ most := by omega
      have HX : Hid (Asc.digForm s.data.toList = true) := hx
      clear hm
      go_enter Tryz.func199, Tryz.ntmps199
      go_wp2_with (first
        | (go_at_call 202; refine (isNumber_any s _ hs).mono ?_; rintro e w1 ⟨rfl, hw⟩; rw [hw]; clear hw))
      clear hx
      go_loop [6, 16] (fun m i => ∃ (k : Nat) (n : Int), k ≤ s.size ∧ i = .int .i64 k ∧ m = .int .i64 n ∧ 0 ≤ n ∧ n ≤ most ∧ Hid (Asc.numFold most n (s.data.toList.drop k) = Asc.numFold most 0 s.data.toList)) (fun _ i => s.size - (intOf i).toNat)
      case atStart => exact ⟨0, 0, Nat.zero_le _, rfl, rfl, by omega, hm0, rfl⟩
      case round =>
        obtain ⟨k, n, hk, rfl, rfl, hn0, hn1, HE⟩ := hrel
        by_cases hlt : k < s.size
        · have hd := Asc.allDig_at s.data.toList k hlt (Asc.digForm_all _ HX.out)
          have hd0 : (48 : Int) ≤ (s[k].toNat : Int) := hd.1
          have hd1 : (s[k].toNat : Int) ≤ 57 := hd.2
          clear hd
          have HS : Hid (most < n * 10 + ((s[k].toNat : Int) - 48) → Asc.numNum s.data.toList most = 0 ∧ Asc.numErr s.data.toList most = 5) := fun h => Asc.num_many _ most HX.out hm0 (by rw [← HE.out]; exact Asc.numFold_stop most _ k n hlt h)
          have HN : Hid (¬ most < n * 10 + ((s[k].toNat : Int) - 48) → Asc.numFold most (n * 10 + ((s[k].toNat : Int) - 48)) (s.data.toList.drop (k + 1)) = Asc.numFold most 0 s.data.toList) := fun h => by
            rw [← HE.out]
            exact (Asc.numFold_next most _ k n hlt h).symm
          rcases (show most / 10 < n ∨ n < most / 10 ∨ n = most / 10 from by omega) with hc | hc | hc
          · go_wp2
            go_ret2
            have h := HS.out (by omega)
            exact ⟨ret_pair (by rw [h.1]; rfl) (by rw [h.2]; rfl), rfl⟩
          · have hq : (n == most / 10) = false := by rw [beq_eq_false_iff_ne]; omega
            go_wp2
            go_round
            case rel => exact ⟨k + 1, n * 10 + ((s[k].toNat : Int) - 48), by omega, by go_num, rfl, by omega, by omega, HN.out (by omega)⟩
            case measure => simp [intOf]; omega
          · have hq : (n == most / 10) = true := by rw [beq_iff_eq]; exact hc
            have HQ : Hid (n = most / 10) := hc
            have hn9 : n * 10 ≤ most := by omega
            clear hc
            by_cases hr : most % 10 < (s[k].toNat : Int) - 48
            · go_wp2
              go_ret2
              have h := HS.out (by have := HQ.out; omega)
              exact ⟨ret_pair (by rw [h.1]; rfl) (by rw [h.2]; rfl), rfl⟩
            · have hn8 : n * 10 + ((s[k].toNat : Int) - 48) ≤ most := by have := HQ.out; omega
              go_wp2
              go_round
              case rel => exact ⟨k + 1, n * 10 + ((s[k].toNat : Int) - 48), by omega, by go_num, rfl, by omega, by omega, HN.out (by omega)⟩
              case measure => simp [intOf]; omega
        · have HN : Hid (Asc.numNum s.data.toList most = n ∧ Asc.numErr s.data.toList most = 0) := Asc.num_ok _ most n HX.out hm0 (by rw [← HE.out]; exact Asc.numFold_end most _ k n (by simpa using Nat.le_of_not_lt hlt))
          go_wp2
          go_ret2
          exact ⟨ret_pair (by rw [HN.out.1]; rfl) (by rw [HN.out.2]; rfl), rfl⟩
end Go.Proofs.YtiodaahncadodaaGreatDoor
