/- The contracts of percent's first and Unmark. -/
import Derived.Test.YtlkhjloeonbjaaaGreatDoorPMark1
import Derived.Test.YtlkhjloeonbjaaaGreatDoorPHex
namespace Go.Proofs.YtlkhjloeonbjaaaGreatDoor
open Go.RowKit
theorem getD_at (s : ByteArray) (k : Nat) (h : k < s.size) : s.data.toList.getD k 0 = s[k] := by
  have h2 : k < s.data.toList.length := by rw [← size_data0]; exact h
  rw [List.getD_eq_getElem?_getD, List.getElem?_eq_getElem h2]
  rfl
theorem cut_two (s : ByteArray) (h : 3 ≤ s.size) : (s.extract 1 3).data.toList = [s[1], s[2]] := by
  have h2 : 3 ≤ s.data.toList.length := by rw [← size_data0]; exact h
  rw [data_cut]
  have e1 := getD_at s 1 (by omega)
  have e2 := getD_at s 2 (by omega)
  rw [← e1, ← e2]
  match hl : s.data.toList, h2 with
  | a :: b :: c :: r, _ => rfl
theorem hex_two_ok (a b : UInt8) (ha : Asc.hexOk (Asc.bt a) = true) (hb : Asc.hexOk (Asc.bt b) = true) : Asc.hexNum [a, b] = Asc.hexV (Asc.bt a) * 16 + Asc.hexV (Asc.bt b) ∧ Asc.hexErr [a, b] = 0 := by
  have h1 := Asc.hexV_bd (Asc.bt a)
  refine Asc.hex_ok _ _ ⟨by simp [Asc.allHex, ha, hb], by simp⟩ ?_
  simp only [Asc.hexFold]
  rw [if_neg (by omega), if_neg (by omega)]
  simp
theorem hex_two_no (a b : UInt8) (h : ¬ (Asc.hexOk (Asc.bt a) = true ∧ Asc.hexOk (Asc.bt b) = true)) : Asc.hexErr [a, b] = 3 := by
  refine (Asc.hex_form _ ?_).2
  rintro ⟨h1, _⟩
  apply h
  simpa [Asc.allHex] using h1
theorem first_no (s : ByteArray) (h0 : 0 < s.size) (h : ¬ (s[0] = 37 ∧ 3 ≤ s.size)) : Pct.first s.data.toList = (s[0], 1) := by
  unfold Pct.first
  rw [getD_at s 0 h0, ← size_data0, if_neg (by rintro ⟨a, b, _⟩; exact h ⟨a, b⟩)]
theorem first_bad (s : ByteArray) (h : 3 ≤ s.size) (hx : ¬ (Asc.hexOk (Asc.bt s[1]) = true ∧ Asc.hexOk (Asc.bt s[2]) = true)) : Pct.first s.data.toList = (s[0], 1) := by
  unfold Pct.first
  rw [getD_at s 0 (by omega), getD_at s 1 (by omega), getD_at s 2 (by omega), if_neg (by rintro ⟨_, _, a, b⟩; exact hx ⟨a, b⟩)]
theorem first_mark (s : ByteArray) (h : 3 ≤ s.size) (h0 : s[0] = 37) (h1 : Asc.hexOk (Asc.bt s[1]) = true) (h2 : Asc.hexOk (Asc.bt s[2]) = true) : Pct.first s.data.toList = (UInt8.ofNat (Asc.hexV (Asc.bt s[1]) * 16 + Asc.hexV (Asc.bt s[2])).toNat, 3) := by
  unfold Pct.first
  rw [getD_at s 0 (by omega), getD_at s 1 (by omega), getD_at s 2 (by omega), if_pos ⟨h0, by rw [← size_data0]; exact h, h1, h2⟩]
  rfl
set_option maxHeartbeats 1000000 in
theorem first_any (s : ByteArray) (w : World) (h0 : 0 < s.size) (hs : s.size ≤ 1000000000) :
    Calls Tryz.prog 69 #[.string s] w fun e w' => e = .returned (.tuple #[.int .u8 (Pct.first s.data.toList).1.toNat, .int .i64 (Pct.first s.data.toList).2]) ∧ w' = w := by
  by_cases hp : s[0] = 37
  · have hq : (((s[0].toNat : Nat) : Int) != 37) = false := by rw [hp]; rfl
    by_cases h3 : 3 ≤ s.size
    · have hx3 : (s.extract 1 3).size ≤ 1000000000 := by rw [size_data0, cut_two s h3]; simp
      by_cases hx : Asc.hexOk (Asc.bt s[1]) = true ∧ Asc.hexOk (Asc.bt s[2]) = true
      · have HF := first_mark s h3 hp hx.1 hx.2
        have HX := hex_two_ok s[1] s[2] hx.1 hx.2
        rw [← cut_two s h3] at HX
        obtain ⟨HX1, hx2⟩ := HX
        have HN : Hid (Asc.hexNum (s.extract 1 3).data.toList = Asc.hexV (Asc.bt s[1]) * 16 + Asc.hexV (Asc.bt s[2])) := HX1
        have HF : Hid _ := HF
        have b1 := Asc.hexV_bd (Asc.bt s[1])
        have b2 := Asc.hexV_bd (Asc.bt s[2])
        clear hp hx HX1
        go_enter Tryz.func69, Tryz.ntmps69
        go_wp2_with (first
          | (go_at_call 97; refine (Hex_any _ _ hx3).mono ?_; rintro e w1 ⟨rfl, rfl⟩; rw [HN.out, hx2]))
        go_ret2
        refine ⟨ret_pair ?_ ?_, rfl⟩
        · rw [HF.out]
          show Value.int .u8 (Asc.hexV (Asc.bt s[1]) * 16 + Asc.hexV (Asc.bt s[2])) = .int .u8 _
          congr 1
          simp
          omega
        · rw [HF.out]; rfl
      · have HF : Hid _ := first_bad s h3 hx
        have hx2 := hex_two_no s[1] s[2] hx
        rw [← cut_two s h3] at hx2
        clear hp hx
        go_enter Tryz.func69, Tryz.ntmps69
        go_wp2_with (first
          | (go_at_call 97; refine (Hex_any _ _ hx3).mono ?_; rintro e w1 ⟨rfl, rfl⟩; rw [hx2]))
        go_ret2
        exact ⟨ret_pair (by rw [HF.out]; rfl) (by rw [HF.out]; rfl), rfl⟩
    · have HF : Hid _ := first_no s h0 (fun h => h3 h.2)
      clear hp
      go_enter Tryz.func69, Tryz.ntmps69
      go_wp2
      go_ret2
      exact ⟨ret_pair (by rw [HF.out]; rfl) (by rw [HF.out]; rfl), rfl⟩
  · have hq : (((s[0].toNat : Nat) : Int) != 37) = true := by
      rw [bne_iff_ne]
      intro e
      exact hp (UInt8.toNat_inj.1 (by have : (37 : UInt8).toNat = 37 := rfl; omega))
    have HF : Hid _ := first_no s h0 (fun h => hp h.1)
    clear hp
    go_enter Tryz.func69, Tryz.ntmps69
    go_wp2
    go_ret2
    exact ⟨ret_pair (by rw [HF.out]; rfl) (by rw [HF.out]; rfl), rfl⟩
theorem rest_first (s : ByteArray) (k : Nat) : (s.extract k s.size).data.toList = s.data.toList.drop k := by
  rw [data_cut, List.take_of_length_le (by rw [← size_data0]; omega)]
set_option maxHeartbeats 1000000 in
set_option maxRecDepth 100000 in
theorem Unmark_any (s : ByteArray) (w : World) (hs : s.size ≤ 1000000000) :
    Calls Tryz.prog 37 #[.string s] w fun e w' => e = .returned (.string (str (Pct.unmark s.data.toList))) ∧ Below w.heap.size w w' := by
  go_enter Tryz.func37, Tryz.ntmps37
  go_wp2
  go_loopw [4] (fun i wr => ∃ (k : Nat) (acc : List UInt8), k ≤ s.size ∧ i = .int .i64 k ∧ Lib.IsBuilderF 55 5 w.heap.size w.heap.size (Lib.byteCells acc) wr ∧ acc.length ≤ k ∧ Hid (acc ++ Pct.unmark (s.data.toList.drop k) = Pct.unmark s.data.toList) ∧ Below w.heap.size w wr) (fun i _ => s.size - (intOf i).toNat)
  case atStart => exact ⟨0, [], Nat.zero_le _, rfl, Lib.IsBuilderF.of (Lib.fresh_isBuilder 55 5 w), Nat.le_refl _, rfl, (Below.refl _ w).alloc (Nat.le_refl _) _⟩
  case round =>
    obtain ⟨k, acc, hk, rfl, hI, hal, HE, hbw⟩ := hrel
    by_cases hlt : k < s.size
    · have hrz : (s.extract k s.size).size = s.size - k := by rw [size_data0, rest_first s k, List.length_drop, ← size_data0]
      have hfs := Pct.first_size (s.data.toList.drop k)
      rw [List.length_drop, ← size_data0] at hfs
      have HR : Hid ((s.extract k s.size).data.toList = s.data.toList.drop k) := rest_first s k
      have HN : Hid (acc ++ [(Pct.first (s.data.toList.drop k)).1] ++ Pct.unmark (s.data.toList.drop (k + (Pct.first (s.data.toList.drop k)).2)) = Pct.unmark s.data.toList) := by
        show _ = _
        rw [← HE.out, Pct.unmark_at _ k (by rw [← size_data0]; exact hlt)]
        simp
      have hwz := hbw.size
      go_wp2_with (first
        | (go_at_call 69; refine (first_any _ _ (by rw [hrz]; omega) (by rw [hrz]; omega)).mono ?_; rintro e w1 ⟨rfl, rfl⟩; rw [HR.out])
        | (go_at_call 43; refine (WriteByte_k w.heap.size w.heap.size _ _ _ hI (by rw [Lib.byteCells_length]; omega) hwz).mono ?_; rintro e W1 ⟨rfl, h1, b1, k1⟩))
      go_roundw
      case rel => exact ⟨k + (Pct.first (s.data.toList.drop k)).2, acc ++ [(Pct.first (s.data.toList.drop k)).1], by omega, by go_num, by rw [Lib.byteCells_append]; exact .inr h1, by rw [List.length_append, List.length_singleton]; omega, HN, hbw.trans b1⟩
      case measure => simp [intOf]; omega
    · have HN : Hid (acc = Pct.unmark s.data.toList) := by
        have := HE.out
        rw [List.drop_of_length_le (by rw [← size_data0]; omega), Pct.unmark_nil, List.append_nil] at this
        exact this
      have hwz := hbw.size
      go_wp2_with (go_at_call 44; refine (Tryz.Builder_String_any_k w.heap.size w.heap.size _ _ hI hwz).mono ?_; rintro e W1 ⟨rfl, _, b1, _⟩)
      go_ret
      exact ⟨by rw [← HN.out]; rfl, hbw.trans b1⟩
end Go.Proofs.YtlkhjloeonbjaaaGreatDoor
