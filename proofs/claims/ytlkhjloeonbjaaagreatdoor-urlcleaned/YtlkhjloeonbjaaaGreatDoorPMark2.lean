/- The contract of percent.Mark. -/
import Derived.Test.YtlkhjloeonbjaaaGreatDoorPMark1
import Derived.Deep.Cut
namespace Go.Proofs.YtlkhjloeonbjaaaGreatDoor
open Go.RowKit
theorem stays_cell {w : World} {b : Nat} {t : TypeId} (l : List UInt8) (c : UInt8) (h : w.heap[b]? = some (.cells (arr fun i => Pct.stays l (UInt8.ofNat i)) t (0, 0))) : w.cell? ⟨b, c.toNat, none⟩ = some (.bool (Pct.stays l c)) := by
  have := (row_arr h).cell (byte_in c).1
  rw [this, UInt8.ofNat_toNat]
def lit16 : ByteArray := ⟨#[48, 49, 50, 51, 52, 53, 54, 55, 56, 57, 65, 66, 67, 68, 69, 70]⟩
theorem lit_hex : ∀ k : Fin lit16.size, lit16[k.val].toNat = (Pct.hexU k.val).toNat := by decide
theorem lit_at (k : Nat) (h : k < lit16.size) : lit16[k].toNat = (Pct.hexU k).toNat := lit_hex ⟨k, h⟩
theorem mk_cells (c : UInt8) (h1 : c.toNat / 16 < lit16.size) (h2 : c.toNat % 16 < lit16.size) : Lib.byteCells (Pct.mk c) = [.int .u8 37, .int .u8 lit16[c.toNat / 16].toNat, .int .u8 lit16[c.toNat % 16].toNat] := by
  rw [lit_at _ h1, lit_at _ h2]
  rfl
set_option maxHeartbeats 1000000 in
set_option maxRecDepth 100000 in
theorem Mark_any (s free : ByteArray) (w : World) (hs : s.size ≤ 1000000000) (hf : free.size ≤ 1000000000) :
    Calls Tryz.prog 48 #[.string s, .string free] w fun e w' => e = .returned (.string (str (Pct.mark free.data.toList s.data.toList))) ∧ Below w.heap.size w w' := by
  have hz := (zero_of_info zeroArr).1
  rw [arr_zero] at hz
  go_enter Tryz.func48, Tryz.ntmps48
  go_upto_region 2 with (first
    | (go_at_call 81; refine (staying_any _ _ hf).mono ?_; rintro e w1 ⟨rfl, hb1⟩)
    | (refine wpList_store_arr _ _ rfl rfl _ _ _ rfl rfl (heap_alloc_last _ _) ?_))
  have hA := setRow_block (g := fun i => Pct.stays free.data.toList (UInt8.ofNat i)) (heap_alloc_last w1 (.cells (arr fun _ => false) 83))
  have hS := setRow_size (w1.alloc (.cells (arr fun _ => false) 83)) w1.heap.size (arr fun i => Pct.stays free.data.toList (UInt8.ofNat i))
  have hW := below_setRow (hb1.alloc (o := .cells (arr fun _ => false) 83) hb1.size) hb1.size (arr fun i => Pct.stays free.data.toList (UInt8.ofNat i))
  have hg : ∃ W, (w1.alloc (.cells (arr fun _ => false) 83)).setRow w1.heap.size (arr fun i => Pct.stays free.data.toList (UInt8.ofNat i)) = W := ⟨_, rfl⟩
  obtain ⟨W, hg⟩ := hg
  rw [hg] at hA hS hW ⊢
  clear hg
  have HS : Hid (W.heap.size = w1.heap.size + 1) := by show _ = _; rw [hS]; simp
  clear hS
  have hn1 := hb1.size
  have HA := show Hid _ from hA
  clear hA
  go_wp2
  go_loopw [13] (fun i wr => ∃ k : Nat, k ≤ s.size ∧ i = .int .i64 k ∧ Lib.IsBuilderF 55 5 W.heap.size W.heap.size (Lib.byteCells (Pct.mark free.data.toList (s.data.toList.take k))) wr ∧ Below W.heap.size W wr) (fun i _ => s.size - (intOf i).toNat)
  case atStart => exact ⟨0, Nat.zero_le _, rfl, Lib.IsBuilderF.of (Lib.fresh_isBuilder 55 5 W), (Below.refl _ W).alloc (Nat.le_refl _) _⟩
  case round =>
    obtain ⟨k, hk, rfl, hI, hbw⟩ := hrel
    by_cases hlt : k < s.size
    · have hb := byte_in s[k]
      have hc : wr.cell? ⟨w1.heap.size, s[k].toNat, none⟩ = some (.bool (Pct.stays free.data.toList s[k])) := stays_cell free.data.toList s[k] ((hbw.block w1.heap.size (by rw [HS.out]; omega)).trans HA.out)
      have hml := Pct.mark_len free.data.toList (s.data.toList.take k)
      rw [List.length_take] at hml
      have hb2 := hb.2
      have hwz := hbw.size
      cases hst : Pct.stays free.data.toList s[k]
      · rw [hst] at hc
        go_wp2_with fail
        go_at_call 43
        refine (WriteByte_k W.heap.size W.heap.size _ _ _ hI (by rw [Lib.byteCells_length]; omega) hwz).mono ?_
        rintro e W1 ⟨rfl, h1, b1, k1⟩
        have hwz1 := b1.size
        go_wp2_with fail
        go_at_call 43
        refine (WriteByte_k W.heap.size W.heap.size _ _ _ (.inr h1) (by rw [List.length_append, Lib.byteCells_length, List.length_singleton]; omega) (by omega)).mono ?_
        rintro e W2 ⟨rfl, h2, b2, k2⟩
        have hwz2 := b2.size
        go_wp2_with fail
        go_at_call 43
        refine (WriteByte_k W.heap.size W.heap.size _ _ _ (.inr h2) (by rw [List.length_append, List.length_append, Lib.byteCells_length, List.length_singleton, List.length_singleton]; omega) (by omega)).mono ?_
        rintro e W3 ⟨rfl, h3, b3, k3⟩
        go_wp2_with fail
        have HN : Pct.mark free.data.toList (s.data.toList.take (k + 1)) = Pct.mark free.data.toList (s.data.toList.take k) ++ Pct.mk s[k] := by
          rw [Pct.mark_next _ _ k hlt]
          exact congrArg _ (Pct.one_no hst)
        go_roundw
        case rel => exact ⟨k + 1, by omega, by go_num, by rw [List.append_assoc, List.append_assoc] at h3; rw [HN, Lib.byteCells_append, mk_cells _ (by show s[k].toNat / 16 < 16; omega) (by show s[k].toNat % 16 < 16; omega)]; exact .inr h3, hbw.trans (b1.trans (b2.trans b3))⟩
        case measure => simp [intOf]; omega
      · rw [hst] at hc
        have HN : Hid (Pct.mark free.data.toList (s.data.toList.take (k + 1)) = Pct.mark free.data.toList (s.data.toList.take k) ++ [s[k]]) := by
          show _ = _
          rw [Pct.mark_next _ _ k hlt]
          exact congrArg _ (Pct.one_yes hst)
        go_wp2_with (go_at_call 43; refine (WriteByte_k W.heap.size W.heap.size _ _ _ hI (by rw [Lib.byteCells_length]; omega) hwz).mono ?_; rintro e W1 ⟨rfl, h1, b1, k1⟩)
        go_roundw
        case rel => exact ⟨k + 1, by omega, by go_num, by rw [HN.out, Lib.byteCells_append]; exact .inr h1, hbw.trans b1⟩
        case measure => simp [intOf]; omega
    · have HN : Hid (Pct.mark free.data.toList (s.data.toList.take k) = Pct.mark free.data.toList s.data.toList) := by
        show _ = _
        rw [List.take_of_length_le (by rw [← size_data0]; omega)]
      have hwz := hbw.size
      go_wp2_with (go_at_call 44; refine (Tryz.Builder_String_any_k W.heap.size W.heap.size _ _ hI hwz).mono ?_; rintro e W1 ⟨rfl, _, b1, _⟩)
      go_ret
      exact ⟨by rw [← HN.out]; rfl, hW.trans ((hbw.trans b1).mono (by rw [HS.out]; omega))⟩
end Go.Proofs.YtlkhjloeonbjaaaGreatDoor
