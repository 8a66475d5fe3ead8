/- Contracts of Text and Pad. -/
import Derived.Test.YtoggbikjkccfeabDoorShelf
import Derived.Test.YtoggbikjkccfeabDoorCTexts
import Derived.Lib.ItoaLen
import Derived.Lib.Repeat
namespace Go.Proofs.YtoggbikjkccfeabDoor
open Go.RowKit
/-- What the walks are told of strconv's table of powers of ten. -/
def Pow (w : World) : Prop := Lib.TabIs Tryd.prog w "internal/strconv.uint64pow10" .u64 Lib.pow10Tab
theorem Pow.lt {w : World} (h : Pow w) : 1 < w.heap.size := by
  have := Lib.TabIs.cell h gPow 0 (by decide)
  unfold World.cell? at this
  simp at this
  by_cases hs : 1 < w.heap.size
  · exact hs
  · rw [Array.getElem?_eq_none (by omega)] at this
    simp at this
theorem Pow.below {w w' : World} (h : Pow w) (hb : Below w.heap.size w w') : Pow w' := var?_below hb gPow h.lt h
def txt (n : Int) : ByteArray := ⟨(Lib.itoa n).toArray⟩
theorem txt_size (n : Int) : (txt n).size = (Lib.itoa n).length := by simp [txt, ByteArray.size]
open Go.Sort in
theorem below_grow {w : World} (k : Nat) (os : Array Obj) : Below w.heap.size w (grow (w.drewN k) os) := by
  refine ⟨rfl, rfl, rfl, ?_, ?_⟩
  · simp [grow]
  · intro j hj
    show (w.heap ++ os)[j]? = _
    rw [Array.getElem?_append_left hj]
set_option maxHeartbeats 400000 in
theorem Text_any (n : Int) (w : World) (h0 : -9223372036854775808 ≤ n) (h1 : n ≤ 9223372036854775807) (hT : Pow w) :
    Calls Tryd.prog 22 #[.int .i64 n] w fun e w' => e = .returned (.string (txt n)) ∧ Below w.heap.size w w' := by
  go_enter Tryd.func22, Tryd.ntmps22
  go_wp2_with (first
    | (go_at_call 29; refine (Tryd.strconv_FormatInt_10 n h0 h1 w hT).mono ?_; rintro e w1 ⟨rfl, k, os, rfl⟩))
  go_ret
  exact ⟨rfl, below_grow k os⟩
def zeros (m : Int) : ByteArray := ⟨(List.replicate m.toNat 48).toArray⟩
theorem zeros_size (m : Int) : (zeros m).size = m.toNat := by simp [zeros, ByteArray.size]
theorem repeatL_zero : ∀ k : Nat, Lib.repeatL [48] k = List.replicate k 48
  | 0 => rfl
  | k + 1 => by rw [Lib.repeatL, repeatL_zero k]; rfl
theorem Repeat_any (m : Int) (w : World) (h0 : 0 ≤ m) (h1 : m ≤ 100) :
    Calls Tryd.prog 23 #[.string ⟨#[48]⟩, .int .i64 m] w fun e w' => e = .returned (.string (zeros m)) ∧ Below w.heap.size w w' := by
  obtain ⟨k, rfl⟩ := Int.eq_ofNat_of_zero_le h0
  refine (Tryd.strings_Repeat ⟨#[48]⟩ k w (by omega) (by simp [ByteArray.size]; omega)).mono ?_
  rintro e w' ⟨rfl, hb⟩
  refine ⟨?_, hb⟩
  rw [repeatL_zero]
  rfl
/-- The document's Pad: the digits, zeros ahead of them up to the size (20 at most), the sign ahead of all. -/
def padL (n size : Int) : List UInt8 :=
  (if n < 0 then [45] else []) ++ (List.replicate (min size 20 - ((Lib.decDigits n.natAbs).length : Int)).toNat 48 ++ Lib.decDigits n.natAbs)
theorem str_of {b : ByteArray} {l : List UInt8} (h : b.data.toList = l) : Value.string b = strV l := by rw [← h, strV_data]
theorem ret_str {b : ByteArray} {l : List UInt8} (h : b.data.toList = l) : Ending.returned (.string b) = .returned (strV l) := by rw [str_of h]
theorem txt_data (n : Int) : (txt n).data.toList = Lib.itoa n := by simp [txt]
theorem zeros_data (m : Int) : (zeros m).data.toList = List.replicate m.toNat 48 := by simp [zeros]
theorem itoa_neg' (n : Int) (h : n < 0) : Lib.itoa n = 45 :: Lib.decDigits n.natAbs := by rw [Lib.itoa, if_pos h]
theorem itoa_pos' (n : Int) (h : 0 ≤ n) : Lib.itoa n = Lib.decDigits n.natAbs := by
  rw [Lib.itoa, if_neg (by omega)]
  congr 1
  omega
set_option maxHeartbeats 400000 in
theorem Pad_neg (n size : Int) (w : World) (h0 : -9223372036854775808 ≤ n) (h1 : n < 0) (hT : Pow w) :
    Calls Tryd.prog 16 #[.int .i64 n, .int .i64 size] w fun e w' => e = .returned (strV (padL n size)) ∧ Below w.heap.size w w' := by
  have hl := Lib.itoa_length_le n h0 (by omega)
  rw [← txt_size] at hl
  have HD : Hid ((txt n).size = (Lib.decDigits n.natAbs).length + 1) := by
    show _ = _
    rw [txt_size, itoa_neg' n h1]
    rfl
  have hpI : (1 : Int) ≤ ((txt n).size : Int) := by have := HD.out; omega
  have hz : (zeros (max (↑((txt n).size - 1)) (min size 20) - ↑((txt n).size - 1))).size ≤ 20 := by rw [zeros_size]; omega
  have HF : Hid (({ data := #[45] } ++ zeros (max (↑((txt n).size - 1)) (min size 20) - ↑((txt n).size - 1)) ++ (txt n).extract 1 (txt n).size : ByteArray).data.toList = padL n size) := by
    show _ = _
    have hd := HD.out
    rw [ByteArray.data_append, ByteArray.data_append, Array.toList_append, Array.toList_append, zeros_data, data_cut, txt_data, List.take_of_length_le (by rw [txt_size]; omega), itoa_neg' n h1, hd]
    unfold padL
    rw [if_pos h1, List.append_assoc]
    have e : (max (↑((Lib.decDigits n.natAbs).length + 1 - 1) : Int) (min size 20) - ↑((Lib.decDigits n.natAbs).length + 1 - 1)).toNat = (min size 20 - ((Lib.decDigits n.natAbs).length : Int)).toNat := by omega
    rw [e]
    rfl
  go_enter Tryd.func16, Tryd.ntmps16
  go_wp2_with (first
    | (go_at_call 22; refine (Text_any n _ h0 (by omega) hT).mono ?_; rintro e w1 ⟨rfl, hb⟩))
  go_quiet (fail)
  go_wp2_with (first
    | (go_at_call 23; refine (Repeat_any _ _ (by omega) (by omega)).mono ?_; rintro e w2 ⟨rfl, hb2⟩))
  go_ret
  exact ⟨ret_str HF.out, (below_drewN hb nq).trans (hb2.mono (below_drewN hb nq).size)⟩
set_option maxHeartbeats 400000 in
theorem Pad_pos (n size : Int) (w : World) (h0 : 0 ≤ n) (h1 : n ≤ 9223372036854775807) (hT : Pow w) :
    Calls Tryd.prog 16 #[.int .i64 n, .int .i64 size] w fun e w' => e = .returned (strV (padL n size)) ∧ Below w.heap.size w w' := by
  have hl := Lib.itoa_length_le n (by omega) h1
  rw [← txt_size] at hl
  have HD : Hid ((txt n).size = (Lib.decDigits n.natAbs).length) := by
    show _ = _
    rw [txt_size, itoa_pos' n h0]
  have hz : (zeros (max (↑(txt n).size) (min size 20) - ↑(txt n).size)).size ≤ 20 := by rw [zeros_size]; omega
  have HF : Hid ((zeros (max (↑(txt n).size) (min size 20) - ↑(txt n).size) ++ txt n : ByteArray).data.toList = padL n size) := by
    show _ = _
    have hd := HD.out
    rw [ByteArray.data_append, Array.toList_append, zeros_data, txt_data, itoa_pos' n h0, hd]
    unfold padL
    rw [if_neg (by omega)]
    have e : (max ((Lib.decDigits n.natAbs).length : Int) (min size 20) - ((Lib.decDigits n.natAbs).length : Int)).toNat = (min size 20 - ((Lib.decDigits n.natAbs).length : Int)).toNat := by omega
    rw [e]
    rfl
  go_enter Tryd.func16, Tryd.ntmps16
  go_wp2_with (first
    | (go_at_call 22; refine (Text_any n _ (by omega) h1 hT).mono ?_; rintro e w1 ⟨rfl, hb⟩)
    | (go_at_call 23; refine (Repeat_any _ _ (by omega) (by omega)).mono ?_; rintro e w2 ⟨rfl, hb2⟩))
  go_ret
  exact ⟨ret_str HF.out, hb.trans (hb2.mono hb.size)⟩
theorem Pad_any (n size : Int) (w : World) (h0 : -9223372036854775808 ≤ n) (h1 : n ≤ 9223372036854775807) (hT : Pow w) :
    Calls Tryd.prog 16 #[.int .i64 n, .int .i64 size] w fun e w' => e = .returned (strV (padL n size)) ∧ Below w.heap.size w w' := by
  by_cases h : n < 0
  · exact Pad_neg n size w h0 h hT
  · exact Pad_pos n size w (by omega) h1 hT
end Go.Proofs.YtoggbikjkccfeabDoor
