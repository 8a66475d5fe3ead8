/- Contracts of Text, the program's and the reference's. -/
import Derived.Test.YtlkhjloeonbjaaaGreatDoorShelf
import Derived.Test.YtlkhjloeonbjaaaGreatDoorPTexts
import Derived.Test.YtlkhjloeonbjaaaGreatDoorPHex
import Derived.Lib.ItoaLen
import Derived.Lib.LaidTab
import Derived.Lib.ItoaNum
import Derived.PlainAid
import Derived.Laws.BytesArg
namespace Go.Proofs.YtlkhjloeonbjaaaGreatDoor
open Go.RowKit
theorem gPow : Tryz.prog.globalNamed "internal/strconv.uint64pow10" = some 3 := by kernel_rfl
theorem tPow : (Tryz.prog.globals[3]?).map (·.type) = some 132 := by kernel_rfl
/-- What the walks are told of strconv's table of powers of ten. -/
def Pow (w : World) : Prop := Lib.TabIs Tryz.prog w "internal/strconv.uint64pow10" .u64 Lib.pow10Tab
theorem Pow.lt {w : World} (h : Pow w) : 3 < w.heap.size := by
  have := Lib.TabIs.cell h gPow 0 (by decide)
  unfold World.cell? at this
  simp at this
  by_cases hs : 3 < w.heap.size
  · exact hs
  · rw [Array.getElem?_eq_none (by omega)] at this
    simp at this
theorem Pow.below {w w' : World} (h : Pow w) (hb : Below w.heap.size w w') : Pow w' := var?_below hb gPow h.lt h
def txt (n : Int) : ByteArray := ⟨(Lib.itoa n).toArray⟩
theorem txt_size (n : Int) : (txt n).size = (Lib.itoa n).length := by simp [txt, ByteArray.size]
theorem below_grow {w : World} (k : Nat) (os : Array Obj) : Below w.heap.size w (Go.Sort.grow (w.drewN k) os) := by
  refine ⟨rfl, rfl, rfl, ?_, ?_⟩
  · simp [Go.Sort.grow]
  · intro j hj
    show (w.heap ++ os)[j]? = _
    rw [Array.getElem?_append_left hj]
set_option maxHeartbeats 400000 in
theorem Text_any (n : Int) (w : World) (h0 : -9223372036854775808 ≤ n) (h1 : n ≤ 9223372036854775807) (hT : Pow w) :
    Calls Tryz.prog 55 #[.int .i64 n] w fun e w' => e = .returned (.string (txt n)) ∧ Below w.heap.size w w' := by
  go_enter Tryz.func55, Tryz.ntmps55
  go_wp2_with (first
    | (go_at_call 84; refine (Tryz.strconv_FormatInt_10 n h0 h1 w hT).mono ?_; rintro e w1 ⟨rfl, k, os, rfl⟩))
  go_ret
  exact ⟨rfl, below_grow k os⟩
/-- The document's Pad: the digits, zeros ahead of them up to the size (20 at most), the sign ahead of all. -/
def padL (n size : Int) : List UInt8 :=
  (if n < 0 then [45] else []) ++ (List.replicate (min size 20 - ((Lib.decDigits n.natAbs).length : Int)).toNat 48 ++ Lib.decDigits n.natAbs)
theorem str_of {b : ByteArray} {l : List UInt8} (h : b.data.toList = l) : Value.string b = strV l := by rw [← h, strV_data]
theorem ret_str {b : ByteArray} {l : List UInt8} (h : b.data.toList = l) : Ending.returned (.string b) = .returned (strV l) := by rw [str_of h]
theorem txt_data (n : Int) : (txt n).data.toList = Lib.itoa n := by simp [txt]
theorem itoa_neg' (n : Int) (h : n < 0) : Lib.itoa n = 45 :: Lib.decDigits n.natAbs := by rw [Lib.itoa, if_pos h]
theorem itoa_pos' (n : Int) (h : 0 ≤ n) : Lib.itoa n = Lib.decDigits n.natAbs := by
  rw [Lib.itoa, if_neg (by omega)]
  congr 1
  omega
/-- The text of one byte. -/
def one (n : Int) : ByteArray := strOfNums [n]
theorem one_size (n : Int) : (one n).size = 1 := by unfold one; rw [strOfNums_size]; rfl
theorem one_data (n : Int) : (one n).data.toList = [UInt8.ofNat n.toNat] := rfl
theorem conv_one (W : World) (n : Int) : (convert 53 9 (.slice (some ⟨W.heap.size, 0, none⟩) 1 1)).run Tryz.prog (W.alloc (.cells #[.int .u8 n] 5)) = .ok (.string (one n)) (W.alloc (.cells #[.int .u8 n] 5)) :=
  run_convert_bytes_arg (P := Tryz.prog) (W.alloc (.cells #[.int .u8 n] 5)) 53 5 Tryz.underlying53 Tryz.underlying5 W.heap.size 0 1 1 [n] rfl (fun i hi => by
    have : i = 0 := by omega
    subst this
    simp) 9 Tryz.underlying9
theorem one_digit (m : Nat) : (one (48 + ↑m % 10)).data.toList = [UInt8.ofNat (48 + m % 10)] := by
  rw [one_data, show (48 + (m : Int) % 10).toNat = 48 + m % 10 from by omega]
theorem dec_small (m : Nat) (h : m < 10) : Lib.decDigits m = (one (48 + ↑m % 10)).data.toList := by
  rw [Lib.decDigits, dif_pos h, one_digit, Nat.mod_eq_of_lt h]
theorem dec_big (m : Nat) (h : ¬ m < 10) : Lib.decDigits m = Lib.decDigits (m / 10) ++ (one (48 + ↑m % 10)).data.toList := by
  rw [Lib.decDigits, dif_neg h, one_digit]
set_option maxHeartbeats 400000 in
theorem Rdigits_any (u : Nat) (w : World) (hu : u < 18446744073709551616) :
    Calls Tryz.prog 109 #[.int .u64 u] w fun e w' => e = .returned (strV (Lib.decDigits u)) ∧ Below w.heap.size w w' := by
  have hu20 := Lib.nDigits_le20 u (by omega)
  go_enter Tryz.func109, Tryz.ntmps109
  go_wp2
  go_loopw [0, 3] (fun n s wr => ∃ (m : Nat) (b : ByteArray), m < 18446744073709551616 ∧ n = .int .u64 m ∧ s = .string b ∧ b.size ≤ 20 ∧ Hid (Lib.decDigits m ++ b.data.toList = Lib.decDigits u) ∧ Below w.heap.size w wr) (fun n _ _ => (intOf n).toNat)
  case atStart => exact ⟨u, ⟨#[]⟩, hu, rfl, rfl, by decide, by show _ = _; simp, Below.refl _ _⟩
  case round =>
    obtain ⟨m, b, hm, rfl, rfl, hbs, HE, hbel⟩ := hrel
    have hconv := conv_one wr (48 + ↑m % 10)
    have h1 := one_size (48 + ↑m % 10)
    have h1' : (one (48 + ↑m % 10)).size ≤ 1 := by omega
    clear h1
    by_cases h10 : m < 10
    · have hq : ((↑m / 10 : Int) == 0) = true := by rw [beq_iff_eq]; omega
      have HF : Hid ((one (48 + ↑m % 10) ++ b).data.toList = Lib.decDigits u) := by
        show _ = _
        rw [← HE.out, dec_small m h10, ByteArray.data_append, Array.toList_append]
      go_wp2
      go_ret
      exact ⟨ret_str HF.out, hbel.alloc hbel.size _⟩
    · have hq : ((↑m / 10 : Int) == 0) = false := by rw [beq_eq_false_iff_ne]; omega
      have HF : Hid (Lib.decDigits (m / 10) ++ (one (48 + ↑m % 10) ++ b).data.toList = Lib.decDigits u) := by
        show _ = _
        rw [← HE.out, dec_big m h10, ByteArray.data_append, Array.toList_append, List.append_assoc]
      have HS : Hid ((one (48 + ↑m % 10) ++ b).size ≤ 20) := by
        show _ ≤ _
        have := congrArg List.length HF.out
        rw [List.length_append, Lib.decDigits_length, Lib.decDigits_length] at this
        have h2 := size_data (one (48 + ↑m % 10) ++ b)
        omega
      go_wp2
      go_roundw
      case rel => exact ⟨m / 10, _, by omega, by go_num, rfl, HS.out, HF, hbel.alloc hbel.size _⟩
      case measure => simp [intOf]; omega
theorem Rdigits_int (x : Int) (w : World) (h0 : 0 ≤ x) (h1 : x < 18446744073709551616) :
    Calls Tryz.prog 109 #[.int .u64 x] w fun e w' => e = .returned (strV (Lib.decDigits x.toNat)) ∧ Below w.heap.size w w' := by
  obtain ⟨u, rfl⟩ := Int.eq_ofNat_of_zero_le h0
  exact Rdigits_any u w (by omega)
def strOf : Value → ByteArray
  | .string b => b
  | _ => ⟨#[]⟩
set_option maxHeartbeats 400000 in
theorem RPad_neg (n size : Int) (w : World) (h0 : -9223372036854775808 ≤ n) (h1 : n < 0) :
    Calls Tryz.prog 83 #[.int .i64 n, .int .i64 size] w fun e w' => e = .returned (strV (padL n size)) ∧ Below w.heap.size w w' := by
  have hd20 := Lib.nDigits_le20 n.natAbs (by omega)
  rw [← Lib.decDigits_length] at hd20
  have HP : Hid (padL n size = [45] ++ (List.replicate (min size 20 - ((Lib.decDigits n.natAbs).length : Int)).toNat 48 ++ Lib.decDigits n.natAbs)) := by
    show _ = _
    unfold padL
    rw [if_pos h1]
  go_enter Tryz.func83, Tryz.ntmps83
  go_wp2_with (first
    | (go_at_call 109; refine (Rdigits_int _ _ (by omega) (by omega)).mono ?_; rintro e w1 ⟨rfl, hb⟩))
  go_loop [6] (fun d => ∃ (b : ByteArray) (j : Nat), d = .string b ∧ b.size ≤ 20 ∧ j ≤ (min size 20 - ((Lib.decDigits n.natAbs).length : Int)).toNat ∧ Hid (b.data.toList = List.replicate j 48 ++ Lib.decDigits n.natAbs)) (fun d => 20 - (strOf d).size)
  case atStart => exact ⟨_, 0, by show strV _ = _; rw [show (-(n + 1) + 1).toNat = n.natAbs from by omega]; rfl, by rw [str_size]; exact hd20, Nat.zero_le _, str_data _⟩
  case round =>
    obtain ⟨b, j, rfl, hbs, hj, HB⟩ := hrel
    have hsz : b.size = j + (Lib.decDigits n.natAbs).length := by
      have := congrArg List.length HB.out
      rw [List.length_append, List.length_replicate, ← size_data] at this
      exact this
    have HZ : Hid (b.size = j + (Lib.decDigits n.natAbs).length) := hsz
    clear hsz
    by_cases hlt : (b.size : Int) < min size 20
    · have HN : Hid (({ data := #[48] } ++ b : ByteArray).data.toList = List.replicate (j + 1) 48 ++ Lib.decDigits n.natAbs) := by
        show _ = _
        rw [ByteArray.data_append, Array.toList_append, HB.out]
        rfl
      have HS : Hid (({ data := #[48] } ++ b : ByteArray).size = b.size + 1) := by
        show _ = _
        rw [size_data, HN.out, List.length_append, List.length_replicate, HZ.out]
        omega
      go_wp2
      go_round
      case rel => exact ⟨_, j + 1, rfl, by have := HS.out; omega, by have := HZ.out; omega, HN⟩
      case measure =>
        have := HS.out
        show 20 - ({ data := #[48] } ++ b : ByteArray).size < 20 - b.size
        omega
    · have HF : Hid (({ data := #[45] } ++ b : ByteArray).data.toList = padL n size) := by
        show _ = _
        have hz := HZ.out
        rw [HP.out, show (min size 20 - ((Lib.decDigits n.natAbs).length : Int)).toNat = j from by omega, ← HB.out]
        rw [ByteArray.data_append, Array.toList_append]
      go_wp2
      go_ret
      exact ⟨ret_str HF.out, hb⟩
set_option maxHeartbeats 400000 in
theorem RPad_pos (n size : Int) (w : World) (h0 : 0 ≤ n) (h1 : n ≤ 9223372036854775807) :
    Calls Tryz.prog 83 #[.int .i64 n, .int .i64 size] w fun e w' => e = .returned (strV (padL n size)) ∧ Below w.heap.size w w' := by
  have hd20 := Lib.nDigits_le20 n.natAbs (by omega)
  rw [← Lib.decDigits_length] at hd20
  have HP : Hid (padL n size = [] ++ (List.replicate (min size 20 - ((Lib.decDigits n.natAbs).length : Int)).toNat 48 ++ Lib.decDigits n.natAbs)) := by
    show _ = _
    unfold padL
    rw [if_neg (by omega)]
  go_enter Tryz.func83, Tryz.ntmps83
  go_wp2_with (first
    | (go_at_call 109; refine (Rdigits_int _ _ (by omega) (by omega)).mono ?_; rintro e w1 ⟨rfl, hb⟩))
  go_loop [6] (fun d => ∃ (b : ByteArray) (j : Nat), d = .string b ∧ b.size ≤ 20 ∧ j ≤ (min size 20 - ((Lib.decDigits n.natAbs).length : Int)).toNat ∧ Hid (b.data.toList = List.replicate j 48 ++ Lib.decDigits n.natAbs)) (fun d => 20 - (strOf d).size)
  case atStart => exact ⟨_, 0, by show strV _ = _; rw [show n.toNat = n.natAbs from by omega]; rfl, by rw [str_size]; exact hd20, Nat.zero_le _, str_data _⟩
  case round =>
    obtain ⟨b, j, rfl, hbs, hj, HB⟩ := hrel
    have hsz : b.size = j + (Lib.decDigits n.natAbs).length := by
      have := congrArg List.length HB.out
      rw [List.length_append, List.length_replicate, ← size_data] at this
      exact this
    have HZ : Hid (b.size = j + (Lib.decDigits n.natAbs).length) := hsz
    clear hsz
    by_cases hlt : (b.size : Int) < min size 20
    · have HN : Hid (({ data := #[48] } ++ b : ByteArray).data.toList = List.replicate (j + 1) 48 ++ Lib.decDigits n.natAbs) := by
        show _ = _
        rw [ByteArray.data_append, Array.toList_append, HB.out]
        rfl
      have HS : Hid (({ data := #[48] } ++ b : ByteArray).size = b.size + 1) := by
        show _ = _
        rw [size_data, HN.out, List.length_append, List.length_replicate, HZ.out]
        omega
      go_wp2
      go_round
      case rel => exact ⟨_, j + 1, rfl, by have := HS.out; omega, by have := HZ.out; omega, HN⟩
      case measure =>
        have := HS.out
        show 20 - ({ data := #[48] } ++ b : ByteArray).size < 20 - b.size
        omega
    · have HF : Hid ((b).data.toList = padL n size) := by
        show _ = _
        have hz := HZ.out
        rw [HP.out, show (min size 20 - ((Lib.decDigits n.natAbs).length : Int)).toNat = j from by omega, ← HB.out]
        rfl
      go_wp2
      go_ret
      exact ⟨ret_str HF.out, hb⟩
theorem RPad_any (n size : Int) (w : World) (h0 : -9223372036854775808 ≤ n) (h1 : n ≤ 9223372036854775807) :
    Calls Tryz.prog 83 #[.int .i64 n, .int .i64 size] w fun e w' => e = .returned (strV (padL n size)) ∧ Below w.heap.size w w' := by
  by_cases h : n < 0
  · exact RPad_neg n size w h0 h
  · exact RPad_pos n size w (by omega) h1
theorem padL_one (n : Int) : padL n 1 = Lib.itoa n := by
  unfold padL
  have : 1 ≤ (Lib.decDigits n.natAbs).length := by rw [Lib.decDigits_length]; exact Lib.nDigits_pos _
  rw [show (min 1 20 - ((Lib.decDigits n.natAbs).length : Int)).toNat = 0 from by omega]
  by_cases h : n < 0
  · rw [if_pos h, itoa_neg' n h]
    rfl
  · rw [if_neg h, itoa_pos' n (by omega)]
    rfl
set_option maxHeartbeats 400000 in
theorem RText_any (n : Int) (w : World) (h0 : -9223372036854775808 ≤ n) (h1 : n ≤ 9223372036854775807) :
    Calls Tryz.prog 54 #[.int .i64 n] w fun e w' => e = .returned (.string (txt n)) ∧ Below w.heap.size w w' := by
  have HF : Hid (strV (padL n 1) = .string (txt n)) := by
    show _ = _
    rw [padL_one]
    rfl
  go_enter Tryz.func54, Tryz.ntmps54
  go_wp2_with (first
    | (go_at_call 83; refine (RPad_any n 1 _ h0 h1).mono ?_; rintro e w1 ⟨rfl, hb⟩; rw [HF.out]))
  go_ret
  exact ⟨rfl, hb⟩
end Go.Proofs.YtlkhjloeonbjaaaGreatDoor
