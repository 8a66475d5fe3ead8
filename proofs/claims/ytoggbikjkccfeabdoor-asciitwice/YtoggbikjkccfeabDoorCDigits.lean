/- Contracts of the reference's digits, Pad and Text. -/
import Derived.Test.YtoggbikjkccfeabDoorCPad
import Derived.PlainAid
import Derived.Laws.BytesArg
namespace Go.Proofs.YtoggbikjkccfeabDoor
open Go.RowKit
/-- The text of one byte. -/
def one (n : Int) : ByteArray := strOfNums [n]
theorem one_size (n : Int) : (one n).size = 1 := by unfold one; rw [strOfNums_size]; rfl
theorem one_data (n : Int) : (one n).data.toList = [UInt8.ofNat n.toNat] := rfl
theorem conv_one (W : World) (n : Int) : (convert 30 9 (.slice (some ⟨W.heap.size, 0, none⟩) 1 1)).run Tryd.prog (W.alloc (.cells #[.int .u8 n] 5)) = .ok (.string (one n)) (W.alloc (.cells #[.int .u8 n] 5)) :=
  run_convert_bytes_arg (P := Tryd.prog) (W.alloc (.cells #[.int .u8 n] 5)) 30 5 Tryd.underlying30 Tryd.underlying5 W.heap.size 0 1 1 [n] rfl (fun i hi => by
    have : i = 0 := by omega
    subst this
    simp) 9 Tryd.underlying9
theorem one_digit (m : Nat) : (one (48 + ↑m % 10)).data.toList = [UInt8.ofNat (48 + m % 10)] := by
  rw [one_data, show (48 + (m : Int) % 10).toNat = 48 + m % 10 from by omega]
theorem dec_small (m : Nat) (h : m < 10) : Lib.decDigits m = (one (48 + ↑m % 10)).data.toList := by
  rw [Lib.decDigits, dif_pos h, one_digit, Nat.mod_eq_of_lt h]
theorem dec_big (m : Nat) (h : ¬ m < 10) : Lib.decDigits m = Lib.decDigits (m / 10) ++ (one (48 + ↑m % 10)).data.toList := by
  rw [Lib.decDigits, dif_neg h, one_digit]
theorem size_data (b : ByteArray) : b.size = b.data.toList.length := Array.length_toList.symm
/-- The text that holds these bytes. -/
def str (l : List UInt8) : ByteArray := ⟨l.toArray⟩
theorem str_size (l : List UInt8) : (str l).size = l.length := by simp [str, ByteArray.size]
theorem str_data (l : List UInt8) : (str l).data.toList = l := by simp [str]
def strOf : Value → ByteArray
  | .string b => b
  | _ => ⟨#[]⟩
theorem padL_one (n : Int) : padL n 1 = Lib.itoa n := by
  unfold padL
  have : 1 ≤ (Lib.decDigits n.natAbs).length := by rw [Lib.decDigits_length]; exact Lib.nDigits_pos _
  rw [show (min 1 20 - ((Lib.decDigits n.natAbs).length : Int)).toNat = 0 from by omega]
  by_cases h : n < 0
  · rw [if_pos h, itoa_neg' n h]
    rfl
  · rw [if_neg h, itoa_pos' n (by omega)]
    rfl
end Go.Proofs.YtoggbikjkccfeabDoor
