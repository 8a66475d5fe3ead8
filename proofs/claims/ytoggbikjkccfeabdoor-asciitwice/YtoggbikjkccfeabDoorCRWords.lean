/- The contract of the reference's Words. -/
import Derived.Test.YtoggbikjkccfeabDoorCTrim
import Derived.Test.YtoggbikjkccfeabDoorCRNum
namespace Go.Proofs.YtoggbikjkccfeabDoor
open Go.RowKit
theorem cut_one (s : ByteArray) (k : Nat) (h : k < s.size) : (s.extract k (k + 1)).data.toList = [s[k]] := by
  rw [data_cut, List.take_succ_eq_append_getElem (show k < s.data.toList.length from by rw [← size_data]; exact h), List.drop_append_of_le_length (by rw [List.length_take, ← size_data]; omega), List.drop_eq_nil_of_le (by rw [List.length_take]; omega)]
  rfl
theorem add_one (b s : ByteArray) (k : Nat) (h : k < s.size) : (b ++ s.extract k (k + 1)).data.toList = b.data.toList ++ [s[k]] := by
  rw [ByteArray.data_append, Array.toList_append, cut_one s k h]
theorem add_one_size (b s : ByteArray) (k : Nat) (h : k < s.size) : (b ++ s.extract k (k + 1)).size = b.size + 1 := by
  rw [size_data, add_one b s k h, List.length_append, ← size_data]
  rfl
theorem rw_letter (s : ByteArray) (k : Nat) (h : k < s.size) (hb : Asc.isBlank s[k] = false) : Asc.wst (s.data.toList.take (k + 1)) = ((Asc.wst (s.data.toList.take k)).1, (Asc.wst (s.data.toList.take k)).2 ++ [s[k]]) := by
  have e : Asc.wst (s.data.toList.take (k + 1)) = Asc.wstep (Asc.wst (s.data.toList.take k)) s[k] := Asc.wst_next s.data.toList k h
  rw [e, Asc.wstep, hb]
  rfl
theorem rw_word (s : ByteArray) (k : Nat) (h : k < s.size) (hb : Asc.isBlank s[k] = true) (hw : (Asc.wst (s.data.toList.take k)).2 ≠ []) : Asc.wst (s.data.toList.take (k + 1)) = ((Asc.wst (s.data.toList.take k)).1 ++ [(Asc.wst (s.data.toList.take k)).2], []) := by
  have e : Asc.wst (s.data.toList.take (k + 1)) = Asc.wstep (Asc.wst (s.data.toList.take k)) s[k] := Asc.wst_next s.data.toList k h
  rw [e, Asc.wstep, if_pos hb, if_neg (by simpa using hw)]
theorem rw_gap (s : ByteArray) (k : Nat) (h : k < s.size) (hb : Asc.isBlank s[k] = true) (hw : (Asc.wst (s.data.toList.take k)).2 = []) : Asc.wst (s.data.toList.take (k + 1)) = ((Asc.wst (s.data.toList.take k)).1, []) := by
  have e : Asc.wst (s.data.toList.take (k + 1)) = Asc.wstep (Asc.wst (s.data.toList.take k)) s[k] := Asc.wst_next s.data.toList k h
  rw [e, Asc.wstep, if_pos hb, hw]
  rfl
/-- What the loop holds at its head: the words that are whole, and the one under way; behind the text's end nothing is under way. -/
def RWAt (s : ByteArray) (k : Nat) (ts : List (List UInt8)) (b : ByteArray) : Prop :=
  (k ≤ s.size ∧ ts = (Asc.wst (s.data.toList.take k)).1 ∧ b.data.toList = (Asc.wst (s.data.toList.take k)).2) ∨ (k = s.size + 1 ∧ ts = Asc.words s.data.toList)
end Go.Proofs.YtoggbikjkccfeabDoor
