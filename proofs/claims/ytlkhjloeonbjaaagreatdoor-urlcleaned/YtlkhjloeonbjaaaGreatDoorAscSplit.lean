/- Plain functions: a text split at a byte. -/
import Derived.Test.YtlkhjloeonbjaaaGreatDoorAscMath
namespace Asc
/-- One byte more: the parts that are whole, and the one that is under way. -/
def sstep (b : UInt8) (st : List (List UInt8) × List UInt8) (c : UInt8) : List (List UInt8) × List UInt8 :=
  if c = b then (st.1 ++ [st.2], []) else (st.1, st.2 ++ [c])
def sst (b : UInt8) (l : List UInt8) : List (List UInt8) × List UInt8 := l.foldl (sstep b) ([], [])
def split (l : List UInt8) (b : UInt8) : List (List UInt8) := (sst b l).1 ++ [(sst b l).2]
theorem sst_snoc (b : UInt8) (l : List UInt8) (c : UInt8) : sst b (l ++ [c]) = sstep b (sst b l) c := by simp [sst, List.foldl_append]
theorem sst_next (b : UInt8) (l : List UInt8) (k : Nat) (h : k < l.length) : sst b (l.take (k + 1)) = sstep b (sst b (l.take k)) l[k] := by
  rw [take_snoc l k h, sst_snoc]
theorem sst_len (b : UInt8) (l : List UInt8) : (sst b l).1.length ≤ l.length ∧ (sst b l).2.length ≤ l.length := by
  refine snoc_ind (P := fun l => (sst b l).1.length ≤ l.length ∧ (sst b l).2.length ≤ l.length) ?_ ?_ l
  · simp [sst]
  · intro l c ih
    rw [sst_snoc]
    unfold sstep
    split
    · simp; omega
    · simp; omega
theorem split_cut (b : UInt8) (l : List UInt8) (k f : Nat) (h : k < l.length) (hb : l[k] = b) (hc : (sst b (l.take k)).2 = (l.take k).drop f) :
    sst b (l.take (k + 1)) = ((sst b (l.take k)).1 ++ [(l.take k).drop f], []) := by
  rw [sst_next b l k h, sstep, if_pos hb, hc]
theorem split_on (b : UInt8) (l : List UInt8) (k f : Nat) (h : k < l.length) (hb : ¬ l[k] = b) (hf : f ≤ k) (hc : (sst b (l.take k)).2 = (l.take k).drop f) :
    sst b (l.take (k + 1)) = ((sst b (l.take k)).1, (l.take (k + 1)).drop f) := by
  rw [sst_next b l k h, sstep, if_neg hb, hc, take_snoc l k h, List.drop_append_of_le_length (by rw [List.length_take]; omega)]
end Asc
