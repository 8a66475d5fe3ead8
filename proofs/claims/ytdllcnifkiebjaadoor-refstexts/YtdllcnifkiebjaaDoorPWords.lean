/- Slices of texts of the call's own. -/
import Derived.Test.YtdllcnifkiebjaaDoorPSmall
import Derived.Maps.AppendAt
namespace Go.Proofs.YtdllcnifkiebjaaDoor
open Go.RowKit
theorem info9 : (Tryd.prog.info? 9).map (fun i => (i.zero, i.size, i.bytes)) = some (some (.string ByteArray.empty), 1, 16) := by kernel_rfl
def strV (l : List UInt8) : Value := .string ⟨l.toArray⟩
theorem strV_data (s : ByteArray) : strV s.data.toList = .string s := by simp [strV]
theorem strV_cut (s : ByteArray) (f k : Nat) : strV ((s.data.toList.take k).drop f) = .string (s.extract f k) := by
  rw [← data_cut, strV_data]
/-- The slice owns these texts, in memory from 'B' on. -/
def OwnsTexts (w : World) (B : Nat) (v : Value) (ts : List (List UInt8)) : Prop := w.ownsRow B 9 1 v ts.length (ts.map strV)
theorem OwnsTexts.nil (w : World) (B : Nat) : OwnsTexts w B (.slice none 0 0) [] := World.ownsRow_nil _ _ _ _
theorem OwnsTexts.of {w : World} {B : Nat} {v : Value} {ts us : List (List UInt8)} {y : List UInt8} {x : Value} (h : us = ts ++ [y]) (hx : strV y = x) (ho : w.ownsRow B 9 1 v (ts.length + 1) (ts.map strV ++ [x])) : OwnsTexts w B v us := by
  subst h; subst hx
  unfold OwnsTexts
  simpa using ho
end Go.Proofs.YtdllcnifkiebjaaDoor
