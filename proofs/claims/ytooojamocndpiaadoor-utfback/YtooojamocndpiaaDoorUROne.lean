/- The contracts of the reference's one and Put. -/
import Derived.Test.YtooojamocndpiaaDoorURef
import Derived.Test.YtooojamocndpiaaDoorUPut
namespace Go.Proofs.YtooojamocndpiaaDoor
open Go.RowKit
theorem owns_new (w : World) (xs : List Value) (l : List UInt8) (n : Nat) (h : cellsB l = xs) (hn : l.length = n) (hl : n ≤ 100) :
    OwnsBytes (w.alloc (.cells xs.toArray 5)) w.heap.size (.slice (some ⟨w.heap.size, 0, none⟩) n n) l := by
  subst h hn
  refine ⟨by rw [cellsB_length, Nat.mul_one], .inr ⟨w.heap.size, l.length, _, rfl, Nat.le_refl _, heap_new w _, Nat.le_refl _, by unfold maxLen; omega, ?_, ?_⟩⟩
  · rw [List.size_toArray, cellsB_length, Nat.mul_one]
  · rw [Nat.mul_one]
    exact List.take_of_length_le (by rw [cellsB_length]; exact Nat.le_refl _)
theorem cells_rune (c : Int) : cellsB (Lib.encodeRune c) = Lib.runeCells c := by rw [cellsB_byteCells, Lib.byteCells_encodeRune]
theorem enc_none {c : Int} (h : Utf.right c = false) : Lib.encodeRune c = Lib.encodeRune 65533 := by
  rw [← Utf.encode_mend c]
  unfold Utf.mend
  rw [h]
  rfl
end Go.Proofs.YtooojamocndpiaaDoor
