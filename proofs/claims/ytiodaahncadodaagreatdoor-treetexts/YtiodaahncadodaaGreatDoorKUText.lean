/- The contract of utf.IsText: a range over the bytes, sign by sign. -/
import Derived.Test.YtiodaahncadodaaGreatDoorKUCut
import Derived.Test.YtiodaahncadodaaGreatDoorKShelf
import Derived.Laws.RangeAny
namespace Go.Proofs.YtiodaahncadodaaGreatDoor
open Go.RowKit
theorem get_str (l : List UInt8) (i : Nat) : ((str l).get! i).toNat = Utf.at' l i := by
  unfold Utf.at' str
  rw [List.getD_eq_getElem?_getD]
  simp [ByteArray.get!]
  rfl
/-- What a range over a text meets at a place. -/
theorem dec_at (l : List UInt8) (k : Nat) : Utf8.decode (str l) k = Utf.dec (l.drop k) := by
  rw [Lib.decode_at, str_size, get_str, get_str, get_str, get_str]
  unfold Utf.dec
  rw [List.length_drop, Utf.at_drop, Utf.at_drop, Utf.at_drop, Utf.at_drop]
  rfl
theorem next_any (l : List UInt8) (wr : World) (b k : Nat) (hit : wr.heap[b]? = some (.stringIter (str l) k)) (hk : k < l.length) (ty : TypeId) :
    (Instr.next (.pointer (some ⟨b, 0, none⟩)) true ty).run Tryz.prog wr = .ok (.tuple #[.bool true, .int .i64 k, .int .i32 (Utf.dec (l.drop k)).1]) (wr.iterAt b (str l) (k + (Utf.dec (l.drop k)).2)) := by
  have := Lib.run_next_any_at (P := Tryz.prog) wr b (str l) k ty hit (by rw [str_size]; exact hk)
  rw [dec_at] at this
  exact this
theorem iter_end (l : List UInt8) (wr : World) (b k : Nat) (hit : wr.heap[b]? = some (.stringIter (str l) k)) (hk : ¬ k < l.length) (ty : TypeId) :
    (Instr.next (.pointer (some ⟨b, 0, none⟩)) true ty).run Tryz.prog wr = .ok (.tuple #[.bool false]) wr :=
  Lib.run_next_end_at (P := Tryz.prog) wr b (str l) k ty hit (by rw [str_size]; exact hk)
end Go.Proofs.YtiodaahncadodaaGreatDoor
