/- Texts laid as one. -/
import Derived.Test.YtiodaahncadodaaGreatDoorKUPart
import Derived.Laws.BitsAllLaws
import Derived.Test.YtiodaahncadodaaGreatDoorKUPut
/- The contracts of the reference's small functions, and of its Next. -/
namespace Utf
/-- The number that i bytes tell of a sign of n bytes. -/
def off (n : Nat) : Int := if n = 2 then 192 else if n = 3 then 224 else if n = 4 then 240 else 0
def valAt (l : List UInt8) (o : Int) : Nat → Int
  | 0 => 0
  | 1 => (at' l 0 : Int) - o
  | (i + 2) => valAt l o (i + 1) * 64 + (at' l (i + 1) : Int) - 128
theorem val_1 (l : List UInt8) (o : Int) : valAt l o 1 = (at' l 0 : Int) - o := rfl
theorem val_s (l : List UInt8) (o : Int) (i : Nat) (h : 1 ≤ i) : valAt l o (i + 1) = valAt l o i * 64 + (at' l i : Int) - 128 := by
  cases i with
  | zero => omega
  | succ i => rfl
theorem whole_sz (l : List UInt8) (hw : (part l).2 = true) : (part l).1 = sz (at' l 0) ∧ 1 ≤ sz (at' l 0) := by
  have hs4 := sz_le4 (at' l 0)
  unfold part partN at *
  revert hw
  repeat' split
  all_goals intro hw
  all_goals first | (cases hw; done) | skip
  all_goals dsimp only
  all_goals omega
theorem val_bd (l : List UInt8) (hw : (part l).2 = true) (i : Nat) (h1 : 1 ≤ i) (hi : i < sz (at' l 0)) : 0 ≤ valAt l (off (sz (at' l 0))) i ∧ valAt l (off (sz (at' l 0))) i ≤ 30000 := by
  obtain ⟨e1, e2⟩ := whole_sz l hw
  have cont : ∀ j, 1 ≤ j → j < sz (at' l 0) → 128 ≤ at' l j ∧ at' l j ≤ 191 := fun j a b => part_cont l j a (by omega)
  have hs4 := sz_le4 (at' l 0)
  have v1 : valAt l (off (sz (at' l 0))) 1 = _ := rfl
  have v2 : valAt l (off (sz (at' l 0))) 2 = _ := val_s l _ 1 (by omega)
  have v3 : valAt l (off (sz (at' l 0))) 3 = _ := val_s l _ 2 (by omega)
  rcases sz_inv (at' l 0) (by omega) with q | q | q | q
  · omega
  · have : off (sz (at' l 0)) = 192 := by rw [q.1]; rfl
    obtain rfl : i = 1 := by omega
    rw [val_1, this]; omega
  · have : off (sz (at' l 0)) = 224 := by rw [q.1]; rfl
    have c1 := cont 1 (by omega) (by omega)
    obtain rfl | rfl : i = 1 ∨ i = 2 := by omega
    · rw [val_1, this]; omega
    · rw [v2, val_1, this]; omega
  · have : off (sz (at' l 0)) = 240 := by rw [q.1]; rfl
    have c1 := cont 1 (by omega) (by omega)
    have c2 := cont 2 (by omega) (by omega)
    obtain rfl | rfl | rfl : i = 1 ∨ i = 2 ∨ i = 3 := by omega
    · rw [val_1, this]; omega
    · rw [v2, val_1, this]; omega
    · rw [v3, v2, val_1, this]; omega
end Utf
namespace Go.Proofs.YtiodaahncadodaaGreatDoor
open Go.RowKit
end Go.Proofs.YtiodaahncadodaaGreatDoor
/- The contracts of the reference's one and Put. -/
namespace Go.Proofs.YtiodaahncadodaaGreatDoor
open Go.RowKit
end Go.Proofs.YtiodaahncadodaaGreatDoor
/- The contract of the reference's Put. -/
namespace Go.Proofs.YtiodaahncadodaaGreatDoor
open Go.RowKit
theorem OwnsBytes.below {W W' : World} {B : Nat} {v : Value} {l : List UInt8} (h : OwnsBytes W B v l) (hb : Below W.heap.size W W') : OwnsBytes W' B v l := by
  refine ⟨h.1, ?_⟩
  rcases h.2 with h2 | ⟨g, cap, cur, h1, h2, h3, h4⟩
  · exact .inl h2
  · refine .inr ⟨g, cap, cur, h1, h2, ?_, h4⟩
    rw [hb.block g (Array.getElem?_eq_some_iff.1 h3).1]
    exact h3
end Go.Proofs.YtiodaahncadodaaGreatDoor
