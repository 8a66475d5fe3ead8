/- Texts laid as one. -/
import Derived.Test.YtoiedadfpbbdgaaKBase
import Derived.Test.YtoiedadfpbbdgaaKMath
import Derived.OwnWalk
import Derived.Test.YtoiedadfpbbdgaaKShelf
import Derived.Laws.RangeAny
/- The contracts of utf.shape and utf.part. -/
namespace Utf
def lo' (b : Nat) : Nat := if sz b ≤ 1 then 0 else lo b
def hi' (b : Nat) : Nat := if sz b ≤ 1 then 0 else hi b
def lowAt (b k : Nat) : Nat := if k = 1 then lo' b else 128
def highAt (b k : Nat) : Nat := if k = 1 then hi' b else 191
theorem sz_le4 (b : Nat) : sz b ≤ 4 := by
  unfold sz
  repeat' split
  all_goals omega
theorem lo_hi' {b : Nat} (h : ¬ sz b ≤ 1) : lo' b = lo b ∧ hi' b = hi b := by unfold lo' hi'; rw [if_neg h, if_neg h]; exact ⟨rfl, rfl⟩
theorem bad_at (b k x : Nat) (h : 1 < sz b) (hb : x < lowAt b k ∨ highAt b k < x) : (k = 1 → x < lo b ∨ hi b < x) ∧ (k ≠ 1 → x < 128 ∨ 191 < x) := by
  have e' := lo_hi' (b := b) (by omega)
  unfold lowAt highAt at hb
  rw [e'.1, e'.2] at hb
  constructor
  · intro e; rw [if_pos e, if_pos e] at hb; exact hb
  · intro e; rw [if_neg e, if_neg e] at hb; exact hb
theorem good_at (b k x : Nat) (h : 1 < sz b) (hb : ¬ (x < lowAt b k ∨ highAt b k < x)) : (k = 1 → lo b ≤ x ∧ x ≤ hi b) ∧ (k ≠ 1 → 128 ≤ x ∧ x ≤ 191) := by
  have e' := lo_hi' (b := b) (by omega)
  unfold lowAt highAt at hb
  rw [e'.1, e'.2] at hb
  constructor
  · intro e; rw [if_pos e, if_pos e] at hb; omega
  · intro e; rw [if_neg e, if_neg e] at hb; omega
theorem part_fail (l : List UInt8) (k : Nat) (h1 : 1 ≤ k) (hk : k ≤ (part l).1) (hs : k < sz (at' l 0)) (hb : at' l k < lowAt (at' l 0) k ∨ highAt (at' l 0) k < at' l k) : part l = (k, false) := by
  have hs4 := sz_le4 (at' l 0)
  obtain ⟨b1, b2⟩ := bad_at _ _ _ (by omega) hb
  clear hb
  have h3 : k = 1 ∨ k = 2 ∨ k = 3 := by omega
  unfold part partN at *
  revert hk
  rcases h3 with rfl | rfl | rfl
  · have := b1 rfl
    repeat' split
    all_goals intro hk
    all_goals first | rfl | (exfalso; omega)
  · have := b2 (by omega)
    repeat' split
    all_goals intro hk
    all_goals dsimp only at hk
    all_goals first | rfl | (exfalso; omega)
  · have := b2 (by omega)
    repeat' split
    all_goals intro hk
    all_goals dsimp only at hk
    all_goals first | rfl | (exfalso; omega)
theorem part_good (l : List UInt8) (k : Nat) (h1 : 1 ≤ k) (hk : k ≤ (part l).1) (hs : k < sz (at' l 0)) (hl : k < l.length) (hb : ¬ (at' l k < lowAt (at' l 0) k ∨ highAt (at' l 0) k < at' l k)) : k + 1 ≤ (part l).1 := by
  have hs4 := sz_le4 (at' l 0)
  obtain ⟨b1, b2⟩ := good_at _ _ _ (by omega) hb
  clear hb
  have h3 : k = 1 ∨ k = 2 ∨ k = 3 := by omega
  unfold part partN at *
  revert hk
  rcases h3 with rfl | rfl | rfl
  · have := b1 rfl
    repeat' split
    all_goals intro hk
    all_goals dsimp only at hk ⊢
    all_goals omega
  · have := b2 (by omega)
    repeat' split
    all_goals intro hk
    all_goals dsimp only at hk ⊢
    all_goals omega
  · have := b2 (by omega)
    repeat' split
    all_goals intro hk
    all_goals dsimp only at hk ⊢
    all_goals omega
theorem part_end (l : List UInt8) (k : Nat) (h : l ≠ []) (h1 : 1 ≤ k) (hk : k ≤ (part l).1) (hs : ¬ (k < sz (at' l 0) ∧ k < l.length)) : part l = (k, decide (k = sz (at' l 0))) := by
  have h4 := part_le4 l
  have hn := len_pos h
  have hs4 := sz_le4 (at' l 0)
  have hk4 : k ≤ 4 := by omega
  unfold part partN at *
  revert hk
  repeat' split
  all_goals intro hk
  all_goals dsimp only at hk
  all_goals first | (exfalso; omega) | skip
  all_goals rw [Prod.mk.injEq]
  all_goals refine ⟨by omega, ?_⟩
  all_goals symm
  all_goals first | (apply decide_eq_true; omega) | (apply decide_eq_false; omega)
end Utf
namespace Go.Proofs.Ytoiedadfpbbdgaa
open Go.RowKit
theorem at_get (s : ByteArray) (k : Nat) (h : k < s.size) : s[k].toNat = Utf.at' s.data.toList k := by
  unfold Utf.at'
  rw [List.getD_eq_getElem?_getD, List.getElem?_eq_getElem (show k < s.data.toList.length from h)]
  rfl
theorem quiet_more {w wr : World} (h : ∃ m, wr = w.drewN m) (n : Nat) : ∃ m, wr.drewN n = w.drewN m := by
  obtain ⟨m, rfl⟩ := h
  exact ⟨m + n, World.drewN_drewN _ _ _⟩
end Go.Proofs.Ytoiedadfpbbdgaa
/- The contracts of utf.Cut, and of the law's own 'long'. -/
namespace Go.Proofs.Ytoiedadfpbbdgaa
open Go.RowKit
theorem drop_ne {l : List UInt8} {k : Nat} (h : k < l.length) : l.drop k ≠ [] := by
  intro e
  have := congrArg List.length e
  rw [List.length_drop, List.length_nil] at this
  omega
end Go.Proofs.Ytoiedadfpbbdgaa
/- The contract of utf.IsText: a range over the bytes, sign by sign. -/
namespace Go.Proofs.Ytoiedadfpbbdgaa
open Go.RowKit
end Go.Proofs.Ytoiedadfpbbdgaa
