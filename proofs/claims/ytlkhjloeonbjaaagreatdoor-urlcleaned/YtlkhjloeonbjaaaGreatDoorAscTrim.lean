/- Plain functions: a text without the blanks at its ends. -/
import Derived.Test.YtlkhjloeonbjaaaGreatDoorAscMath
namespace Asc
def trimL (l : List UInt8) : List UInt8 := l.dropWhile isBlank
def trimR (l : List UInt8) : List UInt8 := (l.reverse.dropWhile isBlank).reverse
def trim (l : List UInt8) : List UInt8 := trimR (trimL l)
theorem trimL_next (l : List UInt8) (f : Nat) (h : f < l.length) (hb : isBlank l[f] = true) : trimL (l.drop (f + 1)) = trimL (l.drop f) := by
  unfold trimL
  rw [List.drop_eq_getElem_cons h, List.dropWhile_cons_of_pos hb]
theorem trimL_stop (l : List UInt8) (f : Nat) (h : f < l.length) (hb : isBlank l[f] = false) : trimL (l.drop f) = l.drop f := by
  unfold trimL
  rw [List.drop_eq_getElem_cons h, List.dropWhile_cons_of_neg (by simp [hb])]
theorem trimL_end (l : List UInt8) (f : Nat) (h : l.length ≤ f) : trimL (l.drop f) = l.drop f := by
  rw [List.drop_eq_nil_of_le h]; rfl
theorem trimR_blank (a : List UInt8) (c : UInt8) (h : isBlank c = true) : trimR (a ++ [c]) = trimR a := by
  unfold trimR
  rw [List.reverse_append, List.reverse_singleton, List.singleton_append, List.dropWhile_cons_of_pos h]
theorem trimR_stop (a : List UInt8) (c : UInt8) (h : isBlank c = false) : trimR (a ++ [c]) = a ++ [c] := by
  unfold trimR
  rw [List.reverse_append, List.reverse_singleton, List.singleton_append, List.dropWhile_cons_of_neg (by simp [h])]
  simp
theorem part_snoc (l : List UInt8) (f t : Nat) (h : t < l.length) (hf : f ≤ t) : (l.take (t + 1)).drop f = (l.take t).drop f ++ [l[t]] := by
  rw [List.take_succ_eq_append_getElem h, List.drop_append_of_le_length (by rw [List.length_take]; omega)]
theorem trimR_next (l : List UInt8) (f t : Nat) (h : t < l.length) (hf : f ≤ t) (hb : isBlank l[t] = true) : trimR ((l.take t).drop f) = trimR ((l.take (t + 1)).drop f) := by
  rw [part_snoc l f t h hf, trimR_blank _ _ hb]
theorem trimR_done (l : List UInt8) (f t : Nat) (h : t < l.length) (hf : f ≤ t) (hb : isBlank l[t] = false) : trimR ((l.take (t + 1)).drop f) = (l.take (t + 1)).drop f := by
  rw [part_snoc l f t h hf, trimR_stop _ _ hb]
theorem trimR_empty (l : List UInt8) (f t : Nat) (h : t ≤ f) : trimR ((l.take t).drop f) = (l.take t).drop f := by
  rw [List.drop_eq_nil_of_le (by rw [List.length_take]; omega)]; rfl
end Asc
