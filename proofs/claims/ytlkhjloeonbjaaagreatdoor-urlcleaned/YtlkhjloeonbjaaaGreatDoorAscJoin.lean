/- Plain facts: parts joined. -/
import Derived.Test.YtlkhjloeonbjaaaGreatDoorAscMath
import Derived.Lib.Join
namespace Asc
open Go
theorem join_next (ts : List (List UInt8)) (sep t : List UInt8) (k : Nat) (h : ts[k]? = some t) : Lib.join (ts.take (k + 1)) sep = if k = 0 then t else Lib.join (ts.take k) sep ++ sep ++ t := by
  cases ts with
  | nil => simp at h
  | cons x r =>
    cases k with
    | zero =>
      simp at h
      subst h
      rw [if_pos rfl]
      exact Lib.join_one x sep
    | succ k =>
      rw [if_neg (by omega), List.take_succ_cons, List.take_succ_cons, Lib.join_cons, Lib.join_cons, Lib.joinTail_take_succ sep r k t (by simpa using h)]
      simp [List.append_assoc]
theorem join_len (ts : List (List UInt8)) (sep : List UInt8) : (Lib.join ts sep).length ≤ sep.length * ts.length + Lib.lens ts := by
  cases ts with
  | nil => simp [Lib.join_nil]
  | cons x r =>
    rw [Lib.join_cons, List.length_append, Lib.joinTail_length, List.length_cons, Nat.mul_succ]
    simp only [Lib.lens, List.map_cons, List.sum_cons]
    omega
theorem join_take_le (ts : List (List UInt8)) (sep : List UInt8) (k : Nat) : (Lib.join (ts.take k) sep).length ≤ (Lib.join ts sep).length := by
  cases ts with
  | nil => simp
  | cons x r =>
    cases k with
    | zero => simp [Lib.join_nil]
    | succ k =>
      rw [List.take_succ_cons, Lib.join_cons, Lib.join_cons, List.length_append, List.length_append]
      have := Lib.joinTail_take_le sep r k
      omega
theorem lens_snoc (ts : List (List UInt8)) (t : List UInt8) : Lib.lens (ts ++ [t]) = Lib.lens ts + t.length := by simp [Lib.lens]
theorem wst_lens (l : List UInt8) : Lib.lens (wst l).1 + (wst l).2.length ≤ l.length := by
  refine snoc_ind (P := fun l => Lib.lens (wst l).1 + (wst l).2.length ≤ l.length) ?_ ?_ l
  · simp [wst, Lib.lens]
  · intro l c ih
    rw [wst_snoc]
    unfold wstep
    split
    · split
      · simp; omega
      · rw [lens_snoc]; simp; omega
    · simp; omega
theorem words_lens (l : List UInt8) : Lib.lens (words l) ≤ l.length := by
  have := wst_lens l
  unfold words wfin
  split
  · omega
  · rw [lens_snoc]; omega
def squeeze (l : List UInt8) : List UInt8 := Lib.join (words l) [32]
theorem squeeze_len (l : List UInt8) : (squeeze l).length ≤ 2 * l.length := by
  have h1 := join_len (words l) [32]
  have h2 := words_len l
  have h3 := words_lens l
  unfold squeeze
  simp only [List.length_singleton, Nat.one_mul] at h1
  omega
end Asc
