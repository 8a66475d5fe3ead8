/- Texts laid as one. -/
import Derived.Test.YtoiedadfpbbdgaaKRfA
import Derived.Test.YtoiedadfpbbdgaaKUPut
import Derived.Lib.LaidTab
/- Contracts of cmp.Or at signs, signOf, Name and Number, and of the reference's Number. -/
set_option linter.unusedVariables false
set_option linter.unusedSimpArgs false
namespace Go.Proofs.Ytoiedadfpbbdgaa
open Go.RowKit
def orL : List Int → Int
  | [] => 0
  | a :: r => if a ≠ 0 then a else orL r
theorem orL_next (cs : List Int) (k : Nat) (h : k < cs.length) (hz : cs[k] = 0) : orL (cs.drop (k + 1)) = orL (cs.drop k) := by
  rw [List.drop_eq_getElem_cons h, orL, hz]
  simp
theorem orL_here (cs : List Int) (k : Nat) (h : k < cs.length) (hz : cs[k] ≠ 0) : orL (cs.drop k) = cs[k] := by
  rw [List.drop_eq_getElem_cons h, orL, if_pos hz]
theorem or_four (a b c d : Int) : orL [a, b, c, d] = Rf.or1 a (Rf.or1 b (Rf.or1 c d)) := by
  unfold Rf.or1
  simp only [orL]
  repeat' split
  all_goals simp_all
theorem four_cells (w : World) (a b c d : Int) (T : Nat) : ∀ (j : Nat) x, [a, b, c, d][j]? = some x → (w.alloc (.cells #[.int .i32 a, .int .i32 b, .int .i32 c, .int .i32 d] T)).cell? ⟨w.heap.size, j, none⟩ = some (.int .i32 x) := by
  intro j x hj
  have hlt : j < 4 := (List.getElem?_eq_some_iff.1 hj).1
  unfold World.cell?
  rw [heap_new]
  match j, hlt with
  | 0, _ | 1, _ | 2, _ | 3, _ => simp at hj; subst hj; rfl
/-! ### numbers -/
def Win (w : World) : Prop := Lib.TabIs Try.prog w "cringle/refs.windows" .i32 Rf.windows
theorem sign_none {n : Int} (h : n = 0 ∨ 1114111 < n ∨ (55296 ≤ n ∧ n ≤ 57343)) : Rf.numSign n = 65533 := by unfold Rf.numSign; rw [if_pos h]
theorem sign_self {n : Int} (h : ¬ (n = 0 ∨ 1114111 < n ∨ (55296 ≤ n ∧ n ≤ 57343))) (h2 : ¬ (128 ≤ n ∧ n ≤ 159)) : Rf.numSign n = n := by unfold Rf.numSign; rw [if_neg h, if_neg (by omega)]
theorem sign_win {k : Nat} (h : k < 32) (h2 : Rf.win k ≠ 0) : Rf.numSign ((k : Int) + 128) = Rf.win k := by
  unfold Rf.numSign
  rw [if_neg (by omega), show ((k : Int) + 128 - 128).toNat = k from by omega, if_pos ⟨by omega, by omega, h2⟩]
theorem sign_gap {k : Nat} (h : k < 32) (h2 : Rf.win k = 0) : Rf.numSign ((k : Int) + 128) = (k : Int) + 128 := by
  unfold Rf.numSign
  rw [if_neg (by omega), show ((k : Int) + 128 - 128).toNat = k from by omega, if_neg (by simp [h2])]
theorem sign_cases (n : Int) (h0 : 0 ≤ n) : (Rf.numSign n = 65533 ∧ (n = 0 ∨ (55296 ≤ n ∧ n ≤ 57343) ∨ 1114111 < n)) ∨ (Rf.numSign n = n ∧ ((0 < n ∧ n < 128) ∨ (159 < n ∧ n < 55296) ∨ (57343 < n ∧ n ≤ 1114111))) ∨ ∃ k : Nat, n = (k : Int) + 128 ∧ k < 32 := by
  by_cases h : n = 0 ∨ 1114111 < n ∨ (55296 ≤ n ∧ n ≤ 57343)
  · exact .inl ⟨sign_none h, by omega⟩
  · by_cases h2 : 128 ≤ n ∧ n ≤ 159
    · exact .inr (.inr ⟨(n - 128).toNat, by omega, by omega⟩)
    · exact .inr (.inl ⟨sign_self h h2, by omega⟩)
end Go.Proofs.Ytoiedadfpbbdgaa
/- The contract of refs.number. -/
set_option linter.unusedVariables false
set_option linter.unusedSimpArgs false
namespace Go.Proofs.Ytoiedadfpbbdgaa
open Go.RowKit
theorem Pre {l p : List UInt8} {b : Bool} (h : p.isPrefixOf l = b) (w : World) :
    Calls Try.prog 40 #[.string (str l), .string (str p)] w fun e w' => e = .returned (.bool b) ∧ w' = w := by
  have := HasPrefix_l l p w
  rw [h] at this
  exact this
theorem str_mid (l : List UInt8) (f n : Nat) : (str l).extract f (f + n) = str ((l.drop f).take n) := by
  apply str_eq
  rw [data_cut, str_data, List.drop_take]
  congr 1
  omega
theorem digs_take (t : List UInt8) : (t.drop (Rf.fr (Rf.isHx t))).take (Rf.digs t).length = Rf.digs t := by
  unfold Rf.digs
  generalize t.drop (Rf.fr (Rf.isHx t)) = u
  generalize Rf.dOk (Rf.isHx t) = p
  induction u with
  | nil => rfl
  | cons c r ih =>
    rw [List.takeWhile_cons]
    cases h : p c
    · rfl
    · simp [ih]
theorem digs_len (t : List UInt8) (h : [35].isPrefixOf t = true) : Rf.fr (Rf.isHx t) + (Rf.digs t).length ≤ t.length := by
  have h1 : (Rf.digs t).length ≤ (t.drop (Rf.fr (Rf.isHx t))).length := by
    rw [← digs_take t, List.length_take]; omega
  have h2 : Rf.fr (Rf.isHx t) ≤ t.length := by
    cases hx : Rf.isHx t
    · obtain ⟨r, rfl⟩ := List.isPrefixOf_iff_prefix.1 h
      simp [Rf.fr]
    · unfold Rf.isHx at hx
      rw [Bool.or_eq_true] at hx
      rcases hx with hx | hx
      · obtain ⟨r, rfl⟩ := List.isPrefixOf_iff_prefix.1 hx
        simp [Rf.fr]
      · obtain ⟨r, rfl⟩ := List.isPrefixOf_iff_prefix.1 hx
        simp [Rf.fr]
  rw [List.length_drop] at h1
  omega
end Go.Proofs.Ytoiedadfpbbdgaa
/- The contract of refs.number. -/
set_option linter.unusedVariables false
set_option linter.unusedSimpArgs false
namespace Go.Proofs.Ytoiedadfpbbdgaa
open Go.RowKit
end Go.Proofs.Ytoiedadfpbbdgaa
