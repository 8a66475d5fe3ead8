/- Texts laid as one. -/
import Derived.Test.YtoiedadfpbbdgaaKRfEF
import Derived.Test.YtoiedadfpbbdgaaKRfFx
import Derived.Test.YtoiedadfpbbdgaaKRfM
import Derived.Test.YtoiedadfpbbdgaaKUBY
import Derived.Test.YtoiedadfpbbdgaaKURepair
import Derived.Lib.Bytealg
import Derived.Lib.Replace
import Derived.Lib.Strings
/- The contract of refs.number. -/
set_option linter.unusedVariables false
set_option linter.unusedSimpArgs false
namespace Go.Proofs.Ytoiedadfpbbdgaa
open Go.RowKit
end Go.Proofs.Ytoiedadfpbbdgaa
/- Contracts of refs.wholeName, shortName and Next. -/
set_option linter.unusedVariables false
set_option linter.unusedSimpArgs false
namespace Go.Proofs.Ytoiedadfpbbdgaa
open Go.RowKit
theorem tw_take (p : UInt8 → Bool) (u : List UInt8) : u.take (u.takeWhile p).length = u.takeWhile p := by
  induction u with
  | nil => rfl
  | cons c r ih =>
    rw [List.takeWhile_cons]
    cases h : p c
    · rfl
    · simp [ih]
theorem tw_le (p : UInt8 → Bool) (u : List UInt8) : (u.takeWhile p).length ≤ u.length := by
  rw [← tw_take p u, List.length_take]; omega
def from2 (k : Nat) : List Nat := [2, 3, 4].drop (k - 2)
theorem from2_go (k : Nat) (h : 2 ≤ k) (h2 : k ≤ 4) : from2 k = k :: from2 (k + 1) := by
  match k, h, h2 with
  | 2, _, _ | 3, _, _ | 4, _, _ => rfl
theorem from2_end (a : Bool) (t : List UInt8) (k : Nat) (h : 2 ≤ k) (h2 : ¬ (k ≤ 4 ∧ k ≤ t.length)) : Rf.shL a t (from2 k) = (0, 0) := by
  by_cases h3 : k ≤ 4
  · have : t.length < k := by omega
    match k, h, h3 with
    | 2, _, _ => simp only [from2, List.drop_succ_cons, List.drop_zero, Nat.sub_self, Rf.shL]; rw [if_neg (by omega), if_neg (by omega), if_neg (by omega)]
    | 3, _, _ => simp only [from2, List.drop_succ_cons, List.drop_zero, Rf.shL]; rw [if_neg (by omega), if_neg (by omega)]
    | 4, _, _ => simp only [from2, List.drop_succ_cons, List.drop_zero, Rf.shL]; rw [if_neg (by omega)]
  · have : from2 k = [] := by unfold from2; exact List.drop_eq_nil_of_le (by simp; omega)
    rw [this]
    rfl
end Go.Proofs.Ytoiedadfpbbdgaa
/- The contract of refs.Next. -/
set_option linter.unusedVariables false
set_option linter.unusedSimpArgs false
namespace Go.Proofs.Ytoiedadfpbbdgaa
open Go.RowKit
def nxV (r : Int × Nat × Bool) : Value := .tuple #[.int .i32 r.1, .int .i64 r.2.1, .bool r.2.2]
end Go.Proofs.Ytoiedadfpbbdgaa
/- Contracts of a builder's Write, and of refs.Decode. -/
set_option linter.unusedVariables false
set_option linter.unusedSimpArgs false
namespace Go.Proofs.Ytoiedadfpbbdgaa
open Go.RowKit
theorem builder_keep {T e : TypeId} {B b : Nat} {p : Value} {bs : List Value} {w w' : World} (h : Lib.BuilderAtF T e B b p bs w) (hk : ∀ k, k < w.heap.size → w'.heap[k]? = w.heap[k]?) : Lib.BuilderAtF T e B b p bs w' := by
  obtain ⟨hB, v, hb, hown, hne⟩ := h
  have hlt : b < w.heap.size := (Array.getElem?_eq_some_iff.1 hb).1
  refine ⟨hB, v, (hk b hlt).trans hb, ?_, hne⟩
  refine ⟨hown.1, ?_⟩
  rcases hown.2 with h0 | ⟨g, cap, cur, fz, hv, hB2, hg, rest⟩
  · exact .inl h0
  · exact .inr ⟨g, cap, cur, fz, hv, hB2, (hk g (Array.getElem?_eq_some_iff.1 hg).1).trans hg, rest⟩
theorem builder_below {T e : TypeId} {B b : Nat} {p : Value} {bs : List Value} {w w' : World} (h : Lib.BuilderAtF T e B b p bs w) (hb : Below w.heap.size w w') : Lib.BuilderAtF T e B b p bs w' :=
  builder_keep h fun k hk => hb.block k hk
end Go.Proofs.Ytoiedadfpbbdgaa
/- The contract of refs.Decode. -/
set_option linter.unusedVariables false
set_option linter.unusedSimpArgs false
namespace Go.Proofs.Ytoiedadfpbbdgaa
open Go.RowKit
theorem index_cases (l : List UInt8) (c : UInt8) : (Lib.indexByte l c = -1 ∧ c ∉ l) ∨ ∃ p t, l = p ++ c :: t ∧ c ∉ p ∧ Lib.indexByte l c = (p.length : Int) := by
  induction l with
  | nil => exact .inl ⟨rfl, by simp⟩
  | cons b l ih =>
    rw [Lib.indexByte]
    by_cases h : b = c
    · subst h
      exact .inr ⟨[], l, rfl, by simp, by simp⟩
    · have hn : (b == c) = false := beq_eq_false_iff_ne.2 h
      rw [hn]
      rcases ih with ⟨h1, h2⟩ | ⟨p, t, h1, h2, h3⟩
      · left
        rw [h1]
        exact ⟨rfl, by simp [h2]; exact fun e => h e.symm⟩
      · right
        have hq : ((p.length : Int) == -1) = false := by rw [beq_eq_false_iff_ne]; omega
        refine ⟨b :: p, t, by rw [h1]; rfl, by simp [h2]; exact fun e => h e.symm, ?_⟩
        rw [h3, hq]
        simp
def textLen : Value → Nat
  | .string s => s.size
  | _ => 0
/-- What a round of Decode begins with. -/
def DecAt (a : Bool) (l : List UInt8) (w : World) (x : Value) (wr : World) : Prop :=
  ∃ r acc : List UInt8, x = .string (str r) ∧ acc.length + 4 * r.length ≤ 4 * l.length ∧ Lib.IsBuilderF 92 5 w.heap.size w.heap.size (Lib.byteCells acc) wr ∧ Below w.heap.size w wr ∧ Hid (acc ++ Rf.dec a r = Rf.dec a l)
theorem str_front (p r : List UInt8) : (str (p ++ r)).extract 0 p.length = str p := by rw [str_to, List.take_left]
theorem str_back (p r : List UInt8) : (str (p ++ r)).extract p.length (p ++ r).length = str r := by rw [str_from, List.drop_left]
end Go.Proofs.Ytoiedadfpbbdgaa
