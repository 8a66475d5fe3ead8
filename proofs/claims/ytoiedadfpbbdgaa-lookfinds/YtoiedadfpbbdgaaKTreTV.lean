/- Texts laid as one. -/
import Derived.Test.YtoiedadfpbbdgaaKTkSV
import Derived.Test.YtoiedadfpbbdgaaKTreRU
import Derived.Test.YtoiedadfpbbdgaaKRfM
/- Rows of tokens whose rows of attributes are apart from one another (written by tools/mktret.py out of TkR and TkS); All's contract with them. -/
set_option linter.unusedVariables false
set_option linter.unusedSimpArgs false
namespace Go.Proofs.Ytoiedadfpbbdgaa
open Go.RowKit
end Go.Proofs.Ytoiedadfpbbdgaa
/- The contract of tree.Parse. -/
namespace Go.Proofs.Ytoiedadfpbbdgaa
open Go.RowKit Go.Maps Go.WideMaps
/-- What Parse answers. -/
def parseR (s : List UInt8) : List Nd × Nat := if (allR s).2 = 0 then (match Tre.parseT (allR s).1 with | .error e => ([], e) | .ok ns => (ns, 0)) else ([], (allR s).2)
def ParsePost (w : World) (x : List Nd × Nat) (e : Ending) (w' : World) : Prop :=
  ∃ v, e = .returned (.tuple #[.agg #[v], .int .i64 (x.2 : Int)]) ∧ ReadsN w' v x.1 ∧ Below w.heap.size w w'
theorem allR_fits (s : List UInt8) : (allR s).1.length ≤ 16384 ∧ ∀ k ∈ (allR s).1, k.name.length ≤ 1000000 ∧ k.attrs.length ≤ 64 ∧ k.text.length ≤ 1000000 := by
  unfold allR
  split
  · exact ⟨Nat.zero_le _, fun k hk => by cases hk⟩
  · rename_i h
    have h1 : s.length ≤ 65536 := by omega
    have h2 := clean_len3 s
    refine ⟨by show (Tk.all (Tk.clean s)).length ≤ _; omega, fun k hk => ?_⟩
    have hz := (Tk.all_size (Tk.clean s) k hk).sz
    exact ⟨Nat.le_trans hz.1 (by omega), Tk.fine_ats k (Tk.all_fine _ k hk), Nat.le_trans hz.2.2 (by omega)⟩
/-- Which blocks the first tokens have handed over. -/
def Gone (tv : List TV) (j : Nat) : Nat → Prop := fun k => ∃ i p, i < j ∧ tv[i]? = some p ∧ p.2.ownBlock = some k
theorem step_err {b : Tre.St} {k : Tk.Tok} {e : Nat} (h : Tre.step b k = .error e) : e = 5 ∨ e = 8 := by
  unfold Tre.step at h
  split at h
  · unfold Tre.startT at h
    split at h
    · cases h
    · split at h
      · rename_i e2 he
        cases h
        exact lay_err he
      · cases h
  split at h
  · cases h
  split at h
  · unfold Tre.textT at h
    split at h
    · split at h
      · cases h
      · exact lay_err h
    · exact lay_err h
  · cases h
theorem Gone.more {tv : List TV} {j i k : Nat} (h : Gone tv j k) (hi : j ≤ i) : Gone tv i k := by
  obtain ⟨a, p, h1, h2, h3⟩ := h
  exact ⟨a, p, by omega, h2, h3⟩
end Go.Proofs.Ytoiedadfpbbdgaa
