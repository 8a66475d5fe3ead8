/- Contracts of package token's small functions: what a byte may be, isTag, begins, hasOwn, isDoctype, isEndOf; ascii.Same. -/
import Derived.Test.YtoiedadfpbbdgaaKRfA
import Derived.Test.YtoiedadfpbbdgaaKAscii
import Derived.Test.YtoiedadfpbbdgaaKRfM
set_option linter.unusedVariables false
set_option linter.unusedSimpArgs false
namespace Go.Proofs.Ytoiedadfpbbdgaa
open Go.RowKit
theorem quiet_more {w wr : World} (h : ∃ m, wr = w.drewN m) (n : Nat) : ∃ m, wr.drewN n = w.drewN m := by
  obtain ⟨m, rfl⟩ := h
  exact ⟨m + n, World.drewN_drewN _ _ _⟩
theorem bel_quiet {w w' : World} (h : ∃ n, w' = w.drewN n) : Below w.heap.size w w' := by
  obtain ⟨n, rfl⟩ := h
  exact ⟨rfl, rfl, rfl, Nat.le_refl _, fun _ _ => rfl⟩
def gp (c : UInt8) : Bool := Asc.isBlank c || c == 47
theorem tn_gp (c : UInt8) : Tk.tn c = (!gp c && c != 62) := by
  unfold Tk.tn gp
  cases Asc.isBlank c <;> simp [bne]
theorem beq_byte (c : UInt8) (k : Nat) (hk : k < 256) : ((c.toNat : Int) == (k : Int)) = (c == UInt8.ofNat k) := by
  by_cases h : c = UInt8.ofNat k
  · subst h
    have : (UInt8.ofNat k).toNat = k := by simp [UInt8.toNat_ofNat']; omega
    rw [this]
    simp
  · rw [beq_eq_false_iff_ne.2 h, beq_eq_false_iff_ne]
    intro e
    apply h
    have e2 : c.toNat = k := by omega
    rw [← e2]
    simp
/-- Does a text begin with this, and a letter behind it? -/
def tagAt (p l : List UInt8) : Bool := p.isPrefixOf l && Tk.atLetter (l.drop p.length)
theorem isTag_form (l : List UInt8) : Tk.isTag l = (tagAt [60] l || ([60, 47].isPrefixOf l || [60, 33].isPrefixOf l || [60, 63].isPrefixOf l)) := by
  match l with
  | [] => rfl
  | [c] =>
    unfold tagAt
    by_cases hc : c = 60
    · subst hc; rfl
    · have : (60 == c) = false := beq_eq_false_iff_ne.2 fun e => hc e.symm
      simp [Tk.isTag, List.isPrefixOf, this]
  | c :: d :: t =>
    unfold tagAt
    by_cases hc : c = 60
    · subst hc
      have e1 : (47 == d) = (d == 47) := Bool.beq_comm ..
      have e2 : (33 == d) = (d == 33) := Bool.beq_comm ..
      have e3 : (63 == d) = (d == 63) := Bool.beq_comm ..
      show (Tk.letB d || d == 47 || d == 33 || d == 63) = ((60 == 60 && true) && Tk.letB d || ((60 == 60 && (47 == d && true)) || (60 == 60 && (33 == d && true)) || (60 == 60 && (63 == d && true))))
      simp [e1, e2, e3, Bool.or_assoc]
    · have : (60 == c) = false := beq_eq_false_iff_ne.2 fun e => hc e.symm
      have h0 : Tk.isTag (c :: d :: t) = false := by
        unfold Tk.isTag
        split
        · rename_i e; cases e; exact absurd rfl hc
        · rfl
      rw [h0]
      simp [List.isPrefixOf, this]
theorem begins_dec (w s : List UInt8) (hl : Asc.lower w = w) : Tk.begins w s = (decide (w.length ≤ s.length) && decide (Asc.lower (s.take w.length) = Asc.lower w)) := by
  unfold Tk.begins
  rw [hl]
  congr 1
  by_cases h : Asc.lower (s.take w.length) = w
  · rw [decide_eq_true h, h]; simp
  · rw [decide_eq_false h]; exact beq_eq_false_iff_ne.2 h
/-- Is what stands behind </ this name, and its end? -/
def endOf (name s : List UInt8) : Bool := Tk.begins name s && Tk.endsIt (s.drop name.length)
theorem endsIt_tn (c : UInt8) (t : List UInt8) : Tk.endsIt (c :: t) = !Tk.tn c := by
  show (Asc.isBlank c || c == 47 || c == 62) = !(!Asc.isBlank c && c != 47 && c != 62)
  cases Asc.isBlank c <;> simp [bne]
end Go.Proofs.Ytoiedadfpbbdgaa
