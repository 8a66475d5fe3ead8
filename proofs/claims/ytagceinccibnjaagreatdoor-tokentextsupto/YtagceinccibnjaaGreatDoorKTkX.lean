/- What the tokens of a document are for the walks: a builder bears their texts; there are not too many. -/
import Derived.Test.YtagceinccibnjaaGreatDoorKTkW
import Derived.Test.YtagceinccibnjaaGreatDoorKTkV
set_option linter.unusedVariables false
set_option linter.unusedSimpArgs false
namespace Go.Proofs.YtagceinccibnjaaGreatDoor
open Go.RowKit
theorem bears_of (N : Nat) (hN : N ≤ 100000) (k : Tk.Tok) (hf : Tk.Fine k) (hs : Tk.Wz N k) : Bears k := by
  have hat := Tk.fine_ats k hf
  have hst := Tk.start_len N k hf hs
  have hz := hs.sz
  have hn := hz.1
  have ht := hz.2.2
  refine ⟨by omega, by omega, fun a ha => ?_, by omega, by omega⟩
  have := hz.2.1 a ha
  omega
theorem sameK_self (k : Int) (n : List UInt8) (p : List Pr) (s : Bool) (x : List UInt8) : sameK k k n n p p s s x x = true := by
  unfold sameK
  simp
/-- What All answers where a law asks. -/
theorem allR_short (l : List UInt8) (h : l.length ≤ 1500) : allR l = (Tk.all (Tk.clean l), 0) ∧ (Tk.all (Tk.clean l)).length ≤ 13500 ∧ (Tk.clean l).length ≤ 13500 := by
  have h1 := Tk.clean_len l
  have h2 := Tk.all_len (Tk.clean l)
  refine ⟨?_, by omega, by omega⟩
  unfold allR
  rw [if_neg (by omega)]
theorem allR_long (l : List UInt8) (h : 65536 < l.length) : allR l = ([], 5) := if_pos (.inl h)
end Go.Proofs.YtagceinccibnjaaGreatDoor
