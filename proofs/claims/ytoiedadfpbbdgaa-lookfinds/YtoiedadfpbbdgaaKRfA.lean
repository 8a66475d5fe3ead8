/- Texts laid as one. -/
import Derived.Test.YtoiedadfpbbdgaaKGround
import Derived.Test.YtoiedadfpbbdgaaKRfM
import Derived.Test.YtoiedadfpbbdgaaKAscii
import Derived.Test.YtoiedadfpbbdgaaKShelf
/- The short names. -/
set_option linter.unusedVariables false
set_option linter.unusedSimpArgs false
namespace Go.Proofs.Ytoiedadfpbbdgaa
open Go.RowKit
end Go.Proofs.Ytoiedadfpbbdgaa
/- The names of marks and of wide signs. -/
namespace Go.Proofs.Ytoiedadfpbbdgaa
open Go.RowKit
end Go.Proofs.Ytoiedadfpbbdgaa
/- The names of letters. -/
namespace Go.Proofs.Ytoiedadfpbbdgaa
open Go.RowKit
end Go.Proofs.Ytoiedadfpbbdgaa
/- Contracts of package refs' small functions: isOfName, isHexDigit, run, decimal, hexadecimal, goesOn. -/
namespace Go.Proofs.Ytoiedadfpbbdgaa
open Go.RowKit
theorem tw_stop (p : UInt8 → Bool) (l : List UInt8) (k : Nat) (h : k < l.length) (hk : (l.take k).all p = true) (hp : p l[k] = false) : (l.takeWhile p).length = k := by
  have e : l = l.take k ++ l.drop k := (List.take_append_drop k l).symm
  have hd : l.drop k = l[k] :: l.drop (k + 1) := List.drop_eq_getElem_cons h
  have h1 : l.takeWhile p = l.take k := by
    conv => lhs; rw [e]
    rw [List.takeWhile_append_of_pos (fun a ha => List.all_eq_true.1 hk a ha), hd, List.takeWhile_cons, hp]
    simp
  rw [h1, List.length_take]
  omega
theorem HasPrefix_l (l p : List UInt8) (w : World) :
    Calls Try.prog 40 #[.string (str l), .string (str p)] w fun e w' => e = .returned (.bool (p.isPrefixOf l)) ∧ w' = w := by
  have h := Try.strings_HasPrefix (str l) (str p) w
  rw [str_data, str_data] at h
  exact h
end Go.Proofs.Ytoiedadfpbbdgaa
