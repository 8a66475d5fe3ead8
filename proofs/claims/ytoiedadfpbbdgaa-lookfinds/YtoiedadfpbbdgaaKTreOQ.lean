/- Texts laid as one. -/
import Derived.Test.YtoiedadfpbbdgaaKTreMN
import Derived.Test.YtoiedadfpbbdgaaKTreM
import Derived.Test.YtoiedadfpbbdgaaKTreJL
/- The contract of a builder's text. -/
set_option linter.unusedVariables false
set_option linter.unusedSimpArgs false
namespace Go.Proofs.Ytoiedadfpbbdgaa
open Go.RowKit Go.Maps Go.WideMaps
section
variable {w : World} {T : Nat → Prop} {bb mg : Nat} {nv ov : Value} {ps : List PN} {op : List Nat}
theorem ps_nd {ps : List PN} {M : Nat} (h : Tre.Ok ⟨ps.map (·.1), op⟩ M) {i : Nat} {p : PN} (hp : ps[i]? = some p) : p.1 ∈ ps.map (·.1) := List.mem_map.2 ⟨p, List.mem_of_getElem? hp, rfl⟩
end
end Go.Proofs.Ytoiedadfpbbdgaa
/- The contract of a builder's addAttrs. -/
namespace Go.Proofs.Ytoiedadfpbbdgaa
open Go.RowKit Go.Maps Go.WideMaps
theorem range_two {w : World} {b o : Nat} {x0 x1 : Value} (h0 : w.cell? ⟨b, o, none⟩ = some x0) (h1 : w.cell? ⟨b, o + 1, none⟩ = some x1) : w.rangeAt b o [x0, x1] := by
  intro j u hj
  rcases j with _ | _ | j
  · cases hj
    exact h0
  · cases hj
    exact h1
  · simp at hj
theorem addAll_take (ds bs : List Pr) (j : Nat) (x : Pr) (h : bs[j]? = some x) : Tre.addAll ds (bs.take (j + 1)) = Tk.add (Tre.addAll ds (bs.take j)) x := by
  unfold Tre.addAll
  rw [List.take_add_one, h, List.foldl_append]
  rfl
theorem addAll_le (ds bs : List Pr) (h : ds.length ≤ 64) : (Tre.addAll ds bs).length ≤ 64 := Tre.addAll_len bs ds h
section
variable {w : World} {T : Nat → Prop} {bb mg : Nat} {nv ov : Value} {ps : List PN} {op : List Nat} {F : List UInt8 → Option Nat}
theorem set_set13 {α : Type} (l : List α) (i : Nat) (x y : α) : (l.set i x).set i y = l.set i y := by simp
end
end Go.Proofs.Ytoiedadfpbbdgaa
/- The map of the first html and body: look-ups and stores. -/
namespace Go.Proofs.Ytoiedadfpbbdgaa
open Go.RowKit Go.Maps Go.WideMaps
end Go.Proofs.Ytoiedadfpbbdgaa
