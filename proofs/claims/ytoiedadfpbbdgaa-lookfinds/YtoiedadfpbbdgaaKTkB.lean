/- A reader of package token in memory, and the contracts of its small methods: take, took, past, while. -/
import Derived.Test.YtoiedadfpbbdgaaKTkA
import Derived.Test.YtoiedadfpbbdgaaKRfEF
import Derived.Lib.Builder
import Derived.Lib.SmallJoins
import Derived.Lib.IndexMore
set_option linter.unusedVariables false
set_option linter.unusedSimpArgs false
namespace Go.Proofs.Ytoiedadfpbbdgaa
open Go.RowKit
/-- All blocks but b are as they were. -/
structure Kept (b : Nat) (w w' : World) : Prop where
  os : w'.os = w.os
  tape : w'.tape = w.tape
  output : w'.output = w.output
  size : w.heap.size ≤ w'.heap.size
  block : ∀ k, k < w.heap.size → k ≠ b → w'.heap[k]? = w.heap[k]?
theorem Kept.refl (b : Nat) (w : World) : Kept b w w := ⟨rfl, rfl, rfl, Nat.le_refl _, fun _ _ _ => rfl⟩
theorem Kept.trans {b : Nat} {a c d : World} (h : Kept b a c) (k : Kept b c d) : Kept b a d :=
  ⟨k.os.trans h.os, k.tape.trans h.tape, k.output.trans h.output, Nat.le_trans h.size k.size, fun i hi hb => (k.block i (Nat.lt_of_lt_of_le hi h.size) hb).trans (h.block i hi hb)⟩
theorem Kept.of {b : Nat} {w w' : World} (h : Below w.heap.size w w') : Kept b w w' := ⟨h.os, h.tape, h.output, h.size, fun k hk _ => h.block k hk⟩
theorem Kept.set (b o : Nat) (w : World) (v : Value) : Kept b w (w.setCell ⟨b, o, none⟩ v) := by
  have h := (Below.refl 0 w).setCell (p := ⟨b, o, none⟩) (Nat.zero_le _) v
  exact ⟨h.os, h.tape, h.output, h.size, fun k _ hb => Below.heap_setCell _ _ _ _ hb⟩
theorem Kept.below {b : Nat} {w w' : World} (h : Kept b w w') (B : Nat) (h1 : B ≤ b) (h2 : B ≤ w.heap.size) : Below B w w' :=
  ⟨h.os, h.tape, h.output, h.size, fun k hk => h.block k (by omega) (by omega)⟩
theorem Kept.drewN {b : Nat} {w w' : World} (n : Nat) (h : Kept b w w') : Kept b w (w'.drewN n) := ⟨h.os, h.tape, h.output, h.size, h.block⟩
theorem Kept.drew {b : Nat} {w w' : World} (h : Kept b w w') : Kept b w w'.drew := ⟨h.os, h.tape, h.output, h.size, h.block⟩
/-- What stands elsewhere is kept. -/
theorem Kept.heap {b : Nat} {w w' : World} {k : Nat} {o : Obj} (h : Kept b w w') (hk : w.heap[k]? = some o) (hb : k ≠ b) : w'.heap[k]? = some o :=
  (h.block k (Array.getElem?_eq_some_iff.1 hk).1 hb).trans hk
theorem hideT {p : Prop} (h : p) : Hid p := h
theorem fd_le (m : List UInt8) : ∀ l : List UInt8, Tk.fd m l ≤ l.length
  | [] => Nat.le_refl _
  | c :: t => by
    rw [Tk.fd]
    split
    · exact Nat.zero_le _
    · have := fd_le m t
      rw [List.length_cons]; omega
end Go.Proofs.Ytoiedadfpbbdgaa
