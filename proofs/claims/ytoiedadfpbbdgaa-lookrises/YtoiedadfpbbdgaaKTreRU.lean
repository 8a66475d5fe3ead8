/- Texts laid as one. -/
import Derived.Test.YtoiedadfpbbdgaaKTreOQ
import Derived.Test.YtoiedadfpbbdgaaKTkEG
/- The contract of a builder's start. -/
set_option linter.unusedVariables false
set_option linter.unusedSimpArgs false
namespace Go.Proofs.Ytoiedadfpbbdgaa
open Go.RowKit Go.Maps Go.WideMaps
def AddT (T : Nat → Prop) (v : Value) : Nat → Prop := fun k => T k ∨ v.ownBlock = some k
theorem OwnT.wider {T T' : Nat → Prop} {w w' : World} (h : OwnT T w w') (hT : ∀ k, T k → T' k) : OwnT T' w w' := ⟨h.os, h.tape, h.output, h.size, fun k hk hn => h.block k hk (fun ht => hn (hT k ht))⟩
theorem lay_err {b : Tre.St} {n : Nd} {k : Nat} (h : Tre.lay b n = .error k) : k = 5 ∨ k = 8 := by
  unfold Tre.lay at h
  split at h
  · cases h
    exact .inl rfl
  split at h
  · cases h
    exact .inr rfl
  · cases h
theorem firstN_put {b b2 : Tre.St} {l : List UInt8} {a : List Pr} (h : Tre.lay b ⟨2, l, a, [], 0, []⟩ = .ok b2) (hl : Tre.isHB l = true) (h0 : Tre.firstN b.nodes l = none) : Tre.firstN b2.nodes = fun t => if t = l then some b.nodes.length else Tre.firstN b.nodes t := by
  funext t
  unfold Tre.firstN at *
  rw [if_pos hl] at h0
  by_cases ht : t = l
  · subst ht
    rw [if_pos hl, if_pos rfl, Tre.lay_first h t, h0]
    simp
  · rw [if_neg ht]
    by_cases hn : Tre.isHB t = true
    · rw [if_pos hn, if_pos hn, Tre.lay_first h t]
      cases Tre.findN b.nodes t with
      | some i => rfl
      | none =>
        have : (l == t) = false := beq_eq_false_iff_ne.2 (fun e => ht e.symm)
        simp [this]
    · rw [if_neg hn, if_neg hn]
theorem cnt_put {F : List UInt8 → Option Nat} {l : List UInt8} (i : Nat) (hl : Tre.isHB l = true) (h0 : F l = none) : cntF (fun t => if t = l then some i else F t) = cntF F + 1 := by
  unfold cntF
  rw [Tre.isHB_iff] at hl
  rcases hl with rfl | rfl
  · rw [h0]
    have : ¬ (Tre.body = Tre.html) := by decide
    simp [this]
    omega
  · rw [h0]
    have : ¬ (Tre.html = Tre.body) := by decide
    simp [this]
theorem cnt_le (F : List UInt8 → Option Nat) : cntF F ≤ 2 := by
  unfold cntF
  split <;> split <;> omega
theorem closes_len (l : List UInt8) : (Tre.closes l).1.length ≤ 10 ∧ (Tre.closes l).2.length ≤ 10 := by
  unfold Tre.closes
  repeat' split
  all_goals decide
theorem info_str13 : (Try.prog.info? 9).map (fun i => (i.zero, i.size, i.bytes)) = some (some (.string ByteArray.empty), 1, 16) := by kernel_rfl
section
variable {w : World} {T : Nat → Prop} {bb mg : Nat} {nv ov : Value} {ps : List PN} {op : List Nat}
end
end Go.Proofs.Ytoiedadfpbbdgaa
/- The contract of a builder's add: a step. -/
set_option linter.unusedVariables false
set_option linter.unusedSimpArgs false
namespace Go.Proofs.Ytoiedadfpbbdgaa
open Go.RowKit Go.Maps Go.WideMaps
section
variable {w : World} {T : Nat → Prop} {bb mg : Nat} {nv ov : Value} {ps : List PN} {op : List Nat}
end
end Go.Proofs.Ytoiedadfpbbdgaa
/- A new builder. -/
set_option linter.unusedVariables false
set_option linter.unusedSimpArgs false
namespace Go.Proofs.Ytoiedadfpbbdgaa
open Go.RowKit Go.Maps Go.WideMaps
def root13 : PN := (Tre.root, .slice none 0 0, .slice none 0 0)
theorem row_new13 (w : World) (t : TypeId) (s : Nat) (n : Nat) (xs : List Value) (hn : n ≤ 1000) (hl : xs.length = n * s) : (w.alloc (.cells xs.toArray t)).ownsRow w.heap.size t s (.slice (some ⟨w.heap.size, 0, none⟩) n n) n xs := by
  refine ⟨hl, .inr ⟨w.heap.size, n, xs.toArray, rfl, Nat.le_refl _, heap_new w _, Nat.le_refl _, by unfold maxLen; omega, by simp [hl], ?_⟩⟩
  rw [List.take_of_length_le (by simp [hl])]
theorem sizeDoc13 : (Try.prog.info? 24).map (·.size) = some 1 := by kernel_rfl
theorem ret_D13 {fn : Func} {p q : Tmp} {Q : Ending → World → Prop} {a : Act} {w : World} {b : Nat} {x0 x : Value} (hr : fn.results = #[.cell p 24, .tmp q]) (hd : a.defers = []) (hp : a.tmps.getD p undef = .pointer (some ⟨b, 0, none⟩)) (hx : a.tmps.getD q undef = x) (h : w.heap[b]? = some (.cells #[x0] 24 (0, 0))) (hQ : Q (.returned (.tuple #[.agg #[x0], x])) w) :
    bodyPost Try.prog fn Q .ret a w := by
  have hl : (loadVar 24 ⟨b, 0, none⟩).run Try.prog w = .ok (.agg #[x0]) w := run_loadVar_row _ _ _ _ _ _ _ h Try.underlying24 rfl sizeDoc13
  refine bodyPost_ret (v := .tuple #[.agg #[x0], x]) ?_ hd hQ
  rw [results_cell_tmp hr, hp, hx]
  simp [asAddr, Result.andThen, hl]
def NewBPost (w : World) (e : Ending) (w' : World) : Prop :=
  ∃ g g2 mg, e = .returned (.agg #[.slice (some ⟨g, 0, none⟩) 1 1, .slice (some ⟨g2, 0, none⟩) 1 1, .map (some mg)]) ∧ w'.ownsRow w.heap.size 50 6 (.slice (some ⟨g, 0, none⟩) 1 1) 1 (nCells [root13]) ∧ OwnsI w' w.heap.size (.slice (some ⟨g2, 0, none⟩) 1 1) [0] ∧ FAt w' mg 0 (fun _ => none) ∧ w.heap.size ≤ g ∧ w.heap.size ≤ g2 ∧ w.heap.size ≤ mg ∧ g ≠ g2 ∧ g ≠ mg ∧ g2 ≠ mg ∧ Below w.heap.size w w'
theorem slots_root13 (nv ov : Value) : slotsB nv ov [root13] = [nv, ov, .slice none 0 0, .slice none 0 0] := rfl
end Go.Proofs.Ytoiedadfpbbdgaa
