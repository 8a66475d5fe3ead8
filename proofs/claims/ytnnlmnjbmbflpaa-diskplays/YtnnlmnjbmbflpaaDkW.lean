/- The contract of the document's Start. -/
import Derived.Test.YtnnlmnjbmbflpaaDkV
import Derived.Deep.RegionHeldLaw
set_option linter.unusedVariables false
set_option linter.unusedSimpArgs false
namespace Go.Proofs.Ytnnlmnjbmbflpaa
open Go.RowKit
/-- The lesser one of two numbers, at a step of a region that draws. -/
theorem step_min {w : World} {ops : Array Oper} {o : Oper} {a : Act} {K : Act → World → Prop} {Q : Exit → Act → World → Prop} {E : Prop} (hgd : o.guard = none) (s x : Operand)
    (ho : o.op = .call { callee := .builtin .min, args := #[s, x], argTypes := #[3, 3] }) (p q r : Int) (hs : a.eval s = .int .i64 p) (hx : a.eval x = .int .i64 q) (hr : (if q < p then q else p) = r)
    (h : K (a.put o.dst (.int .i64 r)) w) : if Region.wanted o (yielded ops a.tmps) = true then Oper.wp Try.prog o a w K Q else E := by
  rw [if_pos (by simp [Region.wanted, hgd])]
  unfold Oper.wp execOp
  simp only [ho, resolve, invoke, builtin, Sem.run_bind, Sem.run_pure, Result.andThen_ok, List.map_toArray, List.map_cons, List.map_nil, hs, hx, run_min_int2, hr]
  exact h
theorem RB.none9 {w : World} (a : Addr) (c : Nat) : RB w (.slice (some a) 0 c) [] := .inl ⟨_, _, rfl, rfl, fun e => by cases e⟩
/-- What a loss leaves, in the document's order. -/
theorem left_back (c : Dk.Cn) (h : c.gone ≠ []) (k : Int) : c.left k false = c.sure ++ [] := by
  unfold Dk.Cn.left Dk.Cn.sure
  rw [if_pos ⟨h, rfl⟩, List.append_nil]
theorem left_stay (c : Dk.Cn) (hf : c.Fine) (cut : Bool) (h : c.gone = [] ∨ cut = true) (k : Int) : c.left k cut = c.sure.take c.whole ++ (c.now.drop c.whole).take (c.kept k) := by
  have h1 := hf.whole
  unfold Dk.Cn.left
  rw [if_neg (by rcases h with h | h; exact fun e => e.1 h; exact fun e => by rw [h] at e; exact absurd e.2 (by decide))]
  have e : c.sure.take c.whole = c.now.take c.whole := by
    unfold Dk.Cn.sure
    rw [List.take_append_of_le_length (by simp; omega), List.take_take, Nat.min_self]
  rw [e, List.take_add]
theorem lose_cut (c : Dk.Cn) (k : Int) (cut : Bool) : (c.lose k cut).cutv = -1 := rfl
theorem lose_sure (c : Dk.Cn) (k : Int) (cut : Bool) : (c.lose k cut).sure = c.left k cut := by
  unfold Dk.Cn.sure Dk.Cn.lose
  simp
theorem RAt.on9 {W : World} {P : Nat → Prop} {rb : Nat} {d : Dk.D} {fv : Int} {b0 s0 b1 s1 : Value} (h : RAt W P rb d fv b0 s0 b1 s1) : RAt ((W.setCell ⟨rb, 8, none⟩ (.bool false)).setCell ⟨rb, 9, none⟩ (.int .i64 (-1))) P rb { d with on := true, fuse := -1 } (-1) b0 s0 b1 s1 := by
  have hk : ∀ k, k < W.heap.size → P k → k ≠ rb → ((W.setCell ⟨rb, 8, none⟩ (.bool false)).setCell ⟨rb, 9, none⟩ (.int .i64 (-1))).heap[k]? = W.heap[k]? := fun k _ _ hk => (Below.heap_setCell _ _ _ _ hk).trans (Below.heap_setCell _ _ _ _ hk)
  have hs : W.heap.size ≤ ((W.setCell ⟨rb, 8, none⟩ (.bool false)).setCell ⟨rb, 9, none⟩ (.int .i64 (-1))).heap.size := by rw [setCell_size, setCell_size]; exact Nat.le_refl _
  exact ⟨heap_set (heap_set h.blk _) _, h.q0.keep hs hk, h.q1.keep hs hk, h.q2.keep hs hk, h.q3.keep hs hk, ⟨h.fine.a, h.fine.b, h.fine.room, h.fine.least, h.fine.root, ⟨by show -9223372036854775808 ≤ (-1 : Int); decide, by show (-1 : Int) ≤ 9223372036854775807; decide⟩⟩, fun _ => rfl, ⟨by decide, by decide⟩⟩
end Go.Proofs.Ytnnlmnjbmbflpaa
