/- Parts of bytes that are read. -/
import Derived.Test.YtcjbceidgaieaaaKDkR
set_option linter.unusedVariables false
set_option linter.unusedSimpArgs false
namespace Go.Proofs.Ytcjbceidgaieaaa
open Go.RowKit
theorem RB.take {w : World} {a : Option Addr} {n c : Nat} {l : List UInt8} (h : RB w (.slice a n c) l) (k : Nat) (hk : k ≤ l.length) : RB w (.slice a k c) (l.take k) := by
  have hlk : (l.take k).length = k := by simp; omega
  rcases h with ⟨a', c', he, rfl, h0⟩ | ⟨b, o, c', he, hc, hr⟩
  · cases he
    have : k = 0 := by simpa using hk
    subst this
    exact .inl ⟨_, _, rfl, rfl, h0⟩
  · cases he
    refine .inr ⟨b, o, c, by rw [hlk], by omega, fun j x hj => hr j x ?_⟩
    unfold cellsB at *
    rw [List.map_take, List.getElem?_take] at hj
    split at hj
    · exact hj
    · cases hj
theorem RB.cap {w : World} {a : Option Addr} {n c : Nat} {l : List UInt8} (h : RB w (.slice a n c) l) : l.length ≤ c := by
  rcases h with ⟨a', c', he, rfl, h0⟩ | ⟨b, o, c', he, hc, hr⟩
  · exact Nat.zero_le _
  · simp only [Value.slice.injEq] at he
    omega
theorem RB.mid {w : World} {g o n c : Nat} {l : List UInt8} (h : RB w (.slice (some ⟨g, o, none⟩) n c) l) (lo k : Nat) (hk : lo + k ≤ l.length) (c' : Nat) (hc : k ≤ c') : RB w (.slice (some ⟨g, o + lo, none⟩) k c') ((l.drop lo).take k) := by
  have hlk : ((l.drop lo).take k).length = k := by simp; omega
  rcases h with ⟨a', c1, he, rfl, h0⟩ | ⟨b, o1, c1, he, hc1, hr⟩
  · have : k = 0 := by simp at hk; omega
    subst this
    exact .inl ⟨_, _, rfl, by simp, fun e => by cases e⟩
  · cases he
    refine .inr ⟨g, o + lo, c', by rw [hlk], by omega, fun j x hj => ?_⟩
    have hj2 : (cellsB l)[lo + j]? = some x := by
      unfold cellsB at *
      rw [List.map_take, List.getElem?_take, List.map_drop, List.getElem?_drop] at hj
      split at hj
      · exact hj
      · cases hj
    rw [Nat.add_assoc]
    exact hr (lo + j) x hj2
theorem sizeU8 (w : World) : (sizeOf (Try.prog.elem 27)).run Try.prog w = .ok 1 w := by kernel_rfl
theorem under_bs : Try.prog.underlying 27 = some (.slice (Try.prog.elem 27)) := by kernel_rfl
/-- A part of bytes that are read. -/
theorem cut_mid {w : World} {a : Option Addr} {n c : Nat} {l : List UInt8} (h : RB w (.slice a n c) l) (lo hi : Nat) (h1 : lo ≤ hi) (h2 : hi ≤ l.length) : ∃ ma mc, (∀ W', (Instr.slice 27 (.slice a n c) (some (.int .i64 (lo : Int))) (some (.int .i64 (hi : Int))) none).run Try.prog W' = .ok (.slice ma (hi - lo) mc) W') ∧ RB w (.slice ma (hi - lo) mc) ((l.drop lo).take (hi - lo)) := by
  have hc := h.cap
  refine ⟨if c = lo then a else a.map (·.add (lo * 1)), c - lo, fun W' => ?_, ?_⟩
  · rw [run_slice_lh W' 27 a n c under_bs .i64 .i64 (lo : Int) (hi : Int) (by omega) (by omega) (by omega), sizeU8]
    simp [Result.andThen, sliced]
  · rcases h with ⟨a', c1, he, rfl, h0⟩ | ⟨b, o1, c1, he, hc1, hr⟩
    · cases he
      obtain rfl : hi = 0 := by simpa using h2
      obtain rfl : lo = 0 := by omega
      refine .inl ⟨_, _, rfl, by simp, fun e => ?_⟩
      cases a with
      | none => have := h0 rfl; omega
      | some x => split at e <;> simp at e
    · cases he
      by_cases hcl : c = lo
      · rw [if_pos hcl]
        obtain rfl : hi = lo := by omega
        rw [Nat.sub_self]
        exact .inl ⟨_, _, rfl, by simp, fun e => by cases e⟩
      · rw [if_neg hcl, Nat.mul_one]
        have := RB.mid (w := w) (.inr ⟨b, o1, c, rfl, hc1, hr⟩) lo (hi - lo) (by omega) (c - lo) (by omega)
        rw [Option.map_some, add_addr]
        exact this
/-- The end of bytes that are read. -/
theorem cut_from {w : World} {a : Option Addr} {n c : Nat} {l : List UInt8} (h : RB w (.slice a n c) l) (lo : Nat) (h1 : lo ≤ l.length) : ∃ ma mc, (∀ W', (Instr.slice 27 (.slice a n c) (some (.int .i64 (lo : Int))) none none).run Try.prog W' = .ok (.slice ma (l.length - lo) mc) W') ∧ RB w (.slice ma (l.length - lo) mc) (l.drop lo) ∧ (∀ k, (Value.slice ma (l.length - lo) mc).ownBlock = some k → (Value.slice a n c).ownBlock = some k) := by
  obtain ⟨a', c', hf⟩ := h.form
  cases hf
  have hc := h.cap
  refine ⟨if c = lo then a else a.map (·.add (lo * 1)), c - lo, fun W' => ?_, ?_, ?_⟩
  · rw [run_slice_l W' 27 a l.length c under_bs .i64 (lo : Int) (by omega) (by omega), sizeU8]
    simp [Result.andThen, sliced]
  · rcases h with ⟨a', c1, he, rfl, h0⟩ | ⟨b, o1, c1, he, hc1, hr⟩
    · cases he
      obtain rfl : lo = 0 := by simpa using h1
      refine .inl ⟨_, _, rfl, by simp, fun e => ?_⟩
      cases a with
      | none => have := h0 rfl; omega
      | some x => split at e <;> simp at e
    · cases he
      by_cases hcl : c = lo
      · rw [if_pos hcl]
        obtain rfl : l.length = lo := by omega
        rw [Nat.sub_self]
        exact .inl ⟨_, _, rfl, by simp, fun e => by cases e⟩
      · rw [if_neg hcl, Nat.mul_one]
        have := RB.mid (w := w) (.inr ⟨b, o1, c, rfl, hc1, hr⟩) lo (l.length - lo) (by omega) (c - lo) (by omega)
        rw [Option.map_some, add_addr]
        rwa [List.take_of_length_le (by rw [List.length_drop]; exact Nat.le_refl _)] at this
  · intro k hk
    cases a with
    | none => split at hk <;> cases hk
    | some x =>
      split at hk
      · exact hk
      · have e : (x.add (lo * 1)).block = x.block := by unfold Addr.add; split <;> rfl
        show some x.block = some k
        rw [← e]
        exact hk
/-- The beginning of bytes that are read. -/
theorem cut_to {w : World} {a : Option Addr} {n c : Nat} {l : List UInt8} (h : RB w (.slice a n c) l) (hi : Nat) (h1 : hi ≤ l.length) : (∀ W', (Instr.slice 27 (.slice a n c) none (some (.int .i64 (hi : Int))) none).run Try.prog W' = .ok (.slice a hi c) W') ∧ RB w (.slice a hi c) (l.take hi) := by
  have hc := h.cap
  refine ⟨fun W' => ?_, h.take hi h1⟩
  rw [run_slice_h W' 27 a n c under_bs .i64 (hi : Int) (by omega) (by omega), sizeU8]
  simp only [Result.andThen, sliced, Nat.zero_mul, Nat.sub_zero, Int.toNat_natCast]
  congr 2
  split
  · rfl
  · cases a with
    | none => rfl
    | some x => simp [Addr.add]
/-- A row that was just laid reads as its bytes. -/
theorem RB.new (w : World) (l : List UInt8) (C : Array Value) (hC : C.toList = cellsB l) (e : TypeId) (fr : Nat × Nat) (n : Nat) (hn : n = l.length) : RB (w.alloc (.cells C e fr)) (.slice (some ⟨w.heap.size, 0, none⟩) n n) l := by
  subst hn
  refine .inr ⟨w.heap.size, 0, l.length, rfl, Nat.le_refl _, fun j x hj => ?_⟩
  rw [Lib.cell_of_heap (heap_new w _), Nat.zero_add, ← Array.getElem?_toList, hC]
  exact hj
theorem alloc1 (w : World) (o : Obj) : Below w.heap.size w (w.alloc o) := (Below.refl _ w).alloc (Nat.le_refl _) _
theorem hide9 {p : Prop} (h : p) : Hid p := h
end Go.Proofs.Ytcjbceidgaieaaa
