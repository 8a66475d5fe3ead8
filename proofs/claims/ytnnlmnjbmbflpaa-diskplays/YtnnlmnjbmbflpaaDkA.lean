/- A disk in memory, and the contracts of its calls that turn nothing. -/
import Derived.Test.YtnnlmnjbmbflpaaDkR
import Derived.Test.YtnnlmnjbmbflpaaDiskMath
set_option linter.unusedVariables false
set_option linter.unusedSimpArgs false
namespace Go.Proofs.Ytnnlmnjbmbflpaa
open Go.RowKit
/-- Two slices lie in two blocks. -/
def Ap (u v : Value) : Prop := ∀ k, u.ownBlock = some k → v.ownBlock = some k → False
def In (T : Nat → Prop) (v : Value) : Prop := ∀ k, v.ownBlock = some k → T k
abbrev xD (d : Dk.D) (n0 g0 n1 g1 : Value) : Array Value := #[.bool true, .bool d.on, .int .i64 d.room, .int .i64 d.root, n0, .int .i64 (d.a.whole : Int), g0, n1, .int .i64 (d.b.whole : Int), g1, .int .i64 d.fuse, .bool d.behind]
/-- A disk's block, and the slices in it. -/
structure DAt (w : World) (b : Nat) (d : Dk.D) (n0 g0 n1 g1 : Value) : Prop where
  blk : w.heap[b]? = some (.cells (xD d n0 g0 n1 g1) 93 (0, 0))
  o0 : OwnsBytes w 0 n0 d.a.now
  q0 : OwnsBytes w 0 g0 d.a.gone
  o1 : OwnsBytes w 0 n1 d.b.now
  q1 : OwnsBytes w 0 g1 d.b.gone
  a1 : Ap n0 g0
  a2 : Ap n0 n1
  a3 : Ap n0 g1
  a4 : Ap g0 n1
  a5 : Ap g0 g1
  a6 : Ap n1 g1
  b0 : n0.ownBlock ≠ some b
  b1 : g0.ownBlock ≠ some b
  b2 : n1.ownBlock ≠ some b
  b3 : g1.ownBlock ≠ some b
/-- A disk that is kept in the blocks T. -/
structure Dsk (w : World) (T : Nat → Prop) (b : Nat) (d : Dk.D) (n0 g0 n1 g1 : Value) : Prop where
  dat : DAt w b d n0 g0 n1 g1
  fine : d.Fine
  tb : T b
  t0 : In T n0
  t1 : In T g0
  t2 : In T n1
  t3 : In T g1
  low : ∀ k, T k → k < w.heap.size
/-- w' is w, but for the blocks T and new ones. -/
structure Own (T : Nat → Prop) (w w' : World) : Prop where
  os : w'.os = w.os
  tape : w'.tape = w.tape
  output : w'.output = w.output
  size : w.heap.size ≤ w'.heap.size
  block : ∀ k, k < w.heap.size → ¬ T k → w'.heap[k]? = w.heap[k]?
theorem Own.refl (T : Nat → Prop) (w : World) : Own T w w := ⟨rfl, rfl, rfl, Nat.le_refl _, fun _ _ _ => rfl⟩
theorem Own.of {T : Nat → Prop} {w w' : World} (h : Below w.heap.size w w') : Own T w w' := ⟨h.os, h.tape, h.output, h.size, fun k hk _ => h.block k hk⟩
/-- The blocks T and those that are new in w'. -/
def More (T : Nat → Prop) (w w' : World) : Nat → Prop := fun k => T k ∨ (w.heap.size ≤ k ∧ k < w'.heap.size)
theorem Own.trans {T T' : Nat → Prop} {a b c : World} (h : Own T a b) (h2 : Own T' b c) (hT : ∀ k, T' k → T k ∨ a.heap.size ≤ k) : Own T a c :=
  ⟨h2.os.trans h.os, h2.tape.trans h.tape, h2.output.trans h.output, Nat.le_trans h.size h2.size, fun k hk hn => (h2.block k (Nat.lt_of_lt_of_le hk h.size) (fun ht => (hT k ht).elim hn (fun hx => by omega))).trans (h.block k hk hn)⟩
theorem Own.below {T : Nat → Prop} {B : Nat} {w w' : World} (h : Own T w w') (hT : ∀ k, T k → B ≤ k) (hB : B ≤ w.heap.size) : Below B w w' :=
  ⟨h.os, h.tape, h.output, h.size, fun k hk => h.block k (by omega) (fun ht => by have := hT k ht; omega)⟩
theorem DAt.lt {w : World} {b : Nat} {d : Dk.D} {n0 g0 n1 g1 : Value} (h : DAt w b d n0 g0 n1 g1) : b < w.heap.size := (Array.getElem?_eq_some_iff.1 h.blk).1
theorem DAt.cell {w : World} {b : Nat} {d : Dk.D} {n0 g0 n1 g1 : Value} (h : DAt w b d n0 g0 n1 g1) (i : Nat) : w.cell? ⟨b, i, none⟩ = (xD d n0 g0 n1 g1)[i]? := Lib.cell_of_heap h.blk i
theorem DAt.free {w : World} {b : Nat} {d : Dk.D} {n0 g0 n1 g1 : Value} (h : DAt w b d n0 g0 n1 g1) (i : Nat) : w.frozen? ⟨b, i, none⟩ = false := Lib.frozen_of_heap h.blk i
theorem DAt.keep {w w' : World} {b : Nat} {d : Dk.D} {n0 g0 n1 g1 : Value} (h : DAt w b d n0 g0 n1 g1) (hb : w'.heap[b]? = w.heap[b]?) (hk : ∀ k, k < w.heap.size → n0.ownBlock = some k ∨ g0.ownBlock = some k ∨ n1.ownBlock = some k ∨ g1.ownBlock = some k → w'.heap[k]? = w.heap[k]?) : DAt w' b d n0 g0 n1 g1 :=
  ⟨hb.trans h.blk, h.o0.keep (fun k e hl => hk k hl (.inl e)), h.q0.keep (fun k e hl => hk k hl (.inr (.inl e))), h.o1.keep (fun k e hl => hk k hl (.inr (.inr (.inl e)))), h.q1.keep (fun k e hl => hk k hl (.inr (.inr (.inr e)))), h.a1, h.a2, h.a3, h.a4, h.a5, h.a6, h.b0, h.b1, h.b2, h.b3⟩
theorem DAt.below {w w' : World} {b : Nat} {d : Dk.D} {n0 g0 n1 g1 : Value} (h : DAt w b d n0 g0 n1 g1) (hB : Below w.heap.size w w') : DAt w' b d n0 g0 n1 g1 := h.keep (hB.block b h.lt) (fun k hk _ => hB.block k hk)
theorem Dsk.keep {w w' : World} {T : Nat → Prop} {b : Nat} {d : Dk.D} {n0 g0 n1 g1 : Value} (h : Dsk w T b d n0 g0 n1 g1) (hs : w.heap.size ≤ w'.heap.size) (hk : ∀ k, k < w.heap.size → T k → w'.heap[k]? = w.heap[k]?) : Dsk w' T b d n0 g0 n1 g1 :=
  ⟨h.dat.keep (hk b h.dat.lt h.tb) (fun k hl hx => hk k hl (by rcases hx with e | e | e | e; exact h.t0 k e; exact h.t1 k e; exact h.t2 k e; exact h.t3 k e)), h.fine, h.tb, h.t0, h.t1, h.t2, h.t3, fun k hT => Nat.lt_of_lt_of_le (h.low k hT) hs⟩
theorem Dsk.below {w w' : World} {T : Nat → Prop} {b : Nat} {d : Dk.D} {n0 g0 n1 g1 : Value} (h : Dsk w T b d n0 g0 n1 g1) (hB : Below w.heap.size w w') : Dsk w' T b d n0 g0 n1 g1 := h.keep hB.size (fun k hk _ => hB.block k hk)
/-- Whether what a pointer points to is a disk that New made. -/
def Made (w : World) (v : Value) (m : Bool) : Prop := (v = .pointer none ∧ m = false) ∨ ∃ b, v = .pointer (some ⟨b, 0, none⟩) ∧ w.cell? ⟨b, 0, none⟩ = some (.bool m)
theorem Dsk.made {w : World} {T : Nat → Prop} {b : Nat} {d : Dk.D} {n0 g0 n1 g1 : Value} (h : Dsk w T b d n0 g0 n1 g1) : Made w (.pointer (some ⟨b, 0, none⟩)) true := .inr ⟨b, rfl, h.dat.cell 0⟩
theorem Made.below {w w' : World} {v : Value} {m : Bool} (h : Made w v m) (hB : Below w.heap.size w w') : Made w' v m := by
  rcases h with h | ⟨b, rfl, h⟩
  · exact .inl h
  · exact .inr ⟨b, rfl, (hB.cell (p := ⟨b, 0, none⟩) (cell_lt h)).trans h⟩
set_option maxHeartbeats 2000000 in
set_option maxRecDepth 100000 in
theorem isMade_any {w : World} {v : Value} {m : Bool} (h : Made w v m) :
    Calls Try.prog 52 #[v] w fun e w' => e = .returned (.bool m) ∧ w' = w := by
  rcases h with ⟨rfl, rfl⟩ | ⟨b, rfl, h⟩
  · go_enter Try.func52, Try.ntmps52
    go_wp2
    go_ret
    exact ⟨rfl, rfl⟩
  · go_enter Try.func52, Try.ntmps52
    go_wp2
    go_ret
    exact ⟨rfl, rfl⟩
set_option maxHeartbeats 2000000 in
set_option maxRecDepth 100000 in
theorem ready_no {w : World} {v : Value} (h : Made w v false) :
    Calls Try.prog 53 #[v] w fun e w' => e = .returned (.int .i64 2) ∧ w' = w := by
  have H := isMade_any h
  go_enter Try.func53, Try.ntmps53
  go_wp2_with (go_at_call 52; refine H.mono ?_; rintro e w2 ⟨rfl, he⟩; replace he := he.symm; subst he)
  go_ret
  exact ⟨rfl, rfl⟩
set_option maxHeartbeats 2000000 in
set_option maxRecDepth 100000 in
theorem ready_yes {w : World} {T : Nat → Prop} {b : Nat} {d : Dk.D} {n0 g0 n1 g1 : Value} (h : Dsk w T b d n0 g0 n1 g1) :
    Calls Try.prog 53 #[.pointer (some ⟨b, 0, none⟩)] w fun e w' => e = .returned (.int .i64 (if d.on = true then 0 else 12)) ∧ w' = w := by
  have H := isMade_any h.made
  have c1 : w.cell? ⟨b, 1, none⟩ = some (.bool d.on) := h.dat.cell 1
  clear h
  obtain ⟨on, room, root, a, bb, fuse, behind⟩ := d
  cases on
  · go_enter Try.func53, Try.ntmps53
    go_wp2_with (go_at_call 52; refine H.mono ?_; rintro e w2 ⟨rfl, he⟩; replace he := he.symm; subst he)
    go_ret
    exact ⟨rfl, rfl⟩
  · go_enter Try.func53, Try.ntmps53
    go_wp2_with (go_at_call 52; refine H.mono ?_; rintro e w2 ⟨rfl, he⟩; replace he := he.symm; subst he)
    go_ret
    exact ⟨rfl, rfl⟩
set_option maxHeartbeats 2000000 in
set_option maxRecDepth 100000 in
theorem On_no {w : World} {v : Value} (h : Made w v false) :
    Calls Try.prog 16 #[v] w fun e w' => e = .returned (.bool false) ∧ w' = w := by
  have H := isMade_any h
  go_enter Try.func16, Try.ntmps16
  go_wp2_with (go_at_call 52; refine H.mono ?_; rintro e w2 ⟨rfl, he⟩; replace he := he.symm; subst he)
  go_ret
  exact ⟨rfl, rfl⟩
set_option maxHeartbeats 2000000 in
set_option maxRecDepth 100000 in
theorem On_yes {w : World} {T : Nat → Prop} {b : Nat} {d : Dk.D} {n0 g0 n1 g1 : Value} (h : Dsk w T b d n0 g0 n1 g1) :
    Calls Try.prog 16 #[.pointer (some ⟨b, 0, none⟩)] w fun e w' => e = .returned (.bool d.on) ∧ w' = w := by
  have H := isMade_any h.made
  have c1 : w.cell? ⟨b, 1, none⟩ = some (.bool d.on) := h.dat.cell 1
  clear h
  go_enter Try.func16, Try.ntmps16
  go_wp2_with (go_at_call 52; refine H.mono ?_; rintro e w2 ⟨rfl, he⟩; replace he := he.symm; subst he)
  go_ret
  exact ⟨rfl, rfl⟩
/-- Where a file lies in a disk's block. -/
def fo (f : Int) : Nat := if f = 0 then 4 else 7
set_option maxHeartbeats 2000000 in
set_option maxRecDepth 100000 in
theorem open_nil {w : World} {v : Value} (h : Made w v false) (f : Int) :
    Calls Try.prog 54 #[v, .int .i64 f] w fun e w' => e = .returned (.tuple #[.pointer none, .int .i64 2]) ∧ w' = w := by
  have H := isMade_any h
  go_enter Try.func54, Try.ntmps54
  go_wp2_with (go_at_call 52; refine H.mono ?_; rintro e w2 ⟨rfl, he⟩; replace he := he.symm; subst he)
  go_ret2
  exact ⟨rfl, rfl⟩
set_option maxHeartbeats 2000000 in
set_option maxRecDepth 100000 in
theorem open_no {w : World} {T : Nat → Prop} {b : Nat} {d : Dk.D} {n0 g0 n1 g1 : Value} (h : Dsk w T b d n0 g0 n1 g1) (f : Int) (hf : d.why f ≠ 0) :
    Calls Try.prog 54 #[.pointer (some ⟨b, 0, none⟩), .int .i64 f] w fun e w' => e = .returned (.tuple #[.pointer none, .int .i64 (d.why f)]) ∧ w' = w := by
  have H := isMade_any h.made
  have R := ready_yes h
  clear h
  unfold Dk.D.why at *
  by_cases h0 : f < 0
  · rw [if_pos (.inl h0)]
    clear R hf
    go_enter Try.func54, Try.ntmps54
    go_wp2_with (go_at_call 52; refine H.mono ?_; rintro e w2 ⟨rfl, he⟩; replace he := he.symm; subst he)
    go_ret2
    exact ⟨rfl, rfl⟩
  · by_cases h2 : 2 ≤ f
    · rw [if_pos (.inr h2)]
      clear R hf
      go_enter Try.func54, Try.ntmps54
      go_wp2_with (go_at_call 52; refine H.mono ?_; rintro e w2 ⟨rfl, he⟩; replace he := he.symm; subst he)
      go_ret2
      exact ⟨rfl, rfl⟩
    · rw [if_neg (by omega)] at hf ⊢
      have ho : d.on = false := by
        by_cases h3 : d.on = false
        · exact h3
        · rw [if_neg h3] at hf; exact absurd rfl hf
      rw [ho] at R ⊢
      simp only [Bool.false_eq_true, if_false, if_true] at R ⊢
      clear hf ho
      go_enter Try.func54, Try.ntmps54
      go_wp2_with (first
        | (go_at_call 52; refine H.mono ?_; rintro e w2 ⟨rfl, he⟩; replace he := he.symm; subst he)
        | (go_at_call 53; refine R.mono ?_; rintro e w2 ⟨rfl, he⟩; replace he := he.symm; subst he))
      go_ret2
      exact ⟨rfl, rfl⟩
set_option maxHeartbeats 2000000 in
set_option maxRecDepth 100000 in
theorem open_yes {w : World} {T : Nat → Prop} {b : Nat} {d : Dk.D} {n0 g0 n1 g1 : Value} (h : Dsk w T b d n0 g0 n1 g1) (f : Int) (hf : d.why f = 0) :
    Calls Try.prog 54 #[.pointer (some ⟨b, 0, none⟩), .int .i64 f] w fun e w' => e = .returned (.tuple #[.pointer (some ⟨b, fo f, none⟩), .int .i64 0]) ∧ w' = w := by
  have H := isMade_any h.made
  have R := ready_yes h
  obtain ⟨hff, ho⟩ := Dk.D.why_file hf
  rw [ho] at R
  simp only [if_true] at R
  clear h hf ho
  rcases hff with rfl | rfl
  · go_enter Try.func54, Try.ntmps54
    go_wp2_with (first
      | (go_at_call 52; refine H.mono ?_; rintro e w2 ⟨rfl, he⟩; replace he := he.symm; subst he)
      | (go_at_call 53; refine R.mono ?_; rintro e w2 ⟨rfl, he⟩; replace he := he.symm; subst he))
    go_ret2
    exact ⟨rfl, rfl⟩
  · go_enter Try.func54, Try.ntmps54
    go_wp2_with (first
      | (go_at_call 52; refine H.mono ?_; rintro e w2 ⟨rfl, he⟩; replace he := he.symm; subst he)
      | (go_at_call 53; refine R.mono ?_; rintro e w2 ⟨rfl, he⟩; replace he := he.symm; subst he))
    go_ret2
    exact ⟨rfl, rfl⟩
end Go.Proofs.Ytnnlmnjbmbflpaa
