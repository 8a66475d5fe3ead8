/- Texts laid as one. -/
import Derived.Test.YtcjbceidgaieaaaKDkR
import Derived.Test.YtcjbceidgaieaaaKDiskMath
import Derived.BigRegion
/- A disk in memory, and the contracts of its calls that turn nothing. -/
set_option linter.unusedVariables false
set_option linter.unusedSimpArgs false
namespace Go.Proofs.Ytcjbceidgaieaaa
open Go.RowKit
/-- Two slices lie in two blocks. -/
def Ap (u v : Value) : Prop := ∀ k, u.ownBlock = some k → v.ownBlock = some k → False
def In (T : Nat → Prop) (v : Value) : Prop := ∀ k, v.ownBlock = some k → T k
abbrev xD (d : Dk.D) (n0 g0 n1 g1 : Value) : Array Value := #[.bool true, .bool d.on, .int .i64 d.room, .int .i64 d.root, n0, .int .i64 (d.a.whole : Int), g0, n1, .int .i64 (d.b.whole : Int), g1, .int .i64 d.fuse, .bool d.behind]
/-- A disk's block, and the slices in it. -/
structure DAt (w : World) (b : Nat) (d : Dk.D) (n0 g0 n1 g1 : Value) : Prop where
  blk : w.heap[b]? = some (.cells (xD d n0 g0 n1 g1) 93 (0, 0))
  o0 : OwnsBytes w 0 n0 d.a.now
  q0 : OwnsBytes w 0 g0 d.a.gone
  o1 : OwnsBytes w 0 n1 d.b.now
  q1 : OwnsBytes w 0 g1 d.b.gone
  a1 : Ap n0 g0
  a2 : Ap n0 n1
  a3 : Ap n0 g1
  a4 : Ap g0 n1
  a5 : Ap g0 g1
  a6 : Ap n1 g1
  b0 : n0.ownBlock ≠ some b
  b1 : g0.ownBlock ≠ some b
  b2 : n1.ownBlock ≠ some b
  b3 : g1.ownBlock ≠ some b
/-- A disk that is kept in the blocks T. -/
structure Dsk (w : World) (T : Nat → Prop) (b : Nat) (d : Dk.D) (n0 g0 n1 g1 : Value) : Prop where
  dat : DAt w b d n0 g0 n1 g1
  fine : d.Fine
  tb : T b
  t0 : In T n0
  t1 : In T g0
  t2 : In T n1
  t3 : In T g1
  low : ∀ k, T k → k < w.heap.size
/-- w' is w, but for the blocks T and new ones. -/
structure Own (T : Nat → Prop) (w w' : World) : Prop where
  os : w'.os = w.os
  tape : w'.tape = w.tape
  output : w'.output = w.output
  size : w.heap.size ≤ w'.heap.size
  block : ∀ k, k < w.heap.size → ¬ T k → w'.heap[k]? = w.heap[k]?
theorem Own.refl (T : Nat → Prop) (w : World) : Own T w w := ⟨rfl, rfl, rfl, Nat.le_refl _, fun _ _ _ => rfl⟩
theorem Own.of {T : Nat → Prop} {w w' : World} (h : Below w.heap.size w w') : Own T w w' := ⟨h.os, h.tape, h.output, h.size, fun k hk _ => h.block k hk⟩
/-- The blocks T and those that are new in w'. -/
def More (T : Nat → Prop) (w w' : World) : Nat → Prop := fun k => T k ∨ (w.heap.size ≤ k ∧ k < w'.heap.size)
theorem Own.trans {T T' : Nat → Prop} {a b c : World} (h : Own T a b) (h2 : Own T' b c) (hT : ∀ k, T' k → T k ∨ a.heap.size ≤ k) : Own T a c :=
  ⟨h2.os.trans h.os, h2.tape.trans h.tape, h2.output.trans h.output, Nat.le_trans h.size h2.size, fun k hk hn => (h2.block k (Nat.lt_of_lt_of_le hk h.size) (fun ht => (hT k ht).elim hn (fun hx => by omega))).trans (h.block k hk hn)⟩
theorem Own.below {T : Nat → Prop} {B : Nat} {w w' : World} (h : Own T w w') (hT : ∀ k, T k → B ≤ k) (hB : B ≤ w.heap.size) : Below B w w' :=
  ⟨h.os, h.tape, h.output, h.size, fun k hk => h.block k (by omega) (fun ht => by have := hT k ht; omega)⟩
theorem DAt.lt {w : World} {b : Nat} {d : Dk.D} {n0 g0 n1 g1 : Value} (h : DAt w b d n0 g0 n1 g1) : b < w.heap.size := (Array.getElem?_eq_some_iff.1 h.blk).1
theorem DAt.cell {w : World} {b : Nat} {d : Dk.D} {n0 g0 n1 g1 : Value} (h : DAt w b d n0 g0 n1 g1) (i : Nat) : w.cell? ⟨b, i, none⟩ = (xD d n0 g0 n1 g1)[i]? := Lib.cell_of_heap h.blk i
theorem DAt.free {w : World} {b : Nat} {d : Dk.D} {n0 g0 n1 g1 : Value} (h : DAt w b d n0 g0 n1 g1) (i : Nat) : w.frozen? ⟨b, i, none⟩ = false := Lib.frozen_of_heap h.blk i
theorem DAt.keep {w w' : World} {b : Nat} {d : Dk.D} {n0 g0 n1 g1 : Value} (h : DAt w b d n0 g0 n1 g1) (hb : w'.heap[b]? = w.heap[b]?) (hk : ∀ k, k < w.heap.size → n0.ownBlock = some k ∨ g0.ownBlock = some k ∨ n1.ownBlock = some k ∨ g1.ownBlock = some k → w'.heap[k]? = w.heap[k]?) : DAt w' b d n0 g0 n1 g1 :=
  ⟨hb.trans h.blk, h.o0.keep (fun k e hl => hk k hl (.inl e)), h.q0.keep (fun k e hl => hk k hl (.inr (.inl e))), h.o1.keep (fun k e hl => hk k hl (.inr (.inr (.inl e)))), h.q1.keep (fun k e hl => hk k hl (.inr (.inr (.inr e)))), h.a1, h.a2, h.a3, h.a4, h.a5, h.a6, h.b0, h.b1, h.b2, h.b3⟩
theorem DAt.below {w w' : World} {b : Nat} {d : Dk.D} {n0 g0 n1 g1 : Value} (h : DAt w b d n0 g0 n1 g1) (hB : Below w.heap.size w w') : DAt w' b d n0 g0 n1 g1 := h.keep (hB.block b h.lt) (fun k hk _ => hB.block k hk)
theorem Dsk.keep {w w' : World} {T : Nat → Prop} {b : Nat} {d : Dk.D} {n0 g0 n1 g1 : Value} (h : Dsk w T b d n0 g0 n1 g1) (hs : w.heap.size ≤ w'.heap.size) (hk : ∀ k, k < w.heap.size → T k → w'.heap[k]? = w.heap[k]?) : Dsk w' T b d n0 g0 n1 g1 :=
  ⟨h.dat.keep (hk b h.dat.lt h.tb) (fun k hl hx => hk k hl (by rcases hx with e | e | e | e; exact h.t0 k e; exact h.t1 k e; exact h.t2 k e; exact h.t3 k e)), h.fine, h.tb, h.t0, h.t1, h.t2, h.t3, fun k hT => Nat.lt_of_lt_of_le (h.low k hT) hs⟩
theorem Dsk.below {w w' : World} {T : Nat → Prop} {b : Nat} {d : Dk.D} {n0 g0 n1 g1 : Value} (h : Dsk w T b d n0 g0 n1 g1) (hB : Below w.heap.size w w') : Dsk w' T b d n0 g0 n1 g1 := h.keep hB.size (fun k hk _ => hB.block k hk)
/-- Whether what a pointer points to is a disk that New made. -/
def Made (w : World) (v : Value) (m : Bool) : Prop := (v = .pointer none ∧ m = false) ∨ ∃ b, v = .pointer (some ⟨b, 0, none⟩) ∧ w.cell? ⟨b, 0, none⟩ = some (.bool m)
theorem Dsk.made {w : World} {T : Nat → Prop} {b : Nat} {d : Dk.D} {n0 g0 n1 g1 : Value} (h : Dsk w T b d n0 g0 n1 g1) : Made w (.pointer (some ⟨b, 0, none⟩)) true := .inr ⟨b, rfl, h.dat.cell 0⟩
theorem Made.below {w w' : World} {v : Value} {m : Bool} (h : Made w v m) (hB : Below w.heap.size w w') : Made w' v m := by
  rcases h with h | ⟨b, rfl, h⟩
  · exact .inl h
  · exact .inr ⟨b, rfl, (hB.cell (p := ⟨b, 0, none⟩) (cell_lt h)).trans h⟩
set_option maxHeartbeats 2000000 in
set_option maxRecDepth 100000 in
theorem isMade_any {w : World} {v : Value} {m : Bool} (h : Made w v m) :
    Calls Try.prog 51 #[v] w fun e w' => e = .returned (.bool m) ∧ w' = w := by
  rcases h with ⟨rfl, rfl⟩ | ⟨b, rfl, h⟩
  · go_enter Try.func51, Try.ntmps51
    go_wp2
    go_ret
    exact ⟨rfl, rfl⟩
  · go_enter Try.func51, Try.ntmps51
    go_wp2
    go_ret
    exact ⟨rfl, rfl⟩
set_option maxHeartbeats 2000000 in
set_option maxRecDepth 100000 in
theorem ready_no {w : World} {v : Value} (h : Made w v false) :
    Calls Try.prog 54 #[v] w fun e w' => e = .returned (.int .i64 2) ∧ w' = w := by
  have H := isMade_any h
  go_enter Try.func54, Try.ntmps54
  go_wp2_with (go_at_call 51; refine H.mono ?_; rintro e w2 ⟨rfl, he⟩; replace he := he.symm; subst he)
  go_ret
  exact ⟨rfl, rfl⟩
set_option maxHeartbeats 2000000 in
set_option maxRecDepth 100000 in
theorem ready_yes {w : World} {T : Nat → Prop} {b : Nat} {d : Dk.D} {n0 g0 n1 g1 : Value} (h : Dsk w T b d n0 g0 n1 g1) :
    Calls Try.prog 54 #[.pointer (some ⟨b, 0, none⟩)] w fun e w' => e = .returned (.int .i64 (if d.on = true then 0 else 12)) ∧ w' = w := by
  have H := isMade_any h.made
  have c1 : w.cell? ⟨b, 1, none⟩ = some (.bool d.on) := h.dat.cell 1
  clear h
  obtain ⟨on, room, root, a, bb, fuse, behind⟩ := d
  cases on
  · go_enter Try.func54, Try.ntmps54
    go_wp2_with (go_at_call 51; refine H.mono ?_; rintro e w2 ⟨rfl, he⟩; replace he := he.symm; subst he)
    go_ret
    exact ⟨rfl, rfl⟩
  · go_enter Try.func54, Try.ntmps54
    go_wp2_with (go_at_call 51; refine H.mono ?_; rintro e w2 ⟨rfl, he⟩; replace he := he.symm; subst he)
    go_ret
    exact ⟨rfl, rfl⟩
set_option maxHeartbeats 2000000 in
set_option maxRecDepth 100000 in
theorem On_no {w : World} {v : Value} (h : Made w v false) :
    Calls Try.prog 18 #[v] w fun e w' => e = .returned (.bool false) ∧ w' = w := by
  have H := isMade_any h
  go_enter Try.func18, Try.ntmps18
  go_wp2_with (go_at_call 51; refine H.mono ?_; rintro e w2 ⟨rfl, he⟩; replace he := he.symm; subst he)
  go_ret
  exact ⟨rfl, rfl⟩
set_option maxHeartbeats 2000000 in
set_option maxRecDepth 100000 in
theorem On_yes {w : World} {T : Nat → Prop} {b : Nat} {d : Dk.D} {n0 g0 n1 g1 : Value} (h : Dsk w T b d n0 g0 n1 g1) :
    Calls Try.prog 18 #[.pointer (some ⟨b, 0, none⟩)] w fun e w' => e = .returned (.bool d.on) ∧ w' = w := by
  have H := isMade_any h.made
  have c1 : w.cell? ⟨b, 1, none⟩ = some (.bool d.on) := h.dat.cell 1
  clear h
  go_enter Try.func18, Try.ntmps18
  go_wp2_with (go_at_call 51; refine H.mono ?_; rintro e w2 ⟨rfl, he⟩; replace he := he.symm; subst he)
  go_ret
  exact ⟨rfl, rfl⟩
/-- Where a file lies in a disk's block. -/
def fo (f : Int) : Nat := if f = 0 then 4 else 7
set_option maxHeartbeats 2000000 in
set_option maxRecDepth 100000 in
theorem open_nil {w : World} {v : Value} (h : Made w v false) (f : Int) :
    Calls Try.prog 55 #[v, .int .i64 f] w fun e w' => e = .returned (.tuple #[.pointer none, .int .i64 2]) ∧ w' = w := by
  have H := isMade_any h
  go_enter Try.func55, Try.ntmps55
  go_wp2_with (go_at_call 51; refine H.mono ?_; rintro e w2 ⟨rfl, he⟩; replace he := he.symm; subst he)
  go_ret2
  exact ⟨rfl, rfl⟩
set_option maxHeartbeats 2000000 in
set_option maxRecDepth 100000 in
theorem open_no {w : World} {T : Nat → Prop} {b : Nat} {d : Dk.D} {n0 g0 n1 g1 : Value} (h : Dsk w T b d n0 g0 n1 g1) (f : Int) (hf : d.why f ≠ 0) :
    Calls Try.prog 55 #[.pointer (some ⟨b, 0, none⟩), .int .i64 f] w fun e w' => e = .returned (.tuple #[.pointer none, .int .i64 (d.why f)]) ∧ w' = w := by
  have H := isMade_any h.made
  have R := ready_yes h
  clear h
  unfold Dk.D.why at *
  by_cases h0 : f < 0
  · rw [if_pos (.inl h0)]
    clear R hf
    go_enter Try.func55, Try.ntmps55
    go_wp2_with (go_at_call 51; refine H.mono ?_; rintro e w2 ⟨rfl, he⟩; replace he := he.symm; subst he)
    go_ret2
    exact ⟨rfl, rfl⟩
  · by_cases h2 : 2 ≤ f
    · rw [if_pos (.inr h2)]
      clear R hf
      go_enter Try.func55, Try.ntmps55
      go_wp2_with (go_at_call 51; refine H.mono ?_; rintro e w2 ⟨rfl, he⟩; replace he := he.symm; subst he)
      go_ret2
      exact ⟨rfl, rfl⟩
    · rw [if_neg (by omega)] at hf ⊢
      have ho : d.on = false := by
        by_cases h3 : d.on = false
        · exact h3
        · rw [if_neg h3] at hf; exact absurd rfl hf
      rw [ho] at R ⊢
      simp only [Bool.false_eq_true, if_false, if_true] at R ⊢
      clear hf ho
      go_enter Try.func55, Try.ntmps55
      go_wp2_with (first
        | (go_at_call 51; refine H.mono ?_; rintro e w2 ⟨rfl, he⟩; replace he := he.symm; subst he)
        | (go_at_call 54; refine R.mono ?_; rintro e w2 ⟨rfl, he⟩; replace he := he.symm; subst he))
      go_ret2
      exact ⟨rfl, rfl⟩
set_option maxHeartbeats 2000000 in
set_option maxRecDepth 100000 in
theorem open_yes {w : World} {T : Nat → Prop} {b : Nat} {d : Dk.D} {n0 g0 n1 g1 : Value} (h : Dsk w T b d n0 g0 n1 g1) (f : Int) (hf : d.why f = 0) :
    Calls Try.prog 55 #[.pointer (some ⟨b, 0, none⟩), .int .i64 f] w fun e w' => e = .returned (.tuple #[.pointer (some ⟨b, fo f, none⟩), .int .i64 0]) ∧ w' = w := by
  have H := isMade_any h.made
  have R := ready_yes h
  obtain ⟨hff, ho⟩ := Dk.D.why_file hf
  rw [ho] at R
  simp only [if_true] at R
  clear h hf ho
  rcases hff with rfl | rfl
  · go_enter Try.func55, Try.ntmps55
    go_wp2_with (first
      | (go_at_call 51; refine H.mono ?_; rintro e w2 ⟨rfl, he⟩; replace he := he.symm; subst he)
      | (go_at_call 54; refine R.mono ?_; rintro e w2 ⟨rfl, he⟩; replace he := he.symm; subst he))
    go_ret2
    exact ⟨rfl, rfl⟩
  · go_enter Try.func55, Try.ntmps55
    go_wp2_with (first
      | (go_at_call 51; refine H.mono ?_; rintro e w2 ⟨rfl, he⟩; replace he := he.symm; subst he)
      | (go_at_call 54; refine R.mono ?_; rintro e w2 ⟨rfl, he⟩; replace he := he.symm; subst he))
    go_ret2
    exact ⟨rfl, rfl⟩
end Go.Proofs.Ytcjbceidgaieaaa
/- The contracts of New, Root, Read, Arm, Fail. -/
set_option linter.unusedVariables false
set_option linter.unusedSimpArgs false
namespace Go.Proofs.Ytcjbceidgaieaaa
open Go.RowKit
theorem heap_set {w : World} {b i : Nat} {X : Array Value} {t : TypeId} (h : w.heap[b]? = some (.cells X t (0, 0))) (v : Value) : (w.setCell ⟨b, i, none⟩ v).heap[b]? = some (.cells (X.setIfInBounds i v) t (0, 0)) := heap_setCell_same w b i X t v h
theorem Own.set {T : Nat → Prop} {b : Nat} (hb : T b) (w : World) (i : Nat) (v : Value) : Own T w (w.setCell ⟨b, i, none⟩ v) := by
  have h := (Below.refl 0 w).setCell (p := ⟨b, i, none⟩) (Nat.zero_le _) v
  exact ⟨h.os, h.tape, h.output, h.size, fun k _ hk => Below.heap_setCell _ _ _ _ (fun e => hk (by rw [e]; exact hb))⟩
/-- A cell of the disk's own that holds no slice is written. -/
theorem DAt.set {w : World} {b : Nat} {d d' : Dk.D} {n0 g0 n1 g1 : Value} (h : DAt w b d n0 g0 n1 g1) (i : Nat) (v : Value) (hx : (xD d n0 g0 n1 g1).setIfInBounds i v = xD d' n0 g0 n1 g1) (ha : d'.a = d.a) (hb : d'.b = d.b) : DAt (w.setCell ⟨b, i, none⟩ v) b d' n0 g0 n1 g1 := by
  have hk : ∀ k, k ≠ b → (w.setCell ⟨b, i, none⟩ v).heap[k]? = w.heap[k]? := fun k hk => Below.heap_setCell _ _ _ _ hk
  refine ⟨by rw [← hx]; exact heap_set h.blk v, ?_, ?_, ?_, ?_, h.a1, h.a2, h.a3, h.a4, h.a5, h.a6, h.b0, h.b1, h.b2, h.b3⟩
  · rw [ha]; exact h.o0.keep (fun k e _ => hk k (fun e2 => h.b0 (by rw [e, e2])))
  · rw [ha]; exact h.q0.keep (fun k e _ => hk k (fun e2 => h.b1 (by rw [e, e2])))
  · rw [hb]; exact h.o1.keep (fun k e _ => hk k (fun e2 => h.b2 (by rw [e, e2])))
  · rw [hb]; exact h.q1.keep (fun k e _ => hk k (fun e2 => h.b3 (by rw [e, e2])))
theorem setCell_size (w : World) (a : Addr) (v : Value) : (w.setCell a v).heap.size = w.heap.size := by simp [World.setCell]
theorem Dsk.set {w : World} {T : Nat → Prop} {b : Nat} {d d' : Dk.D} {n0 g0 n1 g1 : Value} (h : Dsk w T b d n0 g0 n1 g1) (i : Nat) (v : Value) (hx : (xD d n0 g0 n1 g1).setIfInBounds i v = xD d' n0 g0 n1 g1) (ha : d'.a = d.a) (hb : d'.b = d.b) (hf : d'.Fine) : Dsk (w.setCell ⟨b, i, none⟩ v) T b d' n0 g0 n1 g1 :=
  ⟨h.dat.set i v hx ha hb, hf, h.tb, h.t0, h.t1, h.t2, h.t3, fun k hk => by rw [setCell_size]; exact h.low k hk⟩
set_option maxHeartbeats 2000000 in
set_option maxRecDepth 100000 in
theorem Root_no {w : World} {v : Value} (h : Made w v false) :
    Calls Try.prog 25 #[v] w fun e w' => e = .returned (.tuple #[.int .i64 0, .int .i64 2]) ∧ w' = w := by
  have H := ready_no h
  go_enter Try.func25, Try.ntmps25
  go_wp2_with (go_at_call 54; refine H.mono ?_; rintro e w2 ⟨rfl, he⟩; replace he := he.symm; subst he)
  go_ret2
  exact ⟨rfl, rfl⟩
set_option maxHeartbeats 2000000 in
set_option maxRecDepth 100000 in
theorem Root_yes {w : World} {T : Nat → Prop} {b : Nat} {d : Dk.D} {n0 g0 n1 g1 : Value} (h : Dsk w T b d n0 g0 n1 g1) :
    Calls Try.prog 25 #[.pointer (some ⟨b, 0, none⟩)] w fun e w' => e = .returned (.tuple #[.int .i64 (if d.on = true then d.root else 0), .int .i64 (if d.on = true then 0 else 12)]) ∧ w' = w := by
  have H := ready_yes h
  have c3 : w.cell? ⟨b, 3, none⟩ = some (.int .i64 d.root) := h.dat.cell 3
  clear h
  obtain ⟨on, room, root, a, bb, fuse, behind⟩ := d
  cases on
  · simp only [Bool.false_eq_true, if_false] at H ⊢
    go_enter Try.func25, Try.ntmps25
    go_wp2_with (go_at_call 54; refine H.mono ?_; rintro e w2 ⟨rfl, he⟩; replace he := he.symm; subst he)
    go_ret2
    exact ⟨rfl, rfl⟩
  · simp only [if_true] at H ⊢
    go_enter Try.func25, Try.ntmps25
    go_wp2_with (go_at_call 54; refine H.mono ?_; rintro e w2 ⟨rfl, he⟩; replace he := he.symm; subst he)
    go_ret2
    exact ⟨rfl, rfl⟩
theorem is_nil (w : World) (a : Option Addr) (n c : Nat) : (binOp .eql 27 (.slice a n c) (.slice none 0 0)).run Try.prog w = .ok (.bool a.isNone) w := by
  simp only [binOp]
  simp [run_equal_slice_nil w 27 5 a n c Try.underlying27]
/-- A copy of bytes, of the call's own. -/
theorem own_new {w w' : World} {v : Value} {l : List UInt8} (h : OwnsBytes w' 0 v l) {g : Nat} (hg : v.ownBlock = some g ∨ v.ownBlock = none ∨ v.ownBlock = some w.heap.size) (hb : w.heap.size ≤ g) : OwnsBytes w' w.heap.size v l := by
  refine h.base (fun k hk => ?_)
  rcases hg with e | e | e <;> rw [e] at hk <;> cases hk <;> omega
set_option maxHeartbeats 2000000 in
set_option maxRecDepth 100000 in
theorem Clone_any {w : World} {v : Value} {l : List UInt8} (h : RB w v l) (hl : l.length ≤ 1000000000) :
    Calls Try.prog 56 #[v] w fun e w' => ∃ u, e = .returned u ∧ OwnsBytes w' w.heap.size u l ∧ Below w.heap.size w w' := by
  have hnil := is_nil
  rcases h with ⟨a, c, rfl, rfl, h0⟩ | ⟨b, o, c, rfl, hc, hr⟩
  · cases a with
    | none =>
      obtain rfl := h0 rfl
      go_enter Try.func56, Try.ntmps56
      go_wp2
      go_ret
      exact ⟨_, rfl, OwnsBytes.nil _ _, Below.refl _ _⟩
    | some a =>
      have hN : ∀ (W : World), OwnsBytes (W.alloc (.cells #[] 5)) 0 (.slice (some ⟨W.heap.size, 0, none⟩) 0 0) [] := fun W => ⟨rfl, .inr ⟨W.heap.size, 0, #[], rfl, Nat.zero_le _, heap_new W _, Nat.le_refl _, Nat.zero_le _, rfl, rfl⟩⟩
      have hy : RB (w.alloc (.cells #[] 5)) (.slice (some a) 0 c) [] := .inl ⟨_, _, rfl, rfl, fun e => by cases e⟩
      go_enter Try.func56, Try.ntmps56
      go_wp2_with (refine wpList_append_RB rfl (.tmp 5) (.tmp 6) rfl _ _ rfl (hN w) _ _ rfl hy (by simp) ?_; intro v' w' h1 h2 h3)
      go_ret
      refine ⟨_, rfl, ?_, ?_⟩
      · rw [size_alloc] at h3
        exact own_new (g := w.heap.size + 1) h1 (by rcases h3 with h3 | h3; exact .inr (.inr h3); exact .inl h3) (by omega)
      · exact ((Below.refl _ w).alloc (Nat.le_refl _) _).grown h2 (by simp) (fun k hk => by cases hk; exact Nat.le_refl _)
  · have hN : ∀ (W : World), OwnsBytes (W.alloc (.cells #[] 5)) 0 (.slice (some ⟨W.heap.size, 0, none⟩) 0 0) [] := fun W => ⟨rfl, .inr ⟨W.heap.size, 0, #[], rfl, Nat.zero_le _, heap_new W _, Nat.le_refl _, Nat.zero_le _, rfl, rfl⟩⟩
    have hy : RB (w.alloc (.cells #[] 5)) (.slice (some ⟨b, o, none⟩) l.length c) l := RB.below (.inr ⟨b, o, c, rfl, hc, hr⟩) ((Below.refl _ w).alloc (Nat.le_refl _) _)
    go_enter Try.func56, Try.ntmps56
    go_wp2_with (refine wpList_append_RB rfl (.tmp 5) (.tmp 6) rfl _ _ rfl (hN w) _ _ rfl hy (by simp; omega) ?_; intro v' w' h1 h2 h3)
    go_ret
    refine ⟨_, rfl, ?_, ?_⟩
    · rw [size_alloc] at h3
      exact own_new (g := w.heap.size + 1) h1 (by rcases h3 with h3 | h3; exact .inr (.inr h3); exact .inl h3) (by omega)
    · exact ((Below.refl _ w).alloc (Nat.le_refl _) _).grown h2 (by simp) (fun k hk => by cases hk; exact Nat.le_refl _)
theorem Dsk.file {w : World} {T : Nat → Prop} {b : Nat} {d : Dk.D} {n0 g0 n1 g1 : Value} (h : Dsk w T b d n0 g0 n1 g1) {f : Int} (hf : f = 0 ∨ f = 1) : ∃ v, w.cell? ⟨b, fo f, none⟩ = some v ∧ OwnsBytes w 0 v (d.at f).now := by
  rcases hf with rfl | rfl
  · exact ⟨n0, h.dat.cell 4, h.dat.o0⟩
  · exact ⟨n1, h.dat.cell 7, h.dat.o1⟩
set_option maxHeartbeats 2000000 in
set_option maxRecDepth 100000 in
theorem Read_nil {w : World} {v : Value} (h : Made w v false) (f : Int) :
    Calls Try.prog 26 #[v, .int .i64 f] w fun e w' => e = .returned (.tuple #[.slice none 0 0, .int .i64 2]) ∧ w' = w := by
  have H := open_nil h f
  go_enter Try.func26, Try.ntmps26
  go_wp2_with (go_at_call 55; refine H.mono ?_; rintro e w2 ⟨rfl, he⟩; replace he := he.symm; subst he)
  go_ret2
  exact ⟨rfl, rfl⟩
set_option maxHeartbeats 2000000 in
set_option maxRecDepth 100000 in
theorem Read_no {w : World} {T : Nat → Prop} {b : Nat} {d : Dk.D} {n0 g0 n1 g1 : Value} (h : Dsk w T b d n0 g0 n1 g1) (f : Int) (hf : d.why f ≠ 0) :
    Calls Try.prog 26 #[.pointer (some ⟨b, 0, none⟩), .int .i64 f] w fun e w' => e = .returned (.tuple #[.slice none 0 0, .int .i64 (d.why f)]) ∧ w' = w := by
  have H := open_no h f hf
  clear h
  generalize d.why f = q at *
  have h0 : (q == 0) = false := by simpa using hf
  go_enter Try.func26, Try.ntmps26
  go_wp2_with (go_at_call 55; refine H.mono ?_; rintro e w2 ⟨rfl, he⟩; replace he := he.symm; subst he)
  go_ret2
  exact ⟨rfl, rfl⟩
set_option maxHeartbeats 2000000 in
set_option maxRecDepth 100000 in
theorem Read_yes {w : World} {T : Nat → Prop} {b : Nat} {d : Dk.D} {n0 g0 n1 g1 : Value} (h : Dsk w T b d n0 g0 n1 g1) (f : Int) (hf : d.why f = 0) :
    Calls Try.prog 26 #[.pointer (some ⟨b, 0, none⟩), .int .i64 f] w fun e w' => ∃ u, e = .returned (.tuple #[u, .int .i64 0]) ∧ OwnsBytes w' w.heap.size u (d.at f).now ∧ Below w.heap.size w w' := by
  have H := open_yes h f hf
  obtain ⟨v, hc, ho⟩ := h.file (Dk.D.why_file hf).1
  have hn := (h.fine.at f).now
  have C := Clone_any ho.reads (by omega)
  generalize fo f = o at *
  clear h hf
  go_enter Try.func26, Try.ntmps26
  go_wp2_with (first
    | (go_at_call 55; refine H.mono ?_; rintro e w2 ⟨rfl, he⟩; replace he := he.symm; subst he)
    | (go_at_call 56; refine C.mono ?_; rintro e w3 ⟨u, rfl, hu, hB⟩))
  go_ret2
  exact ⟨_, rfl, hu, hB⟩
set_option maxHeartbeats 2000000 in
set_option maxRecDepth 100000 in
theorem Arm_no {w : World} {v : Value} (h : Made w v false) (n : Int) (q : Bool) :
    Calls Try.prog 20 #[v, .int .i64 n, .bool q] w fun e w' => e = .returned (.tuple #[]) ∧ w' = w := by
  have H := isMade_any h
  go_enter Try.func20, Try.ntmps20
  go_wp2_with (go_at_call 51; refine H.mono ?_; rintro e w2 ⟨rfl, he⟩; replace he := he.symm; subst he)
  go_end0
  exact ⟨rfl, rfl⟩
set_option maxHeartbeats 2000000 in
set_option maxRecDepth 100000 in
theorem Arm_yes {w : World} {T : Nat → Prop} {b : Nat} {d : Dk.D} {n0 g0 n1 g1 : Value} (h : Dsk w T b d n0 g0 n1 g1) (n : Int) (hn : -9223372036854775808 ≤ n ∧ n ≤ 9223372036854775807) (q : Bool) :
    Calls Try.prog 20 #[.pointer (some ⟨b, 0, none⟩), .int .i64 n, .bool q] w fun e w' => e = .returned (.tuple #[]) ∧ Dsk w' T b (d.arm n q) n0 g0 n1 g1 ∧ Own T w w' := by
  have H := isMade_any h.made
  have c10 : w.cell? ⟨b, 10, none⟩ = some (.int .i64 d.fuse) := h.dat.cell 10
  have c11 : w.cell? ⟨b, 11, none⟩ = some (.bool d.behind) := h.dat.cell 11
  have f10 := h.dat.free 10
  have f11 := h.dat.free 11
  have h1 := h.set (d' := { d with fuse := n }) 10 (.int .i64 n) rfl rfl rfl ⟨h.fine.a, h.fine.b, h.fine.room, h.fine.least, h.fine.root, hn⟩
  have h2 := h1.set (d' := d.arm n q) 11 (.bool q) rfl rfl rfl (h.fine.arm hn q)
  have HO : Hid (Own T w ((w.setCell ⟨b, 10, none⟩ (.int .i64 n)).setCell ⟨b, 11, none⟩ (.bool q))) := (Own.set h.tb w 10 _).trans (Own.set h.tb _ 11 _) (fun k hk => .inl hk)
  have H2 : Hid (Dsk ((w.setCell ⟨b, 10, none⟩ (.int .i64 n)).setCell ⟨b, 11, none⟩ (.bool q)) T b (d.arm n q) n0 g0 n1 g1) := h2
  clear h h1 h2 hn
  go_enter Try.func20, Try.ntmps20
  go_wp2_with (go_at_call 51; refine H.mono ?_; rintro e w2 ⟨rfl, he⟩; replace he := he.symm; subst he)
  go_end0
  exact ⟨rfl, H2.out, HO.out⟩
set_option maxHeartbeats 2000000 in
set_option maxRecDepth 100000 in
theorem Fail_no {w : World} {v : Value} (h : Made w v false) :
    Calls Try.prog 21 #[v] w fun e w' => e = .returned (.tuple #[]) ∧ w' = w := by
  have H := isMade_any h
  go_enter Try.func21, Try.ntmps21
  go_wp2_with (go_at_call 51; refine H.mono ?_; rintro e w2 ⟨rfl, he⟩; replace he := he.symm; subst he)
  go_end0
  exact ⟨rfl, rfl⟩
set_option maxHeartbeats 2000000 in
set_option maxRecDepth 100000 in
theorem Fail_yes {w : World} {T : Nat → Prop} {b : Nat} {d : Dk.D} {n0 g0 n1 g1 : Value} (h : Dsk w T b d n0 g0 n1 g1) :
    Calls Try.prog 21 #[.pointer (some ⟨b, 0, none⟩)] w fun e w' => e = .returned (.tuple #[]) ∧ Dsk w' T b d.fail n0 g0 n1 g1 ∧ Own T w w' := by
  have H := isMade_any h.made
  have c1 : w.cell? ⟨b, 1, none⟩ = some (.bool d.on) := h.dat.cell 1
  have f1 := h.dat.free 1
  have h1 := h.set (d' := d.fail) 1 (.bool false) rfl rfl rfl h.fine.fail
  have HO : Hid (Own T w (w.setCell ⟨b, 1, none⟩ (.bool false))) := Own.set h.tb w 1 _
  have H2 : Hid (Dsk (w.setCell ⟨b, 1, none⟩ (.bool false)) T b d.fail n0 g0 n1 g1) := h1
  clear h h1
  go_enter Try.func21, Try.ntmps21
  go_wp2_with (go_at_call 51; refine H.mono ?_; rintro e w2 ⟨rfl, he⟩; replace he := he.symm; subst he)
  go_end0
  exact ⟨rfl, H2.out, HO.out⟩
set_option maxHeartbeats 2000000 in
set_option maxRecDepth 100000 in
theorem New_no (room : Int) (h : room < 1 ∨ 1048576 < room) (w : World) :
    Calls Try.prog 9 #[.int .i64 room] w fun e w' => e = .returned (.tuple #[.pointer none, .int .i64 1]) ∧ w' = w := by
  by_cases h1 : room < 1
  · clear h
    go_enter Try.func9, Try.ntmps9
    go_wp2
    go_ret2
    exact ⟨rfl, rfl⟩
  · have h2 : 1048576 < room := by omega
    clear h
    go_enter Try.func9, Try.ntmps9
    go_wp2
    go_ret2
    exact ⟨rfl, rfl⟩
abbrev nilS : Value := .slice none 0 0
theorem Dsk.new (w : World) (room : Int) (h1 : 1 ≤ room) (h2 : room ≤ 1048576) : Dsk (w.alloc (.cells (xD (Dk.new room) nilS nilS nilS nilS) 93)) (fun k => k = w.heap.size) w.heap.size (Dk.new room) nilS nilS nilS nilS := by
  have hn : ∀ v, Ap nilS v := fun v k hk => by cases hk
  have hi : ∀ T, In T nilS := fun T k hk => by cases hk
  have hb : (nilS : Value).ownBlock ≠ some w.heap.size := fun h => by cases h
  exact ⟨⟨heap_new w _, OwnsBytes.nil _ _, OwnsBytes.nil _ _, OwnsBytes.nil _ _, OwnsBytes.nil _ _, hn _, hn _, hn _, hn _, hn _, hn _, hb, hb, hb, hb⟩, Dk.new_fine h1 h2, rfl, hi _, hi _, hi _, hi _, fun k hk => by rw [hk, size_alloc]; omega⟩
set_option maxHeartbeats 2000000 in
set_option maxRecDepth 100000 in
theorem New_yes (room : Int) (h1 : 1 ≤ room) (h2 : room ≤ 1048576) (w : World) :
    Calls Try.prog 9 #[.int .i64 room] w fun e w' => e = .returned (.tuple #[.pointer (some ⟨w.heap.size, 0, none⟩), .int .i64 0]) ∧ Dsk w' (fun k => k = w.heap.size) w.heap.size (Dk.new room) nilS nilS nilS nilS ∧ Below w.heap.size w w' := by
  have H := Dsk.new w room h1 h2
  have HH : Hid (Dsk (w.alloc (.cells (xD (Dk.new room) nilS nilS nilS nilS) 93)) (fun k => k = w.heap.size) w.heap.size (Dk.new room) nilS nilS nilS nilS) := H
  clear H
  have h3 : ¬ room < 1 := by omega
  have h4 : ¬ 1048576 < room := by omega
  go_enter Try.func9, Try.ntmps9
  go_wp2
  go_ret2
  exact ⟨rfl, HH.out, (Below.refl _ w).alloc (Nat.le_refl _) _⟩
end Go.Proofs.Ytcjbceidgaieaaa
/- A file of a disk in memory; the contracts of settle and of slices.Reverse. -/
set_option linter.unusedVariables false
set_option linter.unusedSimpArgs false
namespace Go.Proofs.Ytcjbceidgaieaaa
open Go.RowKit
def put3 (X : Array Value) (o : Nat) (x y z : Value) : Array Value := ((X.setIfInBounds o x).setIfInBounds (o + 1) y).setIfInBounds (o + 2) z
theorem put3_at (X : Array Value) (o : Nat) (x y z : Value) (i : Nat) : (put3 X o x y z)[i]? = if i < X.size then (if i = o + 2 then some z else if i = o + 1 then some y else if i = o then some x else X[i]?) else none := by
  unfold put3
  simp only [Array.getElem?_setIfInBounds, Array.size_setIfInBounds]
  by_cases h : i < X.size
  · by_cases h2 : i = o + 2
    · subst h2; simp [h]
    · by_cases h1 : i = o + 1
      · subst h1; simp [h]
      · by_cases h0 : i = o
        · subst h0; simp [h]
        · simp [h, h2, h1, h0, Ne.symm h2, Ne.symm h1, Ne.symm h0]
  · have hn : X[i]? = none := Array.getElem?_eq_none (by omega)
    simp only [h, hn, if_false]
    repeat' split
    all_goals first | rfl | (exfalso; omega)
theorem put3_size (X : Array Value) (o : Nat) (x y z : Value) : (put3 X o x y z).size = X.size := by simp [put3]
theorem put3_put3 (X : Array Value) (o : Nat) (x y z x' y' z' : Value) : put3 (put3 X o x y z) o x' y' z' = put3 X o x' y' z' := by
  apply Array.ext_getElem?
  intro i
  simp only [put3_at, put3_size]
  by_cases h : i < X.size
  · simp only [h, if_true]
    by_cases h2 : i = o + 2
    · simp [h2]
    · by_cases h1 : i = o + 1
      · simp [h1]
      · by_cases h0 : i = o
        · simp [h0]
        · simp [h2, h1, h0]
  · simp [h]
theorem put3_self {X : Array Value} {o : Nat} {x y z : Value} (h0 : X[o]? = some x) (h1 : X[o + 1]? = some y) (h2 : X[o + 2]? = some z) : put3 X o x y z = X := by
  apply Array.ext_getElem?
  intro i
  rw [put3_at]
  by_cases h : i < X.size
  · rw [if_pos h]
    by_cases e2 : i = o + 2
    · subst e2; rw [if_pos rfl, h2]
    · rw [if_neg e2]
      by_cases e1 : i = o + 1
      · subst e1; rw [if_pos rfl, h1]
      · rw [if_neg e1]
        by_cases e0 : i = o
        · subst e0; rw [if_pos rfl, h0]
        · rw [if_neg e0]
  · rw [if_neg h, Array.getElem?_eq_none (by omega)]
/-- A file in the disk's block. -/
structure Ct (w : World) (b o : Nat) (X : Array Value) (c : Dk.Cn) (nv gv : Value) : Prop where
  blk : w.heap[b]? = some (.cells X 93 (0, 0))
  x0 : X[o]? = some nv
  x1 : X[o + 1]? = some (.int .i64 (c.whole : Int))
  x2 : X[o + 2]? = some gv
  n : OwnsBytes w 0 nv c.now
  g : OwnsBytes w 0 gv c.gone
  ap : Ap nv gv
  bn : nv.ownBlock ≠ some b
  bg : gv.ownBlock ≠ some b
/-- The blocks of a file. -/
def Fp (b : Nat) (nv gv : Value) : Nat → Prop := fun k => k = b ∨ nv.ownBlock = some k ∨ gv.ownBlock = some k
theorem Ct.c0 {w : World} {b o : Nat} {X : Array Value} {c : Dk.Cn} {nv gv : Value} (h : Ct w b o X c nv gv) : w.cell? ⟨b, o, none⟩ = some nv := (Lib.cell_of_heap h.blk o).trans h.x0
theorem Ct.c1 {w : World} {b o : Nat} {X : Array Value} {c : Dk.Cn} {nv gv : Value} (h : Ct w b o X c nv gv) : w.cell? ⟨b, o + 1, none⟩ = some (.int .i64 (c.whole : Int)) := (Lib.cell_of_heap h.blk _).trans h.x1
theorem Ct.c2 {w : World} {b o : Nat} {X : Array Value} {c : Dk.Cn} {nv gv : Value} (h : Ct w b o X c nv gv) : w.cell? ⟨b, o + 2, none⟩ = some gv := (Lib.cell_of_heap h.blk _).trans h.x2
theorem Ct.free {w : World} {b o : Nat} {X : Array Value} {c : Dk.Cn} {nv gv : Value} (h : Ct w b o X c nv gv) (i : Nat) : w.frozen? ⟨b, i, none⟩ = false := Lib.frozen_of_heap h.blk i
theorem Ct.lt {w : World} {b o : Nat} {X : Array Value} {c : Dk.Cn} {nv gv : Value} (h : Ct w b o X c nv gv) : b < w.heap.size := (Array.getElem?_eq_some_iff.1 h.blk).1
theorem Ct.low {w : World} {b o : Nat} {X : Array Value} {c : Dk.Cn} {nv gv : Value} (h : Ct w b o X c nv gv) : ∀ k, Fp b nv gv k → k < w.heap.size := by
  rintro k (rfl | e | e)
  · exact h.lt
  · exact (h.n.lt e).2
  · exact (h.g.lt e).2
theorem Ct.below {w w' : World} {b o : Nat} {X : Array Value} {c : Dk.Cn} {nv gv : Value} (h : Ct w b o X c nv gv) (hB : Below w.heap.size w w') : Ct w' b o X c nv gv :=
  ⟨(hB.block b h.lt).trans h.blk, h.x0, h.x1, h.x2, h.n.keep (fun k _ hk => hB.block k hk), h.g.keep (fun k _ hk => hB.block k hk), h.ap, h.bn, h.bg⟩
theorem off_ne {b i j : Nat} (h : i ≠ j) : (⟨b, i, none⟩ : Addr) ≠ ⟨b, j, none⟩ := fun e => h (by cases e; rfl)
/-- How many bytes are sure is written. -/
theorem Ct.set1 {w : World} {b o : Nat} {X : Array Value} {c : Dk.Cn} {nv gv : Value} (h : Ct w b o X c nv gv) (n : Nat) : Ct (w.setCell ⟨b, o + 1, none⟩ (.int .i64 (n : Int))) b o (put3 X o nv (.int .i64 (n : Int)) gv) ⟨c.now, n, c.gone⟩ nv gv := by
  have hk : ∀ k, k ≠ b → (w.setCell ⟨b, o + 1, none⟩ (.int .i64 (n : Int))).heap[k]? = w.heap[k]? := fun k hk => Below.heap_setCell _ _ _ _ hk
  have hs2 : o + 2 < X.size := (Array.getElem?_eq_some_iff.1 h.x2).1
  have e : X.setIfInBounds (o + 1) (.int .i64 (n : Int)) = put3 X o nv (.int .i64 (n : Int)) gv := by
    apply Array.ext_getElem?
    intro i
    rw [put3_at, Array.getElem?_setIfInBounds]
    by_cases h1 : i = o + 1
    · subst h1; simp [show o + 1 < X.size by omega]
    · rw [if_neg (Ne.symm h1)]
      by_cases hi : i < X.size
      · rw [if_pos hi]
        by_cases e2 : i = o + 2
        · subst e2; rw [if_pos rfl, h.x2]
        · rw [if_neg e2, if_neg h1]
          by_cases e0 : i = o
          · subst e0; rw [if_pos rfl, h.x0]
          · rw [if_neg e0]
      · rw [if_neg hi, Array.getElem?_eq_none (by omega)]
  refine ⟨by rw [← e]; exact heap_set h.blk _, ?_, ?_, ?_, h.n.keep (fun k e2 _ => hk k (fun e3 => h.bn (by rw [e2, e3]))), h.g.keep (fun k e2 _ => hk k (fun e3 => h.bg (by rw [e2, e3]))), h.ap, h.bn, h.bg⟩
  · rw [put3_at]; simp [show o < X.size by omega]
  · rw [put3_at]; simp [show o + 1 < X.size by omega]
  · rw [put3_at]; simp [hs2]
/-- The bytes that are gone are written. -/
theorem Ct.mk2 {w : World} {b o : Nat} {X : Array Value} {c : Dk.Cn} {nv gv gv' : Value} {l : List UInt8} (hblk : w.heap[b]? = some (.cells X 93 (0, 0))) (hx0 : X[o]? = some nv) (hx1 : X[o + 1]? = some (.int .i64 (c.whole : Int))) (hx2 : X[o + 2]? = some gv) (hn : OwnsBytes w 0 nv c.now) (hbn : nv.ownBlock ≠ some b) (hg : OwnsBytes w 0 gv' l) (ha : Ap nv gv') (hb : gv'.ownBlock ≠ some b) : Ct (w.setCell ⟨b, o + 2, none⟩ gv') b o (put3 X o nv (.int .i64 (c.whole : Int)) gv') ⟨c.now, c.whole, l⟩ nv gv' := by
  have hk : ∀ k, k ≠ b → (w.setCell ⟨b, o + 2, none⟩ gv').heap[k]? = w.heap[k]? := fun k hk => Below.heap_setCell _ _ _ _ hk
  have hs2 : o + 2 < X.size := (Array.getElem?_eq_some_iff.1 hx2).1
  have e : X.setIfInBounds (o + 2) gv' = put3 X o nv (.int .i64 (c.whole : Int)) gv' := by
    apply Array.ext_getElem?
    intro i
    rw [put3_at, Array.getElem?_setIfInBounds]
    by_cases h1 : i = o + 2
    · subst h1; simp [hs2]
    · rw [if_neg (Ne.symm h1)]
      by_cases hi : i < X.size
      · rw [if_pos hi, if_neg h1]
        by_cases e2 : i = o + 1
        · subst e2; rw [if_pos rfl, hx1]
        · rw [if_neg e2]
          by_cases e0 : i = o
          · subst e0; rw [if_pos rfl, hx0]
          · rw [if_neg e0]
      · rw [if_neg hi, Array.getElem?_eq_none (by omega)]
  refine ⟨by rw [← e]; exact heap_set hblk _, ?_, ?_, ?_, hn.keep (fun k e2 _ => hk k (fun e3 => hbn (by rw [e2, e3]))), hg.keep (fun k e2 _ => hk k (fun e3 => hb (by rw [e2, e3]))), ha, hbn, hb⟩
  · rw [put3_at]; simp [show o < X.size by omega]
  · rw [put3_at]; simp [show o + 1 < X.size by omega]
  · rw [put3_at]; simp [hs2]
theorem Ct.set2 {w : World} {b o : Nat} {X : Array Value} {c : Dk.Cn} {nv gv gv' : Value} {l : List UInt8} (h : Ct w b o X c nv gv) (hg : OwnsBytes w 0 gv' l) (ha : Ap nv gv') (hb : gv'.ownBlock ≠ some b) : Ct (w.setCell ⟨b, o + 2, none⟩ gv') b o (put3 X o nv (.int .i64 (c.whole : Int)) gv') ⟨c.now, c.whole, l⟩ nv gv' := Ct.mk2 h.blk h.x0 h.x1 h.x2 h.n h.bn hg ha hb
/-- The bytes are written. -/
theorem Ct.mk0 {w : World} {b o : Nat} {X : Array Value} {c : Dk.Cn} {nv gv nv' : Value} {l : List UInt8} (hblk : w.heap[b]? = some (.cells X 93 (0, 0))) (hx0 : X[o]? = some nv) (hx1 : X[o + 1]? = some (.int .i64 (c.whole : Int))) (hx2 : X[o + 2]? = some gv) (hgg : OwnsBytes w 0 gv c.gone) (hbg : gv.ownBlock ≠ some b) (hg : OwnsBytes w 0 nv' l) (ha : Ap nv' gv) (hb : nv'.ownBlock ≠ some b) : Ct (w.setCell ⟨b, o, none⟩ nv') b o (put3 X o nv' (.int .i64 (c.whole : Int)) gv) ⟨l, c.whole, c.gone⟩ nv' gv := by
  have hk : ∀ k, k ≠ b → (w.setCell ⟨b, o, none⟩ nv').heap[k]? = w.heap[k]? := fun k hk => Below.heap_setCell _ _ _ _ hk
  have hs2 : o + 2 < X.size := (Array.getElem?_eq_some_iff.1 hx2).1
  have e : X.setIfInBounds o nv' = put3 X o nv' (.int .i64 (c.whole : Int)) gv := by
    apply Array.ext_getElem?
    intro i
    rw [put3_at, Array.getElem?_setIfInBounds]
    by_cases h1 : i = o
    · subst h1; simp [show i < X.size by omega]
    · rw [if_neg (Ne.symm h1)]
      by_cases hi : i < X.size
      · rw [if_pos hi]
        by_cases e2 : i = o + 2
        · subst e2; rw [if_pos rfl, hx2]
        · rw [if_neg e2]
          by_cases e0 : i = o + 1
          · subst e0; rw [if_pos rfl, hx1]
          · rw [if_neg e0, if_neg h1]
      · rw [if_neg hi, Array.getElem?_eq_none (by omega)]
  refine ⟨by rw [← e]; exact heap_set hblk _, ?_, ?_, ?_, hg.keep (fun k e2 _ => hk k (fun e3 => hb (by rw [e2, e3]))), hgg.keep (fun k e2 _ => hk k (fun e3 => hbg (by rw [e2, e3]))), ha, hb, hbg⟩
  · rw [put3_at]; simp [show o < X.size by omega]
  · rw [put3_at]; simp [show o + 1 < X.size by omega]
  · rw [put3_at]; simp [hs2]
theorem Ct.set0 {w : World} {b o : Nat} {X : Array Value} {c : Dk.Cn} {nv gv nv' : Value} {l : List UInt8} (h : Ct w b o X c nv gv) (hg : OwnsBytes w 0 nv' l) (ha : Ap nv' gv) (hb : nv'.ownBlock ≠ some b) : Ct (w.setCell ⟨b, o, none⟩ nv') b o (put3 X o nv' (.int .i64 (c.whole : Int)) gv) ⟨l, c.whole, c.gone⟩ nv' gv := Ct.mk0 h.blk h.x0 h.x1 h.x2 h.g h.bg hg ha hb
/-- What a call on a file leaves. -/
def CtPost (w : World) (b o : Nat) (X : Array Value) (nv gv : Value) (c' : Dk.Cn) (w' : World) : Prop :=
  ∃ nv' gv', Ct w' b o (put3 X o nv' (.int .i64 (c'.whole : Int)) gv') c' nv' gv' ∧ Own (Fp b nv gv) w w' ∧ ∀ k, Fp b nv' gv' k → Fp b nv gv k ∨ w.heap.size ≤ k
theorem Ct.post {w : World} {b o : Nat} {X : Array Value} {c : Dk.Cn} {nv gv : Value} (h : Ct w b o X c nv gv) : CtPost w b o X nv gv c w :=
  ⟨nv, gv, by rw [put3_self h.x0 h.x1 h.x2]; exact h, Own.refl _ _, fun k hk => .inl hk⟩
theorem CtPost.trans {w w1 w2 : World} {b o : Nat} {X : Array Value} {nv gv nv1 gv1 : Value} {c1 c2 : Dk.Cn} (h1 : Own (Fp b nv gv) w w1) (h1k : ∀ k, Fp b nv1 gv1 k → Fp b nv gv k ∨ w.heap.size ≤ k) (h2 : CtPost w1 b o (put3 X o nv1 (.int .i64 (c1.whole : Int)) gv1) nv1 gv1 c2 w2) : CtPost w b o X nv gv c2 w2 := by
  obtain ⟨nv', gv', hc, ho, hk⟩ := h2
  rw [put3_put3] at hc
  refine ⟨nv', gv', hc, h1.trans ho h1k, fun k hf => ?_⟩
  rcases hk k hf with h | h
  · exact h1k k h
  · exact .inr (Nat.le_trans h1.size h)
set_option maxHeartbeats 2000000 in
set_option maxRecDepth 100000 in
theorem settle_any {w : World} {b o : Nat} {X : Array Value} {c : Dk.Cn} {nv gv : Value} (h : Ct w b o X c nv gv) (hn : c.now.length ≤ 1048576) :
    Calls Try.prog 75 #[.pointer (some ⟨b, o, none⟩)] w fun e w' => e = .returned (.tuple #[]) ∧ CtPost w b o X nv gv c.settle w' := by
  obtain ⟨a, cp, rfl⟩ := h.n.form
  have c0 := h.c0
  have c1 := h.c1
  have c2 := h.c2
  have f1 := h.free (o + 1)
  have f2 := h.free (o + 2)
  have h1 := h.set1 c.now.length
  have h2 := h1.set2 (gv' := nilS) (OwnsBytes.nil _ 0) (fun k _ hk => by cases hk) (fun hk => by cases hk)
  rw [put3_put3] at h2
  have HP : Hid (CtPost w b o X (.slice a c.now.length cp) gv c.settle ((w.setCell ⟨b, o + 1, none⟩ (.int .i64 (c.now.length : Int))).setCell ⟨b, o + 2, none⟩ nilS)) :=
    ⟨_, _, h2, (Own.set (.inl rfl) w (o + 1) _).trans (Own.set (T := Fp b (.slice a c.now.length cp) gv) (.inl rfl) _ (o + 2) _) (fun k hk => .inl hk), fun k hk => .inl (by
      rcases hk with hk | hk | hk
      · exact .inl hk
      · exact .inr (.inl hk)
      · cases hk)⟩
  clear h h1 h2
  have e1 : (o + 1 == o + 2) = false := by simp
  go_enter Try.func75, Try.ntmps75
  go_wp2
  go_end0
  exact ⟨rfl, HP.out⟩
end Go.Proofs.Ytcjbceidgaieaaa
/- The contract of slices.Reverse at bytes. -/
set_option linter.unusedVariables false
set_option linter.unusedSimpArgs false
namespace Go.Proofs.Ytcjbceidgaieaaa
open Go.RowKit
theorem w64 {n m : Int} (h : n = m) (h1 : -9223372036854775808 ≤ m) (h2 : m ≤ 9223372036854775807) : IntKind.i64.wrap n = m := by
  subst h
  rw [IntKind.wrap_i64]
  omega
/-- A byte of one's own is written. -/
theorem OwnsBytes.set {w : World} {g n cp : Nat} {l : List UInt8} (h : OwnsBytes w 0 (.slice (some ⟨g, 0, none⟩) n cp) l) (i : Nat) (x : UInt8) (hi : i < l.length) : OwnsBytes (w.setCell ⟨g, i, none⟩ (.int .u8 (x.toNat : Int))) 0 (.slice (some ⟨g, 0, none⟩) n cp) (l.set i x) := by
  obtain ⟨h1, h2⟩ := h
  rcases h2 with ⟨hn, _⟩ | ⟨g', cap, cur, hv, hb, hg, hc, hm, hcs, ht⟩
  · cases hn
  · cases hv
    refine ⟨by simp [cellsB], .inr ⟨g, cp, cur.setIfInBounds i (.int .u8 (x.toNat : Int)), by rw [List.length_set], Nat.zero_le _, heap_set hg _, by rw [List.length_set]; exact hc, hm, by simp; omega, ?_⟩⟩
    rw [List.length_set, Nat.mul_one]
    rw [Nat.mul_one] at ht
    unfold cellsB at *
    rw [List.map_set, ← ht, Array.toList_setIfInBounds, List.take_set]
def RevTo (l l' : List UInt8) (k : Nat) : Prop := l'.length = l.length ∧ ∀ i, i < l.length → l'[i]? = if i < k ∨ l.length - k ≤ i then l[l.length - 1 - i]? else l[i]?
theorem RevTo.start (l : List UInt8) : RevTo l l 0 := ⟨rfl, fun i hi => by rw [if_neg (by omega)]⟩
theorem RevTo.step {l l' : List UInt8} {k m : Nat} (h : RevTo l l' k) (hs : k + m + 1 = l.length) (hkm : k < m) (hk : k < l'.length) (hm : m < l'.length) : RevTo l ((l'.set k l'[m]).set m l'[k]) (k + 1) := by
  obtain ⟨h1, h2⟩ := h
  refine ⟨by simp [h1], fun i hi => ?_⟩
  rw [List.getElem?_set, List.getElem?_set]
  have hmm := h2 m (by omega)
  have hkk := h2 k (by omega)
  rw [if_neg (by omega), List.getElem?_eq_getElem hm] at hmm
  rw [if_neg (by omega), List.getElem?_eq_getElem hk] at hkk
  by_cases e1 : m = i
  · subst e1
    rw [if_pos rfl, if_pos (by simp; omega), if_pos (by omega), hkk]
    congr 1
    omega
  · rw [if_neg e1]
    by_cases e2 : k = i
    · subst e2
      rw [if_pos rfl, if_pos (by omega), if_pos (by omega), hmm]
      congr 1
      omega
    · rw [if_neg e2, h2 i hi]
      by_cases h3 : i < k ∨ l.length - k ≤ i
      · rw [if_pos h3, if_pos (by omega)]
      · rw [if_neg h3, if_neg (by omega)]
theorem RevTo.done {l l' : List UInt8} {k m : Nat} (h : RevTo l l' k) (hs : k + m + 1 = l.length) (hkm : m ≤ k) : l' = l.reverse := by
  obtain ⟨h1, h2⟩ := h
  apply List.ext_getElem?
  intro i
  by_cases hi : i < l.length
  · rw [h2 i hi, List.getElem?_reverse hi]
    by_cases h3 : i < k ∨ l.length - k ≤ i
    · rw [if_pos h3]
    · rw [if_neg h3]
      congr 1
      omega
  · rw [List.getElem?_eq_none (by omega), List.getElem?_eq_none (by simp; omega)]
theorem OwnsBytes.cellAt {w : World} {g n cp : Nat} {l : List UInt8} (h : OwnsBytes w 0 (.slice (some ⟨g, 0, none⟩) n cp) l) (i : Nat) (hi : i < l.length) : w.cell? ⟨g, i, none⟩ = some (.int .u8 (l[i].toNat : Int)) := by
  obtain ⟨_, _, b, o, e, hc⟩ := RB.at h.reads hi
  obtain ⟨h1, h2⟩ := h
  rcases h2 with ⟨hn, _⟩ | ⟨g', cap, cur, hv, hb, hg, _⟩
  · cases hn
  · cases e
    rw [Nat.zero_add] at hc
    exact hc
theorem OwnsBytes.free {w : World} {g n cp : Nat} {l : List UInt8} (h : OwnsBytes w 0 (.slice (some ⟨g, 0, none⟩) n cp) l) (i : Nat) : w.frozen? ⟨g, i, none⟩ = false := by
  obtain ⟨h1, h2⟩ := h
  rcases h2 with ⟨hn, _⟩ | ⟨g', cap, cur, hv, hb, hg, _⟩
  · cases hn
  · cases hv
    exact Lib.frozen_of_heap hg i
theorem RevTo.len {l l' : List UInt8} {k : Nat} (h : RevTo l l' k) : l'.length = l.length := h.1
set_option maxHeartbeats 4000000 in
set_option maxRecDepth 100000 in
theorem Reverse_any {w : World} {g cp : Nat} {l : List UInt8} (h : OwnsBytes w 0 (.slice (some ⟨g, 0, none⟩) l.length cp) l) (h0 : 0 < l.length) (hl : l.length ≤ 1048576) :
    Calls Try.prog 74 #[.slice (some ⟨g, 0, none⟩) l.length cp] w fun e w' => e = .returned (.tuple #[]) ∧ OwnsBytes w' 0 (.slice (some ⟨g, 0, none⟩) l.length cp) l.reverse ∧ Own (fun k => k = g) w w' := by
  have hj : IntKind.i64.wrap ((l.length : Int) - 1) = ((l.length - 1 : Nat) : Int) := w64 (by omega) (by omega) (by omega)
  have HS : Hid (0 + (l.length - 1) + 1 = l.length) := by show 0 + (l.length - 1) + 1 = l.length; omega
  go_enter Try.func74, Try.ntmps74
  go_wp2
  go_loopw [2, 3] (fun i j wr => ∃ (k m : Nat) (l' : List UInt8), Hid (k + m + 1 = l.length) ∧ i = .int .i64 (k : Int) ∧ j = .int .i64 (m : Int) ∧ Hid (RevTo l l' k) ∧ OwnsBytes wr 0 (.slice (some ⟨g, 0, none⟩) l.length cp) l' ∧ Own (fun k => k = g) w wr) (fun i j _ => l.length - (intOf i).toNat)
  case atStart => exact ⟨0, l.length - 1, l, HS, rfl, by first | rfl | (congr 1), RevTo.start l, h, Own.refl _ _⟩
  case round =>
    obtain ⟨k, m, l', HK, rfl, rfl, HR, ho, hO⟩ := hrel
    have hlen := RevTo.len HR.out
    have hs := HK.out
    by_cases hkm : k < m
    · have hkl : k < l'.length := by omega
      have hml : m < l'.length := by omega
      have hkn : k < l.length := by omega
      have hmn : m < l.length := by omega
      have HN : Hid (RevTo l ((l'.set k l'[m]).set m l'[k]) (k + 1)) := HR.out.step hs hkm hkl hml
      have ck := ho.cellAt k hkl
      have cm := ho.cellAt m hml
      have fk := ho.free k
      have fm := ho.free m
      have o1 := ho.set k l'[m] hkl
      have o2 := o1.set m l'[k] (by simp; exact hml)
      have HO : Hid (OwnsBytes ((wr.setCell ⟨g, k, none⟩ (.int .u8 (l'[m].toNat : Int))).setCell ⟨g, m, none⟩ (.int .u8 (l'[k].toNat : Int))) 0 (.slice (some ⟨g, 0, none⟩) l.length cp) ((l'.set k l'[m]).set m l'[k])) := o2
      have m1 : IntKind.i64.wrap ((k : Int) + 1) = ((k + 1 : Nat) : Int) := w64 (by omega) (by omega) (by omega)
      have m2 : IntKind.i64.wrap ((m : Int) - 1) = ((m - 1 : Nat) : Int) := w64 (by omega) (by omega) (by omega)
      clear hlen hs ho o1 o2
      generalize l'[k] = x at *
      generalize l'[m] = y at *
      go_wp2
      go_region
      have HW : Hid (Own (fun k => k = g) w ((wr.setCell ⟨g, k, none⟩ (.int .u8 (y.toNat : Int))).setCell ⟨g, m, none⟩ (.int .u8 (x.toNat : Int)))) := (hO.trans (Own.set (T := fun k => k = g) rfl wr k _) (fun k hk => .inl hk)).trans (Own.set (T := fun k => k = g) rfl _ m _) (fun k hk => .inl hk)
      generalize (wr.setCell ⟨g, k, none⟩ (.int .u8 (y.toNat : Int))).setCell ⟨g, m, none⟩ (.int .u8 (x.toNat : Int)) = wn at *
      go_wp2
      have hs := HK.out
      exact ⟨⟨k + 1, m - 1, _, by show k + 1 + (m - 1) + 1 = l.length; omega, by first | rfl | (congr 1), by first | rfl | (congr 1), HN, HO.out.keep (fun _ _ _ => rfl), HW.out.trans (Own.of (T := fun k => k = g) ((Below.refl _ wn).drew)) (fun k hk => .inl hk)⟩, by simp [intOf]; omega⟩
    · have HE : Hid (l' = l.reverse) := HR.out.done hs (by omega)
      clear hlen hs
      go_wp2
      go_end0
      exact ⟨rfl, by rw [← HE.out]; exact ho, hO⟩
end Go.Proofs.Ytcjbceidgaieaaa
