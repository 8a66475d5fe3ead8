/- The document's disk in memory; the contracts of its ask, burns, Left, Switch. -/
import Derived.Test.YtcjbceidgaieaaaKDkMQ
set_option linter.unusedVariables false
set_option linter.unusedSimpArgs false
namespace Go.Proofs.Ytcjbceidgaieaaa
open Go.RowKit
/-- The cut that waits. -/
def Dk.Cn.cutv (c : Dk.Cn) : Int := if c.gone = [] then -1 else (c.whole : Int)
abbrev xR (d : Dk.D) (fv : Int) (b0 s0 b1 s1 : Value) : Array Value := #[b0, s0, .int .i64 d.a.cutv, b1, s1, .int .i64 d.b.cutv, .int .i64 d.root, .int .i64 d.room, .bool (!d.on), .int .i64 fv, .bool d.behind]
/-- A slice that is read, in a block that satisfies P, beside rb. -/
structure RQ (W : World) (P : Nat → Prop) (rb : Nat) (v : Value) (l : List UInt8) : Prop where
  rd : RB W v l
  bl : ∀ k, v.ownBlock = some k → P k ∧ k ≠ rb ∧ k < W.heap.size
/-- The document's disk, as the disk d. -/
structure RAt (W : World) (P : Nat → Prop) (rb : Nat) (d : Dk.D) (fv : Int) (b0 s0 b1 s1 : Value) : Prop where
  blk : W.heap[rb]? = some (.cells (xR d fv b0 s0 b1 s1) 32 (0, 0))
  q0 : RQ W P rb b0 d.a.now
  q1 : RQ W P rb s0 d.a.sure
  q2 : RQ W P rb b1 d.b.now
  q3 : RQ W P rb s1 d.b.sure
  fine : d.Fine
  fz : d.on = true → fv = max d.fuse (-1)
  fb : -9223372036854775808 ≤ fv ∧ fv ≤ 9223372036854775807
def RE (W : World) (P : Nat → Prop) (rb : Nat) (d : Dk.D) : Prop := ∃ fv b0 s0 b1 s1, RAt W P rb d fv b0 s0 b1 s1
theorem RQ.keep {W W' : World} {P : Nat → Prop} {rb : Nat} {v : Value} {l : List UInt8} (h : RQ W P rb v l) (hs : W.heap.size ≤ W'.heap.size) (hk : ∀ k, k < W.heap.size → P k → k ≠ rb → W'.heap[k]? = W.heap[k]?) : RQ W' P rb v l :=
  ⟨h.rd.keep (fun k e hl => hk k hl (h.bl k e).1 (h.bl k e).2.1), fun k e => ⟨(h.bl k e).1, (h.bl k e).2.1, Nat.lt_of_lt_of_le (h.bl k e).2.2 hs⟩⟩
theorem RAt.lt {W : World} {P : Nat → Prop} {rb : Nat} {d : Dk.D} {fv : Int} {b0 s0 b1 s1 : Value} (h : RAt W P rb d fv b0 s0 b1 s1) : rb < W.heap.size := (Array.getElem?_eq_some_iff.1 h.blk).1
theorem RAt.keep {W W' : World} {P : Nat → Prop} {rb : Nat} {d : Dk.D} {fv : Int} {b0 s0 b1 s1 : Value} (h : RAt W P rb d fv b0 s0 b1 s1) (hs : W.heap.size ≤ W'.heap.size) (hb : W'.heap[rb]? = W.heap[rb]?) (hk : ∀ k, k < W.heap.size → P k → k ≠ rb → W'.heap[k]? = W.heap[k]?) : RAt W' P rb d fv b0 s0 b1 s1 :=
  ⟨hb.trans h.blk, h.q0.keep hs hk, h.q1.keep hs hk, h.q2.keep hs hk, h.q3.keep hs hk, h.fine, h.fz, h.fb⟩
theorem RAt.below {W W' : World} {P : Nat → Prop} {rb : Nat} {d : Dk.D} {fv : Int} {b0 s0 b1 s1 : Value} (h : RAt W P rb d fv b0 s0 b1 s1) (hB : Below W.heap.size W W') : RAt W' P rb d fv b0 s0 b1 s1 := h.keep hB.size (hB.block rb h.lt) (fun k hk _ _ => hB.block k hk)
theorem RE.below {W W' : World} {P : Nat → Prop} {rb : Nat} {d : Dk.D} (h : RE W P rb d) (hB : Below W.heap.size W W') : RE W' P rb d := by
  obtain ⟨fv, b0, s0, b1, s1, h⟩ := h
  exact ⟨fv, b0, s0, b1, s1, h.below hB⟩
theorem RAt.cell {W : World} {P : Nat → Prop} {rb : Nat} {d : Dk.D} {fv : Int} {b0 s0 b1 s1 : Value} (h : RAt W P rb d fv b0 s0 b1 s1) (i : Nat) : W.cell? ⟨rb, i, none⟩ = (xR d fv b0 s0 b1 s1)[i]? := Lib.cell_of_heap h.blk i
theorem RAt.free {W : World} {P : Nat → Prop} {rb : Nat} {d : Dk.D} {fv : Int} {b0 s0 b1 s1 : Value} (h : RAt W P rb d fv b0 s0 b1 s1) (i : Nat) : W.frozen? ⟨rb, i, none⟩ = false := Lib.frozen_of_heap h.blk i
/-- A cell of the document's disk is written. -/
theorem RAt.set {W : World} {P : Nat → Prop} {rb : Nat} {d d' : Dk.D} {fv fv' : Int} {b0 s0 b1 s1 : Value} (h : RAt W P rb d fv b0 s0 b1 s1) (i : Nat) (v : Value) (hx : (xR d fv b0 s0 b1 s1).setIfInBounds i v = xR d' fv' b0 s0 b1 s1) (ha : d'.a = d.a) (hb : d'.b = d.b) (hf : d'.Fine) (hz : d'.on = true → fv' = max d'.fuse (-1)) (hfb : -9223372036854775808 ≤ fv' ∧ fv' ≤ 9223372036854775807) : RAt (W.setCell ⟨rb, i, none⟩ v) P rb d' fv' b0 s0 b1 s1 := by
  have hk : ∀ k, k < W.heap.size → P k → k ≠ rb → (W.setCell ⟨rb, i, none⟩ v).heap[k]? = W.heap[k]? := fun k _ _ hk => Below.heap_setCell _ _ _ _ hk
  have hs : W.heap.size ≤ (W.setCell ⟨rb, i, none⟩ v).heap.size := by rw [setCell_size]; exact Nat.le_refl _
  refine ⟨by rw [← hx]; exact heap_set h.blk v, ?_, ?_, ?_, ?_, hf, hz, hfb⟩
  · rw [ha]; exact h.q0.keep hs hk
  · rw [ha]; exact h.q1.keep hs hk
  · rw [hb]; exact h.q2.keep hs hk
  · rw [hb]; exact h.q3.keep hs hk
/-- What a call of the document's disk leaves. -/
def RPost (W : World) (P : Nat → Prop) (rb : Nat) (r : Int × Dk.D) (e : Ending) (w' : World) : Prop := e = .returned (.int .i64 r.1) ∧ RE w' P rb r.2 ∧ Own (fun k => k = rb) W w'
set_option maxHeartbeats 2000000 in
set_option maxRecDepth 100000 in
theorem Rask_any {W : World} {P : Nat → Prop} {rb : Nat} {d : Dk.D} {fv : Int} {b0 s0 b1 s1 : Value} (h : RAt W P rb d fv b0 s0 b1 s1) (f : Int) :
    Calls Try.prog 71 #[ptr rb 0, .int .i64 f] W fun e w' => e = .returned (.int .i64 (d.why f)) ∧ w' = W := by
  have c8 : W.cell? ⟨rb, 8, none⟩ = some (.bool (!d.on)) := h.cell 8
  clear h
  unfold Dk.D.why
  by_cases h0 : f = 0
  · subst h0
    cases hd : d.on
    · rw [hd] at c8
      go_enter Try.func71, Try.ntmps71
      go_wp2
      go_ret
      exact ⟨rfl, rfl⟩
    · rw [hd] at c8
      go_enter Try.func71, Try.ntmps71
      go_wp2
      go_ret
      exact ⟨rfl, rfl⟩
  · by_cases h1 : f = 1
    · subst h1
      cases hd : d.on
      · rw [hd] at c8
        go_enter Try.func71, Try.ntmps71
        go_wp2
        go_ret
        exact ⟨rfl, rfl⟩
      · rw [hd] at c8
        go_enter Try.func71, Try.ntmps71
        go_wp2
        go_ret
        exact ⟨rfl, rfl⟩
    · rw [if_pos (by omega)]
      have e0 : (f != 0) = true := by simpa using h0
      have e1 : (f != 1) = true := by simpa using h1
      go_enter Try.func71, Try.ntmps71
      go_wp2
      go_ret
      exact ⟨rfl, rfl⟩
set_option maxHeartbeats 2000000 in
set_option maxRecDepth 100000 in
theorem RLeft_any {W : World} {P : Nat → Prop} {rb : Nat} {d : Dk.D} {fv : Int} {b0 s0 b1 s1 : Value} (h : RAt W P rb d fv b0 s0 b1 s1) :
    Calls Try.prog 28 #[ptr rb 0] W fun e w' => e = .returned (.int .i64 d.left) ∧ Below W.heap.size W w' := by
  obtain ⟨x0, y0, e0⟩ := h.q0.rd.form
  obtain ⟨x1, y1, e1⟩ := h.q2.rd.form
  subst e0
  subst e1
  have c0 : W.cell? ⟨rb, 0, none⟩ = some (.slice x0 d.a.now.length y0) := h.cell 0
  have c3 : W.cell? ⟨rb, 3, none⟩ = some (.slice x1 d.b.now.length y1) := h.cell 3
  have c7 : W.cell? ⟨rb, 7, none⟩ = some (.int .i64 d.room) := h.cell 7
  have hr1 := h.fine.room
  have hr2 := h.fine.least
  have hn0 := h.fine.a.now
  have hn1 := h.fine.b.now
  have HLf : Hid (d.left = d.room - d.a.now.length - d.b.now.length) := rfl
  have w1 : IntKind.i64.wrap (d.room - (d.a.now.length : Int)) = d.room - d.a.now.length := w64 rfl (by omega) (by omega)
  have w2 : IntKind.i64.wrap (d.room - (d.a.now.length : Int) - (d.b.now.length : Int)) = d.room - d.a.now.length - d.b.now.length := w64 rfl (by omega) (by omega)
  clear h
  go_enter Try.func28, Try.ntmps28
  go_wp2
  go_quiet (fail)
  go_wp2
  go_ret
  refine ⟨?_, below_drewN (Below.refl _ _) _⟩
  rw [HLf.out]
  rfl
/-- What burns tells. -/
def Dk.D.burns (d : Dk.D) : Bool × Int := if d.fuse = 0 then (d.behind, 12) else (true, 0)
/-- What burns leaves. -/
def Dk.D.burnt (d : Dk.D) : Dk.D := if d.fuse = 0 then { d with on := false } else { d with fuse := if 0 < d.fuse then d.fuse - 1 else d.fuse }
set_option maxHeartbeats 2000000 in
set_option maxRecDepth 100000 in
theorem Rburns_any {W : World} {P : Nat → Prop} {rb : Nat} {d : Dk.D} {fv : Int} {b0 s0 b1 s1 : Value} (h : RAt W P rb d fv b0 s0 b1 s1) (hon : d.on = true) :
    Calls Try.prog 72 #[ptr rb 0] W fun e w' => e = .returned (.tuple #[.bool d.burns.1, .int .i64 d.burns.2]) ∧ (∃ fv', RAt w' P rb d.burnt fv' b0 s0 b1 s1) ∧ Own (fun k => k = rb) W w' := by
  have hz := h.fz hon
  have c9 : W.cell? ⟨rb, 9, none⟩ = some (.int .i64 fv) := h.cell 9
  have c8 : W.cell? ⟨rb, 8, none⟩ = some (.bool (!d.on)) := h.cell 8
  have c10 : W.cell? ⟨rb, 10, none⟩ = some (.bool d.behind) := h.cell 10
  have f9 := h.free 9
  have f8 := h.free 8
  have hfr := h.fine.fuse
  have hfi := h.fine
  by_cases h0 : d.fuse = 0
  · have hv : fv = 0 := by omega
    subst hv
    have e1 := h.set (d' := { d with on := false }) (fv' := 0) 8 (.bool true) rfl rfl rfl ⟨hfi.a, hfi.b, hfi.room, hfi.least, hfi.root, hfi.fuse⟩ (fun e => by cases e) ⟨by decide, by decide⟩
    have e2 := e1.set (d' := { d with on := false }) (fv' := -1) 9 (.int .i64 (-1)) rfl rfl rfl ⟨hfi.a, hfi.b, hfi.room, hfi.least, hfi.root, hfi.fuse⟩ (fun e => by cases e) ⟨by decide, by decide⟩
    have HE : Hid (RAt ((W.setCell ⟨rb, 8, none⟩ (.bool true)).setCell ⟨rb, 9, none⟩ (.int .i64 (-1))) P rb d.burnt (-1) b0 s0 b1 s1) := by
      show RAt _ _ _ _ _ _ _ _ _
      unfold Dk.D.burnt
      rw [if_pos h0]
      exact e2
    have HO : Hid (Own (fun k => k = rb) W ((W.setCell ⟨rb, 8, none⟩ (.bool true)).setCell ⟨rb, 9, none⟩ (.int .i64 (-1)))) := (Own.set (T := fun k => k = rb) rfl W 8 _).trans (Own.set (T := fun k => k = rb) rfl _ 9 _) (fun k hk => .inl hk)
    have c10b : ((W.setCell ⟨rb, 8, none⟩ (.bool true)).setCell ⟨rb, 9, none⟩ (.int .i64 (-1))).cell? ⟨rb, 10, none⟩ = some (.bool d.behind) := e2.cell 10
    have HB : Hid (d.burns = (d.behind, 12)) := by show d.burns = _; unfold Dk.D.burns; rw [if_pos h0]
    rw [HB.out]
    clear h e1 e2 hz hfr hfi
    go_enter Try.func72, Try.ntmps72
    go_wp2
    go_ret2
    exact ⟨rfl, ⟨_, HE.out⟩, HO.out⟩
  · have HB : Hid (d.burns = (true, 0)) := by show d.burns = _; unfold Dk.D.burns; rw [if_neg h0]
    rw [HB.out]
    by_cases h1 : 0 < d.fuse
    · have hv : fv = d.fuse := by omega
      subst hv
      have hwr : IntKind.i64.wrap (d.fuse - 1) = d.fuse - 1 := w64 rfl (by omega) (by omega)
      have e1 := h.set (d' := { d with fuse := d.fuse - 1 }) (fv' := d.fuse - 1) 9 (.int .i64 (d.fuse - 1)) rfl rfl rfl ⟨hfi.a, hfi.b, hfi.room, hfi.least, hfi.root, by show -9223372036854775808 ≤ d.fuse - 1 ∧ d.fuse - 1 ≤ 9223372036854775807; omega⟩ (fun _ => by show d.fuse - 1 = max (d.fuse - 1) (-1); omega) (by omega)
      have HE : Hid (RAt (W.setCell ⟨rb, 9, none⟩ (.int .i64 (d.fuse - 1))) P rb d.burnt (d.fuse - 1) b0 s0 b1 s1) := by
        show RAt _ _ _ _ _ _ _ _ _
        unfold Dk.D.burnt
        rw [if_neg h0, if_pos h1]
        exact e1
      have HO : Hid (Own (fun k => k = rb) W (W.setCell ⟨rb, 9, none⟩ (.int .i64 (d.fuse - 1)))) := Own.set (T := fun k => k = rb) rfl W 9 _
      clear h e1 hz hfr hfi
      go_enter Try.func72, Try.ntmps72
      go_wp2
      go_ret2
      exact ⟨rfl, ⟨_, HE.out⟩, HO.out⟩
    · have hv : fv = -1 := by omega
      subst hv
      have HE : Hid (RAt W P rb d.burnt (-1) b0 s0 b1 s1) := by
        show RAt _ _ _ _ _ _ _ _ _
        unfold Dk.D.burnt
        rw [if_neg h0, if_neg h1]
        exact h
      clear h hz hfr hfi
      go_enter Try.func72, Try.ntmps72
      go_wp2
      go_ret2
      exact ⟨rfl, ⟨_, HE.out⟩, Own.refl _ _⟩
/-- An act in the document's order. -/
theorem act_burn {d : Dk.D} {f : Int} {does : Dk.D → Dk.D} (hw : d.why f = 0) (hd : ∀ x : Dk.D, does { d with on := x.on, fuse := x.fuse } = { does d with on := x.on, fuse := x.fuse }) (hfu : (does d).fuse = d.fuse ∧ (does d).on = d.on) : d.act f 0 does = (d.burns.2, if d.burns.1 = true then does d.burnt else d.burnt) := by
  unfold Dk.D.act Dk.D.burns Dk.D.burnt
  rw [if_neg (by simp [hw]), if_neg (by simp)]
  by_cases h0 : d.fuse = 0
  · rw [if_pos h0, if_pos h0, if_pos h0]
    by_cases hb : d.behind = true
    · simp only [hb, if_true]
      have := hd { d with on := false }
      simp only [hb] at this
      rw [this, hfu.1]
    · have hb' : d.behind = false := by simpa using hb
      simp [hb']
  · rw [if_neg h0, if_neg h0, if_neg h0]
    simp only [if_true]
    have := hd { d with fuse := if 0 < d.fuse then d.fuse - 1 else d.fuse }
    simp only at this
    rw [this]
    simp [hfu.2]
end Go.Proofs.Ytcjbceidgaieaaa
