/- The program's disk and the document's, side by side. -/
import Derived.Test.YtcjbceidgaieaaaKDkZ
import Derived.Test.YtcjbceidgaieaaaKDkMQ
set_option linter.unusedVariables false
set_option linter.unusedSimpArgs false
namespace Go.Proofs.Ytcjbceidgaieaaa
open Go.RowKit
theorem RQ.turn {W W' : World} {P P' : Nat → Prop} {rb : Nat} {v : Value} {l : List UInt8} (h : RQ W P rb v l) (hs : W.heap.size ≤ W'.heap.size) (hk : ∀ k, k < W.heap.size → P k → k ≠ rb → W'.heap[k]? = W.heap[k]?) (hP : ∀ k, k < W.heap.size → P k → P' k) : RQ W' P' rb v l :=
  ⟨h.rd.keep (fun k e hl => hk k hl (h.bl k e).1 (h.bl k e).2.1), fun k e => ⟨hP k (h.bl k e).2.2 (h.bl k e).1, (h.bl k e).2.1, Nat.lt_of_lt_of_le (h.bl k e).2.2 hs⟩⟩
theorem RE.turn {W W' : World} {P P' : Nat → Prop} {rb : Nat} {d : Dk.D} (h : RE W P rb d) (hs : W.heap.size ≤ W'.heap.size) (hb : W'.heap[rb]? = W.heap[rb]?) (hk : ∀ k, k < W.heap.size → P k → k ≠ rb → W'.heap[k]? = W.heap[k]?) (hP : ∀ k, k < W.heap.size → P k → P' k) : RE W' P' rb d := by
  obtain ⟨fv, b0, s0, b1, s1, h⟩ := h
  exact ⟨fv, b0, s0, b1, s1, ⟨hb.trans h.blk, h.q0.turn hs hk hP, h.q1.turn hs hk hP, h.q2.turn hs hk hP, h.q3.turn hs hk hP, h.fine, h.fz, h.fb⟩⟩
theorem RE.lt {W : World} {P : Nat → Prop} {rb : Nat} {d : Dk.D} (h : RE W P rb d) : rb < W.heap.size := by
  obtain ⟨fv, b0, s0, b1, s1, h⟩ := h
  exact h.lt
/-- The two disks. -/
structure Pl (w0 : World) (T : Nat → Prop) (b rb : Nat) (d1 d2 : Dk.D) (W : World) : Prop where
  lt : Lt w0 T b d1 W
  re : RE W (fun k => ¬ T k) rb d2
  nr : ¬ T rb
  br : w0.heap.size ≤ rb
theorem Pl.below {w0 W W' : World} {T : Nat → Prop} {b rb : Nat} {d1 d2 : Dk.D} (h : Pl w0 T b rb d1 d2 W) (hB : Below W.heap.size W W') : Pl w0 T b rb d1 d2 W' := ⟨h.lt.below hB, h.re.below hB, h.nr, h.br⟩
theorem Pl.own1 {w0 W W' : World} {T : Nat → Prop} {b rb : Nat} {d1 d2 d' : Dk.D} (h : Pl w0 T b rb d1 d2 W) (hL : Lt w0 (More T W W') b d' W') (hO : Own T W W') : Pl w0 (More T W W') b rb d' d2 W' := by
  have hr := h.re.lt
  have hn : ∀ k, k < W.heap.size → ¬ T k → ¬ More T W W' k := fun k hk hT hm => by
    rcases hm with hm | hm
    · exact hT hm
    · omega
  exact ⟨hL, h.re.turn hO.size (hO.block rb hr h.nr) (fun k hk hp _ => hO.block k hk hp) hn, hn rb hr h.nr, h.br⟩
theorem Pl.own2 {w0 W W' : World} {T : Nat → Prop} {b rb : Nat} {d1 d2 d' : Dk.D} (h : Pl w0 T b rb d1 d2 W) (hR : RE W' (fun k => ¬ T k) rb d') (hO : Own (fun k => k = rb) W W') : Pl w0 T b rb d1 d' W' := by
  obtain ⟨n0, g0, n1, g1, hD⟩ := h.lt.dsk
  exact ⟨⟨⟨n0, g0, n1, g1, hD.keep hO.size (fun k hl ht => hO.block k hl (fun e => h.nr (e ▸ ht)))⟩, h.lt.base, h.lt.bel.trans (hO.below (fun k hk => by rw [hk]; exact h.br) h.lt.bel.size)⟩, hR, h.nr, h.br⟩
theorem Pl.does {w0 W : World} {T : Nat → Prop} {b rb : Nat} {d1 d2 : Dk.D} (h : Pl w0 T b rb d1 d2 W) (a : Ac) (hA : AcOK w0 a) {r : Int × Dk.D} (e : Hid (d1.doo a = r)) : Calls Try.prog 41 #[ptr b 0, aV a] W (fun e w' => ∃ T', e = .returned (.int .i64 r.1) ∧ Pl w0 T' b rb r.2 d2 w' ∧ (∀ k, k < W.heap.size → ¬ T k → w'.heap[k]? = W.heap[k]? ∧ ¬ T' k)) := by
  refine (h.lt.doesP a (hA.below h.lt.bel) e).mono ?_
  rintro e w' ⟨rfl, hL, hO⟩
  refine ⟨_, rfl, h.own1 hL hO, fun k hk hT => ⟨hO.block k hk hT, fun hm => ?_⟩⟩
  rcases hm with hm | hm
  · exact hT hm
  · omega
theorem Pl.would {w0 W : World} {T : Nat → Prop} {b rb : Nat} {d1 d2 : Dk.D} (h : Pl w0 T b rb d1 d2 W) (a : Ac) (hA : AcOK w0 a) {r : Int × Dk.D} (e : Hid (d2.doo a = r)) : Calls Try.prog 42 #[ptr rb 0, aV a] W (fun e w' => e = .returned (.int .i64 r.1) ∧ Pl w0 T b rb d1 r.2 w' ∧ Own (fun k => k = rb) W w') := by
  have hw := would_any h.re (fun k hk ht => by have := h.lt.low k ht; omega) a (hA.below h.lt.bel) (fun w' hO => hA.rb.below (h.lt.bel.trans (hO.below (fun k hk => by rw [hk]; exact h.br) h.lt.bel.size))) (fun {W} {P} {rb} {d} h hP k0 k1 c0 c1 hk0 hk1 => RStart_any h hP k0 k1 c0 c1 hk0 hk1)
  rw [e.out] at hw
  refine hw.mono ?_
  rintro e w' ⟨rfl, hR, hO⟩
  exact ⟨rfl, h.own2 hR hO, hO⟩
theorem Pl.rleft {w0 W : World} {T : Nat → Prop} {b rb : Nat} {d1 d2 : Dk.D} (h : Pl w0 T b rb d1 d2 W) {x : Int} (e : Hid (d2.left = x)) : Calls Try.prog 28 #[ptr rb 0] W fun e w' => e = .returned (.int .i64 x) ∧ Below W.heap.size W w' := by
  obtain ⟨fv, b0, s0, b1, s1, hr⟩ := h.re
  have := RLeft_any hr
  rw [e.out] at this
  exact this
theorem Pl.off {w0 W : World} {T : Nat → Prop} {b rb : Nat} {d1 d2 : Dk.D} (h : Pl w0 T b rb d1 d2 W) : W.cell? ⟨rb, 8, none⟩ = some (.bool (!d2.on)) ∧ W.cell? ⟨rb, 6, none⟩ = some (.int .i64 d2.root) ∧ (∃ a c, W.cell? ⟨rb, 0, none⟩ = some (.slice a d2.a.now.length c) ∧ RB W (.slice a d2.a.now.length c) d2.a.now) ∧ (∃ a c, W.cell? ⟨rb, 3, none⟩ = some (.slice a d2.b.now.length c) ∧ RB W (.slice a d2.b.now.length c) d2.b.now) := by
  obtain ⟨fv, b0, s0, b1, s1, hr⟩ := h.re
  obtain ⟨a, c, e0⟩ := hr.q0.rd.form
  obtain ⟨a', c', e1⟩ := hr.q2.rd.form
  refine ⟨hr.cell 8, hr.cell 6, ⟨a, c, ?_, ?_⟩, ⟨a', c', ?_, ?_⟩⟩
  · rw [← e0]; exact hr.cell 0
  · rw [← e0]; exact hr.q0.rd
  · rw [← e1]; exact hr.cell 3
  · rw [← e1]; exact hr.q2.rd
end Go.Proofs.Ytcjbceidgaieaaa
