/- The document's journal in memory; the contract of its Add. -/
import Derived.Test.YtcjbceidgaieaaaKDkP2
import Derived.Test.YtcjbceidgaieaaaKJnZ
import Derived.Test.YtcjbceidgaieaaaKJoA
set_option linter.unusedVariables false
set_option linter.unusedSimpArgs false
namespace Go.Proofs.Ytcjbceidgaieaaa
open Go.RowKit
/-- The document's journal at kb, its disk at rb. -/
structure RK (W : World) (P : Nat → Prop) (kb rb : Nat) (d : Dk.D) (gs : List (List UInt8)) : Prop where
  re : RE W P rb d
  ex : ∃ g, W.heap[kb]? = some (.cells #[ptr rb 0, g, .int .i64 (gs.length : Int)] 43 (0, 0)) ∧ RQ W P rb g (Jn.frames gs)
  nk : ∀ k, P k → k ≠ kb
  ne : kb ≠ rb
  new : ∀ k, W.heap.size ≤ k → P k
  small : (Jn.frames gs).length ≤ 1048576
theorem RK.lt {W : World} {P : Nat → Prop} {kb rb : Nat} {d : Dk.D} {gs : List (List UInt8)} (h : RK W P kb rb d gs) : kb < W.heap.size := by
  obtain ⟨g, hb, hq⟩ := h.ex
  exact (Array.getElem?_eq_some_iff.1 hb).1
theorem RK.below {W W' : World} {P : Nat → Prop} {kb rb : Nat} {d : Dk.D} {gs : List (List UInt8)} (h : RK W P kb rb d gs) (hB : Below W.heap.size W W') : RK W' P kb rb d gs := by
  obtain ⟨g, hb, hq⟩ := h.ex
  exact ⟨h.re.below hB, ⟨g, (hB.block kb h.lt).trans hb, hq.below hB⟩, h.nk, h.ne, fun k hk => h.new k (Nat.le_trans hB.size hk), h.small⟩
theorem RK.disk {W w' : World} {P : Nat → Prop} {kb rb : Nat} {d d' : Dk.D} {gs : List (List UInt8)} (h : RK W P kb rb d gs) (hR : RE w' P rb d') (hO : Own (fun k => k = rb) W w') : RK w' P kb rb d' gs := by
  obtain ⟨g, hb, hq⟩ := h.ex
  exact ⟨hR, ⟨g, (hO.block kb h.lt h.ne).trans hb, hq.keep hO.size (fun k hk _ hn => hO.block k hk hn)⟩, h.nk, h.ne, fun k hk => h.new k (Nat.le_trans hO.size hk), h.small⟩
theorem RE.keep9 {W W' : World} {P : Nat → Prop} {rb : Nat} {d : Dk.D} (h : RE W P rb d) (hs : W.heap.size ≤ W'.heap.size) (hb : W'.heap[rb]? = W.heap[rb]?) (hk : ∀ k, k < W.heap.size → P k → k ≠ rb → W'.heap[k]? = W.heap[k]?) : RE W' P rb d := h.turn hs hb hk (fun _ _ h => h)
/-- The group is turned. -/
theorem RK.set {W : World} {P : Nat → Prop} {kb rb : Nat} {d : Dk.D} {gs gs' : List (List UInt8)} (h : RK W P kb rb d gs) {g' : Value} (hq : RQ W P rb g' (Jn.frames gs')) (hs : (Jn.frames gs').length ≤ 1048576) : RK ((W.setCell ⟨kb, 1, none⟩ g').setCell ⟨kb, 2, none⟩ (.int .i64 (gs'.length : Int))) P kb rb d gs' := by
  obtain ⟨g, hb, _⟩ := h.ex
  have hk : ∀ k, k ≠ kb → ((W.setCell ⟨kb, 1, none⟩ g').setCell ⟨kb, 2, none⟩ (.int .i64 (gs'.length : Int))).heap[k]? = W.heap[k]? := fun k hk => (Below.heap_setCell _ _ _ _ hk).trans (Below.heap_setCell _ _ _ _ hk)
  have hz : W.heap.size ≤ ((W.setCell ⟨kb, 1, none⟩ g').setCell ⟨kb, 2, none⟩ (.int .i64 (gs'.length : Int))).heap.size := by rw [setCell_size, setCell_size]; exact Nat.le_refl _
  exact ⟨h.re.keep9 hz (hk rb (fun e => h.ne e.symm)) (fun k _ hp _ => hk k (h.nk k hp)), ⟨g', heap_set (heap_set hb g') _, hq.keep hz (fun k _ hp _ => hk k (h.nk k hp))⟩, h.nk, h.ne, fun k hk => h.new k (Nat.le_trans hz hk), hs⟩
/-- What a call of the document's journal leaves. -/
def RKPost (W : World) (P : Nat → Prop) (kb rb : Nat) (r : Int × Dk.D × List (List UInt8)) (e : Ending) (w' : World) : Prop := e = .returned (.int .i64 r.1) ∧ RK w' P kb rb r.2.1 r.2.2 ∧ Own (fun k => k = rb ∨ k = kb) W w'
theorem rq_new {W w' : World} {P : Nat → Prop} {rb : Nat} {v : Value} {l : List UInt8} (hP : ∀ k, W.heap.size ≤ k → P k) (hr : rb < W.heap.size) (ho : OwnsBytes w' W.heap.size v l) : RQ w' P rb v l := ⟨ho.reads, fun k e => ⟨hP k (ho.lt e).1, by have := (ho.lt e).1; omega, (ho.lt e).2⟩⟩
theorem RK.rleft {W : World} {P : Nat → Prop} {kb rb : Nat} {d : Dk.D} {gs : List (List UInt8)} (h : RK W P kb rb d gs) {x : Int} (e : Hid (d.left = x)) : Calls Try.prog 28 #[ptr rb 0] W fun e w' => e = .returned (.int .i64 x) ∧ Below W.heap.size W w' := by
  obtain ⟨fv, b0, s0, b1, s1, hr⟩ := h.re
  have := RLeft_any hr
  rw [e.out] at this
  exact this
/-- What the journal's block has. -/
theorem RK.cells {W : World} {P : Nat → Prop} {kb rb : Nat} {d : Dk.D} {gs : List (List UInt8)} (h : RK W P kb rb d gs) {n : Nat} (hn : Hid ((Jn.frames gs).length = n)) : W.cell? ⟨kb, 0, none⟩ = some (ptr rb 0) ∧ W.cell? ⟨kb, 2, none⟩ = some (.int .i64 (gs.length : Int)) ∧ ∃ a c, W.cell? ⟨kb, 1, none⟩ = some (.slice a n c) ∧ RQ W P rb (.slice a n c) (Jn.frames gs) ∧ (∀ i, W.frozen? ⟨kb, i, none⟩ = false) := by
  obtain ⟨g, hb, hq⟩ := h.ex
  obtain ⟨a, c, e⟩ := hq.rd.form
  rw [hn.out] at e
  subst e
  exact ⟨Lib.cell_of_heap hb 0, Lib.cell_of_heap hb 2, a, c, Lib.cell_of_heap hb 1, hq, fun i => Lib.frozen_of_heap hb i⟩
theorem RK.fine {W : World} {P : Nat → Prop} {kb rb : Nat} {d : Dk.D} {gs : List (List UInt8)} (h : RK W P kb rb d gs) : d.Fine := by
  obtain ⟨fv, b0, s0, b1, s1, hr⟩ := h.re
  exact hr.fine
theorem Rframes_yes {w : World} {v : Value} {rs : List (List UInt8)} (hv : RBs w v rs) (hz : ∀ r ∈ rs, r.length ≤ maxLen) (hn : rs.length ≤ 1000) (ha : Jn.All rs) : Calls Try.prog 73 #[v] w fun e w' => ∃ L a c, Hid (L = Jn.frames rs) ∧ e = .returned (.tuple #[.slice a L.length c, .bool true]) ∧ OwnsBytes w' w.heap.size (.slice a L.length c) L ∧ Below w.heap.size w w' := by
  refine (Rframes_any hv hz hn).mono ?_
  rintro e w' ⟨hB, ⟨_, L, a, c, HL, rfl, ho⟩ | ⟨hx, _⟩⟩
  · exact ⟨L, a, c, HL, rfl, ho, hB⟩
  · exact absurd ha hx
theorem Rframes_no {w : World} {v : Value} {rs : List (List UInt8)} (hv : RBs w v rs) (hz : ∀ r ∈ rs, r.length ≤ maxLen) (hn : rs.length ≤ 1000) (ha : ¬ Jn.All rs) : Calls Try.prog 73 #[v] w fun e w' => e = .returned (.tuple #[.slice none 0 0, .bool false]) ∧ Below w.heap.size w w' := by
  refine (Rframes_any hv hz hn).mono ?_
  rintro e w' ⟨hB, ⟨hx, _⟩ | ⟨_, rfl⟩⟩
  · exact absurd hx ha
  · exact ⟨rfl, hB⟩
namespace Jn
theorem all_b (rs : List (List UInt8)) : rs.all isRecB = true ↔ All rs := by
  rw [List.all_eq_true]
  refine forall_congr' (fun r => forall_congr' (fun _ => ?_))
  unfold isRecB isRec
  simp
theorem fits_arg {d : Dk.D} {m : Nat} {rs : List (List UInt8)} (h : ¬ All rs) : fits d m rs = 1 := by
  unfold fits
  rw [if_neg (fun hx => h ((all_b rs).1 hx))]
theorem fits_all {d : Dk.D} {m : Nat} {rs : List (List UInt8)} (h : All rs) : fits d m rs = if d.left < (m : Int) + ((frames rs).length : Int) then 11 else 0 := by
  unfold fits
  rw [if_pos ((all_b rs).2 h)]
end Jn
theorem RKPost.same {W w' : World} {P : Nat → Prop} {kb rb : Nat} {d : Dk.D} {gs : List (List UInt8)} {q : Int} (h : RK W P kb rb d gs) (hB : Below W.heap.size W w') : RKPost W P kb rb (q, d, gs) (.returned (.int .i64 q)) w' := ⟨rfl, h.below hB, Own.of hB⟩
set_option maxHeartbeats 2000000 in
set_option maxRecDepth 100000 in
theorem RAdd_arg {W : World} {P : Nat → Prop} {kb rb : Nat} {d : Dk.D} {gs : List (List UInt8)} (h : RK W P kb rb d gs) {v : Value} {rs : List (List UInt8)} (hv : RBs W v rs) (hz : ∀ r ∈ rs, r.length ≤ maxLen) (hn : rs.length ≤ 1000) (ha : ¬ Jn.All rs) :
    Calls Try.prog 50 #[ptr kb 0, v] W (RKPost W P kb rb (1, d, gs)) := by
  have C1 := Rframes_no hv hz hn ha
  obtain ⟨va, vc, rfl⟩ := hv.form
  have HH := hide9 h
  clear h hv hz ha
  go_enter Try.func50, Try.ntmps50
  go_wp2_with (go_at_call 73; refine C1.mono ?_; rintro e w1 ⟨rfl, hB1⟩; clear C1)
  go_ret
  exact RKPost.same HH.out hB1
set_option maxHeartbeats 4000000 in
set_option maxRecDepth 100000 in
theorem RAdd_full {W : World} {P : Nat → Prop} {kb rb : Nat} {d : Dk.D} {gs : List (List UInt8)} (h : RK W P kb rb d gs) {v : Value} {rs : List (List UInt8)} (hv : RBs W v rs) (hz : ∀ r ∈ rs, r.length ≤ maxLen) (hn : rs.length ≤ 1000) (ha : Jn.All rs) (hf : d.left < ((Jn.frames gs).length : Int) + ((Jn.frames rs).length : Int)) :
    Calls Try.prog 50 #[ptr kb 0, v] W (RKPost W P kb rb (11, d, gs)) := by
  have C1 := Rframes_yes hv hz hn ha
  obtain ⟨va, vc, rfl⟩ := hv.form
  have hs := h.small
  have hm := frames_most rs ha
  obtain ⟨lf, HLF⟩ : ∃ lf, Hid (d.left = lf) := ⟨_, rfl⟩
  rw [HLF.out] at hf
  obtain ⟨gl, HGL⟩ : ∃ gl, Hid ((Jn.frames gs).length = gl) := ⟨_, rfl⟩
  rw [HGL.out] at hf hs
  have hm2 : (Jn.frames rs).length ≤ 16392000 := by omega
  have HF := hide9 hf
  have HH := hide9 h
  clear h hv hz ha hf hm
  go_enter Try.func50, Try.ntmps50
  go_wp2_with (go_at_call 73; refine C1.mono ?_; rintro e w1 ⟨L, a1, c1, HL, rfl, ho1, hB1⟩; clear C1)
  have hLl : L.length ≤ 16392000 := by rw [HL.out]; exact hm2
  have hf : lf < (gl : Int) + (L.length : Int) := by rw [HL.out]; exact HF.out
  have hwr : IntKind.i64.wrap ((gl : Int) + (L.length : Int)) = (gl : Int) + (L.length : Int) := w64 rfl (by omega) (by omega)
  have H1 := hide9 ((HH.out.below hB1).below (bel_drew w1))
  obtain ⟨d0, d2, ga, gc, d1, dq, df⟩ := H1.out.cells HGL
  have CL := hide9 (H1.out.rleft HLF)
  clear dq df
  go_region_with (go_at_call 28; refine CL.out.mono ?_; rintro e w2 ⟨rfl, hB2⟩; have e1 : w2.cell? ⟨kb, 1, none⟩ = some (.slice ga gl gc) := (hB2.cell (p := ⟨kb, 1, none⟩) H1.out.lt).trans d1)
  all_goals
    go_wp2
    go_ret
    exact RKPost.same HH.out (bel (bel hB1 (bel_drew w1)) hB2)
end Go.Proofs.Ytcjbceidgaieaaa
