/- Files and disks; the contract of Left. -/
import Derived.Test.YtcjbceidgaieaaaKDkF
import Derived.Deep.MidRow
set_option linter.unusedVariables false
set_option linter.unusedSimpArgs false
namespace Go.Proofs.Ytcjbceidgaieaaa
open Go.RowKit
def DskE (w : World) (T : Nat → Prop) (b : Nat) (d : Dk.D) : Prop := ∃ n0 g0 n1 g1, Dsk w T b d n0 g0 n1 g1
theorem Dsk.mono {w : World} {T T' : Nat → Prop} {b : Nat} {d : Dk.D} {n0 g0 n1 g1 : Value} (h : Dsk w T b d n0 g0 n1 g1) (hT : ∀ k, T k → T' k) (hl : ∀ k, T' k → k < w.heap.size) : Dsk w T' b d n0 g0 n1 g1 :=
  ⟨h.dat, h.fine, hT _ h.tb, fun k e => hT k (h.t0 k e), fun k e => hT k (h.t1 k e), fun k e => hT k (h.t2 k e), fun k e => hT k (h.t3 k e), hl⟩
theorem DskE.mono {w : World} {T T' : Nat → Prop} {b : Nat} {d : Dk.D} (h : DskE w T b d) (hT : ∀ k, T k → T' k) (hl : ∀ k, T' k → k < w.heap.size) : DskE w T' b d := by
  obtain ⟨n0, g0, n1, g1, h⟩ := h
  exact ⟨n0, g0, n1, g1, h.mono hT hl⟩
theorem DskE.below {w w' : World} {T : Nat → Prop} {b : Nat} {d : Dk.D} (h : DskE w T b d) (hB : Below w.heap.size w w') : DskE w' T b d := by
  obtain ⟨n0, g0, n1, g1, h⟩ := h
  exact ⟨n0, g0, n1, g1, h.below hB⟩
theorem DskE.low {w : World} {T : Nat → Prop} {b : Nat} {d : Dk.D} (h : DskE w T b d) : ∀ k, T k → k < w.heap.size := by
  obtain ⟨n0, g0, n1, g1, h⟩ := h
  exact h.low
theorem DskE.more {w w' : World} {T : Nat → Prop} {b : Nat} {d : Dk.D} (h : DskE w' T b d) (w0 : World) : DskE w' (More T w0 w') b d := h.mono (fun k hk => .inl hk) (fun k hk => by
  rcases hk with hk | hk
  · exact h.low k hk
  · exact hk.2)
/-- Two steps of a disk. -/
theorem DskE.step {w w1 w2 : World} {T : Nat → Prop} {b : Nat} {d : Dk.D} (h : DskE w2 (More T w1 w2) b d) (hs : w.heap.size ≤ w1.heap.size) : DskE w2 (More T w w2) b d := h.mono (fun k hk => by
  rcases hk with hk | hk
  · exact .inl hk
  · exact .inr ⟨by omega, hk.2⟩) (fun k hk => by
  rcases hk with hk | hk
  · exact h.low k (.inl hk)
  · exact hk.2)
theorem Dsk.ct0 {w : World} {T : Nat → Prop} {b : Nat} {d : Dk.D} {n0 g0 n1 g1 : Value} (h : Dsk w T b d n0 g0 n1 g1) : Ct w b 4 (xD d n0 g0 n1 g1) d.a n0 g0 := ⟨h.dat.blk, rfl, rfl, rfl, h.dat.o0, h.dat.q0, h.dat.a1, h.dat.b0, h.dat.b1⟩
theorem Dsk.ct1 {w : World} {T : Nat → Prop} {b : Nat} {d : Dk.D} {n0 g0 n1 g1 : Value} (h : Dsk w T b d n0 g0 n1 g1) : Ct w b 7 (xD d n0 g0 n1 g1) d.b n1 g1 := ⟨h.dat.blk, rfl, rfl, rfl, h.dat.o1, h.dat.q1, h.dat.a6, h.dat.b2, h.dat.b3⟩
theorem Ap.symm {u v : Value} (h : Ap u v) : Ap v u := fun k e1 e2 => h k e2 e1
theorem ap_new {w : World} {b : Nat} {n g n' m : Value} {l : List UInt8} (hm : OwnsBytes w 0 m l) (hb : m.ownBlock ≠ some b) (h1 : Ap n m) (h2 : Ap g m) (hK : ∀ k, n'.ownBlock = some k → Fp b n g k ∨ w.heap.size ≤ k) : Ap n' m := fun k e1 e2 => by
  rcases hK k e1 with (e | e | e) | e
  · exact hb (by rw [e2, e])
  · exact h1 k e e2
  · exact h2 k e e2
  · have := (hm.lt e2).2
    omega
theorem own_fp {T : Nat → Prop} {b : Nat} {n g : Value} {w w' : World} (h : Own (Fp b n g) w w') (hb : T b) (hn : In T n) (hg : In T g) : Own T w w' :=
  ⟨h.os, h.tape, h.output, h.size, fun k hk hT => h.block k hk (fun e => by
    rcases e with e | e | e
    · exact hT (e ▸ hb)
    · exact hT (hn k e)
    · exact hT (hg k e))⟩
theorem in_new {T : Nat → Prop} {b : Nat} {n g n' : Value} {l : List UInt8} {w w' : World} (hb : T b) (hn : In T n) (hg : In T g) (ho : OwnsBytes w' 0 n' l) (hK : ∀ k, n'.ownBlock = some k → Fp b n g k ∨ w.heap.size ≤ k) : In (More T w w') n' := fun k e => by
  rcases hK k e with (h | h | h) | h
  · exact .inl (h ▸ hb)
  · exact .inl (hn k h)
  · exact .inl (hg k h)
  · exact .inr ⟨h, (ho.lt e).2⟩
theorem low_more {T : Nat → Prop} {w w' : World} (hs : w.heap.size ≤ w'.heap.size) (hl : ∀ k, T k → k < w.heap.size) : ∀ k, More T w w' k → k < w'.heap.size := fun k hk => by
  rcases hk with hk | hk
  · exact Nat.lt_of_lt_of_le (hl k hk) hs
  · exact hk.2
theorem Dsk.lift0 {w w' : World} {T : Nat → Prop} {b : Nat} {d : Dk.D} {n0 g0 n1 g1 : Value} {c : Dk.Cn} (h : Dsk w T b d n0 g0 n1 g1) (hp : CtPost w b 4 (xD d n0 g0 n1 g1) n0 g0 c w') (hc : c.Fine) : DskE w' (More T w w') b { d with a := c } ∧ Own T w w' := by
  obtain ⟨n, g, hC, hO, hK⟩ := hp
  have hK1 : ∀ k, n.ownBlock = some k → Fp b n0 g0 k ∨ w.heap.size ≤ k := fun k e => hK k (.inr (.inl e))
  have hK2 : ∀ k, g.ownBlock = some k → Fp b n0 g0 k ∨ w.heap.size ≤ k := fun k e => hK k (.inr (.inr e))
  have D := h.dat
  have k1 : OwnsBytes w' 0 n1 d.b.now := D.o1.keep (fun k e hk => hO.block k hk (fun hf => by
    rcases hf with e2 | e2 | e2
    · exact D.b2 (by rw [e, e2])
    · exact D.a2 k e2 e
    · exact D.a4 k e2 e))
  have k2 : OwnsBytes w' 0 g1 d.b.gone := D.q1.keep (fun k e hk => hO.block k hk (fun hf => by
    rcases hf with e2 | e2 | e2
    · exact D.b3 (by rw [e, e2])
    · exact D.a3 k e2 e
    · exact D.a5 k e2 e))
  refine ⟨⟨n, g, n1, g1, ⟨⟨hC.blk, hC.n, hC.g, k1, k2, hC.ap, ap_new D.o1 D.b2 D.a2 D.a4 hK1, ap_new D.q1 D.b3 D.a3 D.a5 hK1, ap_new D.o1 D.b2 D.a2 D.a4 hK2, ap_new D.q1 D.b3 D.a3 D.a5 hK2, D.a6, hC.bn, hC.bg, D.b2, D.b3⟩, ?_, .inl h.tb, in_new h.tb h.t0 h.t1 hC.n hK1, in_new h.tb h.t0 h.t1 hC.g hK2, fun k e => .inl (h.t2 k e), fun k e => .inl (h.t3 k e), low_more hO.size h.low⟩⟩, own_fp hO h.tb h.t0 h.t1⟩
  exact ⟨hc, h.fine.b, h.fine.room, h.fine.least, h.fine.root, h.fine.fuse⟩
theorem Dsk.lift1 {w w' : World} {T : Nat → Prop} {b : Nat} {d : Dk.D} {n0 g0 n1 g1 : Value} {c : Dk.Cn} (h : Dsk w T b d n0 g0 n1 g1) (hp : CtPost w b 7 (xD d n0 g0 n1 g1) n1 g1 c w') (hc : c.Fine) : DskE w' (More T w w') b { d with b := c } ∧ Own T w w' := by
  obtain ⟨n, g, hC, hO, hK⟩ := hp
  have hK1 : ∀ k, n.ownBlock = some k → Fp b n1 g1 k ∨ w.heap.size ≤ k := fun k e => hK k (.inr (.inl e))
  have hK2 : ∀ k, g.ownBlock = some k → Fp b n1 g1 k ∨ w.heap.size ≤ k := fun k e => hK k (.inr (.inr e))
  have D := h.dat
  have k1 : OwnsBytes w' 0 n0 d.a.now := D.o0.keep (fun k e hk => hO.block k hk (fun hf => by
    rcases hf with e2 | e2 | e2
    · exact D.b0 (by rw [e, e2])
    · exact D.a2 k e e2
    · exact D.a3 k e e2))
  have k2 : OwnsBytes w' 0 g0 d.a.gone := D.q0.keep (fun k e hk => hO.block k hk (fun hf => by
    rcases hf with e2 | e2 | e2
    · exact D.b1 (by rw [e, e2])
    · exact D.a4 k e e2
    · exact D.a5 k e e2))
  refine ⟨⟨n0, g0, n, g, ⟨⟨hC.blk, k1, k2, hC.n, hC.g, D.a1, (ap_new D.o0 D.b0 D.a2.symm D.a3.symm hK1).symm, (ap_new D.o0 D.b0 D.a2.symm D.a3.symm hK2).symm, (ap_new D.q0 D.b1 D.a4.symm D.a5.symm hK1).symm, (ap_new D.q0 D.b1 D.a4.symm D.a5.symm hK2).symm, hC.ap, D.b0, D.b1, hC.bn, hC.bg⟩, ?_, .inl h.tb, fun k e => .inl (h.t0 k e), fun k e => .inl (h.t1 k e), in_new h.tb h.t2 h.t3 hC.n hK1, in_new h.tb h.t2 h.t3 hC.g hK2, low_more hO.size h.low⟩⟩, own_fp hO h.tb h.t2 h.t3⟩
  exact ⟨h.fine.a, hc, h.fine.room, h.fine.least, h.fine.root, h.fine.fuse⟩
/-- The slices of a file. -/
def nOf (f : Int) (n0 n1 : Value) : Value := if f = 0 then n0 else n1
theorem Dsk.ctf {w : World} {T : Nat → Prop} {b : Nat} {d : Dk.D} {n0 g0 n1 g1 : Value} (h : Dsk w T b d n0 g0 n1 g1) {f : Int} (hf : f = 0 ∨ f = 1) : Ct w b (fo f) (xD d n0 g0 n1 g1) (d.at f) (nOf f n0 n1) (nOf f g0 g1) := by
  rcases hf with rfl | rfl
  · exact h.ct0
  · exact h.ct1
theorem Dsk.liftf {w w' : World} {T : Nat → Prop} {b : Nat} {d : Dk.D} {n0 g0 n1 g1 : Value} {c : Dk.Cn} (h : Dsk w T b d n0 g0 n1 g1) {f : Int} (hf : f = 0 ∨ f = 1) (hp : CtPost w b (fo f) (xD d n0 g0 n1 g1) (nOf f n0 n1) (nOf f g0 g1) c w') (hc : c.Fine) : DskE w' (More T w w') b (d.put f c) ∧ Own T w w' := by
  rcases hf with rfl | rfl
  · exact h.lift0 hp hc
  · exact h.lift1 hp hc
theorem cells6 : (Try.prog.info? 91).map (·.size) = some 6 := by kernel_rfl
theorem cells3 : (Try.prog.info? 90).map (·.size) = some 3 := by kernel_rfl
theorem index_zero (W : World) (x0 x1 x2 x3 x4 x5 : Value) : (Instr.index 91 (.agg #[x0, x1, x2, x3, x4, x5]) (.int .i64 0)).run Try.prog W = .ok (.agg #[x0, x1, x2]) W := by kernel_rfl
theorem index_one (W : World) (x0 x1 x2 x3 x4 x5 : Value) : (Instr.index 91 (.agg #[x0, x1, x2, x3, x4, x5]) (.int .i64 1)).run Try.prog W = .ok (.agg #[x3, x4, x5]) W := by kernel_rfl
set_option maxHeartbeats 2000000 in
set_option maxRecDepth 100000 in
theorem Left_no {w : World} {v : Value} (h : Made w v false) :
    Calls Try.prog 43 #[v] w fun e w' => e = .returned (.int .i64 0) ∧ w' = w := by
  have H := isMade_any h
  go_enter Try.func43, Try.ntmps43
  go_wp2_with (go_at_call 51; refine H.mono ?_; rintro e w2 ⟨rfl, he⟩; replace he := he.symm; subst he)
  go_ret
  exact ⟨rfl, rfl⟩
set_option maxHeartbeats 2000000 in
set_option maxRecDepth 100000 in
theorem Left_yes {w : World} {T : Nat → Prop} {b : Nat} {d : Dk.D} {n0 g0 n1 g1 : Value} (h : Dsk w T b d n0 g0 n1 g1) :
    Calls Try.prog 43 #[.pointer (some ⟨b, 0, none⟩)] w fun e w' => e = .returned (.int .i64 d.left) ∧ Below w.heap.size w w' := by
  have H := isMade_any h.made
  have c2 : w.cell? ⟨b, 2, none⟩ = some (.int .i64 d.room) := h.dat.cell 2
  obtain ⟨a0, p0, rfl⟩ := h.dat.o0.form
  obtain ⟨a1, p1, rfl⟩ := h.dat.o1.form
  obtain ⟨a2, p2, rfl⟩ := h.dat.q0.form
  obtain ⟨a3, p3, rfl⟩ := h.dat.q1.form
  have hr : w.rangeAt b 4 [.slice a0 d.a.now.length p0, .int .i64 (d.a.whole : Int), .slice a2 d.a.gone.length p2, .slice a1 d.b.now.length p1, .int .i64 (d.b.whole : Int), .slice a3 d.b.gone.length p3] := fun j v hj => by
    rw [h.dat.cell]
    rcases j with _ | _ | _ | _ | _ | _ | j
    · exact hj
    · exact hj
    · exact hj
    · exact hj
    · exact hj
    · exact hj
    · simp at hj
  have hr1 := h.fine.room
  have hr2 := h.fine.least
  have hn0 := h.fine.a.now
  have hn1 := h.fine.b.now
  have HLf : Hid (d.left = d.room - d.a.now.length - d.b.now.length) := rfl
  have w1 : IntKind.i64.wrap (d.room - (d.a.now.length : Int)) = d.room - d.a.now.length := w64 rfl (by omega) (by omega)
  have w2 : IntKind.i64.wrap (d.room - (d.a.now.length : Int) - (d.b.now.length : Int)) = d.room - d.a.now.length - d.b.now.length := w64 rfl (by omega) (by omega)
  clear h
  go_enter Try.func43, Try.ntmps43
  go_wp2_with (first
    | (go_at_call 51; refine H.mono ?_; rintro e w2 ⟨rfl, he⟩; replace he := he.symm; subst he)
    | ((with_reducible show wpList _ _ _ ({ op := Op.load 91 _, .. } :: _) _ _); refine wpList_load_mid rfl _ _ rfl b 4 rfl _ _ hr Try.underlying91 rfl cells6 ?_))
  go_loopw [3, 17] (fun x i wr => ((i = .int .i64 0 ∧ x = .int .i64 d.room) ∨ (i = .int .i64 1 ∧ x = .int .i64 (d.room - d.a.now.length)) ∨ (i = .int .i64 2 ∧ x = .int .i64 (d.room - d.a.now.length - d.b.now.length))) ∧ Below w.heap.size w wr) (fun _ i _ => 2 - (intOf i).toNat)
  case atStart => exact ⟨.inl ⟨rfl, rfl⟩, Below.refl _ _⟩
  case round =>
    obtain ⟨h1, hB⟩ := hrel
    rcases h1 with ⟨rfl, rfl⟩ | ⟨rfl, rfl⟩ | ⟨rfl, rfl⟩
    · have hi := fun W => index_zero W (.slice a0 d.a.now.length p0) (.int .i64 (d.a.whole : Int)) (.slice a2 d.a.gone.length p2) (.slice a1 d.b.now.length p1) (.int .i64 (d.b.whole : Int)) (.slice a3 d.b.gone.length p3)
      go_wp2
      exact ⟨⟨.inr (.inl ⟨rfl, rfl⟩), hB.alloc hB.size _⟩, by simp [intOf]⟩
    · have hi := fun W => index_one W (.slice a0 d.a.now.length p0) (.int .i64 (d.a.whole : Int)) (.slice a2 d.a.gone.length p2) (.slice a1 d.b.now.length p1) (.int .i64 (d.b.whole : Int)) (.slice a3 d.b.gone.length p3)
      go_wp2
      exact ⟨⟨.inr (.inr ⟨rfl, rfl⟩), hB.alloc hB.size _⟩, by simp [intOf]⟩
    · go_wp2
      go_ret
      refine ⟨?_, hB⟩
      rw [HLf.out]
      rfl
end Go.Proofs.Ytcjbceidgaieaaa
