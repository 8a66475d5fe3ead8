/- Journals and their disk within a law, further. -/
import Derived.Test.YtnnlmnjbmbflpaaJnU
set_option linter.unusedVariables false
set_option linter.unusedSimpArgs false
namespace Go.Proofs.Ytnnlmnjbmbflpaa
open Go.RowKit
theorem Lt.arm {w0 W : World} {T : Nat → Prop} {b : Nat} {d : Dk.D} (h : Lt w0 T b d W) (n : Int) (hn : -9223372036854775808 ≤ n ∧ n ≤ 9223372036854775807) (q : Bool) : Calls Try.prog 29 #[ptr b 0, .int .i64 n, .bool q] W fun e w' => e = .returned (.tuple #[]) ∧ Lt w0 T b (d.arm n q) w' ∧ Own T W w' := by
  obtain ⟨n0, g0, n1, g1, hD⟩ := h.dsk
  exact (Arm_yes hD n hn q).mono (fun _ _ hp => ⟨hp.1, h.own ⟨_, _, _, _, hp.2.1⟩ hp.2.2, hp.2.2⟩)
theorem JR.arm {w0 W : World} {T : Nat → Prop} {b jb : Nat} {d : Dk.D} {gs : List (List UInt8)} (h : JR w0 T b jb d gs W) (n : Int) (hn : -9223372036854775808 ≤ n ∧ n ≤ 9223372036854775807) (q : Bool) : Calls Try.prog 29 #[ptr b 0, .int .i64 n, .bool q] W fun e w' => ∃ T', e = .returned (.tuple #[]) ∧ JR w0 T' b jb (d.arm n q) gs w' ∧ Tw W T T' w' := by
  obtain ⟨D, g, hk, h1, h2⟩ := h.ex
  obtain ⟨n0, g0, n1, g1, hD⟩ := hk.dsk
  refine (Arm_yes hD n hn q).mono ?_
  rintro e w' ⟨rfl, hD', hO⟩
  obtain ⟨T', hJ, hT, _, _⟩ := jr_dp h hk h1 h2 ⟨⟨_, _, _, _, hD'⟩, fun k hx => .inl hx, hO⟩
  exact ⟨T', rfl, hJ, hT⟩
theorem JR.fail {w0 W : World} {T : Nat → Prop} {b jb : Nat} {d : Dk.D} {gs : List (List UInt8)} (h : JR w0 T b jb d gs W) : Calls Try.prog 30 #[ptr b 0] W fun e w' => ∃ T', e = .returned (.tuple #[]) ∧ JR w0 T' b jb d.fail gs w' ∧ Tw W T T' w' := by
  obtain ⟨D, g, hk, h1, h2⟩ := h.ex
  obtain ⟨n0, g0, n1, g1, hD⟩ := hk.dsk
  refine (Fail_yes hD).mono ?_
  rintro e w' ⟨rfl, hD', hO⟩
  obtain ⟨T', hJ, hT, _, _⟩ := jr_dp h hk h1 h2 ⟨⟨_, _, _, _, hD'⟩, fun k hx => .inl hx, hO⟩
  exact ⟨T', rfl, hJ, hT⟩
theorem JR.start {w0 W : World} {T : Nat → Prop} {b jb : Nat} {d : Dk.D} {gs : List (List UInt8)} (h : JR w0 T b jb d gs W) (k0 k1 : Int) (c0 c1 : Bool) (hk0 : -9223372036854775808 ≤ k0 ∧ k0 ≤ 9223372036854775807) (hk1 : -9223372036854775808 ≤ k1 ∧ k1 ≤ 9223372036854775807) {x : Int} {d' : Dk.D} (e : d.start k0 k1 c0 c1 = (x, d')) : Calls Try.prog 31 #[ptr b 0, lossV k0 k1 c0 c1] W fun e w' => ∃ T', e = .returned (.int .i64 x) ∧ JR w0 T' b jb d' gs w' ∧ Tw W T T' w' := by
  obtain ⟨D, g, hk, h1, h2⟩ := h.ex
  obtain ⟨n0, g0, n1, g1, hD⟩ := hk.dsk
  have := Start_yes hD k0 k1 c0 c1 hk0 hk1
  rw [e] at this
  refine this.mono ?_
  rintro e w' ⟨rfl, hD', hO⟩
  obtain ⟨T', hJ, hT, _, _⟩ := jr_dp h hk h1 h2 (Dp.more hD' hO)
  exact ⟨T', rfl, hJ, hT⟩
theorem size2i : (Try.prog.info? 38).map (·.size) = some 2 := by kernel_rfl
theorem size2b : (Try.prog.info? 39).map (·.size) = some 2 := by kernel_rfl
theorem wpList_load_Jg {ops : Array Oper} {rest : List Oper} {op : Oper} {a : Act} {w : World} {Q : Exit → Act → World → Prop} (hw : Region.wanted op (yielded ops a.tmps) = true) (x : Operand) (ho : op.op = .load 63 x)
    (b o : Nat) (hx : a.eval x = ptr b o) (ac : Aj) (hc : w.rangeAt b o (jX ac).toList)
    (h : wpList Try.prog ops Q rest (a.put op.dst (jV ac)) w) : wpList Try.prog ops Q (op :: rest) a w :=
  wpList_step fun _ hK => by
    rw [if_pos hw]
    exact wp_load_mid _ x ho b o hx (jX ac).toList _ hc Try.underlying63 rfl sizeJ (hK _ _ h)
/-- An act that came in, in its box. -/
structure Box (W : World) (b : Nat) (a : Aj) : Prop where
  at' : JAct W b a
theorem Box.below {w W : World} {b : Nat} {a : Aj} (h : Box w b a) {B : Nat} (hB : Below B w W) (hb : b < B) : Box W b a := ⟨h.at'.keep (hB.block b hb)⟩
theorem Box.n {W : World} {b : Nat} {a : Aj} (h : Box W b a) : W.cell? ⟨b, 2, none⟩ = some (.int .i64 a.n) := h.at'.cell 2
theorem Box.q {W : World} {b : Nat} {a : Aj} (h : Box W b a) : W.cell? ⟨b, 3, none⟩ = some (.bool a.behind) := h.at'.cell 3
theorem Box.keep {W : World} {b : Nat} {a : Aj} (h : Box W b a) : W.rangeAt b 4 [.int .i64 a.k0, .int .i64 a.k1] := fun j v hj => by
  rw [h.at'.cell]
  rcases j with _ | _ | j
  · exact hj
  · exact hj
  · simp at hj
theorem Box.cut {W : World} {b : Nat} {a : Aj} (h : Box W b a) : W.rangeAt b 6 [.bool a.c0, .bool a.c1] := fun j v hj => by
  rw [h.at'.cell]
  rcases j with _ | _ | j
  · exact hj
  · exact hj
  · simp at hj
abbrev zA (v : Value) (rs : List (List UInt8)) : Aj := ⟨0, v, rs, 0, false, 0, 0, false, false⟩
abbrev c24 (u v : Value) (a : Aj) : Array Value := #[.int .u8 0, u, .int .i64 0, .bool false, .int .i64 0, .int .i64 0, .bool false, .bool false, .int .u8 0, v, .int .i64 0, .bool false, .int .i64 0, .int .i64 0, .bool false, .bool false, .int .u8 (a.kind : Int), a.rv, .int .i64 a.n, .bool a.behind, .int .i64 a.k0, .int .i64 a.k1, .bool a.c0, .bool a.c1]
theorem z64 : (-9223372036854775808 : Int) ≤ 0 ∧ (0 : Int) ≤ 9223372036854775807 := ⟨by decide, by decide⟩
theorem row3 (w : World) (u v : Value) (ls ms : List (List UInt8)) (a : Aj) (hu : RBs w u ls) (hul : ls.length ≤ maxLen) (hue : ∀ l ∈ ls, l.length ≤ maxLen) (hv : RBs w v ms) (hvl : ms.length ≤ maxLen) (hve : ∀ l ∈ ms, l.length ≤ maxLen) (ha : AjOK w a) : RJs (w.alloc (.cells (c24 u v a) 63)) (.slice (some ⟨w.heap.size, 0, none⟩) 3 3) [zA u ls, zA v ms, a] := by
  have hB := alloc1 w (.cells (c24 u v a) 63)
  refine .inr ⟨w.heap.size, 0, 3, rfl, Nat.le_refl _, by rw [size_alloc]; exact Nat.lt_succ_self _, fun j x hj => ?_⟩
  have hc : ∀ i, (w.alloc (.cells (c24 u v a) 63)).cell? ⟨w.heap.size, i, none⟩ = (c24 u v a)[i]? := fun i => Lib.cell_of_heap (heap_new w _) i
  rcases j with _ | _ | _ | j
  · simp at hj
    subst hj
    refine ⟨fun i y hy => ?_, ⟨(by decide : 0 ≤ 255), z64, z64, z64, hu.below hB, hul, hue⟩⟩
    rw [hc]
    rcases i with _ | _ | _ | _ | _ | _ | _ | _ | i
    all_goals first | exact hy | simp at hy
  · simp at hj
    subst hj
    refine ⟨fun i y hy => ?_, ⟨(by decide : 0 ≤ 255), z64, z64, z64, hv.below hB, hvl, hve⟩⟩
    rw [hc]
    rcases i with _ | _ | _ | _ | _ | _ | _ | _ | i
    all_goals first | exact hy | simp at hy
  · simp at hj
    subst hj
    refine ⟨fun i y hy => ?_, ha.below hB⟩
    rw [hc]
    rcases i with _ | _ | _ | _ | _ | _ | _ | _ | i
    all_goals first | exact hy | simp at hy
  · simp at hj
end Go.Proofs.Ytnnlmnjbmbflpaa
