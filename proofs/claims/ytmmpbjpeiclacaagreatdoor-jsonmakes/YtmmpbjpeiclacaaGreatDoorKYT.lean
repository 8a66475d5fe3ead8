/- The contract of the parser's whole: a fault is caught. -/
import Derived.Test.YtmmpbjpeiclacaaGreatDoorKYS
import Derived.Defers
import Derived.Recover
import Derived.Laws.Pointers
set_option linter.unusedVariables false
set_option linter.unusedSimpArgs false
namespace Go.Proofs.YtmmpbjpeiclacaaGreatDoor
open Go.RowKit
/-- A fault's own block. -/
def FAt (w : World) (b : Nat) (y a : Int) : Prop := w.heap[b]? = some (.cells #[.int .i64 y, .int .i64 a] 41 (0, 0))
theorem FAt.cell {w : World} {b : Nat} {y a : Int} (h : FAt w b y a) (i : Nat) : w.cell? ⟨b, i, none⟩ = #[Value.int .i64 y, .int .i64 a][i]? := Lib.cell_of_heap h i
theorem FAt.free {w : World} {b : Nat} {y a : Int} (h : FAt w b y a) (i : Nat) : w.frozen? ⟨b, i, none⟩ = false := Lib.frozen_of_heap h i
theorem FAt.lt {w : World} {b : Nat} {y a : Int} (h : FAt w b y a) : b < w.heap.size := (Array.getElem?_eq_some_iff.1 h).1
theorem zeroFault : (Tryz.prog.info? 41).map (fun i => (i.zero, i.size)) = some (some (.agg #[.int .i64 0, .int .i64 0]), 2) := by kernel_rfl
theorem assert_yes (W : World) (v : Value) : (Instr.typeAssert (.iface 41 v) 20 41 true).run Tryz.prog W = .ok (.tuple #[v, .bool true]) W := by kernel_rfl
theorem assert_nil (W : World) : (Instr.typeAssert .nilIface 20 41 true).run Tryz.prog W = .ok (.tuple #[.agg #[.int .i64 0, .int .i64 0], .bool false]) W := by kernel_rfl
theorem catch_world {W : World} {bv bf : Nat} {y a y0 a0 : Int} {x0 x1 x2 x3 : Value} (hvW : VAt W bv x0 x1 x2 x3) (hfW : FAt W bf y0 a0) (m0 : ¬ bv = bf) (m1 : ¬ bf = bv) :
    VAt ((((((W.setCell ⟨bv, 0, none⟩ (.int .i64 0)).setCell ⟨bv, 1, none⟩ (.string ⟨#[]⟩)).setCell ⟨bv, 2, none⟩ (.slice none 0 0)).setCell ⟨bv, 3, none⟩ (.slice none 0 0)).setCell ⟨bf, 0, none⟩ (.int .i64 y)).setCell ⟨bf, 1, none⟩ (.int .i64 a)) bv (.int .i64 0) (.string ⟨#[]⟩) (.slice none 0 0) (.slice none 0 0) ∧ FAt ((((((W.setCell ⟨bv, 0, none⟩ (.int .i64 0)).setCell ⟨bv, 1, none⟩ (.string ⟨#[]⟩)).setCell ⟨bv, 2, none⟩ (.slice none 0 0)).setCell ⟨bv, 3, none⟩ (.slice none 0 0)).setCell ⟨bf, 0, none⟩ (.int .i64 y)).setCell ⟨bf, 1, none⟩ (.int .i64 a)) bf y a ∧ ((((((W.setCell ⟨bv, 0, none⟩ (.int .i64 0)).setCell ⟨bv, 1, none⟩ (.string ⟨#[]⟩)).setCell ⟨bv, 2, none⟩ (.slice none 0 0)).setCell ⟨bv, 3, none⟩ (.slice none 0 0)).setCell ⟨bf, 0, none⟩ (.int .i64 y)).setCell ⟨bf, 1, none⟩ (.int .i64 a)).heap.size = W.heap.size ∧ ((((((W.setCell ⟨bv, 0, none⟩ (.int .i64 0)).setCell ⟨bv, 1, none⟩ (.string ⟨#[]⟩)).setCell ⟨bv, 2, none⟩ (.slice none 0 0)).setCell ⟨bv, 3, none⟩ (.slice none 0 0)).setCell ⟨bf, 0, none⟩ (.int .i64 y)).setCell ⟨bf, 1, none⟩ (.int .i64 a)).os = W.os ∧ ((((((W.setCell ⟨bv, 0, none⟩ (.int .i64 0)).setCell ⟨bv, 1, none⟩ (.string ⟨#[]⟩)).setCell ⟨bv, 2, none⟩ (.slice none 0 0)).setCell ⟨bv, 3, none⟩ (.slice none 0 0)).setCell ⟨bf, 0, none⟩ (.int .i64 y)).setCell ⟨bf, 1, none⟩ (.int .i64 a)).tape = W.tape ∧ ((((((W.setCell ⟨bv, 0, none⟩ (.int .i64 0)).setCell ⟨bv, 1, none⟩ (.string ⟨#[]⟩)).setCell ⟨bv, 2, none⟩ (.slice none 0 0)).setCell ⟨bv, 3, none⟩ (.slice none 0 0)).setCell ⟨bf, 0, none⟩ (.int .i64 y)).setCell ⟨bf, 1, none⟩ (.int .i64 a)).output = W.output ∧ ∀ k, k ≠ bv → k ≠ bf → ((((((W.setCell ⟨bv, 0, none⟩ (.int .i64 0)).setCell ⟨bv, 1, none⟩ (.string ⟨#[]⟩)).setCell ⟨bv, 2, none⟩ (.slice none 0 0)).setCell ⟨bv, 3, none⟩ (.slice none 0 0)).setCell ⟨bf, 0, none⟩ (.int .i64 y)).setCell ⟨bf, 1, none⟩ (.int .i64 a)).heap[k]? = W.heap[k]? := by
  have hV1 : VAt ((((((W.setCell ⟨bv, 0, none⟩ (.int .i64 0)).setCell ⟨bv, 1, none⟩ (.string ⟨#[]⟩)).setCell ⟨bv, 2, none⟩ (.slice none 0 0)).setCell ⟨bv, 3, none⟩ (.slice none 0 0)).setCell ⟨bf, 0, none⟩ (.int .i64 y)).setCell ⟨bf, 1, none⟩ (.int .i64 a)) bv (.int .i64 0) (.string ⟨#[]⟩) (.slice none 0 0) (.slice none 0 0) := by
    have e1 : VAt ((((W.setCell ⟨bv, 0, none⟩ (.int .i64 0)).setCell ⟨bv, 1, none⟩ (.string ⟨#[]⟩)).setCell ⟨bv, 2, none⟩ (.slice none 0 0)).setCell ⟨bv, 3, none⟩ (.slice none 0 0)) bv (.int .i64 0) (.string ⟨#[]⟩) (.slice none 0 0) (.slice none 0 0) := Go.Joins.block_setCell (Go.Joins.block_setCell (Go.Joins.block_setCell (Go.Joins.block_setCell hvW _) _) _) _
    exact (e1.keep (Below.heap_setCell _ _ _ _ m0)).keep (Below.heap_setCell _ _ _ _ m0)
  have hF1 : FAt ((((((W.setCell ⟨bv, 0, none⟩ (.int .i64 0)).setCell ⟨bv, 1, none⟩ (.string ⟨#[]⟩)).setCell ⟨bv, 2, none⟩ (.slice none 0 0)).setCell ⟨bv, 3, none⟩ (.slice none 0 0)).setCell ⟨bf, 0, none⟩ (.int .i64 y)).setCell ⟨bf, 1, none⟩ (.int .i64 a)) bf y a := by
    have e1 : FAt ((((W.setCell ⟨bv, 0, none⟩ (.int .i64 0)).setCell ⟨bv, 1, none⟩ (.string ⟨#[]⟩)).setCell ⟨bv, 2, none⟩ (.slice none 0 0)).setCell ⟨bv, 3, none⟩ (.slice none 0 0)) bf y0 a0 := (Below.heap_setCell _ _ _ _ m1).trans ((Below.heap_setCell _ _ _ _ m1).trans ((Below.heap_setCell _ _ _ _ m1).trans ((Below.heap_setCell _ _ _ _ m1).trans hfW)))
    exact Go.Joins.block_setCell (Go.Joins.block_setCell e1 _) _
  have hO1 : ∀ k, k ≠ bv → k ≠ bf → ((((((W.setCell ⟨bv, 0, none⟩ (.int .i64 0)).setCell ⟨bv, 1, none⟩ (.string ⟨#[]⟩)).setCell ⟨bv, 2, none⟩ (.slice none 0 0)).setCell ⟨bv, 3, none⟩ (.slice none 0 0)).setCell ⟨bf, 0, none⟩ (.int .i64 y)).setCell ⟨bf, 1, none⟩ (.int .i64 a)).heap[k]? = W.heap[k]? := fun k h1 h2 => (Below.heap_setCell _ _ _ _ h2).trans ((Below.heap_setCell _ _ _ _ h2).trans ((Below.heap_setCell _ _ _ _ h1).trans ((Below.heap_setCell _ _ _ _ h1).trans ((Below.heap_setCell _ _ _ _ h1).trans (Below.heap_setCell _ _ _ _ h1)))))
  have hB := ((((((Below.refl 0 W).setCell (p := ⟨bv, 0, none⟩) (Nat.zero_le _) (.int .i64 0)).setCell (p := ⟨bv, 1, none⟩) (Nat.zero_le _) (.string ⟨#[]⟩)).setCell (p := ⟨bv, 2, none⟩) (Nat.zero_le _) (.slice none 0 0)).setCell (p := ⟨bv, 3, none⟩) (Nat.zero_le _) (.slice none 0 0)).setCell (p := ⟨bf, 0, none⟩) (Nat.zero_le _) (.int .i64 y)).setCell (p := ⟨bf, 1, none⟩) (Nat.zero_le _) (.int .i64 a)
  exact ⟨hV1, hF1, by simp, hB.os, hB.tape, hB.output, hO1⟩
set_option maxHeartbeats 2000000 in
set_option maxRecDepth 100000 in
theorem catch_panicking (bv bf : Nat) (y a : Int) (x0 x1 x2 x3 : Value) (y0 a0 : Int) (older : List PanicEntry) (w : World) (hv : VAt w bv x0 x1 x2 x3) (hf : FAt w bf y0 a0) (hne : bv ≠ bf) :
    CallsD Tryz.prog 63 #[.pointer (some ⟨bv, 0, none⟩), .pointer (some ⟨bf, 0, none⟩)] (.panicking ({ v := .iface 41 (.agg #[.int .i64 y, .int .i64 a]), recovered := false } :: older)) w fun e u' w' =>
      e = .returned (.tuple #[]) ∧ u' = .panicking ({ v := .iface 41 (.agg #[.int .i64 y, .int .i64 a]), recovered := true } :: older) ∧ VAt w' bv (.int .i64 0) (.string ⟨#[]⟩) (.slice none 0 0) (.slice none 0 0) ∧ FAt w' bf y a ∧ w.heap.size ≤ w'.heap.size ∧ (w'.os = w.os ∧ w'.tape = w.tape ∧ w'.output = w.output) ∧ ∀ k, k < w.heap.size → k ≠ bv → k ≠ bf → w'.heap[k]? = w.heap[k]? := by
  have hzf := (zero_of_info zeroFault).1
  have hzv := (zero_of_info zeroVal).1
  refine callsD_of_wpS Tryz.func63 rfl fun c₀ cs hu => ?_
  apply wpS_seq
  apply wpS_region
  simp [wpOpsS, go_sem, recoverD, hu, Tryz.ntmps63, Exit.thenS, assert_yes, hzf, Array.replicate, List.replicate]
  refine wpS_of_wp ?_
  have hbv := hv.lt
  have hbf := hf.lt
  have hvW : VAt (w.alloc (.cells #[.int .i64 y, .int .i64 a] 41)) bv x0 x1 x2 x3 := hv.keep (Lib.alloc_old w _ bv hbv)
  have hfW : FAt (w.alloc (.cells #[.int .i64 y, .int .i64 a] 41)) bf y0 a0 := (Lib.alloc_old w _ bf hbf).trans hf
  have hnW : FAt (w.alloc (.cells #[.int .i64 y, .int .i64 a] 41)) w.heap.size y a := heap_alloc_last w _
  have hold : ∀ k, k < w.heap.size → (w.alloc (.cells #[.int .i64 y, .int .i64 a] 41)).heap[k]? = w.heap[k]? := fun k hk => Lib.alloc_old w _ k hk
  have hsz : w.heap.size ≤ (w.alloc (.cells #[.int .i64 y, .int .i64 a] 41)).heap.size := by simp
  have HTP : (w.alloc (.cells #[.int .i64 y, .int .i64 a] 41)).os = w.os ∧ (w.alloc (.cells #[.int .i64 y, .int .i64 a] 41)).tape = w.tape ∧ (w.alloc (.cells #[.int .i64 y, .int .i64 a] 41)).output = w.output := ⟨rfl, rfl, rfl⟩
  go_wp2
  generalize w.alloc (.cells #[.int .i64 y, .int .i64 a] 41) = W at hvW hfW hnW hold hsz HTP ⊢
  have nv : bv ≠ w.heap.size := by omega
  have nf : bf ≠ w.heap.size := by omega
  generalize hnb : w.heap.size = nb at *
  have v0 : W.cell? ⟨bv, 0, none⟩ = some x0 := hvW.cell 0
  have v1 : W.cell? ⟨bv, 1, none⟩ = some x1 := hvW.cell 1
  have v2 : W.cell? ⟨bv, 2, none⟩ = some x2 := hvW.cell 2
  have v3 : W.cell? ⟨bv, 3, none⟩ = some x3 := hvW.cell 3
  have g0 := hvW.free 0
  have g1 := hvW.free 1
  have g2 := hvW.free 2
  have g3 := hvW.free 3
  have u0 : W.cell? ⟨bf, 0, none⟩ = some (.int .i64 y0) := hfW.cell 0
  have u1 : W.cell? ⟨bf, 1, none⟩ = some (.int .i64 a0) := hfW.cell 1
  have k0 := hfW.free 0
  have k1 := hfW.free 1
  have r0 : W.cell? ⟨nb, 0, none⟩ = some (.int .i64 y) := hnW.cell 0
  have r1 : W.cell? ⟨nb, 1, none⟩ = some (.int .i64 a) := hnW.cell 1
  have m0 : ¬ bv = bf := hne
  have m1 : ¬ bf = bv := fun e => hne e.symm
  have m2 : ¬ bv = nb := nv
  have m3 : ¬ nb = bv := fun e => nv e.symm
  have m4 : ¬ bf = nb := nf
  have m5 : ¬ nb = bf := fun e => nf e.symm
  go_region
  have hc := catch_world (y := y) (a := a) hvW hfW m0 m1
  generalize ((((((W.setCell ⟨bv, 0, none⟩ (.int .i64 0)).setCell ⟨bv, 1, none⟩ (.string ⟨#[]⟩)).setCell ⟨bv, 2, none⟩ (.slice none 0 0)).setCell ⟨bv, 3, none⟩ (.slice none 0 0)).setCell ⟨bf, 0, none⟩ (.int .i64 y)).setCell ⟨bf, 1, none⟩ (.int .i64 a)) = W5 at hc ⊢
  obtain ⟨hV1, hF1, hs5, ho5, ht5, hp5, hO1⟩ := hc
  clear v0 v1 v2 v3 g0 g1 g2 g3 u0 u1 k0 k1 r0 r1
  refine ⟨rfl, _, rfl, _, results_none rfl _ _ _, rfl, rfl, hV1, hF1, ?_, ⟨ho5.trans HTP.1, ht5.trans HTP.2.1, hp5.trans HTP.2.2⟩, fun k hk h1 h2 => (hO1 k h1 h2).trans (hold k (hnb ▸ hk))⟩
  show w.heap.size ≤ W5.heap.size
  omega
set_option maxHeartbeats 2000000 in
set_option maxRecDepth 100000 in
theorem catch_idle (bv bf : Nat) (w : World) :
    CallsD Tryz.prog 63 #[.pointer (some ⟨bv, 0, none⟩), .pointer (some ⟨bf, 0, none⟩)] .returning w fun e u' w' =>
      e = .returned (.tuple #[]) ∧ u' = .returning ∧ Below w.heap.size w w' := by
  have hzf := (zero_of_info zeroFault).1
  refine callsD_of_wpS Tryz.func63 rfl fun c₀ cs hu => ?_
  apply wpS_seq
  apply wpS_region
  simp [wpOpsS, go_sem, recoverD, hu, Tryz.ntmps63, Exit.thenS, assert_nil, hzf, Array.replicate, List.replicate]
  refine wpS_of_wp ?_
  go_wp2
  exact ⟨rfl, _, by cases c₀; simp_all, _, results_none rfl _ _ _, rfl, rfl, (Below.refl _ w).alloc (Nat.le_refl _) _⟩
end Go.Proofs.YtmmpbjpeiclacaaGreatDoor
