/- Texts laid as one. -/
import Derived.Test.YtpnmiknikkhliaaDoorKYc
import Derived.Defers
import Derived.Recover
import Derived.Laws.Pointers
import Derived.Test.YtpnmiknikkhliaaDoorKGround
/- The contract of the parser's whole: a fault is caught. -/
set_option linter.unusedVariables false
set_option linter.unusedSimpArgs false
namespace Go.Proofs.YtpnmiknikkhliaaDoor
open Go.RowKit
/-- A fault's own block. -/
def FAt (w : World) (b : Nat) (y a : Int) : Prop := w.heap[b]? = some (.cells #[.int .i64 y, .int .i64 a] 37 (0, 0))
theorem FAt.cell {w : World} {b : Nat} {y a : Int} (h : FAt w b y a) (i : Nat) : w.cell? ⟨b, i, none⟩ = #[Value.int .i64 y, .int .i64 a][i]? := Lib.cell_of_heap h i
theorem FAt.free {w : World} {b : Nat} {y a : Int} (h : FAt w b y a) (i : Nat) : w.frozen? ⟨b, i, none⟩ = false := Lib.frozen_of_heap h i
theorem FAt.lt {w : World} {b : Nat} {y a : Int} (h : FAt w b y a) : b < w.heap.size := (Array.getElem?_eq_some_iff.1 h).1
theorem zeroFault : (Tryd.prog.info? 37).map (fun i => (i.zero, i.size)) = some (some (.agg #[.int .i64 0, .int .i64 0]), 2) := by kernel_rfl
theorem assert_yes (W : World) (v : Value) : (Instr.typeAssert (.iface 37 v) 20 37 true).run Tryd.prog W = .ok (.tuple #[v, .bool true]) W := by kernel_rfl
theorem assert_nil (W : World) : (Instr.typeAssert .nilIface 20 37 true).run Tryd.prog W = .ok (.tuple #[.agg #[.int .i64 0, .int .i64 0], .bool false]) W := by kernel_rfl
theorem catch_world {W : World} {bv bf : Nat} {y a y0 a0 : Int} {x0 x1 x2 x3 : Value} (hvW : VAt W bv x0 x1 x2 x3) (hfW : FAt W bf y0 a0) (m0 : ¬ bv = bf) (m1 : ¬ bf = bv) :
    VAt ((((((W.setCell ⟨bv, 0, none⟩ (.int .i64 0)).setCell ⟨bv, 1, none⟩ (.string ⟨#[]⟩)).setCell ⟨bv, 2, none⟩ (.slice none 0 0)).setCell ⟨bv, 3, none⟩ (.slice none 0 0)).setCell ⟨bf, 0, none⟩ (.int .i64 y)).setCell ⟨bf, 1, none⟩ (.int .i64 a)) bv (.int .i64 0) (.string ⟨#[]⟩) (.slice none 0 0) (.slice none 0 0) ∧ FAt ((((((W.setCell ⟨bv, 0, none⟩ (.int .i64 0)).setCell ⟨bv, 1, none⟩ (.string ⟨#[]⟩)).setCell ⟨bv, 2, none⟩ (.slice none 0 0)).setCell ⟨bv, 3, none⟩ (.slice none 0 0)).setCell ⟨bf, 0, none⟩ (.int .i64 y)).setCell ⟨bf, 1, none⟩ (.int .i64 a)) bf y a ∧ ((((((W.setCell ⟨bv, 0, none⟩ (.int .i64 0)).setCell ⟨bv, 1, none⟩ (.string ⟨#[]⟩)).setCell ⟨bv, 2, none⟩ (.slice none 0 0)).setCell ⟨bv, 3, none⟩ (.slice none 0 0)).setCell ⟨bf, 0, none⟩ (.int .i64 y)).setCell ⟨bf, 1, none⟩ (.int .i64 a)).heap.size = W.heap.size ∧ ((((((W.setCell ⟨bv, 0, none⟩ (.int .i64 0)).setCell ⟨bv, 1, none⟩ (.string ⟨#[]⟩)).setCell ⟨bv, 2, none⟩ (.slice none 0 0)).setCell ⟨bv, 3, none⟩ (.slice none 0 0)).setCell ⟨bf, 0, none⟩ (.int .i64 y)).setCell ⟨bf, 1, none⟩ (.int .i64 a)).os = W.os ∧ ((((((W.setCell ⟨bv, 0, none⟩ (.int .i64 0)).setCell ⟨bv, 1, none⟩ (.string ⟨#[]⟩)).setCell ⟨bv, 2, none⟩ (.slice none 0 0)).setCell ⟨bv, 3, none⟩ (.slice none 0 0)).setCell ⟨bf, 0, none⟩ (.int .i64 y)).setCell ⟨bf, 1, none⟩ (.int .i64 a)).tape = W.tape ∧ ((((((W.setCell ⟨bv, 0, none⟩ (.int .i64 0)).setCell ⟨bv, 1, none⟩ (.string ⟨#[]⟩)).setCell ⟨bv, 2, none⟩ (.slice none 0 0)).setCell ⟨bv, 3, none⟩ (.slice none 0 0)).setCell ⟨bf, 0, none⟩ (.int .i64 y)).setCell ⟨bf, 1, none⟩ (.int .i64 a)).output = W.output ∧ ∀ k, k ≠ bv → k ≠ bf → ((((((W.setCell ⟨bv, 0, none⟩ (.int .i64 0)).setCell ⟨bv, 1, none⟩ (.string ⟨#[]⟩)).setCell ⟨bv, 2, none⟩ (.slice none 0 0)).setCell ⟨bv, 3, none⟩ (.slice none 0 0)).setCell ⟨bf, 0, none⟩ (.int .i64 y)).setCell ⟨bf, 1, none⟩ (.int .i64 a)).heap[k]? = W.heap[k]? := by
  have hV1 : VAt ((((((W.setCell ⟨bv, 0, none⟩ (.int .i64 0)).setCell ⟨bv, 1, none⟩ (.string ⟨#[]⟩)).setCell ⟨bv, 2, none⟩ (.slice none 0 0)).setCell ⟨bv, 3, none⟩ (.slice none 0 0)).setCell ⟨bf, 0, none⟩ (.int .i64 y)).setCell ⟨bf, 1, none⟩ (.int .i64 a)) bv (.int .i64 0) (.string ⟨#[]⟩) (.slice none 0 0) (.slice none 0 0) := by
    have e1 : VAt ((((W.setCell ⟨bv, 0, none⟩ (.int .i64 0)).setCell ⟨bv, 1, none⟩ (.string ⟨#[]⟩)).setCell ⟨bv, 2, none⟩ (.slice none 0 0)).setCell ⟨bv, 3, none⟩ (.slice none 0 0)) bv (.int .i64 0) (.string ⟨#[]⟩) (.slice none 0 0) (.slice none 0 0) := Go.Joins.block_setCell (Go.Joins.block_setCell (Go.Joins.block_setCell (Go.Joins.block_setCell hvW _) _) _) _
    exact (e1.keep (Below.heap_setCell _ _ _ _ m0)).keep (Below.heap_setCell _ _ _ _ m0)
  have hF1 : FAt ((((((W.setCell ⟨bv, 0, none⟩ (.int .i64 0)).setCell ⟨bv, 1, none⟩ (.string ⟨#[]⟩)).setCell ⟨bv, 2, none⟩ (.slice none 0 0)).setCell ⟨bv, 3, none⟩ (.slice none 0 0)).setCell ⟨bf, 0, none⟩ (.int .i64 y)).setCell ⟨bf, 1, none⟩ (.int .i64 a)) bf y a := by
    have e1 : FAt ((((W.setCell ⟨bv, 0, none⟩ (.int .i64 0)).setCell ⟨bv, 1, none⟩ (.string ⟨#[]⟩)).setCell ⟨bv, 2, none⟩ (.slice none 0 0)).setCell ⟨bv, 3, none⟩ (.slice none 0 0)) bf y0 a0 := (Below.heap_setCell _ _ _ _ m1).trans ((Below.heap_setCell _ _ _ _ m1).trans ((Below.heap_setCell _ _ _ _ m1).trans ((Below.heap_setCell _ _ _ _ m1).trans hfW)))
    exact Go.Joins.block_setCell (Go.Joins.block_setCell e1 _) _
  have hO1 : ∀ k, k ≠ bv → k ≠ bf → ((((((W.setCell ⟨bv, 0, none⟩ (.int .i64 0)).setCell ⟨bv, 1, none⟩ (.string ⟨#[]⟩)).setCell ⟨bv, 2, none⟩ (.slice none 0 0)).setCell ⟨bv, 3, none⟩ (.slice none 0 0)).setCell ⟨bf, 0, none⟩ (.int .i64 y)).setCell ⟨bf, 1, none⟩ (.int .i64 a)).heap[k]? = W.heap[k]? := fun k h1 h2 => (Below.heap_setCell _ _ _ _ h2).trans ((Below.heap_setCell _ _ _ _ h2).trans ((Below.heap_setCell _ _ _ _ h1).trans ((Below.heap_setCell _ _ _ _ h1).trans ((Below.heap_setCell _ _ _ _ h1).trans (Below.heap_setCell _ _ _ _ h1)))))
  have hB := ((((((Below.refl 0 W).setCell (p := ⟨bv, 0, none⟩) (Nat.zero_le _) (.int .i64 0)).setCell (p := ⟨bv, 1, none⟩) (Nat.zero_le _) (.string ⟨#[]⟩)).setCell (p := ⟨bv, 2, none⟩) (Nat.zero_le _) (.slice none 0 0)).setCell (p := ⟨bv, 3, none⟩) (Nat.zero_le _) (.slice none 0 0)).setCell (p := ⟨bf, 0, none⟩) (Nat.zero_le _) (.int .i64 y)).setCell (p := ⟨bf, 1, none⟩) (Nat.zero_le _) (.int .i64 a)
  exact ⟨hV1, hF1, by simp, hB.os, hB.tape, hB.output, hO1⟩
set_option maxHeartbeats 2000000 in
set_option maxRecDepth 100000 in
theorem catch_panicking (bv bf : Nat) (y a : Int) (x0 x1 x2 x3 : Value) (y0 a0 : Int) (older : List PanicEntry) (w : World) (hv : VAt w bv x0 x1 x2 x3) (hf : FAt w bf y0 a0) (hne : bv ≠ bf) :
    CallsD Tryd.prog 37 #[.pointer (some ⟨bv, 0, none⟩), .pointer (some ⟨bf, 0, none⟩)] (.panicking ({ v := .iface 37 (.agg #[.int .i64 y, .int .i64 a]), recovered := false } :: older)) w fun e u' w' =>
      e = .returned (.tuple #[]) ∧ u' = .panicking ({ v := .iface 37 (.agg #[.int .i64 y, .int .i64 a]), recovered := true } :: older) ∧ VAt w' bv (.int .i64 0) (.string ⟨#[]⟩) (.slice none 0 0) (.slice none 0 0) ∧ FAt w' bf y a ∧ w.heap.size ≤ w'.heap.size ∧ (w'.os = w.os ∧ w'.tape = w.tape ∧ w'.output = w.output) ∧ ∀ k, k < w.heap.size → k ≠ bv → k ≠ bf → w'.heap[k]? = w.heap[k]? := by
  have hzf := (zero_of_info zeroFault).1
  have hzv := (zero_of_info zeroVal).1
  refine callsD_of_wpS Tryd.func37 rfl fun c₀ cs hu => ?_
  apply wpS_seq
  apply wpS_region
  simp [wpOpsS, go_sem, recoverD, hu, Tryd.ntmps37, Exit.thenS, assert_yes, hzf, Array.replicate, List.replicate]
  refine wpS_of_wp ?_
  have hbv := hv.lt
  have hbf := hf.lt
  have hvW : VAt (w.alloc (.cells #[.int .i64 y, .int .i64 a] 37)) bv x0 x1 x2 x3 := hv.keep (Lib.alloc_old w _ bv hbv)
  have hfW : FAt (w.alloc (.cells #[.int .i64 y, .int .i64 a] 37)) bf y0 a0 := (Lib.alloc_old w _ bf hbf).trans hf
  have hnW : FAt (w.alloc (.cells #[.int .i64 y, .int .i64 a] 37)) w.heap.size y a := heap_alloc_last w _
  have hold : ∀ k, k < w.heap.size → (w.alloc (.cells #[.int .i64 y, .int .i64 a] 37)).heap[k]? = w.heap[k]? := fun k hk => Lib.alloc_old w _ k hk
  have hsz : w.heap.size ≤ (w.alloc (.cells #[.int .i64 y, .int .i64 a] 37)).heap.size := by simp
  have HTP : (w.alloc (.cells #[.int .i64 y, .int .i64 a] 37)).os = w.os ∧ (w.alloc (.cells #[.int .i64 y, .int .i64 a] 37)).tape = w.tape ∧ (w.alloc (.cells #[.int .i64 y, .int .i64 a] 37)).output = w.output := ⟨rfl, rfl, rfl⟩
  go_wp2
  generalize w.alloc (.cells #[.int .i64 y, .int .i64 a] 37) = W at hvW hfW hnW hold hsz HTP ⊢
  have nv : bv ≠ w.heap.size := by omega
  have nf : bf ≠ w.heap.size := by omega
  generalize hnb : w.heap.size = nb at *
  have v0 : W.cell? ⟨bv, 0, none⟩ = some x0 := hvW.cell 0
  have v1 : W.cell? ⟨bv, 1, none⟩ = some x1 := hvW.cell 1
  have v2 : W.cell? ⟨bv, 2, none⟩ = some x2 := hvW.cell 2
  have v3 : W.cell? ⟨bv, 3, none⟩ = some x3 := hvW.cell 3
  have g0 := hvW.free 0
  have g1 := hvW.free 1
  have g2 := hvW.free 2
  have g3 := hvW.free 3
  have u0 : W.cell? ⟨bf, 0, none⟩ = some (.int .i64 y0) := hfW.cell 0
  have u1 : W.cell? ⟨bf, 1, none⟩ = some (.int .i64 a0) := hfW.cell 1
  have k0 := hfW.free 0
  have k1 := hfW.free 1
  have r0 : W.cell? ⟨nb, 0, none⟩ = some (.int .i64 y) := hnW.cell 0
  have r1 : W.cell? ⟨nb, 1, none⟩ = some (.int .i64 a) := hnW.cell 1
  have m0 : ¬ bv = bf := hne
  have m1 : ¬ bf = bv := fun e => hne e.symm
  have m2 : ¬ bv = nb := nv
  have m3 : ¬ nb = bv := fun e => nv e.symm
  have m4 : ¬ bf = nb := nf
  have m5 : ¬ nb = bf := fun e => nf e.symm
  go_region
  have hc := catch_world (y := y) (a := a) hvW hfW m0 m1
  generalize ((((((W.setCell ⟨bv, 0, none⟩ (.int .i64 0)).setCell ⟨bv, 1, none⟩ (.string ⟨#[]⟩)).setCell ⟨bv, 2, none⟩ (.slice none 0 0)).setCell ⟨bv, 3, none⟩ (.slice none 0 0)).setCell ⟨bf, 0, none⟩ (.int .i64 y)).setCell ⟨bf, 1, none⟩ (.int .i64 a)) = W5 at hc ⊢
  obtain ⟨hV1, hF1, hs5, ho5, ht5, hp5, hO1⟩ := hc
  clear v0 v1 v2 v3 g0 g1 g2 g3 u0 u1 k0 k1 r0 r1
  refine ⟨rfl, _, rfl, _, results_none rfl _ _ _, rfl, rfl, hV1, hF1, ?_, ⟨ho5.trans HTP.1, ht5.trans HTP.2.1, hp5.trans HTP.2.2⟩, fun k hk h1 h2 => (hO1 k h1 h2).trans (hold k (hnb ▸ hk))⟩
  show w.heap.size ≤ W5.heap.size
  omega
set_option maxHeartbeats 2000000 in
set_option maxRecDepth 100000 in
theorem catch_idle (bv bf : Nat) (w : World) :
    CallsD Tryd.prog 37 #[.pointer (some ⟨bv, 0, none⟩), .pointer (some ⟨bf, 0, none⟩)] .returning w fun e u' w' =>
      e = .returned (.tuple #[]) ∧ u' = .returning ∧ Below w.heap.size w w' := by
  have hzf := (zero_of_info zeroFault).1
  refine callsD_of_wpS Tryd.func37 rfl fun c₀ cs hu => ?_
  apply wpS_seq
  apply wpS_region
  simp [wpOpsS, go_sem, recoverD, hu, Tryd.ntmps37, Exit.thenS, assert_nil, hzf, Array.replicate, List.replicate]
  refine wpS_of_wp ?_
  go_wp2
  exact ⟨rfl, _, by cases c₀; simp_all, _, results_none rfl _ _ _, rfl, rfl, (Below.refl _ w).alloc (Nat.le_refl _) _⟩
end Go.Proofs.YtpnmiknikkhliaaDoor
/- The contracts of the parser's whole, and of Parse. -/
set_option linter.unusedVariables false
set_option linter.unusedSimpArgs false
namespace Go.Proofs.YtpnmiknikkhliaaDoor
open Go.RowKit
abbrev vz : Value := vv (.int .i64 0) (.string ⟨#[]⟩) (.slice none 0 0) (.slice none 0 0)
abbrev fv (y a : Int) : Value := .agg #[.int .i64 y, .int .i64 a]
theorem sizeFault : (Tryd.prog.info? 37).map (·.size) = some 2 := by kernel_rfl
theorem load_F {w : World} {b : Nat} {y a : Int} (h : FAt w b y a) : (loadVar 37 ⟨b, 0, none⟩).run Tryd.prog w = .ok (fv y a) w :=
  run_loadVar_row _ _ _ _ _ _ _ h Tryd.underlying37 rfl sizeFault
theorem FAt.keep {w w' : World} {b : Nat} {y a : Int} (h : FAt w b y a) (e : w'.heap[b]? = w.heap[b]?) : FAt w' b y a := e.trans h
theorem results_vf {fn : Func} {p q : Tmp} {tmps : Array Value} {w : World} {bv bf : Nat} {x0 x1 x2 x3 : Value} {y a : Int} (hr : fn.results = #[.cell p 25, .cell q 37]) (hp : tmps.getD p undef = .pointer (some ⟨bv, 0, none⟩)) (hq : tmps.getD q undef = .pointer (some ⟨bf, 0, none⟩)) (hv : VAt w bv x0 x1 x2 x3) (hf : FAt w bf y a) :
    (results fn tmps).run Tryd.prog w = .ok (.tuple #[vv x0 x1 x2 x3, fv y a]) w := by
  have hp' : tmps[p]?.getD undef = .pointer (some ⟨bv, 0, none⟩) := by simpa using hp
  have hq' : tmps[q]?.getD undef = .pointer (some ⟨bf, 0, none⟩) := by simpa using hq
  simp only [results, hr]
  simp [Sem.run_bind, Result.andThen, hp', hq', asAddr, load_V hv, load_F hf]
theorem store_world {W : World} {bv bf : Nat} {y a y0 a0 : Int} {x0 x1 x2 x3 : Value} (z0 z1 z2 z3 : Value) (hvW : VAt W bv x0 x1 x2 x3) (hfW : FAt W bf y0 a0) (m0 : ¬ bv = bf) (m1 : ¬ bf = bv) :
    VAt ((((((W.setCell ⟨bv, 0, none⟩ z0).setCell ⟨bv, 1, none⟩ z1).setCell ⟨bv, 2, none⟩ z2).setCell ⟨bv, 3, none⟩ z3).setCell ⟨bf, 0, none⟩ (.int .i64 y)).setCell ⟨bf, 1, none⟩ (.int .i64 a)) bv z0 z1 z2 z3 ∧ FAt ((((((W.setCell ⟨bv, 0, none⟩ z0).setCell ⟨bv, 1, none⟩ z1).setCell ⟨bv, 2, none⟩ z2).setCell ⟨bv, 3, none⟩ z3).setCell ⟨bf, 0, none⟩ (.int .i64 y)).setCell ⟨bf, 1, none⟩ (.int .i64 a)) bf y a ∧ ((((((W.setCell ⟨bv, 0, none⟩ z0).setCell ⟨bv, 1, none⟩ z1).setCell ⟨bv, 2, none⟩ z2).setCell ⟨bv, 3, none⟩ z3).setCell ⟨bf, 0, none⟩ (.int .i64 y)).setCell ⟨bf, 1, none⟩ (.int .i64 a)).heap.size = W.heap.size ∧ ((((((W.setCell ⟨bv, 0, none⟩ z0).setCell ⟨bv, 1, none⟩ z1).setCell ⟨bv, 2, none⟩ z2).setCell ⟨bv, 3, none⟩ z3).setCell ⟨bf, 0, none⟩ (.int .i64 y)).setCell ⟨bf, 1, none⟩ (.int .i64 a)).os = W.os ∧ ((((((W.setCell ⟨bv, 0, none⟩ z0).setCell ⟨bv, 1, none⟩ z1).setCell ⟨bv, 2, none⟩ z2).setCell ⟨bv, 3, none⟩ z3).setCell ⟨bf, 0, none⟩ (.int .i64 y)).setCell ⟨bf, 1, none⟩ (.int .i64 a)).tape = W.tape ∧ ((((((W.setCell ⟨bv, 0, none⟩ z0).setCell ⟨bv, 1, none⟩ z1).setCell ⟨bv, 2, none⟩ z2).setCell ⟨bv, 3, none⟩ z3).setCell ⟨bf, 0, none⟩ (.int .i64 y)).setCell ⟨bf, 1, none⟩ (.int .i64 a)).output = W.output ∧ ∀ k, k ≠ bv → k ≠ bf → ((((((W.setCell ⟨bv, 0, none⟩ z0).setCell ⟨bv, 1, none⟩ z1).setCell ⟨bv, 2, none⟩ z2).setCell ⟨bv, 3, none⟩ z3).setCell ⟨bf, 0, none⟩ (.int .i64 y)).setCell ⟨bf, 1, none⟩ (.int .i64 a)).heap[k]? = W.heap[k]? := by
  have e1 : VAt ((((W.setCell ⟨bv, 0, none⟩ z0).setCell ⟨bv, 1, none⟩ z1).setCell ⟨bv, 2, none⟩ z2).setCell ⟨bv, 3, none⟩ z3) bv z0 z1 z2 z3 := Go.Joins.block_setCell (Go.Joins.block_setCell (Go.Joins.block_setCell (Go.Joins.block_setCell hvW _) _) _) _
  have e2 : FAt ((((W.setCell ⟨bv, 0, none⟩ z0).setCell ⟨bv, 1, none⟩ z1).setCell ⟨bv, 2, none⟩ z2).setCell ⟨bv, 3, none⟩ z3) bf y0 a0 := (Below.heap_setCell _ _ _ _ m1).trans ((Below.heap_setCell _ _ _ _ m1).trans ((Below.heap_setCell _ _ _ _ m1).trans ((Below.heap_setCell _ _ _ _ m1).trans hfW)))
  have hB := ((((((Below.refl 0 W).setCell (p := ⟨bv, 0, none⟩) (Nat.zero_le _) z0).setCell (p := ⟨bv, 1, none⟩) (Nat.zero_le _) z1).setCell (p := ⟨bv, 2, none⟩) (Nat.zero_le _) z2).setCell (p := ⟨bv, 3, none⟩) (Nat.zero_le _) z3).setCell (p := ⟨bf, 0, none⟩) (Nat.zero_le _) (.int .i64 y)).setCell (p := ⟨bf, 1, none⟩) (Nat.zero_le _) (.int .i64 a)
  exact ⟨(e1.keep (Below.heap_setCell _ _ _ _ m0)).keep (Below.heap_setCell _ _ _ _ m0), Go.Joins.block_setCell (Go.Joins.block_setCell e2 _) _, by simp, hB.os, hB.tape, hB.output, fun k h1 h2 => (Below.heap_setCell _ _ _ _ h2).trans ((Below.heap_setCell _ _ _ _ h2).trans ((Below.heap_setCell _ _ _ _ h1).trans ((Below.heap_setCell _ _ _ _ h1).trans ((Below.heap_setCell _ _ _ _ h1).trans (Below.heap_setCell _ _ _ _ h1)))))⟩
/-- What Parse answers of a text that is one, and not too long. -/
def WPost (b : Nat) (s : List UInt8) (w : World) (e : Ending) (w' : World) : Prop :=
  Kept b w w' ∧ Ans (Jsn.wholeR s) (fun t _ => ∃ v, e = .returned (.tuple #[v, fv 0 0]) ∧ RV (w.heap.size ≤ ·) w' t v) (fun y k => e = .returned (.tuple #[vz, fv y ((s.length - k : Nat) : Int)]))
set_option maxHeartbeats 4000000 in
set_option maxRecDepth 100000 in
theorem whole_any {b : Nat} {s : List UInt8} {w : World} (h : Ps b s s 0 w) :
    Calls Tryd.prog 23 #[.pointer (some ⟨b, 0, none⟩)] w (WPost b s w) := by
  have hmf : ∀ (fn : Fn) (first cap : Array Value) (w : World), (Instr.makeFunc fn first cap).run Tryd.prog w = .ok (.func fn first cap) w := fun _ _ _ _ => rfl
  have hzv := (zero_of_info zeroVal).1
  have hzf := (zero_of_info zeroFault).1
  have hbl := h.lt
  have hlen := h.len
  have hVal := value_any 64 (by omega) 0 b s (by omega)
  have hB0 : Below w.heap.size w ((w.alloc (.cells z4 25)).alloc (.cells #[.int .i64 0, .int .i64 0] 37)) := ((Below.refl _ w).alloc (Nat.le_refl _) _).alloc (by simp) _
  have hV0 : VAt ((w.alloc (.cells z4 25)).alloc (.cells #[.int .i64 0, .int .i64 0] 37)) w.heap.size (.int .i64 0) (.string ⟨#[]⟩) (.slice none 0 0) (.slice none 0 0) := by
    unfold VAt
    rw [Lib.alloc_old _ _ _ (by simp)]
    exact heap_alloc_last w _
  have hF0 : FAt ((w.alloc (.cells z4 25)).alloc (.cells #[.int .i64 0, .int .i64 0] 37)) (w.heap.size + 1) 0 0 := by
    unfold FAt
    have e : w.heap.size + 1 = (w.alloc (.cells z4 25)).heap.size := by simp
    rw [e]
    exact heap_alloc_last _ _
  have hs0 : w.heap.size + 2 ≤ ((w.alloc (.cells z4 25)).alloc (.cells #[.int .i64 0, .int .i64 0] 37)).heap.size := by simp
  have hP0 := h.step hB0
  have hK0 : Kept b w ((w.alloc (.cells z4 25)).alloc (.cells #[.int .i64 0, .int .i64 0] 37)) := Kept.of hB0
  -- behind a fault
  have caught : ∀ (y : Int) (q : Nat) (W : World) (x0 x1 x2 x3 : Value) (tmps : Array Value), Kept b w W → w.heap.size + 2 ≤ W.heap.size → VAt W w.heap.size x0 x1 x2 x3 → FAt W (w.heap.size + 1) 0 0 → tmps.getD 2 undef = .pointer (some ⟨w.heap.size, 0, none⟩) → tmps.getD 3 undef = .pointer (some ⟨w.heap.size + 1, 0, none⟩) → Jsn.wholeR s = .err y q →
      Leaves Tryd.prog Tryd.f23 tmps (WPost b s w) [{ target := .fn (.func 37) #[.pointer (some ⟨w.heap.size, 0, none⟩), .pointer (some ⟨w.heap.size + 1, 0, none⟩)], args := #[] }] (.panicking [{ v := .iface 37 (fv y ((s.length - q : Nat) : Int)), recovered := false }]) W := by
    intro y q W x0 x1 x2 x3 tmps hK hs hv hf hp hq hE
    refine leaves_cons (f := 37) (args := #[.pointer (some ⟨w.heap.size, 0, none⟩), .pointer (some ⟨w.heap.size + 1, 0, none⟩)]) (by simp) (by simp [go_sem]) ?_
    refine (catch_panicking w.heap.size (w.heap.size + 1) y ((s.length - q : Nat) : Int) x0 x1 x2 x3 0 0 [] W hv hf (by omega)).mono ?_
    rintro e u' w' ⟨rfl, rfl, hv', hf', hs', ⟨ho, ht, hp'⟩, hold⟩
    show Leaves _ _ _ _ [] (settle _) w'
    refine ⟨_, results_vf rfl hp hq hv' hf', ⟨ho.trans hK.os, ht.trans hK.tape, hp'.trans hK.output, by omega, fun k hk hkb => (hold k (by omega) (by omega) (by omega)).trans (hK.block k hk hkb)⟩, ?_⟩
    rw [hE]
    rfl
  have hWh : Jsn.wholeR s = (Jsn.valueR 64 0 s).bind fun p r => if Jsn.skip r = [] then .ok p.1 [] else .err 3 (Jsn.skip r).length := rfl
  cases hv : Jsn.valueR 64 0 s with
  | err y q =>
    have hE : Jsn.wholeR s = .err y q := by rw [hWh, hv]; rfl
    go_enter_defers Tryd.func23, Tryd.ntmps23
    go_wp2_with (first
      | (go_at_call 38; refine (hVal 0 s _ hP0).mono ?_; rintro e w1 ⟨hK1, hA⟩; rw [hv] at hA; replace hA : e = boom s y q := hA; subst hA))
    have hs1 := hK1.size
    exact caught y q w1 _ _ _ _ _ (hK0.trans hK1) (by omega) (hV0.keep (hK1.block _ hV0.lt (by omega))) (hF0.keep (hK1.block _ hF0.lt (by omega))) rfl rfl hE
  | ok pr r =>
    rw [hv] at hWh
    replace hWh : Jsn.wholeR s = if Jsn.skip r = [] then .ok pr.1 [] else .err 3 (Jsn.skip r).length := hWh
    by_cases hsk : Jsn.skip r = []
    · rw [if_pos hsk] at hWh
      go_enter_defers Tryd.func23, Tryd.ntmps23
      go_wp2_with (first
        | (go_at_call 38; refine (hVal 0 s _ hP0).mono ?_; rintro e w1 ⟨hK1, hA⟩; rw [hv] at hA; obtain ⟨v1, rfl, hr1, hP1⟩ := hA; obtain ⟨aa, na, ca, ab, nb, cb, rfl⟩ := hr1.shape; have hs1 := hK1.size; have hV1 := hV0.keep (hK1.block _ hV0.lt (by omega)); have hF1 := hF0.keep (hK1.block _ hF0.lt (by omega)); have hV2 := setRow_V hV1 (.int .i64 pr.1.kind) (.string (str pr.1.text)) (.slice aa na ca) (.slice ab nb cb); have hF2 := hF1.keep (setRow_other (b := w.heap.size) #[.int .i64 pr.1.kind, .string (str pr.1.text), .slice aa na ca, .slice ab nb cb] (by omega)); have hP2 := hP1.keep (setRow_other (b := w.heap.size) #[.int .i64 pr.1.kind, .string (str pr.1.text), .slice aa na ca, .slice ab nb cb] (by omega)); have hK2 := (hK0.trans hK1).row (Nat.le_refl _) #[.int .i64 pr.1.kind, .string (str pr.1.text), .slice aa na ca, .slice ab nb cb]; have hl2 := setRow_len w1 w.heap.size #[.int .i64 pr.1.kind, .string (str pr.1.text), .slice aa na ca, .slice ab nb cb]; have hO2 : ∀ k, k ≠ w.heap.size → (w1.setRow w.heap.size #[.int .i64 pr.1.kind, .string (str pr.1.text), .slice aa na ca, .slice ab nb cb]).heap[k]? = w1.heap[k]? := fun k hk => setRow_other _ hk)
        | ((with_reducible show wpList _ _ _ ({ op := Op.store 25 _ _, .. } :: _) _ _); refine wpList_store_V _ _ rfl rfl _ _ _ _ _ rfl rfl hV1 (ones_mk _ _ _ _ _ _ _ _) ?_; generalize w1.setRow w.heap.size #[.int .i64 pr.1.kind, .string (str pr.1.text), .slice aa na ca, .slice ab nb cb] = W2 at hV2 hF2 hP2 hK2 hl2 hO2 ⊢)
        | (go_at_call 39; refine (skip_any hP2).mono ?_; rintro e w3 ⟨rfl, hP3, hK3⟩; have hs3 := hK3.size; have hV3 := hV2.keep (hK3.block _ hV2.lt (by omega)); have hF3 := hF2.keep (hK3.block _ hF2.lt (by omega)); have c0 := hP3.c0; obtain ⟨p, hp, c1⟩ := hP3.c1; have hz := str_size s))
      rw [hsk] at hP3 hp
      simp only [List.length_nil, Nat.add_zero] at hp
      subst hp
      go_region
      go_wp2_with fail
      have v0 : w3.cell? ⟨w.heap.size, 0, none⟩ = some (.int .i64 pr.1.kind) := hV3.cell 0
      have v1 : w3.cell? ⟨w.heap.size, 1, none⟩ = some (.string (str pr.1.text)) := hV3.cell 1
      have v2 : w3.cell? ⟨w.heap.size, 2, none⟩ = some (.slice aa na ca) := hV3.cell 2
      have v3 : w3.cell? ⟨w.heap.size, 3, none⟩ = some (.slice ab nb cb) := hV3.cell 3
      have g0 := hV3.free 0
      have g1 := hV3.free 1
      have g2 := hV3.free 2
      have g3 := hV3.free 3
      have u0 : w3.cell? ⟨w.heap.size + 1, 0, none⟩ = some (.int .i64 0) := hF3.cell 0
      have u1 : w3.cell? ⟨w.heap.size + 1, 1, none⟩ = some (.int .i64 0) := hF3.cell 1
      have k0 := hF3.free 0
      have k1 := hF3.free 1
      go_region
      have hc := store_world (y := 0) (a := 0) (.int .i64 pr.1.kind) (.string (str pr.1.text)) (.slice aa na ca) (.slice ab nb cb) hV3 hF3 (by omega) (by omega)
      generalize ((((((w3.setCell ⟨w.heap.size, 0, none⟩ (.int .i64 pr.1.kind)).setCell ⟨w.heap.size, 1, none⟩ (.string (str pr.1.text))).setCell ⟨w.heap.size, 2, none⟩ (.slice aa na ca)).setCell ⟨w.heap.size, 3, none⟩ (.slice ab nb cb)).setCell ⟨w.heap.size + 1, 0, none⟩ (.int .i64 0)).setCell ⟨w.heap.size + 1, 1, none⟩ (.int .i64 0)) = W4 at hc ⊢
      obtain ⟨hV4, hF4, hs4, ho4, ht4, hp4, hO4⟩ := hc
      clear v0 v1 v2 v3 g0 g1 g2 g3 u0 u1 k0 k1 c0 c1
      go_wp2_with fail
      refine leaves_cons (f := 37) (args := #[.pointer (some ⟨w.heap.size, 0, none⟩), .pointer (some ⟨w.heap.size + 1, 0, none⟩)]) (by simp) (by simp [go_sem]) ?_
      refine (catch_idle w.heap.size (w.heap.size + 1) _).mono ?_
      rintro e u' w5 ⟨rfl, rfl, hB5⟩
      have hB6 : Below W4.heap.size W4 w5 := ⟨hB5.os, hB5.tape, hB5.output, hB5.size, hB5.block⟩
      have hs5 := hB6.size
      refine ⟨_, results_vf (w := w5) rfl rfl rfl (hV4.keep (hB6.block _ (by omega))) (hF4.keep (hB6.block _ (by omega))), ⟨hB6.os.trans (ho4.trans (hK2.trans hK3).os), hB6.tape.trans (ht4.trans (hK2.trans hK3).tape), hB6.output.trans (hp4.trans (hK2.trans hK3).output), by omega, fun k hk hkb => ?_⟩, ?_⟩
      · rw [hB6.block k (by omega), hO4 k (by omega) (by omega)]
        exact (hK2.trans hK3).block k hk hkb
      · rw [hWh]
        refine ⟨_, rfl, RV.keep (by omega) (fun k hk hl => ⟨by omega, ?_⟩) hr1⟩
        rw [hB6.block k (by omega), hO4 k (by omega) (by omega), hK3.block k (by omega) (by omega), hO2 k (by omega)]
    · rw [if_neg hsk] at hWh
      have hne : 0 < (Jsn.skip r).length := List.length_pos_iff.2 hsk
      go_enter_defers Tryd.func23, Tryd.ntmps23
      go_wp2_with (first
        | (go_at_call 38; refine (hVal 0 s _ hP0).mono ?_; rintro e w1 ⟨hK1, hA⟩; rw [hv] at hA; obtain ⟨v1, rfl, hr1, hP1⟩ := hA; obtain ⟨aa, na, ca, ab, nb, cb, rfl⟩ := hr1.shape; have hs1 := hK1.size; have hV1 := hV0.keep (hK1.block _ hV0.lt (by omega)); have hF1 := hF0.keep (hK1.block _ hF0.lt (by omega)); have hV2 := setRow_V hV1 (.int .i64 pr.1.kind) (.string (str pr.1.text)) (.slice aa na ca) (.slice ab nb cb); have hF2 := hF1.keep (setRow_other (b := w.heap.size) #[.int .i64 pr.1.kind, .string (str pr.1.text), .slice aa na ca, .slice ab nb cb] (by omega)); have hP2 := hP1.keep (setRow_other (b := w.heap.size) #[.int .i64 pr.1.kind, .string (str pr.1.text), .slice aa na ca, .slice ab nb cb] (by omega)); have hK2 := (hK0.trans hK1).row (Nat.le_refl _) #[.int .i64 pr.1.kind, .string (str pr.1.text), .slice aa na ca, .slice ab nb cb]; have hl2 := setRow_len w1 w.heap.size #[.int .i64 pr.1.kind, .string (str pr.1.text), .slice aa na ca, .slice ab nb cb]; have hO2 : ∀ k, k ≠ w.heap.size → (w1.setRow w.heap.size #[.int .i64 pr.1.kind, .string (str pr.1.text), .slice aa na ca, .slice ab nb cb]).heap[k]? = w1.heap[k]? := fun k hk => setRow_other _ hk)
        | ((with_reducible show wpList _ _ _ ({ op := Op.store 25 _ _, .. } :: _) _ _); refine wpList_store_V _ _ rfl rfl _ _ _ _ _ rfl rfl hV1 (ones_mk _ _ _ _ _ _ _ _) ?_; generalize w1.setRow w.heap.size #[.int .i64 pr.1.kind, .string (str pr.1.text), .slice aa na ca, .slice ab nb cb] = W2 at hV2 hF2 hP2 hK2 hl2 hO2 ⊢)
        | (go_at_call 39; refine (skip_any hP2).mono ?_; rintro e w3 ⟨rfl, hP3, hK3⟩; have hs3 := hK3.size; have hV3 := hV2.keep (hK3.block _ hV2.lt (by omega)); have hF3 := hF2.keep (hK3.block _ hF2.lt (by omega)); have c0 := hP3.c0; obtain ⟨p, hp, c1⟩ := hP3.c1; have hz := str_size s))
      go_region
      go_wp2_with fail
      obtain rfl : p = s.length - (Jsn.skip r).length := by omega
      exact caught 3 (Jsn.skip r).length w3.drew _ _ _ _ _ ((hK2.trans hK3).drew) (by show w.heap.size + 2 ≤ w3.heap.size; omega) hV3 hF3 rfl rfl hWh
end Go.Proofs.YtpnmiknikkhliaaDoor
/- The contract of Parse. -/
set_option linter.unusedVariables false
set_option linter.unusedSimpArgs false
namespace Go.Proofs.YtpnmiknikkhliaaDoor
open Go.RowKit
theorem RV.zero (Q : Nat → Prop) (w : World) : RV Q w Jsn.J.zero vz := RV.plain Q w 0 []
set_option maxHeartbeats 4000000 in
set_option maxRecDepth 100000 in
theorem Parse_any (l : List UInt8) (w : World) (hl : l.length ≤ 1000000000) :
    Calls Tryd.prog 13 #[.string (str l)] w fun e w' => Below w.heap.size w w' ∧ ∃ v, e = .returned (.tuple #[v, fv (Jsn.faultJ l).1 (Jsn.faultJ l).2]) ∧ RV (w.heap.size ≤ ·) w' (Jsn.parseJ l) v := by
  have hzv := (zero_of_info zeroVal).1
  have hzf := (zero_of_info zeroFault).1
  have hz := str_size l
  have hB0 : Below w.heap.size w ((w.alloc (.cells z4 25)).alloc (.cells #[.int .i64 0, .int .i64 0] 37)) := ((Below.refl _ w).alloc (Nat.le_refl _) _).alloc (by simp) _
  have hV0 : VAt ((w.alloc (.cells z4 25)).alloc (.cells #[.int .i64 0, .int .i64 0] 37)) w.heap.size (.int .i64 0) (.string ⟨#[]⟩) (.slice none 0 0) (.slice none 0 0) := by
    unfold VAt
    rw [Lib.alloc_old _ _ _ (by simp)]
    exact heap_alloc_last w _
  have hF0 : FAt ((w.alloc (.cells z4 25)).alloc (.cells #[.int .i64 0, .int .i64 0] 37)) (w.heap.size + 1) 0 0 := by
    unfold FAt
    have e : w.heap.size + 1 = (w.alloc (.cells z4 25)).heap.size := by simp
    rw [e]
    exact heap_alloc_last _ _
  by_cases hlong : 65536 < l.length
  · have hp : Jsn.parseJ l = .zero := by unfold Jsn.parseJ; rw [if_pos hlong]
    have hf : Jsn.faultJ l = (5, 0) := by unfold Jsn.faultJ; rw [if_pos hlong]
    rw [hp, hf]
    have hF5 : FAt ((w.alloc (.cells z4 25)).alloc (.cells #[.int .i64 5, .int .i64 0] 37)) (w.heap.size + 1) 5 0 := by
      unfold FAt
      have e : w.heap.size + 1 = (w.alloc (.cells z4 25)).heap.size := by simp
      rw [e]
      exact heap_alloc_last _ _
    have hli : (65536 : Int) < (l.length : Int) := by omega
    go_enter Tryd.func13, Tryd.ntmps13
    go_wp2_with fail
    refine bodyPost_ret (results_vf rfl rfl rfl (x0 := .int .i64 0) (x1 := .string ⟨#[]⟩) (x2 := .slice none 0 0) (x3 := .slice none 0 0) ?_ hF5) rfl ⟨((Below.refl _ w).alloc (Nat.le_refl _) _).alloc (by simp) _, _, rfl, RV.zero _ _⟩
    unfold VAt
    rw [Lib.alloc_old _ _ _ (by simp)]
    exact heap_alloc_last w _
  have hT := IsText_any l
  have hW0s : w.heap.size + 2 = ((w.alloc (.cells z4 25)).alloc (.cells #[.int .i64 0, .int .i64 0] 37)).heap.size := by simp
  have hs0 := Nat.le_of_eq hW0s
  clear hW0s
  by_cases htx : Utf.isText l = false
  · have hp : Jsn.parseJ l = .zero := by unfold Jsn.parseJ; rw [if_neg hlong, if_pos htx]
    have hf : Jsn.faultJ l = (9, 0) := by unfold Jsn.faultJ; rw [if_neg hlong, if_pos htx]
    rw [hp, hf]
    have hli : ¬ (65536 : Int) < (l.length : Int) := by omega
    simp only [htx] at hT
    go_enter Tryd.func13, Tryd.ntmps13
    go_wp2_with (first
      | (go_at_call 22; refine (hT _).mono ?_; rintro e w1 ⟨rfl, hb1⟩; have hV1 := hV0.keep (hb1.block _ hV0.lt); have hF1 := hF0.keep (hb1.block _ hF0.lt); have hs1 : w.heap.size + 2 ≤ w1.heap.size := Nat.le_trans hs0 hb1.size; have u0 : w1.cell? ⟨w.heap.size + 1, 0, none⟩ = some (.int .i64 0) := hF1.cell 0; have u1 : w1.cell? ⟨w.heap.size + 1, 1, none⟩ = some (.int .i64 0) := hF1.cell 1; have k0 := hF1.free 0; have k1 := hF1.free 1; have v0 : w1.cell? ⟨w.heap.size, 0, none⟩ = some (.int .i64 0) := hV1.cell 0; have v1 : w1.cell? ⟨w.heap.size, 1, none⟩ = some (.string ⟨#[]⟩) := hV1.cell 1; have v2 : w1.cell? ⟨w.heap.size, 2, none⟩ = some (.slice none 0 0) := hV1.cell 2; have v3 : w1.cell? ⟨w.heap.size, 3, none⟩ = some (.slice none 0 0) := hV1.cell 3; have g0 := hV1.free 0; have g1 := hV1.free 1; have g2 := hV1.free 2; have g3 := hV1.free 3))
    have hc := store_world (y := 9) (a := 0) (.int .i64 0) (.string ⟨#[]⟩) (.slice none 0 0) (.slice none 0 0) hV1 hF1 (by omega) (by omega)
    generalize ((((((w1.setCell ⟨w.heap.size, 0, none⟩ (.int .i64 0)).setCell ⟨w.heap.size, 1, none⟩ (.string ⟨#[]⟩)).setCell ⟨w.heap.size, 2, none⟩ (.slice none 0 0)).setCell ⟨w.heap.size, 3, none⟩ (.slice none 0 0)).setCell ⟨w.heap.size + 1, 0, none⟩ (.int .i64 9)).setCell ⟨w.heap.size + 1, 1, none⟩ (.int .i64 0)) = W4 at hc ⊢
    obtain ⟨hV4, hF4, hs4, ho4, ht4, hp4, hO4⟩ := hc
    have hbw := hB0.trans (hb1.mono (Nat.le_trans (Nat.le_add_right _ 2) hs0))
    refine bodyPost_ret (results_vf rfl rfl rfl hV4 hF4) rfl ⟨⟨ho4.trans hbw.os, ht4.trans hbw.tape, hp4.trans hbw.output, by have := hbw.size; omega, fun k hk => (hO4 k (by omega) (by omega)).trans (hbw.block k hk)⟩, _, rfl, RV.zero _ _⟩
  have htx2 : Utf.isText l = true := by simpa using htx
  have hli : ¬ (65536 : Int) < (l.length : Int) := by omega
  simp only [htx2] at hT
  have hfn := Jsn.whole_fine l
  have hWp : ∀ w1 : World, Calls Tryd.prog 23 #[.pointer (some ⟨w1.heap.size, 0, none⟩)] (w1.alloc (.cells #[.string (str l), .int .i64 0, .int .i64 0] 53)) (WPost w1.heap.size l (w1.alloc (.cells #[.string (str l), .int .i64 0, .int .i64 0] 53))) := fun w1 => whole_any ⟨by have := heap_alloc_last w1 (.cells #[.string (str l), .int .i64 0, .int .i64 0] 53); simpa using this, List.suffix_refl _, by omega, by omega⟩
  cases hw : Jsn.wholeR l with
  | err y q =>
    rw [hw] at hfn
    have hp : Jsn.parseJ l = .zero := by unfold Jsn.parseJ; rw [if_neg hlong, if_neg htx, hw]
    have hf : Jsn.faultJ l = (y, (l.length : Int) - q) := by unfold Jsn.faultJ; rw [if_neg hlong, if_neg htx, hw]
    rw [hp, hf]
    have hql : q ≤ l.length := hfn.2.1
    have hqe : (l.length : Int) - (q : Int) = ((l.length - q : Nat) : Int) := by omega
    rw [hqe]
    go_enter Tryd.func13, Tryd.ntmps13
    go_wp2_with (first
      | (go_at_call 22; refine (hT _).mono ?_; rintro e w1 ⟨rfl, hb1⟩; have hV1 := hV0.keep (hb1.block _ hV0.lt); have hF1 := hF0.keep (hb1.block _ hF0.lt); have hs1 : w.heap.size + 2 ≤ w1.heap.size := Nat.le_trans hs0 hb1.size)
      | (go_at_call 23; refine (hWp w1).mono ?_; rintro e w2 ⟨hK2, hA⟩; rw [hw] at hA; replace hA : e = .returned (.tuple #[vz, fv y ((l.length - q : Nat) : Int)]) := hA; subst hA; have hs2 := hK2.size; have hV2 := (hV1.keep (Lib.alloc_old w1 (.cells #[.string (str l), .int .i64 0, .int .i64 0] 53) _ hV1.lt)).keep (hK2.block _ (by simp; omega) (by omega)); have hF2 := (hF1.keep (Lib.alloc_old w1 (.cells #[.string (str l), .int .i64 0, .int .i64 0] 53) _ hF1.lt)).keep (hK2.block _ (by simp; omega) (by omega)); have u0 : w2.cell? ⟨w.heap.size + 1, 0, none⟩ = some (.int .i64 0) := hF2.cell 0; have u1 : w2.cell? ⟨w.heap.size + 1, 1, none⟩ = some (.int .i64 0) := hF2.cell 1; have k0 := hF2.free 0; have k1 := hF2.free 1; have v0 : w2.cell? ⟨w.heap.size, 0, none⟩ = some (.int .i64 0) := hV2.cell 0; have v1 : w2.cell? ⟨w.heap.size, 1, none⟩ = some (.string ⟨#[]⟩) := hV2.cell 1; have v2 : w2.cell? ⟨w.heap.size, 2, none⟩ = some (.slice none 0 0) := hV2.cell 2; have v3 : w2.cell? ⟨w.heap.size, 3, none⟩ = some (.slice none 0 0) := hV2.cell 3; have g0 := hV2.free 0; have g1 := hV2.free 1; have g2 := hV2.free 2; have g3 := hV2.free 3))
    have hc := store_world (y := y) (a := ((l.length - q : Nat) : Int)) (.int .i64 0) (.string ⟨#[]⟩) (.slice none 0 0) (.slice none 0 0) hV2 hF2 (by omega) (by omega)
    generalize ((((((w2.setCell ⟨w.heap.size, 0, none⟩ (.int .i64 0)).setCell ⟨w.heap.size, 1, none⟩ (.string ⟨#[]⟩)).setCell ⟨w.heap.size, 2, none⟩ (.slice none 0 0)).setCell ⟨w.heap.size, 3, none⟩ (.slice none 0 0)).setCell ⟨w.heap.size + 1, 0, none⟩ (.int .i64 y)).setCell ⟨w.heap.size + 1, 1, none⟩ (.int .i64 ((l.length - q : Nat) : Int))) = W4 at hc ⊢
    obtain ⟨hV4, hF4, hs4, ho4, ht4, hp4, hO4⟩ := hc
    have hbw := hB0.trans (hb1.mono (Nat.le_trans (Nat.le_add_right _ 2) hs0))
    simp at hs2
    refine bodyPost_ret (results_vf rfl rfl rfl hV4 hF4) rfl ⟨⟨ho4.trans (hK2.os.trans hbw.os), ht4.trans (hK2.tape.trans hbw.tape), hp4.trans (hK2.output.trans hbw.output), by have := hbw.size; omega, fun k hk => ?_⟩, _, rfl, RV.zero _ _⟩
    rw [hO4 k (by omega) (by omega), hK2.block k (by simp; omega) (by omega), Lib.alloc_old w1 _ k (by omega)]
    exact hbw.block k hk
  | ok t z =>
    have hp : Jsn.parseJ l = t := by unfold Jsn.parseJ; rw [if_neg hlong, if_neg htx, hw]
    have hf : Jsn.faultJ l = (0, 0) := by unfold Jsn.faultJ; rw [if_neg hlong, if_neg htx, hw]
    rw [hp, hf]
    go_enter Tryd.func13, Tryd.ntmps13
    go_wp2_with (first
      | (go_at_call 22; refine (hT _).mono ?_; rintro e w1 ⟨rfl, hb1⟩; have hV1 := hV0.keep (hb1.block _ hV0.lt); have hF1 := hF0.keep (hb1.block _ hF0.lt); have hs1 : w.heap.size + 2 ≤ w1.heap.size := Nat.le_trans hs0 hb1.size)
      | (go_at_call 23; refine (hWp w1).mono ?_; rintro e w2 ⟨hK2, hA⟩; rw [hw] at hA; obtain ⟨vr, rfl, hr2⟩ := hA; obtain ⟨aa, na, ca, ab, nb, cb, rfl⟩ := hr2.shape; have hs2 := hK2.size; have hV2 := (hV1.keep (Lib.alloc_old w1 (.cells #[.string (str l), .int .i64 0, .int .i64 0] 53) _ hV1.lt)).keep (hK2.block _ (by simp; omega) (by omega)); have hF2 := (hF1.keep (Lib.alloc_old w1 (.cells #[.string (str l), .int .i64 0, .int .i64 0] 53) _ hF1.lt)).keep (hK2.block _ (by simp; omega) (by omega)); have u0 : w2.cell? ⟨w.heap.size + 1, 0, none⟩ = some (.int .i64 0) := hF2.cell 0; have u1 : w2.cell? ⟨w.heap.size + 1, 1, none⟩ = some (.int .i64 0) := hF2.cell 1; have k0 := hF2.free 0; have k1 := hF2.free 1; have v0 : w2.cell? ⟨w.heap.size, 0, none⟩ = some (.int .i64 0) := hV2.cell 0; have v1 : w2.cell? ⟨w.heap.size, 1, none⟩ = some (.string ⟨#[]⟩) := hV2.cell 1; have v2 : w2.cell? ⟨w.heap.size, 2, none⟩ = some (.slice none 0 0) := hV2.cell 2; have v3 : w2.cell? ⟨w.heap.size, 3, none⟩ = some (.slice none 0 0) := hV2.cell 3; have g0 := hV2.free 0; have g1 := hV2.free 1; have g2 := hV2.free 2; have g3 := hV2.free 3))
    have hc := store_world (y := 0) (a := 0) (.int .i64 t.kind) (.string (str t.text)) (.slice aa na ca) (.slice ab nb cb) hV2 hF2 (by omega) (by omega)
    generalize ((((((w2.setCell ⟨w.heap.size, 0, none⟩ (.int .i64 t.kind)).setCell ⟨w.heap.size, 1, none⟩ (.string (str t.text))).setCell ⟨w.heap.size, 2, none⟩ (.slice aa na ca)).setCell ⟨w.heap.size, 3, none⟩ (.slice ab nb cb)).setCell ⟨w.heap.size + 1, 0, none⟩ (.int .i64 0)).setCell ⟨w.heap.size + 1, 1, none⟩ (.int .i64 0)) = W4 at hc ⊢
    obtain ⟨hV4, hF4, hs4, ho4, ht4, hp4, hO4⟩ := hc
    have hbw := hB0.trans (hb1.mono (Nat.le_trans (Nat.le_add_right _ 2) hs0))
    simp at hs2
    refine bodyPost_ret (results_vf rfl rfl rfl hV4 hF4) rfl ⟨⟨ho4.trans (hK2.os.trans hbw.os), ht4.trans (hK2.tape.trans hbw.tape), hp4.trans (hK2.output.trans hbw.output), by have := hbw.size; omega, fun k hk => ?_⟩, _, rfl, RV.keep (by omega) (fun k hk hl => ?_) hr2⟩
    · rw [hO4 k (by omega) (by omega), hK2.block k (by simp; omega) (by omega), Lib.alloc_old w1 _ k (by omega)]
      exact hbw.block k hk
    · simp at hk
      exact ⟨by omega, hO4 k (by omega) (by omega)⟩
end Go.Proofs.YtpnmiknikkhliaaDoor
