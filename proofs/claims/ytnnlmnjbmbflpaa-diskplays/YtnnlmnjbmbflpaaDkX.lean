/- The contract of the document's New. -/
import Derived.Test.YtnnlmnjbmbflpaaDkW
set_option linter.unusedVariables false
set_option linter.unusedSimpArgs false
namespace Go.Proofs.Ytnnlmnjbmbflpaa
open Go.RowKit
abbrev rX0 : Array Value := #[nilS, nilS, .int .i64 0, nilS, nilS, .int .i64 0, .int .i64 0, .int .i64 0, .bool false, .int .i64 0, .bool false]
abbrev rX1 (room : Int) : Array Value := #[nilS, nilS, .int .i64 (-1), nilS, nilS, .int .i64 (-1), .int .i64 0, .int .i64 room, .bool false, .int .i64 (-1), .bool false]
theorem sizeR : (Try.prog.info? 32).map (·.size) = some 11 := by kernel_rfl
theorem results_two {fn : Func} {p q : Tmp} {ty : TypeId} (h : fn.results = #[.cell p ty, .tmp q]) (tmps : Array Value) (P : Program) (w : World) (a : Addr) (x : Value) (hp : tmps.getD p undef = .pointer (some a)) (hl : (loadVar ty a).run P w = .ok x w) :
    (results fn tmps).run P w = .ok (.tuple #[x, tmps.getD q undef]) w := by
  have hp2 : tmps[p]?.getD undef = .pointer (some a) := by rw [← hp]; simp
  simp only [results, h]
  simp [Sem.run_bind, Result.andThen, asAddr, hp2, hl]
/-- The block of a disk that New gave. -/
theorem RAt.new {W : World} {P : Nat → Prop} {rb : Nat} {room : Int} (h : W.heap[rb]? = some (.cells (rX1 room) 32 (0, 0))) (h1 : 1 ≤ room) (h2 : room ≤ 1048576) : RAt W P rb (Dk.new room) (-1) nilS nilS nilS nilS :=
  ⟨h, ⟨RB.nil _, fun k e => by cases e⟩, ⟨RB.nil _, fun k e => by cases e⟩, ⟨RB.nil _, fun k e => by cases e⟩, ⟨RB.nil _, fun k e => by cases e⟩, Dk.new_fine h1 h2, fun _ => rfl, ⟨by decide, by decide⟩⟩
theorem load_R {w : World} {b : Nat} {X : Array Value} (h : w.heap[b]? = some (.cells X 32 (0, 0))) (hX : X.size = 11) : (loadVar 32 ⟨b, 0, none⟩).run Try.prog w = .ok (.agg X) w :=
  run_loadVar_row _ _ _ _ _ _ _ h Try.underlying32 rfl (by rw [hX]; exact sizeR)
set_option maxHeartbeats 4000000 in
set_option maxRecDepth 100000 in
theorem RNew_no (room : Int) (h : room < 1 ∨ 1048576 < room) (w : World) :
    Calls Try.prog 10 #[.int .i64 room] w fun e w' => e = .returned (.tuple #[.agg rX0, .int .i64 1]) ∧ Below w.heap.size w w' := by
  by_cases h1 : room < 1
  · clear h
    go_enter Try.func10, Try.ntmps10
    go_wp2
    refine bodyPost_ret (results_two rfl _ _ _ _ (.agg rX0) rfl (load_R (heap_new _ _) rfl)) rfl ⟨rfl, ?_⟩
    exact (Below.refl _ w).alloc (Nat.le_refl _) _
  · have h2 : 1048576 < room := by omega
    clear h
    go_enter Try.func10, Try.ntmps10
    go_wp2
    refine bodyPost_ret (results_two rfl _ _ _ _ (.agg rX0) rfl (load_R (heap_new _ _) rfl)) rfl ⟨rfl, ?_⟩
    exact (Below.refl _ w).alloc (Nat.le_refl _) _
set_option maxHeartbeats 4000000 in
set_option maxRecDepth 100000 in
theorem RNew_yes (room : Int) (h1 : 1 ≤ room) (h2 : room ≤ 1048576) (w : World) :
    Calls Try.prog 10 #[.int .i64 room] w fun e w' => e = .returned (.tuple #[.agg (rX1 room), .int .i64 0]) ∧ Below w.heap.size w w' := by
  have h3 : ¬ room < 1 := by omega
  have h4 : ¬ 1048576 < room := by omega
  go_enter Try.func10, Try.ntmps10
  go_wp2
  refine bodyPost_ret (results_two rfl _ _ _ _ (.agg (rX1 room)) rfl (load_R (heap_new _ _) rfl)) rfl ⟨rfl, ?_⟩
  exact (Below.refl _ w).alloc (Nat.le_refl _) _
end Go.Proofs.Ytnnlmnjbmbflpaa
