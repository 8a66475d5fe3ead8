/- The walk of UrlParses: whatever text comes in, the law answers true. -/
import Derived.Test.YtnmkhbelmdokmaaGreatDoorKRefD
import Derived.Test.YtnmkhbelmdokmaaGreatDoorKUrlB
namespace Go.Proofs.YtnmkhbelmdokmaaGreatDoor.urlParses
open Go.RowKit
set_option maxHeartbeats 4000000 in
set_option maxRecDepth 100000 in
theorem walk_str (l : List UInt8) (w : World) (hE : Env w) :
    Calls Tryz.prog 3 #[.string (str l)] w fun e w' => e = .returned (.bool true) ∧ Below w.heap.size w w' := by
  by_cases hl : 2200 < l.length
  · have hq := longU_yes hl
    go_enter Tryz.func3, Tryz.ntmps3
    go_wp2_with (first
      | (go_at_call 9; refine (long_any l _).mono ?_; rintro e w1 ⟨rfl, hw1⟩; rw [hw1, hq]; clear hw1)
      | (go_at_call 10; refine (alive_any _ hE).mono ?_; rintro e w2 ⟨rfl, hb2⟩))
    go_ret
    exact ⟨rfl, hb2⟩
  · have hq := longU_no hl
    have hzu := (zero_of_info zeroURL).1
    have hgd := guardU
    have par1 : ∀ W : World, Env W → Calls Tryz.prog 11 #[.string (str l)] W fun e w' => e = .returned (.tuple #[uVal (Url.parse l), .int .i64 (Url.perr l)]) ∧ Below W.heap.size W w' := fun W h => Parse_any l W h (by omega)
    have par2 : ∀ W : World, Calls Tryz.prog 12 #[.string (str l)] W fun e w' => e = .returned (.tuple #[uVal (Url.parse l), .int .i64 (Url.perr l)]) ∧ Below W.heap.size W w' := fun W => RParse_any l W (by omega)
    generalize Url.parse l = u at par1 par2
    generalize Url.perr l = pe at par1 par2
    have heq : ∀ W : World, (binOp .eql 25 (.agg (uCells u)) (.agg (uCells u))).run Tryz.prog W = .ok (.bool true) W := fun W => by
      have := eql_U u u W
      rw [Url.same_self] at this
      exact this
    unfold uVal uCells at hzu
    unfold uVal uCells at par1 par2
    unfold uCells at heq
    go_enter Tryz.func3, Tryz.ntmps3
    go_wp2_with (first
      | (go_at_call 9; refine (long_any l _).mono ?_; rintro e w1 ⟨rfl, hw1⟩; rw [hw1, hq]; clear hw1)
      | (go_at_call 11; refine (par1 _ hE).mono ?_; rintro e w3 ⟨rfl, hb3⟩; have hb4 := hb3.alloc hb3.size (.cells (uCells u) 25); have hU4 : UAt (w3.alloc (.cells (uCells u) 25)) w3.heap.size u := heap_alloc_last _ _; unfold uCells at hb4 hU4)
      | fail)
    have hE4 := hE.below hb4
    clear hb3
    generalize w3.alloc (.cells #[.string (str u.sch), .string (str u.host), .int .i64 u.port, .string (str u.path), .string (str u.query), .string (str u.frag), .bool u.hq, .bool u.hf] 25) = w4 at hU4 hb4 hE4 ⊢
    generalize w3.heap.size = b at hU4 ⊢
    go_at_call 12
    refine (par2 _).mono ?_
    rintro e w5 ⟨rfl, hb5⟩
    have hU5 := UAt.below hU4 hb5
    have hb5' := bel hb4 hb5
    have hb56 : Below w5.heap.size w5 (w5.alloc (.cells (uCells u) 25)) := (Below.refl _ w5).alloc (Nat.le_refl _) _
    have hU6 := UAt.below hU5 hb56
    have hV6 : UAt (w5.alloc (.cells (uCells u) 25)) w5.heap.size u := heap_alloc_last _ _
    have hb6 := bel hb5' hb56
    have hE6 := hE.below hb6
    unfold uCells at hU6 hV6 hb6 hE6
    clear hU4 hb4 hE4 hU5 hb5 hb5' hb56
    go_upto_region 5 with fail
    generalize w5.alloc (.cells #[.string (str u.sch), .string (str u.host), .int .i64 u.port, .string (str u.path), .string (str u.query), .string (str u.frag), .bool u.hq, .bool u.hf] 25) = w6 at hU6 hV6 hb6 hE6 ⊢
    generalize w5.heap.size = b2 at hV6 ⊢
    obtain ⟨c0, c1, c2, c3, c4, c5, c6, c7⟩ := hU6.cells
    obtain ⟨d0, d1, d2, d3, d4, d5, d6, d7⟩ := hV6.cells
    go_wp2_with (go_at_call 10; refine (alive_any _ hE6).mono ?_; rintro e w7 ⟨rfl, hb7⟩)
    go_ret
    exact ⟨rfl, bel hb6 hb7⟩
theorem walk (a0 : ByteArray) (w : World) (_h0 : a0.size ≤ maxLen) (hE : Env w) :
    Calls Tryz.prog 3 #[.string a0] w fun e w' => e = .returned (.bool true) ∧ Below w.heap.size w w' := by
  have := walk_str a0.data.toList w hE
  rw [str_self] at this
  exact this
end Go.Proofs.YtnmkhbelmdokmaaGreatDoor.urlParses
