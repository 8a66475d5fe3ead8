/- The walk of UrlParts: whatever text comes in, the law answers true. -/
import Derived.Test.YtlkhjloeonbjaaaGreatDoorKRefC
import Derived.Test.YtlkhjloeonbjaaaGreatDoorKUrlB
import Derived.Deep.RegionWith
namespace Go.Proofs.YtlkhjloeonbjaaaGreatDoor.urlParts
open Go.RowKit
def seven : Url.U := ⟨Url.http, [104], 7, [], [113], [102], false, false⟩
theorem neq_U (u : Url.U) (w : World) : (binOp .neq 25 (.agg (uCells u)) (.agg (uCells u))).run Tryz.prog w = .ok (.bool false) w := by
  have h := eql_U u u w
  rw [Url.same_self, run_eql_struct] at h
  rw [run_neq_struct]
  revert h
  cases (Op.equalIn 10000 25 (.agg (uCells u)) (.agg (uCells u))).run Tryz.prog w with
  | ok r w' => 
    intro h
    simp only [Result.andThen] at h ⊢
    cases h
    rfl
  | _ => intro h; cases h
set_option maxHeartbeats 2000000 in
set_option maxRecDepth 100000 in
theorem walk_str (l : List UInt8) (w : World) (hE : Env w) :
    Calls Tryz.prog 4 #[.string (str l)] w fun e w' => e = .returned (.bool true) ∧ Below w.heap.size w w' := by
  by_cases hl : 2200 < l.length
  · have hq := longU_yes hl
    go_enter Tryz.func4, Tryz.ntmps4
    go_wp2_with (first
      | (go_at_call 9; refine (long_any l _).mono ?_; rintro e w1 ⟨rfl, hw1⟩; rw [hw1, hq]; clear hw1)
      | (go_at_call 10; refine (alive_any _ hE).mono ?_; rintro e w2 ⟨rfl, hb2⟩))
    go_ret
    exact ⟨rfl, hb2⟩
  · have hq := longU_no hl
    have hzu := (zero_of_info zeroURL).1
    have hgd := guardU
    have t1 : ∀ W : World, Env W → Calls Tryz.prog 13 #[uVal seven, .string (str l)] W fun e w' => e = .returned (uVal (Url.tail seven l)) ∧ Below W.heap.size W w' := fun W h => Tail_any seven l W h (by omega)
    have t2 : ∀ W : World, Calls Tryz.prog 14 #[uVal seven, .string (str l)] W fun e w' => e = .returned (uVal (Url.tail seven l)) ∧ Below W.heap.size W w' := fun W => RTail_any seven l W (by omega)
    have h1 : ∀ W : World, Env W → Calls Tryz.prog 15 #[.string (str l)] W fun e w' => e = .returned (.tuple #[.string (str (Url.host l)), .int .i64 (Url.hostE l)]) ∧ Below W.heap.size W w' := fun W h => Host_any l W h (by omega)
    have h2 : ∀ W : World, Calls Tryz.prog 16 #[.string (str l)] W fun e w' => e = .returned (.tuple #[.string (str (Url.host l)), .int .i64 (Url.hostE l)]) ∧ Below W.heap.size W w' := fun W => RHost_any l W (by omega)
    have cl1 : ∀ W : World, Env W → Calls Tryz.prog 17 #[.string (str l)] W fun e w' => e = .returned (.string (str (Url.clean l))) ∧ Below W.heap.size W w' := fun W h => Clean_any l W h (by omega)
    have cl2 : ∀ W : World, Calls Tryz.prog 18 #[.string (str l)] W fun e w' => e = .returned (.string (str (Url.clean l))) ∧ Below W.heap.size W w' := fun W => RClean_any l W (by omega)
    have p1 : ∀ W : World, Env W → Calls Tryz.prog 19 #[.string (str l)] W fun e w' => e = .returned (.string (str (Url.path l))) ∧ Below W.heap.size W w' := fun W h => Path_any l W h (by omega)
    have p2 : ∀ W : World, Calls Tryz.prog 20 #[.string (str l)] W fun e w' => e = .returned (.string (str (Url.path l))) ∧ Below W.heap.size W w' := fun W => RPath_any l W (by omega)
    generalize Url.tail seven l = v at t1 t2
    generalize Url.host l = h at h1 h2
    generalize Url.hostE l = he at h1 h2
    generalize Url.clean l = c at cl1 cl2
    generalize Url.path l = p at p1 p2
    have hne : ∀ W : World, (binOp .neq 25 (.agg (uCells v)) (.agg (uCells v))).run Tryz.prog W = .ok (.bool false) W := neq_U v
    unfold uVal uCells at hzu
    unfold uVal uCells at t1 t2
    unfold uCells at hne
    go_enter Tryz.func4, Tryz.ntmps4
    go_wp2_with (first
      | (go_at_call 9; refine (long_any l _).mono ?_; rintro e w1 ⟨rfl, hw1⟩; rw [hw1, hq]; clear hw1)
      | fail)
    have hU0 : UAt (w.alloc (.cells #[.string ⟨#[104, 116, 116, 112]⟩, .string ⟨#[104]⟩, .int .i64 7, .string (str Url.zero.path), .string ⟨#[113]⟩, .string ⟨#[102]⟩, .bool Url.zero.hq, .bool Url.zero.hf] 25)) w.heap.size seven := heap_alloc_last _ _
    have hb0 : Below w.heap.size w (w.alloc (.cells #[.string ⟨#[104, 116, 116, 112]⟩, .string ⟨#[104]⟩, .int .i64 7, .string (str Url.zero.path), .string ⟨#[113]⟩, .string ⟨#[102]⟩, .bool Url.zero.hq, .bool Url.zero.hf] 25)) := (Below.refl _ w).alloc (Nat.le_refl _) _
    generalize w.alloc (.cells #[.string ⟨#[104, 116, 116, 112]⟩, .string ⟨#[104]⟩, .int .i64 7, .string (str Url.zero.path), .string ⟨#[113]⟩, .string ⟨#[102]⟩, .bool Url.zero.hq, .bool Url.zero.hf] 25) = w1 at hU0 hb0 ⊢
    have hbd : Below w1.heap.size w1 w1.drew := (Below.refl _ w1).drew
    have hUd := hU0.below hbd
    have hEd := hE.below (bel hb0 hbd)
    obtain ⟨c0, c1, c2, c3, c4, c5, c6, c7⟩ := hUd.cells
    go_region_with (first
      | (go_at_call 13; refine (t1 _ hEd).mono ?_; rintro e w2 ⟨rfl, hb2⟩; have hU2 := UAt.below hUd hb2; obtain ⟨d0, d1, d2, d3, d4, d5, d6, d7⟩ := hU2.cells)
      | (go_at_call 14; refine (t2 _).mono ?_; rintro e w3 ⟨rfl, hb3⟩))
    all_goals
      have hE3 := hEd.below (bel hb2 hb3)
      have hb3' := bel (bel (bel hb0 hbd) hb2) hb3
      clear d0 d1 d2 d3 d4 d5 d6 d7 c0 c1 c2 c3 c4 c5 c6 c7 hU2 hUd hU0 hbd hb0 hb2 hb3 hEd t1 t2
      go_wp2_with (first
        | (go_at_call 15; refine (h1 _ hE3).mono ?_; rintro e w4 ⟨rfl, hb4⟩; have hE4 := hE3.below hb4)
        | (go_at_call 16; refine (h2 _).mono ?_; rintro e w5 ⟨rfl, hb5⟩; have hE5 := hE4.below hb5)
        | (go_at_call 17; refine (cl1 _ hE5).mono ?_; rintro e w6 ⟨rfl, hb6⟩; have hE6 := hE5.below hb6)
        | (go_at_call 18; refine (cl2 _).mono ?_; rintro e w7 ⟨rfl, hb7⟩; have hE7 := hE6.below hb7)
        | (go_at_call 19; refine (p1 _ hE7).mono ?_; rintro e w8 ⟨rfl, hb8⟩; have hE8 := hE7.below hb8)
        | (go_at_call 20; refine (p2 _).mono ?_; rintro e w9 ⟨rfl, hb9⟩; have hE9 := hE8.below hb9)
        | (go_at_call 10; refine (alive_any _ hE9).mono ?_; rintro e w10 ⟨rfl, hb10⟩))
      go_ret
      exact ⟨rfl, bel (bel (bel (bel (bel (bel (bel hb3' hb4) hb5) hb6) hb7) hb8) hb9) hb10⟩
theorem walk (a0 : ByteArray) (w : World) (_h0 : a0.size ≤ maxLen) (hE : Env w) :
    Calls Tryz.prog 4 #[.string a0] w fun e w' => e = .returned (.bool true) ∧ Below w.heap.size w w' := by
  have := walk_str a0.data.toList w hE
  rw [str_self] at this
  exact this
end Go.Proofs.YtlkhjloeonbjaaaGreatDoor.urlParts
