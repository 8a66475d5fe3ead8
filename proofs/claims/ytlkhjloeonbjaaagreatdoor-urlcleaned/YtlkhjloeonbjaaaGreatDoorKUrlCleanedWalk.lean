/- The walk of UrlCleaned: whatever text comes in, the law answers true. -/
import Derived.Test.YtlkhjloeonbjaaaGreatDoorKUrlB
namespace Go.Proofs.YtlkhjloeonbjaaaGreatDoor.urlCleaned
open Go.RowKit
theorem parse_clean (l : List UInt8) : Url.perr (Url.clean l) = Url.perr l ∧ Url.parse (Url.clean l) = Url.parse l := by
  have h := Url.clean_clean l
  have e : Url.perr (Url.clean l) = Url.perr l := by
    unfold Url.perr
    rw [h]
  refine ⟨e, ?_⟩
  unfold Url.parse
  rw [e, h]
set_option maxHeartbeats 2000000 in
set_option maxRecDepth 100000 in
theorem walk_str (l : List UInt8) (w : World) (hE : Env w) :
    Calls Tryz.prog 8 #[.string (str l)] w fun e w' => e = .returned (.bool true) ∧ Below w.heap.size w w' := by
  by_cases hl : 2200 < l.length
  · have hq := longU_yes hl
    go_enter Tryz.func8, Tryz.ntmps8
    go_wp2_with (first
      | (go_at_call 9; refine (long_any l _).mono ?_; rintro e w1 ⟨rfl, hw1⟩; rw [hw1, hq]; clear hw1)
      | (go_at_call 10; refine (alive_any _ hE).mono ?_; rintro e w2 ⟨rfl, hb2⟩))
    go_ret
    exact ⟨rfl, hb2⟩
  · have hq := longU_no hl
    have hzu := (zero_of_info zeroURL).1
    have hgd := guardU
    have hcl := Url.clean_len l
    have hs1 := str_size l
    have hs2 := str_size (Url.clean l)
    have pc := parse_clean l
    have cc := Url.clean_clean l
    have par1 : ∀ W : World, Env W → Calls Tryz.prog 11 #[.string (str l)] W fun e w' => e = .returned (.tuple #[uVal (Url.parse l), .int .i64 (Url.perr l)]) ∧ Below W.heap.size W w' := fun W h => Parse_any l W h (by omega)
    have par2 : ∀ W : World, Env W → Calls Tryz.prog 11 #[.string (str (Url.clean l))] W fun e w' => e = .returned (.tuple #[uVal (Url.parse l), .int .i64 (Url.perr l)]) ∧ Below W.heap.size W w' := fun W h => by
      have := Parse_any (Url.clean l) W h (by omega)
      rw [pc.1, pc.2] at this
      exact this
    have cl1 : ∀ W : World, Env W → Calls Tryz.prog 17 #[.string (str l)] W fun e w' => e = .returned (.string (str (Url.clean l))) ∧ Below W.heap.size W w' := fun W h => Clean_any l W h (by omega)
    have cl2 : ∀ W : World, Env W → Calls Tryz.prog 17 #[.string (str (Url.clean l))] W fun e w' => e = .returned (.string (str (Url.clean l))) ∧ Below W.heap.size W w' := fun W h => by
      have := Clean_any (Url.clean l) W h (by omega)
      rw [cc] at this
      exact this
    clear pc cc
    generalize Url.clean l = c at hcl hs2 par2 cl1 cl2
    generalize Url.parse l = u at par1 par2
    generalize Url.perr l = pe at par1 par2
    have heq : ∀ W : World, (binOp .eql 25 (.agg (uCells u)) (.agg (uCells u))).run Tryz.prog W = .ok (.bool true) W := fun W => by
      have := eql_U u u W
      rw [Url.same_self] at this
      exact this
    have hle : (c.length : Int) ≤ (l.length : Int) := by omega
    unfold uVal uCells at hzu
    unfold uVal uCells at par1 par2
    unfold uCells at heq
    go_enter Tryz.func8, Tryz.ntmps8
    go_upto_region 5 with (first
      | (go_at_call 9; refine (long_any l _).mono ?_; rintro e w1 ⟨rfl, hw1⟩; rw [hw1, hq]; clear hw1)
      | (go_at_call 17; refine (cl1 _ hE).mono ?_; rintro e w2 ⟨rfl, hb2⟩)
      | (go_at_call 11; refine (par1 _ (hE.below hb2)).mono ?_; rintro e w3 ⟨rfl, hb3⟩))
    have hb3' := bel hb2 hb3
    have hU4 : UAt (w3.alloc (.cells (uCells u) 25)) w3.heap.size u := heap_alloc_last _ _
    have hb4 := hb3'.alloc hb3'.size (.cells (uCells u) 25)
    have hE4 := hE.below hb4
    unfold uCells at hU4 hb4 hE4
    generalize w3.alloc (.cells #[.string (str u.sch), .string (str u.host), .int .i64 u.port, .string (str u.path), .string (str u.query), .string (str u.frag), .bool u.hq, .bool u.hf] 25) = w4 at hU4 hb4 hE4 ⊢
    clear hb2 hb3 hb3'
    generalize w3.heap.size = b at hU4 ⊢
    go_upto_region 6 with (first
      | (go_at_call 11; refine (par2 _ hE4).mono ?_; rintro e w5 ⟨rfl, hb5⟩))
    have hU5 := UAt.below hU4 hb5
    have hb5' := bel hb4 hb5
    have hU6 : UAt (w5.alloc (.cells (uCells u) 25)) w5.heap.size u := heap_alloc_last _ _
    have hb56 : Below w5.heap.size w5 (w5.alloc (.cells (uCells u) 25)) := (Below.refl _ w5).alloc (Nat.le_refl _) _
    have hb6 := bel hb5' hb56
    have hE6 := hE.below hb6
    have hU56 := UAt.below hU5 hb56
    unfold uCells at hU6 hb6 hE6 hU56
    generalize w5.alloc (.cells #[.string (str u.sch), .string (str u.host), .int .i64 u.port, .string (str u.path), .string (str u.query), .string (str u.frag), .bool u.hq, .bool u.hf] 25) = w6 at hU6 hb6 hE6 hU56 ⊢
    clear hb56 hb5 hb5' hb4 hU4 hU5 hE4
    generalize w5.heap.size = b2 at hU6 ⊢
    go_wp2_with (first
      | (go_at_call 17; refine (cl2 _ hE6).mono ?_; rintro e w7 ⟨rfl, hb7⟩; obtain ⟨c0, c1, c2, c3, c4, c5, c6, c7⟩ := UAt.cells (UAt.below hU56 hb7); obtain ⟨d0, d1, d2, d3, d4, d5, d6, d7⟩ := UAt.cells (UAt.below hU6 hb7); have hE7 := hE6.below hb7; have hb7' := bel hb6 hb7)
      | (go_at_call 10; refine (alive_any _ hE7).mono ?_; rintro e w8 ⟨rfl, hb8⟩))
    go_ret
    exact ⟨rfl, bel hb7' hb8⟩
theorem walk (a0 : ByteArray) (w : World) (_h0 : a0.size ≤ maxLen) (hE : Env w) :
    Calls Tryz.prog 8 #[.string a0] w fun e w' => e = .returned (.bool true) ∧ Below w.heap.size w w' := by
  have := walk_str a0.data.toList w hE
  rw [str_self] at this
  exact this
end Go.Proofs.YtlkhjloeonbjaaaGreatDoor.urlCleaned
