/- The walk of UrlBack: whatever text comes in, the law answers true. -/
import Derived.Test.YtlkhjloeonbjaaaGreatDoorKUrlB
namespace Go.Proofs.YtlkhjloeonbjaaaGreatDoor.urlBack
open Go.RowKit
theorem good_fits {u : Url.U} (g : Url.Good u) : Fits u := by
  have hl := g.len
  rw [Url.str_parts] at hl
  have hq : u.query.length ≤ 2048 := by
    cases h : u.hq
    · rw [g.noq h]; simp
    · have e : Url.queryP u = 63 :: u.query := by unfold Url.queryP; rw [h]; rfl
      rw [e] at hl
      simp only [List.length_append, List.length_cons] at hl
      omega
  have hf : u.frag.length ≤ 2048 := by
    cases h : u.hf
    · rw [g.nof h]; simp
    · have e : Url.fragP u = 35 :: u.frag := by unfold Url.fragP; rw [h]; rfl
      rw [e] at hl
      simp only [List.length_append, List.length_cons] at hl
      omega
  simp only [List.length_append, List.length_cons] at hl
  have hp := g.port
  exact ⟨by omega, by omega, by omega, by omega, by omega, by omega, by omega⟩
set_option maxHeartbeats 4000000 in
set_option maxRecDepth 100000 in
theorem walk_str (l : List UInt8) (w : World) (hE : Env w) :
    Calls Tryz.prog 6 #[.string (str l)] w fun e w' => e = .returned (.bool true) ∧ Below w.heap.size w w' := by
  by_cases hl : 2200 < l.length
  · have hq := longU_yes hl
    go_enter Tryz.func6, Tryz.ntmps6
    go_wp2_with (first
      | (go_at_call 9; refine (long_any l _).mono ?_; rintro e w1 ⟨rfl, hw1⟩; rw [hw1, hq]; clear hw1)
      | (go_at_call 10; refine (alive_any _ hE).mono ?_; rintro e w2 ⟨rfl, hb2⟩))
    go_ret
    exact ⟨rfl, hb2⟩
  · have hq := longU_no hl
    have hzu := (zero_of_info zeroURL).1
    have hgd := guardU
    have par1 : ∀ W : World, Env W → Calls Tryz.prog 11 #[.string (str l)] W fun e w' => e = .returned (.tuple #[uVal (Url.parse l), .int .i64 (Url.perr l)]) ∧ Below W.heap.size W w' := fun W h => Parse_any l W h (by omega)
    by_cases hp : Url.perr l = 0
    · have g := Url.parse_good hp
      rw [hp] at par1
      clear hp
      generalize Url.parse l = u at par1 g
      have hfit := good_fits g
      have hlen := g.len
      have gb := Url.good_bare g
      obtain ⟨gp1, gp2⟩ := Url.good_parse g
      have hm1 := Url.good_may g
      have hm2 := Url.good_may gb
      have strc : ∀ W : World, Env W → Calls Tryz.prog 22 #[uVal u] W fun e w' => e = .returned (.string (str (Url.str u))) ∧ Below W.heap.size W w' := fun W h => String_any u W h hfit
      have par2 : ∀ W : World, Env W → Calls Tryz.prog 11 #[.string (str (Url.str u))] W fun e w' => e = .returned (.tuple #[uVal u, .int .i64 0]) ∧ Below W.heap.size W w' := fun W h => by
        have := Parse_any (Url.str u) W h (by omega)
        rw [gp1, gp2] at this
        exact this
      have may1 : ∀ W : World, Env W → Calls Tryz.prog 23 #[uVal u] W fun e w' => e = .returned (.bool true) ∧ Below W.heap.size W w' := fun W h => by
        have := May_any u W h hfit (by omega)
        rw [hm1] at this
        exact this
      have barec : ∀ W : World, Calls Tryz.prog 24 #[uVal u] W fun e w' => e = .returned (uVal (Url.bare u)) ∧ Below W.heap.size W w' := fun W => Bare_any u W
      have may2 : ∀ W : World, Env W → Calls Tryz.prog 23 #[uVal (Url.bare u)] W fun e w' => e = .returned (.bool true) ∧ Below W.heap.size W w' := fun W h => by
        have := May_any (Url.bare u) W h (good_fits gb) (by have := gb.len; omega)
        rw [hm2] at this
        exact this
      have heq : ∀ W : World, (binOp .eql 25 (.agg (uCells u)) (.agg (uCells u))).run Tryz.prog W = .ok (.bool true) W := fun W => by
        have := eql_U u u W
        rw [Url.same_self] at this
        exact this
      clear g gb gp1 gp2 hm1 hm2 hfit
      have hs2 := str_size (Url.str u)
      generalize Url.str u = t at strc par2 hlen hs2
      generalize Url.bare u = v at barec may2
      have hle : (t.length : Int) ≤ 2048 := by omega
      unfold uVal uCells at hzu
      unfold uVal uCells at par1 par2 strc may1 barec may2
      unfold uCells at heq
      go_enter Tryz.func6, Tryz.ntmps6
      go_upto_region 6 with (first
        | (go_at_call 9; refine (long_any l _).mono ?_; rintro e w1 ⟨rfl, hw1⟩; rw [hw1, hq]; clear hw1)
        | (go_at_call 11; refine (par1 _ hE).mono ?_; rintro e w3 ⟨rfl, hb3⟩))
      have hU4 : UAt (w3.alloc (.cells (uCells u) 25)) w3.heap.size u := heap_alloc_last _ _
      have hb4 := hb3.alloc hb3.size (.cells (uCells u) 25)
      have hE4 := hE.below hb4
      unfold uCells at hU4 hb4 hE4
      generalize w3.alloc (.cells #[.string (str u.sch), .string (str u.host), .int .i64 u.port, .string (str u.path), .string (str u.query), .string (str u.frag), .bool u.hq, .bool u.hf] 25) = w4 at hU4 hb4 hE4 ⊢
      clear hb3
      generalize w3.heap.size = b at hU4 ⊢
      obtain ⟨c0, c1, c2, c3, c4, c5, c6, c7⟩ := hU4.cells
      go_upto_region 8 with (first
        | (go_at_call 22; refine (strc _ hE4).mono ?_; rintro e w5 ⟨rfl, hb5⟩)
        | (go_at_call 11; refine (par2 _ (hE4.below hb5)).mono ?_; rintro e w6 ⟨rfl, hb6⟩))
      clear c0 c1 c2 c3 c4 c5 c6 c7
      have hU6 := UAt.below hU4 (bel hb5 hb6)
      have hb6' := bel hb4 (bel hb5 hb6)
      have hU7 : UAt (w6.alloc (.cells (uCells u) 25)) w6.heap.size u := heap_alloc_last _ _
      have hb67 : Below w6.heap.size w6 (w6.alloc (.cells (uCells u) 25)) := (Below.refl _ w6).alloc (Nat.le_refl _) _
      have hb7 := bel hb6' hb67
      have hE7 := hE.below hb7
      have hU67 := UAt.below hU6 hb67
      unfold uCells at hU7 hb7 hE7 hU67
      generalize w6.alloc (.cells #[.string (str u.sch), .string (str u.host), .int .i64 u.port, .string (str u.path), .string (str u.query), .string (str u.frag), .bool u.hq, .bool u.hf] 25) = w7 at hU7 hb7 hE7 hU67 ⊢
      clear hb67 hb6 hb6' hb5 hb4 hU4 hU6 hE4
      generalize w6.heap.size = b2 at hU7 ⊢
      obtain ⟨c0, c1, c2, c3, c4, c5, c6, c7⟩ := hU67.cells
      go_wp2_with fail
      go_at_call 23
      refine (may1 _ hE7).mono ?_
      rintro e w8 ⟨rfl, hb8⟩
      clear c0 c1 c2 c3 c4 c5 c6 c7
      have hU8 := UAt.below hU67 hb8
      have hV8 := UAt.below hU7 hb8
      have hE8 := hE7.below hb8
      replace hb8 := bel hb7 hb8
      clear hU67 hU7 hE7 hb7
      obtain ⟨c0, c1, c2, c3, c4, c5, c6, c7⟩ := hU8.cells
      obtain ⟨d0, d1, d2, d3, d4, d5, d6, d7⟩ := hV8.cells
      go_wp2_with fail
      go_at_call 22
      refine (strc _ hE8).mono ?_
      rintro e w9 ⟨rfl, hb9⟩
      clear c0 c1 c2 c3 c4 c5 c6 c7 d0 d1 d2 d3 d4 d5 d6 d7
      have hU9 := UAt.below hU8 hb9
      have hE9 := hE8.below hb9
      replace hb9 := bel hb8 hb9
      clear hU8 hV8 hE8 hb8
      obtain ⟨c0, c1, c2, c3, c4, c5, c6, c7⟩ := hU9.cells
      go_wp2_with fail
      go_at_call 24
      refine (barec _).mono ?_
      rintro e w10 ⟨rfl, hb10⟩
      clear c0 c1 c2 c3 c4 c5 c6 c7
      have hE10 := hE9.below hb10
      replace hb10 := bel hb9 hb10
      clear hU9 hE9 hb9
      go_wp2_with fail
      go_at_call 23
      refine (may2 _ hE10).mono ?_
      rintro e w11 ⟨rfl, hb11⟩
      have hE11 := hE10.below hb11
      replace hb11 := bel hb10 hb11
      go_wp2_with (go_at_call 10; refine (alive_any _ hE11).mono ?_; rintro e w12 ⟨rfl, hb12⟩)
      go_ret
      exact ⟨rfl, bel hb11 hb12⟩
    · have hz : Url.parse l = Url.zero := parse_err hp
      have hp2 : (Url.perr l != 0) = true := by rw [bne_iff_ne]; exact hp
      rw [hz] at par1
      clear hz hp
      generalize Url.perr l = pe at par1 hp2
      have heq : ∀ W : World, (binOp .eql 25 (.agg (uCells Url.zero)) (.agg (uCells Url.zero))).run Tryz.prog W = .ok (.bool true) W := fun W => by
        have := eql_U Url.zero Url.zero W
        rw [Url.same_self] at this
        exact this
      unfold uVal uCells at hzu
      unfold uVal uCells at par1
      unfold uCells at heq
      go_enter Tryz.func6, Tryz.ntmps6
      go_wp2_with (first
        | (go_at_call 9; refine (long_any l _).mono ?_; rintro e w1 ⟨rfl, hw1⟩; rw [hw1, hq]; clear hw1)
        | (go_at_call 11; refine (par1 _ hE).mono ?_; rintro e w3 ⟨rfl, hb3⟩; have hb4 := hb3.alloc hb3.size (.cells (uCells Url.zero) 25); unfold uCells at hb4; have hE4 := hE.below hb4)
        | (go_at_call 10; refine (alive_any _ hE4).mono ?_; rintro e w5 ⟨rfl, hb5⟩))
      go_ret
      exact ⟨rfl, bel hb4 hb5⟩
theorem walk (a0 : ByteArray) (w : World) (_h0 : a0.size ≤ maxLen) (hE : Env w) :
    Calls Tryz.prog 6 #[.string a0] w fun e w' => e = .returned (.bool true) ∧ Below w.heap.size w w' := by
  have := walk_str a0.data.toList w hE
  rw [str_self] at this
  exact this
end Go.Proofs.YtlkhjloeonbjaaaGreatDoor.urlBack
