/- The walk of UrlSigns: whatever text comes in, the law answers true. -/
import Derived.Test.YtlkhjloeonbjaabGreatDoorKUrlB
namespace Go.Proofs.YtlkhjloeonbjaabGreatDoor.urlSigns
open Go.RowKit
theorem good_fits {u : Url.U} (g : Url.Good u) : Fits u := by
  have hl := g.len
  rw [Url.str_parts] at hl
  have hq : u.query.length ≤ 2048 := by
    cases h : u.hq
    · rw [g.noq h]; simp
    · have e : Url.queryP u = 63 :: u.query := by unfold Url.queryP; rw [h]; rfl
      rw [e] at hl
      simp only [List.length_append, List.length_cons] at hl
      omega
  have hf : u.frag.length ≤ 2048 := by
    cases h : u.hf
    · rw [g.nof h]; simp
    · have e : Url.fragP u = 35 :: u.frag := by unfold Url.fragP; rw [h]; rfl
      rw [e] at hl
      simp only [List.length_append, List.length_cons] at hl
      omega
  simp only [List.length_append, List.length_cons] at hl
  have hp := g.port
  exact ⟨by omega, by omega, by omega, by omega, by omega, by omega, by omega⟩
set_option maxHeartbeats 4000000 in
set_option maxRecDepth 100000 in
theorem walk_str (l : List UInt8) (w : World) (hE : Env w) :
    Calls Tryz.prog 3 #[.string (str l)] w fun e w' => e = .returned (.bool true) ∧ Below w.heap.size w w' := by
  by_cases hl : 2200 < l.length
  · have hq := longU_yes hl
    go_enter Tryz.func3, Tryz.ntmps3
    go_wp2_with (first
      | (go_at_call 4; refine (long_any l _).mono ?_; rintro e w1 ⟨rfl, hw1⟩; rw [hw1, hq]; clear hw1)
      | (go_at_call 5; refine (alive_any _ hE).mono ?_; rintro e w2 ⟨rfl, hb2⟩))
    go_ret
    exact ⟨rfl, hb2⟩
  · have hq := longU_no hl
    have hzu := (zero_of_info zeroURL).1
    have par1 : ∀ W : World, Env W → Calls Tryz.prog 6 #[.string (str l)] W fun e w' => e = .returned (.tuple #[uVal (Url.parse l), .int .i64 (Url.perr l)]) ∧ Below W.heap.size W w' := fun W h => Parse_any l W h (by omega)
    by_cases hp : Url.perr l = 0
    · have g := Url.parse_good hp
      rw [hp] at par1
      clear hp
      generalize Url.parse l = u at par1 g
      have hfit := good_fits g
      have hlen := g.len
      have HS : Hid (∀ c ∈ Url.str u, 33 ≤ c.toNat ∧ c.toNat ≤ 126) := Url.good_signs g
      have hsch := g.sch
      have hh2 := empty_isnt (Url.name_ne g.host)
      have hp0 := g.port.1
      have hp1 := g.port.2.1
      have strc : ∀ W : World, Env W → Calls Tryz.prog 7 #[uVal u] W fun e w' => e = .returned (.string (str (Url.str u))) ∧ Below W.heap.size W w' := fun W h => String_any u W h hfit
      clear g hfit
      have hs2 := str_size (Url.str u)
      generalize Url.str u = t at strc HS hlen hs2
      unfold uVal uCells at hzu
      unfold uVal uCells at par1 strc
      go_enter Tryz.func3, Tryz.ntmps3
      go_wp2_with (first
        | (go_at_call 4; refine (long_any l _).mono ?_; rintro e w1 ⟨rfl, hw1⟩; rw [hw1, hq]; clear hw1)
        | (go_at_call 6; refine (par1 _ hE).mono ?_; rintro e w3 ⟨rfl, hb3⟩; have hU4 : UAt (w3.alloc (.cells (uCells u) 25)) w3.heap.size u := heap_alloc_last _ _; have hb4 := hb3.alloc hb3.size (.cells (uCells u) 25); have hE4 := hE.below hb4; unfold uCells at hU4 hb4 hE4)
        | (go_at_call 7; refine (strc _ hE4).mono ?_; rintro e w5 ⟨rfl, hb5⟩))
      have hU5 := UAt.below hU4 hb5
      have hE5 := hE4.below hb5
      have hb5' := bel hb4 hb5
      generalize w3.heap.size = b at hU5 ⊢
      clear hU4 hE4 hb4 hb5 hb3
      obtain ⟨c0, c1, c2, c3, c4, c5, c6, c7⟩ := hU5.cells
      go_loopw [22] (fun i wr => ∃ k : Nat, k ≤ t.length ∧ i = .int .i64 k ∧ wr = w5) (fun i _ => t.length - (intOf i).toNat)
      case atStart => exact ⟨0, Nat.zero_le _, rfl, rfl⟩
      case round =>
        obtain ⟨k, hk, rfl, rfl⟩ := hrel
        by_cases hlt : k < t.length
        · have hat : ∀ h : k < (str t).size, (str t)[k]'h = t[k] := fun _ => rfl
          have hb := HS.out _ (List.getElem_mem hlt)
          have hb1 : ¬ (t[k].toNat : Int) < 33 := by omega
          have hb2 : ¬ (126 : Int) < (t[k].toNat : Int) := by omega
          clear hb
          go_wp2
          go_roundw
          case rel => exact ⟨k + 1, by omega, by go_num, by trivial⟩
          case measure => simp [intOf]; omega
        · rcases hsch with h | h
          · have n1 : ((str u.sch).toList == [104, 116, 116, 112]) = true := eq_list h
            clear h
            go_wp2_with (go_at_call 5; refine (alive_any _ hE5).mono ?_; rintro e w6 ⟨rfl, hb6⟩)
            go_ret
            exact ⟨rfl, bel hb5' hb6⟩
          · have n1 : ((str u.sch).toList == [104, 116, 116, 112]) = false := ne_list (fun e => absurd (h.symm.trans e) (by decide))
            have n2 : ((str u.sch).toList == [104, 116, 116, 112, 115]) = true := eq_list h
            clear h
            go_wp2_with (go_at_call 5; refine (alive_any _ hE5).mono ?_; rintro e w6 ⟨rfl, hb6⟩)
            go_ret
            exact ⟨rfl, bel hb5' hb6⟩
    · have hz : Url.parse l = Url.zero := parse_err hp
      have hp2 : (Url.perr l != 0) = true := by rw [bne_iff_ne]; exact hp
      rw [hz] at par1
      clear hz hp
      generalize Url.perr l = pe at par1 hp2
      unfold uVal uCells at hzu
      unfold uVal uCells at par1
      go_enter Tryz.func3, Tryz.ntmps3
      go_wp2_with (first
        | (go_at_call 4; refine (long_any l _).mono ?_; rintro e w1 ⟨rfl, hw1⟩; rw [hw1, hq]; clear hw1)
        | (go_at_call 6; refine (par1 _ hE).mono ?_; rintro e w3 ⟨rfl, hb3⟩; have hb4 := hb3.alloc hb3.size (.cells (uCells Url.zero) 25); unfold uCells at hb4; have hE4 := hE.below hb4)
        | (go_at_call 5; refine (alive_any _ hE4).mono ?_; rintro e w5 ⟨rfl, hb5⟩))
      go_ret
      exact ⟨rfl, bel hb4 hb5⟩
theorem walk (a0 : ByteArray) (w : World) (_h0 : a0.size ≤ maxLen) (hE : Env w) :
    Calls Tryz.prog 3 #[.string a0] w fun e w' => e = .returned (.bool true) ∧ Below w.heap.size w w' := by
  have := walk_str a0.data.toList w hE
  rw [str_self] at this
  exact this
end Go.Proofs.YtlkhjloeonbjaabGreatDoor.urlSigns
