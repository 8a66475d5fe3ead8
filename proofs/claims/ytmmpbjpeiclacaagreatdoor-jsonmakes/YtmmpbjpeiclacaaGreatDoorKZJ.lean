/- The contracts of the references' Texts and Same, at values. -/
import Derived.Test.YtmmpbjpeiclacaaGreatDoorKZG
set_option linter.unusedVariables false
set_option linter.unusedSimpArgs false
namespace Go.Proofs.YtmmpbjpeiclacaaGreatDoor
open Go.RowKit
set_option maxHeartbeats 4000000 in
set_option maxRecDepth 100000 in
theorem RTexts_any (Q : Nat → Prop) (ks ls : List (List UInt8)) (v1 v2 : Value) (w : World) (h1 : RTs Q w ks v1) (h2 : RTs Q w ls v2) (hl1 : ks.length ≤ 1000000000) (hl2 : ls.length ≤ 1000000000) :
    Calls Tryz.prog 29 #[v1, v2] w fun e w' => e = .returned (.bool (decide (ks = ls))) ∧ Below w.heap.size w w' := by
  obtain ⟨a1, c1, rfl⟩ := h1.form
  obtain ⟨a2, c2, rfl⟩ := h2.form
  by_cases hlen : ks.length = ls.length
  · generalize hX : decide (ks = ls) = X
    have HX : Hid (decide (ks.drop 0 = ls.drop 0) = X) := hX
    clear hX
    have HL : Hid (ks.length = ls.length) := hlen
    have hbq : ((ks.length : Int) != (ls.length : Int)) = false := by rw [bne_eq_false_iff_eq]; omega
    clear hlen
    go_enter Tryz.func29, Tryz.ntmps29
    go_wp2
    go_loopw [5] (fun i wr => ∃ j : Nat, i = .int .i64 j ∧ j ≤ ks.length ∧ Below w.heap.size w wr ∧ Hid (decide (ks.drop j = ls.drop j) = X)) (fun i _ => ks.length - (intOf i).toNat)
    case atStart => exact ⟨0, rfl, Nat.zero_le _, Below.refl _ _, HX⟩
    case round =>
      obtain ⟨j, rfl, hj, hB, HE⟩ := hrel
      clear HX hbq
      by_cases hlt : j < ks.length
      · have hlt2 : j < ls.length := by have := HL.out; omega
        have hat : ks[j]? = some ks[j] := List.getElem?_eq_getElem hlt
        have hat2 : ls[j]? = some ls[j] := List.getElem?_eq_getElem hlt2
        obtain ⟨g, o, rfl, hcl, _, hgl, e0⟩ := h1.at hat
        obtain ⟨g2, o2, rfl, hcl2, _, hgl2, u0⟩ := h2.at hat2
        have f0 := (cell_keep (hB.block g hgl) (o := o + j)).trans e0
        have z0 := (cell_keep (hB.block g2 hgl2) (o := o2 + j)).trans u0
        have hE := HE.out
        rw [List.drop_eq_getElem_cons hlt, List.drop_eq_getElem_cons hlt2] at hE
        clear hat hat2 HE
        generalize ks[j] = p at *
        generalize ls[j] = q at *
        by_cases hpq : p = q
        · have hs := str_beq_yes hpq
          have HY : Hid (decide (ks.drop (j + 1) = ls.drop (j + 1)) = X) := by show _ = _; rw [← hE, hpq]; simp
          clear hE hpq
          go_wp2
          go_region
          all_goals (
            go_wp2
            go_roundw
            case rel => exact ⟨j + 1, by go_num, by omega, hB.drew, HY⟩
            case measure => simp [intOf]; omega)
        · have hs := str_beq_no hpq
          have HY : Hid (X = false) := by show _ = _; rw [← hE]; simp [hpq]
          clear hE hpq
          go_wp2
          go_region
          all_goals (
            go_wp2
            go_ret
            exact ⟨by rw [HY.out]; rfl, hB.drew⟩)
      · have HY : Hid (X = true) := by
          have hL := HL.out
          show _ = _
          rw [← HE.out, List.drop_of_length_le (by omega), List.drop_of_length_le (by omega)]
          rfl
        clear HE
        go_wp2
        go_ret
        exact ⟨by rw [HY.out]; rfl, hB⟩
  · have hX : decide (ks = ls) = false := decide_eq_false (fun h => hlen (by rw [h]))
    rw [hX]
    have hbq : ((ks.length : Int) != (ls.length : Int)) = true := by rw [bne_iff_ne]; omega
    clear hlen hX
    go_enter Tryz.func29, Tryz.ntmps29
    go_wp2
    go_ret
    exact ⟨rfl, Below.refl _ _⟩
def RSameC (t : Jsn.J) : Prop := ∀ (t2 : Jsn.J) (v1 v2 : Value) (w : World), RV (fun _ => True) w t v1 → RV (fun _ => True) w t2 v2 → Jsn.sizeJ t ≤ 1000000000 → Jsn.sizeJ t2 ≤ 1000000000 → Calls Tryz.prog 8 #[v1, v2] w fun e w' => e = .returned (.bool (Jsn.sameJ t t2)) ∧ Below w.heap.size w w'
set_option maxHeartbeats 8000000 in
set_option maxRecDepth 100000 in
theorem RSame_all : ∀ t, RSameC t := by
  intro tr
  induction tr using Jsn.J.ind with
  | h k t ks cs ih =>
    intro tr2 v1 v2 w hv1 hv2 hsz hsz2
    obtain ⟨k2, t2, ks2, cs2⟩ := tr2
    obtain ⟨kv, cv, rfl, hks, hcs⟩ := RV_mk.1 hv1
    obtain ⟨kv2, cv2, rfl, hks2, hcs2⟩ := RV_mk.1 hv2
    obtain ⟨a1, c1, rfl⟩ := hks.form
    obtain ⟨a2, c2, rfl⟩ := hcs.form
    obtain ⟨a3, c3, rfl⟩ := hks2.form
    obtain ⟨a4, c4, rfl⟩ := hcs2.form
    rw [Jsn.sizeJ_mk] at hsz hsz2
    have hB0 : Below w.heap.size w (w.alloc (.cells #[.int .i64 k, .string (str t), .slice a1 ks.length c1, .slice a2 cs.length c2] 27)) := (Below.refl _ w).alloc (Nat.le_refl _) _
    have hB1 : Below w.heap.size w ((w.alloc (.cells #[.int .i64 k, .string (str t), .slice a1 ks.length c1, .slice a2 cs.length c2] 27)).alloc (.cells #[.int .i64 k2, .string (str t2), .slice a3 ks2.length c3, .slice a4 cs2.length c4] 27)) := bel hB0 ((Below.refl _ _).alloc (Nat.le_refl _) _)
    have hbA := (((Below.refl _ _).alloc (o := .cells #[.int .i64 k2, .string (str t2), .slice a3 ks2.length c3, .slice a4 cs2.length c4] 27) (Nat.le_refl _)).block w.heap.size (by simp)).trans (val_new w (.cells #[.int .i64 k, .string (str t), .slice a1 ks.length c1, .slice a2 cs.length c2] 27))
    have hbC := val_new (w.alloc (.cells #[.int .i64 k, .string (str t), .slice a1 ks.length c1, .slice a2 cs.length c2] 27)) (.cells #[.int .i64 k2, .string (str t2), .slice a3 ks2.length c3, .slice a4 cs2.length c4] 27)
    rw [show (w.alloc (.cells #[.int .i64 k, .string (str t), .slice a1 ks.length c1, .slice a2 cs.length c2] 27)).heap.size = w.heap.size + 1 by simp] at hbC
    have hE1 := RTexts_any (fun _ => True) ks ks2 _ _ _ (hks.keep hB1.size (fun k _ hl => ⟨trivial, hB1.block k hl⟩)) (hks2.keep hB1.size (fun k _ hl => ⟨trivial, hB1.block k hl⟩)) (by omega) (by omega)
    unfold Jsn.sameJ
    by_cases hk : k = k2
    · rw [decide_eq_true hk]
      have qk : (k != k2) = false := by simpa using hk
      by_cases ht : t = t2
      · rw [decide_eq_true ht]
        have qt := str_beq_yes ht
        by_cases hkk : ks = ks2
        · rw [decide_eq_true hkk] at hE1 ⊢
          simp only [Bool.true_and]
          by_cases hlen : cs.length = cs2.length
          · have HL : Hid (cs.length = cs2.length) := hlen
            have hbq : ((cs.length : Int) != (cs2.length : Int)) = false := by rw [bne_eq_false_iff_eq]; omega
            generalize hX : Jsn.sameL cs cs2 = X
            have HX : Hid (Jsn.sameL (cs.drop 0) (cs2.drop 0) = X) := hX
            clear hX hlen hk ht hkk
            go_enter Tryz.func8, Tryz.ntmps8
            go_wp2_with (first
              | (go_at_call 29; refine hE1.mono ?_; rintro e w1 ⟨rfl, hB2⟩; have hB3 := bel hB1 hB2; have hA1 := (hB2.block w.heap.size (by simp; omega)).trans hbA; have hC1 := (hB2.block (w.heap.size + 1) (by simp)).trans hbC; have p3 : w1.cell? ⟨w.heap.size, 3, none⟩ = some (.slice a2 cs.length c2) := by { rw [Lib.cell_of_heap hA1]; rfl }; have q3 : w1.cell? ⟨w.heap.size + 1, 3, none⟩ = some (.slice a4 cs2.length c4) := by { rw [Lib.cell_of_heap hC1]; rfl }))
            go_loopw [5] (fun i wr => ∃ j : Nat, i = .int .i64 j ∧ j ≤ cs.length ∧ Below w.heap.size w wr ∧ wr.heap[w.heap.size]? = some (.cells #[.int .i64 k, .string (str t), .slice a1 ks.length c1, .slice a2 cs.length c2] 27 (0, 0)) ∧ wr.heap[w.heap.size + 1]? = some (.cells #[.int .i64 k2, .string (str t2), .slice a3 ks2.length c3, .slice a4 cs2.length c4] 27 (0, 0)) ∧ Hid (Jsn.sameL (cs.drop j) (cs2.drop j) = X)) (fun i _ => cs.length - (intOf i).toNat)
            case atStart => exact ⟨0, rfl, Nat.zero_le _, hB3, hA1, hC1, HX⟩
            case round =>
              obtain ⟨j, rfl, hj, hB, hA2, hC2, HE⟩ := hrel
              clear HX hbq hE1 hbA hbC hA1 hC1 p3 q3
              have p3 := (Lib.cell_of_heap hA2 3).trans (rfl : _ = some (Value.slice a2 cs.length c2))
              have q3 := (Lib.cell_of_heap hC2 3).trans (rfl : _ = some (Value.slice a4 cs2.length c4))
              by_cases hlt : j < cs.length
              · have hlt2 : j < cs2.length := by have := HL.out; omega
                have hat : cs[j]? = some cs[j] := List.getElem?_eq_getElem hlt
                have hat2 : cs2[j]? = some cs2[j] := List.getElem?_eq_getElem hlt2
                obtain ⟨g, o, rfl, hcl, _, hgl, y0, y1, y2, y3, e0, e1, e2, e3, hrv⟩ := hcs.at hat
                obtain ⟨g2, o2, rfl, hcl2, _, hgl2, z0, z1, z2, z3, u0, u1, u2, u3, hrv2⟩ := hcs2.at hat2
                have hkg := hB.block g hgl
                have f0 := (cell_keep hkg (o := o + j * 4)).trans e0
                have f1 := (cell_keep hkg (o := o + j * 4 + 1)).trans e1
                have f2 := (cell_keep hkg (o := o + j * 4 + 2)).trans e2
                have f3 := (cell_keep hkg (o := o + j * 4 + 3)).trans e3
                have hkg2 := hB.block g2 hgl2
                have m0 := (cell_keep hkg2 (o := o2 + j * 4)).trans u0
                have m1 := (cell_keep hkg2 (o := o2 + j * 4 + 1)).trans u1
                have m2 := (cell_keep hkg2 (o := o2 + j * 4 + 2)).trans u2
                have m3 := (cell_keep hkg2 (o := o2 + j * 4 + 3)).trans u3
                obtain ⟨aa, na, ca, ab, nb, cb, hsh⟩ := hrv.shape
                cases hsh
                obtain ⟨ba, ma, da, bb, mb, db, hsh⟩ := hrv2.shape
                cases hsh
                have hI := ih cs[j] (List.getElem_mem hlt) cs2[j] _ _ _ (hrv.below hB.drew) (hrv2.below hB.drew) (Nat.le_trans (Jsn.sizeL_mem (List.getElem_mem hlt)) (by omega)) (Nat.le_trans (Jsn.sizeL_mem (List.getElem_mem hlt2)) (by omega))
                have hE := HE.out
                rw [List.drop_eq_getElem_cons hlt, List.drop_eq_getElem_cons hlt2, Jsn.sameL_cons] at hE
                clear hat hat2 HE hB2 hB3
                have hjd : j ≤ cs2.length := by omega
                generalize cs[j] = tt at *
                generalize cs2[j] = tt2 at *
                cases hs : Jsn.sameJ tt tt2 with
                | false =>
                  rw [hs] at hI hE
                  have HY : Hid (X = false) := by show _ = _; rw [← hE]; rfl
                  clear hE hs
                  go_wp2
                  go_region_with (go_at_call 8; refine hI.mono ?_; rintro e w5 ⟨rfl, hB5⟩)
                  all_goals (
                    go_wp2
                    go_ret
                    exact ⟨by rw [HY.out]; rfl, bel hB.drew hB5⟩)
                | true =>
                  rw [hs] at hI hE
                  have HY : Hid (Jsn.sameL (cs.drop (j + 1)) (cs2.drop (j + 1)) = X) := by show _ = _; rw [← hE]; rfl
                  clear hE hs
                  go_wp2
                  go_region_with (go_at_call 8; refine hI.mono ?_; rintro e w5 ⟨rfl, hB5⟩)
                  all_goals (
                    go_wp2
                    go_roundw
                    case rel => exact ⟨j + 1, by go_num, by omega, bel hB.drew hB5, (hB5.block _ (Array.getElem?_eq_some_iff.1 hA2).1).trans hA2, (hB5.block _ (Array.getElem?_eq_some_iff.1 hC2).1).trans hC2, HY⟩
                    case measure => simp [intOf]; omega)
              · have HY : Hid (X = true) := by
                  have hL := HL.out
                  show _ = _
                  rw [← HE.out, List.drop_of_length_le (by omega), List.drop_of_length_le (by omega)]
                  unfold Jsn.sameL
                  rfl
                clear HE
                go_wp2
                go_ret
                exact ⟨by rw [HY.out]; rfl, hB⟩
          · rw [Jsn.sameL_len _ _ hlen]
            have hbq : ((cs.length : Int) != (cs2.length : Int)) = true := by rw [bne_iff_ne]; omega
            clear hk ht hkk hlen
            go_enter Tryz.func8, Tryz.ntmps8
            go_wp2_with (first
              | (go_at_call 29; refine hE1.mono ?_; rintro e w1 ⟨rfl, hB2⟩; have hB3 := bel hB1 hB2; have hA1 := (hB2.block w.heap.size (by simp; omega)).trans hbA; have hC1 := (hB2.block (w.heap.size + 1) (by simp)).trans hbC; have p3 : w1.cell? ⟨w.heap.size, 3, none⟩ = some (.slice a2 cs.length c2) := by { rw [Lib.cell_of_heap hA1]; rfl }; have q3 : w1.cell? ⟨w.heap.size + 1, 3, none⟩ = some (.slice a4 cs2.length c4) := by { rw [Lib.cell_of_heap hC1]; rfl }))
            go_ret
            exact ⟨rfl, hB3⟩
        · rw [decide_eq_false hkk] at hE1 ⊢
          clear hk ht hkk
          go_enter Tryz.func8, Tryz.ntmps8
          go_wp2_with (first
            | (go_at_call 29; refine hE1.mono ?_; rintro e w1 ⟨rfl, hB2⟩))
          go_ret
          exact ⟨by simp, bel hB1 hB2⟩
      · rw [decide_eq_false ht]
        have qt := str_beq_no ht
        clear hk ht
        go_enter Tryz.func8, Tryz.ntmps8
        go_wp2
        go_ret
        exact ⟨by simp, hB1⟩
    · rw [decide_eq_false hk]
      have qk : (k != k2) = true := by simpa using hk
      clear hk
      go_enter Tryz.func8, Tryz.ntmps8
      go_wp2
      go_ret
      exact ⟨by simp, hB1⟩
end Go.Proofs.YtmmpbjpeiclacaaGreatDoor
