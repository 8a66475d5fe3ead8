/- The contract of the parser's value, at every depth. -/
import Derived.Test.YtmmpbjpeiclacaaGreatDoorKYR
set_option linter.unusedVariables false
set_option linter.unusedSimpArgs false
namespace Go.Proofs.YtmmpbjpeiclacaaGreatDoor
open Go.RowKit
set_option maxHeartbeats 4000000 in
set_option maxRecDepth 100000 in
theorem value_step {k b : Nat} {d : Int} {s : List UInt8} (hk : k ≤ 64) (hd : d = 64 - (k : Int)) (hV : ∀ j, k = j + 1 → ValC j (d + 1) b s) : ValC k d b s := by
  intro n l w h
  have hzv := (zero_of_info zeroVal).1
  have hbl := h.lt
  have hlen := h.len
  have hcnt := h.cnt
  have hP0 := h.step ((Below.refl _ w).alloc (o := .cells z4 27) (Nat.le_refl _))
  have hK0 : Kept b w (w.alloc (.cells z4 27)) := Kept.of ((Below.refl _ w).alloc (Nat.le_refl _) _)
  have hR0 : VAt (w.alloc (.cells z4 27)) w.heap.size (.int .i64 0) (.string ⟨#[]⟩) (.slice none 0 0) (.slice none 0 0) := heap_alloc_last w _
  have hNest := fun W n c r (hc : c = 91 ∨ c = 123) (hP : Ps b s (c :: r) n W) => nest_any hk hd hV hc hP
  clear hd hV
  rw [value_nest]
  unfold ValPost
  unfold Jsn.valueG
  cases hsk : Jsn.skip l with
  | nil =>
    go_enter Tryz.func64, Tryz.ntmps64
    go_wp2_with (first
      | (go_at_call 82; refine (part_end hP0 hsk).mono ?_; rintro e w1 ⟨rfl, hK1⟩))
    exact ⟨rfl, hK0.trans hK1, rfl⟩
  | cons c r =>
    dsimp only
    by_cases hn : n = 4096
    · rw [if_pos hn]
      subst hn
      go_enter Tryz.func64, Tryz.ntmps64
      go_wp2_with (first
        | (go_at_call 82; refine (part_ok hP0 hsk).mono ?_; rintro e w1 ⟨rfl, hP1, hK1⟩; have c2 := hP1.c2; obtain ⟨p, hp, c1⟩ := hP1.c1; simp only [List.length_cons] at hp))
      obtain rfl : p = s.length - (r.length + 1) := by omega
      exact ⟨rfl, hK0.trans hK1, rfl⟩
    rw [if_neg hn]
    have hn2 : (n : Int) < 4096 := by omega
    have hn3 : ((n : Int) == 4096) = false := beq_eq_false_iff_ne.2 (by omega)
    by_cases hc : c = 91 ∨ c = 123
    · rw [if_pos hc]
      have hNc := fun W (hP : Ps b s (c :: r) (n + 1) W) => hNest W (n + 1) c r hc hP
      clear hNest
      cases hq : nestK k c (n + 1) r with
      | err y q =>
        rw [hq] at hNc
        rcases hc with rfl | rfl
        · skip
          go_enter Tryz.func64, Tryz.ntmps64
          go_wp2_with (first
            | (go_at_call 82; refine (part_ok hP0 hsk).mono ?_; rintro e w1 ⟨rfl, hP1, hK1⟩; have c2 := hP1.c2; have f2 := hP1.free 2; have hP2 : Ps b s (91 :: r) (n + 1) (w1.setCell ⟨b, 2, none⟩ (.int .i64 ((n : Int) + 1))) := hP1.setCnt (n + 1) (by omega); have hK2 : Kept b w (w1.setCell ⟨b, 2, none⟩ (.int .i64 ((n : Int) + 1))) := (hK0.trans hK1).trans (Kept.set _ _ _ _); have hR2 : VAt (w1.setCell ⟨b, 2, none⟩ (.int .i64 ((n : Int) + 1))) w.heap.size (.int .i64 0) (.string ⟨#[]⟩) (.slice none 0 0) (.slice none 0 0) := (hR0.keep (hK1.block _ hR0.lt (by omega))).keep (Below.heap_setCell _ _ _ _ (by show w.heap.size ≠ b; omega)); have hsz := hR2.lt)
            | (go_at_call 83; refine (hNc _ hP2).mono ?_; rintro e w3 ⟨hK3, hA⟩; replace hA : e = boom s y q := hA; subst hA))
          exact ⟨rfl, hK2.trans hK3, rfl⟩
        · skip
          go_enter Tryz.func64, Tryz.ntmps64
          go_wp2_with (first
            | (go_at_call 82; refine (part_ok hP0 hsk).mono ?_; rintro e w1 ⟨rfl, hP1, hK1⟩; have c2 := hP1.c2; have f2 := hP1.free 2; have hP2 : Ps b s (123 :: r) (n + 1) (w1.setCell ⟨b, 2, none⟩ (.int .i64 ((n : Int) + 1))) := hP1.setCnt (n + 1) (by omega); have hK2 : Kept b w (w1.setCell ⟨b, 2, none⟩ (.int .i64 ((n : Int) + 1))) := (hK0.trans hK1).trans (Kept.set _ _ _ _); have hR2 : VAt (w1.setCell ⟨b, 2, none⟩ (.int .i64 ((n : Int) + 1))) w.heap.size (.int .i64 0) (.string ⟨#[]⟩) (.slice none 0 0) (.slice none 0 0) := (hR0.keep (hK1.block _ hR0.lt (by omega))).keep (Below.heap_setCell _ _ _ _ (by show w.heap.size ≠ b; omega)); have hsz := hR2.lt)
            | (go_at_call 83; refine (hNc _ hP2).mono ?_; rintro e w3 ⟨hK3, hA⟩; replace hA : e = boom s y q := hA; subst hA))
          exact ⟨rfl, hK2.trans hK3, rfl⟩
      | ok pr z =>
        rw [hq] at hNc
        rcases hc with rfl | rfl
        · skip
          go_enter Tryz.func64, Tryz.ntmps64
          go_wp2_with (first
            | (go_at_call 82; refine (part_ok hP0 hsk).mono ?_; rintro e w1 ⟨rfl, hP1, hK1⟩; have c2 := hP1.c2; have f2 := hP1.free 2; have hP2 : Ps b s (91 :: r) (n + 1) (w1.setCell ⟨b, 2, none⟩ (.int .i64 ((n : Int) + 1))) := hP1.setCnt (n + 1) (by omega); have hK2 : Kept b w (w1.setCell ⟨b, 2, none⟩ (.int .i64 ((n : Int) + 1))) := (hK0.trans hK1).trans (Kept.set _ _ _ _); have hR2 : VAt (w1.setCell ⟨b, 2, none⟩ (.int .i64 ((n : Int) + 1))) w.heap.size (.int .i64 0) (.string ⟨#[]⟩) (.slice none 0 0) (.slice none 0 0) := (hR0.keep (hK1.block _ hR0.lt (by omega))).keep (Below.heap_setCell _ _ _ _ (by show w.heap.size ≠ b; omega)); have hsz := hR2.lt)
            | (go_at_call 83; refine (hNc _ hP2).mono ?_; rintro e w3 ⟨hK3, v3, rfl, hr3, hP3⟩; obtain ⟨aa, na, ca, ab, nb, cb, rfl⟩ := hr3.shape; have hR3 := hR2.keep (hK3.block _ hR2.lt (by omega)))
            | ((with_reducible show wpList _ _ _ ({ op := Op.store 27 _ _, .. } :: _) _ _); refine wpList_store_V _ _ rfl rfl _ _ _ _ _ rfl rfl hR3 (ones_mk _ _ _ _ _ _ _ _) ?_))
          obtain ⟨g1, g2, g3⟩ := val_back (w0 := w) rfl hbl (hK2.trans hK3) (RV.keep (Nat.le_refl _) (fun k hk _ => ⟨Nat.le_trans (Nat.succ_le_of_lt hsz) hk, rfl⟩) hr3) hP3
          exact ret_V rfl rfl rfl (setRow_V hR3 _ _ _ _) ⟨g1, _, rfl, g2, g3⟩
        · skip
          go_enter Tryz.func64, Tryz.ntmps64
          go_wp2_with (first
            | (go_at_call 82; refine (part_ok hP0 hsk).mono ?_; rintro e w1 ⟨rfl, hP1, hK1⟩; have c2 := hP1.c2; have f2 := hP1.free 2; have hP2 : Ps b s (123 :: r) (n + 1) (w1.setCell ⟨b, 2, none⟩ (.int .i64 ((n : Int) + 1))) := hP1.setCnt (n + 1) (by omega); have hK2 : Kept b w (w1.setCell ⟨b, 2, none⟩ (.int .i64 ((n : Int) + 1))) := (hK0.trans hK1).trans (Kept.set _ _ _ _); have hR2 : VAt (w1.setCell ⟨b, 2, none⟩ (.int .i64 ((n : Int) + 1))) w.heap.size (.int .i64 0) (.string ⟨#[]⟩) (.slice none 0 0) (.slice none 0 0) := (hR0.keep (hK1.block _ hR0.lt (by omega))).keep (Below.heap_setCell _ _ _ _ (by show w.heap.size ≠ b; omega)); have hsz := hR2.lt)
            | (go_at_call 83; refine (hNc _ hP2).mono ?_; rintro e w3 ⟨hK3, v3, rfl, hr3, hP3⟩; obtain ⟨aa, na, ca, ab, nb, cb, rfl⟩ := hr3.shape; have hR3 := hR2.keep (hK3.block _ hR2.lt (by omega)))
            | ((with_reducible show wpList _ _ _ ({ op := Op.store 27 _ _, .. } :: _) _ _); refine wpList_store_V _ _ rfl rfl _ _ _ _ _ rfl rfl hR3 (ones_mk _ _ _ _ _ _ _ _) ?_))
          obtain ⟨g1, g2, g3⟩ := val_back (w0 := w) rfl hbl (hK2.trans hK3) (RV.keep (Nat.le_refl _) (fun k hk _ => ⟨Nat.le_trans (Nat.succ_le_of_lt hsz) hk, rfl⟩) hr3) hP3
          exact ret_V rfl rfl rfl (setRow_V hR3 _ _ _ _) ⟨g1, _, rfl, g2, g3⟩
    rw [if_neg hc]
    clear hNest
    have n91 : c ≠ 91 := fun e => hc (.inl e)
    have n123 : c ≠ 123 := fun e => hc (.inr e)
    clear hc
    have q91 : ((c.toNat : Int) == 91) = false := ne_byte n91
    have q123 : ((c.toNat : Int) == 123) = false := ne_byte n123
    unfold Jsn.plainR
    by_cases h34 : c = 34
    · rw [if_pos h34]
      subst h34
      cases hq : Jsn.quotedR r with
      | err y q =>
        go_enter Tryz.func64, Tryz.ntmps64
        go_wp2_with (first
          | (go_at_call 82; refine (part_ok hP0 hsk).mono ?_; rintro e w1 ⟨rfl, hP1, hK1⟩; have c2 := hP1.c2; have f2 := hP1.free 2; have hP2 : Ps b s (34 :: r) (n + 1) (w1.setCell ⟨b, 2, none⟩ (.int .i64 ((n : Int) + 1))) := hP1.setCnt (n + 1) (by omega); have hK2 : Kept b w (w1.setCell ⟨b, 2, none⟩ (.int .i64 ((n : Int) + 1))) := (hK0.trans hK1).trans (Kept.set _ _ _ _); have hR2 : VAt (w1.setCell ⟨b, 2, none⟩ (.int .i64 ((n : Int) + 1))) w.heap.size (.int .i64 0) (.string ⟨#[]⟩) (.slice none 0 0) (.slice none 0 0) := (hR0.keep (hK1.block _ hR0.lt (by omega))).keep (Below.heap_setCell _ _ _ _ (by show w.heap.size ≠ b; omega)); have hsz := hR2.lt)
          | (go_at_call 84; refine (quoted_any hP2).mono ?_; rintro e w3 ⟨hK3, hA⟩; rw [hq] at hA; replace hA : e = boom s y q := hA; subst hA))
        exact ⟨rfl, hK2.trans hK3, rfl⟩
      | ok t z =>
        go_enter Tryz.func64, Tryz.ntmps64
        go_wp2_with (first
          | (go_at_call 82; refine (part_ok hP0 hsk).mono ?_; rintro e w1 ⟨rfl, hP1, hK1⟩; have c2 := hP1.c2; have f2 := hP1.free 2; have hP2 : Ps b s (34 :: r) (n + 1) (w1.setCell ⟨b, 2, none⟩ (.int .i64 ((n : Int) + 1))) := hP1.setCnt (n + 1) (by omega); have hK2 : Kept b w (w1.setCell ⟨b, 2, none⟩ (.int .i64 ((n : Int) + 1))) := (hK0.trans hK1).trans (Kept.set _ _ _ _); have hR2 : VAt (w1.setCell ⟨b, 2, none⟩ (.int .i64 ((n : Int) + 1))) w.heap.size (.int .i64 0) (.string ⟨#[]⟩) (.slice none 0 0) (.slice none 0 0) := (hR0.keep (hK1.block _ hR0.lt (by omega))).keep (Below.heap_setCell _ _ _ _ (by show w.heap.size ≠ b; omega)); have hsz := hR2.lt)
          | (go_at_call 84; refine (quoted_any hP2).mono ?_; rintro e w3 ⟨hK3, hA⟩; rw [hq] at hA; obtain ⟨rfl, hP3⟩ := hA; have hR3 := hR2.keep (hK3.block _ hR2.lt (by omega)))
          | ((with_reducible show wpList _ _ _ ({ op := Op.store 27 _ _, .. } :: _) _ _); refine wpList_store_V _ _ rfl rfl _ _ _ _ _ rfl rfl hR3 (ones_mk _ _ _ _ _ _ _ _) ?_))
        obtain ⟨g1, g2, g3⟩ := val_back (w0 := w) rfl hbl (hK2.trans hK3) (RV.plain _ _ 4 t) hP3
        exact ret_V rfl rfl rfl (setRow_V hR3 _ _ _ _) ⟨g1, _, rfl, g2, g3⟩
    rw [if_neg h34]
    have q34 : ((c.toNat : Int) == 34) = false := ne_byte h34
    by_cases h110 : c = 110
    · rw [if_pos h110]
      subst h110
      have hw := fun W (hP : Ps b s (110 :: r) (n + 1) W) => word_any (wd := [110, 117, 108, 108]) hP (by simp)
      have hq0 : Jsn.wordR (r.length + 1) Jsn.nullT (110 :: r) = Jsn.wordR (110 :: r).length [110, 117, 108, 108] (110 :: r) := rfl
      rw [hq0]
      cases hq : Jsn.wordR (110 :: r).length [110, 117, 108, 108] (110 :: r) with
      | err y q =>
        go_enter Tryz.func64, Tryz.ntmps64
        go_wp2_with (first
          | (go_at_call 82; refine (part_ok hP0 hsk).mono ?_; rintro e w1 ⟨rfl, hP1, hK1⟩; have c2 := hP1.c2; have f2 := hP1.free 2; have hP2 : Ps b s (110 :: r) (n + 1) (w1.setCell ⟨b, 2, none⟩ (.int .i64 ((n : Int) + 1))) := hP1.setCnt (n + 1) (by omega); have hK2 : Kept b w (w1.setCell ⟨b, 2, none⟩ (.int .i64 ((n : Int) + 1))) := (hK0.trans hK1).trans (Kept.set _ _ _ _); have hR2 : VAt (w1.setCell ⟨b, 2, none⟩ (.int .i64 ((n : Int) + 1))) w.heap.size (.int .i64 0) (.string ⟨#[]⟩) (.slice none 0 0) (.slice none 0 0) := (hR0.keep (hK1.block _ hR0.lt (by omega))).keep (Below.heap_setCell _ _ _ _ (by show w.heap.size ≠ b; omega)); have hsz := hR2.lt)
          | (go_at_call 85; refine (hw _ hP2).mono ?_; rintro e w3 ⟨hK3, hA⟩; rw [hq] at hA; replace hA : e = boom s y q := hA; subst hA))
        exact ⟨rfl, hK2.trans hK3, rfl⟩
      | ok u z =>
        go_enter Tryz.func64, Tryz.ntmps64
        go_wp2_with (first
          | (go_at_call 82; refine (part_ok hP0 hsk).mono ?_; rintro e w1 ⟨rfl, hP1, hK1⟩; have c2 := hP1.c2; have f2 := hP1.free 2; have hP2 : Ps b s (110 :: r) (n + 1) (w1.setCell ⟨b, 2, none⟩ (.int .i64 ((n : Int) + 1))) := hP1.setCnt (n + 1) (by omega); have hK2 : Kept b w (w1.setCell ⟨b, 2, none⟩ (.int .i64 ((n : Int) + 1))) := (hK0.trans hK1).trans (Kept.set _ _ _ _); have hR2 : VAt (w1.setCell ⟨b, 2, none⟩ (.int .i64 ((n : Int) + 1))) w.heap.size (.int .i64 0) (.string ⟨#[]⟩) (.slice none 0 0) (.slice none 0 0) := (hR0.keep (hK1.block _ hR0.lt (by omega))).keep (Below.heap_setCell _ _ _ _ (by show w.heap.size ≠ b; omega)); have hsz := hR2.lt)
          | (go_at_call 85; refine (hw _ hP2).mono ?_; rintro e w3 ⟨hK3, hA⟩; rw [hq] at hA; obtain ⟨rfl, hP3⟩ := hA; have hR3 := hR2.keep (hK3.block _ hR2.lt (by omega)))
          | ((with_reducible show wpList _ _ _ ({ op := Op.store 27 _ _, .. } :: _) _ _); refine wpList_store_V _ _ rfl rfl _ _ _ _ _ rfl rfl hR3 (ones_mk _ _ _ _ _ _ _ _) ?_))
        obtain ⟨g1, g2, g3⟩ := val_back (w0 := w) rfl hbl (hK2.trans hK3) (RV.plain _ _ 1 []) hP3
        exact ret_V rfl rfl rfl (setRow_V hR3 _ _ _ _) ⟨g1, _, rfl, g2, g3⟩
    rw [if_neg h110]
    have q110 : ((c.toNat : Int) == 110) = false := ne_byte h110
    by_cases h116 : c = 116
    · rw [if_pos h116]
      subst h116
      have hw := fun W (hP : Ps b s (116 :: r) (n + 1) W) => word_any (wd := [116, 114, 117, 101]) hP (by simp)
      have hq0 : Jsn.wordR (r.length + 1) Jsn.trueT (116 :: r) = Jsn.wordR (116 :: r).length [116, 114, 117, 101] (116 :: r) := rfl
      rw [hq0]
      cases hq : Jsn.wordR (116 :: r).length [116, 114, 117, 101] (116 :: r) with
      | err y q =>
        go_enter Tryz.func64, Tryz.ntmps64
        go_wp2_with (first
          | (go_at_call 82; refine (part_ok hP0 hsk).mono ?_; rintro e w1 ⟨rfl, hP1, hK1⟩; have c2 := hP1.c2; have f2 := hP1.free 2; have hP2 : Ps b s (116 :: r) (n + 1) (w1.setCell ⟨b, 2, none⟩ (.int .i64 ((n : Int) + 1))) := hP1.setCnt (n + 1) (by omega); have hK2 : Kept b w (w1.setCell ⟨b, 2, none⟩ (.int .i64 ((n : Int) + 1))) := (hK0.trans hK1).trans (Kept.set _ _ _ _); have hR2 : VAt (w1.setCell ⟨b, 2, none⟩ (.int .i64 ((n : Int) + 1))) w.heap.size (.int .i64 0) (.string ⟨#[]⟩) (.slice none 0 0) (.slice none 0 0) := (hR0.keep (hK1.block _ hR0.lt (by omega))).keep (Below.heap_setCell _ _ _ _ (by show w.heap.size ≠ b; omega)); have hsz := hR2.lt)
          | (go_at_call 85; refine (hw _ hP2).mono ?_; rintro e w3 ⟨hK3, hA⟩; rw [hq] at hA; replace hA : e = boom s y q := hA; subst hA))
        exact ⟨rfl, hK2.trans hK3, rfl⟩
      | ok u z =>
        go_enter Tryz.func64, Tryz.ntmps64
        go_wp2_with (first
          | (go_at_call 82; refine (part_ok hP0 hsk).mono ?_; rintro e w1 ⟨rfl, hP1, hK1⟩; have c2 := hP1.c2; have f2 := hP1.free 2; have hP2 : Ps b s (116 :: r) (n + 1) (w1.setCell ⟨b, 2, none⟩ (.int .i64 ((n : Int) + 1))) := hP1.setCnt (n + 1) (by omega); have hK2 : Kept b w (w1.setCell ⟨b, 2, none⟩ (.int .i64 ((n : Int) + 1))) := (hK0.trans hK1).trans (Kept.set _ _ _ _); have hR2 : VAt (w1.setCell ⟨b, 2, none⟩ (.int .i64 ((n : Int) + 1))) w.heap.size (.int .i64 0) (.string ⟨#[]⟩) (.slice none 0 0) (.slice none 0 0) := (hR0.keep (hK1.block _ hR0.lt (by omega))).keep (Below.heap_setCell _ _ _ _ (by show w.heap.size ≠ b; omega)); have hsz := hR2.lt)
          | (go_at_call 85; refine (hw _ hP2).mono ?_; rintro e w3 ⟨hK3, hA⟩; rw [hq] at hA; obtain ⟨rfl, hP3⟩ := hA; have hR3 := hR2.keep (hK3.block _ hR2.lt (by omega)))
          | ((with_reducible show wpList _ _ _ ({ op := Op.store 27 _ _, .. } :: _) _ _); refine wpList_store_V _ _ rfl rfl _ _ _ _ _ rfl rfl hR3 (ones_mk _ _ _ _ _ _ _ _) ?_))
        obtain ⟨g1, g2, g3⟩ := val_back (w0 := w) rfl hbl (hK2.trans hK3) (RV.plain _ _ 2 Jsn.trueT) hP3
        exact ret_V rfl rfl rfl (setRow_V hR3 _ _ _ _) ⟨g1, _, rfl, g2, g3⟩
    rw [if_neg h116]
    have q116 : ((c.toNat : Int) == 116) = false := ne_byte h116
    by_cases h102 : c = 102
    · rw [if_pos h102]
      subst h102
      have hw := fun W (hP : Ps b s (102 :: r) (n + 1) W) => word_any (wd := [102, 97, 108, 115, 101]) hP (by simp)
      have hq0 : Jsn.wordR (r.length + 1) Jsn.falseT (102 :: r) = Jsn.wordR (102 :: r).length [102, 97, 108, 115, 101] (102 :: r) := rfl
      rw [hq0]
      cases hq : Jsn.wordR (102 :: r).length [102, 97, 108, 115, 101] (102 :: r) with
      | err y q =>
        go_enter Tryz.func64, Tryz.ntmps64
        go_wp2_with (first
          | (go_at_call 82; refine (part_ok hP0 hsk).mono ?_; rintro e w1 ⟨rfl, hP1, hK1⟩; have c2 := hP1.c2; have f2 := hP1.free 2; have hP2 : Ps b s (102 :: r) (n + 1) (w1.setCell ⟨b, 2, none⟩ (.int .i64 ((n : Int) + 1))) := hP1.setCnt (n + 1) (by omega); have hK2 : Kept b w (w1.setCell ⟨b, 2, none⟩ (.int .i64 ((n : Int) + 1))) := (hK0.trans hK1).trans (Kept.set _ _ _ _); have hR2 : VAt (w1.setCell ⟨b, 2, none⟩ (.int .i64 ((n : Int) + 1))) w.heap.size (.int .i64 0) (.string ⟨#[]⟩) (.slice none 0 0) (.slice none 0 0) := (hR0.keep (hK1.block _ hR0.lt (by omega))).keep (Below.heap_setCell _ _ _ _ (by show w.heap.size ≠ b; omega)); have hsz := hR2.lt)
          | (go_at_call 85; refine (hw _ hP2).mono ?_; rintro e w3 ⟨hK3, hA⟩; rw [hq] at hA; replace hA : e = boom s y q := hA; subst hA))
        exact ⟨rfl, hK2.trans hK3, rfl⟩
      | ok u z =>
        go_enter Tryz.func64, Tryz.ntmps64
        go_wp2_with (first
          | (go_at_call 82; refine (part_ok hP0 hsk).mono ?_; rintro e w1 ⟨rfl, hP1, hK1⟩; have c2 := hP1.c2; have f2 := hP1.free 2; have hP2 : Ps b s (102 :: r) (n + 1) (w1.setCell ⟨b, 2, none⟩ (.int .i64 ((n : Int) + 1))) := hP1.setCnt (n + 1) (by omega); have hK2 : Kept b w (w1.setCell ⟨b, 2, none⟩ (.int .i64 ((n : Int) + 1))) := (hK0.trans hK1).trans (Kept.set _ _ _ _); have hR2 : VAt (w1.setCell ⟨b, 2, none⟩ (.int .i64 ((n : Int) + 1))) w.heap.size (.int .i64 0) (.string ⟨#[]⟩) (.slice none 0 0) (.slice none 0 0) := (hR0.keep (hK1.block _ hR0.lt (by omega))).keep (Below.heap_setCell _ _ _ _ (by show w.heap.size ≠ b; omega)); have hsz := hR2.lt)
          | (go_at_call 85; refine (hw _ hP2).mono ?_; rintro e w3 ⟨hK3, hA⟩; rw [hq] at hA; obtain ⟨rfl, hP3⟩ := hA; have hR3 := hR2.keep (hK3.block _ hR2.lt (by omega)))
          | ((with_reducible show wpList _ _ _ ({ op := Op.store 27 _ _, .. } :: _) _ _); refine wpList_store_V _ _ rfl rfl _ _ _ _ _ rfl rfl hR3 (ones_mk _ _ _ _ _ _ _ _) ?_))
        obtain ⟨g1, g2, g3⟩ := val_back (w0 := w) rfl hbl (hK2.trans hK3) (RV.plain _ _ 2 Jsn.falseT) hP3
        exact ret_V rfl rfl rfl (setRow_V hR3 _ _ _ _) ⟨g1, _, rfl, g2, g3⟩
    rw [if_neg h102]
    have q102 : ((c.toNat : Int) == 102) = false := ne_byte h102
    cases hq : Jsn.numV (c :: r) with
    | err y q =>
      go_enter Tryz.func64, Tryz.ntmps64
      go_wp2_with (first
        | (go_at_call 82; refine (part_ok hP0 hsk).mono ?_; rintro e w1 ⟨rfl, hP1, hK1⟩; have c2 := hP1.c2; have f2 := hP1.free 2; have hP2 : Ps b s (c :: r) (n + 1) (w1.setCell ⟨b, 2, none⟩ (.int .i64 ((n : Int) + 1))) := hP1.setCnt (n + 1) (by omega); have hK2 : Kept b w (w1.setCell ⟨b, 2, none⟩ (.int .i64 ((n : Int) + 1))) := (hK0.trans hK1).trans (Kept.set _ _ _ _); have hR2 : VAt (w1.setCell ⟨b, 2, none⟩ (.int .i64 ((n : Int) + 1))) w.heap.size (.int .i64 0) (.string ⟨#[]⟩) (.slice none 0 0) (.slice none 0 0) := (hR0.keep (hK1.block _ hR0.lt (by omega))).keep (Below.heap_setCell _ _ _ _ (by show w.heap.size ≠ b; omega)); have hsz := hR2.lt)
        | (go_at_call 86; refine (number_p hP2).mono ?_; rintro e w3 ⟨hK3, hA⟩; rw [hq] at hA; replace hA : e = boom s y q := hA; subst hA))
      exact ⟨rfl, hK2.trans hK3, rfl⟩
    | ok t z =>
      go_enter Tryz.func64, Tryz.ntmps64
      go_wp2_with (first
        | (go_at_call 82; refine (part_ok hP0 hsk).mono ?_; rintro e w1 ⟨rfl, hP1, hK1⟩; have c2 := hP1.c2; have f2 := hP1.free 2; have hP2 : Ps b s (c :: r) (n + 1) (w1.setCell ⟨b, 2, none⟩ (.int .i64 ((n : Int) + 1))) := hP1.setCnt (n + 1) (by omega); have hK2 : Kept b w (w1.setCell ⟨b, 2, none⟩ (.int .i64 ((n : Int) + 1))) := (hK0.trans hK1).trans (Kept.set _ _ _ _); have hR2 : VAt (w1.setCell ⟨b, 2, none⟩ (.int .i64 ((n : Int) + 1))) w.heap.size (.int .i64 0) (.string ⟨#[]⟩) (.slice none 0 0) (.slice none 0 0) := (hR0.keep (hK1.block _ hR0.lt (by omega))).keep (Below.heap_setCell _ _ _ _ (by show w.heap.size ≠ b; omega)); have hsz := hR2.lt)
        | (go_at_call 86; refine (number_p hP2).mono ?_; rintro e w3 ⟨hK3, hA⟩; rw [hq] at hA; obtain ⟨rfl, hP3⟩ := hA; have hR3 := hR2.keep (hK3.block _ hR2.lt (by omega)))
        | ((with_reducible show wpList _ _ _ ({ op := Op.store 27 _ _, .. } :: _) _ _); refine wpList_store_V _ _ rfl rfl _ _ _ _ _ rfl rfl hR3 (ones_mk _ _ _ _ _ _ _ _) ?_))
      obtain ⟨g1, g2, g3⟩ := val_back (w0 := w) rfl hbl (hK2.trans hK3) (RV.plain _ _ 3 t) hP3
      exact ret_V rfl rfl rfl (setRow_V hR3 _ _ _ _) ⟨g1, _, rfl, g2, g3⟩
/-- What value reads, at every depth. -/
theorem value_any : ∀ (k : Nat), k ≤ 64 → ∀ (d : Int) (b : Nat) (s : List UInt8), d = 64 - (k : Int) → ValC k d b s
  | 0, hk, d, b, s, hd => value_step hk hd (fun j e => by cases e)
  | k + 1, hk, d, b, s, hd => value_step hk hd (fun j e => by
      obtain rfl : k = j := by omega
      exact value_any k (by omega) (d + 1) b s (by omega))
end Go.Proofs.YtmmpbjpeiclacaaGreatDoor
