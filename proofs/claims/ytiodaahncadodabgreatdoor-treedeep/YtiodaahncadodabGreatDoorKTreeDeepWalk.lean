/- The walk of the law TreeDeep, out of the contracts. -/
import Derived.Test.YtiodaahncadodabGreatDoorKTreTV
import Derived.Test.YtiodaahncadodabGreatDoorKTreM
set_option linter.unusedVariables false
set_option linter.unusedSimpArgs false
namespace Go.Proofs.YtiodaahncadodabGreatDoor.treeDeep
open Go.RowKit
theorem cells_app (a b : List UInt8) : cellsB (a ++ b) = cellsB a ++ cellsB b := by unfold cellsB; rw [List.map_append]
theorem own_empty (w : World) (B : Nat) (hB : B ≤ w.heap.size) : OwnsBytes (w.alloc (.cells #[] 5)) B (.slice (some ⟨w.heap.size, 0, none⟩) 0 0) [] :=
  ⟨rfl, .inr ⟨w.heap.size, 0, #[], rfl, hB, heap_new w _, Nat.le_refl _, by unfold maxLen; omega, rfl, rfl⟩⟩
theorem parse3R (n : Nat) (h : n < 100) : (n ≤ 64 → ∃ ns, parseR (Tre.rep3 n) = (ns, 0) ∧ Tre.deepN ns = n) ∧ (64 < n → parseR (Tre.rep3 n) = ([], 8)) := by
  have hA : allR (Tre.rep3 n) = (Tk.all (Tk.clean (Tre.rep3 n)), 0) := by
    unfold allR
    rw [if_neg]
    rw [Tre.clean3, Tre.all3, List.length_replicate, Tre.rep3_len]
    omega
  have h3 := Tre.parse3 n
  refine ⟨fun h1 => ?_, fun h1 => ?_⟩
  · obtain ⟨ns, p1, p2, p3, p4⟩ := h3.1 h1
    refine ⟨ns, ?_, p3⟩
    unfold parseR
    rw [hA, if_pos rfl]
    simp only [p1]
  · unfold parseR
    rw [hA, if_pos rfl]
    simp only [h3.2 h1]
theorem parse4R (m : Nat) (h : m < 6000) : (m < 4096 → ∃ ns, parseR (Tre.rep4 m) = (ns, 0) ∧ ns.length = m + 1) ∧ (4096 ≤ m → parseR (Tre.rep4 m) = ([], 5)) := by
  have hA : allR (Tre.rep4 m) = (Tk.all (Tk.clean (Tre.rep4 m)), 0) := by
    unfold allR
    rw [if_neg]
    rw [Tre.clean4, Tre.all4, List.length_replicate, Tre.rep4_len]
    omega
  have h3 := Tre.parse4 m
  refine ⟨fun h1 => ?_, fun h1 => ?_⟩
  · obtain ⟨ns, p1, p4⟩ := h3.1 h1
    refine ⟨ns, ?_, p4⟩
    unfold parseR
    rw [hA, if_pos rfl]
    simp only [p1]
  · unfold parseR
    rw [hA, if_pos rfl]
    simp only [h3.2 h1]
set_option maxHeartbeats 8000000 in
set_option maxRecDepth 100000 in
theorem walk (a0 a1 : Int) (w : World) (h0 : (Lit.int .u16 a0).wf = true) (h1 : (Lit.int .u16 a1).wf = true) (hT : EnvT w) :
    Calls Tryz.prog 3 #[.int .u16 a0, .int .u16 a1] w fun e w' => e = .returned (.bool true) ∧ Below w.heap.size w w' := by
  have HT : Hid (EnvT w) := hT
  clear hT
  simp only [Lit.wf, Bool.and_eq_true, decide_eq_true_eq] at h0 h1
  have h0' : 0 ≤ a0 ∧ a0 ≤ 65535 := h0
  have h1' : 0 ≤ a1 ∧ a1 ≤ 65535 := h1
  obtain ⟨n0, rfl⟩ : ∃ n : Nat, a0 = (n : Int) := ⟨a0.toNat, by omega⟩
  obtain ⟨m0, rfl⟩ : ∃ n : Nat, a1 = (n : Int) := ⟨a1.toNat, by omega⟩
  have hn0 : n0 ≤ 65535 := by omega
  have hm0 : m0 ≤ 65535 := by omega
  clear h0 h1 h0' h1'
  have r1 : Int.tmod (n0 : Int) 100 = ((n0 % 100 : Nat) : Int) := by rw [Int.tmod_eq_emod_of_nonneg (by omega)]; omega
  have r2 : Int.tmod (m0 : Int) 6000 = ((m0 % 6000 : Nat) : Int) := by rw [Int.tmod_eq_emod_of_nonneg (by omega)]; omega
  have hn : n0 % 100 < 100 := Nat.mod_lt _ (by decide)
  have hm : m0 % 6000 < 6000 := Nat.mod_lt _ (by decide)
  generalize n0 % 100 = n at *
  generalize m0 % 6000 = m at *
  obtain ⟨i0, hi, hz0, hz1, hz2⟩ := info_parts infoByte
  have HOE := hideT (own_empty w w.heap.size (Nat.le_refl _))
  have HBE : Hid (Below w.heap.size w (w.alloc (.cells #[] 5))) := (Below.refl _ w).alloc (Nat.le_refl _) _
  go_enter Tryz.func3, Tryz.ntmps3
  go_upto_region 3 with fail
  generalize hWE : (w.alloc (.cells #[] 5)) = WE at *
  generalize hvE : Value.slice (some ⟨w.heap.size, 0, none⟩) 0 0 = vE at *
  clear hWE hvE r1 r2 hn0 hm0
  go_wp2
  go_loopw [21, 7] (fun i v wr => ∃ k : Nat, i = .int .i64 k ∧ k ≤ n ∧ Hid (OwnsBytes wr w.heap.size v (Tre.rep3 k)) ∧ Hid (Below w.heap.size w wr)) (fun i _ _ => n - (intOf i).toNat)
  case atStart => exact ⟨0, rfl, Nat.zero_le _, HOE, HBE⟩
  case round =>
    obtain ⟨k, rfl, hk, HO, HB⟩ := hrel
    rename World => X
    by_cases hkn : k < n
    · have HK : Hid (k + 1 ≤ n) := hkn
      have hzl := Tre.rep3_len k
      go_wp2_with (at_builtin; refine Lib.wpList_append_own_string _ rfl _ _ 23 9 rfl w.heap.size 5 i0 Tryz.underlying23 Tryz.underlying9 hi hz0 hz1 hz2 _ _ _ rfl HO.out (⟨#[60, 98, 62]⟩ : ByteArray) rfl (by rw [hzl]; unfold maxLen; show 3 * k + 3 ≤ _; omega) (by rw [hzl]; show 3 * k + 3 ≤ _; omega) HB.out.size ?_; intro v' w' hO' hg' _; have HO' : Hid (OwnsBytes w' w.heap.size v' (Tre.rep3 (k + 1))) := (by show w'.ownsRow _ _ 1 v' (Tre.rep3 (k + 1)).length (cellsB (Tre.rep3 (k + 1))); rw [← Tre.rep3_snoc, cells_app, List.length_append]; exact hO'); have HB' := hideT (HB.out.grown hg' HB.out.size (fun k2 e2 => (World.ownsRow.lt HO.out k2 e2).1)); clear hO' hg')
      go_roundw
      case rel => exact ⟨k + 1, by go_num, HK.out, HO', HB'⟩
      case measure => have := HK.out; simp [intOf]; omega
    · have hke : k = n := by omega
      subst hke
      have hcv := conv_owned HO.out
      have hP := Parse_any (Tre.rep3 k) X (HT.out.below HB.out)
      by_cases h64 : k ≤ 64
      · obtain ⟨ns, hp1, hp2⟩ := (parse3R k hn).1 h64
        obtain ⟨b, hW, hbn, hmay, hdeep, hlen, _, hfit⟩ := parse_fits (Tre.rep3 k) (by rw [hp1])
        rw [hp1] at hP hmay hlen hfit
        simp only at hmay hlen hfit
        have HDp := hideT (fun W v h => Deep_any ns v W h (by omega) (fun _ i hi => by have := hfit i hi; omega))
        rw [hp2] at HDp
        have i1 : (k : Int) ≤ 64 := by omega
        have i2 : ¬ (64 : Int) < (k : Int) := by omega
        clear hW hbn hmay hdeep hfit hp1 hp2 hlen h64
        go_upto_region 8 with (go_at_call 4; refine hP.mono ?_; rintro e w1 ⟨v, rfl, hR, hb1⟩; obtain ⟨a, c, rfl⟩ := hR.form)
        have hbA : Below w1.heap.size w1 (w1.alloc (.cells #[.slice a ns.length c] 26)) := (Below.refl _ _).alloc (Nat.le_refl _) _
        have cd := doc_one (heap_new w1 (.cells #[.slice a ns.length c] 26))
        have HR2 := hideT (hR.below hbA)
        have HB2 := hideT (HB.out.trans ((bel hb1 hbA).mono HB.out.size))
        have hds := cell_lt cd
        generalize (w1.alloc (.cells #[.slice a ns.length c] 26)) = W2 at *
        generalize w1.heap.size = b at *
        clear hR hP hbA hb1 hcv HO
        go_upto_region 10 with (go_at_call 5; refine (HDp.out _ _ HR2.out).mono ?_; rintro e w3 ⟨rfl, b3⟩; have HB3 := hideT (HB2.out.trans (b3.mono HB2.out.size)); clear b3)
        clear HDp HR2 cd hds i1 i2
        rename World => X3
        have HOE2 := hideT (own_empty X3 w.heap.size HB3.out.size)
        have HBE2 : Hid (Below w.heap.size w (X3.alloc (.cells #[] 5))) := HB3.out.alloc HB3.out.size _
        go_upto_region 11 with fail
        generalize hWE : (X3.alloc (.cells #[] 5)) = WE2 at *
        generalize hvE : Value.slice (some ⟨X3.heap.size, 0, none⟩) 0 0 = vE2 at *
        clear hWE hvE
        go_wp2
        go_loopw [60, 10] (fun i v wr => ∃ j : Nat, i = .int .i64 j ∧ j ≤ m ∧ Hid (OwnsBytes wr w.heap.size v (Tre.rep4 j)) ∧ Hid (Below w.heap.size w wr)) (fun i _ _ => m - (intOf i).toNat)
        case atStart => exact ⟨0, rfl, Nat.zero_le _, HOE2, HBE2⟩
        case round =>
          obtain ⟨j, rfl, hj, HO, HBy⟩ := hrel
          rename World => Y
          by_cases hjm : j < m
          · have HK : Hid (j + 1 ≤ m) := hjm
            have hzl := Tre.rep4_len j
            go_wp2_with (at_builtin; refine Lib.wpList_append_own_string _ rfl _ _ 23 9 rfl w.heap.size 5 i0 Tryz.underlying23 Tryz.underlying9 hi hz0 hz1 hz2 _ _ _ rfl HO.out (⟨#[60, 98, 114, 62]⟩ : ByteArray) rfl (by rw [hzl]; unfold maxLen; show 4 * j + 4 ≤ _; omega) (by rw [hzl]; show 4 * j + 4 ≤ _; omega) HBy.out.size ?_; intro v' w' hO' hg' _; have HO' : Hid (OwnsBytes w' w.heap.size v' (Tre.rep4 (j + 1))) := (by show w'.ownsRow _ _ 1 v' (Tre.rep4 (j + 1)).length (cellsB (Tre.rep4 (j + 1))); rw [← Tre.rep4_snoc, cells_app, List.length_append]; exact hO'); have HB' := hideT (HBy.out.grown hg' HBy.out.size (fun k2 e2 => (World.ownsRow.lt HO.out k2 e2).1)); clear hO' hg')
            go_roundw
            case rel => exact ⟨j + 1, by go_num, HK.out, HO', HB'⟩
            case measure => have := HK.out; simp [intOf]; omega
          · have hje : j = m := by omega
            subst hje
            have hcv := conv_owned HO.out
            have hP := Parse_any (Tre.rep4 j) Y (HT.out.below HBy.out)
            by_cases h96 : j < 4096
            · obtain ⟨ns2, hp1, hp2⟩ := (parse4R j hm).1 h96
              rw [hp1] at hP
              have i1 : (j : Int) < 4096 := by omega
              have d1 : decide ((j : Int) < 4096) = true := decide_eq_true i1
              have q9 : ((ns2.length : Int) == (j : Int) + 1) = true := by simp [hp2]
              clear hp1 h96 hp2
              go_upto_region 16 with (go_at_call 4; refine hP.mono ?_; rintro e w1 ⟨v, rfl, hR, hb1⟩; obtain ⟨a, c, rfl⟩ := hR.form)
              have hbA : Below w1.heap.size w1 (w1.alloc (.cells #[.slice a ns2.length c] 26)) := (Below.refl _ _).alloc (Nat.le_refl _) _
              have cd := doc_one (heap_new w1 (.cells #[.slice a ns2.length c] 26))
              have HBz := hideT (HBy.out.trans ((bel hb1 hbA).mono HBy.out.size))
              generalize (w1.alloc (.cells #[.slice a ns2.length c] 26)) = W9 at *
              generalize w1.heap.size = b9 at *
              clear hR hP hbA hb1 hcv HO
              go_wp2_with (go_at_call 6; refine (alive13_any _ (HT.out.below HBz.out)).mono ?_; rintro e w6 ⟨rfl, b6⟩; have HB6 := hideT (HBz.out.trans (b6.mono HBz.out.size)); clear b6)
              go_ret
              exact ⟨rfl, HB6.out⟩
            · have hp1 := (parse4R j hm).2 (by omega)
              rw [hp1] at hP
              have i1 : ¬ (j : Int) < 4096 := by omega
              have d1 : decide ((j : Int) < 4096) = false := decide_eq_false i1
              clear hp1 h96
              go_upto_region 16 with (go_at_call 4; refine hP.mono ?_; rintro e w1 ⟨v, rfl, hR, hb1⟩; obtain ⟨a, c, rfl⟩ := hR.form)
              have hbA : Below w1.heap.size w1 (w1.alloc (.cells #[.slice a 0 c] 26)) := (Below.refl _ _).alloc (Nat.le_refl _) _
              have HBz := hideT (HBy.out.trans ((bel hb1 hbA).mono HBy.out.size))
              generalize (w1.alloc (.cells #[.slice a 0 c] 26)) = W9 at *
              generalize w1.heap.size = b9 at *
              clear hR hP hbA hb1 hcv HO
              go_wp2_with (go_at_call 6; refine (alive13_any _ (HT.out.below HBz.out)).mono ?_; rintro e w6 ⟨rfl, b6⟩; have HB6 := hideT (HBz.out.trans (b6.mono HBz.out.size)); clear b6)
              go_ret
              exact ⟨rfl, HB6.out⟩
      · have hp1 := (parse3R k hn).2 (by omega)
        rw [hp1] at hP
        have i1 : ¬ (k : Int) ≤ 64 := by omega
        have i2 : (64 : Int) < (k : Int) := by omega
        clear hp1 h64
        go_upto_region 8 with (go_at_call 4; refine hP.mono ?_; rintro e w1 ⟨v, rfl, hR, hb1⟩; obtain ⟨a, c, rfl⟩ := hR.form)
        have hbA : Below w1.heap.size w1 (w1.alloc (.cells #[.slice a 0 c] 26)) := (Below.refl _ _).alloc (Nat.le_refl _) _
        have cd := doc_one (heap_new w1 (.cells #[.slice a 0 c] 26))
        have HB2 := hideT (HB.out.trans ((bel hb1 hbA).mono HB.out.size))
        generalize (w1.alloc (.cells #[.slice a 0 c] 26)) = W2 at *
        generalize w1.heap.size = b at *
        clear hR hP hbA hb1 hcv HO
        go_upto_region 10 with fail
        clear cd i1 i2
        have HOE2 := hideT (own_empty W2 w.heap.size HB2.out.size)
        have HBE2 : Hid (Below w.heap.size w (W2.alloc (.cells #[] 5))) := HB2.out.alloc HB2.out.size _
        go_upto_region 11 with fail
        generalize hWE : (W2.alloc (.cells #[] 5)) = WE2 at *
        generalize hvE : Value.slice (some ⟨W2.heap.size, 0, none⟩) 0 0 = vE2 at *
        clear hWE hvE
        go_wp2
        go_loopw [60, 10] (fun i v wr => ∃ j : Nat, i = .int .i64 j ∧ j ≤ m ∧ Hid (OwnsBytes wr w.heap.size v (Tre.rep4 j)) ∧ Hid (Below w.heap.size w wr)) (fun i _ _ => m - (intOf i).toNat)
        case atStart => exact ⟨0, rfl, Nat.zero_le _, HOE2, HBE2⟩
        case round =>
          obtain ⟨j, rfl, hj, HO, HBy⟩ := hrel
          rename World => Y
          by_cases hjm : j < m
          · have HK : Hid (j + 1 ≤ m) := hjm
            have hzl := Tre.rep4_len j
            go_wp2_with (at_builtin; refine Lib.wpList_append_own_string _ rfl _ _ 23 9 rfl w.heap.size 5 i0 Tryz.underlying23 Tryz.underlying9 hi hz0 hz1 hz2 _ _ _ rfl HO.out (⟨#[60, 98, 114, 62]⟩ : ByteArray) rfl (by rw [hzl]; unfold maxLen; show 4 * j + 4 ≤ _; omega) (by rw [hzl]; show 4 * j + 4 ≤ _; omega) HBy.out.size ?_; intro v' w' hO' hg' _; have HO' : Hid (OwnsBytes w' w.heap.size v' (Tre.rep4 (j + 1))) := (by show w'.ownsRow _ _ 1 v' (Tre.rep4 (j + 1)).length (cellsB (Tre.rep4 (j + 1))); rw [← Tre.rep4_snoc, cells_app, List.length_append]; exact hO'); have HB' := hideT (HBy.out.grown hg' HBy.out.size (fun k2 e2 => (World.ownsRow.lt HO.out k2 e2).1)); clear hO' hg')
            go_roundw
            case rel => exact ⟨j + 1, by go_num, HK.out, HO', HB'⟩
            case measure => have := HK.out; simp [intOf]; omega
          · have hje : j = m := by omega
            subst hje
            have hcv := conv_owned HO.out
            have hP := Parse_any (Tre.rep4 j) Y (HT.out.below HBy.out)
            by_cases h96 : j < 4096
            · obtain ⟨ns2, hp1, hp2⟩ := (parse4R j hm).1 h96
              rw [hp1] at hP
              have i1 : (j : Int) < 4096 := by omega
              have d1 : decide ((j : Int) < 4096) = true := decide_eq_true i1
              have q9 : ((ns2.length : Int) == (j : Int) + 1) = true := by simp [hp2]
              clear hp1 h96 hp2
              go_upto_region 16 with (go_at_call 4; refine hP.mono ?_; rintro e w1 ⟨v, rfl, hR, hb1⟩; obtain ⟨a, c, rfl⟩ := hR.form)
              have hbA : Below w1.heap.size w1 (w1.alloc (.cells #[.slice a ns2.length c] 26)) := (Below.refl _ _).alloc (Nat.le_refl _) _
              have cd := doc_one (heap_new w1 (.cells #[.slice a ns2.length c] 26))
              have HBz := hideT (HBy.out.trans ((bel hb1 hbA).mono HBy.out.size))
              generalize (w1.alloc (.cells #[.slice a ns2.length c] 26)) = W9 at *
              generalize w1.heap.size = b9 at *
              clear hR hP hbA hb1 hcv HO
              go_wp2_with (go_at_call 6; refine (alive13_any _ (HT.out.below HBz.out)).mono ?_; rintro e w6 ⟨rfl, b6⟩; have HB6 := hideT (HBz.out.trans (b6.mono HBz.out.size)); clear b6)
              go_ret
              exact ⟨rfl, HB6.out⟩
            · have hp1 := (parse4R j hm).2 (by omega)
              rw [hp1] at hP
              have i1 : ¬ (j : Int) < 4096 := by omega
              have d1 : decide ((j : Int) < 4096) = false := decide_eq_false i1
              clear hp1 h96
              go_upto_region 16 with (go_at_call 4; refine hP.mono ?_; rintro e w1 ⟨v, rfl, hR, hb1⟩; obtain ⟨a, c, rfl⟩ := hR.form)
              have hbA : Below w1.heap.size w1 (w1.alloc (.cells #[.slice a 0 c] 26)) := (Below.refl _ _).alloc (Nat.le_refl _) _
              have HBz := hideT (HBy.out.trans ((bel hb1 hbA).mono HBy.out.size))
              generalize (w1.alloc (.cells #[.slice a 0 c] 26)) = W9 at *
              generalize w1.heap.size = b9 at *
              clear hR hP hbA hb1 hcv HO
              go_wp2_with (go_at_call 6; refine (alive13_any _ (HT.out.below HBz.out)).mono ?_; rintro e w6 ⟨rfl, b6⟩; have HB6 := hideT (HBz.out.trans (b6.mono HBz.out.size)); clear b6)
              go_ret
              exact ⟨rfl, HB6.out⟩
end Go.Proofs.YtiodaahncadodabGreatDoor.treeDeep
