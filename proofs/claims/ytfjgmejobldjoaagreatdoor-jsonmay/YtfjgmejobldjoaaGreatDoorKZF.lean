/- The contracts of the writer's value, and of Text. -/
import Derived.Test.YtfjgmejobldjoaaGreatDoorKZE
set_option linter.unusedVariables false
set_option linter.unusedSimpArgs false
namespace Go.Proofs.YtfjgmejobldjoaaGreatDoor
open Go.RowKit
set_option maxHeartbeats 4000000 in
set_option maxRecDepth 100000 in
theorem value_w : ∀ t, WrC t := by
  intro tr
  induction tr using Jsn.J.ind with
  | h k t ks cs ih =>
    intro v b w x hv hm hsz hW
    obtain ⟨kv, cv, rfl, hks, hcs⟩ := RV_mk.1 hv
    obtain ⟨a1, c1, rfl⟩ := hks.form
    obtain ⟨a2, c2, rfl⟩ := hcs.form
    rw [Jsn.sizeJ_mk] at hsz
    obtain ⟨d, n, m, hm⟩ := hm
    unfold Jsn.mayC at hm
    have hb := hW.lt
    rw [Jsn.textJ_mk]
    unfold WrPost
    have hB : ∀ o, Below w.heap.size w (w.alloc o) := fun o => (Below.refl _ _).alloc (Nat.le_refl _) _
    have hWB := fun o => hW.keep (hB o)
    have hkB : ∀ o, Wk b w (w.alloc o) := fun o => Wk.of (hB o) (by omega)
    have hcs' : ∀ o, RKs (· < b) (w.alloc o) cs (.slice a2 cs.length c2) := fun o => hcs.keep (hkB o).bel.size (fun k hq hl => ⟨hq, (hkB o).lt_block k hq⟩)
    have hks' : ∀ o, RTs (· < b) (w.alloc o) ks (.slice a1 ks.length c1) := fun o => hks.keep (hkB o).bel.size (fun k hq hl => ⟨hq, (hkB o).lt_block k hq⟩)
    split at hm
    · cases hm
    · by_cases h5 : k = 5
      · subst h5
        rw [if_pos rfl] at hm
        split at hm
        · rename_i hcond
          have hc := list_w cs ih (mayL_mem cs _ _ _ hm) (.int .i64 5) (.string (str t)) (.slice a1 ks.length c1) (.slice a2 cs.length c2) b _ x (hcs' _) (hWB (.cells #[.int .i64 5, .string (str t), .slice a1 ks.length c1, .slice a2 cs.length c2] 25)) (by omega) (by omega)
          rw [if_neg (by decide), if_neg (by decide), if_pos rfl]
          generalize putJ x (91 :: (Jsn.itemsJ true cs ++ [93])) = X at hc ⊢
          clear hm hcond
          go_enter Tryz.func26, Tryz.ntmps26
          go_wp2_with (first
            | (go_at_call 53; refine hc.mono ?_; rintro e w1 ⟨rfl, hk1, hW1⟩))
          go_end0
          exact ⟨rfl, (hkB _).trans hk1, hW1⟩
        · cases hm
      rw [if_neg h5] at hm
      by_cases h6 : k = 6
      · subst h6
        rw [if_pos rfl] at hm
        split at hm
        · rename_i hcond
          split at hm
          · rename_i hok
            have hc := table_w ks cs (by omega) (keys_text hok) (fun k hk => by have := Jsn.lenK_mem hk; omega) ih (mayL_mem cs _ _ _ hm) (.int .i64 6) (.string (str t)) (.slice a1 ks.length c1) (.slice a2 cs.length c2) b _ x (hks' _) (hcs' _) (hWB (.cells #[.int .i64 6, .string (str t), .slice a1 ks.length c1, .slice a2 cs.length c2] 25)) (by omega) (by omega)
            rw [if_neg (by decide), if_neg (by decide), if_neg (by decide), if_pos rfl]
            generalize putJ x (123 :: (Jsn.pairsJ true ks cs ++ [125])) = X at hc ⊢
            clear hm hcond hok
            go_enter Tryz.func26, Tryz.ntmps26
            go_wp2_with (first
              | (go_at_call 54; refine hc.mono ?_; rintro e w1 ⟨rfl, hk1, hW1⟩))
            go_end0
            exact ⟨rfl, (hkB _).trans hk1, hW1⟩
          · cases hm
        · cases hm
      rw [if_neg h6] at hm
      split at hm
      · rename_i hcond
        obtain ⟨hx1, hx2, hto⟩ := hcond
        clear hx1 hx2
        unfold Jsn.textOf at hto
        clear hm
        by_cases h1 : k = 1
        · subst h1
          rw [if_pos rfl]
          have hc := put_any Jsn.nullT (by decide) b _ x (hWB (.cells #[.int .i64 1, .string (str t), .slice a1 ks.length c1, .slice a2 cs.length c2] 25))
          generalize putJ x Jsn.nullT = X at hc ⊢
          clear hto
          go_enter Tryz.func26, Tryz.ntmps26
          go_wp2_with (first
            | (go_at_call 51; refine hc.mono ?_; rintro e w1 ⟨rfl, hk1, hW1⟩))
          go_end0
          exact ⟨rfl, (hkB _).trans hk1, hW1⟩
        rw [if_neg h1] at hto ⊢
        by_cases h4 : k = 4
        · subst h4
          rw [if_pos rfl]
          rw [if_neg (by decide), if_neg (by decide), if_pos rfl] at hto
          have hc := quote_any t (by omega) hto b _ x (hWB (.cells #[.int .i64 4, .string (str t), .slice a1 ks.length c1, .slice a2 cs.length c2] 25))
          generalize putJ x (Jsn.quoteJ t) = X at hc ⊢
          clear hto
          go_enter Tryz.func26, Tryz.ntmps26
          go_wp2_with (first
            | (go_at_call 52; refine hc.mono ?_; rintro e w1 ⟨rfl, hk1, hW1⟩))
          go_end0
          exact ⟨rfl, (hkB _).trans hk1, hW1⟩
        · rw [if_neg h4, if_neg h5, if_neg h6]
          have hc := put_any t (by omega) b _ x (hWB (.cells #[.int .i64 k, .string (str t), .slice a1 ks.length c1, .slice a2 cs.length c2] 25))
          generalize putJ x t = X at hc ⊢
          clear hto
          have q1 : (k == 1) = false := by simpa using h1
          have q4 : (k == 4) = false := by simpa using h4
          have q5 : (k == 5) = false := by simpa using h5
          have q6 : (k == 6) = false := by simpa using h6
          go_enter Tryz.func26, Tryz.ntmps26
          go_wp2_with (first
            | (go_at_call 51; refine hc.mono ?_; rintro e w1 ⟨rfl, hk1, hW1⟩))
          go_end0
          exact ⟨rfl, (hkB _).trans hk1, hW1⟩
      · cases hm
def textR (t : Jsn.J) : List UInt8 × Int := if Jsn.mayJ t = true then (if (Jsn.textJ t).length ≤ 65536 then (Jsn.textJ t, 0) else ([], 5)) else ([], 1)
theorem fresh_writer (w : World) : WS w.heap.size (w.alloc (.cells #[.slice none 0 0, .bool false] 54)) (some []) :=
  .has ⟨.slice none 0 0, val_new _ _, OwnsBytes.nil _ _, by simp [Value.ownBlock], by simp⟩
set_option maxHeartbeats 4000000 in
set_option maxRecDepth 100000 in
theorem Text_any (t : Jsn.J) (v : Value) (w : World) (hv : RV (fun _ => True) w t v) (hsz : Jsn.sizeJ t ≤ 1000000000) :
    Calls Tryz.prog 7 #[v] w fun e w' => e = .returned (.tuple #[.string (str (textR t).1), .int .i64 (textR t).2]) ∧ Below w.heap.size w w' := by
  obtain ⟨aa, na, ca, ab, nb, cb, rfl⟩ := hv.shape
  have hA : Below w.heap.size w (w.alloc (.cells #[.int .i64 t.kind, .string (str t.text), .slice aa na ca, .slice ab nb cb] 25)) := (Below.refl _ w).alloc (Nat.le_refl _) _
  have hb0 : (w.alloc (.cells #[.int .i64 t.kind, .string (str t.text), .slice aa na ca, .slice ab nb cb] 25)).heap[w.heap.size]? = some (.cells #[.int .i64 t.kind, .string (str t.text), .slice aa na ca, .slice ab nb cb] 25 (0, 0)) := val_new _ _
  have hM := May_any t _ _ (RV.keep (Q' := fun _ => True) hA.size (fun k _ hl => ⟨trivial, hA.block k hl⟩) hv) hsz
  unfold textR
  cases hmay : Jsn.mayJ t with
  | false =>
    rw [hmay] at hM
    rw [if_neg (by decide)]
    clear hmay
    go_enter Tryz.func7, Tryz.ntmps7
    go_wp2_with (first
      | (go_at_call 9; refine hM.mono ?_; rintro e w1 ⟨rfl, hB1⟩))
    go_ret2
    exact ⟨rfl, hA.trans (hB1.mono hA.size)⟩
  | true =>
    rw [hmay] at hM
    rw [if_pos rfl]
    have hM1 : May1 t := by
      unfold Jsn.mayJ at hmay
      obtain ⟨m, hm⟩ := Option.isSome_iff_exists.1 hmay
      exact ⟨0, 0, m, hm⟩
    clear hmay
    have hval := fun b W h1 h2 => value_w t (vv (.int .i64 t.kind) (.string (str t.text)) (.slice aa na ca) (.slice ab nb cb)) b W (some []) h1 hM1 hsz h2
    by_cases hl : (Jsn.textJ t).length ≤ 65536
    · rw [if_pos hl]
      rw [putJ_yes (by simpa using hl), List.nil_append] at hval
      generalize Jsn.textJ t = q at hval hl ⊢
      go_enter Tryz.func7, Tryz.ntmps7
      go_wp2_with (first
        | (go_at_call 9; refine hM.mono ?_; rintro e w1 ⟨rfl, hB1⟩; have hs1 := hB1.size; have hfw := fresh_writer w1; have hB2 : Below w1.heap.size w1 (w1.alloc (.cells #[.slice none 0 0, .bool false] 54)) := (Below.refl _ _).alloc (Nat.le_refl _) _; have hBB := bel (bel hA hB1) hB2; have hb1 := (hB2.block w.heap.size (by simp at hs1; omega)).trans ((hB1.block w.heap.size (by simp)).trans hb0); have d0 : (w1.alloc (.cells #[.slice none 0 0, .bool false] 54)).cell? ⟨w.heap.size, 0, none⟩ = some (.int .i64 t.kind) := by { rw [Lib.cell_of_heap hb1]; rfl }; have d1 : (w1.alloc (.cells #[.slice none 0 0, .bool false] 54)).cell? ⟨w.heap.size, 1, none⟩ = some (.string (str t.text)) := by { rw [Lib.cell_of_heap hb1]; rfl }; have d2 : (w1.alloc (.cells #[.slice none 0 0, .bool false] 54)).cell? ⟨w.heap.size, 2, none⟩ = some (.slice aa na ca) := by { rw [Lib.cell_of_heap hb1]; rfl }; have d3 : (w1.alloc (.cells #[.slice none 0 0, .bool false] 54)).cell? ⟨w.heap.size, 3, none⟩ = some (.slice ab nb cb) := by { rw [Lib.cell_of_heap hb1]; rfl }; have hV := hval w1.heap.size _ (RV.keep hBB.size (fun k _ hl => ⟨by simp at hs1; omega, hBB.block k hl⟩) hv) hfw)
        | (go_at_call 26; refine hV.mono ?_; rintro e w2 ⟨rfl, hk2, hW2⟩; obtain ⟨vo, hbo, hown, hne, hol⟩ : WAt w1.heap.size w2 q false := by { cases hW2; assumption }; have hcv := conv_owned hown; have g0 : w2.cell? ⟨w1.heap.size, 0, none⟩ = some vo := by { rw [Lib.cell_of_heap hbo]; rfl }; have g1 : w2.cell? ⟨w1.heap.size, 1, none⟩ = some (.bool false) := by { rw [Lib.cell_of_heap hbo]; rfl }))
      go_ret2
      exact ⟨rfl, hBB.trans (hk2.bel.mono (by simp at hs1; omega))⟩
    · rw [if_neg hl]
      rw [putJ_no (by simpa using hl)] at hval
      clear hl
      go_enter Tryz.func7, Tryz.ntmps7
      go_wp2_with (first
        | (go_at_call 9; refine hM.mono ?_; rintro e w1 ⟨rfl, hB1⟩; have hs1 := hB1.size; have hfw := fresh_writer w1; have hB2 : Below w1.heap.size w1 (w1.alloc (.cells #[.slice none 0 0, .bool false] 54)) := (Below.refl _ _).alloc (Nat.le_refl _) _; have hBB := bel (bel hA hB1) hB2; have hb1 := (hB2.block w.heap.size (by simp at hs1; omega)).trans ((hB1.block w.heap.size (by simp)).trans hb0); have d0 : (w1.alloc (.cells #[.slice none 0 0, .bool false] 54)).cell? ⟨w.heap.size, 0, none⟩ = some (.int .i64 t.kind) := by { rw [Lib.cell_of_heap hb1]; rfl }; have d1 : (w1.alloc (.cells #[.slice none 0 0, .bool false] 54)).cell? ⟨w.heap.size, 1, none⟩ = some (.string (str t.text)) := by { rw [Lib.cell_of_heap hb1]; rfl }; have d2 : (w1.alloc (.cells #[.slice none 0 0, .bool false] 54)).cell? ⟨w.heap.size, 2, none⟩ = some (.slice aa na ca) := by { rw [Lib.cell_of_heap hb1]; rfl }; have d3 : (w1.alloc (.cells #[.slice none 0 0, .bool false] 54)).cell? ⟨w.heap.size, 3, none⟩ = some (.slice ab nb cb) := by { rw [Lib.cell_of_heap hb1]; rfl }; have hV := hval w1.heap.size _ (RV.keep hBB.size (fun k _ hl => ⟨by simp at hs1; omega, hBB.block k hl⟩) hv) hfw)
        | (go_at_call 26; refine hV.mono ?_; rintro e w2 ⟨rfl, hk2, hW2⟩; obtain ⟨out, vo, hbo, hown, hne, hol⟩ : ∃ out, WAt w1.heap.size w2 out true := by { cases hW2; exact ⟨_, by assumption⟩ }; have g1 : w2.cell? ⟨w1.heap.size, 1, none⟩ = some (.bool true) := by { rw [Lib.cell_of_heap hbo]; rfl }))
      go_ret2
      exact ⟨rfl, hBB.trans (hk2.bel.mono (by simp at hs1; omega))⟩
end Go.Proofs.YtfjgmejobldjoaaGreatDoor
