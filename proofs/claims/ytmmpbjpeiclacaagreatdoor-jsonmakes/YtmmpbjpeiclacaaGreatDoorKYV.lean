/- The contract of Parse. -/
import Derived.Test.YtmmpbjpeiclacaaGreatDoorKYU
set_option linter.unusedVariables false
set_option linter.unusedSimpArgs false
namespace Go.Proofs.YtmmpbjpeiclacaaGreatDoor
open Go.RowKit
theorem RV.zero (Q : Nat → Prop) (w : World) : RV Q w Jsn.J.zero vz := RV.plain Q w 0 []
set_option maxHeartbeats 4000000 in
set_option maxRecDepth 100000 in
theorem Parse_any (l : List UInt8) (w : World) (hl : l.length ≤ 1000000000) :
    Calls Tryz.prog 19 #[.string (str l)] w fun e w' => Below w.heap.size w w' ∧ ∃ v, e = .returned (.tuple #[v, fv (Jsn.faultJ l).1 (Jsn.faultJ l).2]) ∧ RV (w.heap.size ≤ ·) w' (Jsn.parseJ l) v := by
  have hzv := (zero_of_info zeroVal).1
  have hzf := (zero_of_info zeroFault).1
  have hz := str_size l
  have hB0 : Below w.heap.size w ((w.alloc (.cells z4 27)).alloc (.cells #[.int .i64 0, .int .i64 0] 41)) := ((Below.refl _ w).alloc (Nat.le_refl _) _).alloc (by simp) _
  have hV0 : VAt ((w.alloc (.cells z4 27)).alloc (.cells #[.int .i64 0, .int .i64 0] 41)) w.heap.size (.int .i64 0) (.string ⟨#[]⟩) (.slice none 0 0) (.slice none 0 0) := by
    unfold VAt
    rw [Lib.alloc_old _ _ _ (by simp)]
    exact heap_alloc_last w _
  have hF0 : FAt ((w.alloc (.cells z4 27)).alloc (.cells #[.int .i64 0, .int .i64 0] 41)) (w.heap.size + 1) 0 0 := by
    unfold FAt
    have e : w.heap.size + 1 = (w.alloc (.cells z4 27)).heap.size := by simp
    rw [e]
    exact heap_alloc_last _ _
  by_cases hlong : 65536 < l.length
  · have hp : Jsn.parseJ l = .zero := by unfold Jsn.parseJ; rw [if_pos hlong]
    have hf : Jsn.faultJ l = (5, 0) := by unfold Jsn.faultJ; rw [if_pos hlong]
    rw [hp, hf]
    have hF5 : FAt ((w.alloc (.cells z4 27)).alloc (.cells #[.int .i64 5, .int .i64 0] 41)) (w.heap.size + 1) 5 0 := by
      unfold FAt
      have e : w.heap.size + 1 = (w.alloc (.cells z4 27)).heap.size := by simp
      rw [e]
      exact heap_alloc_last _ _
    have hli : (65536 : Int) < (l.length : Int) := by omega
    go_enter Tryz.func19, Tryz.ntmps19
    go_wp2_with fail
    refine bodyPost_ret (results_vf rfl rfl rfl (x0 := .int .i64 0) (x1 := .string ⟨#[]⟩) (x2 := .slice none 0 0) (x3 := .slice none 0 0) ?_ hF5) rfl ⟨((Below.refl _ w).alloc (Nat.le_refl _) _).alloc (by simp) _, _, rfl, RV.zero _ _⟩
    unfold VAt
    rw [Lib.alloc_old _ _ _ (by simp)]
    exact heap_alloc_last w _
  have hT := IsText_any l
  have hW0s : w.heap.size + 2 = ((w.alloc (.cells z4 27)).alloc (.cells #[.int .i64 0, .int .i64 0] 41)).heap.size := by simp
  have hs0 := Nat.le_of_eq hW0s
  clear hW0s
  by_cases htx : Utf.isText l = false
  · have hp : Jsn.parseJ l = .zero := by unfold Jsn.parseJ; rw [if_neg hlong, if_pos htx]
    have hf : Jsn.faultJ l = (9, 0) := by unfold Jsn.faultJ; rw [if_neg hlong, if_pos htx]
    rw [hp, hf]
    have hli : ¬ (65536 : Int) < (l.length : Int) := by omega
    simp only [htx] at hT
    go_enter Tryz.func19, Tryz.ntmps19
    go_wp2_with (first
      | (go_at_call 41; refine (hT _).mono ?_; rintro e w1 ⟨rfl, hb1⟩; have hV1 := hV0.keep (hb1.block _ hV0.lt); have hF1 := hF0.keep (hb1.block _ hF0.lt); have hs1 : w.heap.size + 2 ≤ w1.heap.size := Nat.le_trans hs0 hb1.size; have u0 : w1.cell? ⟨w.heap.size + 1, 0, none⟩ = some (.int .i64 0) := hF1.cell 0; have u1 : w1.cell? ⟨w.heap.size + 1, 1, none⟩ = some (.int .i64 0) := hF1.cell 1; have k0 := hF1.free 0; have k1 := hF1.free 1; have v0 : w1.cell? ⟨w.heap.size, 0, none⟩ = some (.int .i64 0) := hV1.cell 0; have v1 : w1.cell? ⟨w.heap.size, 1, none⟩ = some (.string ⟨#[]⟩) := hV1.cell 1; have v2 : w1.cell? ⟨w.heap.size, 2, none⟩ = some (.slice none 0 0) := hV1.cell 2; have v3 : w1.cell? ⟨w.heap.size, 3, none⟩ = some (.slice none 0 0) := hV1.cell 3; have g0 := hV1.free 0; have g1 := hV1.free 1; have g2 := hV1.free 2; have g3 := hV1.free 3))
    have hc := store_world (y := 9) (a := 0) (.int .i64 0) (.string ⟨#[]⟩) (.slice none 0 0) (.slice none 0 0) hV1 hF1 (by omega) (by omega)
    generalize ((((((w1.setCell ⟨w.heap.size, 0, none⟩ (.int .i64 0)).setCell ⟨w.heap.size, 1, none⟩ (.string ⟨#[]⟩)).setCell ⟨w.heap.size, 2, none⟩ (.slice none 0 0)).setCell ⟨w.heap.size, 3, none⟩ (.slice none 0 0)).setCell ⟨w.heap.size + 1, 0, none⟩ (.int .i64 9)).setCell ⟨w.heap.size + 1, 1, none⟩ (.int .i64 0)) = W4 at hc ⊢
    obtain ⟨hV4, hF4, hs4, ho4, ht4, hp4, hO4⟩ := hc
    have hbw := hB0.trans (hb1.mono (Nat.le_trans (Nat.le_add_right _ 2) hs0))
    refine bodyPost_ret (results_vf rfl rfl rfl hV4 hF4) rfl ⟨⟨ho4.trans hbw.os, ht4.trans hbw.tape, hp4.trans hbw.output, by have := hbw.size; omega, fun k hk => (hO4 k (by omega) (by omega)).trans (hbw.block k hk)⟩, _, rfl, RV.zero _ _⟩
  have htx2 : Utf.isText l = true := by simpa using htx
  have hli : ¬ (65536 : Int) < (l.length : Int) := by omega
  simp only [htx2] at hT
  have hfn := Jsn.whole_fine l
  have hWp : ∀ w1 : World, Calls Tryz.prog 42 #[.pointer (some ⟨w1.heap.size, 0, none⟩)] (w1.alloc (.cells #[.string (str l), .int .i64 0, .int .i64 0] 78)) (WPost w1.heap.size l (w1.alloc (.cells #[.string (str l), .int .i64 0, .int .i64 0] 78))) := fun w1 => whole_any ⟨by have := heap_alloc_last w1 (.cells #[.string (str l), .int .i64 0, .int .i64 0] 78); simpa using this, List.suffix_refl _, by omega, by omega⟩
  cases hw : Jsn.wholeR l with
  | err y q =>
    rw [hw] at hfn
    have hp : Jsn.parseJ l = .zero := by unfold Jsn.parseJ; rw [if_neg hlong, if_neg htx, hw]
    have hf : Jsn.faultJ l = (y, (l.length : Int) - q) := by unfold Jsn.faultJ; rw [if_neg hlong, if_neg htx, hw]
    rw [hp, hf]
    have hql : q ≤ l.length := hfn.2.1
    have hqe : (l.length : Int) - (q : Int) = ((l.length - q : Nat) : Int) := by omega
    rw [hqe]
    go_enter Tryz.func19, Tryz.ntmps19
    go_wp2_with (first
      | (go_at_call 41; refine (hT _).mono ?_; rintro e w1 ⟨rfl, hb1⟩; have hV1 := hV0.keep (hb1.block _ hV0.lt); have hF1 := hF0.keep (hb1.block _ hF0.lt); have hs1 : w.heap.size + 2 ≤ w1.heap.size := Nat.le_trans hs0 hb1.size)
      | (go_at_call 42; refine (hWp w1).mono ?_; rintro e w2 ⟨hK2, hA⟩; rw [hw] at hA; replace hA : e = .returned (.tuple #[vz, fv y ((l.length - q : Nat) : Int)]) := hA; subst hA; have hs2 := hK2.size; have hV2 := (hV1.keep (Lib.alloc_old w1 (.cells #[.string (str l), .int .i64 0, .int .i64 0] 78) _ hV1.lt)).keep (hK2.block _ (by simp; omega) (by omega)); have hF2 := (hF1.keep (Lib.alloc_old w1 (.cells #[.string (str l), .int .i64 0, .int .i64 0] 78) _ hF1.lt)).keep (hK2.block _ (by simp; omega) (by omega)); have u0 : w2.cell? ⟨w.heap.size + 1, 0, none⟩ = some (.int .i64 0) := hF2.cell 0; have u1 : w2.cell? ⟨w.heap.size + 1, 1, none⟩ = some (.int .i64 0) := hF2.cell 1; have k0 := hF2.free 0; have k1 := hF2.free 1; have v0 : w2.cell? ⟨w.heap.size, 0, none⟩ = some (.int .i64 0) := hV2.cell 0; have v1 : w2.cell? ⟨w.heap.size, 1, none⟩ = some (.string ⟨#[]⟩) := hV2.cell 1; have v2 : w2.cell? ⟨w.heap.size, 2, none⟩ = some (.slice none 0 0) := hV2.cell 2; have v3 : w2.cell? ⟨w.heap.size, 3, none⟩ = some (.slice none 0 0) := hV2.cell 3; have g0 := hV2.free 0; have g1 := hV2.free 1; have g2 := hV2.free 2; have g3 := hV2.free 3))
    have hc := store_world (y := y) (a := ((l.length - q : Nat) : Int)) (.int .i64 0) (.string ⟨#[]⟩) (.slice none 0 0) (.slice none 0 0) hV2 hF2 (by omega) (by omega)
    generalize ((((((w2.setCell ⟨w.heap.size, 0, none⟩ (.int .i64 0)).setCell ⟨w.heap.size, 1, none⟩ (.string ⟨#[]⟩)).setCell ⟨w.heap.size, 2, none⟩ (.slice none 0 0)).setCell ⟨w.heap.size, 3, none⟩ (.slice none 0 0)).setCell ⟨w.heap.size + 1, 0, none⟩ (.int .i64 y)).setCell ⟨w.heap.size + 1, 1, none⟩ (.int .i64 ((l.length - q : Nat) : Int))) = W4 at hc ⊢
    obtain ⟨hV4, hF4, hs4, ho4, ht4, hp4, hO4⟩ := hc
    have hbw := hB0.trans (hb1.mono (Nat.le_trans (Nat.le_add_right _ 2) hs0))
    simp at hs2
    refine bodyPost_ret (results_vf rfl rfl rfl hV4 hF4) rfl ⟨⟨ho4.trans (hK2.os.trans hbw.os), ht4.trans (hK2.tape.trans hbw.tape), hp4.trans (hK2.output.trans hbw.output), by have := hbw.size; omega, fun k hk => ?_⟩, _, rfl, RV.zero _ _⟩
    rw [hO4 k (by omega) (by omega), hK2.block k (by simp; omega) (by omega), Lib.alloc_old w1 _ k (by omega)]
    exact hbw.block k hk
  | ok t z =>
    have hp : Jsn.parseJ l = t := by unfold Jsn.parseJ; rw [if_neg hlong, if_neg htx, hw]
    have hf : Jsn.faultJ l = (0, 0) := by unfold Jsn.faultJ; rw [if_neg hlong, if_neg htx, hw]
    rw [hp, hf]
    go_enter Tryz.func19, Tryz.ntmps19
    go_wp2_with (first
      | (go_at_call 41; refine (hT _).mono ?_; rintro e w1 ⟨rfl, hb1⟩; have hV1 := hV0.keep (hb1.block _ hV0.lt); have hF1 := hF0.keep (hb1.block _ hF0.lt); have hs1 : w.heap.size + 2 ≤ w1.heap.size := Nat.le_trans hs0 hb1.size)
      | (go_at_call 42; refine (hWp w1).mono ?_; rintro e w2 ⟨hK2, hA⟩; rw [hw] at hA; obtain ⟨vr, rfl, hr2⟩ := hA; obtain ⟨aa, na, ca, ab, nb, cb, rfl⟩ := hr2.shape; have hs2 := hK2.size; have hV2 := (hV1.keep (Lib.alloc_old w1 (.cells #[.string (str l), .int .i64 0, .int .i64 0] 78) _ hV1.lt)).keep (hK2.block _ (by simp; omega) (by omega)); have hF2 := (hF1.keep (Lib.alloc_old w1 (.cells #[.string (str l), .int .i64 0, .int .i64 0] 78) _ hF1.lt)).keep (hK2.block _ (by simp; omega) (by omega)); have u0 : w2.cell? ⟨w.heap.size + 1, 0, none⟩ = some (.int .i64 0) := hF2.cell 0; have u1 : w2.cell? ⟨w.heap.size + 1, 1, none⟩ = some (.int .i64 0) := hF2.cell 1; have k0 := hF2.free 0; have k1 := hF2.free 1; have v0 : w2.cell? ⟨w.heap.size, 0, none⟩ = some (.int .i64 0) := hV2.cell 0; have v1 : w2.cell? ⟨w.heap.size, 1, none⟩ = some (.string ⟨#[]⟩) := hV2.cell 1; have v2 : w2.cell? ⟨w.heap.size, 2, none⟩ = some (.slice none 0 0) := hV2.cell 2; have v3 : w2.cell? ⟨w.heap.size, 3, none⟩ = some (.slice none 0 0) := hV2.cell 3; have g0 := hV2.free 0; have g1 := hV2.free 1; have g2 := hV2.free 2; have g3 := hV2.free 3))
    have hc := store_world (y := 0) (a := 0) (.int .i64 t.kind) (.string (str t.text)) (.slice aa na ca) (.slice ab nb cb) hV2 hF2 (by omega) (by omega)
    generalize ((((((w2.setCell ⟨w.heap.size, 0, none⟩ (.int .i64 t.kind)).setCell ⟨w.heap.size, 1, none⟩ (.string (str t.text))).setCell ⟨w.heap.size, 2, none⟩ (.slice aa na ca)).setCell ⟨w.heap.size, 3, none⟩ (.slice ab nb cb)).setCell ⟨w.heap.size + 1, 0, none⟩ (.int .i64 0)).setCell ⟨w.heap.size + 1, 1, none⟩ (.int .i64 0)) = W4 at hc ⊢
    obtain ⟨hV4, hF4, hs4, ho4, ht4, hp4, hO4⟩ := hc
    have hbw := hB0.trans (hb1.mono (Nat.le_trans (Nat.le_add_right _ 2) hs0))
    simp at hs2
    refine bodyPost_ret (results_vf rfl rfl rfl hV4 hF4) rfl ⟨⟨ho4.trans (hK2.os.trans hbw.os), ht4.trans (hK2.tape.trans hbw.tape), hp4.trans (hK2.output.trans hbw.output), by have := hbw.size; omega, fun k hk => ?_⟩, _, rfl, RV.keep (by omega) (fun k hk hl => ?_) hr2⟩
    · rw [hO4 k (by omega) (by omega), hK2.block k (by simp; omega) (by omega), Lib.alloc_old w1 _ k (by omega)]
      exact hbw.block k hk
    · simp at hk
      exact ⟨by omega, hO4 k (by omega) (by omega)⟩
end Go.Proofs.YtmmpbjpeiclacaaGreatDoor
