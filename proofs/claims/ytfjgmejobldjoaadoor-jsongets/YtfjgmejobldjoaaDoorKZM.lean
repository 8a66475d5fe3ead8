/- The contract of clone. -/
import Derived.Test.YtfjgmejobldjoaaDoorKZL
import Derived.Deep.CutBlock
set_option linter.unusedVariables false
set_option linter.unusedSimpArgs false
namespace Go.Proofs.YtfjgmejobldjoaaDoor
open Go.RowKit
theorem VAt.below {w w' : World} {b : Nat} {x0 x1 x2 x3 : Value} (h : VAt w b x0 x1 x2 x3) (hB : Below w.heap.size w w') : VAt w' b x0 x1 x2 x3 := h.keep (hB.block b h.lt)
theorem VAt.c0 {w : World} {b : Nat} {x0 x1 x2 x3 : Value} (h : VAt w b x0 x1 x2 x3) : w.cell? ⟨b, 0, none⟩ = some x0 := h.cell 0
theorem VAt.c1 {w : World} {b : Nat} {x0 x1 x2 x3 : Value} (h : VAt w b x0 x1 x2 x3) : w.cell? ⟨b, 1, none⟩ = some x1 := h.cell 1
theorem VAt.c2 {w : World} {b : Nat} {x0 x1 x2 x3 : Value} (h : VAt w b x0 x1 x2 x3) : w.cell? ⟨b, 2, none⟩ = some x2 := h.cell 2
theorem VAt.c3 {w : World} {b : Nat} {x0 x1 x2 x3 : Value} (h : VAt w b x0 x1 x2 x3) : w.cell? ⟨b, 3, none⟩ = some x3 := h.cell 3
theorem VAt.other {w : World} {b c i : Nat} {v : Value} {x0 x1 x2 x3 : Value} (h : VAt w b x0 x1 x2 x3) (hne : b ≠ c) : VAt (w.setCell ⟨c, i, none⟩ v) b x0 x1 x2 x3 := h.keep (Below.heap_setCell _ _ _ _ (fun e => hne e))
theorem size_set (w : World) (a : Addr) (v : Value) : (w.setCell a v).heap.size = w.heap.size := by simp [World.setCell]
theorem zeroV_new (w : World) : VAt (w.alloc (.cells #[.int .i64 0, .string ⟨#[]⟩, .slice none 0 0, .slice none 0 0] 25)) w.heap.size (.int .i64 0) (.string ⟨#[]⟩) (.slice none 0 0) (.slice none 0 0) := val_new w _
set_option maxHeartbeats 4000000 in
set_option maxRecDepth 100000 in
theorem clone_all : ∀ t, CloneC t := by
  intro tr
  induction tr using Jsn.J.ind with
  | h k t ks cs ih =>
    intro v w hv hsz
    obtain ⟨kv, cv, rfl, hks, hcs⟩ := RV_mk.1 hv
    obtain ⟨a1, c1, rfl⟩ := hks.form
    obtain ⟨a2, c2, rfl⟩ := hcs.form
    rw [Jsn.sizeJ_mk] at hsz
    have hB2 : Below w.heap.size w ((w.alloc (.cells #[.int .i64 k, .string (str t), .slice a1 ks.length c1, .slice a2 cs.length c2] 25)).alloc (.cells #[.int .i64 0, .string ⟨#[]⟩, .slice none 0 0, .slice none 0 0] 25)) := ((Below.refl _ w).alloc (Nat.le_refl _) _).alloc (by simp) _
    have hV2 : VAt ((w.alloc (.cells #[.int .i64 k, .string (str t), .slice a1 ks.length c1, .slice a2 cs.length c2] 25)).alloc (.cells #[.int .i64 0, .string ⟨#[]⟩, .slice none 0 0, .slice none 0 0] 25)) w.heap.size (.int .i64 k) (.string (str t)) (.slice a1 ks.length c1) (.slice a2 cs.length c2) := VAt.below (val_new w _) ((Below.refl _ _).alloc (Nat.le_refl _) _)
    have hR2 : VAt ((w.alloc (.cells #[.int .i64 k, .string (str t), .slice a1 ks.length c1, .slice a2 cs.length c2] 25)).alloc (.cells #[.int .i64 0, .string ⟨#[]⟩, .slice none 0 0, .slice none 0 0] 25)) (w.heap.size + 1) (.int .i64 0) (.string ⟨#[]⟩) (.slice none 0 0) (.slice none 0 0) := by
      have := zeroV_new (w.alloc (.cells #[.int .i64 k, .string (str t), .slice a1 ks.length c1, .slice a2 cs.length c2] 25))
      rw [show (w.alloc (.cells #[.int .i64 k, .string (str t), .slice a1 ks.length c1, .slice a2 cs.length c2] 25)).heap.size = w.heap.size + 1 by simp] at this
      exact this
    have hz2 : ((w.alloc (.cells #[.int .i64 k, .string (str t), .slice a1 ks.length c1, .slice a2 cs.length c2] 25)).alloc (.cells #[.int .i64 0, .string ⟨#[]⟩, .slice none 0 0, .slice none 0 0] 25)).heap.size = w.heap.size + 2 := by simp
    have cK : Hid (∀ W, Below w.heap.size w W → Calls Tryd.prog 20 #[.slice a1 ks.length c1] W fun e w' => ∃ v', e = .returned v' ∧ RTs (W.heap.size ≤ ·) w' ks v' ∧ Below W.heap.size W w') := fun W hB => Clone_any ks _ W (hks.keep hB.size (fun k _ hl => ⟨trivial, hB.block k hl⟩)) (by omega)
    have cA : Hid (∀ W, Below w.heap.size w W → Calls Tryd.prog 21 #[.slice a2 cs.length c2] W fun e w' => ∃ v', e = .returned v' ∧ RKs (W.heap.size ≤ ·) w' cs v' ∧ Below W.heap.size W w') := fun W hB => cloneAll_any cs ih _ W (hcs.keep hB.size (fun k _ hl => ⟨trivial, hB.block k hl⟩)) (by omega) (by omega)
    clear hks hcs hv ih
    go_enter Tryd.func14, Tryd.ntmps14
    go_upto_region 1 with fail
    generalize (w.alloc (.cells #[.int .i64 k, .string (str t), .slice a1 ks.length c1, .slice a2 cs.length c2] 25)).alloc (.cells #[.int .i64 0, .string ⟨#[]⟩, .slice none 0 0, .slice none 0 0] 25) = w2 at *
    have q2 := hV2.c2
    go_wp2_with (first
      | (go_at_call 20; refine (cK.out _ hB2).mono ?_; rintro e w3 ⟨kv, rfl, hk3, hB3⟩; obtain ⟨ka, kc, rfl⟩ := hk3.form; have hV3 := hV2.below hB3; have hR3 := hR2.below hB3; have f3 := hV3.free 2; have q3 := hV3.c2; have hV4 := hV3.keys (.slice ka ks.length kc); have hR4 := VAt.other (i := 2) (v := .slice ka ks.length kc) hR3 (show w.heap.size + 1 ≠ w.heap.size by omega); have hB4 : Below w.heap.size w (w3.setCell ⟨w.heap.size, 2, none⟩ (.slice ka ks.length kc)) := (bel hB2 hB3).setCell (p := ⟨w.heap.size, 2, none⟩) (Nat.le_refl _) _; have q4 := hV4.c3)
      | (go_at_call 21; refine (cA.out _ hB4).mono ?_; rintro e w5 ⟨cv, rfl, hc5, hB5⟩; obtain ⟨ca, cc, rfl⟩ := hc5.form; have hV5 := hV4.below hB5; have hR5 := hR4.below hB5; have f5 := hV5.free 3; have q5 := hV5.c3; have hV6 := hV5.kids (.slice ca cs.length cc); have hR6 := VAt.other (i := 3) (v := .slice ca cs.length cc) hR5 (show w.heap.size + 1 ≠ w.heap.size by omega))
      | ((with_reducible show wpList _ _ _ ({ op := Op.load 25 _, .. } :: _) _ _); refine wpList_load_V _ rfl rfl _ _ _ _ _ rfl hV6 ?_)
      | ((with_reducible show wpList _ _ _ ({ op := Op.store 25 _ _, .. } :: _) _ _); refine wpList_store_V _ _ rfl rfl _ _ _ _ _ rfl rfl hR6 (ones_mk _ _ _ _ _ _ _ _) ?_))
    have hs3 := hB3.size
    have hs5 := hB5.size
    have hs4 := size_set w3 ⟨w.heap.size, 2, none⟩ (.slice ka ks.length kc)
    have hs6 := size_set w5 ⟨w.heap.size, 3, none⟩ (.slice ca cs.length cc)
    have hs7 := setRow_len (w5.setCell ⟨w.heap.size, 3, none⟩ (.slice ca cs.length cc)) (w.heap.size + 1) #[.int .i64 k, .string (str t), .slice ka ks.length kc, .slice ca cs.length cc]
    refine ret_V rfl rfl rfl (setRow_V hR6 _ _ _ _) ⟨_, rfl, ?_, ?_⟩
    · refine RV_mk.2 ⟨_, _, rfl, hk3.keep (by omega) (fun q hq hl => ⟨by omega, ?_⟩), hc5.keep (by omega) (fun q hq hl => ⟨by omega, ?_⟩)⟩
      · rw [setRow_other _ (show q ≠ w.heap.size + 1 by omega), Below.heap_setCell _ _ _ _ (show q ≠ w.heap.size by omega), hB5.block q (by omega), Below.heap_setCell _ _ _ _ (show q ≠ w.heap.size by omega)]
      · rw [setRow_other _ (show q ≠ w.heap.size + 1 by omega), Below.heap_setCell _ _ _ _ (show q ≠ w.heap.size by omega)]
    · refine ⟨?_, ?_, ?_, ?_, ?_⟩
      · exact hB5.os.trans hB4.os
      · exact hB5.tape.trans hB4.tape
      · exact hB5.output.trans hB4.output
      · omega
      · intro q hq
        rw [setRow_other _ (show q ≠ w.heap.size + 1 by omega), Below.heap_setCell _ _ _ _ (show q ≠ w.heap.size by omega), hB5.block q (by omega)]
        exact hB4.block q hq
end Go.Proofs.YtfjgmejobldjoaaDoor
