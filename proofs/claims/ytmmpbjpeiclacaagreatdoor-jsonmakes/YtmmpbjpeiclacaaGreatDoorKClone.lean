/- Texts laid as one. -/
import Derived.Test.YtmmpbjpeiclacaaGreatDoorKZG
import Derived.Test.YtmmpbjpeiclacaaGreatDoorKYO
import Derived.Deep.CutBlock
/- The contracts of slices.Clone and slices.Index at keys. -/
set_option linter.unusedVariables false
set_option linter.unusedSimpArgs false
namespace Go.Proofs.YtmmpbjpeiclacaaGreatDoor
open Go.RowKit
theorem owns_RTs {w : World} {B : Nat} {v : Value} {ks : List (List UInt8)} (h : w.ownsRow B 9 1 v ks.length ((ks.map str).map Value.string)) : RTs (B ≤ ·) w ks v := by
  have h0 := h
  rcases h.2 with ⟨rfl, hz⟩ | ⟨g, cap, cur, rfl, hb, hg, hc, hr⟩
  · exact .inl ⟨_, _, rfl, List.eq_nil_of_length_eq_zero hz⟩
  · refine .inr ⟨g, 0, cap, hb, rfl, hc, (Array.getElem?_eq_some_iff.1 hg).1, fun j t hj => ?_⟩
    have hjl : j < ks.length := (List.getElem?_eq_some_iff.1 hj).1
    have := World.ownsRow.cellAt h0 j (by omega)
    rw [Nat.zero_add, this, List.getElem?_map, List.getElem?_map, hj]
    rfl
theorem Clone_any (ks : List (List UInt8)) (v : Value) (w : World) (h : RTs (fun _ => True) w ks v) (hl : ks.length ≤ 1000000000) :
    Calls Tryz.prog 51 #[v] w fun e w' => ∃ v', e = .returned v' ∧ RTs (w.heap.size ≤ ·) w' ks v' ∧ Below w.heap.size w w' := by
  rcases h with ⟨a, c, rfl, rfl⟩ | ⟨b, o, c, _, rfl, hc, hb, hcell⟩
  · cases a with
    | none =>
      refine (Tryz.slices_Clone_string_nil 0 c w).mono ?_
      rintro e w' ⟨rfl, rfl⟩
      exact ⟨_, rfl, .inl ⟨_, _, rfl, rfl⟩, Below.refl _ _⟩
    | some a =>
      refine (Tryz.slices_Clone_string_zero a c w).mono ?_
      rintro e w' ⟨v', rfl, ho, _, hB⟩
      exact ⟨_, rfl, owns_RTs (ks := []) ho, hB⟩
  · refine (Tryz.slices_Clone_string b o ks.length c (ks.map str) w (by simp) (by omega) (fun j hj => ?_)).mono ?_
    · rw [List.length_map] at hj
      rw [getD_str _ _ hj]
      exact hcell j _ (List.getElem?_eq_getElem hj)
    · rintro e w' ⟨v', rfl, ho, _, hB⟩
      rw [List.take_of_length_le (by simp)] at ho
      exact ⟨_, rfl, owns_RTs ho, hB⟩
end Go.Proofs.YtmmpbjpeiclacaaGreatDoor
/- The contracts of clone and cloneAll. -/
set_option linter.unusedVariables false
set_option linter.unusedSimpArgs false
namespace Go.Proofs.YtmmpbjpeiclacaaGreatDoor
open Go.RowKit
def CloneC (t : Jsn.J) : Prop := ∀ (v : Value) (w : World), RV (fun _ => True) w t v → Jsn.sizeJ t ≤ 1000000000 → Calls Tryz.prog 34 #[v] w fun e w' => ∃ v', e = .returned v' ∧ RV (w.heap.size ≤ ·) w' t v' ∧ Below w.heap.size w w'
set_option maxHeartbeats 4000000 in
set_option maxRecDepth 100000 in
theorem cloneAll_any (cs : List Jsn.J) (ih : ∀ c ∈ cs, CloneC c) (cv : Value) (w : World) (hk : RKs (fun _ => True) w cs cv) (hsz : Jsn.sizeL cs ≤ 1000000000) (hl : cs.length ≤ 1000000000) :
    Calls Tryz.prog 32 #[cv] w fun e w' => ∃ v', e = .returned v' ∧ RKs (w.heap.size ≤ ·) w' cs v' ∧ Below w.heap.size w w' := by
  obtain ⟨a, c, rfl⟩ := hk.form
  obtain ⟨i0, hi, hz0, hz1, hz2⟩ := info_parts infoVal
  go_enter Tryz.func32, Tryz.ntmps32
  go_wp2
  go_loopw [3, 8] (fun v i wr => ∃ (j : Nat) (vs : List V4), i = .int .i64 j ∧ j ≤ cs.length ∧ GKids w.heap.size wr v (cs.take j) vs ∧ Below w.heap.size w wr) (fun _ i _ => cs.length - (intOf i).toNat)
  case atStart => exact ⟨0, [], rfl, Nat.zero_le _, GKids.nil _ _, Below.refl _ _⟩
  case round =>
    obtain ⟨j, vs, rfl, hj, hG, hB⟩ := hrel
    obtain ⟨ga, gc, hform⟩ := hG.form
    have hjt : (cs.take j).length = j := by rw [List.length_take]; omega
    rw [hjt] at hform
    subst hform
    by_cases hlt : j < cs.length
    · have hat : cs[j]? = some cs[j] := List.getElem?_eq_getElem hlt
      obtain ⟨g, o, rfl, hcl, _, hgl, y0, y1, y2, y3, e0, e1, e2, e3, hrv⟩ := hk.at hat
      have hkg := hB.block g hgl
      have f0 := (cell_keep hkg (o := o + j * 4)).trans e0
      have f1 := (cell_keep hkg (o := o + j * 4 + 1)).trans e1
      have f2 := (cell_keep hkg (o := o + j * 4 + 2)).trans e2
      have f3 := (cell_keep hkg (o := o + j * 4 + 3)).trans e3
      obtain ⟨aa, na, ca, ab, nb, cb, hsh⟩ := hrv.shape
      cases hsh
      have hBw : Below wr.heap.size wr (wr.alloc (.cells #[.int .i64 cs[j].kind, .string (str cs[j].text), .slice aa na ca, .slice ab nb cb] 27)) := (Below.refl _ wr).alloc (Nat.le_refl _) _
      have hB1 := bel hB hBw
      have hI := ih cs[j] (List.getElem_mem hlt) _ _ (hrv.below hB1) (Nat.le_trans (Jsn.sizeL_mem (List.getElem_mem hlt)) hsz)
      have HT : Hid (cs.take (j + 1) = cs.take j ++ [cs[j]]) := List.take_succ_eq_append_getElem hlt
      clear hat
      generalize cs[j] = t at *
      go_wp2_with (first
        | (go_at_call 34; refine hI.mono ?_; rintro e w2 ⟨v2, rfl, hr2, hB2⟩; obtain ⟨ba, ma, da, bb, mb, db, rfl⟩ := hr2.shape; have hB3 := bel hB1 hB2; have hs2 := hB2.size; have hG2 := hG.keep (w' := w2) (by have := hBw.size; omega) (fun k _ hl => (hB2.block k (by have := hBw.size; omega)).trans (hBw.block k hl)); have hGa := hG2.keep (w' := w2.alloc (.cells #[.int .i64 t.kind, .string (str t.text), .slice ba ma da, .slice bb mb db] 27)) (by simp) (fun k _ hl => Lib.alloc_old w2 _ k hl); have hnew := cell_four_new w2 (.int .i64 t.kind) (.string (str t.text)) (.slice ba ma da) (.slice bb mb db) 27; have howna := hGa.own; rw [hjt] at howna)
        | (at_builtin; refine wpList_append_lies _ rfl _ _ 24 rfl w.heap.size 27 i0 (vv (.int .i64 0) (.string ⟨#[]⟩) (.slice none 0 0) (.slice none 0 0)) 4 72 Tryz.underlying24 hi hz0 hz1 hz2 rfl (by decide) _ _ _ rfl howna ⟨w2.heap.size, 0, none⟩ 1 1 [.int .i64 t.kind, .string (str t.text), .slice ba ma da, .slice bb mb db] rfl rfl hnew (fun x hx => by simp at hx; rcases hx with rfl | rfl | rfl | rfl <;> rfl) (by decide) (by unfold maxLen; omega) (by omega) (by have := hB3.size; simp; omega) _ rfl ?_; intro g3 cap3 w3 hown' hgrow3 hat3 hglt3))
      have hwb : wr.heap.size < (wr.alloc (.cells #[.int .i64 t.kind, .string (str t.text), .slice aa na ca, .slice ab nb cb] 27)).heap.size := by simp
      have hws := hB.size
      have hrv' : RV (off w.heap.size (.slice ga j gc)) (w2.alloc (.cells #[.int .i64 t.kind, .string (str t.text), .slice ba ma da, .slice bb mb db] 27)) t (vv (.int .i64 t.kind) (.string (str t.text)) (.slice ba ma da) (.slice bb mb db)) := RV.keep (by simp) (fun k hk hl => ⟨⟨by have := Nat.lt_of_lt_of_le hwb hk; omega, fun e => by have h1 := (World.ownsRow.lt hG.own _ e.symm).2; have := Nat.lt_of_lt_of_le hwb hk; omega⟩, Lib.alloc_old w2 _ k hl⟩) hr2
      have hG3 := hGa.more hgrow3 hat3 (by simp) (by rw [hjt]; exact hown') hrv'
      rw [hjt, ← HT.out] at hG3
      have hB4 : Below w.heap.size w w3 := (hB3.alloc hB3.size _).grown hgrow3 (by have := hB3.size; simp; omega) (fun k hk => (World.ownsRow.lt hGa.own k hk).1)
      exact ⟨⟨j + 1, _, by go_num, by omega, hG3, hB4⟩, by simp [intOf]; omega⟩
    · have hR : RKs (w.heap.size ≤ ·) wr cs (.slice ga j gc) := by
        have := hG.reads
        rw [List.take_of_length_le (by omega)] at this
        exact this
      go_wp2
      go_ret
      exact ⟨_, rfl, hR, hB⟩
end Go.Proofs.YtmmpbjpeiclacaaGreatDoor
/- The contract of clone. -/
set_option linter.unusedVariables false
set_option linter.unusedSimpArgs false
namespace Go.Proofs.YtmmpbjpeiclacaaGreatDoor
open Go.RowKit
theorem VAt.below {w w' : World} {b : Nat} {x0 x1 x2 x3 : Value} (h : VAt w b x0 x1 x2 x3) (hB : Below w.heap.size w w') : VAt w' b x0 x1 x2 x3 := h.keep (hB.block b h.lt)
theorem VAt.c0 {w : World} {b : Nat} {x0 x1 x2 x3 : Value} (h : VAt w b x0 x1 x2 x3) : w.cell? ⟨b, 0, none⟩ = some x0 := h.cell 0
theorem VAt.c1 {w : World} {b : Nat} {x0 x1 x2 x3 : Value} (h : VAt w b x0 x1 x2 x3) : w.cell? ⟨b, 1, none⟩ = some x1 := h.cell 1
theorem VAt.c2 {w : World} {b : Nat} {x0 x1 x2 x3 : Value} (h : VAt w b x0 x1 x2 x3) : w.cell? ⟨b, 2, none⟩ = some x2 := h.cell 2
theorem VAt.c3 {w : World} {b : Nat} {x0 x1 x2 x3 : Value} (h : VAt w b x0 x1 x2 x3) : w.cell? ⟨b, 3, none⟩ = some x3 := h.cell 3
theorem VAt.other {w : World} {b c i : Nat} {v : Value} {x0 x1 x2 x3 : Value} (h : VAt w b x0 x1 x2 x3) (hne : b ≠ c) : VAt (w.setCell ⟨c, i, none⟩ v) b x0 x1 x2 x3 := h.keep (Below.heap_setCell _ _ _ _ (fun e => hne e))
theorem size_set (w : World) (a : Addr) (v : Value) : (w.setCell a v).heap.size = w.heap.size := by simp [World.setCell]
theorem zeroV_new (w : World) : VAt (w.alloc (.cells #[.int .i64 0, .string ⟨#[]⟩, .slice none 0 0, .slice none 0 0] 27)) w.heap.size (.int .i64 0) (.string ⟨#[]⟩) (.slice none 0 0) (.slice none 0 0) := val_new w _
set_option maxHeartbeats 4000000 in
set_option maxRecDepth 100000 in
theorem clone_all : ∀ t, CloneC t := by
  intro tr
  induction tr using Jsn.J.ind with
  | h k t ks cs ih =>
    intro v w hv hsz
    obtain ⟨kv, cv, rfl, hks, hcs⟩ := RV_mk.1 hv
    obtain ⟨a1, c1, rfl⟩ := hks.form
    obtain ⟨a2, c2, rfl⟩ := hcs.form
    rw [Jsn.sizeJ_mk] at hsz
    have hB2 : Below w.heap.size w ((w.alloc (.cells #[.int .i64 k, .string (str t), .slice a1 ks.length c1, .slice a2 cs.length c2] 27)).alloc (.cells #[.int .i64 0, .string ⟨#[]⟩, .slice none 0 0, .slice none 0 0] 27)) := ((Below.refl _ w).alloc (Nat.le_refl _) _).alloc (by simp) _
    have hV2 : VAt ((w.alloc (.cells #[.int .i64 k, .string (str t), .slice a1 ks.length c1, .slice a2 cs.length c2] 27)).alloc (.cells #[.int .i64 0, .string ⟨#[]⟩, .slice none 0 0, .slice none 0 0] 27)) w.heap.size (.int .i64 k) (.string (str t)) (.slice a1 ks.length c1) (.slice a2 cs.length c2) := VAt.below (val_new w _) ((Below.refl _ _).alloc (Nat.le_refl _) _)
    have hR2 : VAt ((w.alloc (.cells #[.int .i64 k, .string (str t), .slice a1 ks.length c1, .slice a2 cs.length c2] 27)).alloc (.cells #[.int .i64 0, .string ⟨#[]⟩, .slice none 0 0, .slice none 0 0] 27)) (w.heap.size + 1) (.int .i64 0) (.string ⟨#[]⟩) (.slice none 0 0) (.slice none 0 0) := by
      have := zeroV_new (w.alloc (.cells #[.int .i64 k, .string (str t), .slice a1 ks.length c1, .slice a2 cs.length c2] 27))
      rw [show (w.alloc (.cells #[.int .i64 k, .string (str t), .slice a1 ks.length c1, .slice a2 cs.length c2] 27)).heap.size = w.heap.size + 1 by simp] at this
      exact this
    have hz2 : ((w.alloc (.cells #[.int .i64 k, .string (str t), .slice a1 ks.length c1, .slice a2 cs.length c2] 27)).alloc (.cells #[.int .i64 0, .string ⟨#[]⟩, .slice none 0 0, .slice none 0 0] 27)).heap.size = w.heap.size + 2 := by simp
    have cK : Hid (∀ W, Below w.heap.size w W → Calls Tryz.prog 51 #[.slice a1 ks.length c1] W fun e w' => ∃ v', e = .returned v' ∧ RTs (W.heap.size ≤ ·) w' ks v' ∧ Below W.heap.size W w') := fun W hB => Clone_any ks _ W (hks.keep hB.size (fun k _ hl => ⟨trivial, hB.block k hl⟩)) (by omega)
    have cA : Hid (∀ W, Below w.heap.size w W → Calls Tryz.prog 32 #[.slice a2 cs.length c2] W fun e w' => ∃ v', e = .returned v' ∧ RKs (W.heap.size ≤ ·) w' cs v' ∧ Below W.heap.size W w') := fun W hB => cloneAll_any cs ih _ W (hcs.keep hB.size (fun k _ hl => ⟨trivial, hB.block k hl⟩)) (by omega) (by omega)
    clear hks hcs hv ih
    go_enter Tryz.func34, Tryz.ntmps34
    go_upto_region 1 with fail
    generalize (w.alloc (.cells #[.int .i64 k, .string (str t), .slice a1 ks.length c1, .slice a2 cs.length c2] 27)).alloc (.cells #[.int .i64 0, .string ⟨#[]⟩, .slice none 0 0, .slice none 0 0] 27) = w2 at *
    have q2 := hV2.c2
    go_wp2_with (first
      | (go_at_call 51; refine (cK.out _ hB2).mono ?_; rintro e w3 ⟨kv, rfl, hk3, hB3⟩; obtain ⟨ka, kc, rfl⟩ := hk3.form; have hV3 := hV2.below hB3; have hR3 := hR2.below hB3; have f3 := hV3.free 2; have q3 := hV3.c2; have hV4 := hV3.keys (.slice ka ks.length kc); have hR4 := VAt.other (i := 2) (v := .slice ka ks.length kc) hR3 (show w.heap.size + 1 ≠ w.heap.size by omega); have hB4 : Below w.heap.size w (w3.setCell ⟨w.heap.size, 2, none⟩ (.slice ka ks.length kc)) := (bel hB2 hB3).setCell (p := ⟨w.heap.size, 2, none⟩) (Nat.le_refl _) _; have q4 := hV4.c3)
      | (go_at_call 32; refine (cA.out _ hB4).mono ?_; rintro e w5 ⟨cv, rfl, hc5, hB5⟩; obtain ⟨ca, cc, rfl⟩ := hc5.form; have hV5 := hV4.below hB5; have hR5 := hR4.below hB5; have f5 := hV5.free 3; have q5 := hV5.c3; have hV6 := hV5.kids (.slice ca cs.length cc); have hR6 := VAt.other (i := 3) (v := .slice ca cs.length cc) hR5 (show w.heap.size + 1 ≠ w.heap.size by omega))
      | ((with_reducible show wpList _ _ _ ({ op := Op.load 27 _, .. } :: _) _ _); refine wpList_load_V _ rfl rfl _ _ _ _ _ rfl hV6 ?_)
      | ((with_reducible show wpList _ _ _ ({ op := Op.store 27 _ _, .. } :: _) _ _); refine wpList_store_V _ _ rfl rfl _ _ _ _ _ rfl rfl hR6 (ones_mk _ _ _ _ _ _ _ _) ?_))
    have hs3 := hB3.size
    have hs5 := hB5.size
    have hs4 := size_set w3 ⟨w.heap.size, 2, none⟩ (.slice ka ks.length kc)
    have hs6 := size_set w5 ⟨w.heap.size, 3, none⟩ (.slice ca cs.length cc)
    have hs7 := setRow_len (w5.setCell ⟨w.heap.size, 3, none⟩ (.slice ca cs.length cc)) (w.heap.size + 1) #[.int .i64 k, .string (str t), .slice ka ks.length kc, .slice ca cs.length cc]
    refine ret_V rfl rfl rfl (setRow_V hR6 _ _ _ _) ⟨_, rfl, ?_, ?_⟩
    · refine RV_mk.2 ⟨_, _, rfl, hk3.keep (by omega) (fun q hq hl => ⟨by omega, ?_⟩), hc5.keep (by omega) (fun q hq hl => ⟨by omega, ?_⟩)⟩
      · rw [setRow_other _ (show q ≠ w.heap.size + 1 by omega), Below.heap_setCell _ _ _ _ (show q ≠ w.heap.size by omega), hB5.block q (by omega), Below.heap_setCell _ _ _ _ (show q ≠ w.heap.size by omega)]
      · rw [setRow_other _ (show q ≠ w.heap.size + 1 by omega), Below.heap_setCell _ _ _ _ (show q ≠ w.heap.size by omega)]
    · refine ⟨?_, ?_, ?_, ?_, ?_⟩
      · exact hB5.os.trans hB4.os
      · exact hB5.tape.trans hB4.tape
      · exact hB5.output.trans hB4.output
      · omega
      · intro q hq
        rw [setRow_other _ (show q ≠ w.heap.size + 1 by omega), Below.heap_setCell _ _ _ _ (show q ≠ w.heap.size by omega), hB5.block q (by omega)]
        exact hB4.block q hq
end Go.Proofs.YtmmpbjpeiclacaaGreatDoor
