/- The contract of the parser's list, over that of value. -/
import Derived.Test.YtmmpbjpeiclacaaGreatDoorKYmn
import Derived.Deep.RegionLaw
set_option linter.unusedVariables false
set_option linter.unusedSimpArgs false
namespace Go.Proofs.YtmmpbjpeiclacaaGreatDoor
open Go.RowKit
/-- What value, nest, list and table answer. -/
def ValPost (b : Nat) (s : List UInt8) (w : World) (x : Jsn.R (Jsn.J × Nat)) (e : Ending) (w' : World) : Prop :=
  Kept b w w' ∧ Ans x (fun p r => ∃ v, e = .returned v ∧ RV (w.heap.size ≤ ·) w' p.1 v ∧ Ps b s r p.2 w') (fun y k => e = boom s y k)
/-- The contract of value at one depth. -/
def ValC (k : Nat) (d : Int) (b : Nat) (s : List UInt8) : Prop := ∀ (n : Nat) (l : List UInt8) (w : World), Ps b s l n w → Calls Tryz.prog 64 #[.pointer (some ⟨b, 0, none⟩), .int .i64 d] w (ValPost b s w (Jsn.valueR k n l))
def leftM (b : Nat) (s : List UInt8) (m : Value) (w : World) : Nat := match m with
  | .bool true => leftOf b s w + 1
  | _ => 0
theorem goes_lt {e : UInt8} {l z : List UInt8} {m : Bool} (h : Jsn.goesOn e l = .ok m z) : z.length < l.length := by
  cases m with
  | true => exact Jsn.goes_true h
  | false =>
    unfold Jsn.goesOn at h
    cases ht : Jsn.takes e l with
    | err w n => rw [ht] at h; cases h
    | ok is r =>
      rw [ht] at h
      replace h : (if is = true then (.ok false r : Jsn.R Bool) else (Jsn.takes 44 r).bind fun is z => if is = true then .ok true z else .err 3 z.length) = .ok false z := h
      split at h
      · rename_i h2
        subst h2
        cases h
        exact (Jsn.takes_true ht).2
      · cases ht2 : Jsn.takes 44 r with
        | err w n => rw [ht2] at h; cases h
        | ok is2 y =>
          rw [ht2] at h
          replace h : (if is2 = true then (.ok true y : Jsn.R Bool) else .err 3 y.length) = .ok false z := h
          split at h <;> cases h
theorem loop_err {step : Jsn.St → List UInt8 → Jsn.R Jsn.St} (hs : Jsn.StepFine step) {e : UInt8} {st : Jsn.St} {z : List UInt8} {y : Int} {q : Nat} (h : step st z = .err y q) : Jsn.loopR step e st z = .err y q := by
  rw [Jsn.loopR_eq hs, h]
  rfl
theorem loop_ok {step : Jsn.St → List UInt8 → Jsn.R Jsn.St} (hs : Jsn.StepFine step) {e : UInt8} {st st1 : Jsn.St} {z r : List UInt8} (h : step st z = .ok st1 r) : Jsn.loopR step e st z = (Jsn.goesOn e r).bind fun m l2 => if m = true then Jsn.loopR step e st1 l2 else .ok st1 l2 := by
  rw [Jsn.loopR_eq hs, h]
  show (Jsn.goesOn e r).bind _ = _
  congr 1
  funext m l2
  cases m <;> rfl
theorem Kept.row {b R : Nat} {w wr : World} (h : Kept b w wr) (hR : w.heap.size ≤ R) (cs : Array Value) : Kept b w (wr.setRow R cs) :=
  ⟨h.os, h.tape, h.output, by rw [setRow_len]; exact h.size, fun k hk hb => by rw [setRow_other cs (by omega)]; exact h.block k hk hb⟩
theorem Ps.keep {b n : Nat} {s l : List UInt8} {w w' : World} (h : Ps b s l n w) (e : w'.heap[b]? = w.heap[b]?) : Ps b s l n w' := ⟨e.trans h.at_, h.suf, h.len, h.cnt⟩
theorem cell_four_new (w : World) (x0 x1 x2 x3 : Value) (t : TypeId) : ∀ j u, [x0, x1, x2, x3][j]? = some u → (w.alloc (.cells #[x0, x1, x2, x3] t)).cell? ((⟨w.heap.size, 0, none⟩ : Addr).add j) = some u := by
  intro j u hj
  exact World.news_of_block (heap_alloc_last w (.cells #[x0, x1, x2, x3] t)) j u hj
abbrev z4 : Array Value := #[.int .i64 0, .string ⟨#[]⟩, .slice none 0 0, .slice none 0 0]
set_option maxHeartbeats 8000000 in
set_option maxRecDepth 100000 in
theorem list_any {b n k : Nat} {d : Int} {s l : List UInt8} {w : World} (hV : ValC k d b s) (h : Ps b s l n w) :
    Calls Tryz.prog 101 #[.pointer (some ⟨b, 0, none⟩), .int .i64 d] w (ValPost b s w ((Jsn.nestR (Jsn.stepL (Jsn.valueR k)) 93 ⟨n, [], []⟩ l).map fun st => (.mk 5 [] [] st.kids, st.n))) := by
  obtain ⟨i0, hi, hz0, hz1, hz2⟩ := info_parts infoVal
  have hzv := (zero_of_info zeroVal).1
  have hfine := Jsn.stepL_fine (Jsn.value_fine k)
  have hbl := h.lt
  have hlen := h.len
  unfold ValPost
  generalize hX : (Jsn.nestR (Jsn.stepL (Jsn.valueR k)) 93 ⟨n, [], []⟩ l) = X
  have hX2 : X = (Jsn.takes 93 l).bind fun is r => if is = true then .ok ⟨n, [], []⟩ r else Jsn.loopR (Jsn.stepL (Jsn.valueR k)) 93 ⟨n, [], []⟩ r := hX.symm
  clear hX
  have hB0 : Below w.heap.size w ((w.alloc (.cells z4 27)).alloc (.cells #[.int .i64 5, .string ⟨#[]⟩, .slice none 0 0, .slice none 0 0] 27)) := ((Below.refl _ w).alloc (Nat.le_refl _) _).alloc (by simp) _
  have hR0 : VAt ((w.alloc (.cells z4 27)).alloc (.cells #[.int .i64 5, .string ⟨#[]⟩, .slice none 0 0, .slice none 0 0] 27)) w.heap.size (.int .i64 0) (.string ⟨#[]⟩) (.slice none 0 0) (.slice none 0 0) := by
    unfold VAt
    rw [Lib.alloc_old _ _ _ (by simp)]
    exact heap_alloc_last w _
  have hL0 : VAt ((w.alloc (.cells z4 27)).alloc (.cells #[.int .i64 5, .string ⟨#[]⟩, .slice none 0 0, .slice none 0 0] 27)) (w.heap.size + 1) (.int .i64 5) (.string ⟨#[]⟩) (.slice none 0 0) (.slice none 0 0) := by
    unfold VAt
    have e : w.heap.size + 1 = (w.alloc (.cells z4 27)).heap.size := by simp
    rw [e]
    exact heap_alloc_last _ _
  have hs0 : w.heap.size + 2 ≤ ((w.alloc (.cells z4 27)).alloc (.cells #[.int .i64 5, .string ⟨#[]⟩, .slice none 0 0, .slice none 0 0] 27)).heap.size := by simp
  have hP0 := h.step hB0
  have hT := takes_any (c := 93) hP0
  go_enter Tryz.func101, Tryz.ntmps101
  go_wp2_with fail
  generalize (w.alloc (.cells z4 27)).alloc (.cells #[.int .i64 5, .string ⟨#[]⟩, .slice none 0 0, .slice none 0 0] 27) = W0 at hB0 hR0 hL0 hs0 hP0 hT ⊢
  go_at_call 120
  cases ht : Jsn.takes 93 l with
  | err y q =>
    rw [ht] at hT hX2
    refine hT.mono ?_
    rintro e w1 ⟨hK1, hA⟩
    replace hA : e = boom s y q := hA
    subst hA
    exact ⟨rfl, (Kept.of hB0).trans hK1, by rw [hX2]; rfl⟩
  | ok is r =>
    rw [ht] at hT hX2
    refine hT.mono ?_
    rintro e w1 ⟨hK1, rfl, hP1⟩
    have hrl : r.length ≤ l.length := by have := Jsn.takes_fine 93 l; rw [ht] at this; exact List.IsSuffix.length_le this
    have hle := h.le
    have hL1 := hL0.keep (hK1.block _ (by omega) (by omega))
    have hR1 := hR0.keep (hK1.block _ (by omega) (by omega))
    have hs1 := hK1.size
    have HX : Hid (X = if (!is) = true then Jsn.loopR (Jsn.stepL (Jsn.valueR k)) 93 ⟨n, [], []⟩ r else .ok ⟨n, [], []⟩ r) := by
      show _ = _
      rw [hX2]
      cases is <;> rfl
    have hKw := (Kept.of (b := b) hB0).trans hK1
    clear hX2 hT hL0 hR0 hP0 hK1 hB0 ht
    go_wp2_with fail
    go_loopw [6] (fun mv wr => ∃ (m : Bool) (st : Jsn.St) (z : List UInt8) (kv : Value) (vs : List V4), mv = .bool m ∧ st.keys = [] ∧ VAt wr (w.heap.size + 1) (.int .i64 5) (.string ⟨#[]⟩) (.slice none 0 0) kv ∧ VAt wr w.heap.size (.int .i64 0) (.string ⟨#[]⟩) (.slice none 0 0) (.slice none 0 0) ∧ GKids (w.heap.size + 2) wr kv st.kids vs ∧ Ps b s z st.n wr ∧ Kept b w wr ∧ w.heap.size + 2 ≤ wr.heap.size ∧ st.kids.length + z.length ≤ s.length ∧ Hid (X = if m = true then Jsn.loopR (Jsn.stepL (Jsn.valueR k)) 93 st z else .ok st z)) (fun mv wr => leftM b s mv wr)
    case atStart => exact ⟨!is, ⟨n, [], []⟩, r, _, [], rfl, rfl, hL1, hR1, GKids.nil _ _, hP1, hKw, by omega, by simp; omega, HX⟩
    case round =>
      obtain ⟨m, st, z, kv, vs, rfl, hkeys, hL, hR, hG, hP, hK, hs, hcnt, HE⟩ := hrel
      clear HX hL1 hR1 hP1 hKw
      cases m with
      | false =>
        have HY : Hid (X = .ok st z) := HE.out
        obtain ⟨a1, c1, hform⟩ := hG.form
        subst hform
        have hR2 := setRow_V hR (.int .i64 5) (.string ⟨#[]⟩) (.slice none 0 0) (.slice a1 st.kids.length c1)
        go_wp2_with (first
          | ((with_reducible show wpList _ _ _ ({ op := Op.load 27 _, .. } :: _) _ _); refine wpList_load_V _ rfl rfl _ _ _ _ _ rfl hL ?_)
          | ((with_reducible show wpList _ _ _ ({ op := Op.store 27 _ _, .. } :: _) _ _); refine wpList_store_V _ _ rfl rfl _ _ _ _ _ rfl rfl hR (ones_mk _ _ _ _ _ _ _ _) ?_))
        refine ret_V rfl rfl rfl hR2 ⟨hK.row (Nat.le_refl _) _, ?_⟩
        rw [HY.out]
        refine ⟨_, rfl, RV_mk.2 ⟨_, _, rfl, .inl ⟨_, _, rfl, rfl⟩, ?_⟩, hP.keep (setRow_other _ (by omega))⟩
        exact hG.reads.keep (by rw [setRow_len]; exact Nat.le_refl _) (fun k hk _ => ⟨by omega, setRow_other _ (by omega)⟩)
      | true =>
        have hE : X = Jsn.loopR (Jsn.stepL (Jsn.valueR k)) 93 st z := HE.out
        clear HE
        have hst : Jsn.stepL (Jsn.valueR k) st z = (Jsn.valueR k st.n z).bind fun p r => .ok ⟨p.2, st.keys, st.kids ++ [p.1]⟩ r := rfl
        have hVz := hV st.n z
        have c3 : wr.cell? ⟨w.heap.size + 1, 3, none⟩ = some kv := hL.cell 3
        have f3 := hL.free 3
        obtain ⟨a1, cp1, hform⟩ := hG.form
        cases hv : Jsn.valueR k st.n z with
        | err y q =>
          rw [hv] at hst
          rw [loop_err hfine hst] at hE
          have HY := show Hid _ from hE
          clear hE hst
          go_wp2_with fail
          refine wp_region_held_drew (S := fun W => W.cell? ⟨w.heap.size + 1, 3, none⟩ = some kv) (by kernel_rfl) c3 (fun hS => ?_)
          refine takeH 0 14 (.pointer (some ⟨w.heap.size + 1, 3, none⟩)) rfl rfl (by kernel_rfl) (by kernel_rfl) (by kernel_rfl) (fun _ _ _ h => h) (Or.inl ⟨by kernel_rfl, fun W hSW => by go_simp⟩) hS ?_
          simp only [Act.put, List.setIfInBounds_toArray, List.set_cons_zero, List.set_cons_succ]
          refine takeH 1 15 (kv) rfl rfl (by kernel_rfl) (by kernel_rfl) (by kernel_rfl) (fun _ _ _ h => h) (Or.inl ⟨by kernel_rfl, fun W hSW => by go_simp⟩) hS ?_
          simp only [Act.put, List.setIfInBounds_toArray, List.set_cons_zero, List.set_cons_succ]
          refine takeH 2 16 (.pointer (some ⟨b, 0, none⟩)) rfl rfl (by kernel_rfl) (by kernel_rfl) (by kernel_rfl) (fun _ _ _ h => h) (Or.inl ⟨by kernel_rfl, fun W hSW => by go_simp⟩) hS ?_
          simp only [Act.put, List.setIfInBounds_toArray, List.set_cons_zero, List.set_cons_succ]
          refine takeH 3 17 (.int .i64 d) rfl rfl (by kernel_rfl) (by kernel_rfl) (by kernel_rfl) (fun _ _ _ h => h) (Or.inl ⟨by kernel_rfl, fun W hSW => by go_simp⟩) hS ?_
          simp only [Act.put, List.setIfInBounds_toArray, List.set_cons_zero, List.set_cons_succ]
          refine wpAnyH_ready (rs := [4]) (by kernel_rfl) (by simp) ?_
          refine AllReadyH.cons rfl (fun K hK0 => ?_) AllReadyH.nil
          go_simp
          refine (hVz _ hP.drew).mono ?_
          rintro e w2 ⟨hK2, hA⟩
          rw [hv] at hA
          replace hA : e = boom s y q := hA
          subst hA
          exact ⟨rfl, hK.drew.trans hK2, by rw [HY.out]; rfl⟩
        | ok pr r2 =>
          rw [hv] at hst
          replace hst : Jsn.stepL (Jsn.valueR k) st z = .ok ⟨pr.2, st.keys, st.kids ++ [pr.1]⟩ r2 := hst
          rw [loop_ok hfine hst] at hE
          have hrz : r2.length ≤ z.length := by have := Jsn.value_fine k st.n z; rw [hv] at this; exact List.IsSuffix.length_le this
          have HY := show Hid _ from hE
          clear hE hst
          subst hform
          go_wp2_with fail
          go_region_law (first
            | (go_simp; refine (hVz _ hP.drew).mono ?_; rintro e w2 ⟨hK2, hA⟩; rw [hv] at hA; obtain ⟨v2, rfl, hr2, hP2⟩ := hA; obtain ⟨aa, na, ca, ab, nb, cb, rfl⟩ := hr2.shape; have hs2 : wr.heap.size ≤ w2.heap.size := hK2.size; have hwl := hL.lt; have hL2 : VAt w2 (w.heap.size + 1) (.int .i64 5) (.string ⟨#[]⟩) (.slice none 0 0) (.slice a1 st.kids.length cp1) := hL.keep (hK2.block (w.heap.size + 1) hL.lt (by omega)); have c32 : w2.cell? ⟨w.heap.size + 1, 3, none⟩ = some (.slice a1 st.kids.length cp1) := hL2.cell 3; have c3a : (w2.alloc (.cells #[.int .i64 pr.1.kind, .string (str pr.1.text), .slice aa na ca, .slice ab nb cb] 27)).cell? ⟨w.heap.size + 1, 3, none⟩ = some (.slice a1 st.kids.length cp1) := (hL2.keep (Lib.alloc_old w2 _ (w.heap.size + 1) (by omega))).cell 3; have hGa := (hG.keep hs2 (fun k hk hl => hK2.block k hl (by omega))).keep (w' := w2.alloc (.cells #[.int .i64 pr.1.kind, .string (str pr.1.text), .slice aa na ca, .slice ab nb cb] 27)) (by simp) (fun k _ hl => Lib.alloc_old w2 _ k hl); have hnew := cell_four_new w2 (.int .i64 pr.1.kind) (.string (str pr.1.text)) (.slice aa na ca) (.slice ab nb cb) 27; have hLne : some (w.heap.size + 1) ≠ (Value.slice a1 st.kids.length cp1).ownBlock := fun e => by have := (World.ownsRow.lt hG.own _ e.symm).1; omega)
            | (refine step_append_lies _ rfl (.tmp 15) (.tmp 19) 24 rfl (w.heap.size + 2) 27 i0 (vv (.int .i64 0) (.string ⟨#[]⟩) (.slice none 0 0) (.slice none 0 0)) 4 72 Tryz.underlying24 hi hz0 hz1 hz2 rfl (by decide) _ _ _ rfl hGa.own ⟨w2.heap.size, 0, none⟩ 1 1 [.int .i64 pr.1.kind, .string (str pr.1.text), .slice aa na ca, .slice ab nb cb] rfl rfl hnew (fun x hx => by simp at hx; rcases hx with rfl | rfl | rfl | rfl <;> rfl) (by decide) (by unfold maxLen; omega) (by omega) (by simp; omega) _ rfl ?_; intro g cap w3 hown' hgrow3 hat hglt; have hL3 : VAt w3 (w.heap.size + 1) (.int .i64 5) (.string ⟨#[]⟩) (.slice none 0 0) (.slice a1 st.kids.length cp1) := hL2.keep ((hgrow3.block (w.heap.size + 1) (by simp; omega) hLne).trans (Lib.alloc_old w2 _ (w.heap.size + 1) (by omega))); have c33 : w3.cell? ⟨w.heap.size + 1, 3, none⟩ = some (.slice a1 st.kids.length cp1) := hL3.cell 3; have f33 := hL3.free 3))
          all_goals (
            have hrv : RV (off (w.heap.size + 2) (.slice a1 st.kids.length cp1)) (w2.alloc (.cells #[.int .i64 pr.1.kind, .string (str pr.1.text), .slice aa na ca, .slice ab nb cb] 27)) pr.1 (vv (.int .i64 pr.1.kind) (.string (str pr.1.text)) (.slice aa na ca) (.slice ab nb cb)) := RV.keep (by simp) (fun k hk hl => ⟨⟨by have : wr.heap.size ≤ k := hk; omega, fun e => by have h1 := (World.ownsRow.lt hG.own _ e.symm).2; have : wr.heap.size ≤ k := hk; omega⟩, Lib.alloc_old w2 _ k hl⟩) hr2
            have hG3 := hGa.more hgrow3 hat (by simp) hown' hrv
            have hgs := hgrow3.size
            have hbne : some b ≠ (Value.slice a1 st.kids.length cp1).ownBlock := fun e => by have := (World.ownsRow.lt hG.own _ e.symm).1; omega
            have hP3 := (hP2.keep (Lib.alloc_old w2 (.cells #[.int .i64 pr.1.kind, .string (str pr.1.text), .slice aa na ca, .slice ab nb cb] 27) b hP2.lt)).keep (hgrow3.block b (by have := hP2.lt; simp; omega) hbne)
            have hK3 : Kept b w w3 := by
              refine ⟨hgrow3.os.trans (hK2.os.trans hK.os), hgrow3.tape.trans (hK2.tape.trans hK.tape), hgrow3.output.trans (hK2.output.trans hK.output), by simp at hgs; omega, fun k hk hkb => ?_⟩
              rw [hgrow3.block k (by simp; omega) (fun e => by have := (World.ownsRow.lt hG.own _ e.symm).1; omega), Lib.alloc_old w2 _ k (by omega)]
              exact (hK2.block k (show k < wr.heap.size by omega) hkb).trans (hK.block k hk hkb)
            have hR3 := hR.keep ((hgrow3.block w.heap.size (by simp; omega) (fun e => by have := (World.ownsRow.lt hG.own _ e.symm).1; omega)).trans ((Lib.alloc_old w2 _ w.heap.size (by omega)).trans (hK2.block w.heap.size (show w.heap.size < wr.heap.size by omega) (by omega))))
            have hL4 := hL3.kids (.slice (some ⟨g, 0, none⟩) (st.kids.length + 1) cap)
            have hG4 := hG3.keep (w' := w3.setCell ⟨w.heap.size + 1, 3, none⟩ (.slice (some ⟨g, 0, none⟩) (st.kids.length + 1) cap)) (by simp) (fun k hk _ => Below.heap_setCell _ _ _ _ (by show k ≠ w.heap.size + 1; omega))
            have hP4 := hP3.keep (w' := w3.setCell ⟨w.heap.size + 1, 3, none⟩ (.slice (some ⟨g, 0, none⟩) (st.kids.length + 1) cap)) (Below.heap_setCell _ _ _ _ (by show b ≠ w.heap.size + 1; omega))
            have hR4 := hR3.keep (w' := w3.setCell ⟨w.heap.size + 1, 3, none⟩ (.slice (some ⟨g, 0, none⟩) (st.kids.length + 1) cap)) (Below.heap_setCell _ _ _ _ (by show w.heap.size ≠ w.heap.size + 1; omega))
            have hK4 : Kept b w (w3.setCell ⟨w.heap.size + 1, 3, none⟩ (.slice (some ⟨g, 0, none⟩) (st.kids.length + 1) cap)) := hK3.behind ((Below.refl _ _).setCell (p := ⟨w.heap.size + 1, 3, none⟩) (by show w.heap.size ≤ w.heap.size + 1; omega) _)
            have hs4 : w.heap.size + 2 ≤ (w3.setCell ⟨w.heap.size + 1, 3, none⟩ (.slice (some ⟨g, 0, none⟩) (st.kids.length + 1) cap)).heap.size := by simp at hgs ⊢; omega
            generalize w3.setCell ⟨w.heap.size + 1, 3, none⟩ (.slice (some ⟨g, 0, none⟩) (st.kids.length + 1) cap) = W4 at hL4 hG4 hP4 hR4 hK4 hs4 ⊢
            have hgo := goesOn_any (c := 93) hP4
            clear hG3 hP3 hK3 hR3 hL3 hrv hown' hgrow3 hGa hnew hr2 hP2 hL2 c33 f33 c32 c3a
            cases hgr : Jsn.goesOn 93 r2 with
            | err y q =>
              rw [hgr] at hgo
              have HZ : Hid (X = .err y q) := by show _ = _; rw [HY.out, hgr]; rfl
              go_wp2_with (first
                | (go_at_call 121; refine hgo.mono ?_; rintro e w5 ⟨hK5, hA5⟩; replace hA5 : e = boom s y q := hA5; subst hA5))
              exact ⟨rfl, hK4.trans hK5, by rw [HZ.out]; rfl⟩
            | ok m2 l2 =>
              rw [hgr] at hgo
              have hl2 := goes_lt hgr
              have HZ : Hid (X = if m2 = true then Jsn.loopR (Jsn.stepL (Jsn.valueR k)) 93 ⟨pr.2, st.keys, st.kids ++ [pr.1]⟩ l2 else .ok ⟨pr.2, st.keys, st.kids ++ [pr.1]⟩ l2) := by show _ = _; rw [HY.out, hgr]; rfl
              go_wp2_with (first
                | (go_at_call 121; refine hgo.mono ?_; rintro e w5 ⟨hK5, rfl, hP5⟩))
              go_roundw
              case rel =>
                exact ⟨m2, ⟨pr.2, st.keys, st.kids ++ [pr.1]⟩, l2, _, _, rfl, hkeys, hL4.keep (hK5.block _ hL4.lt (by omega)), hR4.keep (hK5.block _ hR4.lt (by omega)), hG4.keep hK5.size (fun k hk hl => hK5.block k hl (by omega)), hP5, hK4.trans hK5, by have := hK5.size; omega, by simp; omega, HZ⟩
              case measure =>
                cases m2 with
                | true =>
                  show leftOf b s w5 + 1 < leftOf b s wr + 1
                  rw [hP5.left, hP.left]
                  omega
                | false =>
                  show 0 < leftOf b s wr + 1
                  omega)
end Go.Proofs.YtmmpbjpeiclacaaGreatDoor
