/- The contract of the parser's table. -/
import Derived.Test.YtmmpbjpeiclacaaGreatDoorKYP
set_option linter.unusedVariables false
set_option linter.unusedSimpArgs false
namespace Go.Proofs.YtmmpbjpeiclacaaGreatDoor
open Go.RowKit
theorem tab_start {b n : Nat} {s l : List UInt8} {w : World} (h : Ps b s l n w) :
    Tab b s w l ⟨n, [], []⟩ [] (.slice none 0 0) (.slice none 0 0) [] (((w.alloc (.cells z4 27)).alloc (.cells #[.int .i64 6, .string ⟨#[]⟩, .slice none 0 0, .slice none 0 0] 27)).alloc (.map #[] 0)) := by
  have hbl := h.lt
  have hB : Below w.heap.size w (((w.alloc (.cells z4 27)).alloc (.cells #[.int .i64 6, .string ⟨#[]⟩, .slice none 0 0, .slice none 0 0] 27)).alloc (.map #[] 0)) := (((Below.refl _ w).alloc (Nat.le_refl _) _).alloc (by simp) _).alloc (by simp; omega) _
  refine ⟨?_, ?_, ?_, GTexts.nil _ _, GK.nil _ _ _, h.step hB, Kept.of hB, by simp⟩
  · unfold VAt
    have e : w.heap.size + 1 = (w.alloc (.cells z4 27)).heap.size := by simp
    rw [Lib.alloc_old _ _ _ (by simp), e]
    exact heap_alloc_last _ _
  · unfold VAt
    rw [Lib.alloc_old _ _ _ (by simp; omega), Lib.alloc_old _ _ _ (by simp)]
    exact heap_alloc_last w _
  · have := SetAt.made ((w.alloc (.cells z4 27)).alloc (.cells #[.int .i64 6, .string ⟨#[]⟩, .slice none 0 0, .slice none 0 0] 27)) 0
    simpa using this
set_option maxHeartbeats 8000000 in
set_option maxRecDepth 100000 in
theorem table_any {b n k : Nat} {d : Int} {s l : List UInt8} {w : World} (hV : ValC k d b s) (h : Ps b s l n w) :
    Calls Tryz.prog 102 #[.pointer (some ⟨b, 0, none⟩), .int .i64 d] w (ValPost b s w ((Jsn.nestR (Jsn.stepT (Jsn.valueR k)) 125 ⟨n, [], []⟩ l).map fun st => (.mk 6 [] st.keys st.kids, st.n))) := by
  obtain ⟨i0, hi, hz0, hz1, hz2⟩ := info_parts infoVal
  obtain ⟨j0, hj, hy0, hy1, hy2⟩ := info_parts infoStr
  have hzv := (zero_of_info zeroVal).1
  have hmm := @run_makeMap Tryz.prog
  have hfine := Jsn.stepT_fine (Jsn.value_fine k)
  have hbl := h.lt
  have hlen := h.len
  unfold ValPost
  generalize hX : (Jsn.nestR (Jsn.stepT (Jsn.valueR k)) 125 ⟨n, [], []⟩ l) = X
  have hX2 : X = (Jsn.takes 125 l).bind fun is r => if is = true then .ok ⟨n, [], []⟩ r else Jsn.loopR (Jsn.stepT (Jsn.valueR k)) 125 ⟨n, [], []⟩ r := hX.symm
  clear hX
  have hT0 := tab_start h
  have hT := takes_any (c := 125) hT0.P
  go_enter Tryz.func102, Tryz.ntmps102
  go_wp2_with fail
  generalize (((w.alloc (.cells z4 27)).alloc (.cells #[.int .i64 6, .string ⟨#[]⟩, .slice none 0 0, .slice none 0 0] 27)).alloc (.map #[] 0)) = W0 at hT0 hT ⊢
  go_at_call 120
  cases ht : Jsn.takes 125 l with
  | err y q =>
    rw [ht] at hT hX2
    refine hT.mono ?_
    rintro e w1 ⟨hK1, hA⟩
    replace hA : e = boom s y q := hA
    subst hA
    exact ⟨rfl, hT0.Kp.trans hK1, by rw [hX2]; rfl⟩
  | ok is r =>
    rw [ht] at hT hX2
    refine hT.mono ?_
    rintro e w1 ⟨hK1, rfl, hP1⟩
    have hrl : r.length ≤ l.length := by have := Jsn.takes_fine 125 l; rw [ht] at this; exact List.IsSuffix.length_le this
    have hle := h.le
    have hT1 := hT0.go hK1 hP1 rfl hbl
    have HX : Hid (X = if (!is) = true then Jsn.loopR (Jsn.stepT (Jsn.valueR k)) 125 ⟨n, [], []⟩ r else .ok ⟨n, [], []⟩ r) := by
      show _ = _
      rw [hX2]
      cases is <;> rfl
    clear hX2 hT hT0 hK1 ht
    go_wp2_with fail
    go_loopw [7] (fun mv wr => ∃ (m : Bool) (st : Jsn.St) (z : List UInt8) (kv cv : Value) (vs : List V4), mv = .bool m ∧ Tab b s w z st st.keys kv cv vs wr ∧ st.kids.length ≤ st.keys.length ∧ st.keys.length + z.length ≤ s.length ∧ Hid (X = if m = true then Jsn.loopR (Jsn.stepT (Jsn.valueR k)) 125 st z else .ok st z)) (fun mv wr => leftM b s mv wr)
    case atStart => exact ⟨!is, ⟨n, [], []⟩, r, _, _, [], rfl, hT1, Nat.le_refl _, by simp; omega, HX⟩
    case round =>
      obtain ⟨m, st, z, kv, cv, vs, rfl, hTab, hkk, hcnt, HE⟩ := hrel
      clear HX hT1
      have hL := hTab.L
      have hz3 := hTab.sz
      obtain ⟨a1, p1, hf1⟩ := hTab.K.form
      obtain ⟨a2, p2, hf2⟩ := hTab.G.form
      subst hf1; subst hf2
      cases m with
      | false =>
        have HY : Hid (X = .ok st z) := HE.out
        have hR := hTab.R
        have hR2 := setRow_V hR (.int .i64 6) (.string ⟨#[]⟩) (.slice a1 st.keys.length p1) (.slice a2 st.kids.length p2)
        go_wp2_with (first
          | ((with_reducible show wpList _ _ _ ({ op := Op.load 27 _, .. } :: _) _ _); refine wpList_load_V _ rfl rfl _ _ _ _ _ rfl hL ?_)
          | ((with_reducible show wpList _ _ _ ({ op := Op.store 27 _ _, .. } :: _) _ _); refine wpList_store_V _ _ rfl rfl _ _ _ _ _ rfl rfl hR (ones_mk _ _ _ _ _ _ _ _) ?_))
        refine ret_V rfl rfl rfl hR2 ⟨hTab.Kp.row (Nat.le_refl _) _, ?_⟩
        rw [HY.out]
        refine ⟨_, rfl, RV_mk.2 ⟨_, _, rfl, hTab.K.reads.keep (by rw [setRow_len]; exact Nat.le_refl _) (fun k hk _ => ⟨by omega, setRow_other _ (by omega)⟩), ?_⟩, hTab.P.keep (setRow_other _ (by omega))⟩
        exact hTab.G.kids.reads.keep (by rw [setRow_len]; exact Nat.le_refl _) (fun k hk _ => ⟨by omega, setRow_other _ (by omega)⟩)
      | true =>
        have hE : X = Jsn.loopR (Jsn.stepT (Jsn.valueR k)) 125 st z := HE.out
        clear HE
        have hst : Jsn.stepT (Jsn.valueR k) st z = (Jsn.keyR st.keys z).bind fun k' r => (Jsn.takes 58 r).bind fun is z => if is = true then (Jsn.valueR k st.n z).bind fun p y => .ok ⟨p.2, st.keys ++ [k'], st.kids ++ [p.1]⟩ y else .err 3 z.length := rfl
        have hky := fun W (hP : Ps b s z st.n W) (hM : SetAt (w.heap.size + 2) st.keys.length st.keys W) => key_any hP hM (by omega) (by omega)
        have c2 : wr.cell? ⟨w.heap.size + 1, 2, none⟩ = some (.slice a1 st.keys.length p1) := hL.cell 2
        have f2 := hL.free 2
        cases hkr : Jsn.keyR st.keys z with
        | err y q =>
          rw [hkr] at hst
          rw [loop_err hfine hst] at hE
          have HY := show Hid _ from hE
          clear hE hst
          go_wp2_with fail
          refine wp_region_held_drew (S := fun W => W.cell? ⟨w.heap.size + 1, 2, none⟩ = some (.slice a1 st.keys.length p1)) (by kernel_rfl) c2 (fun hS => ?_)
          refine takeH 0 16 (.pointer (some ⟨w.heap.size + 1, 2, none⟩)) rfl rfl (by kernel_rfl) (by kernel_rfl) (by kernel_rfl) (fun _ _ _ h => h) (Or.inl ⟨by kernel_rfl, fun W hSW => by go_simp⟩) hS ?_
          simp only [Act.put, List.setIfInBounds_toArray, List.set_cons_zero, List.set_cons_succ]
          refine takeH 1 17 (.slice a1 st.keys.length p1) rfl rfl (by kernel_rfl) (by kernel_rfl) (by kernel_rfl) (fun _ _ _ h => h) (Or.inl ⟨by kernel_rfl, fun W hSW => by go_simp⟩) hS ?_
          simp only [Act.put, List.setIfInBounds_toArray, List.set_cons_zero, List.set_cons_succ]
          refine takeH 2 18 (.pointer (some ⟨b, 0, none⟩)) rfl rfl (by kernel_rfl) (by kernel_rfl) (by kernel_rfl) (fun _ _ _ h => h) (Or.inl ⟨by kernel_rfl, fun W hSW => by go_simp⟩) hS ?_
          simp only [Act.put, List.setIfInBounds_toArray, List.set_cons_zero, List.set_cons_succ]
          refine takeH 3 19 (.map (some (w.heap.size + 2))) rfl rfl (by kernel_rfl) (by kernel_rfl) (by kernel_rfl) (fun _ _ _ h => h) (Or.inl ⟨by kernel_rfl, fun W hSW => by go_simp⟩) hS ?_
          simp only [Act.put, List.setIfInBounds_toArray, List.set_cons_zero, List.set_cons_succ]
          refine wpAnyH_ready (rs := [4]) (by kernel_rfl) (by simp) ?_
          refine AllReadyH.cons rfl (fun K hK0 => ?_) AllReadyH.nil
          go_simp
          refine (hky _ hTab.P.drew hTab.M).mono ?_
          rintro e w2 ⟨hK2, hA⟩
          rw [hkr] at hA
          replace hA : e = boom s y q := hA
          subst hA
          refine ⟨rfl, ⟨hK2.os.trans hTab.Kp.os, hK2.tape.trans hTab.Kp.tape, hK2.output.trans hTab.Kp.output, Nat.le_trans hTab.Kp.size hK2.size, fun i hi hib => (hK2.block i (show i < wr.heap.size by omega) hib (by omega)).trans (hTab.Kp.block i hi hib)⟩, by rw [HY.out]; rfl⟩
        | ok t r1 =>
          rw [hkr] at hst
          replace hst : Jsn.stepT (Jsn.valueR k) st z = (Jsn.takes 58 r1).bind fun is z => if is = true then (Jsn.valueR k st.n z).bind fun p y => .ok ⟨p.2, st.keys ++ [t], st.kids ++ [p.1]⟩ y else .err 3 z.length := hst
          have hr1 : r1.length ≤ z.length := by have := Jsn.key_fine st.keys z; rw [hkr] at this; exact List.IsSuffix.length_le this
          have HPL : Hid (leftOf b s wr = z.length) := hTab.P.left
          have hlast := World.ownsRow.lt hTab.K
          go_upto_region 6 with fail
          go_cut [] from 13 to 40 (fun wc => ∃ kv2, Tab b s w r1 st (st.keys ++ [t]) kv2 (.slice a2 st.kids.length p2) vs wc)
          case first =>
            go_region_law (first
              | (go_simp; refine (hky _ hTab.P.drew hTab.M).mono ?_; rintro e w2 ⟨hK2, hA⟩; rw [hkr] at hA; obtain ⟨rfl, hP2, hM2⟩ := hA; have hs2 : wr.heap.size ≤ w2.heap.size := hK2.size; have hL2 : VAt w2 (w.heap.size + 1) (.int .i64 6) (.string ⟨#[]⟩) (.slice a1 st.keys.length p1) (.slice a2 st.kids.length p2) := hL.keep (hK2.block (w.heap.size + 1) hL.lt (by omega) (by omega)); have c22 : w2.cell? ⟨w.heap.size + 1, 2, none⟩ = some (.slice a1 st.keys.length p1) := hL2.cell 2; have c2a : (w2.alloc (.cells #[.string (str t)] 9)).cell? ⟨w.heap.size + 1, 2, none⟩ = some (.slice a1 st.keys.length p1) := (hL2.keep (Lib.alloc_old w2 _ (w.heap.size + 1) (by omega))).cell 2; have hKa : (w2.alloc (.cells #[.string (str t)] 9)).ownsRow (w.heap.size + 3) 9 1 (.slice a1 st.keys.length p1) st.keys.length (st.keys.map fun t => .string (str t)) := own_keep hTab.K (fun k hk hl => (Lib.alloc_old w2 _ k (by omega)).trans (hK2.block k hl (by omega) (by omega))); have hLne : some (w.heap.size + 1) ≠ (Value.slice a1 st.keys.length p1).ownBlock := fun e => by have := (hlast _ e.symm).1; omega)
              | (refine step_append_lies _ rfl (.tmp 17) (.tmp 21) 25 rfl (w.heap.size + 3) 9 j0 (.string ⟨#[]⟩) 1 16 Tryz.underlying25 hj hy0 hy1 hy2 rfl (by decide) _ _ _ rfl hKa ⟨w2.heap.size, 0, none⟩ 1 1 [.string (str t)] rfl rfl (cell_one_new _ _ _) (fun x hx => by simp at hx; subst hx; rfl) (by decide) (by unfold maxLen; omega) (by omega) (by simp; omega) _ rfl ?_; intro g cap w3 hown' hgrow3 hat hglt; have hL3 : VAt w3 (w.heap.size + 1) (.int .i64 6) (.string ⟨#[]⟩) (.slice a1 st.keys.length p1) (.slice a2 st.kids.length p2) := hL2.keep ((hgrow3.block (w.heap.size + 1) (by simp; omega) hLne).trans (Lib.alloc_old w2 _ (w.heap.size + 1) (by omega))); have c23 : w3.cell? ⟨w.heap.size + 1, 2, none⟩ = some (.slice a1 st.keys.length p1) := hL3.cell 2; have f23 := hL3.free 2))
            all_goals (go_wp2_with fail; go_meet; exact ⟨_, hTab.key hbl ((Kept2.refl b (w.heap.size + 2) wr).drew.trans hK2) hP2 hM2 hgrow3 hat (by simp) hown'⟩)
          case rest =>
            obtain ⟨kv2, hT2⟩ := hcut
            clear hky c2 f2 hL hTab hlast
            have htk := takes_any (c := 58) hT2.P
            cases htr : Jsn.takes 58 r1 with
            | err y q =>
              rw [htr] at htk hst
              rw [loop_err hfine hst] at hE
              have HY := show Hid _ from hE
              clear hE hst
              go_wp2_with (first
                | (go_at_call 120; refine htk.mono ?_; rintro e w4 ⟨hK4, hA⟩; replace hA : e = boom s y q := hA; subst hA))
              exact ⟨rfl, hT2.Kp.trans hK4, by rw [HY.out]; rfl⟩
            | ok is2 r2 =>
              rw [htr] at htk hst
              have hr2 : r2.length ≤ r1.length := by have := Jsn.takes_fine 58 r1; rw [htr] at this; exact List.IsSuffix.length_le this
              cases is2 with
              | false =>
                replace hst : Jsn.stepT (Jsn.valueR k) st z = .err 3 r2.length := hst
                rw [loop_err hfine hst] at hE
                have HY := show Hid _ from hE
                clear hE hst
                go_wp2_with (first
                  | (go_at_call 120; refine htk.mono ?_; rintro e w4 ⟨hK4, rfl, hP4⟩; obtain ⟨p, hp, d1⟩ := hP4.c1))
                obtain rfl : p = s.length - r2.length := by omega
                exact ⟨rfl, hT2.Kp.trans hK4, by rw [HY.out]; rfl⟩
              | true =>
                replace hst : Jsn.stepT (Jsn.valueR k) st z = (Jsn.valueR k st.n r2).bind fun p y => .ok ⟨p.2, st.keys ++ [t], st.kids ++ [p.1]⟩ y := hst
                go_upto_region 9 with (first
                  | (go_at_call 120; refine htk.mono ?_; rintro e w4 ⟨hK4, rfl, hP4⟩))
                have hT4 := hT2.go (st' := st) hK4 hP4 rfl hbl
                clear htk hT2 hP4 hK4
                have hL := hT4.L
                have hz4 := hT4.sz
                have c3 : w4.cell? ⟨w.heap.size + 1, 3, none⟩ = some (.slice a2 st.kids.length p2) := hL.cell 3
                have f3 := hL.free 3
                have hVz := hV st.n r2
                cases hv : Jsn.valueR k st.n r2 with
                | err y q =>
                  rw [hv] at hst
                  rw [loop_err hfine hst] at hE
                  have HY := show Hid _ from hE
                  clear hE hst
                  refine wp_region_held_drew (S := fun W => W.cell? ⟨w.heap.size + 1, 3, none⟩ = some (.slice a2 st.kids.length p2)) (by kernel_rfl) c3 (fun hS => ?_)
                  refine takeH 0 33 (.pointer (some ⟨w.heap.size + 1, 3, none⟩)) rfl rfl (by kernel_rfl) (by kernel_rfl) (by kernel_rfl) (fun _ _ _ h => h) (Or.inl ⟨by kernel_rfl, fun W hSW => by go_simp⟩) hS ?_
                  simp only [Act.put, List.setIfInBounds_toArray, List.set_cons_zero, List.set_cons_succ]
                  refine takeH 1 34 (.slice a2 st.kids.length p2) rfl rfl (by kernel_rfl) (by kernel_rfl) (by kernel_rfl) (fun _ _ _ h => h) (Or.inl ⟨by kernel_rfl, fun W hSW => by go_simp⟩) hS ?_
                  simp only [Act.put, List.setIfInBounds_toArray, List.set_cons_zero, List.set_cons_succ]
                  refine takeH 2 35 (.pointer (some ⟨b, 0, none⟩)) rfl rfl (by kernel_rfl) (by kernel_rfl) (by kernel_rfl) (fun _ _ _ h => h) (Or.inl ⟨by kernel_rfl, fun W hSW => by go_simp⟩) hS ?_
                  simp only [Act.put, List.setIfInBounds_toArray, List.set_cons_zero, List.set_cons_succ]
                  refine takeH 3 36 (.int .i64 d) rfl rfl (by kernel_rfl) (by kernel_rfl) (by kernel_rfl) (fun _ _ _ h => h) (Or.inl ⟨by kernel_rfl, fun W hSW => by go_simp⟩) hS ?_
                  simp only [Act.put, List.setIfInBounds_toArray, List.set_cons_zero, List.set_cons_succ]
                  refine wpAnyH_ready (rs := [4]) (by kernel_rfl) (by simp) ?_
                  refine AllReadyH.cons rfl (fun K hK0 => ?_) AllReadyH.nil
                  go_simp
                  refine (hVz _ hT4.P.drew).mono ?_
                  rintro e w5 ⟨hK5, hA⟩
                  rw [hv] at hA
                  replace hA : e = boom s y q := hA
                  subst hA
                  exact ⟨rfl, hT4.Kp.drew.trans hK5, by rw [HY.out]; rfl⟩
                | ok pr r3 =>
                  rw [hv] at hst
                  replace hst : Jsn.stepT (Jsn.valueR k) st z = .ok ⟨pr.2, st.keys ++ [t], st.kids ++ [pr.1]⟩ r3 := hst
                  rw [loop_ok hfine hst] at hE
                  have hr3 : r3.length ≤ r2.length := by have := Jsn.value_fine k st.n r2; rw [hv] at this; exact List.IsSuffix.length_le this
                  have HY := show Hid _ from hE
                  clear hE hst
                  have hlast := World.ownsRow.lt hT4.G.own
                  go_region_law (first
                    | (go_simp; refine (hVz _ hT4.P.drew).mono ?_; rintro e w5 ⟨hK5, hA⟩; rw [hv] at hA; obtain ⟨v5, rfl, hr5, hP5⟩ := hA; obtain ⟨aa, na, ca, ab, nb, cb, rfl⟩ := hr5.shape; have hs5 : w4.heap.size ≤ w5.heap.size := hK5.size; have hL5 : VAt w5 (w.heap.size + 1) (.int .i64 6) (.string ⟨#[]⟩) kv2 (.slice a2 st.kids.length p2) := hL.keep (hK5.block (w.heap.size + 1) hL.lt (by omega)); have c35 : w5.cell? ⟨w.heap.size + 1, 3, none⟩ = some (.slice a2 st.kids.length p2) := hL5.cell 3; have c3a : (w5.alloc (.cells #[.int .i64 pr.1.kind, .string (str pr.1.text), .slice aa na ca, .slice ab nb cb] 27)).cell? ⟨w.heap.size + 1, 3, none⟩ = some (.slice a2 st.kids.length p2) := (hL5.keep (Lib.alloc_old w5 _ (w.heap.size + 1) (by omega))).cell 3; have hGa : (w5.alloc (.cells #[.int .i64 pr.1.kind, .string (str pr.1.text), .slice aa na ca, .slice ab nb cb] 27)).ownsRow (w.heap.size + 3) 27 4 (.slice a2 st.kids.length p2) st.kids.length (flat vs) := own_keep hT4.G.own (fun k hk hl => (Lib.alloc_old w5 _ k (by omega)).trans (hK5.block k hl (by omega))); have hnew := cell_four_new w5 (.int .i64 pr.1.kind) (.string (str pr.1.text)) (.slice aa na ca) (.slice ab nb cb) 27; have hLne : some (w.heap.size + 1) ≠ (Value.slice a2 st.kids.length p2).ownBlock := fun e => by have := (hlast _ e.symm).1; omega)
                    | (refine step_append_lies _ rfl (.tmp 34) (.tmp 38) 24 rfl (w.heap.size + 3) 27 i0 (vv (.int .i64 0) (.string ⟨#[]⟩) (.slice none 0 0) (.slice none 0 0)) 4 72 Tryz.underlying24 hi hz0 hz1 hz2 rfl (by decide) _ _ _ rfl hGa ⟨w5.heap.size, 0, none⟩ 1 1 [.int .i64 pr.1.kind, .string (str pr.1.text), .slice aa na ca, .slice ab nb cb] rfl rfl hnew (fun x hx => by simp at hx; rcases hx with rfl | rfl | rfl | rfl <;> rfl) (by decide) (by unfold maxLen; omega) (by omega) (by simp; omega) _ rfl ?_; intro g cap w6 hown' hgrow6 hat hglt; have hL6 : VAt w6 (w.heap.size + 1) (.int .i64 6) (.string ⟨#[]⟩) kv2 (.slice a2 st.kids.length p2) := hL5.keep ((hgrow6.block (w.heap.size + 1) (by simp; omega) hLne).trans (Lib.alloc_old w5 _ (w.heap.size + 1) (by omega))); have c36 : w6.cell? ⟨w.heap.size + 1, 3, none⟩ = some (.slice a2 st.kids.length p2) := hL6.cell 3; have f36 := hL6.free 3))
                  all_goals (
                    have hT6 := hT4.val (st' := ⟨pr.2, st.keys ++ [t], st.kids ++ [pr.1]⟩) hbl ((Kept.refl b w4).drew.trans hK5) hP5 rfl hgrow6 hat (by simp) hr5 hown'
                    generalize w6.setCell ⟨w.heap.size + 1, 3, none⟩ (.slice (some ⟨g, 0, none⟩) (st.kids.length + 1) cap) = W6 at hT6 ⊢
                    have hgo := goesOn_any (c := 125) hT6.P
                    clear hL6 hown' hgrow6 hGa hnew hr5 hP5 hL5 c36 f36 c35 c3a
                    cases hgr : Jsn.goesOn 125 r3 with
                    | err y q =>
                      rw [hgr] at hgo
                      have HZ : Hid (X = .err y q) := by show _ = _; rw [HY.out, hgr]; rfl
                      go_wp2_with (first
                        | (go_at_call 121; refine hgo.mono ?_; rintro e w7 ⟨hK7, hA7⟩; replace hA7 : e = boom s y q := hA7; subst hA7))
                      exact ⟨rfl, hT6.Kp.trans hK7, by rw [HZ.out]; rfl⟩
                    | ok m2 l2 =>
                      rw [hgr] at hgo
                      have hl2 := goes_lt hgr
                      have HZ : Hid (X = if m2 = true then Jsn.loopR (Jsn.stepT (Jsn.valueR k)) 125 ⟨pr.2, st.keys ++ [t], st.kids ++ [pr.1]⟩ l2 else .ok ⟨pr.2, st.keys ++ [t], st.kids ++ [pr.1]⟩ l2) := by show _ = _; rw [HY.out, hgr]; rfl
                      go_wp2_with (first
                        | (go_at_call 121; refine hgo.mono ?_; rintro e w7 ⟨hK7, rfl, hP7⟩))
                      go_roundw
                      case rel =>
                        exact ⟨m2, ⟨pr.2, st.keys ++ [t], st.kids ++ [pr.1]⟩, l2, _, _, _, rfl, hT6.go hK7 hP7 rfl hbl, by simp; omega, by simp; omega, HZ⟩
                      case measure =>
                        cases m2 with
                        | true =>
                          show leftOf b s w7 + 1 < leftOf b s wr + 1
                          rw [hP7.left, HPL.out]
                          omega
                        | false =>
                          show 0 < leftOf b s wr + 1
                          omega)
end Go.Proofs.YtmmpbjpeiclacaaGreatDoor
