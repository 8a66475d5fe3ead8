/- The contracts of the document's count and May. -/
import Derived.Test.YtmmpbjpeiclacaaGreatDoorKZqr
import Derived.Test.YtmmpbjpeiclacaaGreatDoorKZG
set_option linter.unusedVariables false
set_option linter.unusedSimpArgs false
namespace Jsn
theorem may_le : ∀ (v : J) (d n m : Nat), mayC v d n = some m → n < m ∧ m ≤ 4096 := by
  intro v
  induction v using J.ind with
  | h k t ks cs ih =>
    have hL : ∀ (l : List J), (∀ c ∈ l, ∀ d n m, mayC c d n = some m → n < m ∧ m ≤ 4096) → ∀ d n m, n ≤ 4096 → mayL l d n = some m → n ≤ m ∧ m ≤ 4096 := by
      intro l
      induction l with
      | nil => intro _ d n m hn h; rw [mayL] at h; cases h; exact ⟨Nat.le_refl _, hn⟩
      | cons c l ihl =>
        intro hc d n m hn h
        rw [mayL] at h
        split at h
        · cases h
        · rename_i p hp
          have h1 := hc c (List.mem_cons_self ..) d n p hp
          have h2 := ihl (fun e he => hc e (List.mem_cons_of_mem _ he)) d p m h1.2 h
          omega
    intro d n m h
    rw [mayC] at h
    split at h
    · cases h
    · rename_i hn
      split at h
      · split at h
        · have := hL cs ih (d + 1) (n + 1) m (by omega) h; omega
        · cases h
      · split at h
        · split at h
          · split at h
            · have := hL cs ih (d + 1) (n + 1) m (by omega) h; omega
            · cases h
          · cases h
        · split at h
          · cases h; omega
          · cases h
end Jsn
namespace Go.Proofs.YtmmpbjpeiclacaaGreatDoor
open Go.RowKit
def badJ (k : Int) (t : Jsn.J) (d left : Nat) : Bool := decide (left = 0) || (!oneJ t || (decide (k = 5 ∨ k = 6) && decide (64 ≤ d)))
theorem may_bad {k : Int} {t : List UInt8} {ks : List (List UInt8)} {cs : List Jsn.J} {d left : Nat} (hl : left ≤ 4096) (h : badJ k (.mk k t ks cs) d left = true) : Jsn.mayC (.mk k t ks cs) d (4096 - left) = none := by
  rw [Jsn.mayC]
  unfold badJ at h
  rw [one_mk] at h
  by_cases h0 : left = 0
  · rw [if_pos (by omega)]
  · rw [if_neg (by omega)]
    by_cases h5 : k = 5
    · subst h5
      rw [if_pos rfl, if_neg]
      rintro ⟨rfl, rfl, hd⟩
      simp [h0] at h
      omega
    · rw [if_neg h5]
      by_cases h6 : k = 6
      · subst h6
        rw [if_pos rfl]
        split
        · rename_i hh
          rw [if_neg]
          intro hk
          simp [h0, hh.1, hh.2.1, hk] at h
          omega
        · rfl
      · rw [if_neg h6, if_neg]
        rintro ⟨rfl, rfl, ht⟩
        simp [h0, h5, h6, ht] at h
theorem may_good {k : Int} {t : List UInt8} {ks : List (List UInt8)} {cs : List Jsn.J} {d left : Nat} (hl : left ≤ 4096) (h : badJ k (.mk k t ks cs) d left = false) : Jsn.mayC (.mk k t ks cs) d (4096 - left) = Jsn.mayL cs (d + 1) (4096 - left + 1) := by
  rw [Jsn.mayC]
  unfold badJ at h
  rw [one_mk] at h
  simp only [Bool.or_eq_false_iff, decide_eq_false_iff_not, Bool.not_eq_false'] at h
  obtain ⟨h0, h1, h2⟩ := h
  rw [if_neg (by omega)]
  by_cases h5 : k = 5
  · subst h5
    simp at h1 h2
    rw [if_pos rfl, if_pos ⟨h1.2, h1.1, by omega⟩]
  · rw [if_neg h5]
    rw [if_neg h5] at h1
    by_cases h6 : k = 6
    · subst h6
      simp at h1 h2
      rw [if_pos rfl, if_pos ⟨h1.2.2, h1.2.1, by omega⟩, if_pos h1.1]
    · rw [if_neg h6]
      rw [if_neg h6] at h1
      simp at h1
      obtain ⟨⟨rfl, rfl⟩, ht⟩ := h1
      rw [if_pos ⟨rfl, rfl, ht⟩, Jsn.mayL]
theorem bad_facts {k : Int} {t : List UInt8} {ks : List (List UInt8)} {cs : List Jsn.J} {d left : Nat} (h : badJ k (.mk k t ks cs) d left = false) : left ≠ 0 ∧ (cs = [] ∨ d < 64) := by
  unfold badJ at h
  rw [one_mk] at h
  simp only [Bool.or_eq_false_iff, decide_eq_false_iff_not, Bool.not_eq_false'] at h
  obtain ⟨h0, h1, h2⟩ := h
  refine ⟨h0, ?_⟩
  by_cases h5 : k = 5 ∨ k = 6
  · right
    rw [decide_eq_true h5] at h2
    simp at h2
    exact h2
  · left
    rw [if_neg (fun e => h5 (.inl e)), if_neg (fun e => h5 (.inr e))] at h1
    simp at h1
    exact h1.1.2
/-- What count answers. -/
def CntPost (w : World) (M : Option Nat) (left : Nat) : Ending → World → Prop := fun e w' => ∃ r : Nat, e = .returned (.int .i64 r) ∧ r ≤ 4097 ∧ (∀ m, M = some m → r + (4096 - left) = m) ∧ (M = none → left < r) ∧ Below w.heap.size w w'
def RCountC (t : Jsn.J) : Prop := ∀ (v : Value) (w : World) (d left : Nat), RV (fun _ => True) w t v → Jsn.sizeJ t ≤ 3000 → d ≤ 64 → left ≤ 4096 → Calls Tryz.prog 40 #[v, .int .i64 d, .int .i64 left] w (CntPost w (Jsn.mayC t d (4096 - left)) left)
set_option maxHeartbeats 8000000 in
set_option maxRecDepth 100000 in
theorem RCount_all : ∀ t, RCountC t := by
  intro tr
  induction tr using Jsn.J.ind with
  | h k tx ks cs ih =>
    intro v w d left hv hsz hd hl
    have HO := hideN (fun W hB => ROne_any (.mk k tx ks cs) v W (hv.below hB) (by omega))
    obtain ⟨kv, cv, rfl, hks, hcs⟩ := RV_mk.1 hv
    obtain ⟨a1, c1, rfl⟩ := hks.form
    obtain ⟨a2, c2, rfl⟩ := hcs.form
    rw [Jsn.sizeJ_mk] at hsz
    have hB1 : Below w.heap.size w (w.alloc (.cells #[.int .i64 k, .string (str tx), .slice a1 ks.length c1, .slice a2 cs.length c2] 27)) := (Below.refl _ w).alloc (Nat.le_refl _) _
    have hV1 : VAt (w.alloc (.cells #[.int .i64 k, .string (str tx), .slice a1 ks.length c1, .slice a2 cs.length c2] 27)) w.heap.size (.int .i64 k) (.string (str tx)) (.slice a1 ks.length c1) (.slice a2 cs.length c2) := val_new w _
    have hk1 : ks.length ≤ 3000 := by omega
    have hc1 : cs.length ≤ 3000 := by omega
    have HK := hideN hcs
    have HS : Hid (∀ c ∈ cs, Jsn.sizeJ c ≤ 3000) := fun c hc => by
      have := Jsn.sizeL_mem hc
      omega
    have HI := hideN ih
    clear hv hks hcs hsz ih
    have HBAD := hideN (fun h => may_bad (k := k) (t := tx) (ks := ks) (cs := cs) (d := d) hl h)
    have HGOOD := hideN (fun h => may_good (k := k) (t := tx) (ks := ks) (cs := cs) (d := d) hl h)
    obtain ⟨M, HM⟩ : ∃ M, Hid (M = Jsn.mayC (.mk k tx ks cs) d (4096 - left)) := ⟨_, rfl⟩
    rw [← HM.out]
    rw [← HM.out] at HBAD HGOOD
    unfold CntPost
    clear HM
    obtain ⟨bad, HB0⟩ : ∃ bad, Hid (bad = badJ k (.mk k tx ks cs) d left) := ⟨_, rfl⟩
    rw [← HB0.out] at HBAD HGOOD
    have HBB : Hid (bad = (decide (left = 0) || (!oneJ (.mk k tx ks cs) || (decide (k = 5 ∨ k = 6) && decide (64 ≤ d))))) := HB0.out
    have HF0 : Hid (bad = false → left ≠ 0 ∧ (cs = [] ∨ d < 64)) := fun h => bad_facts (by rw [← HB0.out]; exact h)
    clear HB0
    generalize oneJ (.mk k tx ks cs) = one at *
    go_enter Tryz.func40, Tryz.ntmps40
    go_upto_region 1 with fail
    generalize w.alloc (.cells #[.int .i64 k, .string (str tx), .slice a1 ks.length c1, .slice a2 cs.length c2] 27) = w1 at *
    go_cut [41] from 9 to 41 (fun y w' => y = Value.bool bad ∧ Below w1.heap.size w1 w')
    case first =>
      clear HBAD HGOOD HI HS HK
      have q0 : w1.cell? ⟨w.heap.size, 0, none⟩ = some (.int .i64 k) := hV1.cell 0
      have q1 : w1.cell? ⟨w.heap.size, 1, none⟩ = some (.string (str tx)) := hV1.cell 1
      have q2 : w1.cell? ⟨w.heap.size, 2, none⟩ = some (.slice a1 ks.length c1) := hV1.cell 2
      have q3 : w1.cell? ⟨w.heap.size, 3, none⟩ = some (.slice a2 cs.length c2) := hV1.cell 3
      have g1 : ¬ (4096 : Int) < (cs.length : Int) := by omega
      have g2 : ¬ (4096 : Int) < (ks.length : Int) := by omega
      by_cases h0 : left = 0
      · subst h0
        have HBT : Hid (bad = true) := by show bad = true; rw [HBB.out]; rfl
        clear HBB
        go_wp2_with fail
        go_meet
        exact ⟨by rw [HBT.out], Below.refl _ _⟩
      · have h0' : ¬ (left : Int) ≤ 0 := by omega
        have OC := hideN (HO.out w1 hB1)
        cases one with
        | false =>
          go_wp2_with (go_at_call 61; refine OC.out.mono ?_; rintro e w2 ⟨rfl, hB2⟩)
          go_meet
          exact ⟨by rw [HBB.out]; simp, hB2⟩
        | true =>
          have H0 := hideN h0
          clear h0
          by_cases h5 : k = 5 ∨ k = 6
          · by_cases hd64 : 64 ≤ d
            · have hd' : (64 : Int) ≤ (d : Int) := by omega
              have HBT : Hid (bad = true) := by show bad = true; rw [HBB.out, decide_eq_true h5, decide_eq_true hd64]; simp
              clear HBB
              rcases h5 with rfl | rfl
              all_goals
                go_wp2_with (go_at_call 61; refine OC.out.mono ?_; rintro e w2 ⟨rfl, hB2⟩; have hV2 := VAtb hV1 hB2; have r0 := hV2.cell 0; have r0' := r0.trans (rfl : _ = some (Value.int .i64 _)); clear r0)
                go_meet
                exact ⟨by rw [HBT.out], hB2⟩
            · have hd' : ¬ (64 : Int) ≤ (d : Int) := by omega
              have HBT : Hid (bad = false) := by show bad = false; rw [HBB.out, decide_eq_false H0.out, decide_eq_false hd64]; simp
              clear HBB
              rcases h5 with rfl | rfl
              all_goals
                go_wp2_with (go_at_call 61; refine OC.out.mono ?_; rintro e w2 ⟨rfl, hB2⟩; have hV2 := VAtb hV1 hB2; have r0 := hV2.cell 0; have r0' := r0.trans (rfl : _ = some (Value.int .i64 _)); clear r0)
                go_meet
                exact ⟨by rw [HBT.out]; first | rfl | exact congrArg Value.bool (decide_eq_false (by omega)), hB2⟩
          · have k5 : (k == 5) = false := by simp; exact fun h => h5 (.inl h)
            have k6 : (k == 6) = false := by simp; exact fun h => h5 (.inr h)
            have HBT : Hid (bad = false) := by show bad = false; rw [HBB.out, decide_eq_false H0.out, decide_eq_false h5]; simp
            clear HBB h5
            go_wp2_with (go_at_call 61; refine OC.out.mono ?_; rintro e w2 ⟨rfl, hB2⟩; have hV2 := VAtb hV1 hB2; have r0 := hV2.cell 0; have r0' := r0.trans (rfl : _ = some (Value.int .i64 _)); clear r0)
            go_meet
            exact ⟨by rw [HBT.out], hB2⟩
    case rest =>
      obtain ⟨rfl, hBc⟩ := hcut
      have hV2 := VAtb hV1 hBc
      have hB2 := bel hB1 hBc
      clear HBB HO hV1 hB1 hBc
      cases bad with
      | true =>
        have HN : Hid (M = none) := HBAD.out rfl
        clear HBAD HGOOD
        go_wp2_with fail
        go_ret
        exact ⟨4097, rfl, by omega, fun m hm => by (rw [HN.out] at hm; cases hm), fun _ => by omega, hB2⟩
      | false =>
        have HG : Hid (M = Jsn.mayL cs (d + 1) (4096 - left + 1)) := HGOOD.out rfl
        clear HBAD HGOOD
        obtain ⟨hl0, hcd⟩ := HF0.out rfl
        go_wp2_with fail
        go_loopw [7, 8] (fun c i wr => ∃ (n j : Nat), c = .int .i64 n ∧ i = .int .i64 j ∧ j ≤ cs.length ∧ n ≤ 8193 ∧ Hid ((n ≤ left ∧ M = Jsn.mayL (cs.drop j) (d + 1) (4096 - left + n)) ∨ (left < n ∧ M = none)) ∧ VAt wr w.heap.size (.int .i64 k) (.string (str tx)) (.slice a1 ks.length c1) (.slice a2 cs.length c2) ∧ Below w.heap.size w wr) (fun _ i _ => cs.length - (intOf i).toNat)
        case atStart => exact ⟨1, 0, rfl, rfl, Nat.zero_le _, by omega, .inl ⟨by omega, by rw [List.drop_zero]; exact HG.out⟩, hV2, hB2⟩
        case round =>
          obtain ⟨n, j, rfl, rfl, hj, hn, HP, hV, hB⟩ := hrel
          clear hV2 hB2 HG HF0
          have q3 : wr.cell? ⟨w.heap.size, 3, none⟩ = some (.slice a2 cs.length c2) := hV.cell 3
          by_cases hlt : j < cs.length
          · by_cases hnl : n ≤ left
            · have hnl' : (n : Int) ≤ (left : Int) := by omega
              have hat : cs[j]? = some cs[j] := List.getElem?_eq_getElem hlt
              obtain ⟨g, o, rfl, hcl, _, hgl, y0, y1, y2, y3, e0, e1, e2, e3, hrk⟩ := HK.out.at hat
              have hkg := hB.block g hgl
              have f0 := (cell_keep hkg (o := o + j * 4)).trans e0
              have f1 := (cell_keep hkg (o := o + j * 4 + 1)).trans e1
              have f2 := (cell_keep hkg (o := o + j * 4 + 2)).trans e2
              have f3 := (cell_keep hkg (o := o + j * 4 + 3)).trans e3
              obtain ⟨da, dn, dc, db, dm, dd, hsh⟩ := hrk.shape
              have hd1 : d + 1 ≤ 64 := by
                rcases hcd with h | h
                · rw [h] at hlt; simp at hlt
                · omega
              have CC := hideN (HI.out _ (List.getElem_mem hlt) _ wr (d + 1) (left - n) (hrk.below hB) (HS.out _ (List.getElem_mem hlt)) hd1 (by omega))
              have HD : Hid (cs.drop j = cs[j] :: cs.drop (j + 1)) := List.drop_eq_getElem_cons hlt
              generalize cs[j] = c at *
              have hc1 : (((d + 1 : Nat)) : Int) = (d : Int) + 1 := by omega
              have hc2 : ((left - n : Nat) : Int) = (left : Int) - (n : Int) := by omega
              rw [hc1, hc2] at CC
              unfold CntPost at CC
              cases hsh
              clear hat hrk e0 e1 e2 e3 hcd hc1 hc2
              have hp := HP.out
              have HM2 : Hid (M = Jsn.mayL (cs.drop j) (d + 1) (4096 - left + n)) := by
                rcases hp with h | h
                · exact h.2
                · omega
              have hnn : 4096 - (left - n) = 4096 - left + n := by omega
              rw [hnn] at CC
              clear hp HP hnn
              go_wp2_with (go_at_call 40; refine CC.out.mono ?_; rintro e w2 ⟨r, rfl, hr1, hr2, hr3, hB3⟩; have HR2 := hideN hr2; have HR3 := hideN hr3; clear hr2 hr3)
              have hV3 := VAtb hV hB3
              refine ⟨⟨n + r, j + 1, by go_num, by go_num, by omega, by omega, ?_, hV3, bel hB hB3⟩, by simp [intOf]; omega⟩
              cases hmc : Jsn.mayC c (d + 1) (4096 - left + n) with
              | none =>
                right
                have := HR3.out hmc
                refine ⟨by omega, ?_⟩
                rw [HM2.out, HD.out, Jsn.mayL, hmc]
              | some m =>
                left
                have h1 := HR2.out m hmc
                have h2 := Jsn.may_le c _ _ m hmc
                refine ⟨by omega, ?_⟩
                rw [HM2.out, HD.out, Jsn.mayL, hmc]
                show Jsn.mayL (cs.drop (j + 1)) (d + 1) m = _
                rw [show m = 4096 - left + (n + r) by omega]
            · have hnl' : ¬ (n : Int) ≤ (left : Int) := by omega
              have HN : Hid (M = none) := by
                rcases HP.out with h | h
                · omega
                · exact h.2
              clear HP
              by_cases h97 : n ≤ 4097
              · go_wp2_with fail
                all_goals go_ret
                all_goals exact ⟨n, by first | rfl | exact ret_int (by omega) | (exfalso; omega), by omega, fun m hm => by (rw [HN.out] at hm; cases hm), fun _ => by omega, hB⟩
              · go_wp2_with fail
                all_goals go_ret
                all_goals exact ⟨4097, by first | rfl | exact ret_int (by omega) | (exfalso; omega), by omega, fun m hm => by (rw [HN.out] at hm; cases hm), fun _ => by omega, hB⟩
          · have hd0 : cs.drop j = [] := List.drop_eq_nil_of_le (by omega)
            have HE := hideN hd0
            clear hd0
            by_cases hnl : n ≤ left
            · have HS2 : Hid (M = some (4096 - left + n)) := by
                rcases HP.out with h | h
                · show M = _; rw [h.2, HE.out, Jsn.mayL]
                · omega
              clear HP
              go_wp2_with fail
              all_goals go_ret
              all_goals exact ⟨n, by first | rfl | exact ret_int (by omega) | (exfalso; omega), by omega, fun m hm => by (rw [HS2.out] at hm; cases hm; omega), fun hm => by (rw [HS2.out] at hm; cases hm), hB⟩
            · have HN : Hid (M = none) := by
                rcases HP.out with h | h
                · omega
                · exact h.2
              clear HP
              by_cases h97 : n ≤ 4097
              · go_wp2_with fail
                all_goals go_ret
                all_goals exact ⟨n, by first | rfl | exact ret_int (by omega) | (exfalso; omega), by omega, fun m hm => by (rw [HN.out] at hm; cases hm), fun _ => by omega, hB⟩
              · go_wp2_with fail
                all_goals go_ret
                all_goals exact ⟨4097, by first | rfl | exact ret_int (by omega) | (exfalso; omega), by omega, fun m hm => by (rw [HN.out] at hm; cases hm), fun _ => by omega, hB⟩
end Go.Proofs.YtmmpbjpeiclacaaGreatDoor
