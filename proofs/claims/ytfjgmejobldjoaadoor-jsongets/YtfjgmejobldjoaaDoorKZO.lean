/- The contract of the document's Get. -/
import Derived.Test.YtfjgmejobldjoaaDoorKZN
import Derived.BigQuiet
set_option linter.unusedVariables false
set_option linter.unusedSimpArgs false
namespace Go.Proofs.YtfjgmejobldjoaaDoor
open Go.RowKit
theorem str_bne_yes {a b : List UInt8} (h : a ≠ b) : ((str a).toList != (str b).toList) = true := by
  unfold bne
  rw [str_beq_no h]
  rfl
theorem str_bne_no {a b : List UInt8} (h : a = b) : ((str a).toList != (str b).toList) = false := by
  unfold bne
  rw [str_beq_yes h]
  rfl
set_option maxHeartbeats 4000000 in
set_option maxRecDepth 100000 in
theorem RGet_any (t : Jsn.J) (v : Value) (keys : List (List UInt8)) (xv : Value) (w : World) (hv : RV (fun _ => True) w t v) (hx : RTs (fun _ => True) w keys xv) (hsz : Jsn.sizeJ t ≤ 1000000000) (hkl : keys.length ≤ 1000000000) :
    Calls Tryd.prog 7 #[v, xv] w (GetPost w (Jsn.getJ t keys)) := by
  obtain ⟨aa, na, ca, ab, nb, cb, rfl⟩ := hv.shape
  obtain ⟨xa, xc, rfl⟩ := hx.form
  have HX : Hid (RTs (fun _ => True) w keys (.slice xa keys.length xc)) := hx
  have HV : Hid (RV (fun _ => True) w t (vv (.int .i64 t.kind) (.string (str t.text)) (.slice aa na ca) (.slice ab nb cb))) := hv
  have hB2 : Below w.heap.size w ((w.alloc (.cells #[.int .i64 t.kind, .string (str t.text), .slice aa na ca, .slice ab nb cb] 25)).alloc (.cells #[.int .i64 0, .string ⟨#[]⟩, .slice none 0 0, .slice none 0 0] 25)) := ((Below.refl _ w).alloc (Nat.le_refl _) _).alloc (by simp) _
  have hV2 : VAt ((w.alloc (.cells #[.int .i64 t.kind, .string (str t.text), .slice aa na ca, .slice ab nb cb] 25)).alloc (.cells #[.int .i64 0, .string ⟨#[]⟩, .slice none 0 0, .slice none 0 0] 25)) w.heap.size (.int .i64 t.kind) (.string (str t.text)) (.slice aa na ca) (.slice ab nb cb) := VAt.below (val_new w _) ((Below.refl _ _).alloc (Nat.le_refl _) _)
  have hR2 : VAt ((w.alloc (.cells #[.int .i64 t.kind, .string (str t.text), .slice aa na ca, .slice ab nb cb] 25)).alloc (.cells #[.int .i64 0, .string ⟨#[]⟩, .slice none 0 0, .slice none 0 0] 25)) (w.heap.size + 1) (.int .i64 0) (.string ⟨#[]⟩) (.slice none 0 0) (.slice none 0 0) := by
    have := zeroV_new (w.alloc (.cells #[.int .i64 t.kind, .string (str t.text), .slice aa na ca, .slice ab nb cb] 25))
    rw [show (w.alloc (.cells #[.int .i64 t.kind, .string (str t.text), .slice aa na ca, .slice ab nb cb] 25)).heap.size = w.heap.size + 1 by simp] at this
    exact this
  obtain ⟨r, HR⟩ : ∃ r, Hid (r = Jsn.getJ t keys) := ⟨_, rfl⟩
  rw [← HR.out]
  obtain ⟨Qp, HQ⟩ : ∃ Qp, Hid (Qp = GetPost w r) := ⟨_, rfl⟩
  rw [← HQ.out]
  clear hv hx
  go_enter Tryd.func7, Tryd.ntmps7
  go_upto_region 1 with fail
  generalize (w.alloc (.cells #[.int .i64 t.kind, .string (str t.text), .slice aa na ca, .slice ab nb cb] 25)).alloc (.cells #[.int .i64 0, .string ⟨#[]⟩, .slice none 0 0, .slice none 0 0] 25) = w2 at *
  go_wp2
  go_loopw [6] (fun i wr => ∃ (j : Nat) (cur : Jsn.J) (kv cv : Value), i = .int .i64 j ∧ j ≤ keys.length ∧ VAt wr w.heap.size (.int .i64 cur.kind) (.string (str cur.text)) kv cv ∧ VAt wr (w.heap.size + 1) (.int .i64 0) (.string ⟨#[]⟩) (.slice none 0 0) (.slice none 0 0) ∧ RV (fun _ => True) w cur (vv (.int .i64 cur.kind) (.string (str cur.text)) kv cv) ∧ Jsn.sizeJ cur ≤ 1000000000 ∧ Hid (r = Jsn.getJ cur (keys.drop j)) ∧ Below w.heap.size w wr) (fun i _ => keys.length - (intOf i).toNat)
  case atStart => exact ⟨0, t, _, _, rfl, Nat.zero_le _, hV2, hR2, HV.out, hsz, HR.out, hB2⟩
  case round =>
    obtain ⟨j, cur, kv, cv, rfl, hj, hV, hR, hrv, hcs, HG, hB⟩ := hrel
    clear hV2 hR2 hB2 HV HR
    obtain ⟨k, tx, ks, cs⟩ := cur
    obtain ⟨kv', cv', he, hks, hkids⟩ := RV_mk.1 hrv
    cases he
    obtain ⟨a1, c1, rfl⟩ := hks.form
    obtain ⟨a2, c2, rfl⟩ := hkids.form
    simp only [Jsn.J.kind, Jsn.J.text] at hV
    by_cases hlt : j < keys.length
    · obtain ⟨xb, xo, rfl, hxc, _, hxl, hxcell⟩ := HX.out.at (List.getElem?_eq_getElem hlt)
      have HD : Hid (keys.drop j = keys[j] :: keys.drop (j + 1)) := List.drop_eq_getElem_cons hlt
      have hksl : ks.length ≤ 1000000000 := by rw [Jsn.sizeJ_mk] at hcs; omega
      have hcsl : cs.length ≤ 1000000000 := by rw [Jsn.sizeJ_mk] at hcs; omega
      have HK := hide hkids
      have HS := hide hks
      have HXC := hide hxcell
      generalize keys[j] = x at *
      clear hrv hks hkids hxcell
      have hile := Jsn.ix_le ks x
      go_wp2_with fail
      go_loopw [7] (fun i wr2 => ∃ n : Nat, i = .int .i64 n ∧ n ≤ Jsn.ix ks x ∧ VAt wr2 w.heap.size (.int .i64 k) (.string (str tx)) (.slice a1 ks.length c1) (.slice a2 cs.length c2) ∧ VAt wr2 (w.heap.size + 1) (.int .i64 0) (.string ⟨#[]⟩) (.slice none 0 0) (.slice none 0 0) ∧ Below w.heap.size w wr2) (fun i _ => ks.length - (intOf i).toNat)
      case atStart => exact ⟨0, rfl, Nat.zero_le _, hV, hR, hB⟩
      case round =>
        obtain ⟨n, rfl, hn, hV3, hR3, hB3⟩ := hrel
        clear hV hR hB
        have q2 := hV3.c2
        have p := (hB3.cell (p := ⟨xb, xo + j, none⟩) hxl).trans HXC.out
        by_cases hni : n < Jsn.ix ks x
        · have hnl : n < ks.length := by omega
          obtain ⟨kb, ko, rfl, hkc, _, hkl2, hkcell⟩ := HS.out.at (List.getElem?_eq_getElem hnl)
          have p2 := (hB3.cell (p := ⟨kb, ko + n, none⟩) hkl2).trans hkcell
          have hne := str_beq_no (Jsn.ix_before ks x n hni hnl)
          have hnl' : (n : Int) < (ks.length : Int) := by omega
          have hlt' : (j : Int) < (keys.length : Int) := by omega
          clear hkcell
          generalize ks[n] = y at *
          go_wp2_with fail
          go_quiet (fail)
          have hD := below_drewN nq (Below.refl wr.heap.size wr)
          replace hV3 := hV3.below hD
          replace hR3 := hR3.below hD
          replace hB3 := bel hB3 hD
          clear q2 p p2 hD
          generalize wr.drewN nq = wd at *
          go_wp2
          exact ⟨⟨n + 1, by go_num, by omega, hV3, hR3, hB3⟩, by simp [intOf]; omega⟩
        · obtain hnx : n = Jsn.ix ks x := by omega
          subst hnx
          have hlt' : (j : Int) < (keys.length : Int) := by omega
          by_cases hi : Jsn.ix ks x < ks.length
          · obtain ⟨kb, ko, rfl, hkc, _, hkl2, hkcell⟩ := HS.out.at (List.getElem?_eq_getElem hi)
            have p2 := (hB3.cell (p := ⟨kb, ko + Jsn.ix ks x, none⟩) hkl2).trans hkcell
            have hne := str_beq_yes (Jsn.ix_at ks x hi)
            have hnl' : ((Jsn.ix ks x : Nat) : Int) < (ks.length : Int) := by omega
            clear hkcell
            obtain ⟨y, HY⟩ : ∃ y, Hid (ks[Jsn.ix ks x] = y) := ⟨_, hide rfl⟩
            rw [HY.out] at hne p2
            go_wp2_with fail
            go_quiet (fail)
            have hD := below_drewN nq (Below.refl wr.heap.size wr)
            replace hV3 := hV3.below hD
            replace hR3 := hR3.below hD
            replace hB3 := bel hB3 hD
            clear q2 p p2 hD
            generalize wr.drewN nq = wd at *
            have q0 := hV3.c0
            have q2 := hV3.c2
            have q3 := hV3.c3
            go_upto_region 7 with fail
            by_cases h6 : k = 6
            · have hk6 : (k != 6) = false := by simp [h6]
              by_cases hic : Jsn.ix ks x < cs.length
              · have hat : cs[Jsn.ix ks x]? = some cs[Jsn.ix ks x] := List.getElem?_eq_getElem hic
                obtain ⟨g, o, rfl, hcl, _, hgl, y0, y1, y2, y3, e0, e1, e2, e3, hrk⟩ := HK.out.at hat
                have hkg := hB3.block g hgl
                have f0 := (cell_keep hkg (o := o + Jsn.ix ks x * 4)).trans e0
                have f1 := (cell_keep hkg (o := o + Jsn.ix ks x * 4 + 1)).trans e1
                have f2 := (cell_keep hkg (o := o + Jsn.ix ks x * 4 + 2)).trans e2
                have f3 := (cell_keep hkg (o := o + Jsn.ix ks x * 4 + 3)).trans e3
                obtain ⟨da, dn, dc, db, dm, dd, hsh⟩ := hrk.shape
                have HN : Hid (r = Jsn.getJ cs[Jsn.ix ks x] (keys.drop (j + 1))) := by
                  show r = _
                  rw [HG.out, HD.out]
                  exact Jsn.get_yes h6 hi hat
                have hsc := sizeJ_kid hat hcs
                have HRK := hide hrk
                clear hat HG HD hrk hcs
                generalize cs[Jsn.ix ks x] = c at *
                cases hsh
                have hic' : ((Jsn.ix ks x : Nat) : Int) < (cs.length : Int) := by omega
                clear h6 HY HS
                generalize Jsn.ix ks x = i at *
                go_wp2_with ((with_reducible show wpList _ _ _ ({ op := Op.store 25 _ _, .. } :: _) _ _); refine wpList_store_V _ _ rfl rfl _ _ _ _ _ rfl rfl hV3 (ones_mk _ _ _ _ _ _ _ _) ?_)
                exact ⟨⟨j + 1, c, _, _, by go_num, by omega, setRow_V hV3 _ _ _ _, hR3.rowOther (by omega), HRK.out, hsc, HN, below_setRow hB3 (Nat.le_refl _)⟩, by simp [intOf]; omega⟩
              · have HN : Hid (r = none) := by
                  show r = none
                  rw [HG.out, HD.out]
                  exact Jsn.get_no (.inr (.inr hic))
                have hic' : ¬ ((Jsn.ix ks x : Nat) : Int) < (cs.length : Int) := by omega
                clear h6 HG HD HK hcs HY HS
                generalize Jsn.ix ks x = i at *
                go_wp2_with ((with_reducible show wpList _ _ _ ({ op := Op.store 25 _ _, .. } :: _) _ _); refine wpList_store_V _ _ rfl rfl _ _ _ _ _ rfl rfl hR3 (ones_mk _ _ _ _ _ _ _ _) ?_)
                refine ret_V2 rfl rfl rfl rfl (setRow_V hR3 _ _ _ _) ?_
                rw [HQ.out, HN.out]
                exact ⟨_, rfl, RV.plain _ _ 0 [], below_setRow hB3 (by omega)⟩
            · have HN : Hid (r = none) := by
                show r = none
                rw [HG.out, HD.out]
                exact Jsn.get_no (.inl h6)
              have hk6 : (k != 6) = true := by simp [h6]
              clear h6 HG HD HK hcs HY HS
              generalize Jsn.ix ks x = i at *
              go_wp2_with ((with_reducible show wpList _ _ _ ({ op := Op.store 25 _ _, .. } :: _) _ _); refine wpList_store_V _ _ rfl rfl _ _ _ _ _ rfl rfl hR3 (ones_mk _ _ _ _ _ _ _ _) ?_)
              refine ret_V2 rfl rfl rfl rfl (setRow_V hR3 _ _ _ _) ?_
              rw [HQ.out, HN.out]
              exact ⟨_, rfl, RV.plain _ _ 0 [], below_setRow hB3 (by omega)⟩
          · have HN : Hid (r = none) := by
              show r = none
              rw [HG.out, HD.out]
              exact Jsn.get_no (.inr (.inl hi))
            have hnl' : ¬ ((Jsn.ix ks x : Nat) : Int) < (ks.length : Int) := by omega
            have hnd : decide (((Jsn.ix ks x : Nat) : Int) < (ks.length : Int)) = false := decide_eq_false hnl'
            go_wp2_with fail
            go_quiet (fail)
            have hD := below_drewN nq (Below.refl wr.heap.size wr)
            replace hV3 := hV3.below hD
            replace hR3 := hR3.below hD
            replace hB3 := bel hB3 hD
            clear q2 p hD
            generalize wr.drewN nq = wd at *
            have q0 := hV3.c0
            have q2 := hV3.c2
            have q3 := hV3.c3
            go_upto_region 7 with fail
            by_cases h6 : k = 6
            · have hk6 : (k != 6) = false := by simp [h6]
              clear h6 HG HD HK hcs HS
              generalize Jsn.ix ks x = i at *
              go_wp2_with ((with_reducible show wpList _ _ _ ({ op := Op.store 25 _ _, .. } :: _) _ _); refine wpList_store_V _ _ rfl rfl _ _ _ _ _ rfl rfl hR3 (ones_mk _ _ _ _ _ _ _ _) ?_)
              refine ret_V2 rfl rfl rfl rfl (setRow_V hR3 _ _ _ _) ?_
              rw [HQ.out, HN.out]
              exact ⟨_, rfl, RV.plain _ _ 0 [], below_setRow hB3 (by omega)⟩
            · have hk6 : (k != 6) = true := by simp [h6]
              clear h6 HG HD HK hcs HS
              generalize Jsn.ix ks x = i at *
              go_wp2_with ((with_reducible show wpList _ _ _ ({ op := Op.store 25 _ _, .. } :: _) _ _); refine wpList_store_V _ _ rfl rfl _ _ _ _ _ rfl rfl hR3 (ones_mk _ _ _ _ _ _ _ _) ?_)
              refine ret_V2 rfl rfl rfl rfl (setRow_V hR3 _ _ _ _) ?_
              rw [HQ.out, HN.out]
              exact ⟨_, rfl, RV.plain _ _ 0 [], below_setRow hB3 (by omega)⟩
    · have hd : keys.drop j = [] := List.drop_eq_nil_of_le (by omega)
      have HN : Hid (r = some (.mk k tx ks cs)) := by
        show r = _
        rw [HG.out, hd, Jsn.get_nil]
      have HRV := hide hrv
      clear HG hd hrv hks hkids hcs
      go_wp2_with (first
        | ((with_reducible show wpList _ _ _ ({ op := Op.load 25 _, .. } :: _) _ _); refine wpList_load_V _ rfl rfl _ _ _ _ _ rfl hV ?_)
        | ((with_reducible show wpList _ _ _ ({ op := Op.store 25 _ _, .. } :: _) _ _); refine wpList_store_V _ _ rfl rfl _ _ _ _ _ rfl rfl hR (ones_mk _ _ _ _ _ _ _ _) ?_))
      refine ret_V2 rfl rfl rfl rfl (setRow_V hR _ _ _ _) ?_
      rw [HQ.out, HN.out]
      exact ⟨_, rfl, HRV.out.below (below_setRow hB (by omega)), below_setRow hB (by omega)⟩
end Go.Proofs.YtfjgmejobldjoaaDoor
