/- What Get finds, and the contract of the program's Get. -/
import Derived.Test.YtfjgmejobldjoaaDoorKZM
set_option linter.unusedVariables false
set_option linter.unusedSimpArgs false
namespace Jsn
def ix (ks : List (List UInt8)) (x : List UInt8) : Nat := ks.findIdx (· == x)
/-- What is found by keys. -/
def getJ : J → List (List UInt8) → Option J
  | t, [] => some t
  | t, x :: xs => if t.kind = 6 ∧ ix t.keys x < t.keys.length then (match t.kids[ix t.keys x]? with | some c => getJ c xs | none => none) else none
theorem get_nil (t : J) : getJ t [] = some t := by rw [getJ]
theorem get_yes {t c : J} {x : List UInt8} {xs : List (List UInt8)} (h6 : t.kind = 6) (hi : ix t.keys x < t.keys.length) (hc : t.kids[ix t.keys x]? = some c) : getJ t (x :: xs) = getJ c xs := by
  rw [getJ, if_pos ⟨h6, hi⟩, hc]
theorem get_no {t : J} {x : List UInt8} {xs : List (List UInt8)} (h : ¬ t.kind = 6 ∨ ¬ ix t.keys x < t.keys.length ∨ ¬ ix t.keys x < t.kids.length) : getJ t (x :: xs) = none := by
  rw [getJ]
  by_cases h1 : t.kind = 6 ∧ ix t.keys x < t.keys.length
  · rw [if_pos h1, List.getElem?_eq_none (by
      rcases h with h | h | h
      · exact absurd h1.1 h
      · exact absurd h1.2 h
      · omega)]
  · rw [if_neg h1]
theorem ix_le (ks : List (List UInt8)) (x : List UInt8) : ix ks x ≤ ks.length := List.findIdx_le_length
theorem ix_at (ks : List (List UInt8)) (x : List UInt8) (h : ix ks x < ks.length) : ks[ix ks x] = x := by
  have := List.findIdx_getElem (xs := ks) (p := (· == x)) (w := h)
  exact eq_of_beq this
theorem ix_before (ks : List (List UInt8)) (x : List UInt8) (j : Nat) (h : j < ix ks x) (hj : j < ks.length) : ks[j] ≠ x := by
  have := List.not_of_lt_findIdx (xs := ks) (p := (· == x)) h
  simpa using this
theorem ix_none (ks : List (List UInt8)) (x : List UInt8) (h : ¬ ix ks x < ks.length) (j : Nat) (hj : j < ks.length) : ks[j] ≠ x := ix_before ks x j (by omega) hj
end Jsn
namespace Go.Proofs.YtfjgmejobldjoaaDoor
open Go.RowKit
theorem hide {p : Prop} (h : p) : Hid p := h
theorem str_ne {a b : List UInt8} (h : a ≠ b) : str a ≠ str b := fun e => h (by rw [← str_data a, ← str_data b, e])
theorem idx_hit (ks : List (List UInt8)) (x : List UInt8) (h : Jsn.ix ks x < ks.length) : Lib.idxOfS (ks.map str) (str x) = ((Jsn.ix ks x : Nat) : Int) := by
  have := Lib.idxOfS_hit (ks.map str) ks.length (Jsn.ix ks x) (str x) h (by simp) (by rw [getD_str _ _ h, Jsn.ix_at ks x h]) (fun j hj => by rw [getD_str _ _ (by omega)]; exact str_ne (Jsn.ix_before ks x j hj (by omega)))
  rwa [List.take_of_length_le (by simp)] at this
theorem idx_miss (ks : List (List UInt8)) (x : List UInt8) (h : ¬ Jsn.ix ks x < ks.length) : Lib.idxOfS (ks.map str) (str x) = -1 := by
  have := Lib.idxOfS_miss (ks.map str) ks.length (str x) (fun j hj => by rw [getD_str _ _ hj]; exact str_ne (Jsn.ix_none ks x h j hj))
  rwa [List.take_of_length_le (by simp)] at this
theorem results_cell_tmp {fn : Func} {p q : Tmp} {ty : TypeId} (h : fn.results = #[.cell p ty, .tmp q]) (tmps : Array Value) (P : Program) (w : World) :
    (results fn tmps).run P w = ((asAddr (tmps.getD p undef)).run P w).andThen fun a w1 => ((loadVar ty a).run P w1).andThen fun v w2 => .ok (.tuple #[v, tmps.getD q undef]) w2 := by
  simp only [results, h]
  simp [Sem.run_bind, Result.andThen]
theorem ret_V2 {fn : Func} {p q : Tmp} {Q : Ending → World → Prop} {a : Act} {w : World} {b : Nat} {x0 x1 x2 x3 x : Value} (hr : fn.results = #[.cell p 25, .tmp q]) (hd : a.defers = []) (hp : a.tmps.getD p undef = .pointer (some ⟨b, 0, none⟩)) (hx : a.tmps.getD q undef = x) (h : VAt w b x0 x1 x2 x3) (hQ : Q (.returned (.tuple #[vv x0 x1 x2 x3, x])) w) :
    bodyPost Tryd.prog fn Q .ret a w := by
  refine bodyPost_ret (v := .tuple #[vv x0 x1 x2 x3, x]) ?_ hd hQ
  rw [results_cell_tmp hr, hp, hx]
  simp [asAddr, Result.andThen, load_V h]
theorem below_setRow {B c : Nat} {w w' : World} {cs : Array Value} (h : Below B w w') (hc : B ≤ c) : Below B w (w'.setRow c cs) :=
  ⟨h.os, h.tape, h.output, by simp [World.setRow]; exact h.size, fun k hk => by
    rw [← h.block k hk]
    simp [World.setRow, Array.getElem?_modify, show ¬ c = k by omega]⟩
theorem VAt.rowOther {w : World} {b c : Nat} {cs : Array Value} {x0 x1 x2 x3 : Value} (h : VAt w b x0 x1 x2 x3) (hne : b ≠ c) : VAt (w.setRow c cs) b x0 x1 x2 x3 := h.keep (setRow_other cs hne)
/-- What both Gets answer. -/
def GetPost (w : World) (r : Option Jsn.J) : Ending → World → Prop := fun e w' => ∃ v', e = .returned (.tuple #[v', .bool r.isSome]) ∧ RV (fun _ => True) w' (r.getD Jsn.J.zero) v' ∧ Below w.heap.size w w'
theorem sizeJ_kid {k : Int} {t : List UInt8} {ks : List (List UInt8)} {cs : List Jsn.J} {c : Jsn.J} {i : Nat} (hc : cs[i]? = some c) (h : Jsn.sizeJ (.mk k t ks cs) ≤ 1000000000) : Jsn.sizeJ c ≤ 1000000000 := by
  rw [Jsn.sizeJ_mk] at h
  have := Jsn.sizeL_mem (List.mem_of_getElem? hc)
  omega
set_option maxHeartbeats 4000000 in
set_option maxRecDepth 100000 in
theorem Get_any (t : Jsn.J) (v : Value) (keys : List (List UInt8)) (xv : Value) (w : World) (hv : RV (fun _ => True) w t v) (hx : RTs (fun _ => True) w keys xv) (hsz : Jsn.sizeJ t ≤ 1000000000) (hkl : keys.length ≤ 1000000000) :
    Calls Tryd.prog 6 #[v, xv] w (GetPost w (Jsn.getJ t keys)) := by
  obtain ⟨aa, na, ca, ab, nb, cb, rfl⟩ := hv.shape
  obtain ⟨xa, xc, rfl⟩ := hx.form
  have HX : Hid (RTs (fun _ => True) w keys (.slice xa keys.length xc)) := hx
  have HV : Hid (RV (fun _ => True) w t (vv (.int .i64 t.kind) (.string (str t.text)) (.slice aa na ca) (.slice ab nb cb))) := hv
  have hB2 : Below w.heap.size w ((w.alloc (.cells #[.int .i64 t.kind, .string (str t.text), .slice aa na ca, .slice ab nb cb] 25)).alloc (.cells #[.int .i64 0, .string ⟨#[]⟩, .slice none 0 0, .slice none 0 0] 25)) := ((Below.refl _ w).alloc (Nat.le_refl _) _).alloc (by simp) _
  have hV2 : VAt ((w.alloc (.cells #[.int .i64 t.kind, .string (str t.text), .slice aa na ca, .slice ab nb cb] 25)).alloc (.cells #[.int .i64 0, .string ⟨#[]⟩, .slice none 0 0, .slice none 0 0] 25)) w.heap.size (.int .i64 t.kind) (.string (str t.text)) (.slice aa na ca) (.slice ab nb cb) := VAt.below (val_new w _) ((Below.refl _ _).alloc (Nat.le_refl _) _)
  have hR2 : VAt ((w.alloc (.cells #[.int .i64 t.kind, .string (str t.text), .slice aa na ca, .slice ab nb cb] 25)).alloc (.cells #[.int .i64 0, .string ⟨#[]⟩, .slice none 0 0, .slice none 0 0] 25)) (w.heap.size + 1) (.int .i64 0) (.string ⟨#[]⟩) (.slice none 0 0) (.slice none 0 0) := by
    have := zeroV_new (w.alloc (.cells #[.int .i64 t.kind, .string (str t.text), .slice aa na ca, .slice ab nb cb] 25))
    rw [show (w.alloc (.cells #[.int .i64 t.kind, .string (str t.text), .slice aa na ca, .slice ab nb cb] 25)).heap.size = w.heap.size + 1 by simp] at this
    exact this
  obtain ⟨r, HR⟩ : ∃ r, Hid (r = Jsn.getJ t keys) := ⟨_, rfl⟩
  rw [← HR.out]
  obtain ⟨Qp, HQ⟩ : ∃ Qp, Hid (Qp = GetPost w r) := ⟨_, rfl⟩
  rw [← HQ.out]
  clear hv hx
  go_enter Tryd.func6, Tryd.ntmps6
  go_upto_region 1 with fail
  generalize (w.alloc (.cells #[.int .i64 t.kind, .string (str t.text), .slice aa na ca, .slice ab nb cb] 25)).alloc (.cells #[.int .i64 0, .string ⟨#[]⟩, .slice none 0 0, .slice none 0 0] 25) = w2 at *
  go_wp2
  go_loopw [11] (fun i wr => ∃ (j : Nat) (cur : Jsn.J) (kv cv : Value), i = .int .i64 j ∧ j ≤ keys.length ∧ VAt wr w.heap.size (.int .i64 cur.kind) (.string (str cur.text)) kv cv ∧ VAt wr (w.heap.size + 1) (.int .i64 0) (.string ⟨#[]⟩) (.slice none 0 0) (.slice none 0 0) ∧ RV (fun _ => True) w cur (vv (.int .i64 cur.kind) (.string (str cur.text)) kv cv) ∧ Jsn.sizeJ cur ≤ 1000000000 ∧ Hid (r = Jsn.getJ cur (keys.drop j)) ∧ Below w.heap.size w wr) (fun i _ => keys.length - (intOf i).toNat)
  case atStart => exact ⟨0, t, _, _, rfl, Nat.zero_le _, hV2, hR2, HV.out, hsz, HR.out, hB2⟩
  case round =>
    obtain ⟨j, cur, kv, cv, rfl, hj, hV, hR, hrv, hcs, HG, hB⟩ := hrel
    clear hV2 hR2 hB2 HV HR
    obtain ⟨k, tx, ks, cs⟩ := cur
    obtain ⟨kv', cv', he, hks, hkids⟩ := RV_mk.1 hrv
    cases he
    obtain ⟨a1, c1, rfl⟩ := hks.form
    obtain ⟨a2, c2, rfl⟩ := hkids.form
    simp only [Jsn.J.kind, Jsn.J.text] at hV
    have q0 := hV.c0
    have q2 := hV.c2
    have q3 := hV.c3
    by_cases hlt : j < keys.length
    · obtain ⟨xb, xo, rfl, hxc, _, hxl, hxcell⟩ := (HX.out.keep hB.size (fun k _ hl => ⟨trivial, hB.block k hl⟩)).at (List.getElem?_eq_getElem hlt)
      have HD : Hid (keys.drop j = keys[j] :: keys.drop (j + 1)) := List.drop_eq_getElem_cons hlt
      have hksl : ks.length ≤ 1000000000 := by rw [Jsn.sizeJ_mk] at hcs; omega
      have hcsl : cs.length ≤ 1000000000 := by rw [Jsn.sizeJ_mk] at hcs; omega
      have ci := Index_any ks keys[j] _ wr (hks.keep hB.size (fun k _ hl => ⟨trivial, hB.block k hl⟩)) hksl
      have HK := hide hkids
      generalize keys[j] = x at *
      clear hrv hks hkids
      by_cases hi : Jsn.ix ks x < ks.length
      · rw [idx_hit ks x hi] at ci
        by_cases h6 : k = 6
        · by_cases hic : Jsn.ix ks x < cs.length
          · have hat : cs[Jsn.ix ks x]? = some cs[Jsn.ix ks x] := List.getElem?_eq_getElem hic
            obtain ⟨g, o, rfl, hcl, _, hgl, y0, y1, y2, y3, e0, e1, e2, e3, hrk⟩ := HK.out.at hat
            have hkg := hB.block g hgl
            have f0 := (cell_keep hkg (o := o + Jsn.ix ks x * 4)).trans e0
            have f1 := (cell_keep hkg (o := o + Jsn.ix ks x * 4 + 1)).trans e1
            have f2 := (cell_keep hkg (o := o + Jsn.ix ks x * 4 + 2)).trans e2
            have f3 := (cell_keep hkg (o := o + Jsn.ix ks x * 4 + 3)).trans e3
            obtain ⟨da, dn, dc, db, dm, dd, hsh⟩ := hrk.shape
            have HN : Hid (r = Jsn.getJ cs[Jsn.ix ks x] (keys.drop (j + 1))) := by
              show r = _
              rw [HG.out, HD.out]
              exact Jsn.get_yes h6 hi hat
            have hsc := sizeJ_kid hat hcs
            have HRK := hide hrk
            clear hat HG HD hrk hcs
            generalize cs[Jsn.ix ks x] = c at *
            cases hsh
            have CI := hide ci
            clear ci
            have hi0 : ¬ ((Jsn.ix ks x : Nat) : Int) < 0 := by omega
            have hic' : ((Jsn.ix ks x : Nat) : Int) < (cs.length : Int) := by omega
            have hk6 : (k != 6) = false := by simp [h6]
            clear h6
            generalize Jsn.ix ks x = i at *
            go_wp2_with (first
              | (go_at_call 13; refine CI.out.mono ?_; rintro e w3 ⟨rfl, he⟩; replace he := he.symm; subst he)
              | ((with_reducible show wpList _ _ _ ({ op := Op.store 25 _ _, .. } :: _) _ _); refine wpList_store_V _ _ rfl rfl _ _ _ _ _ rfl rfl hV (ones_mk _ _ _ _ _ _ _ _) ?_))
            exact ⟨⟨j + 1, c, _, _, by go_num, by omega, setRow_V hV _ _ _ _, hR.rowOther (by omega), HRK.out, hsc, HN, below_setRow hB (Nat.le_refl _)⟩, by simp [intOf]; omega⟩
          · have HN : Hid (r = none) := by
              show r = none
              rw [HG.out, HD.out]
              exact Jsn.get_no (.inr (.inr hic))
            have CI := hide ci
            have hi0 : ¬ ((Jsn.ix ks x : Nat) : Int) < 0 := by omega
            have hic' : ¬ ((Jsn.ix ks x : Nat) : Int) < (cs.length : Int) := by omega
            have hk6 : (k != 6) = false := by simp [h6]
            clear ci h6 HG HD HK hcs
            generalize Jsn.ix ks x = i at *
            go_wp2_with (first
              | (go_at_call 13; refine CI.out.mono ?_; rintro e w3 ⟨rfl, he⟩; replace he := he.symm; subst he)
              | ((with_reducible show wpList _ _ _ ({ op := Op.store 25 _ _, .. } :: _) _ _); refine wpList_store_V _ _ rfl rfl _ _ _ _ _ rfl rfl hR (ones_mk _ _ _ _ _ _ _ _) ?_))
            refine ret_V2 rfl rfl rfl rfl (setRow_V hR _ _ _ _) ?_
            rw [HQ.out, HN.out]
            exact ⟨_, rfl, RV.plain _ _ 0 [], below_setRow hB (by omega)⟩
        · have HN : Hid (r = none) := by
            show r = none
            rw [HG.out, HD.out]
            exact Jsn.get_no (.inl h6)
          have CI := hide ci
          have hk6 : (k != 6) = true := by simp [h6]
          clear ci h6 HG HD HK hcs
          go_wp2_with (first
            | (go_at_call 13; refine CI.out.mono ?_; rintro e w3 ⟨rfl, he⟩; replace he := he.symm; subst he)
            | ((with_reducible show wpList _ _ _ ({ op := Op.store 25 _ _, .. } :: _) _ _); refine wpList_store_V _ _ rfl rfl _ _ _ _ _ rfl rfl hR (ones_mk _ _ _ _ _ _ _ _) ?_))
          refine ret_V2 rfl rfl rfl rfl (setRow_V hR _ _ _ _) ?_
          rw [HQ.out, HN.out]
          exact ⟨_, rfl, RV.plain _ _ 0 [], below_setRow hB (by omega)⟩
      · rw [idx_miss ks x hi] at ci
        have HN : Hid (r = none) := by
          show r = none
          rw [HG.out, HD.out]
          exact Jsn.get_no (.inr (.inl hi))
        have CI := hide ci
        by_cases h6 : k = 6
        · have hk6 : (k != 6) = false := by simp [h6]
          clear ci h6 HG HD HK hcs
          go_wp2_with (first
            | (go_at_call 13; refine CI.out.mono ?_; rintro e w3 ⟨rfl, he⟩; replace he := he.symm; subst he)
            | ((with_reducible show wpList _ _ _ ({ op := Op.store 25 _ _, .. } :: _) _ _); refine wpList_store_V _ _ rfl rfl _ _ _ _ _ rfl rfl hR (ones_mk _ _ _ _ _ _ _ _) ?_))
          refine ret_V2 rfl rfl rfl rfl (setRow_V hR _ _ _ _) ?_
          rw [HQ.out, HN.out]
          exact ⟨_, rfl, RV.plain _ _ 0 [], below_setRow hB (by omega)⟩
        · have hk6 : (k != 6) = true := by simp [h6]
          clear ci h6 HG HD HK hcs
          go_wp2_with (first
            | (go_at_call 13; refine CI.out.mono ?_; rintro e w3 ⟨rfl, he⟩; replace he := he.symm; subst he)
            | ((with_reducible show wpList _ _ _ ({ op := Op.store 25 _ _, .. } :: _) _ _); refine wpList_store_V _ _ rfl rfl _ _ _ _ _ rfl rfl hR (ones_mk _ _ _ _ _ _ _ _) ?_))
          refine ret_V2 rfl rfl rfl rfl (setRow_V hR _ _ _ _) ?_
          rw [HQ.out, HN.out]
          exact ⟨_, rfl, RV.plain _ _ 0 [], below_setRow hB (by omega)⟩
    · have hd : keys.drop j = [] := List.drop_eq_nil_of_le (by omega)
      have HN : Hid (r = some (.mk k tx ks cs)) := by
        show r = _
        rw [HG.out, hd, Jsn.get_nil]
      have cc := clone_all (.mk k tx ks cs) _ wr (hrv.below hB) hcs
      have CC := hide cc
      clear cc HG hd hrv hks hkids hcs
      go_wp2_with (first
        | ((with_reducible show wpList _ _ _ ({ op := Op.load 25 _, .. } :: _) _ _); refine wpList_load_V _ rfl rfl _ _ _ _ _ rfl hV ?_)
        | (go_at_call 14; refine CC.out.mono ?_; rintro e w3 ⟨v3, rfl, hr3, hB3⟩; obtain ⟨ea, en, ec, eb, em, ed, hsh⟩ := hr3.shape; subst hsh; have hR3 := hR.below hB3)
        | ((with_reducible show wpList _ _ _ ({ op := Op.store 25 _ _, .. } :: _) _ _); refine wpList_store_V _ _ rfl rfl _ _ _ _ _ rfl rfl hR3 (ones_mk _ _ _ _ _ _ _ _) ?_))
      refine ret_V2 rfl rfl rfl rfl (setRow_V hR3 _ _ _ _) ?_
      rw [HQ.out, HN.out]
      refine ⟨_, rfl, ?_, below_setRow (bel hB hB3) (by omega)⟩
      have hlt' := hR.lt
      refine RV.keep (by rw [setRow_len]; exact Nat.le_refl _) (fun q hq hl => ⟨trivial, setRow_other _ (by omega)⟩) hr3
end Go.Proofs.YtfjgmejobldjoaaDoor
