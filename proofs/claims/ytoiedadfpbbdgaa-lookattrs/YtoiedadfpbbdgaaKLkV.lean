/- Texts laid as one. -/
import Derived.Test.YtoiedadfpbbdgaaKLkA
import Derived.Test.YtoiedadfpbbdgaaKLkW
import Derived.Test.YtoiedadfpbbdgaaKQRWords
import Derived.Test.YtoiedadfpbbdgaaKTreGI
/- The contracts of the reference's Attr, WordsIn and Words. -/
set_option linter.unusedVariables false
set_option linter.unusedSimpArgs false
namespace Go.Proofs.Ytoiedadfpbbdgaa
open Go.RowKit
set_option maxHeartbeats 2000000 in
set_option maxRecDepth 100000 in
theorem RAttr14_any (ns : List Nd) (v : Value) (at_ : Int) (q : List UInt8) (w : World) (hv : ReadsN w v ns) (hf : Fair14 ns) (hk : ns.length ≤ 4096 → ∀ i, i < ns.length → (Tre.ndAt ns i).kids.length ≤ 140737488351232) :
    Calls Try.prog 11 #[.agg #[v], .int .i64 at_, .string (str q)] w fun e w' => e = .returned (.tuple #[.string (str (attrR14 ns at_ q).1), .bool (attrR14 ns at_ q).2]) ∧ Below w.heap.size w w' := by
  obtain ⟨a, c, rfl⟩ := hv.form
  have hb0 : Below w.heap.size w (w.alloc (.cells #[.slice a ns.length c] 24)) := (Below.refl _ _).alloc (Nat.le_refl _) _
  have cc0 := doc_cell (heap_new w (.cells #[.slice a ns.length c] 24))
  have lc := cell_lt cc0
  have HI := hideT (RIs14_any ns _ at_ _ (hv.below hb0) hf hk)
  have HB0 := hideT hb0
  cases hp : Lk.placeB ns at_
  · have HX : Hid (attrR14 ns at_ q = ([], false)) := by
      show _ = _
      unfold attrR14
      rw [hp]
      rfl
    rw [hp] at HI
    clear hv hb0 hf hp lc hk
    go_enter Try.func11, Try.ntmps11
    go_wp2_with (go_at_call 28; refine HI.out.mono ?_; rintro e w1 ⟨rfl, b1⟩; have HQ := hideT (bel HB0.out b1); clear b1)
    go_ret2
    exact ⟨by rw [HX.out]; rfl, HQ.out⟩
  · obtain ⟨i, rfl, hi, hm⟩ := Lk.place_yes hp
    have hn4 := hf.few hm
    have hX : attrR14 ns (i : Int) q = Lk.attrF (Tre.ndAt ns i).attrs q := by
      unfold attrR14
      rw [hp, if_pos rfl, Int.toNat_natCast]
    have HX := hideT hX
    rw [hp] at HI
    have HP := hideT (fun W (h : Below (w.alloc (.cells #[.slice a ns.length c] 24)).heap.size (w.alloc (.cells #[.slice a ns.length c] 24)) W) => RAttrIn14_any ns _ i q W ((hv.below hb0).below h) hi (by omega) (hf.ats (by omega) i hi))
    clear hv hb0 hf hp hm hX hk
    go_enter Try.func11, Try.ntmps11
    go_wp2_with (first
      | (go_at_call 28; refine HI.out.mono ?_; rintro e w1 ⟨rfl, b1⟩; have HQ := hideT (bel HB0.out b1); have HP1 := hideT (HP.out w1 b1); have cc1 := (b1.cell (p := ⟨w.heap.size, 0, none⟩) lc).trans cc0; clear b1 HI HP)
      | (go_at_call 35; refine HP1.out.mono ?_; rintro e w3 ⟨rfl, b3⟩; have HB3 := hideT (bel HQ.out b3); clear b3))
    go_ret2
    exact ⟨by rw [HX.out]; rfl, HB3.out⟩
set_option maxHeartbeats 8000000 in
set_option maxRecDepth 100000 in
theorem RWordsIn14_any (ns : List Nd) (v : Value) (i : Nat) (q : List UInt8) (w : World) (hv : ReadsN w v ns) (hf : Fair14 ns) (hm : Tre.mayB ns = true) (hi : i < ns.length) :
    Calls Try.prog 37 #[.agg #[v], .int .i64 (i : Int), .string (str q)] w fun e w' => ∃ x, e = .returned x ∧ OwnsTexts w' w.heap.size x (Lk.wordsA (Tre.ndAt ns i).attrs q) ∧ Below w.heap.size w w' := by
  obtain ⟨i0, hi0, hz0, hz1, hz2⟩ := info_parts info9
  obtain ⟨a, c, rfl⟩ := hv.form
  have hb0 : Below w.heap.size w (w.alloc (.cells #[.slice a ns.length c] 24)) := (Below.refl _ _).alloc (Nat.le_refl _) _
  have cc0 := doc_cell (heap_new w (.cells #[.slice a ns.length c] 24))
  have hn4 := hf.few hm
  have HA := hideT (RAttrIn14_any ns _ i q _ (hv.below hb0) hi (by omega) (hf.ats (by omega) i hi))
  have hal := hf.val_attr hm hi q
  have HB0 := hideT hb0
  have HX : Hid (Lk.wordsA (Tre.ndAt ns i).attrs q = Lk.once (Asc.words (Lk.attrF (Tre.ndAt ns i).attrs q).1)) := rfl
  generalize Lk.attrF (Tre.ndAt ns i).attrs q = p at *
  obtain ⟨val, ok⟩ := p
  simp only at hal HX
  have HWo := hideT (fun W => RWords_any (str val) W (by rw [str_size]; omega))
  rw [str_data] at HWo
  have hwl := Asc.words_len val
  generalize Asc.words val = ts at *
  clear hv hb0 hf hm
  go_enter Try.func37, Try.ntmps37
  go_wp2_with (first
    | (go_at_call 35; refine HA.out.mono ?_; rintro e w1 ⟨rfl, b1⟩; have HB1 := hideT (bel HB0.out b1); clear b1)
    | (go_at_call 57; refine (HWo.out _).mono ?_; rintro e w3 ⟨x3, rfl, hO3, b3⟩; obtain ⟨a3, c3, rfl⟩ := ReadsTexts13.form hO3.reads; have HO3 := hideT hO3; have HB3 := hideT (bel HB1.out b3); clear hO3 b3))
  clear HA HWo
  go_loopw [10, 11] (fun x i wr => ∃ j : Nat, i = .int .i64 j ∧ j ≤ ts.length ∧ Hid (OwnsTexts wr w3.heap.size x (Lk.once (ts.take j))) ∧ Hid (Below w3.heap.size w3 wr)) (fun _ i _ => ts.length - (intOf i).toNat)
  case atStart => exact ⟨0, by go_num, Nat.zero_le _, OwnsTexts.nil _ _, Below.refl _ _⟩
  case round =>
    obtain ⟨j, rfl, hj, HO, HB⟩ := hrel
    rename World => X
    by_cases hjl : j < ts.length
    · have hat : ts[j]? = some ts[j] := List.getElem?_eq_getElem hjl
      obtain ⟨tb, t0, rfl, htc, htl, tcell⟩ := ReadsTexts13.at (ReadsTexts13.below HO3.out.reads HB.out) hat
      have HN := hideT (Lk.once_next ts j hjl)
      have hol := Lk.once_len ts j
      generalize ts[j] = x at *
      have tcell : X.cell? ⟨tb, t0 + j, none⟩ = some (.string (str x)) := tcell
      have HH := hideT (RHas13_any (Lk.once (ts.take j)) _ x X HO.out.reads (by omega))
      have HJ : Hid (j + 1 ≤ ts.length) := hjl
      clear hat
      cases hx : (Lk.once (ts.take j)).contains x
      · rw [hx] at HH
        have HN2 : Hid (Lk.once (ts.take (j + 1)) = Lk.once (ts.take j) ++ [x]) := by
          show _ = _
          rw [HN.out, Lk.ostep, hx]
          rfl
        clear hx
        go_wp2_with (first
          | (go_at_call 16; refine HH.out.mono ?_; rintro e w5 ⟨rfl, hw5⟩; replace hw5 := hw5.symm; subst hw5)
          | (at_builtin; refine wpList_append_own _ rfl _ _ 31 rfl w3.heap.size 9 i0 (.string ByteArray.empty) 1 16 Try.underlying31 hi0 hz0 hz1 hz2 rfl (by decide) _ _ _ rfl (World.ownsRow.alloc HO.out _) ⟨X.heap.size, 0, none⟩ 1 1 [.string (str x)] rfl rfl (cell_one_new _ _ _) (fun y hy => by simp at hy; subst hy; rfl) (by unfold maxLen; omega) (by omega) (by have := HB.out.size; simp; omega) ?_; intro v6 w6 hown6 hgrow6 hnil6))
        have HB6 : Hid (Below w3.heap.size w3 w6) := (HB.out.alloc HB.out.size (.cells #[.string (str x)] 9)).grown hgrow6 (by have := HB.out.size; simp; omega) (fun k e => (World.ownsRow.lt HO.out k e).1)
        have HO6 : Hid (OwnsTexts w6 w3.heap.size v6 (Lk.once (ts.take (j + 1)))) := OwnsTexts.of HN2.out rfl hown6
        clear hown6 hgrow6 hnil6
        go_roundw
        case rel => exact ⟨j + 1, by go_num, HJ.out, HO6, HB6⟩
        case measure => have := HJ.out; simp [intOf]; omega
      · rw [hx] at HH
        have HN2 : Hid (Lk.once (ts.take (j + 1)) = Lk.once (ts.take j)) := by
          show _ = _
          rw [HN.out, Lk.ostep, hx]
          rfl
        clear hx
        go_wp2_with (go_at_call 16; refine HH.out.mono ?_; rintro e w5 ⟨rfl, hw5⟩; replace hw5 := hw5.symm; subst hw5)
        go_roundw
        case rel => exact ⟨j + 1, by go_num, HJ.out, by rw [HN2.out]; exact HO, HB⟩
        case measure => have := HJ.out; simp [intOf]; omega
    · have hje : j = ts.length := by omega
      have HR : Hid (Lk.once (ts.take j) = Lk.wordsA (Tre.ndAt ns i).attrs q) := by
        show _ = _
        rw [hje, List.take_length, HX.out]
      have HBX := hideT (bel HB3.out HB.out)
      have hsz := HB3.out.size
      clear hje
      go_wp2
      go_ret
      exact ⟨_, rfl, by rw [← HR.out]; exact OwnsTexts13.mono HO.out hsz, HBX.out⟩
set_option maxHeartbeats 2000000 in
set_option maxRecDepth 100000 in
theorem RWords14_any (ns : List Nd) (v : Value) (at_ : Int) (q : List UInt8) (w : World) (hv : ReadsN w v ns) (hf : Fair14 ns) (hk : ns.length ≤ 4096 → ∀ i, i < ns.length → (Tre.ndAt ns i).kids.length ≤ 140737488351232) :
    Calls Try.prog 14 #[.agg #[v], .int .i64 at_, .string (str q)] w fun e w' => ∃ x, e = .returned x ∧ OwnsTexts w' w.heap.size x (wordsR14 ns at_ q) ∧ Below w.heap.size w w' := by
  obtain ⟨a, c, rfl⟩ := hv.form
  have hb0 : Below w.heap.size w (w.alloc (.cells #[.slice a ns.length c] 24)) := (Below.refl _ _).alloc (Nat.le_refl _) _
  have cc0 := doc_cell (heap_new w (.cells #[.slice a ns.length c] 24))
  have lc := cell_lt cc0
  have HI := hideT (RIs14_any ns _ at_ _ (hv.below hb0) hf hk)
  have HB0 := hideT hb0
  cases hp : Lk.placeB ns at_
  · have HX : Hid (wordsR14 ns at_ q = []) := by
      show _ = _
      unfold wordsR14 attrR14
      rw [hp]
      rfl
    rw [hp] at HI
    clear hv hb0 hf hp lc hk
    go_enter Try.func14, Try.ntmps14
    go_wp2_with (go_at_call 28; refine HI.out.mono ?_; rintro e w1 ⟨rfl, b1⟩; have HQ := hideT (bel HB0.out b1); clear b1)
    go_ret
    exact ⟨_, rfl, by rw [HX.out]; exact OwnsTexts.nil _ _, HQ.out⟩
  · obtain ⟨i, rfl, hi, hm⟩ := Lk.place_yes hp
    have hX : wordsR14 ns (i : Int) q = Lk.wordsA (Tre.ndAt ns i).attrs q := by
      unfold wordsR14 attrR14
      rw [hp, if_pos rfl, Int.toNat_natCast]
      rfl
    have HX := hideT hX
    rw [hp] at HI
    have HP := hideT (fun W (h : Below (w.alloc (.cells #[.slice a ns.length c] 24)).heap.size (w.alloc (.cells #[.slice a ns.length c] 24)) W) => RWordsIn14_any ns _ i q W ((hv.below hb0).below h) hf hm hi)
    clear hv hb0 hf hp hm hX hk
    go_enter Try.func14, Try.ntmps14
    go_wp2_with (first
      | (go_at_call 28; refine HI.out.mono ?_; rintro e w1 ⟨rfl, b1⟩; have HQ := hideT (bel HB0.out b1); have HP1 := hideT (HP.out w1 b1); have cc1 := (b1.cell (p := ⟨w.heap.size, 0, none⟩) lc).trans cc0; clear b1 HI HP)
      | (go_at_call 37; refine HP1.out.mono ?_; rintro e w3 ⟨x3, rfl, hO3, b3⟩; have HO3 := hideT hO3; have HB3 := hideT (bel HQ.out b3); clear b3 hO3))
    go_ret
    exact ⟨_, rfl, by rw [HX.out]; exact OwnsTexts13.mono HO3.out HQ.out.size, HB3.out⟩
end Go.Proofs.Ytoiedadfpbbdgaa
/- The contracts of the reference's StartsIn and Starts (written by tools/mklkvs.py). -/
namespace Go.Proofs.Ytoiedadfpbbdgaa
open Go.RowKit
def startP (x p : List UInt8) : Bool := decide (p.length < x.length) && p.isPrefixOf x
theorem startB_any (ps : List (List UInt8)) (x : List UInt8) : Lk.startB ps x = ps.any (startP x) := rfl
theorem any_next {α : Type} (f : α → Bool) (l : List α) (k : Nat) (h : k < l.length) : (l.take (k + 1)).any f = ((l.take k).any f || f l[k]) := by
  rw [List.take_succ_eq_append_getElem h, List.any_append]
  simp
theorem prefix_take (x p : List UInt8) (h : p.length < x.length) : ((str (x.take p.length)).toList == (str p).toList) = p.isPrefixOf x := by
  rw [str_list, str_list]
  rw [Bool.eq_iff_iff, beq_iff_eq, List.isPrefixOf_iff_prefix, List.prefix_iff_eq_take]
  exact eq_comm
theorem cut_take (x : List UInt8) (n : Nat) : (str x).extract 0 n = str (x.take n) := by
  refine ByteArray.ext (Array.toList_inj.1 ?_)
  rw [data_cut, str_data, str_data, List.drop_zero]
def startsR14 (ns : List Nd) (at_ : Int) (ps : List (List UInt8)) : List (List UInt8) := (wordsR14 ns at_ Lk.classN).filter (Lk.startB ps)
set_option maxHeartbeats 8000000 in
set_option maxRecDepth 100000 in
theorem RStartsIn14_any (ns : List Nd) (v : Value) (i : Nat) (ps : List (List UInt8)) (pv : Value) (w : World) (hv : ReadsN w v ns) (hf : Fair14 ns) (hm : Tre.mayB ns = true) (hi : i < ns.length) (hp : ReadsTexts w pv ps) (hpl : ps.length ≤ 1000000) (hpx : ∀ p ∈ ps, p.length ≤ 1000000) :
    Calls Try.prog 42 #[.agg #[v], .int .i64 (i : Int), pv] w fun e w' => ∃ x, e = .returned x ∧ OwnsTexts w' w.heap.size x (Lk.startsA (Tre.ndAt ns i).attrs ps) ∧ Below w.heap.size w w' := by
  obtain ⟨i0, hi0, hz0, hz1, hz2⟩ := info_parts info9
  obtain ⟨a, c, rfl⟩ := hv.form
  obtain ⟨pa, pc, rfl⟩ := ReadsTexts13.form hp
  have hb0 : Below w.heap.size w (w.alloc (.cells #[.slice a ns.length c] 24)) := (Below.refl _ _).alloc (Nat.le_refl _) _
  have cc0 := doc_cell (heap_new w (.cells #[.slice a ns.length c] 24))
  have hn4 := hf.few hm
  have hal := hf.val_attr hm hi Lk.classN
  have hW := RWordsIn14_any ns _ i Lk.classN _ (hv.below hb0) hf hm hi
  rw [show str Lk.classN = ⟨#[99, 108, 97, 115, 115]⟩ from rfl] at hW
  have HW := hideT hW
  have HB0 := hideT hb0
  have HP0 := hideT (ReadsTexts13.below hp hb0)
  have HX : Hid (Lk.startsA (Tre.ndAt ns i).attrs ps = (Lk.wordsA (Tre.ndAt ns i).attrs Lk.classN).filter (Lk.startB ps)) := rfl
  have hwl : (Lk.wordsA (Tre.ndAt ns i).attrs Lk.classN).length ≤ 100000 := by
    have h1 := Lk.once_len (Asc.words (Lk.attrF (Tre.ndAt ns i).attrs Lk.classN).1) (Asc.words (Lk.attrF (Tre.ndAt ns i).attrs Lk.classN).1).length
    rw [List.take_length] at h1
    have := Asc.words_len (Lk.attrF (Tre.ndAt ns i).attrs Lk.classN).1
    unfold Lk.wordsA
    omega
  have hws : ∀ x ∈ Lk.wordsA (Tre.ndAt ns i).attrs Lk.classN, x.length ≤ 100000 := fun x hx => by
    have h1 := Lk.once_mem (Asc.words (Lk.attrF (Tre.ndAt ns i).attrs Lk.classN).1) (Asc.words (Lk.attrF (Tre.ndAt ns i).attrs Lk.classN).1).length x (by rw [List.take_length]; exact hx)
    exact Nat.le_trans (Lk.words_size _ x h1) hal
  have HPX := hideT hpx
  generalize Lk.wordsA (Tre.ndAt ns i).attrs Lk.classN = ts at *
  clear hv hb0 hf hm hp hW hal hpx
  go_enter Try.func42, Try.ntmps42
  go_wp2_with (go_at_call 37; refine HW.out.mono ?_; rintro e w3 ⟨x3, rfl, hO3, b3⟩; obtain ⟨a3, c3, rfl⟩ := ReadsTexts13.form hO3.reads; have HO3 := hideT hO3; have HB3 := hideT (bel HB0.out b3); have HP3 := hideT (ReadsTexts13.below HP0.out b3); clear hO3 b3)
  clear HW HP0
  go_loopw [8, 9] (fun x s wr => ∃ j : Nat, s = .int .i64 j ∧ j ≤ ts.length ∧ Hid (OwnsTexts wr w3.heap.size x ((ts.take j).filter (Lk.startB ps))) ∧ Hid (Below w3.heap.size w3 wr)) (fun _ s _ => ts.length - (intOf s).toNat)
  case atStart => exact ⟨0, by go_num, Nat.zero_le _, OwnsTexts.nil _ _, Below.refl _ _⟩
  case round =>
    obtain ⟨j, rfl, hj, HO, HB⟩ := hrel
    rename World => X
    by_cases hjl : j < ts.length
    · have hat : ts[j]? = some ts[j] := List.getElem?_eq_getElem hjl
      obtain ⟨tb, t0, rfl, htc, htl, tcell⟩ := ReadsTexts13.at (ReadsTexts13.below HO3.out.reads HB.out) hat
      have HN := hideT (filter_next (Lk.startB ps) ts j hjl)
      have hxl : ts[j].length ≤ 100000 := hws _ (List.getElem_mem hjl)
      have hol : ((ts.take j).filter (Lk.startB ps)).length ≤ 100000 := Nat.le_trans (List.length_filter_le _ _) (by rw [List.length_take]; omega)
      have HP4 := hideT (ReadsTexts13.below HP3.out HB.out)
      generalize ts[j] = x at *
      have tcell : X.cell? ⟨tb, t0 + j, none⟩ = some (.string (str x)) := tcell
      have HJ : Hid (j + 1 ≤ ts.length) := hjl
      clear hat
      go_wp2
      go_loopw [10, 11] (fun b s wr => ∃ k : Nat, s = .int .i64 k ∧ k ≤ ps.length ∧ b = .bool ((ps.take k).any (startP x)) ∧ Hid (Below X.heap.size X wr)) (fun _ s _ => ps.length - (intOf s).toNat)
      case atStart => exact ⟨0, by go_num, Nat.zero_le _, rfl, Below.refl _ _⟩
      case round =>
        obtain ⟨k, rfl, hk, rfl, HY⟩ := hrel
        rename World => Y
        have tcY := (HY.out.cell (p := ⟨tb, t0 + j, none⟩) htl).trans tcell
        by_cases hkl : k < ps.length
        · have hat : ps[k]? = some ps[k] := List.getElem?_eq_getElem hkl
          obtain ⟨pb, p0, rfl, hpc, hpbl, pcell⟩ := ReadsTexts13.at HP4.out hat
          have pcY := (HY.out.cell (p := ⟨pb, p0 + k, none⟩) hpbl).trans pcell
          have HA := hideT (any_next (startP x) ps k hkl)
          have hpl2 : ps[k].length ≤ 1000000 := HPX.out _ (List.getElem_mem hkl)
          have HKL : Hid (k + 1 ≤ ps.length) := hkl
          clear hat
          generalize ps[k] = p at *
          have s1 := str_size x
          have s2 := str_size p
          have pcY : Y.cell? ⟨pb, p0 + k, none⟩ = some (.string (str p)) := pcY
          cases hb : (ps.take k).any (startP x)
          · by_cases hlong : p.length < x.length
            · have HCut := hideT (cut_take x p.length)
              obtain ⟨bq, hbq⟩ : ∃ bq, p.isPrefixOf x = bq := ⟨_, rfl⟩
              have HEq : Hid (((str (x.take p.length)).toList == (str p).toList) = bq) := (prefix_take x p hlong).trans hbq
              have hli : (p.length : Int) < (x.length : Int) := by omega
              have hA2 : startP x p = bq := by unfold startP; rw [decide_eq_true hlong, Bool.true_and, hbq]
              rw [hA2, hb, Bool.false_or] at HA
              clear hA2 hbq hb
              obtain ⟨S, hS1⟩ : ∃ S : World → Prop, ∀ W, S W ↔ W.cell? ⟨tb, t0 + j, none⟩ = some (.string (str x)) ∧ W.cell? ⟨pb, p0 + k, none⟩ = some (.string (str p)) ∧ Below X.heap.size X W := ⟨_, fun _ => Iff.rfl⟩
              have step : ∀ W W', S W → Below W.heap.size W W' → S W' := fun W W' h hb => by
                obtain ⟨h1, h2, h3⟩ := (hS1 W).1 h
                exact (hS1 W').2 ⟨(hb.cell (p := ⟨tb, t0 + j, none⟩) (cell_lt h1)).trans h1, (hb.cell (p := ⟨pb, p0 + k, none⟩) (cell_lt h2)).trans h2, bel h3 hb⟩
              go_upto_region 11 with fail
              refine wp_region_held_drew (S := S) (by kernel_rfl) (step _ _ ((hS1 _).2 ⟨tcY, pcY, HY.out⟩) ((Below.refl _ _).drew)) (fun hS => ?_)
              clear tcY pcY
              refine takeH12 0 33 (.bool false) rfl rfl (by kernel_rfl) (by kernel_rfl) (by kernel_rfl) (fun _ _ _ h => h) (Or.inl ⟨by kernel_rfl, fun W _ => by go_simp⟩) hS ?_
              simp only [Act.put, List.setIfInBounds_toArray, List.set_cons_zero, List.set_cons_succ]
              refine takeH12 1 34 (.bool false) rfl rfl (by kernel_rfl) (by kernel_rfl) (by kernel_rfl) (fun _ _ _ h => h) (Or.inl ⟨by kernel_rfl, fun W _ => by go_simp⟩) hS ?_
              simp only [Act.put, List.setIfInBounds_toArray, List.set_cons_zero, List.set_cons_succ]
              refine takeH12 2 35 (.slice (some ⟨tb, t0, none⟩) ts.length c3) rfl rfl (by kernel_rfl) (by kernel_rfl) (by kernel_rfl) (fun _ _ _ h => h) (Or.inl ⟨by kernel_rfl, fun W _ => by go_simp⟩) hS ?_
              simp only [Act.put, List.setIfInBounds_toArray, List.set_cons_zero, List.set_cons_succ]
              refine takeH12 3 36 (.int .i64 (j : Int)) rfl rfl (by kernel_rfl) (by kernel_rfl) (by kernel_rfl) (fun _ _ _ h => h) (Or.inl ⟨by kernel_rfl, fun W _ => by go_simp⟩) hS ?_
              simp only [Act.put, List.setIfInBounds_toArray, List.set_cons_zero, List.set_cons_succ]
              refine takeH12 4 37 (.pointer (some ⟨tb, t0 + j, none⟩)) rfl rfl (by kernel_rfl) (by kernel_rfl) (by kernel_rfl) (fun _ _ _ h => h) (Or.inl ⟨by kernel_rfl, fun W _ => by go_simp⟩) hS ?_
              simp only [Act.put, List.setIfInBounds_toArray, List.set_cons_zero, List.set_cons_succ]
              refine takeH12 5 38 (.string (str x)) rfl rfl (by kernel_rfl) (by kernel_rfl) (by kernel_rfl) (fun _ _ _ h => h) (Or.inl ⟨by kernel_rfl, fun W hW => by have hc := (((hS1 W).1 hW).1); go_simp⟩) hS ?_
              simp only [Act.put, List.setIfInBounds_toArray, List.set_cons_zero, List.set_cons_succ]
              refine takeH12 6 39 (.int .i64 (x.length : Int)) rfl rfl (by kernel_rfl) (by kernel_rfl) (by kernel_rfl) (fun _ _ _ h => h) (Or.inl ⟨by kernel_rfl, fun W _ => by go_simp⟩) hS ?_
              simp only [Act.put, List.setIfInBounds_toArray, List.set_cons_zero, List.set_cons_succ]
              refine takeH12 7 40 (.int .i64 (p.length : Int)) rfl rfl (by kernel_rfl) (by kernel_rfl) (by kernel_rfl) (fun _ _ _ h => h) (Or.inl ⟨by kernel_rfl, fun W _ => by go_simp⟩) hS ?_
              simp only [Act.put, List.setIfInBounds_toArray, List.set_cons_zero, List.set_cons_succ]
              refine takeH12 8 41 (.bool true) rfl rfl (by kernel_rfl) (by kernel_rfl) (by kernel_rfl) (fun _ _ _ h => h) (Or.inl ⟨by kernel_rfl, fun W _ => by go_simp; (try (first | omega | simp_all))⟩) hS ?_
              simp only [Act.put, List.setIfInBounds_toArray, List.set_cons_zero, List.set_cons_succ]
              refine takeH12 9 42 (.bool true) rfl rfl (by kernel_rfl) (by kernel_rfl) (by kernel_rfl) (fun _ _ _ h => h) (Or.inl ⟨by kernel_rfl, fun W _ => by go_simp⟩) hS ?_
              simp only [Act.put, List.setIfInBounds_toArray, List.set_cons_zero, List.set_cons_succ]
              refine takeH12 10 43 (.slice (some ⟨tb, t0, none⟩) ts.length c3) rfl rfl (by kernel_rfl) (by kernel_rfl) (by kernel_rfl) (fun _ _ _ h => h) (Or.inl ⟨by kernel_rfl, fun W _ => by go_simp⟩) hS ?_
              simp only [Act.put, List.setIfInBounds_toArray, List.set_cons_zero, List.set_cons_succ]
              refine takeH12 11 44 (.int .i64 (j : Int)) rfl rfl (by kernel_rfl) (by kernel_rfl) (by kernel_rfl) (fun _ _ _ h => h) (Or.inl ⟨by kernel_rfl, fun W _ => by go_simp⟩) hS ?_
              simp only [Act.put, List.setIfInBounds_toArray, List.set_cons_zero, List.set_cons_succ]
              refine takeH12 12 45 (.pointer (some ⟨tb, t0 + j, none⟩)) rfl rfl (by kernel_rfl) (by kernel_rfl) (by kernel_rfl) (fun _ _ _ h => h) (Or.inl ⟨by kernel_rfl, fun W _ => by go_simp⟩) hS ?_
              simp only [Act.put, List.setIfInBounds_toArray, List.set_cons_zero, List.set_cons_succ]
              refine takeH12 13 46 (.string (str x)) rfl rfl (by kernel_rfl) (by kernel_rfl) (by kernel_rfl) (fun _ _ _ h => h) (Or.inl ⟨by kernel_rfl, fun W hW => by have hc := (((hS1 W).1 hW).1); go_simp⟩) hS ?_
              simp only [Act.put, List.setIfInBounds_toArray, List.set_cons_zero, List.set_cons_succ]
              refine takeH12 14 47 (.int .i64 (p.length : Int)) rfl rfl (by kernel_rfl) (by kernel_rfl) (by kernel_rfl) (fun _ _ _ h => h) (Or.inl ⟨by kernel_rfl, fun W _ => by go_simp⟩) hS ?_
              simp only [Act.put, List.setIfInBounds_toArray, List.set_cons_zero, List.set_cons_succ]
              refine takeH12 15 48 (.string (str (x.take p.length))) rfl rfl (by kernel_rfl) (by kernel_rfl) (by kernel_rfl) (fun _ _ _ h => h) (Or.inl ⟨by kernel_rfl, fun W hW => by have hc := HCut.out; go_simp <;> first | done | exact hc | (intro h; exact absurd h (by omega)) | simp_all⟩) hS ?_
              simp only [Act.put, List.setIfInBounds_toArray, List.set_cons_zero, List.set_cons_succ]
              refine takeH12 16 49 (.slice (some ⟨pb, p0, none⟩) ps.length pc) rfl rfl (by kernel_rfl) (by kernel_rfl) (by kernel_rfl) (fun _ _ _ h => h) (Or.inl ⟨by kernel_rfl, fun W _ => by go_simp⟩) hS ?_
              simp only [Act.put, List.setIfInBounds_toArray, List.set_cons_zero, List.set_cons_succ]
              refine takeH12 17 50 (.int .i64 (k : Int)) rfl rfl (by kernel_rfl) (by kernel_rfl) (by kernel_rfl) (fun _ _ _ h => h) (Or.inl ⟨by kernel_rfl, fun W _ => by go_simp⟩) hS ?_
              simp only [Act.put, List.setIfInBounds_toArray, List.set_cons_zero, List.set_cons_succ]
              refine takeH12 18 51 (.pointer (some ⟨pb, p0 + k, none⟩)) rfl rfl (by kernel_rfl) (by kernel_rfl) (by kernel_rfl) (fun _ _ _ h => h) (Or.inl ⟨by kernel_rfl, fun W _ => by go_simp⟩) hS ?_
              simp only [Act.put, List.setIfInBounds_toArray, List.set_cons_zero, List.set_cons_succ]
              refine takeH12 19 52 (.string (str p)) rfl rfl (by kernel_rfl) (by kernel_rfl) (by kernel_rfl) (fun _ _ _ h => h) (Or.inl ⟨by kernel_rfl, fun W hW => by have hc := (((hS1 W).1 hW).2.1); go_simp⟩) hS ?_
              simp only [Act.put, List.setIfInBounds_toArray, List.set_cons_zero, List.set_cons_succ]
              refine takeH12 20 53 (.bool bq) rfl rfl (by kernel_rfl) (by kernel_rfl) (by kernel_rfl) (fun _ _ _ h => h) (Or.inl ⟨by kernel_rfl, fun W hW => by have hc := HEq.out; go_simp <;> first | done | simp_all⟩) hS ?_
              simp only [Act.put, List.setIfInBounds_toArray, List.set_cons_zero, List.set_cons_succ]
              refine takeH12 21 54 (.bool bq) rfl rfl (by kernel_rfl) (by kernel_rfl) (by kernel_rfl) (fun _ _ _ h => h) (Or.inl ⟨by kernel_rfl, fun W _ => by go_simp⟩) hS ?_
              simp only [Act.put, List.setIfInBounds_toArray, List.set_cons_zero, List.set_cons_succ]
              refine takeH12 22 55 (.bool bq) rfl rfl (by kernel_rfl) (by kernel_rfl) (by kernel_rfl) (fun _ _ _ h => h) (Or.inl ⟨by kernel_rfl, fun W _ => by go_simp⟩) hS ?_
              simp only [Act.put, List.setIfInBounds_toArray, List.set_cons_zero, List.set_cons_succ]
              refine takeH12 23 10 (.bool bq) rfl rfl (by kernel_rfl) (by kernel_rfl) (by kernel_rfl) (fun _ _ _ h => h) (Or.inl ⟨by kernel_rfl, fun W _ => by go_simp⟩) hS ?_
              simp only [Act.put, List.setIfInBounds_toArray, List.set_cons_zero, List.set_cons_succ]
              refine wpAnyH_done (by kernel_rfl) ?_ _
              have hfin := hideT ((hS1 _).1 hS).2.2
              go_wp2
              go_roundw
              case rel => exact ⟨k + 1, by go_num, HKL.out, by rw [HA.out], hfin⟩
              case measure => have := HKL.out; simp [intOf]; omega
            · have hli : ¬ (p.length : Int) < (x.length : Int) := by omega
              have hA2 : startP x p = false := by unfold startP; rw [decide_eq_false hlong, Bool.false_and]
              rw [hA2, hb, Bool.false_or] at HA
              clear hA2 hb
              obtain ⟨S, hS1⟩ : ∃ S : World → Prop, ∀ W, S W ↔ W.cell? ⟨tb, t0 + j, none⟩ = some (.string (str x)) ∧ W.cell? ⟨pb, p0 + k, none⟩ = some (.string (str p)) ∧ Below X.heap.size X W := ⟨_, fun _ => Iff.rfl⟩
              have step : ∀ W W', S W → Below W.heap.size W W' → S W' := fun W W' h hb => by
                obtain ⟨h1, h2, h3⟩ := (hS1 W).1 h
                exact (hS1 W').2 ⟨(hb.cell (p := ⟨tb, t0 + j, none⟩) (cell_lt h1)).trans h1, (hb.cell (p := ⟨pb, p0 + k, none⟩) (cell_lt h2)).trans h2, bel h3 hb⟩
              go_upto_region 11 with fail
              refine wp_region_held_drew (S := S) (by kernel_rfl) (step _ _ ((hS1 _).2 ⟨tcY, pcY, HY.out⟩) ((Below.refl _ _).drew)) (fun hS => ?_)
              clear tcY pcY
              refine takeH12 0 33 (.bool false) rfl rfl (by kernel_rfl) (by kernel_rfl) (by kernel_rfl) (fun _ _ _ h => h) (Or.inl ⟨by kernel_rfl, fun W _ => by go_simp⟩) hS ?_
              simp only [Act.put, List.setIfInBounds_toArray, List.set_cons_zero, List.set_cons_succ]
              refine takeH12 1 34 (.bool false) rfl rfl (by kernel_rfl) (by kernel_rfl) (by kernel_rfl) (fun _ _ _ h => h) (Or.inl ⟨by kernel_rfl, fun W _ => by go_simp⟩) hS ?_
              simp only [Act.put, List.setIfInBounds_toArray, List.set_cons_zero, List.set_cons_succ]
              refine takeH12 2 35 (.slice (some ⟨tb, t0, none⟩) ts.length c3) rfl rfl (by kernel_rfl) (by kernel_rfl) (by kernel_rfl) (fun _ _ _ h => h) (Or.inl ⟨by kernel_rfl, fun W _ => by go_simp⟩) hS ?_
              simp only [Act.put, List.setIfInBounds_toArray, List.set_cons_zero, List.set_cons_succ]
              refine takeH12 3 36 (.int .i64 (j : Int)) rfl rfl (by kernel_rfl) (by kernel_rfl) (by kernel_rfl) (fun _ _ _ h => h) (Or.inl ⟨by kernel_rfl, fun W _ => by go_simp⟩) hS ?_
              simp only [Act.put, List.setIfInBounds_toArray, List.set_cons_zero, List.set_cons_succ]
              refine takeH12 4 37 (.pointer (some ⟨tb, t0 + j, none⟩)) rfl rfl (by kernel_rfl) (by kernel_rfl) (by kernel_rfl) (fun _ _ _ h => h) (Or.inl ⟨by kernel_rfl, fun W _ => by go_simp⟩) hS ?_
              simp only [Act.put, List.setIfInBounds_toArray, List.set_cons_zero, List.set_cons_succ]
              refine takeH12 5 38 (.string (str x)) rfl rfl (by kernel_rfl) (by kernel_rfl) (by kernel_rfl) (fun _ _ _ h => h) (Or.inl ⟨by kernel_rfl, fun W hW => by have hc := (((hS1 W).1 hW).1); go_simp⟩) hS ?_
              simp only [Act.put, List.setIfInBounds_toArray, List.set_cons_zero, List.set_cons_succ]
              refine takeH12 6 39 (.int .i64 (x.length : Int)) rfl rfl (by kernel_rfl) (by kernel_rfl) (by kernel_rfl) (fun _ _ _ h => h) (Or.inl ⟨by kernel_rfl, fun W _ => by go_simp⟩) hS ?_
              simp only [Act.put, List.setIfInBounds_toArray, List.set_cons_zero, List.set_cons_succ]
              refine takeH12 7 40 (.int .i64 (p.length : Int)) rfl rfl (by kernel_rfl) (by kernel_rfl) (by kernel_rfl) (fun _ _ _ h => h) (Or.inl ⟨by kernel_rfl, fun W _ => by go_simp⟩) hS ?_
              simp only [Act.put, List.setIfInBounds_toArray, List.set_cons_zero, List.set_cons_succ]
              refine takeH12 8 41 (.bool false) rfl rfl (by kernel_rfl) (by kernel_rfl) (by kernel_rfl) (fun _ _ _ h => h) (Or.inl ⟨by kernel_rfl, fun W _ => by go_simp; (try (first | omega | simp_all))⟩) hS ?_
              simp only [Act.put, List.setIfInBounds_toArray, List.set_cons_zero, List.set_cons_succ]
              refine takeH12 9 42 (.bool false) rfl rfl (by kernel_rfl) (by kernel_rfl) (by kernel_rfl) (fun _ _ _ h => h) (Or.inl ⟨by kernel_rfl, fun W _ => by go_simp⟩) hS ?_
              simp only [Act.put, List.setIfInBounds_toArray, List.set_cons_zero, List.set_cons_succ]
              refine takeH12 10 43 (undef) rfl rfl (by kernel_rfl) (by kernel_rfl) (by kernel_rfl) (fun _ _ _ h => h) (Or.inr ⟨by kernel_rfl, rfl⟩) hS ?_
              simp only [Act.put, List.setIfInBounds_toArray, List.set_cons_zero, List.set_cons_succ]
              refine takeH12 11 44 (undef) rfl rfl (by kernel_rfl) (by kernel_rfl) (by kernel_rfl) (fun _ _ _ h => h) (Or.inr ⟨by kernel_rfl, rfl⟩) hS ?_
              simp only [Act.put, List.setIfInBounds_toArray, List.set_cons_zero, List.set_cons_succ]
              refine takeH12 12 45 (undef) rfl rfl (by kernel_rfl) (by kernel_rfl) (by kernel_rfl) (fun _ _ _ h => h) (Or.inr ⟨by kernel_rfl, rfl⟩) hS ?_
              simp only [Act.put, List.setIfInBounds_toArray, List.set_cons_zero, List.set_cons_succ]
              refine takeH12 13 46 (undef) rfl rfl (by kernel_rfl) (by kernel_rfl) (by kernel_rfl) (fun _ _ _ h => h) (Or.inr ⟨by kernel_rfl, rfl⟩) hS ?_
              simp only [Act.put, List.setIfInBounds_toArray, List.set_cons_zero, List.set_cons_succ]
              refine takeH12 14 47 (undef) rfl rfl (by kernel_rfl) (by kernel_rfl) (by kernel_rfl) (fun _ _ _ h => h) (Or.inr ⟨by kernel_rfl, rfl⟩) hS ?_
              simp only [Act.put, List.setIfInBounds_toArray, List.set_cons_zero, List.set_cons_succ]
              refine takeH12 15 48 (undef) rfl rfl (by kernel_rfl) (by kernel_rfl) (by kernel_rfl) (fun _ _ _ h => h) (Or.inr ⟨by kernel_rfl, rfl⟩) hS ?_
              simp only [Act.put, List.setIfInBounds_toArray, List.set_cons_zero, List.set_cons_succ]
              refine takeH12 16 49 (undef) rfl rfl (by kernel_rfl) (by kernel_rfl) (by kernel_rfl) (fun _ _ _ h => h) (Or.inr ⟨by kernel_rfl, rfl⟩) hS ?_
              simp only [Act.put, List.setIfInBounds_toArray, List.set_cons_zero, List.set_cons_succ]
              refine takeH12 17 50 (undef) rfl rfl (by kernel_rfl) (by kernel_rfl) (by kernel_rfl) (fun _ _ _ h => h) (Or.inr ⟨by kernel_rfl, rfl⟩) hS ?_
              simp only [Act.put, List.setIfInBounds_toArray, List.set_cons_zero, List.set_cons_succ]
              refine takeH12 18 51 (undef) rfl rfl (by kernel_rfl) (by kernel_rfl) (by kernel_rfl) (fun _ _ _ h => h) (Or.inr ⟨by kernel_rfl, rfl⟩) hS ?_
              simp only [Act.put, List.setIfInBounds_toArray, List.set_cons_zero, List.set_cons_succ]
              refine takeH12 19 52 (undef) rfl rfl (by kernel_rfl) (by kernel_rfl) (by kernel_rfl) (fun _ _ _ h => h) (Or.inr ⟨by kernel_rfl, rfl⟩) hS ?_
              simp only [Act.put, List.setIfInBounds_toArray, List.set_cons_zero, List.set_cons_succ]
              refine takeH12 20 53 (undef) rfl rfl (by kernel_rfl) (by kernel_rfl) (by kernel_rfl) (fun _ _ _ h => h) (Or.inr ⟨by kernel_rfl, rfl⟩) hS ?_
              simp only [Act.put, List.setIfInBounds_toArray, List.set_cons_zero, List.set_cons_succ]
              refine takeH12 21 54 (.bool false) rfl rfl (by kernel_rfl) (by kernel_rfl) (by kernel_rfl) (fun _ _ _ h => h) (Or.inl ⟨by kernel_rfl, fun W _ => by go_simp⟩) hS ?_
              simp only [Act.put, List.setIfInBounds_toArray, List.set_cons_zero, List.set_cons_succ]
              refine takeH12 22 55 (.bool false) rfl rfl (by kernel_rfl) (by kernel_rfl) (by kernel_rfl) (fun _ _ _ h => h) (Or.inl ⟨by kernel_rfl, fun W _ => by go_simp⟩) hS ?_
              simp only [Act.put, List.setIfInBounds_toArray, List.set_cons_zero, List.set_cons_succ]
              refine takeH12 23 10 (.bool false) rfl rfl (by kernel_rfl) (by kernel_rfl) (by kernel_rfl) (fun _ _ _ h => h) (Or.inl ⟨by kernel_rfl, fun W _ => by go_simp⟩) hS ?_
              simp only [Act.put, List.setIfInBounds_toArray, List.set_cons_zero, List.set_cons_succ]
              refine wpAnyH_done (by kernel_rfl) ?_ _
              have hfin := hideT ((hS1 _).1 hS).2.2
              go_wp2
              go_roundw
              case rel => exact ⟨k + 1, by go_num, HKL.out, by rw [HA.out], hfin⟩
              case measure => have := HKL.out; simp [intOf]; omega
          · rw [hb, Bool.true_or] at HA
            clear hb
            obtain ⟨S, hS1⟩ : ∃ S : World → Prop, ∀ W, S W ↔ W.cell? ⟨tb, t0 + j, none⟩ = some (.string (str x)) ∧ W.cell? ⟨pb, p0 + k, none⟩ = some (.string (str p)) ∧ Below X.heap.size X W := ⟨_, fun _ => Iff.rfl⟩
            have step : ∀ W W', S W → Below W.heap.size W W' → S W' := fun W W' h hb => by
              obtain ⟨h1, h2, h3⟩ := (hS1 W).1 h
              exact (hS1 W').2 ⟨(hb.cell (p := ⟨tb, t0 + j, none⟩) (cell_lt h1)).trans h1, (hb.cell (p := ⟨pb, p0 + k, none⟩) (cell_lt h2)).trans h2, bel h3 hb⟩
            go_upto_region 11 with fail
            refine wp_region_held_drew (S := S) (by kernel_rfl) (step _ _ ((hS1 _).2 ⟨tcY, pcY, HY.out⟩) ((Below.refl _ _).drew)) (fun hS => ?_)
            clear tcY pcY
            refine takeH12 0 33 (.bool true) rfl rfl (by kernel_rfl) (by kernel_rfl) (by kernel_rfl) (fun _ _ _ h => h) (Or.inl ⟨by kernel_rfl, fun W _ => by go_simp⟩) hS ?_
            simp only [Act.put, List.setIfInBounds_toArray, List.set_cons_zero, List.set_cons_succ]
            refine takeH12 1 34 (.bool true) rfl rfl (by kernel_rfl) (by kernel_rfl) (by kernel_rfl) (fun _ _ _ h => h) (Or.inl ⟨by kernel_rfl, fun W _ => by go_simp⟩) hS ?_
            simp only [Act.put, List.setIfInBounds_toArray, List.set_cons_zero, List.set_cons_succ]
            refine takeH12 2 35 (undef) rfl rfl (by kernel_rfl) (by kernel_rfl) (by kernel_rfl) (fun _ _ _ h => h) (Or.inr ⟨by kernel_rfl, rfl⟩) hS ?_
            simp only [Act.put, List.setIfInBounds_toArray, List.set_cons_zero, List.set_cons_succ]
            refine takeH12 3 36 (undef) rfl rfl (by kernel_rfl) (by kernel_rfl) (by kernel_rfl) (fun _ _ _ h => h) (Or.inr ⟨by kernel_rfl, rfl⟩) hS ?_
            simp only [Act.put, List.setIfInBounds_toArray, List.set_cons_zero, List.set_cons_succ]
            refine takeH12 4 37 (undef) rfl rfl (by kernel_rfl) (by kernel_rfl) (by kernel_rfl) (fun _ _ _ h => h) (Or.inr ⟨by kernel_rfl, rfl⟩) hS ?_
            simp only [Act.put, List.setIfInBounds_toArray, List.set_cons_zero, List.set_cons_succ]
            refine takeH12 5 38 (undef) rfl rfl (by kernel_rfl) (by kernel_rfl) (by kernel_rfl) (fun _ _ _ h => h) (Or.inr ⟨by kernel_rfl, rfl⟩) hS ?_
            simp only [Act.put, List.setIfInBounds_toArray, List.set_cons_zero, List.set_cons_succ]
            refine takeH12 6 39 (undef) rfl rfl (by kernel_rfl) (by kernel_rfl) (by kernel_rfl) (fun _ _ _ h => h) (Or.inr ⟨by kernel_rfl, rfl⟩) hS ?_
            simp only [Act.put, List.setIfInBounds_toArray, List.set_cons_zero, List.set_cons_succ]
            refine takeH12 7 40 (undef) rfl rfl (by kernel_rfl) (by kernel_rfl) (by kernel_rfl) (fun _ _ _ h => h) (Or.inr ⟨by kernel_rfl, rfl⟩) hS ?_
            simp only [Act.put, List.setIfInBounds_toArray, List.set_cons_zero, List.set_cons_succ]
            refine takeH12 8 41 (undef) rfl rfl (by kernel_rfl) (by kernel_rfl) (by kernel_rfl) (fun _ _ _ h => h) (Or.inr ⟨by kernel_rfl, rfl⟩) hS ?_
            simp only [Act.put, List.setIfInBounds_toArray, List.set_cons_zero, List.set_cons_succ]
            refine takeH12 9 42 (undef) rfl rfl (by kernel_rfl) (by kernel_rfl) (by kernel_rfl) (fun _ _ _ h => h) (Or.inr ⟨by kernel_rfl, rfl⟩) hS ?_
            simp only [Act.put, List.setIfInBounds_toArray, List.set_cons_zero, List.set_cons_succ]
            refine takeH12 10 43 (undef) rfl rfl (by kernel_rfl) (by kernel_rfl) (by kernel_rfl) (fun _ _ _ h => h) (Or.inr ⟨by kernel_rfl, rfl⟩) hS ?_
            simp only [Act.put, List.setIfInBounds_toArray, List.set_cons_zero, List.set_cons_succ]
            refine takeH12 11 44 (undef) rfl rfl (by kernel_rfl) (by kernel_rfl) (by kernel_rfl) (fun _ _ _ h => h) (Or.inr ⟨by kernel_rfl, rfl⟩) hS ?_
            simp only [Act.put, List.setIfInBounds_toArray, List.set_cons_zero, List.set_cons_succ]
            refine takeH12 12 45 (undef) rfl rfl (by kernel_rfl) (by kernel_rfl) (by kernel_rfl) (fun _ _ _ h => h) (Or.inr ⟨by kernel_rfl, rfl⟩) hS ?_
            simp only [Act.put, List.setIfInBounds_toArray, List.set_cons_zero, List.set_cons_succ]
            refine takeH12 13 46 (undef) rfl rfl (by kernel_rfl) (by kernel_rfl) (by kernel_rfl) (fun _ _ _ h => h) (Or.inr ⟨by kernel_rfl, rfl⟩) hS ?_
            simp only [Act.put, List.setIfInBounds_toArray, List.set_cons_zero, List.set_cons_succ]
            refine takeH12 14 47 (undef) rfl rfl (by kernel_rfl) (by kernel_rfl) (by kernel_rfl) (fun _ _ _ h => h) (Or.inr ⟨by kernel_rfl, rfl⟩) hS ?_
            simp only [Act.put, List.setIfInBounds_toArray, List.set_cons_zero, List.set_cons_succ]
            refine takeH12 15 48 (undef) rfl rfl (by kernel_rfl) (by kernel_rfl) (by kernel_rfl) (fun _ _ _ h => h) (Or.inr ⟨by kernel_rfl, rfl⟩) hS ?_
            simp only [Act.put, List.setIfInBounds_toArray, List.set_cons_zero, List.set_cons_succ]
            refine takeH12 16 49 (undef) rfl rfl (by kernel_rfl) (by kernel_rfl) (by kernel_rfl) (fun _ _ _ h => h) (Or.inr ⟨by kernel_rfl, rfl⟩) hS ?_
            simp only [Act.put, List.setIfInBounds_toArray, List.set_cons_zero, List.set_cons_succ]
            refine takeH12 17 50 (undef) rfl rfl (by kernel_rfl) (by kernel_rfl) (by kernel_rfl) (fun _ _ _ h => h) (Or.inr ⟨by kernel_rfl, rfl⟩) hS ?_
            simp only [Act.put, List.setIfInBounds_toArray, List.set_cons_zero, List.set_cons_succ]
            refine takeH12 18 51 (undef) rfl rfl (by kernel_rfl) (by kernel_rfl) (by kernel_rfl) (fun _ _ _ h => h) (Or.inr ⟨by kernel_rfl, rfl⟩) hS ?_
            simp only [Act.put, List.setIfInBounds_toArray, List.set_cons_zero, List.set_cons_succ]
            refine takeH12 19 52 (undef) rfl rfl (by kernel_rfl) (by kernel_rfl) (by kernel_rfl) (fun _ _ _ h => h) (Or.inr ⟨by kernel_rfl, rfl⟩) hS ?_
            simp only [Act.put, List.setIfInBounds_toArray, List.set_cons_zero, List.set_cons_succ]
            refine takeH12 20 53 (undef) rfl rfl (by kernel_rfl) (by kernel_rfl) (by kernel_rfl) (fun _ _ _ h => h) (Or.inr ⟨by kernel_rfl, rfl⟩) hS ?_
            simp only [Act.put, List.setIfInBounds_toArray, List.set_cons_zero, List.set_cons_succ]
            refine takeH12 21 54 (undef) rfl rfl (by kernel_rfl) (by kernel_rfl) (by kernel_rfl) (fun _ _ _ h => h) (Or.inr ⟨by kernel_rfl, rfl⟩) hS ?_
            simp only [Act.put, List.setIfInBounds_toArray, List.set_cons_zero, List.set_cons_succ]
            refine takeH12 22 55 (.bool true) rfl rfl (by kernel_rfl) (by kernel_rfl) (by kernel_rfl) (fun _ _ _ h => h) (Or.inl ⟨by kernel_rfl, fun W _ => by go_simp⟩) hS ?_
            simp only [Act.put, List.setIfInBounds_toArray, List.set_cons_zero, List.set_cons_succ]
            refine takeH12 23 10 (.bool true) rfl rfl (by kernel_rfl) (by kernel_rfl) (by kernel_rfl) (fun _ _ _ h => h) (Or.inl ⟨by kernel_rfl, fun W _ => by go_simp⟩) hS ?_
            simp only [Act.put, List.setIfInBounds_toArray, List.set_cons_zero, List.set_cons_succ]
            refine wpAnyH_done (by kernel_rfl) ?_ _
            have hfin := hideT ((hS1 _).1 hS).2.2
            go_wp2
            go_roundw
            case rel => exact ⟨k + 1, by go_num, HKL.out, by rw [HA.out], hfin⟩
            case measure => have := HKL.out; simp [intOf]; omega
        · have hke : k = ps.length := by omega
          have hE : (ps.take k).any (startP x) = Lk.startB ps x := by rw [hke, List.take_length, startB_any]
          rw [hE]
          clear hE hke
          cases hsb : Lk.startB ps x
          · have HN2 : Hid ((ts.take (j + 1)).filter (Lk.startB ps) = (ts.take j).filter (Lk.startB ps)) := by
              show _ = _
              rw [HN.out, hsb, if_neg (by simp), List.append_nil]
            have HBY := hideT (bel HB.out HY.out)
            have HOY : Hid (OwnsTexts Y w3.heap.size u8 ((ts.take j).filter (Lk.startB ps))) := OwnsTexts13.below HO.out HY.out
            clear hsb
            go_wp2
            go_roundw
            case rel => exact ⟨j + 1, by go_num, HJ.out, by rw [HN2.out]; exact HOY, HBY⟩
            case measure => have := HJ.out; simp [intOf]; omega
          · have HN2 : Hid ((ts.take (j + 1)).filter (Lk.startB ps) = (ts.take j).filter (Lk.startB ps) ++ [x]) := by
              show _ = _
              rw [HN.out, hsb, if_pos rfl]
            have HBY := hideT (bel HB.out HY.out)
            have HOY : Hid (OwnsTexts Y w3.heap.size u8 ((ts.take j).filter (Lk.startB ps))) := OwnsTexts13.below HO.out HY.out
            clear hsb
            go_wp2_with (at_builtin; refine wpList_append_own _ rfl _ _ 31 rfl w3.heap.size 9 i0 (.string ByteArray.empty) 1 16 Try.underlying31 hi0 hz0 hz1 hz2 rfl (by decide) _ _ _ rfl (World.ownsRow.alloc HOY.out _) ⟨Y.heap.size, 0, none⟩ 1 1 [.string (str x)] rfl rfl (cell_one_new _ _ _) (fun y hy => by simp at hy; subst hy; rfl) (by unfold maxLen; omega) (by omega) (by have := HBY.out.size; simp; omega) ?_; intro v6 w6 hown6 hgrow6 hnil6)
            have HB6 : Hid (Below w3.heap.size w3 w6) := (HBY.out.alloc HBY.out.size (.cells #[.string (str x)] 9)).grown hgrow6 (by have := HBY.out.size; simp; omega) (fun k e => (World.ownsRow.lt HOY.out k e).1)
            have HO6 : Hid (OwnsTexts w6 w3.heap.size v6 ((ts.take (j + 1)).filter (Lk.startB ps))) := OwnsTexts.of HN2.out rfl hown6
            clear hown6 hgrow6 hnil6
            go_roundw
            case rel => exact ⟨j + 1, by go_num, HJ.out, HO6, HB6⟩
            case measure => have := HJ.out; simp [intOf]; omega
    · have hje : j = ts.length := by omega
      have HR : Hid ((ts.take j).filter (Lk.startB ps) = Lk.startsA (Tre.ndAt ns i).attrs ps) := by
        show _ = _
        rw [hje, List.take_length, HX.out]
      have HBX := hideT (bel HB3.out HB.out)
      have hsz := HB3.out.size
      clear hje
      go_wp2
      go_ret
      exact ⟨_, rfl, by rw [← HR.out]; exact OwnsTexts13.mono HO.out hsz, HBX.out⟩
set_option maxHeartbeats 2000000 in
set_option maxRecDepth 100000 in
theorem RStarts14_any (ns : List Nd) (v : Value) (at_ : Int) (ps : List (List UInt8)) (pv : Value) (w : World) (hv : ReadsN w v ns) (hf : Fair14 ns) (hk : ns.length ≤ 4096 → ∀ i, i < ns.length → (Tre.ndAt ns i).kids.length ≤ 140737488351232) (hps : ReadsTexts w pv ps) (hpl : ps.length ≤ 1000000) (hpx : ∀ p ∈ ps, p.length ≤ 1000000) :
    Calls Try.prog 18 #[.agg #[v], .int .i64 at_, pv] w fun e w' => ∃ x, e = .returned x ∧ OwnsTexts w' w.heap.size x (startsR14 ns at_ ps) ∧ Below w.heap.size w w' := by
  obtain ⟨a, c, rfl⟩ := hv.form
  have hb0 : Below w.heap.size w (w.alloc (.cells #[.slice a ns.length c] 24)) := (Below.refl _ _).alloc (Nat.le_refl _) _
  have cc0 := doc_cell (heap_new w (.cells #[.slice a ns.length c] 24))
  have lc := cell_lt cc0
  have HI := hideT (RIs14_any ns _ at_ _ (hv.below hb0) hf hk)
  have HB0 := hideT hb0
  cases hp : Lk.placeB ns at_
  · have HX : Hid (startsR14 ns at_ ps = []) := by
      show _ = _
      unfold startsR14 wordsR14 attrR14
      rw [hp]
      rfl
    rw [hp] at HI
    clear hv hb0 hf hp lc hk hps hpx
    go_enter Try.func18, Try.ntmps18
    go_wp2_with (go_at_call 28; refine HI.out.mono ?_; rintro e w1 ⟨rfl, b1⟩; have HQ := hideT (bel HB0.out b1); clear b1)
    go_ret
    exact ⟨_, rfl, by rw [HX.out]; exact OwnsTexts.nil _ _, HQ.out⟩
  · obtain ⟨i, rfl, hi, hm⟩ := Lk.place_yes hp
    have hX : startsR14 ns (i : Int) ps = Lk.startsA (Tre.ndAt ns i).attrs ps := by
      unfold startsR14 wordsR14 attrR14
      rw [hp, if_pos rfl, Int.toNat_natCast]
      rfl
    have HX := hideT hX
    rw [hp] at HI
    have HP := hideT (fun W (h : Below (w.alloc (.cells #[.slice a ns.length c] 24)).heap.size (w.alloc (.cells #[.slice a ns.length c] 24)) W) => RStartsIn14_any ns _ i ps pv W ((hv.below hb0).below h) hf hm hi (ReadsTexts13.below (ReadsTexts13.below hps hb0) h) hpl hpx)
    clear hv hb0 hf hp hm hX hk hps hpx
    go_enter Try.func18, Try.ntmps18
    go_wp2_with (first
      | (go_at_call 28; refine HI.out.mono ?_; rintro e w1 ⟨rfl, b1⟩; have HQ := hideT (bel HB0.out b1); have HP1 := hideT (HP.out w1 b1); have cc1 := (b1.cell (p := ⟨w.heap.size, 0, none⟩) lc).trans cc0; clear b1 HI HP)
      | (go_at_call 42; refine HP1.out.mono ?_; rintro e w3 ⟨x3, rfl, hO3, b3⟩; have HO3 := hideT hO3; have HB3 := hideT (bel HQ.out b3); clear b3 hO3))
    go_ret
    exact ⟨_, rfl, by rw [HX.out]; exact OwnsTexts13.mono HO3.out HQ.out.size, HB3.out⟩
end Go.Proofs.Ytoiedadfpbbdgaa
/- The contract of look's Starts. -/
namespace Go.Proofs.Ytoiedadfpbbdgaa
open Go.RowKit
set_option maxHeartbeats 1000000 in
theorem startFn_any (x p : List UInt8) (g : Nat) (w : World) (hg : w.cell? ⟨g, 0, none⟩ = some (.string (str x))) (hx : x.length ≤ 1000000) (hp : p.length ≤ 1000000) :
    Calls Try.prog 39 #[.string (str p), .pointer (some ⟨g, 0, none⟩)] w fun e w' => e = .returned (.bool (startP x p)) ∧ w' = w := by
  have s1 := str_size x
  have s2 := str_size p
  by_cases hlong : p.length < x.length
  · have hli : (p.length : Int) < (x.length : Int) := by omega
    have HH := hideT (HasPrefix_l x p w)
    have HX : Hid (startP x p = p.isPrefixOf x) := by
      show _ = _
      unfold startP
      rw [decide_eq_true hlong, Bool.true_and]
    go_enter Try.func39, Try.ntmps39
    go_wp2_with (go_at_call 40; refine HH.out.mono ?_; rintro e w1 ⟨rfl, hw⟩; replace hw := hw.symm; subst hw)
    go_ret
    exact ⟨ret_bool HX.out.symm, rfl⟩
  · have hli : ¬ (p.length : Int) < (x.length : Int) := by omega
    have HX : Hid (startP x p = false) := by
      show _ = _
      unfold startP
      rw [decide_eq_false hlong, Bool.false_and]
    go_enter Try.func39, Try.ntmps39
    go_wp2
    go_ret
    exact ⟨ret_bool HX.out.symm, rfl⟩
set_option maxHeartbeats 1000000 in
theorem startIndex_any (ps : List (List UInt8)) (v : Value) (x : List UInt8) (g : Nat) (w : World) (hg : w.cell? ⟨g, 0, none⟩ = some (.string (str x))) (hv : ReadsTexts w v ps) (hl : ps.length ≤ 1000000) (hx : x.length ≤ 1000000) (hp : ∀ p ∈ ps, p.length ≤ 1000000) :
    Calls Try.prog 60 #[v, .func (.func 39) #[] #[.pointer (some ⟨g, 0, none⟩)]] w fun e w' => (∃ r, e = .returned (.int .i64 r) ∧ decide (0 ≤ r) = Lk.startB ps x) ∧ w' = w := by
  obtain ⟨a, c, rfl⟩ := ReadsTexts13.form hv
  have HV := hideT hv
  have HP := hideT hp
  have hsb := startB_any ps x
  clear hv hp
  go_enter Try.func60, Try.ntmps60
  go_wp2
  go_loopw [8] (fun i wr => ∃ j : Nat, i = .int .i64 j ∧ j ≤ ps.length ∧ Hid ((ps.take j).any (startP x) = false) ∧ wr = w) (fun i _ => ps.length - (intOf i).toNat)
  case atStart => exact ⟨0, rfl, Nat.zero_le _, rfl, rfl⟩
  case round =>
    obtain ⟨j, rfl, hj, HE, rfl⟩ := hrel
    by_cases hjl : j < ps.length
    · have hat : ps[j]? = some ps[j] := List.getElem?_eq_getElem hjl
      obtain ⟨pb, p0, rfl, hpc, hpbl, pcell⟩ := ReadsTexts13.at HV.out hat
      have hA := any_next (startP x) ps j hjl
      have hpl2 : ps[j].length ≤ 1000000 := HP.out _ (List.getElem_mem hjl)
      have hmem : ps[j] ∈ ps := List.getElem_mem hjl
      have hF := startFn_any x ps[j] g _ hg hx hpl2
      rw [HE.out, Bool.false_or] at hA
      cases hq : startP x ps[j]
      · have HN : Hid ((ps.take (j + 1)).any (startP x) = false) := by rw [hq] at hA; exact hA
        rw [hq] at hF
        clear hat hA hq hmem
        generalize ps[j] = p at *
        go_wp2_with (go_at_call 39; refine hF.mono ?_; rintro e w1 ⟨rfl, hw⟩; replace hw := hw.symm; subst hw)
        go_roundw
        case rel => exact ⟨j + 1, by go_num, by omega, HN, by first | trivial | rfl⟩
        case measure => simp [intOf]; omega
      · have HN : Hid (Lk.startB ps x = true) := by
          show _ = _
          rw [hsb, List.any_eq_true]
          exact ⟨_, hmem, hq⟩
        rw [hq] at hF
        clear hat hA hq hmem hsb
        generalize ps[j] = p at *
        go_wp2_with (go_at_call 39; refine hF.mono ?_; rintro e w1 ⟨rfl, hw⟩; replace hw := hw.symm; subst hw)
        go_ret
        exact ⟨⟨_, rfl, by rw [HN.out]; simp⟩, rfl⟩
    · have HN : Hid (Lk.startB ps x = false) := by
        have h := HE.out
        rw [List.take_of_length_le (by omega)] at h
        rw [← hsb] at h
        exact h
      clear hsb
      go_wp2
      go_ret
      exact ⟨⟨_, rfl, by rw [HN.out]; rfl⟩, rfl⟩
set_option maxHeartbeats 1000000 in
theorem startHas_any (ps : List (List UInt8)) (v : Value) (x : List UInt8) (g : Nat) (w : World) (hg : w.cell? ⟨g, 0, none⟩ = some (.string (str x))) (hv : ReadsTexts w v ps) (hl : ps.length ≤ 1000000) (hx : x.length ≤ 1000000) (hp : ∀ p ∈ ps, p.length ≤ 1000000) :
    Calls Try.prog 41 #[v, .func (.func 39) #[] #[.pointer (some ⟨g, 0, none⟩)]] w fun e w' => e = .returned (.bool (Lk.startB ps x)) ∧ w' = w := by
  have hI := startIndex_any ps v x g w hg hv hl hx hp
  go_enter Try.func41, Try.ntmps41
  go_wp2_with (go_at_call 60; refine hI.mono ?_; rintro e w1 ⟨⟨r, rfl, hr⟩, hw⟩; replace hw := hw.symm; subst hw)
  go_ret
  exact ⟨ret_bool (by simp), rfl⟩
theorem wordsR14_len {ns : List Nd} (hf : Fair14 ns) (at_ : Int) (q : List UInt8) : (wordsR14 ns at_ q).length ≤ 100000 ∧ ∀ x ∈ wordsR14 ns at_ q, x.length ≤ 100000 := by
  have hal := attrR14_len hf at_ q
  constructor
  · have h1 := Lk.once_len (Asc.words (attrR14 ns at_ q).1) (Asc.words (attrR14 ns at_ q).1).length
    rw [List.take_length] at h1
    have := Asc.words_len (attrR14 ns at_ q).1
    unfold wordsR14
    omega
  · intro x hx
    have h1 := Lk.once_mem (Asc.words (attrR14 ns at_ q).1) (Asc.words (attrR14 ns at_ q).1).length x (by rw [List.take_length]; exact hx)
    exact Nat.le_trans (Lk.words_size _ x h1) hal
set_option maxHeartbeats 8000000 in
set_option maxRecDepth 100000 in
theorem Starts14_any (ns : List Nd) (v : Value) (at_ : Int) (ps : List (List UInt8)) (pv : Value) (w : World) (hv : ReadsN w v ns) (hf : Fair14 ns) (hps : ReadsTexts w pv ps) (hpl : ps.length ≤ 1000000) (hpx : ∀ p ∈ ps, p.length ≤ 1000000) :
    Calls Try.prog 17 #[.agg #[v], .int .i64 at_, pv] w fun e w' => ∃ x, e = .returned x ∧ OwnsTexts w' w.heap.size x (startsR14 ns at_ ps) ∧ Below w.heap.size w w' := by
  obtain ⟨i0, hi0, hz0, hz1, hz2⟩ := info_parts info9
  have hmf : ∀ (fn : Fn) (first cap : Array Value) (w : World), (Instr.makeFunc fn first cap).run Try.prog w = .ok (.func fn first cap) w := fun _ _ _ _ => rfl
  obtain ⟨a, c, rfl⟩ := hv.form
  have hb0 : Below w.heap.size w (w.alloc (.cells #[.slice a ns.length c] 24)) := (Below.refl _ _).alloc (Nat.le_refl _) _
  have cc0 := doc_cell (heap_new w (.cells #[.slice a ns.length c] 24))
  have hW := Words14_any ns _ at_ Lk.classN _ (hv.below hb0) hf
  rw [show str Lk.classN = ⟨#[99, 108, 97, 115, 115]⟩ from rfl] at hW
  have HW := hideT hW
  have HB0 := hideT hb0
  have HP0 := hideT (ReadsTexts13.below hps hb0)
  have HX : Hid (startsR14 ns at_ ps = (wordsR14 ns at_ Lk.classN).filter (Lk.startB ps)) := rfl
  obtain ⟨hwl, hws⟩ := wordsR14_len hf at_ Lk.classN
  have HPX := hideT hpx
  generalize wordsR14 ns at_ Lk.classN = ts at *
  clear hv hb0 hf hps hW hpx
  go_enter Try.func17, Try.ntmps17
  go_wp2_with (go_at_call 13; refine HW.out.mono ?_; rintro e w3 ⟨x3, rfl, hO3, b3⟩; obtain ⟨a3, c3, rfl⟩ := ReadsTexts13.form hO3.reads; have HO3 := hideT hO3; have HB3 := hideT (bel HB0.out b3); have HP3 := hideT (ReadsTexts13.below HP0.out b3); clear hO3 b3)
  clear HW HP0
  go_loopw [7, 15] (fun x s wr => ∃ j : Nat, s = .int .i64 j ∧ j ≤ ts.length ∧ Hid (OwnsTexts wr w3.heap.size x ((ts.take j).filter (Lk.startB ps))) ∧ Hid (Below w3.heap.size w3 wr)) (fun _ s _ => ts.length - (intOf s).toNat)
  case atStart => exact ⟨0, by go_num, Nat.zero_le _, OwnsTexts.nil _ _, Below.refl _ _⟩
  case round =>
    obtain ⟨j, rfl, hj, HO, HB⟩ := hrel
    rename World => X
    by_cases hjl : j < ts.length
    · have hat : ts[j]? = some ts[j] := List.getElem?_eq_getElem hjl
      obtain ⟨tb, t0, rfl, htc, htl, tcell⟩ := ReadsTexts13.at (ReadsTexts13.below HO3.out.reads HB.out) hat
      have HN := hideT (filter_next (Lk.startB ps) ts j hjl)
      have hxl : ts[j].length ≤ 100000 := hws _ (List.getElem_mem hjl)
      have hol : ((ts.take j).filter (Lk.startB ps)).length ≤ 100000 := Nat.le_trans (List.length_filter_le _ _) (by rw [List.length_take]; omega)
      have HP4 := hideT (ReadsTexts13.below HP3.out HB.out)
      generalize ts[j] = x at *
      have tcell : X.cell? ⟨tb, t0 + j, none⟩ = some (.string (str x)) := tcell
      have HJ : Hid (j + 1 ≤ ts.length) := hjl
      have hbA : Below X.heap.size X (X.alloc (.cells #[.string (str x)] 9)) := (Below.refl _ X).alloc (Nat.le_refl _) _
      have hgA : (X.alloc (.cells #[.string (str x)] 9)).cell? ⟨X.heap.size, 0, none⟩ = some (.string (str x)) := Lib.cell_of_heap (heap_new X _) 0
      have HH := hideT (startHas_any ps pv x X.heap.size _ hgA (ReadsTexts13.below HP4.out hbA) hpl (by omega) HPX.out)
      have HBA := hideT hbA
      clear hat hbA
      cases hsb : Lk.startB ps x
      · rw [hsb] at HH
        have HN2 : Hid ((ts.take (j + 1)).filter (Lk.startB ps) = (ts.take j).filter (Lk.startB ps)) := by
          show _ = _
          rw [HN.out, hsb, if_neg (by simp), List.append_nil]
        have HOA := hideT (OwnsTexts13.below HO.out HBA.out)
        have HBB := hideT (bel HB.out HBA.out)
        clear hsb
        go_wp2_with (go_at_call 41; refine HH.out.mono ?_; rintro e w5 ⟨rfl, hw⟩; replace hw := hw.symm; subst hw)
        go_roundw
        case rel => exact ⟨j + 1, by go_num, HJ.out, by rw [HN2.out]; exact HOA, HBB⟩
        case measure => have := HJ.out; simp [intOf]; omega
      · rw [hsb] at HH
        have HN2 : Hid ((ts.take (j + 1)).filter (Lk.startB ps) = (ts.take j).filter (Lk.startB ps) ++ [x]) := by
          show _ = _
          rw [HN.out, hsb, if_pos rfl]
        have HOA := hideT (OwnsTexts13.below HO.out HBA.out)
        have HBB := hideT (bel HB.out HBA.out)
        clear hsb
        go_upto_region 7 with (go_at_call 41; refine HH.out.mono ?_; rintro e w5 ⟨rfl, hw⟩; replace hw := hw.symm; subst hw)
        have HSZ := hideT HBB.out.size
        have HXS := hideT HBA.out.size
        clear HH HBA
        generalize (X.alloc (.cells #[.string (str x)] 9)) = XA at *
        generalize X.heap.size = xg at *
        go_wp2_with (at_builtin; refine wpList_append_own _ rfl _ _ 31 rfl w3.heap.size 9 i0 (.string ByteArray.empty) 1 16 Try.underlying31 hi0 hz0 hz1 hz2 rfl (by decide) _ _ _ rfl (World.ownsRow.alloc HOA.out _) ⟨XA.heap.size, 0, none⟩ 1 1 [.string (str x)] rfl rfl (cell_one_new _ _ _) (fun y hy => by simp at hy; subst hy; rfl) (by unfold maxLen; omega) (by omega) (by have := HSZ.out; simp; omega) ?_; intro v6 w6 hown6 hgrow6 hnil6)
        have HB6 : Hid (Below w3.heap.size w3 w6) := (HBB.out.alloc HBB.out.size (.cells #[.string (str x)] 9)).grown hgrow6 (by have := HSZ.out; simp; omega) (fun k e => (World.ownsRow.lt HOA.out k e).1)
        have HO6 : Hid (OwnsTexts w6 w3.heap.size v6 ((ts.take (j + 1)).filter (Lk.startB ps))) := OwnsTexts.of HN2.out rfl hown6
        clear hown6 hgrow6 hnil6
        go_roundw
        case rel => exact ⟨j + 1, by go_num, HJ.out, HO6, HB6⟩
        case measure => have := HJ.out; simp [intOf]; omega
    · have hje : j = ts.length := by omega
      have HR : Hid ((ts.take j).filter (Lk.startB ps) = startsR14 ns at_ ps) := by
        show _ = _
        rw [hje, List.take_length, HX.out]
      have HBX := hideT (bel HB3.out HB.out)
      have hsz := HB3.out.size
      clear hje
      go_wp2
      go_ret
      exact ⟨_, rfl, by rw [← HR.out]; exact OwnsTexts13.mono HO.out hsz, HBX.out⟩
end Go.Proofs.Ytoiedadfpbbdgaa
