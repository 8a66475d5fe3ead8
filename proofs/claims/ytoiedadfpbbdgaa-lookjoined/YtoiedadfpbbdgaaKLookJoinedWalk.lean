/- The walk of the law LookJoined, out of the contracts. -/
import Derived.Test.YtoiedadfpbbdgaaKLkT
import Derived.Test.YtoiedadfpbbdgaaKArgDoc
set_option linter.unusedVariables false
set_option linter.unusedSimpArgs false
namespace Go.Proofs.Ytoiedadfpbbdgaa
open Go.RowKit
theorem hid3_vals : hid3.map strV = [.string ⟨#[115, 99, 114, 105, 112, 116]⟩, .string ⟨#[115, 116, 121, 108, 101]⟩, .string ⟨#[116, 101, 109, 112, 108, 97, 116, 101]⟩] := rfl
theorem text_kid {ns : List Nd} (hm : Tre.mayB ns = true) {i k : Nat} (hk : k < ns.length) (h0 : k ≠ 0) (hu : (Tre.ndAt ns k).up = (i : Int)) :
    Lk.kidT ns false k = if (Tre.ndAt ns k).kind = 3 ∧ Lk.hidN (Tre.ndAt ns i).name = true then [] else Lk.textR ns (k : Int) := by
  have hp := Lk.place_at hk hm
  have e : Lk.textR ns (k : Int) = Lk.toldT ns false k := by unfold Lk.textR; rw [if_pos hp, Int.toNat_natCast]
  rw [e]
  unfold Lk.toldT
  by_cases h3 : (Tre.ndAt ns k).kind = 3
  · rw [Lk.kid_text hm false hk h3, hu, Int.toNat_natCast, if_pos h3]
    by_cases hh : Lk.hidN (Tre.ndAt ns i).name = true
    · rw [if_pos hh, if_pos ⟨h3, hh⟩]
    · rw [if_neg hh, if_neg (fun h => hh h.2)]
  · rw [Lk.kid_elem hm false hk h3, if_neg (by simp), List.nil_append, if_neg h3, if_neg (fun h => h3 h.1)]
end Go.Proofs.Ytoiedadfpbbdgaa
namespace Go.Proofs.Ytoiedadfpbbdgaa.lookJoined
open Go.RowKit
set_option maxHeartbeats 8000000 in
set_option maxRecDepth 100000 in
theorem walk (na : List Nd) (va : Value) (at_ : Int) (w : World) (h1 : ArgDoc w va na) (h2 : (Lit.int .i64 at_).wf = true) :
    Calls Try.prog 6 #[va, .int .i64 at_] w fun e w' => e = .returned (.bool true) ∧ Below w.heap.size w w' := by
  clear h2
  obtain ⟨aa, ac, rfl, hra, hla, hfa⟩ := h1
  have hb0 : Below w.heap.size w (w.alloc (.cells #[.slice aa na.length ac] 24)) := (Below.refl _ _).alloc (Nat.le_refl _) _
  have cc0 := doc_cell (heap_new w (.cells #[.slice aa na.length ac] 24))
  have lc := cell_lt cc0
  have HB0 := hideT hb0
  have FA := hideT (far14_any na _ _ (hra.below hb0) hla)
  generalize hfA : Lk.farL 3000 200 na = fa at *
  cases fa with
  | true =>
    clear hfA hra hla hfa hb0 lc
    go_enter Try.func6, Try.ntmps6
    go_wp2_with (first
      | (go_at_call 8; refine FA.out.mono ?_; rintro e w3 ⟨rfl, hB3⟩; have HB3 := hideT (bel HB0.out hB3); clear hB3)
      | (go_at_call 9; refine (alive14_any _).mono ?_; rintro e w9 ⟨rfl, hB9⟩; have HB9 := hideT (bel HB3.out hB9); clear hB9))
    go_ret
    exact ⟨rfl, HB9.out⟩
  | false =>
    have hf := fair_of hla (by decide) (by decide) (by decide) hfA
    have HIs := hideT (fun W (h : Below w.heap.size w W) => RIs14_any na _ at_ W (hra.below h) hf (fun _ i hi => (Tre.fit_at hfa hi).kids))
    cases hp : Lk.placeB na at_
    · rw [hp] at HIs
      clear hfA hra hla hfa hb0 hf hp
      go_enter Try.func6, Try.ntmps6
      go_wp2_with (first
        | (go_at_call 8; refine FA.out.mono ?_; rintro e w3 ⟨rfl, hB3⟩; have HB3 := hideT (bel HB0.out hB3); have cc3 := (hB3.cell (p := ⟨w.heap.size, 0, none⟩) lc).trans cc0; clear hB3 cc0)
        | (go_at_call 28; refine (HIs.out _ HB3.out).mono ?_; rintro e w4 ⟨rfl, hB4⟩; have HB4 := hideT (bel HB3.out hB4); clear hB4 cc3)
        | (go_at_call 9; refine (alive14_any _).mono ?_; rintro e w9 ⟨rfl, hB9⟩; have HB9 := hideT (bel HB4.out hB9); clear hB9))
      go_ret
      exact ⟨rfl, HB9.out⟩
    · obtain ⟨i, rfl, hi, hm⟩ := Lk.place_yes hp
      rw [hp] at HIs
      have hn4 := hf.few hm
      have hin : (i : Int) < (na.length : Int) := by omega
      obtain ⟨g, o, rfl, hcc, hgl, hall⟩ := hra.spot (by omega)
      have HAll := hideT hall
      have HTx := hideT (fun W (h : Below w.heap.size w W) (at2 : Int) => Text14_any na _ at2 W (hra.below h) hf)
      have hlen := toldR14_len hf false (i : Int)
      have hTR : Lk.textR na (i : Int) = toldR14 na false (i : Int) := rfl
      obtain ⟨xa, xc, xk, xd, hr⟩ := hall i hi
      have HR := hideT hr
      by_cases hk3 : (Tre.ndAt na i).kind = 3
      · clear hfA hra hla hfa hb0 hf hp hm hr hall HTx HAll hlen hTR
        generalize Tre.ndAt na i = q at *
        obtain ⟨qk, qn, qa, qx, qu, qs⟩ := q
        simp only at hk3
        subst hk3
        go_enter Try.func6, Try.ntmps6
        go_wp2_with (first
          | (go_at_call 8; refine FA.out.mono ?_; rintro e w3 ⟨rfl, hB3⟩; have HB3 := hideT (bel HB0.out hB3); have cc3 := (hB3.cell (p := ⟨w.heap.size, 0, none⟩) lc).trans cc0; have lc3 := Nat.lt_of_lt_of_le lc hB3.size; clear hB3 cc0)
          | (go_at_call 28; refine (HIs.out _ HB3.out).mono ?_; rintro e w4 ⟨rfl, hB4⟩; have HB4 := hideT (bel HB3.out hB4); have cc4 := (hB4.cell (p := ⟨w.heap.size, 0, none⟩) lc3).trans cc3; have c04 := (HR.out.below HB4.out).c0; clear hB4 cc3)
          | (go_at_call 9; refine (alive14_any _).mono ?_; rintro e w9 ⟨rfl, hB9⟩; have HB9 := hideT (bel HB4.out hB9); clear hB9))
        go_ret
        exact ⟨rfl, HB9.out⟩
      · have q3 : ((Tre.ndAt na i).kind == (3 : Int)) = false := beq_eq_false_iff_ne.2 hk3
        have hJ : Lk.textR na (i : Int) = Lk.joinT na false i := by
          unfold Lk.textR Lk.toldT
          rw [if_pos hp, Int.toNat_natCast, if_neg hk3]
        rw [← hTR, hJ] at hlen
        have HJoin := hideT hJ
        have HJE : Hid (Lk.joinT na false i = (Tre.ndAt na i).kids.flatMap fun k => Lk.kidT na false k.toNat) := rfl
        have HMem := hideT (fun k hk => Tre.may_kid hm hi (k := k) hk)
        have HKid := hideT (fun k (hk : k < na.length) (h0 : k ≠ 0) hu => text_kid (i := i) hm hk h0 hu)
        have HHid := hideT (hid3_con (Tre.ndAt na i).name)
        have hkl : (Tre.ndAt na i).kids.length ≤ 1000 := by
          rw [Tre.may_kids hm hi]
          exact Nat.le_trans (Tre.kidsTo_le na i _) hn4
        have hjl : ((Tre.ndAt na i).kids.flatMap fun k => Lk.kidT na false k.toNat).length ≤ 200000000 := hlen
        clear hfA hra hla hfa hb0 hf hp hm hr hall hlen hTR hJ hk3
        obtain ⟨nd, hnd⟩ : ∃ nd, Tre.ndAt na i = nd := ⟨_, rfl⟩
        rw [hnd] at HR q3 HJE HMem HKid HHid hkl hjl
        obtain ⟨kd, hkd⟩ : ∃ kd, nd.kind = kd := ⟨_, rfl⟩
        rw [hkd] at q3
        obtain ⟨hd, hdd⟩ : ∃ hd, Lk.hidN nd.name = hd := ⟨_, rfl⟩
        have hhas := fun W v (h : ReadsTexts W v hid3) => RHas13_any hid3 v nd.name W h (by decide)
        rw [HHid.out, hdd] at hhas
        rw [hdd] at HKid
        have HHas := hideT hhas
        clear hnd hhas hdd
        go_enter Try.func6, Try.ntmps6
        go_upto_region 3 with (first
          | (go_at_call 8; refine FA.out.mono ?_; rintro e w3 ⟨rfl, hB3⟩; have HB3 := hideT (bel HB0.out hB3); have cc3 := (hB3.cell (p := ⟨w.heap.size, 0, none⟩) lc).trans cc0; have lc3 := Nat.lt_of_lt_of_le lc hB3.size; clear hB3 cc0)
          | (go_at_call 28; refine (HIs.out _ HB3.out).mono ?_; rintro e w4 ⟨rfl, hB4⟩; have HB4 := hideT (bel HB3.out hB4); have cc4 := (hB4.cell (p := ⟨w.heap.size, 0, none⟩) lc3).trans cc3; have lc4 := Nat.lt_of_lt_of_le lc3 hB4.size; have c04 := (HR.out.below HB4.out).c0; rw [hkd] at c04; clear hB4 cc3))
        have hbL : Below w4.heap.size w4 (w4.alloc (.cells (hid3.map strV).toArray 9)) := (Below.refl _ _).alloc (Nat.le_refl _) _
        have HBL := hideT (bel HB4.out hbL)
        have HLit := hideT ((own_lit w4 hid3 (by decide)).reads)
        have c5 := (HR.out.below HBL.out).c5
        have c1 := (HR.out.below HBL.out).c1
        have ccL := (hbL.cell (p := ⟨w.heap.size, 0, none⟩) lc4).trans cc4
        have lcL := Nat.lt_of_lt_of_le lc4 hbL.size
        have HKD := hideT (HR.out.below HBL.out).kds
        rw [hid3_vals] at HLit HBL ccL lcL c5 c1 HKD
        clear hbL cc4 c04 HR
        go_upto_region 5 with (go_at_call 16; refine (HHas.out _ _ HLit.out).mono ?_; rintro e w5 ⟨rfl, hw5⟩; replace hw5 := hw5.symm; subst hw5)
        generalize hWL : (w4.alloc (.cells [.string ⟨#[115, 99, 114, 105, 112, 116]⟩, .string ⟨#[115, 116, 121, 108, 101]⟩, .string ⟨#[116, 101, 109, 112, 108, 97, 116, 101]⟩].toArray 9)) = WL at *
        clear hWL c1
        go_wp2
        go_loopw [6, 42] (fun s j wr => ∃ n : Nat, s = .string (str ((nd.kids.take n).flatMap fun k => Lk.kidT na false k.toNat)) ∧ j = .int .i64 n ∧ n ≤ nd.kids.length ∧ Hid (Below WL.heap.size WL wr)) (fun _ j _ => nd.kids.length - (intOf j).toNat)
        case atStart => exact ⟨0, rfl, rfl, Nat.zero_le _, Below.refl _ _⟩
        case round =>
          obtain ⟨n, rfl, rfl, hn, HB⟩ := hrel
          rename World => X
          have ccX := (HB.out.cell (p := ⟨w.heap.size, 0, none⟩) lcL).trans ccL
          by_cases hnl : n < nd.kids.length
          · obtain ⟨kb, ko, rfl, hkc, hkb, hcell⟩ := (HKD.out.below HB.out).at (List.getElem?_eq_getElem hnl)
            obtain ⟨k, hk, hik, hkn, hku⟩ := HMem.out nd.kids[n] (List.getElem_mem hnl)
            have HN := hideT (flat_take14 nd.kids (fun k => Lk.kidT na false k.toNat) n hnl)
            have hle := flat_le14 nd.kids (fun k => Lk.kidT na false k.toNat) (n + 1)
            rw [HN.out, List.length_append] at hle
            rw [hk] at hcell HN hle
            simp only [Int.toNat_natCast] at HN hle
            have HTK := hideT (HKid.out k hkn (by omega) hku)
            obtain ⟨ya, yc, yk, yd, hrk⟩ := HAll.out k hkn
            have c0 := (hrk.below (bel HBL.out HB.out)).c0
            have HTe := hideT (fun W (h : Below w.heap.size w W) => HTx.out W h (k : Int))
            have HJ : Hid (n + 1 ≤ nd.kids.length) := hnl
            have hkI : (k : Int) < (na.length : Int) := by omega
            clear hk hku hkb hrk
            generalize hS : ((nd.kids.take n).flatMap fun k => Lk.kidT na false k.toNat) = S0 at *
            clear hS
            generalize Lk.kidT na false k = tk at *
            generalize (Tre.ndAt na k).kind = kk at *
            generalize Lk.textR na (k : Int) = tx at *
            by_cases hsk : kk = 3 ∧ hd = true
            · obtain ⟨rfl, rfl⟩ := hsk
              have HT0 : Hid (tk = []) := by
                show _ = _
                rw [HTK.out]
                simp
              clear HTK
              go_wp2
              go_roundw
              case rel => exact ⟨n + 1, by rw [HN.out, HT0.out, List.append_nil], by go_num, HJ.out, HB⟩
              case measure => have := HJ.out; simp [intOf]; omega
            · have hT0 : tk = tx := by
                rw [HTK.out, if_neg hsk]
              subst hT0
              have hcat : str S0 ++ str tk = str (S0 ++ tk) := cat14 S0 tk
              have s1 := str_size S0
              have s2 := str_size tk
              have hov : ¬ 9223372036854775807 < S0.length + tk.length := by omega
              have ccD := ccX
              cases hd
              · clear HTK hsk hle
                cases hq3 : (kk == (3 : Int))
                · have hq4 : (kk != (3 : Int)) = true := by simpa using hq3
                  clear hq3
                  go_wp2_with (go_at_call 29; refine (HTe.out _ (bel HBL.out HB.out)).mono ?_; rintro e w6 ⟨rfl, hb6⟩; have HB6 := hideT (bel HB.out hb6); clear hb6)
                  go_roundw
                  case rel => exact ⟨n + 1, by rw [HN.out], by go_num, HJ.out, HB6⟩
                  case measure => have := HJ.out; simp [intOf]; omega
                · have hq4 : kk = 3 := by simpa using hq3
                  subst hq4
                  clear hq3
                  go_wp2_with (go_at_call 29; refine (HTe.out _ (bel HBL.out HB.out)).mono ?_; rintro e w6 ⟨rfl, hb6⟩; have HB6 := hideT (bel HB.out hb6); clear hb6)
                  go_roundw
                  case rel => exact ⟨n + 1, by rw [HN.out], by go_num, HJ.out, HB6⟩
                  case measure => have := HJ.out; simp [intOf]; omega
              · have hq : kk ≠ 3 := fun e => hsk ⟨e, rfl⟩
                have hq4 : (kk != (3 : Int)) = true := by simpa using hq
                clear HTK hsk hle hq
                go_wp2_with (go_at_call 29; refine (HTe.out _ (bel HBL.out HB.out)).mono ?_; rintro e w6 ⟨rfl, hb6⟩; have HB6 := hideT (bel HB.out hb6); clear hb6)
                go_roundw
                case rel => exact ⟨n + 1, by rw [HN.out], by go_num, HJ.out, HB6⟩
                case measure => have := HJ.out; simp [intOf]; omega
          · have hne : n = nd.kids.length := by omega
            have hq : ((str (Lk.textR na (i : Int))).toList == (str ((nd.kids.take n).flatMap fun k => Lk.kidT na false k.toNat)).toList) = true := by
              rw [hne, List.take_length, ← HJE.out, ← HJoin.out]
              exact beq_self_eq_true _
            have HTe := hideT (HTx.out X (bel HBL.out HB.out) (i : Int))
            have HBX := hideT (bel HBL.out HB.out)
            clear hne HKD HMem HKid HTx
            go_wp2_with (first
              | (go_at_call 29; refine HTe.out.mono ?_; rintro e w6 ⟨rfl, hb6⟩; have HB6 := hideT (bel HBX.out hb6); clear hb6)
              | (go_at_call 9; refine (alive14_any _).mono ?_; rintro e w9 ⟨rfl, hB9⟩; have HB9 := hideT (bel HB6.out hB9); clear hB9))
            go_ret
            exact ⟨rfl, HB9.out⟩
end Go.Proofs.Ytoiedadfpbbdgaa.lookJoined
