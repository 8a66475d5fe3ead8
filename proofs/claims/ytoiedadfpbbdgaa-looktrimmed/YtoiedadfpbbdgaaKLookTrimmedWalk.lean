/- The walk of the law LookTrimmed, out of the contracts. -/
import Derived.Test.YtoiedadfpbbdgaaKLkT
import Derived.Test.YtoiedadfpbbdgaaKLkTm
import Derived.Test.YtoiedadfpbbdgaaKArgDoc
set_option linter.unusedVariables false
set_option linter.unusedSimpArgs false
namespace Go.Proofs.Ytoiedadfpbbdgaa.lookTrimmed
open Go.RowKit
theorem at_first (l : List UInt8) (m : Nat) (h : l.length = m + 1) (hb : ∀ c, l.head? = some c → Asc.isBlank c = false) (hz : 0 < (str l).size) : Asc.isBlank ((str l)[0]'hz) = false := by
  cases l with
  | nil => cases h
  | cons c t => exact hb c rfl
theorem at_last (l : List UInt8) (m : Nat) (h : l.length = m + 1) (hb : ∀ c, l.getLast? = some c → Asc.isBlank c = false) (hz : m < (str l).size) : Asc.isBlank ((str l)[m]'hz) = false := by
  have hm : m < l.length := by omega
  have e : ((str l)[m]'hz) = l[m] := by
    show (str l).data[m] = _
    simp [str]
  rw [e]
  refine hb _ ?_
  rw [List.getLast?_eq_getElem?, h, Nat.add_sub_cancel, List.getElem?_eq_getElem hm]
set_option maxHeartbeats 8000000 in
set_option maxRecDepth 100000 in
theorem walk (na : List Nd) (va : Value) (at_ : Int) (w : World) (h1 : ArgDoc w va na) (h2 : (Lit.int .i64 at_).wf = true) :
    Calls Try.prog 7 #[va, .int .i64 at_] w fun e w' => e = .returned (.bool true) ∧ Below w.heap.size w w' := by
  clear h2
  obtain ⟨aa, ac, rfl, hra, hla, hfa⟩ := h1
  have hb0 : Below w.heap.size w (w.alloc (.cells #[.slice aa na.length ac] 24)) := (Below.refl _ _).alloc (Nat.le_refl _) _
  have cc0 := doc_cell (heap_new w (.cells #[.slice aa na.length ac] 24))
  have lc := cell_lt cc0
  have HB0 := hideT hb0
  have FA := hideT (far14_any na _ _ (hra.below hb0) hla)
  generalize hfA : Lk.farL 3000 200 na = fa at *
  cases fa with
  | true =>
    clear hfA hra hla hfa hb0 lc
    go_enter Try.func7, Try.ntmps7
    go_wp2_with (first
      | (go_at_call 8; refine FA.out.mono ?_; rintro e w3 ⟨rfl, hB3⟩; have HB3 := hideT (bel HB0.out hB3); clear hB3)
      | (go_at_call 9; refine (alive14_any _).mono ?_; rintro e w9 ⟨rfl, hB9⟩; have HB9 := hideT (bel HB3.out hB9); clear hB9))
    go_ret
    exact ⟨rfl, HB9.out⟩
  | false =>
    have hf := fair_of hla (by decide) (by decide) (by decide) hfA
    obtain ⟨hk200, _, hat⟩ := Lk.farL_no hfA
    have hnd : ∀ i, i < na.length → Lk.mNd (Tre.ndAt na i) ≤ 15000000000000000 := fun i hi => Lk.mNd_le (Tre.fit_at hfa hi).text (hat i hi) (fun a ha => ((Tre.fit_at hfa hi).each a ha).2)
    have HPl := hideT (fun W (h : Below w.heap.size w W) => Plain14_any na _ at_ W (hra.below h) hf)
    have HMost := hideT (Lk.plain_most na at_)
    have hh := Lk.plain_head na at_
    have hg := Lk.plain_last na at_
    have HND := hideT hnd
    have HAt := hideT hat
    have HRa := hideT hra
    have HEach := hideT (fun i (hi : i < na.length) => (Tre.fit_at hfa hi).each)
    have HTxt := hideT (fun i (hi : i < na.length) => (Tre.fit_at hfa hi).text)
    have hpl : (Lk.plainR na at_).length ≤ 3000000000000000000 := by
      have h1 := HMost.out
      have h2 := Lk.mTo_le na.length (Nat.le_refl _) hnd
      omega
    generalize Lk.plainR na at_ = pl at *
    clear hfA hra hla hfa hb0 hf hnd hat
    have HGo : ∀ W, Hid (Below w.heap.size w W) → Calls Try.prog 9 #[] W fun e w' => e = .returned (.bool true) ∧ Below W.heap.size W w' := fun W _ => alive14_any W
    have hz := str_size pl
    go_enter Try.func7, Try.ntmps7
    go_upto_region 4 with (first
      | (go_at_call 8; refine FA.out.mono ?_; rintro e w3 ⟨rfl, hB3⟩; have HB3 := hideT (bel HB0.out hB3); have cc3 := (hB3.cell (p := ⟨w.heap.size, 0, none⟩) lc).trans cc0; have lc3 := Nat.lt_of_lt_of_le lc hB3.size; clear hB3 cc0)
      | (go_at_call 30; refine (HPl.out _ HB3.out).mono ?_; rintro e w4 ⟨rfl, hB4⟩; have HB4 := hideT (bel HB3.out hB4); have cc4 := (hB4.cell (p := ⟨w.heap.size, 0, none⟩) lc3).trans cc3; have lc4 := Nat.lt_of_lt_of_le lc3 hB4.size; clear hB4 cc3))
    clear FA HPl
    by_cases he : pl = []
    · have h0 : pl.length = 0 := by rw [he]; rfl
      have hne : ((str pl).toList == []) = true := by rw [str_list, he]; rfl
      rw [h0] at hz hpl HMost
      clear hh hg he h0
      generalize str pl = b at *
      go_upto_region 6 with fail
      go_wp2
      go_loopw [6, 35] (fun x i wr => ∃ j N : Nat, x = .int .i64 N ∧ i = .int .i64 j ∧ j ≤ na.length ∧ Hid (N = Lk.mTo na j) ∧ Hid (Below w4.heap.size w4 wr)) (fun _ i _ => na.length - (intOf i).toNat)
      case atStart => exact ⟨0, 0, by go_num, rfl, Nat.zero_le _, rfl, Below.refl _ _⟩
      case round =>
        obtain ⟨j, N, rfl, rfl, hj, HN, HB⟩ := hrel
        have hfl := Lk.mTo_le j hj HND.out
        have hNb : N ≤ 3000000000000000000 := by have := HN.out; omega
        rename World => X
        clear hfl
        by_cases hjl : j < na.length
        · obtain ⟨g, o, xa, xc, ka, kc, rfl, hc, hr⟩ := (HRa.out.below (bel HB4.out HB.out)).at hjl
          have hrng := hideT hr.rng
          have HA := hideT hr.ats
          have HNX := hideT (Lk.mTo_next na j hjl)
          have hq100 := HAt.out j hjl
          have hnj := HND.out j hjl
          have HEa := hideT (HEach.out j hjl)
          have htx := HTxt.out j hjl
          have HJ : Hid (j + 1 ≤ na.length) := hjl
          clear hr
          generalize Tre.ndAt na j = q at *
          obtain ⟨qk, qn, qa, qx, qu, qs⟩ := q
          simp only at hq100 htx HEa
          have sp2 := str_size qx
          have HM0 : Hid (Lk.mNd ⟨qk, qn, qa, qx, qu, qs⟩ = qx.length + 1 + (qa.map Lk.mAt).sum) := rfl
          have hb1 : Below X.heap.size X (X.alloc (.cells #[.int .i64 qk, .string (str qn), .slice xa qa.length xc, .string (str qx), .int .i64 qu, .slice ka qs.length kc] 50)) := (Below.refl _ _).alloc (Nat.le_refl _) _
          have hq1 := heap_new X (.cells #[.int .i64 qk, .string (str qn), .slice xa qa.length xc, .string (str qx), .int .i64 qu, .slice ka qs.length kc] 50)
          have HA1 := hideT (HA.out.below hb1)
          have HB1 := hideT (bel HB.out hb1)
          have n2 := Lib.cell_of_heap hq1 2
          have n3 := Lib.cell_of_heap hq1 3
          have hov1 : ¬ 9223372036854775807 < N + (qx.length + 1) := by omega
          clear hb1 hq1 HA hnj
          go_wp2_with ((with_reducible show wpList _ _ _ ({ op := Op.load 50 _, .. } :: _) _ _); refine wpList_load_N (by rfl) _ rfl g (o + j * 6) rfl _ _ _ _ _ _ hrng.out ?_)
          generalize (X.alloc (.cells #[.int .i64 qk, .string (str qn), .slice xa qa.length xc, .string (str qx), .int .i64 qu, .slice ka qs.length kc] 50)) = X1 at *
          clear n2 n3
          go_loopw [6, 48] (fun x i wr => ∃ k M : Nat, x = .int .i64 M ∧ i = .int .i64 k ∧ k ≤ qa.length ∧ Hid (M = N + (qx.length + 1) + ((qa.take k).map Lk.mAt).sum) ∧ Hid (Below X1.heap.size X1 wr)) (fun _ i _ => qa.length - (intOf i).toNat)
          case atStart => exact ⟨0, N + (qx.length + 1), by go_num, rfl, Nat.zero_le _, by show _ = _; simp, Below.refl _ _⟩
          case round =>
            obtain ⟨k, M, rfl, rfl, hk, HM, HC⟩ := hrel
            have hal := Lk.aSum_le qa k (fun a ha => (HEa.out a ha).2)
            have hMb : M ≤ 4000000000000000000 := by
              have h1 := HM.out
              have h2 : k * 140737488351234 ≤ 100 * 140737488351234 := Nat.mul_le_mul_right _ (by omega)
              omega
            rename World => Y
            clear hal
            by_cases hkm : k < qa.length
            · have hat : qa[k]? = some qa[k] := List.getElem?_eq_getElem hkm
              obtain ⟨b', o', rfl, hc', hbl, z1, z2⟩ := (HA1.out.below HC.out).at hat
              have hsn : ((qa.take (k + 1)).map Lk.mAt).sum = ((qa.take k).map Lk.mAt).sum + Lk.mAt qa[k] := by
                rw [List.take_succ_eq_append_getElem hkm, List.map_append, List.sum_append, List.map_cons, List.map_nil, List.sum_cons, List.sum_nil, Nat.add_zero]
              have hvl := (HEa.out qa[k] (List.getElem_mem hkm)).2
              have hb2 : Below Y.heap.size Y (Y.alloc (.cells #[.string (str qa[k].1), .string (str qa[k].2)] 54)) := (Below.refl _ _).alloc (Nat.le_refl _) _
              have HC1 := hideT (bel HC.out hb2)
              have HM3 : Hid (M + (qa[k].2.length + 2) = N + (qx.length + 1) + ((qa.take (k + 1)).map Lk.mAt).sum) := by
                show _ = _
                rw [hsn, HM.out]
                unfold Lk.mAt
                omega
              clear hat hb2 hsn HM
              generalize qa[k] = p at *
              have sq2 := str_size p.2
              have HK : Hid (k + 1 ≤ qa.length) := hkm
              have hov2 : ¬ 9223372036854775807 < M + (p.2.length + 2) := by omega
              go_wp2
              go_roundw
              case rel => exact ⟨k + 1, M + (p.2.length + 2), by go_num, by go_num, HK.out, HM3, HC1⟩
              case measure => have := HK.out; simp [intOf]; omega
            · have hke : k = qa.length := by omega
              have HM3 : Hid (M = Lk.mTo na (j + 1)) := by
                show _ = _
                rw [HM.out, hke, List.take_length, HNX.out, HM0.out, HN.out]
                omega
              have hnk : ¬ ((k : Int) < (qa.length : Int)) := by omega
              have HBY := hideT (bel HB1.out HC.out)
              clear hke HC HM
              go_wp2
              go_roundw
              case rel => exact ⟨j + 1, M, by go_num, by go_num, HJ.out, HM3, HBY⟩
              case measure => have := HJ.out; simp [intOf]; omega
        · have hje : j = na.length := by omega
          have hle : 0 ≤ N := by
            have h1 := HMost.out
            rw [HN.out, hje]
            omega
          have hleI : ((0 : Nat) : Int) ≤ (N : Int) := by omega
          have hnj : ¬ ((j : Int) < (na.length : Int)) := by omega
          have HBX := hideT (bel HB4.out HB.out)
          clear hje HN HMost
          go_wp2_with (go_at_call 9; refine (alive14_any _).mono ?_; rintro e w9 ⟨rfl, hB9⟩; have HB9 := hideT (bel HBX.out hB9); clear hB9)
          go_ret
          exact ⟨rfl, HB9.out⟩
    · obtain ⟨m, hm⟩ : ∃ m, pl.length = m + 1 := ⟨pl.length - 1, by have := List.length_pos_iff.2 he; omega⟩
      have hz0 : 0 < (str pl).size := by omega
      have hzm : m < (str pl).size := by omega
      have b0 := at_first pl m hm hh hz0
      have bm := at_last pl m hm hg hzm
      have hne : ((str pl).toList == []) = false := by rw [str_list]; exact beq_eq_false_iff_ne.2 he
      rw [hm] at hz hpl
      rw [hm] at HMost
      have hml : m ≤ 3000000000000000000 := by omega
      clear hh hg he
      generalize str pl = b at *
      clear hm
      go_upto_region 6 with (first
        | (go_at_call 31; refine (RIsBlank_any _ _).mono ?_; rintro e w5 ⟨rfl, hw5⟩; rw [hw5]; clear hw5))
      go_wp2
      go_loopw [6, 35] (fun x i wr => ∃ j N : Nat, x = .int .i64 N ∧ i = .int .i64 j ∧ j ≤ na.length ∧ Hid (N = Lk.mTo na j) ∧ Hid (Below w4.heap.size w4 wr)) (fun _ i _ => na.length - (intOf i).toNat)
      case atStart => exact ⟨0, 0, by go_num, rfl, Nat.zero_le _, rfl, Below.refl _ _⟩
      case round =>
        obtain ⟨j, N, rfl, rfl, hj, HN, HB⟩ := hrel
        have hfl := Lk.mTo_le j hj HND.out
        have hNb : N ≤ 3000000000000000000 := by have := HN.out; omega
        rename World => X
        clear hfl
        by_cases hjl : j < na.length
        · obtain ⟨g, o, xa, xc, ka, kc, rfl, hc, hr⟩ := (HRa.out.below (bel HB4.out HB.out)).at hjl
          have hrng := hideT hr.rng
          have HA := hideT hr.ats
          have HNX := hideT (Lk.mTo_next na j hjl)
          have hq100 := HAt.out j hjl
          have hnj := HND.out j hjl
          have HEa := hideT (HEach.out j hjl)
          have htx := HTxt.out j hjl
          have HJ : Hid (j + 1 ≤ na.length) := hjl
          clear hr
          generalize Tre.ndAt na j = q at *
          obtain ⟨qk, qn, qa, qx, qu, qs⟩ := q
          simp only at hq100 htx HEa
          have sp2 := str_size qx
          have HM0 : Hid (Lk.mNd ⟨qk, qn, qa, qx, qu, qs⟩ = qx.length + 1 + (qa.map Lk.mAt).sum) := rfl
          have hb1 : Below X.heap.size X (X.alloc (.cells #[.int .i64 qk, .string (str qn), .slice xa qa.length xc, .string (str qx), .int .i64 qu, .slice ka qs.length kc] 50)) := (Below.refl _ _).alloc (Nat.le_refl _) _
          have hq1 := heap_new X (.cells #[.int .i64 qk, .string (str qn), .slice xa qa.length xc, .string (str qx), .int .i64 qu, .slice ka qs.length kc] 50)
          have HA1 := hideT (HA.out.below hb1)
          have HB1 := hideT (bel HB.out hb1)
          have n2 := Lib.cell_of_heap hq1 2
          have n3 := Lib.cell_of_heap hq1 3
          have hov1 : ¬ 9223372036854775807 < N + (qx.length + 1) := by omega
          clear hb1 hq1 HA hnj
          go_wp2_with ((with_reducible show wpList _ _ _ ({ op := Op.load 50 _, .. } :: _) _ _); refine wpList_load_N (by rfl) _ rfl g (o + j * 6) rfl _ _ _ _ _ _ hrng.out ?_)
          generalize (X.alloc (.cells #[.int .i64 qk, .string (str qn), .slice xa qa.length xc, .string (str qx), .int .i64 qu, .slice ka qs.length kc] 50)) = X1 at *
          clear n2 n3
          go_loopw [6, 48] (fun x i wr => ∃ k M : Nat, x = .int .i64 M ∧ i = .int .i64 k ∧ k ≤ qa.length ∧ Hid (M = N + (qx.length + 1) + ((qa.take k).map Lk.mAt).sum) ∧ Hid (Below X1.heap.size X1 wr)) (fun _ i _ => qa.length - (intOf i).toNat)
          case atStart => exact ⟨0, N + (qx.length + 1), by go_num, rfl, Nat.zero_le _, by show _ = _; simp, Below.refl _ _⟩
          case round =>
            obtain ⟨k, M, rfl, rfl, hk, HM, HC⟩ := hrel
            have hal := Lk.aSum_le qa k (fun a ha => (HEa.out a ha).2)
            have hMb : M ≤ 4000000000000000000 := by
              have h1 := HM.out
              have h2 : k * 140737488351234 ≤ 100 * 140737488351234 := Nat.mul_le_mul_right _ (by omega)
              omega
            rename World => Y
            clear hal
            by_cases hkm : k < qa.length
            · have hat : qa[k]? = some qa[k] := List.getElem?_eq_getElem hkm
              obtain ⟨b', o', rfl, hc', hbl, z1, z2⟩ := (HA1.out.below HC.out).at hat
              have hsn : ((qa.take (k + 1)).map Lk.mAt).sum = ((qa.take k).map Lk.mAt).sum + Lk.mAt qa[k] := by
                rw [List.take_succ_eq_append_getElem hkm, List.map_append, List.sum_append, List.map_cons, List.map_nil, List.sum_cons, List.sum_nil, Nat.add_zero]
              have hvl := (HEa.out qa[k] (List.getElem_mem hkm)).2
              have hb2 : Below Y.heap.size Y (Y.alloc (.cells #[.string (str qa[k].1), .string (str qa[k].2)] 54)) := (Below.refl _ _).alloc (Nat.le_refl _) _
              have HC1 := hideT (bel HC.out hb2)
              have HM3 : Hid (M + (qa[k].2.length + 2) = N + (qx.length + 1) + ((qa.take (k + 1)).map Lk.mAt).sum) := by
                show _ = _
                rw [hsn, HM.out]
                unfold Lk.mAt
                omega
              clear hat hb2 hsn HM
              generalize qa[k] = p at *
              have sq2 := str_size p.2
              have HK : Hid (k + 1 ≤ qa.length) := hkm
              have hov2 : ¬ 9223372036854775807 < M + (p.2.length + 2) := by omega
              go_wp2
              go_roundw
              case rel => exact ⟨k + 1, M + (p.2.length + 2), by go_num, by go_num, HK.out, HM3, HC1⟩
              case measure => have := HK.out; simp [intOf]; omega
            · have hke : k = qa.length := by omega
              have HM3 : Hid (M = Lk.mTo na (j + 1)) := by
                show _ = _
                rw [HM.out, hke, List.take_length, HNX.out, HM0.out, HN.out]
                omega
              have hnk : ¬ ((k : Int) < (qa.length : Int)) := by omega
              have HBY := hideT (bel HB1.out HC.out)
              clear hke HC HM
              go_wp2
              go_roundw
              case rel => exact ⟨j + 1, M, by go_num, by go_num, HJ.out, HM3, HBY⟩
              case measure => have := HJ.out; simp [intOf]; omega
        · have hje : j = na.length := by omega
          have hle : (m + 1) ≤ N := by
            have h1 := HMost.out
            rw [HN.out, hje]
            omega
          have hleI : (((m + 1) : Nat) : Int) ≤ (N : Int) := by omega
          have hnj : ¬ ((j : Int) < (na.length : Int)) := by omega
          have HBX := hideT (bel HB4.out HB.out)
          clear hje HN HMost
          go_wp2_with (go_at_call 9; refine (alive14_any _).mono ?_; rintro e w9 ⟨rfl, hB9⟩; have HB9 := hideT (bel HBX.out hB9); clear hB9)
          go_ret
          exact ⟨rfl, HB9.out⟩
end Go.Proofs.Ytoiedadfpbbdgaa.lookTrimmed
