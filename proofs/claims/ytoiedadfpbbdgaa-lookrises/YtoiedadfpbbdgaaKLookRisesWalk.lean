/- The walk of the law LookRises, out of the contracts (written by tools/mklkri.py). -/
import Derived.Test.YtoiedadfpbbdgaaKLkT
import Derived.Test.YtoiedadfpbbdgaaKLkR
import Derived.Test.YtoiedadfpbbdgaaKLkRs
import Derived.Test.YtoiedadfpbbdgaaKLkIm
import Derived.Test.YtoiedadfpbbdgaaKArgDoc
set_option linter.unusedVariables false
set_option linter.unusedSimpArgs false
namespace Go.Proofs.Ytoiedadfpbbdgaa.lookRises
open Go.RowKit
theorem wpList_insert14 {P : Program} {ops : Array Oper} {rest : List Oper} {o : Oper} {a : Act} {w w' : World} {Q : Exit → Act → World → Prop}
    (hg : o.guard = none) (m x v : Operand) (t : TypeId) (hop : o.op = Op.insert t m x v) (mv kv xv : Value) (hm : a.eval m = mv) (hx : a.eval x = kv) (hv : a.eval v = xv)
    (hrun : (Instr.mapUpdate t mv kv xv).run P w = .ok () w') (h : wpList P ops Q rest (a.put o.dst undef) w') : wpList P ops Q (o :: rest) a w := by
  refine wpList_plain hg fun K' hK' => ?_
  unfold Oper.wp
  simp [execOp, hop, hm, hx, hv, hrun, Result.andThen]
  exact hK' _ _ h
set_option maxHeartbeats 8000000 in
set_option maxRecDepth 100000 in
theorem walk (na : List Nd) (va : Value) (at_ : Int) (w : World) (h1 : ArgDoc w va na) (h2 : (Lit.int .i64 at_).wf = true) :
    Calls Try.prog 5 #[va, .int .i64 at_] w fun e w' => e = .returned (.bool true) ∧ Below w.heap.size w w' := by
  have hmm := @run_makeMap Try.prog
  obtain ⟨aa, ac, rfl, hra, hla, hfa⟩ := h1
  have hb0 : Below w.heap.size w (w.alloc (.cells #[.slice aa na.length ac] 24)) := (Below.refl _ _).alloc (Nat.le_refl _) _
  have cc0 := doc_cell (heap_new w (.cells #[.slice aa na.length ac] 24))
  have lc := cell_lt cc0
  have HB0 := hideT hb0
  have FA := hideT (far14_any na _ _ (hra.below hb0) hla)
  generalize hfA : Lk.farL 3000 200 na = fa at *
  cases fa with
  | true =>
    clear hfA hra hla hfa hb0 lc hmm h2
    go_enter Try.func5, Try.ntmps5
    go_wp2_with (first
      | (go_at_call 8; refine FA.out.mono ?_; rintro e w3 ⟨rfl, hB3⟩; have HB3 := hideT (bel HB0.out hB3); clear hB3)
      | (go_at_call 9; refine (alive14_any _).mono ?_; rintro e w9 ⟨rfl, hB9⟩; have HB9 := hideT (bel HB3.out hB9); clear hB9))
    go_ret
    exact ⟨rfl, HB9.out⟩
  | false =>
    have hf := fair_of hla (by decide) (by decide) (by decide) hfA
    have HIs := hideT (fun W (h : Below w.heap.size w W) => RIs14_any na _ at_ W (hra.below h) hf (fun _ i hi => (Tre.fit_at hfa hi).kids))
    have HBe := hideT (fun W (h : Below w.heap.size w W) => Below14_any na _ at_ W (hra.below h) hf)
    have HKi := hideT (fun W (h : Below w.heap.size w W) => Kids14_any na _ at_ W (hra.below h) hf)
    cases hp : Lk.placeB na at_
    · have hX : belowR14 na at_ = [] := by unfold belowR14; rw [hp]; rfl
      rw [hp] at HIs
      rw [hX] at HBe
      clear hfA hra hla hfa hb0 hf hp hmm hX h2 HKi
      go_enter Try.func5, Try.ntmps5
      go_wp2_with (first
        | (go_at_call 8; refine FA.out.mono ?_; rintro e w3 ⟨rfl, hB3⟩; have HB3 := hideT (bel HB0.out hB3); have cc3 := (hB3.cell (p := ⟨w.heap.size, 0, none⟩) lc).trans cc0; have lc3 := Nat.lt_of_lt_of_le lc hB3.size; clear hB3 cc0)
        | (go_at_call 20; refine (HBe.out _ HB3.out).mono ?_; rintro e w4 ⟨x4, rfl, hO4, hB4⟩; obtain ⟨xa4, xc4, rfl⟩ := (OwnsI.reads hO4).form; have HB4 := hideT (bel HB3.out hB4); have cc4 := (hB4.cell (p := ⟨w.heap.size, 0, none⟩) lc3).trans cc3; clear hB4 cc3 hO4)
        | (go_at_call 28; refine (HIs.out _ HB4.out).mono ?_; rintro e w5 ⟨rfl, hB5⟩; have HB5 := hideT (bel HB4.out hB5); clear hB5 cc4)
        | (go_at_call 9; refine (alive14_any _).mono ?_; rintro e w9 ⟨rfl, hB9⟩; have HB9 := hideT (bel HB5.out hB9); clear hB9))
      go_ret
      exact ⟨rfl, HB9.out⟩
    · obtain ⟨i, rfl, hi, hm⟩ := Lk.place_yes hp
      have hn4 := hf.few hm
      have hX : belowR14 na (i : Int) = Lk.belowL na i := by unfold belowR14; rw [hp, if_pos rfl, Int.toNat_natCast]
      have hY : kidsR14 na (i : Int) = Lk.kidsE na i := by unfold kidsR14; rw [hp, if_pos rfl, Int.toNat_natCast]
      rw [hp] at HIs
      rw [hX] at HBe
      rw [hY] at HKi
      have hbl : (Lk.belowL na i).length ≤ 1000 := Nat.le_trans (Lk.belowTo_len na i na.length) hn4
      have hkl := Nat.le_trans (kidsE_len hm hi) hn4
      obtain ⟨g, o, rfl, hcc, hgl, hall⟩ := hra.spot (by omega)
      have HAll := hideT hall
      have HMay := hideT hm
      have HUp := hideT (fun j (hj : j < na.length) => (Tre.fit_at hfa hj).u1)
      have HUp2 := hideT (fun j (hj : j < na.length) => (Tre.fit_at hfa hj).u2)
      have hwi := h2
      clear hfA hra hla hfa hb0 hf hp hX hY h2 hall
      go_enter Try.func5, Try.ntmps5
      go_upto_region 6 with (first
        | (go_at_call 8; refine FA.out.mono ?_; rintro e w3 ⟨rfl, hB3⟩; have HB3 := hideT (bel HB0.out hB3); have cc3 := (hB3.cell (p := ⟨w.heap.size, 0, none⟩) lc).trans cc0; have lc3 := Nat.lt_of_lt_of_le lc hB3.size; clear hB3 cc0)
        | (go_at_call 20; refine (HBe.out _ HB3.out).mono ?_; rintro e w4 ⟨x4, rfl, hO4, hB4⟩; obtain ⟨xa4, xc4, rfl⟩ := (OwnsI.reads hO4).form; have HB4 := hideT (bel HB3.out hB4); have HO4 := hideT (OwnsI.reads hO4); have cc4 := (hB4.cell (p := ⟨w.heap.size, 0, none⟩) lc3).trans cc3; have lc4 := Nat.lt_of_lt_of_le lc3 hB4.size; clear hB4 cc3 hO4)
        | (go_at_call 28; refine (HIs.out _ HB4.out).mono ?_; rintro e w5 ⟨rfl, hB5⟩; have HB5 := hideT (bel HB4.out hB5); have HO5 := hideT (HO4.out.below hB5); have cc5 := (hB5.cell (p := ⟨w.heap.size, 0, none⟩) lc4).trans cc4; have lc5 := Nat.lt_of_lt_of_le lc4 hB5.size; clear hB5 cc4))
      clear HBe HIs FA lc lc3 lc4 HB3 HB4 HO4
      have HM0 := hideT (InAt.made w5)
      have hb6 : Below w5.heap.size w5 (w5.alloc (.map #[] 0)) := (Below.refl _ _).alloc (Nat.le_refl _) _
      obtain ⟨w7, hrun7, hI7, hg7⟩ := HM0.out.put (by decide) (i : Int) hwi
      have hb7 : Below w5.heap.size w5 w7 := hb6.grown hg7 (by simp) (fun k e => by cases e; exact Nat.le_refl _)
      have HI7 : Hid (InAt w5.heap.size 1 (Lk.inF na i 0) w7) := hI7.as (fun k => (Lk.inF_start na i k).symm)
      have HB7 := hideT hb7
      have hgm : w.heap.size < w5.heap.size := lc5
      clear hb6 hI7 hg7 hb7 HM0
      go_upto_region 8 with ((with_reducible show wpList _ _ _ ({ op := Op.insert _ _ _ _, .. } :: _) _ _); refine wpList_insert14 rfl _ _ _ _ rfl _ _ _ rfl rfl rfl hrun7 ?_)
      obtain ⟨gm, hgmm⟩ : ∃ gm, w5.heap.size = gm := ⟨_, rfl⟩
      have HGM := hideT hgmm
      rw [hgmm] at HI7 HB7 hgm ⊢
      have cc7 := (HB7.out.cell (p := ⟨w.heap.size, 0, none⟩) hgm).trans cc5
      clear hrun7 hgmm
      go_wp2
      go_loopw [7, 35] (fun t s wr => ∃ j : Nat, s = .int .i64 j ∧ t = .int .i64 (Lk.lastF na i j) ∧ j ≤ (Lk.belowL na i).length ∧ Hid (InAt gm (j + 1) (Lk.inF na i j) wr) ∧ Hid (Below gm w5 wr)) (fun _ s _ => (Lk.belowL na i).length - (intOf s).toNat)
      case atStart => exact ⟨0, by go_num, rfl, Nat.zero_le _, HI7, HB7⟩
      case round =>
        obtain ⟨j, rfl, rfl, hj, HIM, HB⟩ := hrel
        rename World => X
        have ccX := (HB.out.cell (p := ⟨w.heap.size, 0, none⟩) hgm).trans cc5
        have hB5 : Below w5.heap.size w5 X := by rw [HGM.out]; exact HB.out
        by_cases hjl : j < (Lk.belowL na i).length
        · obtain ⟨x, hx, hxn, hxt, hxk, hxu⟩ := Lk.below_at hjl
          obtain ⟨kb, ko, rfl, hkc, hkb, hcell⟩ := (HO5.out.below hB5).at (List.getElem?_eq_getElem hjl)
          have hlast := Lk.lastF_lt hjl
          have hnext := Lk.lastF_next hjl
          have hup := Lk.inF_up HMay.out hjl
          have hstep := Lk.inF_step na i j hjl
          rw [hx] at hcell hlast hnext hup hstep
          rw [Int.toNat_natCast] at hup
          obtain ⟨ya, yc, yk, yd, hr⟩ := HAll.out x hxn
          have hrX := hr.below (bel HB5.out hB5)
          have c0 := hrX.c0
          have c4 := hrX.c4
          rw [hxk] at c0
          have hwu := wf_i64 (HUp.out x hxn) (HUp2.out x hxn)
          have hwx := wf_i64 (k := (x : Int)) (by omega) (by omega)
          have hlk := HIM.out.look _ hwu
          rw [hup] at hlk
          obtain ⟨w8, hrun8, hI8, hg8⟩ := HIM.out.put (by omega) (x : Int) hwx
          have HI8 : Hid (InAt gm (j + 1 + 1) (Lk.inF na i (j + 1)) w8) := hI8.as (fun k => (hstep k).symm)
          have HB8 : Hid (Below gm w5 w8) := HB.out.grown hg8 (by have := HIM.out.lt; omega) (fun k e => by cases e; exact Nat.le_refl _)
          have HN := hideT hnext
          have HJ : Hid (j + 1 ≤ (Lk.belowL na i).length) := hjl
          clear hstep hnext hup hI8 hg8 hr hrX hwu hwx hx hxk hxu hkb hB5
          generalize Lk.lastF na i j = lt at *
          generalize (Tre.ndAt na x).up = up at *
          have hxI : ¬ ((x : Int) ≤ lt) := by omega
          have hxI2 : ¬ ((na.length : Int) ≤ (x : Int)) := by omega
          go_wp2
          go_roundw
          case rel => exact ⟨j + 1, by go_num, by rw [HN.out], HJ.out, HI8, HB8⟩
          case measure => have := HJ.out; simp [intOf]; omega
        · have hje : j = (Lk.belowL na i).length := by omega
          have HIL : Hid (InAt gm ((Lk.belowL na i).length + 1) (Lk.inF na i (Lk.belowL na i).length) X) := by
            have h := HIM.out
            rw [hje] at h
            exact h
          have HBX := HB
          clear HIM HB hje hB5 HI7 HB7 cc7
          go_wp2
          go_loopw [76] (fun s wr => ∃ j : Nat, s = .int .i64 j ∧ j ≤ na.length ∧ Hid (InAt gm ((Lk.belowL na i).length + 1) (Lk.inF na i (Lk.belowL na i).length) wr) ∧ Hid (Below gm w5 wr)) (fun s _ => na.length - (intOf s).toNat)
          case atStart => exact ⟨0, by go_num, Nat.zero_le _, HIL, HBX⟩
          case round =>
            obtain ⟨j, rfl, hj, HIM, HB⟩ := hrel
            rename World => Y
            have ccX := (HB.out.cell (p := ⟨w.heap.size, 0, none⟩) hgm).trans cc5
            have hB5 : Below w5.heap.size w5 Y := by rw [HGM.out]; exact HB.out
            by_cases hjl : j < na.length
            · obtain ⟨ya, yc, yk, yd, hr⟩ := HAll.out j hjl
              have hrX := hr.below (bel HB5.out hB5)
              have c0 := hrX.c0
              have c4 := hrX.c4
              have hwu := wf_i64 (HUp.out j hjl) (HUp2.out j hjl)
              have hwj := wf_i64 (k := (j : Int)) (by omega) (by omega)
              have hfa := fun ht hk => Lk.inF_all HMay.out hjl ht hk (top := i)
              have HJ : Hid (j + 1 ≤ na.length) := hjl
              clear hr hrX hB5
              generalize (Tre.ndAt na j).up = up at *
              generalize (Tre.ndAt na j).kind = kd at *
              go_upto_region 19 with fail
              by_cases hgt : i < j
              · have hgI : (i : Int) < (j : Int) := by omega
                by_cases hk2 : kd = 2
                · subst hk2
                  obtain ⟨bq, hfj⟩ : ∃ bq, Lk.inF na i (Lk.belowL na i).length (j : Int) = bq := ⟨_, rfl⟩
                  have hfu := (hfa hgt rfl).trans hfj
                  obtain ⟨S, hS1⟩ : ∃ S : World → Prop, ∀ W, S W ↔ W.cell? ⟨w.heap.size, 0, none⟩ = some (.slice (some ⟨g, o, none⟩) na.length ac) ∧ W.cell? ⟨g, o + j * 6, none⟩ = some (.int .i64 2) ∧ W.cell? ⟨g, o + j * 6 + 4, none⟩ = some (.int .i64 up) ∧ InAt gm ((Lk.belowL na i).length + 1) (Lk.inF na i (Lk.belowL na i).length) W := ⟨_, fun _ => Iff.rfl⟩
                  refine wp_region_held_drew (S := S) (by kernel_rfl) ((hS1 _).2 ⟨ccX, c0, c4, HIM.out.keep rfl⟩) (fun hS => ?_)
                  refine takeH12 0 79 (.int .i64 (j : Int)) rfl rfl (by kernel_rfl) (by kernel_rfl) (by kernel_rfl) (fun _ _ _ h => h) (Or.inl ⟨by kernel_rfl, fun W _ => by go_simp⟩) hS ?_
                  simp only [Act.put, List.setIfInBounds_toArray, List.set_cons_zero, List.set_cons_succ]
                  refine takeH12 1 80 (.int .i64 (i : Int)) rfl rfl (by kernel_rfl) (by kernel_rfl) (by kernel_rfl) (fun _ _ _ h => h) (Or.inl ⟨by kernel_rfl, fun W _ => by go_simp⟩) hS ?_
                  simp only [Act.put, List.setIfInBounds_toArray, List.set_cons_zero, List.set_cons_succ]
                  refine takeH12 2 81 (.bool true) rfl rfl (by kernel_rfl) (by kernel_rfl) (by kernel_rfl) (fun _ _ _ h => h) (Or.inl ⟨by kernel_rfl, fun W _ => by go_simp; (try (first | omega | simp_all))⟩) hS ?_
                  simp only [Act.put, List.setIfInBounds_toArray, List.set_cons_zero, List.set_cons_succ]
                  refine takeH12 3 82 (.bool true) rfl rfl (by kernel_rfl) (by kernel_rfl) (by kernel_rfl) (fun _ _ _ h => h) (Or.inl ⟨by kernel_rfl, fun W _ => by go_simp⟩) hS ?_
                  simp only [Act.put, List.setIfInBounds_toArray, List.set_cons_zero, List.set_cons_succ]
                  refine takeH12 4 83 (.pointer (some ⟨w.heap.size, 0, none⟩)) rfl rfl (by kernel_rfl) (by kernel_rfl) (by kernel_rfl) (fun _ _ _ h => h) (Or.inl ⟨by kernel_rfl, fun W _ => by go_simp⟩) hS ?_
                  simp only [Act.put, List.setIfInBounds_toArray, List.set_cons_zero, List.set_cons_succ]
                  refine takeH12 5 84 (.slice (some ⟨g, o, none⟩) na.length ac) rfl rfl (by kernel_rfl) (by kernel_rfl) (by kernel_rfl) (fun _ _ _ h => h) (Or.inl ⟨by kernel_rfl, fun W hW => by have hc := (((hS1 W).1 hW).1); go_simp⟩) hS ?_
                  simp only [Act.put, List.setIfInBounds_toArray, List.set_cons_zero, List.set_cons_succ]
                  refine takeH12 6 85 (.int .i64 (j : Int)) rfl rfl (by kernel_rfl) (by kernel_rfl) (by kernel_rfl) (fun _ _ _ h => h) (Or.inl ⟨by kernel_rfl, fun W _ => by go_simp⟩) hS ?_
                  simp only [Act.put, List.setIfInBounds_toArray, List.set_cons_zero, List.set_cons_succ]
                  refine takeH12 7 86 (.pointer (some ⟨g, o + j * 6, none⟩)) rfl rfl (by kernel_rfl) (by kernel_rfl) (by kernel_rfl) (fun _ _ _ h => h) (Or.inl ⟨by kernel_rfl, fun W _ => by go_simp⟩) hS ?_
                  simp only [Act.put, List.setIfInBounds_toArray, List.set_cons_zero, List.set_cons_succ]
                  refine takeH12 8 87 (.pointer (some ⟨g, o + j * 6, none⟩)) rfl rfl (by kernel_rfl) (by kernel_rfl) (by kernel_rfl) (fun _ _ _ h => h) (Or.inl ⟨by kernel_rfl, fun W _ => by go_simp⟩) hS ?_
                  simp only [Act.put, List.setIfInBounds_toArray, List.set_cons_zero, List.set_cons_succ]
                  refine takeH12 9 88 (.int .i64 2) rfl rfl (by kernel_rfl) (by kernel_rfl) (by kernel_rfl) (fun _ _ _ h => h) (Or.inl ⟨by kernel_rfl, fun W hW => by have hc := (((hS1 W).1 hW).2.1); go_simp⟩) hS ?_
                  simp only [Act.put, List.setIfInBounds_toArray, List.set_cons_zero, List.set_cons_succ]
                  refine takeH12 10 89 (.bool true) rfl rfl (by kernel_rfl) (by kernel_rfl) (by kernel_rfl) (fun _ _ _ h => h) (Or.inl ⟨by kernel_rfl, fun W _ => by go_simp; (try (first | omega | simp_all))⟩) hS ?_
                  simp only [Act.put, List.setIfInBounds_toArray, List.set_cons_zero, List.set_cons_succ]
                  refine takeH12 11 90 (.bool true) rfl rfl (by kernel_rfl) (by kernel_rfl) (by kernel_rfl) (fun _ _ _ h => h) (Or.inl ⟨by kernel_rfl, fun W _ => by go_simp⟩) hS ?_
                  simp only [Act.put, List.setIfInBounds_toArray, List.set_cons_zero, List.set_cons_succ]
                  refine takeH12 12 91 (.bool true) rfl rfl (by kernel_rfl) (by kernel_rfl) (by kernel_rfl) (fun _ _ _ h => h) (Or.inl ⟨by kernel_rfl, fun W _ => by go_simp⟩) hS ?_
                  simp only [Act.put, List.setIfInBounds_toArray, List.set_cons_zero, List.set_cons_succ]
                  refine takeH12 13 92 (.map (some gm)) rfl rfl (by kernel_rfl) (by kernel_rfl) (by kernel_rfl) (fun _ _ _ h => h) (Or.inl ⟨by kernel_rfl, fun W _ => by go_simp⟩) hS ?_
                  simp only [Act.put, List.setIfInBounds_toArray, List.set_cons_zero, List.set_cons_succ]
                  refine takeH12 14 93 (.pointer (some ⟨w.heap.size, 0, none⟩)) rfl rfl (by kernel_rfl) (by kernel_rfl) (by kernel_rfl) (fun _ _ _ h => h) (Or.inl ⟨by kernel_rfl, fun W _ => by go_simp⟩) hS ?_
                  simp only [Act.put, List.setIfInBounds_toArray, List.set_cons_zero, List.set_cons_succ]
                  refine takeH12 15 94 (.slice (some ⟨g, o, none⟩) na.length ac) rfl rfl (by kernel_rfl) (by kernel_rfl) (by kernel_rfl) (fun _ _ _ h => h) (Or.inl ⟨by kernel_rfl, fun W hW => by have hc := (((hS1 W).1 hW).1); go_simp⟩) hS ?_
                  simp only [Act.put, List.setIfInBounds_toArray, List.set_cons_zero, List.set_cons_succ]
                  refine takeH12 16 95 (.int .i64 (j : Int)) rfl rfl (by kernel_rfl) (by kernel_rfl) (by kernel_rfl) (fun _ _ _ h => h) (Or.inl ⟨by kernel_rfl, fun W _ => by go_simp⟩) hS ?_
                  simp only [Act.put, List.setIfInBounds_toArray, List.set_cons_zero, List.set_cons_succ]
                  refine takeH12 17 96 (.pointer (some ⟨g, o + j * 6, none⟩)) rfl rfl (by kernel_rfl) (by kernel_rfl) (by kernel_rfl) (fun _ _ _ h => h) (Or.inl ⟨by kernel_rfl, fun W _ => by go_simp⟩) hS ?_
                  simp only [Act.put, List.setIfInBounds_toArray, List.set_cons_zero, List.set_cons_succ]
                  refine takeH12 18 97 (.pointer (some ⟨g, o + j * 6 + 4, none⟩)) rfl rfl (by kernel_rfl) (by kernel_rfl) (by kernel_rfl) (fun _ _ _ h => h) (Or.inl ⟨by kernel_rfl, fun W _ => by go_simp⟩) hS ?_
                  simp only [Act.put, List.setIfInBounds_toArray, List.set_cons_zero, List.set_cons_succ]
                  refine takeH12 19 98 (.int .i64 up) rfl rfl (by kernel_rfl) (by kernel_rfl) (by kernel_rfl) (fun _ _ _ h => h) (Or.inl ⟨by kernel_rfl, fun W hW => by have hc := (((hS1 W).1 hW).2.2.1); go_simp⟩) hS ?_
                  simp only [Act.put, List.setIfInBounds_toArray, List.set_cons_zero, List.set_cons_succ]
                  refine takeH12 20 99 (.bool bq) rfl rfl (by kernel_rfl) (by kernel_rfl) (by kernel_rfl) (fun _ _ _ h => h) (Or.inl ⟨by kernel_rfl, fun W hW => by have hc := ((((hS1 W).1 hW).2.2.2.look up hwu).trans (by rw [hfu])); go_simp⟩) hS ?_
                  simp only [Act.put, List.setIfInBounds_toArray, List.set_cons_zero, List.set_cons_succ]
                  refine takeH12 21 100 (.map (some gm)) rfl rfl (by kernel_rfl) (by kernel_rfl) (by kernel_rfl) (fun _ _ _ h => h) (Or.inl ⟨by kernel_rfl, fun W _ => by go_simp⟩) hS ?_
                  simp only [Act.put, List.setIfInBounds_toArray, List.set_cons_zero, List.set_cons_succ]
                  refine takeH12 22 101 (.int .i64 (j : Int)) rfl rfl (by kernel_rfl) (by kernel_rfl) (by kernel_rfl) (fun _ _ _ h => h) (Or.inl ⟨by kernel_rfl, fun W _ => by go_simp⟩) hS ?_
                  simp only [Act.put, List.setIfInBounds_toArray, List.set_cons_zero, List.set_cons_succ]
                  refine takeH12 23 102 (.bool bq) rfl rfl (by kernel_rfl) (by kernel_rfl) (by kernel_rfl) (fun _ _ _ h => h) (Or.inl ⟨by kernel_rfl, fun W hW => by have hc := ((((hS1 W).1 hW).2.2.2.look (j : Int) hwj).trans (by rw [hfj])); go_simp⟩) hS ?_
                  simp only [Act.put, List.setIfInBounds_toArray, List.set_cons_zero, List.set_cons_succ]
                  refine takeH12 24 103 (.bool false) rfl rfl (by kernel_rfl) (by kernel_rfl) (by kernel_rfl) (fun _ _ _ h => h) (Or.inl ⟨by kernel_rfl, fun W _ => by go_simp; (try (first | omega | simp_all))⟩) hS ?_
                  simp only [Act.put, List.setIfInBounds_toArray, List.set_cons_zero, List.set_cons_succ]
                  refine takeH12 25 104 (.bool false) rfl rfl (by kernel_rfl) (by kernel_rfl) (by kernel_rfl) (fun _ _ _ h => h) (Or.inl ⟨by kernel_rfl, fun W _ => by go_simp⟩) hS ?_
                  simp only [Act.put, List.setIfInBounds_toArray, List.set_cons_zero, List.set_cons_succ]
                  refine wpAnyH_done (by kernel_rfl) ?_ _
                  have HBY := hideT (HB.out.drew)
                  have HIY := hideT ((hS1 _).1 hS).2.2.2
                  go_wp2
                  go_roundw
                  case rel => exact ⟨j + 1, by go_num, HJ.out, HIY, HBY⟩
                  case measure => have := HJ.out; simp [intOf]; omega
                · have hk0 := hk2
                  obtain ⟨S, hS1⟩ : ∃ S : World → Prop, ∀ W, S W ↔ W.cell? ⟨w.heap.size, 0, none⟩ = some (.slice (some ⟨g, o, none⟩) na.length ac) ∧ W.cell? ⟨g, o + j * 6, none⟩ = some (.int .i64 kd) ∧ W.cell? ⟨g, o + j * 6 + 4, none⟩ = some (.int .i64 up) ∧ InAt gm ((Lk.belowL na i).length + 1) (Lk.inF na i (Lk.belowL na i).length) W := ⟨_, fun _ => Iff.rfl⟩
                  refine wp_region_held_drew (S := S) (by kernel_rfl) ((hS1 _).2 ⟨ccX, c0, c4, HIM.out.keep rfl⟩) (fun hS => ?_)
                  refine takeH12 0 79 (.int .i64 (j : Int)) rfl rfl (by kernel_rfl) (by kernel_rfl) (by kernel_rfl) (fun _ _ _ h => h) (Or.inl ⟨by kernel_rfl, fun W _ => by go_simp⟩) hS ?_
                  simp only [Act.put, List.setIfInBounds_toArray, List.set_cons_zero, List.set_cons_succ]
                  refine takeH12 1 80 (.int .i64 (i : Int)) rfl rfl (by kernel_rfl) (by kernel_rfl) (by kernel_rfl) (fun _ _ _ h => h) (Or.inl ⟨by kernel_rfl, fun W _ => by go_simp⟩) hS ?_
                  simp only [Act.put, List.setIfInBounds_toArray, List.set_cons_zero, List.set_cons_succ]
                  refine takeH12 2 81 (.bool true) rfl rfl (by kernel_rfl) (by kernel_rfl) (by kernel_rfl) (fun _ _ _ h => h) (Or.inl ⟨by kernel_rfl, fun W _ => by go_simp; (try (first | omega | simp_all))⟩) hS ?_
                  simp only [Act.put, List.setIfInBounds_toArray, List.set_cons_zero, List.set_cons_succ]
                  refine takeH12 3 82 (.bool true) rfl rfl (by kernel_rfl) (by kernel_rfl) (by kernel_rfl) (fun _ _ _ h => h) (Or.inl ⟨by kernel_rfl, fun W _ => by go_simp⟩) hS ?_
                  simp only [Act.put, List.setIfInBounds_toArray, List.set_cons_zero, List.set_cons_succ]
                  refine takeH12 4 83 (.pointer (some ⟨w.heap.size, 0, none⟩)) rfl rfl (by kernel_rfl) (by kernel_rfl) (by kernel_rfl) (fun _ _ _ h => h) (Or.inl ⟨by kernel_rfl, fun W _ => by go_simp⟩) hS ?_
                  simp only [Act.put, List.setIfInBounds_toArray, List.set_cons_zero, List.set_cons_succ]
                  refine takeH12 5 84 (.slice (some ⟨g, o, none⟩) na.length ac) rfl rfl (by kernel_rfl) (by kernel_rfl) (by kernel_rfl) (fun _ _ _ h => h) (Or.inl ⟨by kernel_rfl, fun W hW => by have hc := (((hS1 W).1 hW).1); go_simp⟩) hS ?_
                  simp only [Act.put, List.setIfInBounds_toArray, List.set_cons_zero, List.set_cons_succ]
                  refine takeH12 6 85 (.int .i64 (j : Int)) rfl rfl (by kernel_rfl) (by kernel_rfl) (by kernel_rfl) (fun _ _ _ h => h) (Or.inl ⟨by kernel_rfl, fun W _ => by go_simp⟩) hS ?_
                  simp only [Act.put, List.setIfInBounds_toArray, List.set_cons_zero, List.set_cons_succ]
                  refine takeH12 7 86 (.pointer (some ⟨g, o + j * 6, none⟩)) rfl rfl (by kernel_rfl) (by kernel_rfl) (by kernel_rfl) (fun _ _ _ h => h) (Or.inl ⟨by kernel_rfl, fun W _ => by go_simp⟩) hS ?_
                  simp only [Act.put, List.setIfInBounds_toArray, List.set_cons_zero, List.set_cons_succ]
                  refine takeH12 8 87 (.pointer (some ⟨g, o + j * 6, none⟩)) rfl rfl (by kernel_rfl) (by kernel_rfl) (by kernel_rfl) (fun _ _ _ h => h) (Or.inl ⟨by kernel_rfl, fun W _ => by go_simp⟩) hS ?_
                  simp only [Act.put, List.setIfInBounds_toArray, List.set_cons_zero, List.set_cons_succ]
                  refine takeH12 9 88 (.int .i64 kd) rfl rfl (by kernel_rfl) (by kernel_rfl) (by kernel_rfl) (fun _ _ _ h => h) (Or.inl ⟨by kernel_rfl, fun W hW => by have hc := (((hS1 W).1 hW).2.1); go_simp⟩) hS ?_
                  simp only [Act.put, List.setIfInBounds_toArray, List.set_cons_zero, List.set_cons_succ]
                  refine takeH12 10 89 (.bool false) rfl rfl (by kernel_rfl) (by kernel_rfl) (by kernel_rfl) (fun _ _ _ h => h) (Or.inl ⟨by kernel_rfl, fun W _ => by go_simp; (try (first | omega | simp_all))⟩) hS ?_
                  simp only [Act.put, List.setIfInBounds_toArray, List.set_cons_zero, List.set_cons_succ]
                  refine takeH12 11 90 (.bool false) rfl rfl (by kernel_rfl) (by kernel_rfl) (by kernel_rfl) (fun _ _ _ h => h) (Or.inl ⟨by kernel_rfl, fun W _ => by go_simp⟩) hS ?_
                  simp only [Act.put, List.setIfInBounds_toArray, List.set_cons_zero, List.set_cons_succ]
                  refine takeH12 12 91 (.bool false) rfl rfl (by kernel_rfl) (by kernel_rfl) (by kernel_rfl) (fun _ _ _ h => h) (Or.inl ⟨by kernel_rfl, fun W _ => by go_simp⟩) hS ?_
                  simp only [Act.put, List.setIfInBounds_toArray, List.set_cons_zero, List.set_cons_succ]
                  refine takeH12 13 92 (undef) rfl rfl (by kernel_rfl) (by kernel_rfl) (by kernel_rfl) (fun _ _ _ h => h) (Or.inr ⟨by kernel_rfl, rfl⟩) hS ?_
                  simp only [Act.put, List.setIfInBounds_toArray, List.set_cons_zero, List.set_cons_succ]
                  refine takeH12 14 93 (undef) rfl rfl (by kernel_rfl) (by kernel_rfl) (by kernel_rfl) (fun _ _ _ h => h) (Or.inr ⟨by kernel_rfl, rfl⟩) hS ?_
                  simp only [Act.put, List.setIfInBounds_toArray, List.set_cons_zero, List.set_cons_succ]
                  refine takeH12 15 94 (undef) rfl rfl (by kernel_rfl) (by kernel_rfl) (by kernel_rfl) (fun _ _ _ h => h) (Or.inr ⟨by kernel_rfl, rfl⟩) hS ?_
                  simp only [Act.put, List.setIfInBounds_toArray, List.set_cons_zero, List.set_cons_succ]
                  refine takeH12 16 95 (undef) rfl rfl (by kernel_rfl) (by kernel_rfl) (by kernel_rfl) (fun _ _ _ h => h) (Or.inr ⟨by kernel_rfl, rfl⟩) hS ?_
                  simp only [Act.put, List.setIfInBounds_toArray, List.set_cons_zero, List.set_cons_succ]
                  refine takeH12 17 96 (undef) rfl rfl (by kernel_rfl) (by kernel_rfl) (by kernel_rfl) (fun _ _ _ h => h) (Or.inr ⟨by kernel_rfl, rfl⟩) hS ?_
                  simp only [Act.put, List.setIfInBounds_toArray, List.set_cons_zero, List.set_cons_succ]
                  refine takeH12 18 97 (undef) rfl rfl (by kernel_rfl) (by kernel_rfl) (by kernel_rfl) (fun _ _ _ h => h) (Or.inr ⟨by kernel_rfl, rfl⟩) hS ?_
                  simp only [Act.put, List.setIfInBounds_toArray, List.set_cons_zero, List.set_cons_succ]
                  refine takeH12 19 98 (undef) rfl rfl (by kernel_rfl) (by kernel_rfl) (by kernel_rfl) (fun _ _ _ h => h) (Or.inr ⟨by kernel_rfl, rfl⟩) hS ?_
                  simp only [Act.put, List.setIfInBounds_toArray, List.set_cons_zero, List.set_cons_succ]
                  refine takeH12 20 99 (undef) rfl rfl (by kernel_rfl) (by kernel_rfl) (by kernel_rfl) (fun _ _ _ h => h) (Or.inr ⟨by kernel_rfl, rfl⟩) hS ?_
                  simp only [Act.put, List.setIfInBounds_toArray, List.set_cons_zero, List.set_cons_succ]
                  refine takeH12 21 100 (undef) rfl rfl (by kernel_rfl) (by kernel_rfl) (by kernel_rfl) (fun _ _ _ h => h) (Or.inr ⟨by kernel_rfl, rfl⟩) hS ?_
                  simp only [Act.put, List.setIfInBounds_toArray, List.set_cons_zero, List.set_cons_succ]
                  refine takeH12 22 101 (undef) rfl rfl (by kernel_rfl) (by kernel_rfl) (by kernel_rfl) (fun _ _ _ h => h) (Or.inr ⟨by kernel_rfl, rfl⟩) hS ?_
                  simp only [Act.put, List.setIfInBounds_toArray, List.set_cons_zero, List.set_cons_succ]
                  refine takeH12 23 102 (undef) rfl rfl (by kernel_rfl) (by kernel_rfl) (by kernel_rfl) (fun _ _ _ h => h) (Or.inr ⟨by kernel_rfl, rfl⟩) hS ?_
                  simp only [Act.put, List.setIfInBounds_toArray, List.set_cons_zero, List.set_cons_succ]
                  refine takeH12 24 103 (undef) rfl rfl (by kernel_rfl) (by kernel_rfl) (by kernel_rfl) (fun _ _ _ h => h) (Or.inr ⟨by kernel_rfl, rfl⟩) hS ?_
                  simp only [Act.put, List.setIfInBounds_toArray, List.set_cons_zero, List.set_cons_succ]
                  refine takeH12 25 104 (.bool false) rfl rfl (by kernel_rfl) (by kernel_rfl) (by kernel_rfl) (fun _ _ _ h => h) (Or.inl ⟨by kernel_rfl, fun W _ => by go_simp⟩) hS ?_
                  simp only [Act.put, List.setIfInBounds_toArray, List.set_cons_zero, List.set_cons_succ]
                  refine wpAnyH_done (by kernel_rfl) ?_ _
                  have HBY := hideT (HB.out.drew)
                  have HIY := hideT ((hS1 _).1 hS).2.2.2
                  go_wp2
                  go_roundw
                  case rel => exact ⟨j + 1, by go_num, HJ.out, HIY, HBY⟩
                  case measure => have := HJ.out; simp [intOf]; omega
              · have hgI : ¬ ((i : Int) < (j : Int)) := by omega
                obtain ⟨S, hS1⟩ : ∃ S : World → Prop, ∀ W, S W ↔ W.cell? ⟨w.heap.size, 0, none⟩ = some (.slice (some ⟨g, o, none⟩) na.length ac) ∧ W.cell? ⟨g, o + j * 6, none⟩ = some (.int .i64 kd) ∧ W.cell? ⟨g, o + j * 6 + 4, none⟩ = some (.int .i64 up) ∧ InAt gm ((Lk.belowL na i).length + 1) (Lk.inF na i (Lk.belowL na i).length) W := ⟨_, fun _ => Iff.rfl⟩
                refine wp_region_held_drew (S := S) (by kernel_rfl) ((hS1 _).2 ⟨ccX, c0, c4, HIM.out.keep rfl⟩) (fun hS => ?_)
                refine takeH12 0 79 (.int .i64 (j : Int)) rfl rfl (by kernel_rfl) (by kernel_rfl) (by kernel_rfl) (fun _ _ _ h => h) (Or.inl ⟨by kernel_rfl, fun W _ => by go_simp⟩) hS ?_
                simp only [Act.put, List.setIfInBounds_toArray, List.set_cons_zero, List.set_cons_succ]
                refine takeH12 1 80 (.int .i64 (i : Int)) rfl rfl (by kernel_rfl) (by kernel_rfl) (by kernel_rfl) (fun _ _ _ h => h) (Or.inl ⟨by kernel_rfl, fun W _ => by go_simp⟩) hS ?_
                simp only [Act.put, List.setIfInBounds_toArray, List.set_cons_zero, List.set_cons_succ]
                refine takeH12 2 81 (.bool false) rfl rfl (by kernel_rfl) (by kernel_rfl) (by kernel_rfl) (fun _ _ _ h => h) (Or.inl ⟨by kernel_rfl, fun W _ => by go_simp; (try (first | omega | simp_all))⟩) hS ?_
                simp only [Act.put, List.setIfInBounds_toArray, List.set_cons_zero, List.set_cons_succ]
                refine takeH12 3 82 (.bool false) rfl rfl (by kernel_rfl) (by kernel_rfl) (by kernel_rfl) (fun _ _ _ h => h) (Or.inl ⟨by kernel_rfl, fun W _ => by go_simp⟩) hS ?_
                simp only [Act.put, List.setIfInBounds_toArray, List.set_cons_zero, List.set_cons_succ]
                refine takeH12 4 83 (undef) rfl rfl (by kernel_rfl) (by kernel_rfl) (by kernel_rfl) (fun _ _ _ h => h) (Or.inr ⟨by kernel_rfl, rfl⟩) hS ?_
                simp only [Act.put, List.setIfInBounds_toArray, List.set_cons_zero, List.set_cons_succ]
                refine takeH12 5 84 (undef) rfl rfl (by kernel_rfl) (by kernel_rfl) (by kernel_rfl) (fun _ _ _ h => h) (Or.inr ⟨by kernel_rfl, rfl⟩) hS ?_
                simp only [Act.put, List.setIfInBounds_toArray, List.set_cons_zero, List.set_cons_succ]
                refine takeH12 6 85 (undef) rfl rfl (by kernel_rfl) (by kernel_rfl) (by kernel_rfl) (fun _ _ _ h => h) (Or.inr ⟨by kernel_rfl, rfl⟩) hS ?_
                simp only [Act.put, List.setIfInBounds_toArray, List.set_cons_zero, List.set_cons_succ]
                refine takeH12 7 86 (undef) rfl rfl (by kernel_rfl) (by kernel_rfl) (by kernel_rfl) (fun _ _ _ h => h) (Or.inr ⟨by kernel_rfl, rfl⟩) hS ?_
                simp only [Act.put, List.setIfInBounds_toArray, List.set_cons_zero, List.set_cons_succ]
                refine takeH12 8 87 (undef) rfl rfl (by kernel_rfl) (by kernel_rfl) (by kernel_rfl) (fun _ _ _ h => h) (Or.inr ⟨by kernel_rfl, rfl⟩) hS ?_
                simp only [Act.put, List.setIfInBounds_toArray, List.set_cons_zero, List.set_cons_succ]
                refine takeH12 9 88 (undef) rfl rfl (by kernel_rfl) (by kernel_rfl) (by kernel_rfl) (fun _ _ _ h => h) (Or.inr ⟨by kernel_rfl, rfl⟩) hS ?_
                simp only [Act.put, List.setIfInBounds_toArray, List.set_cons_zero, List.set_cons_succ]
                refine takeH12 10 89 (undef) rfl rfl (by kernel_rfl) (by kernel_rfl) (by kernel_rfl) (fun _ _ _ h => h) (Or.inr ⟨by kernel_rfl, rfl⟩) hS ?_
                simp only [Act.put, List.setIfInBounds_toArray, List.set_cons_zero, List.set_cons_succ]
                refine takeH12 11 90 (.bool false) rfl rfl (by kernel_rfl) (by kernel_rfl) (by kernel_rfl) (fun _ _ _ h => h) (Or.inl ⟨by kernel_rfl, fun W _ => by go_simp⟩) hS ?_
                simp only [Act.put, List.setIfInBounds_toArray, List.set_cons_zero, List.set_cons_succ]
                refine takeH12 12 91 (.bool false) rfl rfl (by kernel_rfl) (by kernel_rfl) (by kernel_rfl) (fun _ _ _ h => h) (Or.inl ⟨by kernel_rfl, fun W _ => by go_simp⟩) hS ?_
                simp only [Act.put, List.setIfInBounds_toArray, List.set_cons_zero, List.set_cons_succ]
                refine takeH12 13 92 (undef) rfl rfl (by kernel_rfl) (by kernel_rfl) (by kernel_rfl) (fun _ _ _ h => h) (Or.inr ⟨by kernel_rfl, rfl⟩) hS ?_
                simp only [Act.put, List.setIfInBounds_toArray, List.set_cons_zero, List.set_cons_succ]
                refine takeH12 14 93 (undef) rfl rfl (by kernel_rfl) (by kernel_rfl) (by kernel_rfl) (fun _ _ _ h => h) (Or.inr ⟨by kernel_rfl, rfl⟩) hS ?_
                simp only [Act.put, List.setIfInBounds_toArray, List.set_cons_zero, List.set_cons_succ]
                refine takeH12 15 94 (undef) rfl rfl (by kernel_rfl) (by kernel_rfl) (by kernel_rfl) (fun _ _ _ h => h) (Or.inr ⟨by kernel_rfl, rfl⟩) hS ?_
                simp only [Act.put, List.setIfInBounds_toArray, List.set_cons_zero, List.set_cons_succ]
                refine takeH12 16 95 (undef) rfl rfl (by kernel_rfl) (by kernel_rfl) (by kernel_rfl) (fun _ _ _ h => h) (Or.inr ⟨by kernel_rfl, rfl⟩) hS ?_
                simp only [Act.put, List.setIfInBounds_toArray, List.set_cons_zero, List.set_cons_succ]
                refine takeH12 17 96 (undef) rfl rfl (by kernel_rfl) (by kernel_rfl) (by kernel_rfl) (fun _ _ _ h => h) (Or.inr ⟨by kernel_rfl, rfl⟩) hS ?_
                simp only [Act.put, List.setIfInBounds_toArray, List.set_cons_zero, List.set_cons_succ]
                refine takeH12 18 97 (undef) rfl rfl (by kernel_rfl) (by kernel_rfl) (by kernel_rfl) (fun _ _ _ h => h) (Or.inr ⟨by kernel_rfl, rfl⟩) hS ?_
                simp only [Act.put, List.setIfInBounds_toArray, List.set_cons_zero, List.set_cons_succ]
                refine takeH12 19 98 (undef) rfl rfl (by kernel_rfl) (by kernel_rfl) (by kernel_rfl) (fun _ _ _ h => h) (Or.inr ⟨by kernel_rfl, rfl⟩) hS ?_
                simp only [Act.put, List.setIfInBounds_toArray, List.set_cons_zero, List.set_cons_succ]
                refine takeH12 20 99 (undef) rfl rfl (by kernel_rfl) (by kernel_rfl) (by kernel_rfl) (fun _ _ _ h => h) (Or.inr ⟨by kernel_rfl, rfl⟩) hS ?_
                simp only [Act.put, List.setIfInBounds_toArray, List.set_cons_zero, List.set_cons_succ]
                refine takeH12 21 100 (undef) rfl rfl (by kernel_rfl) (by kernel_rfl) (by kernel_rfl) (fun _ _ _ h => h) (Or.inr ⟨by kernel_rfl, rfl⟩) hS ?_
                simp only [Act.put, List.setIfInBounds_toArray, List.set_cons_zero, List.set_cons_succ]
                refine takeH12 22 101 (undef) rfl rfl (by kernel_rfl) (by kernel_rfl) (by kernel_rfl) (fun _ _ _ h => h) (Or.inr ⟨by kernel_rfl, rfl⟩) hS ?_
                simp only [Act.put, List.setIfInBounds_toArray, List.set_cons_zero, List.set_cons_succ]
                refine takeH12 23 102 (undef) rfl rfl (by kernel_rfl) (by kernel_rfl) (by kernel_rfl) (fun _ _ _ h => h) (Or.inr ⟨by kernel_rfl, rfl⟩) hS ?_
                simp only [Act.put, List.setIfInBounds_toArray, List.set_cons_zero, List.set_cons_succ]
                refine takeH12 24 103 (undef) rfl rfl (by kernel_rfl) (by kernel_rfl) (by kernel_rfl) (fun _ _ _ h => h) (Or.inr ⟨by kernel_rfl, rfl⟩) hS ?_
                simp only [Act.put, List.setIfInBounds_toArray, List.set_cons_zero, List.set_cons_succ]
                refine takeH12 25 104 (.bool false) rfl rfl (by kernel_rfl) (by kernel_rfl) (by kernel_rfl) (fun _ _ _ h => h) (Or.inl ⟨by kernel_rfl, fun W _ => by go_simp⟩) hS ?_
                simp only [Act.put, List.setIfInBounds_toArray, List.set_cons_zero, List.set_cons_succ]
                refine wpAnyH_done (by kernel_rfl) ?_ _
                have HBY := hideT (HB.out.drew)
                have HIY := hideT ((hS1 _).1 hS).2.2.2
                go_wp2
                go_roundw
                case rel => exact ⟨j + 1, by go_num, HJ.out, HIY, HBY⟩
                case measure => have := HJ.out; simp [intOf]; omega
            · have hje : j = na.length := by omega
              have HKY := hideT (HKi.out Y (bel HB5.out hB5))
              have HBY := hideT (bel HB5.out hB5)
              have hmY := HIM.out.lt
              clear hje hB5 hj HIL HBX
              go_upto_region 23 with (go_at_call 22; refine HKY.out.mono ?_; rintro e w9 ⟨x9, rfl, hO9, hB9⟩; obtain ⟨xa9, xc9, rfl⟩ := (OwnsI.reads hO9).form)
              have HO9 := hideT (OwnsI.reads hO9)
              have HI9 := hideT (HIM.out.keep (hB9.block _ hmY))
              have HB9 := hideT (bel HBY.out hB9)
              have ccK := (hB9.cell (p := ⟨w.heap.size, 0, none⟩) (cell_lt ccX)).trans ccX
              clear hO9 hB9 HKY HIM HB ccX
              go_loopw [110] (fun s wr => ∃ n : Nat, s = .int .i64 n ∧ n ≤ (Lk.kidsE na i).length ∧ wr = w9) (fun s _ => (Lk.kidsE na i).length - (intOf s).toNat)
              case atStart => exact ⟨0, by go_num, Nat.zero_le _, rfl⟩
              case round =>
                obtain ⟨n, rfl, hn, hwr⟩ := hrel
                replace hwr := hwr.symm
                subst hwr
                by_cases hnl : n < (Lk.kidsE na i).length
                · obtain ⟨k, hk, hkn, hku, hkin⟩ := Lk.kid_in HMay.out hi (List.getElem_mem hnl)
                  obtain ⟨kb, ko, rfl, hkc, hkb, hcell⟩ := HO9.out.at (List.getElem?_eq_getElem hnl)
                  rw [hk] at hcell hkin
                  obtain ⟨ya, yc, yk, yd, hr⟩ := HAll.out k hkn
                  have c4 := (hr.below HB9.out).c4
                  rw [hku] at c4
                  have hlk := HI9.out.look (k : Int) (wf_i64 (by omega) (by omega))
                  rw [hkin] at hlk
                  have HJ : Hid (n + 1 ≤ (Lk.kidsE na i).length) := hnl
                  clear hr hk hku hkin hkb
                  go_wp2
                  go_roundw
                  case rel => exact ⟨n + 1, by go_num, HJ.out, by first | rfl | trivial⟩
                  case measure => have := HJ.out; simp [intOf]; omega
                · go_wp2_with (go_at_call 9; refine (alive14_any _).mono ?_; rintro e wz ⟨rfl, hBz⟩; have HBz := hideT (bel HB9.out hBz); clear hBz)
                  go_ret
                  exact ⟨rfl, HBz.out⟩
end Go.Proofs.Ytoiedadfpbbdgaa.lookRises
