/- The walk of the law LookAttrs, out of the contracts (written by tools/mklkat.py). -/
import Derived.Test.YtoiedadfpbbdgaaKLkT
import Derived.Test.YtoiedadfpbbdgaaKLkV
import Derived.Test.YtoiedadfpbbdgaaKArgS3
set_option linter.unusedVariables false
set_option linter.unusedSimpArgs false
namespace Go.Proofs.Ytoiedadfpbbdgaa
open Go.RowKit
theorem wpAnyH_weaker {P : Program} {md : Region.Mode} {ops : Array Oper} {Q : Exit → Act → World → Prop} {S S' : World → Prop} (h : ∀ w, S' w → S w) : ∀ (fuel : Nat) (listed : Array Bool) (a : Act) (w : World), wpAnyH P md ops Q S' fuel listed a w → wpAnyH P md ops Q S fuel listed a w
  | 0, _, _, _, h' => h'
  | fuel + 1, _, _, _, h' => ⟨h'.1, fun i hi => wpOp_mono (fun a' w' h2 => ⟨h _ h2.1, wpAnyH_weaker h fuel _ a' w' h2.2⟩) (h'.2 i hi)⟩
theorem Texts14_bel (v u : Value) (ts : List (List UInt8)) (w : World) (hv : ReadsTexts w v ts) (hu : ReadsTexts w u ts) (hl : ts.length ≤ 1000000000) :
    Calls Try.prog 12 #[v, u] w fun e w' => e = .returned (.bool true) ∧ Below w.heap.size w w' := by
  refine (Texts_any v u ts ts w hv hu hl hl).mono ?_
  rintro e w' ⟨rfl, n, rfl⟩
  exact ⟨by simp, below_drewN n (Below.refl _ _)⟩
theorem once_all (l : List (List UInt8)) : ∀ (j : Nat), ∀ x ∈ l.take j, x ∈ Lk.once (l.take j)
  | 0, x, h => by simp at h
  | j + 1, x, h => by
    by_cases hj : j < l.length
    · rw [Lk.once_next l j hj]
      rw [List.take_succ_eq_append_getElem hj, List.mem_append, List.mem_singleton] at h
      unfold Lk.ostep
      rcases h with h | rfl
      · have := once_all l j x h
        split
        · exact this
        · exact List.mem_append.2 (.inl this)
      · split
        · rename_i hc
          exact List.contains_iff_mem.1 hc
        · exact List.mem_append.2 (.inr (List.mem_singleton.2 rfl))
    · have := once_all l j
      rw [List.take_of_length_le (by omega)] at this h ⊢
      exact this x h
theorem has_words (ns : List Nd) (at_ : Int) (q : List UInt8) : (wordsR14 ns at_ Lk.classN).contains q = hasR14 ns at_ q := by
  unfold wordsR14 hasR14
  rw [Bool.eq_iff_iff, List.contains_iff_mem, List.contains_iff_mem]
  generalize Asc.words (attrR14 ns at_ Lk.classN).1 = l
  have h1 := Lk.once_mem l l.length q
  have h2 := once_all l l.length q
  rw [List.take_length] at h1 h2
  exact ⟨h1, h2⟩
theorem starts_none (ns : List Nd) (at_ : Int) : startsR14 ns at_ [] = [] := by
  unfold startsR14
  rw [List.filter_eq_nil_iff]
  intro a ha
  simp [Lk.startB]
/-- The law's own boxes: the document's and the names'; all below is as it was. -/
def LaAt (w : World) (a : Option Addr) (n c : Nat) (x y z : List UInt8) (W : World) : Prop :=
  Below w.heap.size w W ∧ W.cell? ⟨w.heap.size, 0, none⟩ = some (.slice a n c) ∧ W.cell? ⟨w.heap.size + 1, 0, none⟩ = some (.string (str x)) ∧ W.cell? ⟨w.heap.size + 1, 1, none⟩ = some (.string (str y)) ∧ W.cell? ⟨w.heap.size + 1, 2, none⟩ = some (.string (str z))
theorem LaAt.below {w A B : World} {a : Option Addr} {n c : Nat} {x y z : List UInt8} (h : LaAt w a n c x y z A) (hb : Below A.heap.size A B) : LaAt w a n c x y z B := by
  obtain ⟨h0, h1, h2, h3, h4⟩ := h
  exact ⟨bel h0 hb, (hb.cell (p := ⟨w.heap.size, 0, none⟩) (cell_lt h1)).trans h1, (hb.cell (p := ⟨w.heap.size + 1, 0, none⟩) (cell_lt h2)).trans h2, (hb.cell (p := ⟨w.heap.size + 1, 1, none⟩) (cell_lt h3)).trans h3, (hb.cell (p := ⟨w.heap.size + 1, 2, none⟩) (cell_lt h4)).trans h4⟩
theorem lit14 (w : World) (y z : List UInt8) : ReadsTexts (w.alloc (.cells #[.string (str y), .string (str z)] 9)) (.slice (some ⟨w.heap.size, 0, none⟩) 2 2) [y, z] := (own_lit w [y, z] (by simp)).reads
end Go.Proofs.Ytoiedadfpbbdgaa
namespace Go.Proofs.Ytoiedadfpbbdgaa.lookAttrs
open Go.RowKit
set_option maxHeartbeats 16000000 in
set_option maxRecDepth 100000 in
theorem walk (na : List Nd) (va : Value) (at_ : Int) (x y z : List UInt8) (w : World) (h1 : ArgDoc w va na) (h2 : (Lit.int .i64 at_).wf = true) (h3 : ArgS3 x y z) :
    Calls Try.prog 3 #[va, .int .i64 at_, .agg #[.string (str x), .string (str y), .string (str z)]] w fun e w' => e = .returned (.bool true) ∧ Below w.heap.size w w' := by
  clear h2
  obtain ⟨aa, ac, rfl, hra, hla, hfa⟩ := h1
  have hb1 : Below w.heap.size w (w.alloc (.cells #[.slice aa na.length ac] 24)) := (Below.refl _ w).alloc (Nat.le_refl _) _
  have hc1 : Below (w.alloc (.cells #[.slice aa na.length ac] 24)).heap.size (w.alloc (.cells #[.slice aa na.length ac] 24)) ((w.alloc (.cells #[.slice aa na.length ac] 24)).alloc (.cells #[.string (str x), .string (str y), .string (str z)] 25)) := (Below.refl _ _).alloc (Nat.le_refl _) _
  have hs1 : (w.alloc (.cells #[.slice aa na.length ac] 24)).heap.size = w.heap.size + 1 := by simp
  have hB2 : Below w.heap.size w ((w.alloc (.cells #[.slice aa na.length ac] 24)).alloc (.cells #[.string (str x), .string (str y), .string (str z)] 25)) := bel hb1 hc1
  have cA0 := doc_cell (heap_new w (.cells #[.slice aa na.length ac] 24))
  have cA : ((w.alloc (.cells #[.slice aa na.length ac] 24)).alloc (.cells #[.string (str x), .string (str y), .string (str z)] 25)).cell? ⟨w.heap.size, 0, none⟩ = some (.slice aa na.length ac) := (hc1.cell (p := ⟨w.heap.size, 0, none⟩) (cell_lt cA0)).trans cA0
  have hN := heap_new (w.alloc (.cells #[.slice aa na.length ac] 24)) (.cells #[.string (str x), .string (str y), .string (str z)] 25)
  rw [hs1] at hN
  have cX := Lib.cell_of_heap hN 0
  have cY := Lib.cell_of_heap hN 1
  have cZ := Lib.cell_of_heap hN 2
  have hLA := hideT (show LaAt w aa na.length ac x y z ((w.alloc (.cells #[.slice aa na.length ac] 24)).alloc (.cells #[.string (str x), .string (str y), .string (str z)] 25)) from ⟨hB2, cA, cX, cY, cZ⟩)
  have FA := hideT (fun W (h : LaAt w aa na.length ac x y z W) => far14_any na _ W (hra.below h.1) hla)
  have HAl := hideT (fun W (h : LaAt w aa na.length ac x y z W) => alive14_any W)
  have sx1 := str_size x
  have sy1 := str_size y
  have sz1 := str_size z
  obtain ⟨lx, ly, lz⟩ := h3
  generalize hfA : Lk.farL 3000 200 na = fa at *
  clear cA0 hb1 hc1 hs1 hN hB2
  cases fa with
  | true =>
    clear hfA hra hla hfa
    go_enter Try.func3, Try.ntmps3
    go_upto_region 1 with fail
    generalize ((w.alloc (.cells #[.slice aa na.length ac] 24)).alloc (.cells #[.string (str x), .string (str y), .string (str z)] 25)) = w2 at *
    go_wp2_with (first
      | (go_at_call 8; refine (FA.out _ hLA.out).mono ?_; rintro e w3 ⟨rfl, hB3⟩; have HL3 := hideT (hLA.out.below hB3); clear hB3)
      | (go_at_call 9; refine (HAl.out _ HL3.out).mono ?_; rintro e w9 ⟨rfl, hB9⟩; have HB9 := hideT (bel HL3.out.1 hB9); clear hB9))
    go_ret
    exact ⟨rfl, HB9.out⟩
  | false =>
    by_cases hlong : 1000 < x.length + y.length + z.length
    · have hli : (1000 : Int) < (x.length : Int) + (y.length : Int) + (z.length : Int) := by omega
      clear hfA hra hla hfa
      go_enter Try.func3, Try.ntmps3
      go_upto_region 1 with fail
      generalize ((w.alloc (.cells #[.slice aa na.length ac] 24)).alloc (.cells #[.string (str x), .string (str y), .string (str z)] 25)) = w2 at *
      go_wp2_with (first
        | (go_at_call 8; refine (FA.out _ hLA.out).mono ?_; rintro e w3 ⟨rfl, hB3⟩; have HL3 := hideT (hLA.out.below hB3); obtain ⟨_, dA, dX, dY, dZ⟩ := HL3.out; clear hB3 cA cX cY cZ)
        | (go_at_call 9; refine (HAl.out _ HL3.out).mono ?_; rintro e w9 ⟨rfl, hB9⟩; have HB9 := hideT (bel HL3.out.1 hB9); clear hB9))
      go_ret
      exact ⟨rfl, HB9.out⟩
    · have hli : ¬ (1000 : Int) < (x.length : Int) + (y.length : Int) + (z.length : Int) := by omega
      have hf := fair_of hla (by decide) (by decide) (by decide) hfA
      have hk : na.length ≤ 4096 → ∀ i, i < na.length → (Tre.ndAt na i).kids.length ≤ 140737488351232 := fun _ i hi => (Tre.fit_at hfa hi).kids
      have hps : ∀ p ∈ [y, z], p.length ≤ 1000000 := fun p hp => by
        simp at hp
        rcases hp with rfl | rfl <;> omega
      have CA := hideT (fun W (h : LaAt w aa na.length ac x y z W) => Attr14_any na _ at_ x W (hra.below h.1) hf)
      have CB := hideT (fun W (h : LaAt w aa na.length ac x y z W) => RAttr14_any na _ at_ x W (hra.below h.1) hf hk)
      have CW := hideT (fun W (h : LaAt w aa na.length ac x y z W) => Words14_any na _ at_ x W (hra.below h.1) hf)
      have CV := hideT (fun W (h : LaAt w aa na.length ac x y z W) => RWords14_any na _ at_ x W (hra.below h.1) hf hk)
      have CH := hideT (fun W (h : LaAt w aa na.length ac x y z W) => Has14_any na _ at_ y W (hra.below h.1) hf)
      have hCC := fun W (h : LaAt w aa na.length ac x y z W) => RWords14_any na _ at_ Lk.classN W (hra.below h.1) hf hk
      rw [show str Lk.classN = ⟨#[99, 108, 97, 115, 115]⟩ from rfl] at hCC
      have CC := hideT hCC
      have CS := hideT (fun W (h : LaAt w aa na.length ac x y z W) v (hv : ReadsTexts W v [y, z]) => Starts14_any na _ at_ [y, z] v W (hra.below h.1) hf hv (by simp) hps)
      have CR := hideT (fun W (h : LaAt w aa na.length ac x y z W) v (hv : ReadsTexts W v [y, z]) => RStarts14_any na _ at_ [y, z] v W (hra.below h.1) hf hk hv (by simp) hps)
      have CN := hideT (fun W (h : LaAt w aa na.length ac x y z W) => Starts14_any na _ at_ [] (.slice none 0 0) W (hra.below h.1) hf (.inl ⟨_, _, rfl, rfl⟩) (by simp) (by simp))
      rw [starts_none] at CN
      have hw1 := (wordsR14_len hf at_ x).1
      have hw2 := (wordsR14_len hf at_ Lk.classN).1
      have hw3 : (startsR14 na at_ [y, z]).length ≤ 100000 := Nat.le_trans (List.length_filter_le _ _) hw2
      have HHW := hideT (has_words na at_ y)
      generalize startsR14 na at_ [y, z] = ss at *
      generalize wordsR14 na at_ x = ts at *
      generalize wordsR14 na at_ Lk.classN = us at *
      generalize hasR14 na at_ y = hx at *
      generalize attrR14 na at_ x = px at *
      obtain ⟨sx, ox⟩ := px
      simp only at CA CB
      clear hfA hra hla hfa hf hk hps hCC
      go_enter Try.func3, Try.ntmps3
      go_upto_region 1 with fail
      generalize ((w.alloc (.cells #[.slice aa na.length ac] 24)).alloc (.cells #[.string (str x), .string (str y), .string (str z)] 25)) = w2 at *
      go_upto_region 5 with (first
        | (go_at_call 8; refine (FA.out _ hLA.out).mono ?_; rintro e w3 ⟨rfl, hB3⟩; have HL3 := hideT (hLA.out.below hB3); obtain ⟨_, dA, dX, dY, dZ⟩ := HL3.out; clear hB3 cA cX cY cZ)
        | (go_at_call 10; refine (CA.out _ HL3.out).mono ?_; rintro e w4 ⟨rfl, hB4⟩; have HL4 := hideT (HL3.out.below hB4); obtain ⟨_, eA, eX, eY, eZ⟩ := HL4.out; clear hB4 dA dX dY dZ)
        | (go_at_call 11; refine (CB.out _ HL4.out).mono ?_; rintro e w5 ⟨rfl, hB5⟩; have HL5 := hideT (HL4.out.below hB5); clear hB5 eA eX eY eZ))
      obtain ⟨S0, hS0⟩ : ∃ S : World → Prop, ∀ W, S W ↔ LaAt w aa na.length ac x y z W := ⟨_, fun _ => Iff.rfl⟩
      refine wp_region_held_drew (S := S0) (by kernel_rfl) ((hS0 _).2 (HL5.out.below ((Below.refl _ _).drew))) (fun hS => ?_)
      refine takeH12 0 44 (.string (str sx)) rfl rfl (by kernel_rfl) (by kernel_rfl) (by kernel_rfl) (fun _ _ _ h => h) (Or.inl ⟨by kernel_rfl, fun W _ => by go_simp⟩) hS ?_
      simp only [Act.put, List.setIfInBounds_toArray, List.set_cons_zero, List.set_cons_succ]
      refine takeH12 1 45 (.string (str sx)) rfl rfl (by kernel_rfl) (by kernel_rfl) (by kernel_rfl) (fun _ _ _ h => h) (Or.inl ⟨by kernel_rfl, fun W _ => by go_simp⟩) hS ?_
      simp only [Act.put, List.setIfInBounds_toArray, List.set_cons_zero, List.set_cons_succ]
      refine takeH12 2 46 (.bool true) rfl rfl (by kernel_rfl) (by kernel_rfl) (by kernel_rfl) (fun _ _ _ h => h) (Or.inl ⟨by kernel_rfl, fun W _ => by go_simp⟩) hS ?_
      simp only [Act.put, List.setIfInBounds_toArray, List.set_cons_zero, List.set_cons_succ]
      refine takeH12 3 47 (.bool true) rfl rfl (by kernel_rfl) (by kernel_rfl) (by kernel_rfl) (fun _ _ _ h => h) (Or.inl ⟨by kernel_rfl, fun W _ => by go_simp⟩) hS ?_
      simp only [Act.put, List.setIfInBounds_toArray, List.set_cons_zero, List.set_cons_succ]
      refine takeH12 4 48 (.bool ox) rfl rfl (by kernel_rfl) (by kernel_rfl) (by kernel_rfl) (fun _ _ _ h => h) (Or.inl ⟨by kernel_rfl, fun W _ => by go_simp⟩) hS ?_
      simp only [Act.put, List.setIfInBounds_toArray, List.set_cons_zero, List.set_cons_succ]
      refine takeH12 5 49 (.bool ox) rfl rfl (by kernel_rfl) (by kernel_rfl) (by kernel_rfl) (fun _ _ _ h => h) (Or.inl ⟨by kernel_rfl, fun W _ => by go_simp⟩) hS ?_
      simp only [Act.put, List.setIfInBounds_toArray, List.set_cons_zero, List.set_cons_succ]
      refine takeH12 6 50 (.bool true) rfl rfl (by kernel_rfl) (by kernel_rfl) (by kernel_rfl) (fun _ _ _ h => h) (Or.inl ⟨by kernel_rfl, fun W _ => by cases ox <;> go_simp⟩) hS ?_
      simp only [Act.put, List.setIfInBounds_toArray, List.set_cons_zero, List.set_cons_succ]
      refine takeH12 7 51 (.bool true) rfl rfl (by kernel_rfl) (by kernel_rfl) (by kernel_rfl) (fun _ _ _ h => h) (Or.inl ⟨by kernel_rfl, fun W _ => by go_simp⟩) hS ?_
      simp only [Act.put, List.setIfInBounds_toArray, List.set_cons_zero, List.set_cons_succ]
      refine takeH12 8 52 (.bool true) rfl rfl (by kernel_rfl) (by kernel_rfl) (by kernel_rfl) (fun _ _ _ h => h) (Or.inl ⟨by kernel_rfl, fun W _ => by go_simp⟩) hS ?_
      simp only [Act.put, List.setIfInBounds_toArray, List.set_cons_zero, List.set_cons_succ]
      refine takeH12 9 53 (.agg #[.slice aa na.length ac]) rfl rfl (by kernel_rfl) (by kernel_rfl) (by kernel_rfl) (fun _ _ _ h => h) (Or.inl ⟨by kernel_rfl, fun W hW => by have hc := (((hS0 W).1 hW).2.1); go_simp⟩) hS ?_
      simp only [Act.put, List.setIfInBounds_toArray, List.set_cons_zero, List.set_cons_succ]
      refine takeH12 10 54 (.int .i64 at_) rfl rfl (by kernel_rfl) (by kernel_rfl) (by kernel_rfl) (fun _ _ _ h => h) (Or.inl ⟨by kernel_rfl, fun W _ => by go_simp⟩) hS ?_
      simp only [Act.put, List.setIfInBounds_toArray, List.set_cons_zero, List.set_cons_succ]
      refine takeH12 11 55 (.pointer (some ⟨w.heap.size + 1, 0, none⟩)) rfl rfl (by kernel_rfl) (by kernel_rfl) (by kernel_rfl) (fun _ _ _ h => h) (Or.inl ⟨by kernel_rfl, fun W _ => by go_simp⟩) hS ?_
      simp only [Act.put, List.setIfInBounds_toArray, List.set_cons_zero, List.set_cons_succ]
      refine takeH12 12 56 (.string (str x)) rfl rfl (by kernel_rfl) (by kernel_rfl) (by kernel_rfl) (fun _ _ _ h => h) (Or.inl ⟨by kernel_rfl, fun W hW => by have hc := (((hS0 W).1 hW).2.2.1); go_simp⟩) hS ?_
      simp only [Act.put, List.setIfInBounds_toArray, List.set_cons_zero, List.set_cons_succ]
      refine takeH12 14 58 (.agg #[.slice aa na.length ac]) rfl rfl (by kernel_rfl) (by kernel_rfl) (by kernel_rfl) (fun _ _ _ h => h) (Or.inl ⟨by kernel_rfl, fun W hW => by have hc := (((hS0 W).1 hW).2.1); go_simp⟩) hS ?_
      simp only [Act.put, List.setIfInBounds_toArray, List.set_cons_zero, List.set_cons_succ]
      refine takeH12 15 59 (.int .i64 at_) rfl rfl (by kernel_rfl) (by kernel_rfl) (by kernel_rfl) (fun _ _ _ h => h) (Or.inl ⟨by kernel_rfl, fun W _ => by go_simp⟩) hS ?_
      simp only [Act.put, List.setIfInBounds_toArray, List.set_cons_zero, List.set_cons_succ]
      refine takeH12 16 60 (.pointer (some ⟨w.heap.size + 1, 0, none⟩)) rfl rfl (by kernel_rfl) (by kernel_rfl) (by kernel_rfl) (fun _ _ _ h => h) (Or.inl ⟨by kernel_rfl, fun W _ => by go_simp⟩) hS ?_
      simp only [Act.put, List.setIfInBounds_toArray, List.set_cons_zero, List.set_cons_succ]
      refine takeH12 17 61 (.string (str x)) rfl rfl (by kernel_rfl) (by kernel_rfl) (by kernel_rfl) (fun _ _ _ h => h) (Or.inl ⟨by kernel_rfl, fun W hW => by have hc := (((hS0 W).1 hW).2.2.1); go_simp⟩) hS ?_
      simp only [Act.put, List.setIfInBounds_toArray, List.set_cons_zero, List.set_cons_succ]
      refine wpAnyH_ready (rs := [13]) (by kernel_rfl) (by simp) ?_
      refine AllReadyH.cons rfl (fun K hK => ?_) AllReadyH.nil
      go_simp
      refine (CW.out _ ((hS0 _).1 hS)).mono ?_
      rintro e wp ⟨vp, rfl, hO, hY⟩
      obtain ⟨ap, cp, rfl⟩ := ReadsTexts13.form hO.reads
      have HRp := hideT hO.reads
      clear hO
      refine hK.out _ _ ((hS0 _).2 (LaAt.below ((hS0 _).1 hS) hY)) (fun hS => ?_)
      clear hK K hY
      obtain ⟨S1, hS1⟩ : ∃ S : World → Prop, ∀ W, S W ↔ LaAt w aa na.length ac x y z W ∧ ReadsTexts W (.slice ap ts.length cp) ts := ⟨_, fun _ => Iff.rfl⟩
      refine wpAnyH_weaker (S' := S1) (fun W h => (hS0 W).2 ((hS1 W).1 h).1) _ _ _ _ ?_
      replace hS := (hS1 _).2 ⟨((hS0 _).1 hS), HRp.out⟩
      refine wpAnyH_ready (rs := [18]) (by kernel_rfl) (by simp) ?_
      refine AllReadyH.cons rfl (fun K hK => ?_) AllReadyH.nil
      go_simp
      refine (CV.out _ ((hS1 _).1 hS).1).mono ?_
      rintro e wq ⟨vq, rfl, hO, hY⟩
      obtain ⟨aq, cq, rfl⟩ := ReadsTexts13.form hO.reads
      have HRq := hideT hO.reads
      clear hO
      refine hK.out _ _ ((hS1 _).2 ⟨LaAt.below ((hS1 _).1 hS).1 hY, ReadsTexts13.below ((hS1 _).1 hS).2 hY⟩) (fun hS => ?_)
      clear hK K hY
      obtain ⟨S2, hS2⟩ : ∃ S : World → Prop, ∀ W, S W ↔ LaAt w aa na.length ac x y z W ∧ ReadsTexts W (.slice ap ts.length cp) ts ∧ ReadsTexts W (.slice aq ts.length cq) ts := ⟨_, fun _ => Iff.rfl⟩
      refine wpAnyH_weaker (S' := S2) (fun W h => (hS1 W).2 (⟨((hS2 W).1 h).1, ((hS2 W).1 h).2.1⟩ : LaAt w aa na.length ac x y z W ∧ ReadsTexts W (.slice ap ts.length cp) ts)) _ _ _ _ ?_
      replace hS := (hS2 _).2 ⟨((hS1 _).1 hS).1, ((hS1 _).1 hS).2, HRq.out⟩
      refine wpAnyH_ready (rs := [19]) (by kernel_rfl) (by simp) ?_
      refine AllReadyH.cons rfl (fun K hK => ?_) AllReadyH.nil
      go_simp
      refine (Texts14_bel _ _ ts _ ((hS2 _).1 hS).2.1 ((hS2 _).1 hS).2.2 (by omega)).mono ?_
      rintro e wt ⟨rfl, hY⟩
      refine hK.out _ _ ((hS2 _).2 ⟨LaAt.below ((hS2 _).1 hS).1 hY, ReadsTexts13.below ((hS2 _).1 hS).2.1 hY, ReadsTexts13.below ((hS2 _).1 hS).2.2 hY⟩) (fun hS => ?_)
      clear hK K hY
      refine takeH12 20 64 (.bool true) rfl rfl (by kernel_rfl) (by kernel_rfl) (by kernel_rfl) (fun _ _ _ h => h) (Or.inl ⟨by kernel_rfl, fun W _ => by go_simp⟩) hS ?_
      simp only [Act.put, List.setIfInBounds_toArray, List.set_cons_zero, List.set_cons_succ]
      refine takeH12 21 65 (.bool true) rfl rfl (by kernel_rfl) (by kernel_rfl) (by kernel_rfl) (fun _ _ _ h => h) (Or.inl ⟨by kernel_rfl, fun W _ => by go_simp⟩) hS ?_
      simp only [Act.put, List.setIfInBounds_toArray, List.set_cons_zero, List.set_cons_succ]
      refine takeH12 22 66 (.agg #[.slice aa na.length ac]) rfl rfl (by kernel_rfl) (by kernel_rfl) (by kernel_rfl) (fun _ _ _ h => h) (Or.inl ⟨by kernel_rfl, fun W hW => by have hc := (((hS2 W).1 hW).1.2.1); go_simp⟩) hS ?_
      simp only [Act.put, List.setIfInBounds_toArray, List.set_cons_zero, List.set_cons_succ]
      refine takeH12 23 67 (.int .i64 at_) rfl rfl (by kernel_rfl) (by kernel_rfl) (by kernel_rfl) (fun _ _ _ h => h) (Or.inl ⟨by kernel_rfl, fun W _ => by go_simp⟩) hS ?_
      simp only [Act.put, List.setIfInBounds_toArray, List.set_cons_zero, List.set_cons_succ]
      refine takeH12 24 68 (.pointer (some ⟨w.heap.size + 1, 1, none⟩)) rfl rfl (by kernel_rfl) (by kernel_rfl) (by kernel_rfl) (fun _ _ _ h => h) (Or.inl ⟨by kernel_rfl, fun W _ => by go_simp⟩) hS ?_
      simp only [Act.put, List.setIfInBounds_toArray, List.set_cons_zero, List.set_cons_succ]
      refine takeH12 25 69 (.string (str y)) rfl rfl (by kernel_rfl) (by kernel_rfl) (by kernel_rfl) (fun _ _ _ h => h) (Or.inl ⟨by kernel_rfl, fun W hW => by have hc := (((hS2 W).1 hW).1.2.2.2.1); go_simp⟩) hS ?_
      simp only [Act.put, List.setIfInBounds_toArray, List.set_cons_zero, List.set_cons_succ]
      refine takeH12 27 71 (.agg #[.slice aa na.length ac]) rfl rfl (by kernel_rfl) (by kernel_rfl) (by kernel_rfl) (fun _ _ _ h => h) (Or.inl ⟨by kernel_rfl, fun W hW => by have hc := (((hS2 W).1 hW).1.2.1); go_simp⟩) hS ?_
      simp only [Act.put, List.setIfInBounds_toArray, List.set_cons_zero, List.set_cons_succ]
      refine takeH12 28 72 (.int .i64 at_) rfl rfl (by kernel_rfl) (by kernel_rfl) (by kernel_rfl) (fun _ _ _ h => h) (Or.inl ⟨by kernel_rfl, fun W _ => by go_simp⟩) hS ?_
      simp only [Act.put, List.setIfInBounds_toArray, List.set_cons_zero, List.set_cons_succ]
      refine takeH12 30 74 (.pointer (some ⟨w.heap.size + 1, 1, none⟩)) rfl rfl (by kernel_rfl) (by kernel_rfl) (by kernel_rfl) (fun _ _ _ h => h) (Or.inl ⟨by kernel_rfl, fun W _ => by go_simp⟩) hS ?_
      simp only [Act.put, List.setIfInBounds_toArray, List.set_cons_zero, List.set_cons_succ]
      refine takeH12 31 75 (.string (str y)) rfl rfl (by kernel_rfl) (by kernel_rfl) (by kernel_rfl) (fun _ _ _ h => h) (Or.inl ⟨by kernel_rfl, fun W hW => by have hc := (((hS2 W).1 hW).1.2.2.2.1); go_simp⟩) hS ?_
      simp only [Act.put, List.setIfInBounds_toArray, List.set_cons_zero, List.set_cons_succ]
      refine wpAnyH_ready (rs := [26]) (by kernel_rfl) (by simp) ?_
      refine AllReadyH.cons rfl (fun K hK => ?_) AllReadyH.nil
      go_simp
      refine (CH.out _ ((hS2 _).1 hS).1).mono ?_
      rintro e wh ⟨rfl, hY⟩
      refine hK.out _ _ ((hS2 _).2 ⟨LaAt.below ((hS2 _).1 hS).1 hY, ReadsTexts13.below ((hS2 _).1 hS).2.1 hY, ReadsTexts13.below ((hS2 _).1 hS).2.2 hY⟩) (fun hS => ?_)
      clear hK K hY
      refine wpAnyH_ready (rs := [29]) (by kernel_rfl) (by simp) ?_
      refine AllReadyH.cons rfl (fun K hK => ?_) AllReadyH.nil
      go_simp
      refine (CC.out _ ((hS2 _).1 hS).1).mono ?_
      rintro e wr ⟨vr, rfl, hO, hY⟩
      obtain ⟨ar, cr, rfl⟩ := ReadsTexts13.form hO.reads
      have HRr := hideT hO.reads
      clear hO
      refine hK.out _ _ ((hS2 _).2 ⟨LaAt.below ((hS2 _).1 hS).1 hY, ReadsTexts13.below ((hS2 _).1 hS).2.1 hY, ReadsTexts13.below ((hS2 _).1 hS).2.2 hY⟩) (fun hS => ?_)
      clear hK K hY
      obtain ⟨S3, hS3⟩ : ∃ S : World → Prop, ∀ W, S W ↔ LaAt w aa na.length ac x y z W ∧ ReadsTexts W (.slice ap ts.length cp) ts ∧ ReadsTexts W (.slice aq ts.length cq) ts ∧ ReadsTexts W (.slice ar us.length cr) us := ⟨_, fun _ => Iff.rfl⟩
      refine wpAnyH_weaker (S' := S3) (fun W h => (hS2 W).2 (⟨((hS3 W).1 h).1, ((hS3 W).1 h).2.1, ((hS3 W).1 h).2.2.1⟩ : LaAt w aa na.length ac x y z W ∧ ReadsTexts W (.slice ap ts.length cp) ts ∧ ReadsTexts W (.slice aq ts.length cq) ts)) _ _ _ _ ?_
      replace hS := (hS3 _).2 ⟨((hS2 _).1 hS).1, ((hS2 _).1 hS).2.1, ((hS2 _).1 hS).2.2, HRr.out⟩
      refine wpAnyH_ready (rs := [32]) (by kernel_rfl) (by simp) ?_
      refine AllReadyH.cons rfl (fun K hK => ?_) AllReadyH.nil
      go_simp
      refine (RHas13_any us _ y _ ((hS3 _).1 hS).2.2.2 (by omega)).mono ?_
      rintro e wz ⟨rfl, hz⟩
      replace hz := hz.symm
      subst hz
      rw [HHW.out]
      refine hK.out _ _ hS (fun hS => ?_)
      clear hK K
      refine takeH12 33 77 (.bool true) rfl rfl (by kernel_rfl) (by kernel_rfl) (by kernel_rfl) (fun _ _ _ h => h) (Or.inl ⟨by kernel_rfl, fun W _ => by cases hx <;> go_simp⟩) hS ?_
      simp only [Act.put, List.setIfInBounds_toArray, List.set_cons_zero, List.set_cons_succ]
      refine takeH12 34 78 (.bool true) rfl rfl (by kernel_rfl) (by kernel_rfl) (by kernel_rfl) (fun _ _ _ h => h) (Or.inl ⟨by kernel_rfl, fun W _ => by go_simp⟩) hS ?_
      simp only [Act.put, List.setIfInBounds_toArray, List.set_cons_zero, List.set_cons_succ]
      refine takeH12 35 79 (.bool true) rfl rfl (by kernel_rfl) (by kernel_rfl) (by kernel_rfl) (fun _ _ _ h => h) (Or.inl ⟨by kernel_rfl, fun W _ => by go_simp⟩) hS ?_
      simp only [Act.put, List.setIfInBounds_toArray, List.set_cons_zero, List.set_cons_succ]
      refine takeH12 36 80 (.agg #[.slice aa na.length ac]) rfl rfl (by kernel_rfl) (by kernel_rfl) (by kernel_rfl) (fun _ _ _ h => h) (Or.inl ⟨by kernel_rfl, fun W hW => by have hc := (((hS3 W).1 hW).1.2.1); go_simp⟩) hS ?_
      simp only [Act.put, List.setIfInBounds_toArray, List.set_cons_zero, List.set_cons_succ]
      refine takeH12 37 81 (.int .i64 at_) rfl rfl (by kernel_rfl) (by kernel_rfl) (by kernel_rfl) (fun _ _ _ h => h) (Or.inl ⟨by kernel_rfl, fun W _ => by go_simp⟩) hS ?_
      simp only [Act.put, List.setIfInBounds_toArray, List.set_cons_zero, List.set_cons_succ]
      refine takeH12 38 82 (.pointer (some ⟨w.heap.size + 1, 1, none⟩)) rfl rfl (by kernel_rfl) (by kernel_rfl) (by kernel_rfl) (fun _ _ _ h => h) (Or.inl ⟨by kernel_rfl, fun W _ => by go_simp⟩) hS ?_
      simp only [Act.put, List.setIfInBounds_toArray, List.set_cons_zero, List.set_cons_succ]
      refine takeH12 39 83 (.string (str y)) rfl rfl (by kernel_rfl) (by kernel_rfl) (by kernel_rfl) (fun _ _ _ h => h) (Or.inl ⟨by kernel_rfl, fun W hW => by have hc := (((hS3 W).1 hW).1.2.2.2.1); go_simp⟩) hS ?_
      simp only [Act.put, List.setIfInBounds_toArray, List.set_cons_zero, List.set_cons_succ]
      refine takeH12 40 84 (.pointer (some ⟨w.heap.size + 1, 2, none⟩)) rfl rfl (by kernel_rfl) (by kernel_rfl) (by kernel_rfl) (fun _ _ _ h => h) (Or.inl ⟨by kernel_rfl, fun W _ => by go_simp⟩) hS ?_
      simp only [Act.put, List.setIfInBounds_toArray, List.set_cons_zero, List.set_cons_succ]
      refine takeH12 41 85 (.string (str z)) rfl rfl (by kernel_rfl) (by kernel_rfl) (by kernel_rfl) (fun _ _ _ h => h) (Or.inl ⟨by kernel_rfl, fun W hW => by have hc := (((hS3 W).1 hW).1.2.2.2.2); go_simp⟩) hS ?_
      simp only [Act.put, List.setIfInBounds_toArray, List.set_cons_zero, List.set_cons_succ]
      refine takeH12 44 88 (.agg #[.slice aa na.length ac]) rfl rfl (by kernel_rfl) (by kernel_rfl) (by kernel_rfl) (fun _ _ _ h => h) (Or.inl ⟨by kernel_rfl, fun W hW => by have hc := (((hS3 W).1 hW).1.2.1); go_simp⟩) hS ?_
      simp only [Act.put, List.setIfInBounds_toArray, List.set_cons_zero, List.set_cons_succ]
      refine takeH12 45 89 (.int .i64 at_) rfl rfl (by kernel_rfl) (by kernel_rfl) (by kernel_rfl) (fun _ _ _ h => h) (Or.inl ⟨by kernel_rfl, fun W _ => by go_simp⟩) hS ?_
      simp only [Act.put, List.setIfInBounds_toArray, List.set_cons_zero, List.set_cons_succ]
      refine takeH12 46 90 (.pointer (some ⟨w.heap.size + 1, 1, none⟩)) rfl rfl (by kernel_rfl) (by kernel_rfl) (by kernel_rfl) (fun _ _ _ h => h) (Or.inl ⟨by kernel_rfl, fun W _ => by go_simp⟩) hS ?_
      simp only [Act.put, List.setIfInBounds_toArray, List.set_cons_zero, List.set_cons_succ]
      refine takeH12 47 91 (.string (str y)) rfl rfl (by kernel_rfl) (by kernel_rfl) (by kernel_rfl) (fun _ _ _ h => h) (Or.inl ⟨by kernel_rfl, fun W hW => by have hc := (((hS3 W).1 hW).1.2.2.2.1); go_simp⟩) hS ?_
      simp only [Act.put, List.setIfInBounds_toArray, List.set_cons_zero, List.set_cons_succ]
      refine takeH12 48 92 (.pointer (some ⟨w.heap.size + 1, 2, none⟩)) rfl rfl (by kernel_rfl) (by kernel_rfl) (by kernel_rfl) (fun _ _ _ h => h) (Or.inl ⟨by kernel_rfl, fun W _ => by go_simp⟩) hS ?_
      simp only [Act.put, List.setIfInBounds_toArray, List.set_cons_zero, List.set_cons_succ]
      refine takeH12 49 93 (.string (str z)) rfl rfl (by kernel_rfl) (by kernel_rfl) (by kernel_rfl) (fun _ _ _ h => h) (Or.inl ⟨by kernel_rfl, fun W hW => by have hc := (((hS3 W).1 hW).1.2.2.2.2); go_simp⟩) hS ?_
      simp only [Act.put, List.setIfInBounds_toArray, List.set_cons_zero, List.set_cons_succ]
      refine wpAnyH_ready (rs := [42, 50]) (by kernel_rfl) (by simp) ?_
      refine AllReadyH.cons rfl (fun K hK => ?_) (AllReadyH.cons rfl (fun K hK => ?_) AllReadyH.nil)
      · go_simp
        refine hK.out _ _ ((hS3 _).2 ⟨LaAt.below ((hS3 _).1 hS).1 (Below.alloc (Below.refl _ _) (Nat.le_refl _) _), ReadsTexts13.below ((hS3 _).1 hS).2.1 (Below.alloc (Below.refl _ _) (Nat.le_refl _) _), ReadsTexts13.below ((hS3 _).1 hS).2.2.1 (Below.alloc (Below.refl _ _) (Nat.le_refl _) _), ReadsTexts13.below ((hS3 _).1 hS).2.2.2 (Below.alloc (Below.refl _ _) (Nat.le_refl _) _)⟩) (fun hS => ?_)
        clear hK K
        have HLf := hideT (lit14 wr y z)
        generalize (World.alloc wr (.cells #[.string (str y), .string (str z)] 9)) = wlf at *
        generalize (World.heap wr).size = bf at *
        obtain ⟨S4, hS4⟩ : ∃ S : World → Prop, ∀ W, S W ↔ LaAt w aa na.length ac x y z W ∧ ReadsTexts W (.slice ap ts.length cp) ts ∧ ReadsTexts W (.slice aq ts.length cq) ts ∧ ReadsTexts W (.slice ar us.length cr) us ∧ ReadsTexts W (.slice (some ⟨bf, 0, none⟩) 2 2) [y, z] := ⟨_, fun _ => Iff.rfl⟩
        refine wpAnyH_weaker (S' := S4) (fun W h => (hS3 W).2 (⟨((hS4 W).1 h).1, ((hS4 W).1 h).2.1, ((hS4 W).1 h).2.2.1, ((hS4 W).1 h).2.2.2.1⟩ : LaAt w aa na.length ac x y z W ∧ ReadsTexts W (.slice ap ts.length cp) ts ∧ ReadsTexts W (.slice aq ts.length cq) ts ∧ ReadsTexts W (.slice ar us.length cr) us)) _ _ _ _ ?_
        replace hS := (hS4 _).2 ⟨((hS3 _).1 hS).1, ((hS3 _).1 hS).2.1, ((hS3 _).1 hS).2.2.1, ((hS3 _).1 hS).2.2.2, HLf.out⟩
        refine wpAnyH_ready (rs := [43, 50]) (by kernel_rfl) (by simp) ?_
        refine AllReadyH.cons rfl (fun K hK => ?_) (AllReadyH.cons rfl (fun K hK => ?_) AllReadyH.nil)
        · go_simp
          refine (CS.out _ ((hS4 _).1 hS).1 _ ((hS4 _).1 hS).2.2.2.2).mono ?_
          rintro e wm1 ⟨vm1, rfl, hO, hY⟩
          obtain ⟨am1, cm1, rfl⟩ := ReadsTexts13.form hO.reads
          have HRm1 := hideT hO.reads
          clear hO
          refine hK.out _ _ ((hS4 _).2 ⟨LaAt.below ((hS4 _).1 hS).1 hY, ReadsTexts13.below ((hS4 _).1 hS).2.1 hY, ReadsTexts13.below ((hS4 _).1 hS).2.2.1 hY, ReadsTexts13.below ((hS4 _).1 hS).2.2.2.1 hY, ReadsTexts13.below ((hS4 _).1 hS).2.2.2.2 hY⟩) (fun hS => ?_)
          clear hK K hY
          obtain ⟨S5, hS5⟩ : ∃ S : World → Prop, ∀ W, S W ↔ LaAt w aa na.length ac x y z W ∧ ReadsTexts W (.slice ap ts.length cp) ts ∧ ReadsTexts W (.slice aq ts.length cq) ts ∧ ReadsTexts W (.slice ar us.length cr) us ∧ ReadsTexts W (.slice (some ⟨bf, 0, none⟩) 2 2) [y, z] ∧ ReadsTexts W (.slice am1 ss.length cm1) ss := ⟨_, fun _ => Iff.rfl⟩
          refine wpAnyH_weaker (S' := S5) (fun W h => (hS4 W).2 (⟨((hS5 W).1 h).1, ((hS5 W).1 h).2.1, ((hS5 W).1 h).2.2.1, ((hS5 W).1 h).2.2.2.1, ((hS5 W).1 h).2.2.2.2.1⟩ : LaAt w aa na.length ac x y z W ∧ ReadsTexts W (.slice ap ts.length cp) ts ∧ ReadsTexts W (.slice aq ts.length cq) ts ∧ ReadsTexts W (.slice ar us.length cr) us ∧ ReadsTexts W (.slice (some ⟨bf, 0, none⟩) 2 2) [y, z])) _ _ _ _ ?_
          replace hS := (hS5 _).2 ⟨((hS4 _).1 hS).1, ((hS4 _).1 hS).2.1, ((hS4 _).1 hS).2.2.1, ((hS4 _).1 hS).2.2.2.1, ((hS4 _).1 hS).2.2.2.2, HRm1.out⟩
          refine wpAnyH_ready (rs := [50]) (by kernel_rfl) (by simp) ?_
          refine AllReadyH.cons rfl (fun K hK => ?_) AllReadyH.nil
          go_simp
          refine hK.out _ _ ((hS5 _).2 ⟨LaAt.below ((hS5 _).1 hS).1 (Below.alloc (Below.refl _ _) (Nat.le_refl _) _), ReadsTexts13.below ((hS5 _).1 hS).2.1 (Below.alloc (Below.refl _ _) (Nat.le_refl _) _), ReadsTexts13.below ((hS5 _).1 hS).2.2.1 (Below.alloc (Below.refl _ _) (Nat.le_refl _) _), ReadsTexts13.below ((hS5 _).1 hS).2.2.2.1 (Below.alloc (Below.refl _ _) (Nat.le_refl _) _), ReadsTexts13.below ((hS5 _).1 hS).2.2.2.2.1 (Below.alloc (Below.refl _ _) (Nat.le_refl _) _), ReadsTexts13.below ((hS5 _).1 hS).2.2.2.2.2 (Below.alloc (Below.refl _ _) (Nat.le_refl _) _)⟩) (fun hS => ?_)
          clear hK K
          have HLg := hideT (lit14 wm1 y z)
          generalize (World.alloc wm1 (.cells #[.string (str y), .string (str z)] 9)) = wlg at *
          generalize (World.heap wm1).size = bg at *
          obtain ⟨S6, hS6⟩ : ∃ S : World → Prop, ∀ W, S W ↔ LaAt w aa na.length ac x y z W ∧ ReadsTexts W (.slice ap ts.length cp) ts ∧ ReadsTexts W (.slice aq ts.length cq) ts ∧ ReadsTexts W (.slice ar us.length cr) us ∧ ReadsTexts W (.slice (some ⟨bf, 0, none⟩) 2 2) [y, z] ∧ ReadsTexts W (.slice am1 ss.length cm1) ss ∧ ReadsTexts W (.slice (some ⟨bg, 0, none⟩) 2 2) [y, z] := ⟨_, fun _ => Iff.rfl⟩
          refine wpAnyH_weaker (S' := S6) (fun W h => (hS5 W).2 (⟨((hS6 W).1 h).1, ((hS6 W).1 h).2.1, ((hS6 W).1 h).2.2.1, ((hS6 W).1 h).2.2.2.1, ((hS6 W).1 h).2.2.2.2.1, ((hS6 W).1 h).2.2.2.2.2.1⟩ : LaAt w aa na.length ac x y z W ∧ ReadsTexts W (.slice ap ts.length cp) ts ∧ ReadsTexts W (.slice aq ts.length cq) ts ∧ ReadsTexts W (.slice ar us.length cr) us ∧ ReadsTexts W (.slice (some ⟨bf, 0, none⟩) 2 2) [y, z] ∧ ReadsTexts W (.slice am1 ss.length cm1) ss)) _ _ _ _ ?_
          replace hS := (hS6 _).2 ⟨((hS5 _).1 hS).1, ((hS5 _).1 hS).2.1, ((hS5 _).1 hS).2.2.1, ((hS5 _).1 hS).2.2.2.1, ((hS5 _).1 hS).2.2.2.2.1, ((hS5 _).1 hS).2.2.2.2.2, HLg.out⟩
          refine wpAnyH_ready (rs := [51]) (by kernel_rfl) (by simp) ?_
          refine AllReadyH.cons rfl (fun K hK => ?_) AllReadyH.nil
          go_simp
          refine (CR.out _ ((hS6 _).1 hS).1 _ ((hS6 _).1 hS).2.2.2.2.2.2).mono ?_
          rintro e wm2 ⟨vm2, rfl, hO, hY⟩
          obtain ⟨am2, cm2, rfl⟩ := ReadsTexts13.form hO.reads
          have HRm2 := hideT hO.reads
          clear hO
          refine hK.out _ _ ((hS6 _).2 ⟨LaAt.below ((hS6 _).1 hS).1 hY, ReadsTexts13.below ((hS6 _).1 hS).2.1 hY, ReadsTexts13.below ((hS6 _).1 hS).2.2.1 hY, ReadsTexts13.below ((hS6 _).1 hS).2.2.2.1 hY, ReadsTexts13.below ((hS6 _).1 hS).2.2.2.2.1 hY, ReadsTexts13.below ((hS6 _).1 hS).2.2.2.2.2.1 hY, ReadsTexts13.below ((hS6 _).1 hS).2.2.2.2.2.2 hY⟩) (fun hS => ?_)
          clear hK K hY
          obtain ⟨S7, hS7⟩ : ∃ S : World → Prop, ∀ W, S W ↔ LaAt w aa na.length ac x y z W ∧ ReadsTexts W (.slice ap ts.length cp) ts ∧ ReadsTexts W (.slice aq ts.length cq) ts ∧ ReadsTexts W (.slice ar us.length cr) us ∧ ReadsTexts W (.slice (some ⟨bf, 0, none⟩) 2 2) [y, z] ∧ ReadsTexts W (.slice am1 ss.length cm1) ss ∧ ReadsTexts W (.slice (some ⟨bg, 0, none⟩) 2 2) [y, z] ∧ ReadsTexts W (.slice am2 ss.length cm2) ss := ⟨_, fun _ => Iff.rfl⟩
          refine wpAnyH_weaker (S' := S7) (fun W h => (hS6 W).2 (⟨((hS7 W).1 h).1, ((hS7 W).1 h).2.1, ((hS7 W).1 h).2.2.1, ((hS7 W).1 h).2.2.2.1, ((hS7 W).1 h).2.2.2.2.1, ((hS7 W).1 h).2.2.2.2.2.1, ((hS7 W).1 h).2.2.2.2.2.2.1⟩ : LaAt w aa na.length ac x y z W ∧ ReadsTexts W (.slice ap ts.length cp) ts ∧ ReadsTexts W (.slice aq ts.length cq) ts ∧ ReadsTexts W (.slice ar us.length cr) us ∧ ReadsTexts W (.slice (some ⟨bf, 0, none⟩) 2 2) [y, z] ∧ ReadsTexts W (.slice am1 ss.length cm1) ss ∧ ReadsTexts W (.slice (some ⟨bg, 0, none⟩) 2 2) [y, z])) _ _ _ _ ?_
          replace hS := (hS7 _).2 ⟨((hS6 _).1 hS).1, ((hS6 _).1 hS).2.1, ((hS6 _).1 hS).2.2.1, ((hS6 _).1 hS).2.2.2.1, ((hS6 _).1 hS).2.2.2.2.1, ((hS6 _).1 hS).2.2.2.2.2.1, ((hS6 _).1 hS).2.2.2.2.2.2, HRm2.out⟩
          refine wpAnyH_ready (rs := [52]) (by kernel_rfl) (by simp) ?_
          refine AllReadyH.cons rfl (fun K hK => ?_) AllReadyH.nil
          go_simp
          refine (Texts14_bel _ _ ss _ ((hS7 _).1 hS).2.2.2.2.2.1 ((hS7 _).1 hS).2.2.2.2.2.2.2 (by omega)).mono ?_
          rintro e wu ⟨rfl, hY⟩
          refine hK.out _ _ ((hS7 _).2 ⟨LaAt.below ((hS7 _).1 hS).1 hY, ReadsTexts13.below ((hS7 _).1 hS).2.1 hY, ReadsTexts13.below ((hS7 _).1 hS).2.2.1 hY, ReadsTexts13.below ((hS7 _).1 hS).2.2.2.1 hY, ReadsTexts13.below ((hS7 _).1 hS).2.2.2.2.1 hY, ReadsTexts13.below ((hS7 _).1 hS).2.2.2.2.2.1 hY, ReadsTexts13.below ((hS7 _).1 hS).2.2.2.2.2.2.1 hY, ReadsTexts13.below ((hS7 _).1 hS).2.2.2.2.2.2.2 hY⟩) (fun hS => ?_)
          clear hK K hY
          refine takeH12 53 97 (.bool true) rfl rfl (by kernel_rfl) (by kernel_rfl) (by kernel_rfl) (fun _ _ _ h => h) (Or.inl ⟨by kernel_rfl, fun W _ => by go_simp⟩) hS ?_
          simp only [Act.put, List.setIfInBounds_toArray, List.set_cons_zero, List.set_cons_succ]
          refine takeH12 54 98 (.bool true) rfl rfl (by kernel_rfl) (by kernel_rfl) (by kernel_rfl) (fun _ _ _ h => h) (Or.inl ⟨by kernel_rfl, fun W _ => by go_simp⟩) hS ?_
          simp only [Act.put, List.setIfInBounds_toArray, List.set_cons_zero, List.set_cons_succ]
          refine takeH12 55 99 (.agg #[.slice aa na.length ac]) rfl rfl (by kernel_rfl) (by kernel_rfl) (by kernel_rfl) (fun _ _ _ h => h) (Or.inl ⟨by kernel_rfl, fun W hW => by have hc := (((hS7 W).1 hW).1.2.1); go_simp⟩) hS ?_
          simp only [Act.put, List.setIfInBounds_toArray, List.set_cons_zero, List.set_cons_succ]
          refine takeH12 56 100 (.int .i64 at_) rfl rfl (by kernel_rfl) (by kernel_rfl) (by kernel_rfl) (fun _ _ _ h => h) (Or.inl ⟨by kernel_rfl, fun W _ => by go_simp⟩) hS ?_
          simp only [Act.put, List.setIfInBounds_toArray, List.set_cons_zero, List.set_cons_succ]
          refine wpAnyH_ready (rs := [57]) (by kernel_rfl) (by simp) ?_
          refine AllReadyH.cons rfl (fun K hK => ?_) AllReadyH.nil
          go_simp
          refine (CN.out _ ((hS7 _).1 hS).1).mono ?_
          rintro e wn ⟨vn, rfl, hO, hY⟩
          obtain ⟨an, cn, rfl⟩ := ReadsTexts13.form hO.reads
          have HRn := hideT hO.reads
          clear hO
          refine hK.out _ _ ((hS7 _).2 ⟨LaAt.below ((hS7 _).1 hS).1 hY, ReadsTexts13.below ((hS7 _).1 hS).2.1 hY, ReadsTexts13.below ((hS7 _).1 hS).2.2.1 hY, ReadsTexts13.below ((hS7 _).1 hS).2.2.2.1 hY, ReadsTexts13.below ((hS7 _).1 hS).2.2.2.2.1 hY, ReadsTexts13.below ((hS7 _).1 hS).2.2.2.2.2.1 hY, ReadsTexts13.below ((hS7 _).1 hS).2.2.2.2.2.2.1 hY, ReadsTexts13.below ((hS7 _).1 hS).2.2.2.2.2.2.2 hY⟩) (fun hS => ?_)
          clear hK K hY
          obtain ⟨S8, hS8⟩ : ∃ S : World → Prop, ∀ W, S W ↔ LaAt w aa na.length ac x y z W ∧ ReadsTexts W (.slice ap ts.length cp) ts ∧ ReadsTexts W (.slice aq ts.length cq) ts ∧ ReadsTexts W (.slice ar us.length cr) us ∧ ReadsTexts W (.slice (some ⟨bf, 0, none⟩) 2 2) [y, z] ∧ ReadsTexts W (.slice am1 ss.length cm1) ss ∧ ReadsTexts W (.slice (some ⟨bg, 0, none⟩) 2 2) [y, z] ∧ ReadsTexts W (.slice am2 ss.length cm2) ss ∧ ReadsTexts W (.slice an 0 cn) [] := ⟨_, fun _ => Iff.rfl⟩
          refine wpAnyH_weaker (S' := S8) (fun W h => (hS7 W).2 (⟨((hS8 W).1 h).1, ((hS8 W).1 h).2.1, ((hS8 W).1 h).2.2.1, ((hS8 W).1 h).2.2.2.1, ((hS8 W).1 h).2.2.2.2.1, ((hS8 W).1 h).2.2.2.2.2.1, ((hS8 W).1 h).2.2.2.2.2.2.1, ((hS8 W).1 h).2.2.2.2.2.2.2.1⟩ : LaAt w aa na.length ac x y z W ∧ ReadsTexts W (.slice ap ts.length cp) ts ∧ ReadsTexts W (.slice aq ts.length cq) ts ∧ ReadsTexts W (.slice ar us.length cr) us ∧ ReadsTexts W (.slice (some ⟨bf, 0, none⟩) 2 2) [y, z] ∧ ReadsTexts W (.slice am1 ss.length cm1) ss ∧ ReadsTexts W (.slice (some ⟨bg, 0, none⟩) 2 2) [y, z] ∧ ReadsTexts W (.slice am2 ss.length cm2) ss)) _ _ _ _ ?_
          replace hS := (hS8 _).2 ⟨((hS7 _).1 hS).1, ((hS7 _).1 hS).2.1, ((hS7 _).1 hS).2.2.1, ((hS7 _).1 hS).2.2.2.1, ((hS7 _).1 hS).2.2.2.2.1, ((hS7 _).1 hS).2.2.2.2.2.1, ((hS7 _).1 hS).2.2.2.2.2.2.1, ((hS7 _).1 hS).2.2.2.2.2.2.2, HRn.out⟩
          refine takeH12 58 102 (.int .i64 0) rfl rfl (by kernel_rfl) (by kernel_rfl) (by kernel_rfl) (fun _ _ _ h => h) (Or.inl ⟨by kernel_rfl, fun W _ => by go_simp⟩) hS ?_
          simp only [Act.put, List.setIfInBounds_toArray, List.set_cons_zero, List.set_cons_succ]
          refine takeH12 59 103 (.bool true) rfl rfl (by kernel_rfl) (by kernel_rfl) (by kernel_rfl) (fun _ _ _ h => h) (Or.inl ⟨by kernel_rfl, fun W _ => by go_simp⟩) hS ?_
          simp only [Act.put, List.setIfInBounds_toArray, List.set_cons_zero, List.set_cons_succ]
          refine takeH12 60 104 (.bool true) rfl rfl (by kernel_rfl) (by kernel_rfl) (by kernel_rfl) (fun _ _ _ h => h) (Or.inl ⟨by kernel_rfl, fun W _ => by go_simp⟩) hS ?_
          simp only [Act.put, List.setIfInBounds_toArray, List.set_cons_zero, List.set_cons_succ]
          refine takeH12 61 105 (.bool true) rfl rfl (by kernel_rfl) (by kernel_rfl) (by kernel_rfl) (fun _ _ _ h => h) (Or.inl ⟨by kernel_rfl, fun W _ => by go_simp⟩) hS ?_
          simp only [Act.put, List.setIfInBounds_toArray, List.set_cons_zero, List.set_cons_succ]
          refine wpAnyH_ready (rs := [62]) (by kernel_rfl) (by simp) ?_
          refine AllReadyH.cons rfl (fun K hK => ?_) AllReadyH.nil
          go_simp
          refine (HAl.out _ ((hS8 _).1 hS).1).mono ?_
          rintro e wl ⟨rfl, hY⟩
          refine hK.out _ _ ((hS8 _).2 ⟨LaAt.below ((hS8 _).1 hS).1 hY, ReadsTexts13.below ((hS8 _).1 hS).2.1 hY, ReadsTexts13.below ((hS8 _).1 hS).2.2.1 hY, ReadsTexts13.below ((hS8 _).1 hS).2.2.2.1 hY, ReadsTexts13.below ((hS8 _).1 hS).2.2.2.2.1 hY, ReadsTexts13.below ((hS8 _).1 hS).2.2.2.2.2.1 hY, ReadsTexts13.below ((hS8 _).1 hS).2.2.2.2.2.2.1 hY, ReadsTexts13.below ((hS8 _).1 hS).2.2.2.2.2.2.2.1 hY, ReadsTexts13.below ((hS8 _).1 hS).2.2.2.2.2.2.2.2 hY⟩) (fun hS => ?_)
          clear hK K hY
          refine takeH12 63 107 (.bool true) rfl rfl (by kernel_rfl) (by kernel_rfl) (by kernel_rfl) (fun _ _ _ h => h) (Or.inl ⟨by kernel_rfl, fun W _ => by go_simp⟩) hS ?_
          simp only [Act.put, List.setIfInBounds_toArray, List.set_cons_zero, List.set_cons_succ]
          refine takeH12 64 6 (.bool true) rfl rfl (by kernel_rfl) (by kernel_rfl) (by kernel_rfl) (fun _ _ _ h => h) (Or.inl ⟨by kernel_rfl, fun W _ => by go_simp⟩) hS ?_
          simp only [Act.put, List.setIfInBounds_toArray, List.set_cons_zero, List.set_cons_succ]
          refine wpAnyH_done (by kernel_rfl) ?_ _
          have hfin := hideT ((hS8 _).1 hS).1.1
          go_wp2
          go_ret
          exact ⟨rfl, hfin.out⟩
        · go_simp
          refine hK.out _ _ ((hS4 _).2 ⟨LaAt.below ((hS4 _).1 hS).1 (Below.alloc (Below.refl _ _) (Nat.le_refl _) _), ReadsTexts13.below ((hS4 _).1 hS).2.1 (Below.alloc (Below.refl _ _) (Nat.le_refl _) _), ReadsTexts13.below ((hS4 _).1 hS).2.2.1 (Below.alloc (Below.refl _ _) (Nat.le_refl _) _), ReadsTexts13.below ((hS4 _).1 hS).2.2.2.1 (Below.alloc (Below.refl _ _) (Nat.le_refl _) _), ReadsTexts13.below ((hS4 _).1 hS).2.2.2.2 (Below.alloc (Below.refl _ _) (Nat.le_refl _) _)⟩) (fun hS => ?_)
          clear hK K
          have HLg := hideT (lit14 wlf y z)
          generalize (World.alloc wlf (.cells #[.string (str y), .string (str z)] 9)) = wlg at *
          generalize (World.heap wlf).size = bg at *
          obtain ⟨S5, hS5⟩ : ∃ S : World → Prop, ∀ W, S W ↔ LaAt w aa na.length ac x y z W ∧ ReadsTexts W (.slice ap ts.length cp) ts ∧ ReadsTexts W (.slice aq ts.length cq) ts ∧ ReadsTexts W (.slice ar us.length cr) us ∧ ReadsTexts W (.slice (some ⟨bf, 0, none⟩) 2 2) [y, z] ∧ ReadsTexts W (.slice (some ⟨bg, 0, none⟩) 2 2) [y, z] := ⟨_, fun _ => Iff.rfl⟩
          refine wpAnyH_weaker (S' := S5) (fun W h => (hS4 W).2 (⟨((hS5 W).1 h).1, ((hS5 W).1 h).2.1, ((hS5 W).1 h).2.2.1, ((hS5 W).1 h).2.2.2.1, ((hS5 W).1 h).2.2.2.2.1⟩ : LaAt w aa na.length ac x y z W ∧ ReadsTexts W (.slice ap ts.length cp) ts ∧ ReadsTexts W (.slice aq ts.length cq) ts ∧ ReadsTexts W (.slice ar us.length cr) us ∧ ReadsTexts W (.slice (some ⟨bf, 0, none⟩) 2 2) [y, z])) _ _ _ _ ?_
          replace hS := (hS5 _).2 ⟨((hS4 _).1 hS).1, ((hS4 _).1 hS).2.1, ((hS4 _).1 hS).2.2.1, ((hS4 _).1 hS).2.2.2.1, ((hS4 _).1 hS).2.2.2.2, HLg.out⟩
          refine wpAnyH_ready (rs := [43]) (by kernel_rfl) (by simp) ?_
          refine AllReadyH.cons rfl (fun K hK => ?_) AllReadyH.nil
          go_simp
          refine (CS.out _ ((hS5 _).1 hS).1 _ ((hS5 _).1 hS).2.2.2.2.1).mono ?_
          rintro e wm1 ⟨vm1, rfl, hO, hY⟩
          obtain ⟨am1, cm1, rfl⟩ := ReadsTexts13.form hO.reads
          have HRm1 := hideT hO.reads
          clear hO
          refine hK.out _ _ ((hS5 _).2 ⟨LaAt.below ((hS5 _).1 hS).1 hY, ReadsTexts13.below ((hS5 _).1 hS).2.1 hY, ReadsTexts13.below ((hS5 _).1 hS).2.2.1 hY, ReadsTexts13.below ((hS5 _).1 hS).2.2.2.1 hY, ReadsTexts13.below ((hS5 _).1 hS).2.2.2.2.1 hY, ReadsTexts13.below ((hS5 _).1 hS).2.2.2.2.2 hY⟩) (fun hS => ?_)
          clear hK K hY
          obtain ⟨S6, hS6⟩ : ∃ S : World → Prop, ∀ W, S W ↔ LaAt w aa na.length ac x y z W ∧ ReadsTexts W (.slice ap ts.length cp) ts ∧ ReadsTexts W (.slice aq ts.length cq) ts ∧ ReadsTexts W (.slice ar us.length cr) us ∧ ReadsTexts W (.slice (some ⟨bf, 0, none⟩) 2 2) [y, z] ∧ ReadsTexts W (.slice (some ⟨bg, 0, none⟩) 2 2) [y, z] ∧ ReadsTexts W (.slice am1 ss.length cm1) ss := ⟨_, fun _ => Iff.rfl⟩
          refine wpAnyH_weaker (S' := S6) (fun W h => (hS5 W).2 (⟨((hS6 W).1 h).1, ((hS6 W).1 h).2.1, ((hS6 W).1 h).2.2.1, ((hS6 W).1 h).2.2.2.1, ((hS6 W).1 h).2.2.2.2.1, ((hS6 W).1 h).2.2.2.2.2.1⟩ : LaAt w aa na.length ac x y z W ∧ ReadsTexts W (.slice ap ts.length cp) ts ∧ ReadsTexts W (.slice aq ts.length cq) ts ∧ ReadsTexts W (.slice ar us.length cr) us ∧ ReadsTexts W (.slice (some ⟨bf, 0, none⟩) 2 2) [y, z] ∧ ReadsTexts W (.slice (some ⟨bg, 0, none⟩) 2 2) [y, z])) _ _ _ _ ?_
          replace hS := (hS6 _).2 ⟨((hS5 _).1 hS).1, ((hS5 _).1 hS).2.1, ((hS5 _).1 hS).2.2.1, ((hS5 _).1 hS).2.2.2.1, ((hS5 _).1 hS).2.2.2.2.1, ((hS5 _).1 hS).2.2.2.2.2, HRm1.out⟩
          refine wpAnyH_ready (rs := [51]) (by kernel_rfl) (by simp) ?_
          refine AllReadyH.cons rfl (fun K hK => ?_) AllReadyH.nil
          go_simp
          refine (CR.out _ ((hS6 _).1 hS).1 _ ((hS6 _).1 hS).2.2.2.2.2.1).mono ?_
          rintro e wm2 ⟨vm2, rfl, hO, hY⟩
          obtain ⟨am2, cm2, rfl⟩ := ReadsTexts13.form hO.reads
          have HRm2 := hideT hO.reads
          clear hO
          refine hK.out _ _ ((hS6 _).2 ⟨LaAt.below ((hS6 _).1 hS).1 hY, ReadsTexts13.below ((hS6 _).1 hS).2.1 hY, ReadsTexts13.below ((hS6 _).1 hS).2.2.1 hY, ReadsTexts13.below ((hS6 _).1 hS).2.2.2.1 hY, ReadsTexts13.below ((hS6 _).1 hS).2.2.2.2.1 hY, ReadsTexts13.below ((hS6 _).1 hS).2.2.2.2.2.1 hY, ReadsTexts13.below ((hS6 _).1 hS).2.2.2.2.2.2 hY⟩) (fun hS => ?_)
          clear hK K hY
          obtain ⟨S7, hS7⟩ : ∃ S : World → Prop, ∀ W, S W ↔ LaAt w aa na.length ac x y z W ∧ ReadsTexts W (.slice ap ts.length cp) ts ∧ ReadsTexts W (.slice aq ts.length cq) ts ∧ ReadsTexts W (.slice ar us.length cr) us ∧ ReadsTexts W (.slice (some ⟨bf, 0, none⟩) 2 2) [y, z] ∧ ReadsTexts W (.slice (some ⟨bg, 0, none⟩) 2 2) [y, z] ∧ ReadsTexts W (.slice am1 ss.length cm1) ss ∧ ReadsTexts W (.slice am2 ss.length cm2) ss := ⟨_, fun _ => Iff.rfl⟩
          refine wpAnyH_weaker (S' := S7) (fun W h => (hS6 W).2 (⟨((hS7 W).1 h).1, ((hS7 W).1 h).2.1, ((hS7 W).1 h).2.2.1, ((hS7 W).1 h).2.2.2.1, ((hS7 W).1 h).2.2.2.2.1, ((hS7 W).1 h).2.2.2.2.2.1, ((hS7 W).1 h).2.2.2.2.2.2.1⟩ : LaAt w aa na.length ac x y z W ∧ ReadsTexts W (.slice ap ts.length cp) ts ∧ ReadsTexts W (.slice aq ts.length cq) ts ∧ ReadsTexts W (.slice ar us.length cr) us ∧ ReadsTexts W (.slice (some ⟨bf, 0, none⟩) 2 2) [y, z] ∧ ReadsTexts W (.slice (some ⟨bg, 0, none⟩) 2 2) [y, z] ∧ ReadsTexts W (.slice am1 ss.length cm1) ss)) _ _ _ _ ?_
          replace hS := (hS7 _).2 ⟨((hS6 _).1 hS).1, ((hS6 _).1 hS).2.1, ((hS6 _).1 hS).2.2.1, ((hS6 _).1 hS).2.2.2.1, ((hS6 _).1 hS).2.2.2.2.1, ((hS6 _).1 hS).2.2.2.2.2.1, ((hS6 _).1 hS).2.2.2.2.2.2, HRm2.out⟩
          refine wpAnyH_ready (rs := [52]) (by kernel_rfl) (by simp) ?_
          refine AllReadyH.cons rfl (fun K hK => ?_) AllReadyH.nil
          go_simp
          refine (Texts14_bel _ _ ss _ ((hS7 _).1 hS).2.2.2.2.2.2.1 ((hS7 _).1 hS).2.2.2.2.2.2.2 (by omega)).mono ?_
          rintro e wu ⟨rfl, hY⟩
          refine hK.out _ _ ((hS7 _).2 ⟨LaAt.below ((hS7 _).1 hS).1 hY, ReadsTexts13.below ((hS7 _).1 hS).2.1 hY, ReadsTexts13.below ((hS7 _).1 hS).2.2.1 hY, ReadsTexts13.below ((hS7 _).1 hS).2.2.2.1 hY, ReadsTexts13.below ((hS7 _).1 hS).2.2.2.2.1 hY, ReadsTexts13.below ((hS7 _).1 hS).2.2.2.2.2.1 hY, ReadsTexts13.below ((hS7 _).1 hS).2.2.2.2.2.2.1 hY, ReadsTexts13.below ((hS7 _).1 hS).2.2.2.2.2.2.2 hY⟩) (fun hS => ?_)
          clear hK K hY
          refine takeH12 53 97 (.bool true) rfl rfl (by kernel_rfl) (by kernel_rfl) (by kernel_rfl) (fun _ _ _ h => h) (Or.inl ⟨by kernel_rfl, fun W _ => by go_simp⟩) hS ?_
          simp only [Act.put, List.setIfInBounds_toArray, List.set_cons_zero, List.set_cons_succ]
          refine takeH12 54 98 (.bool true) rfl rfl (by kernel_rfl) (by kernel_rfl) (by kernel_rfl) (fun _ _ _ h => h) (Or.inl ⟨by kernel_rfl, fun W _ => by go_simp⟩) hS ?_
          simp only [Act.put, List.setIfInBounds_toArray, List.set_cons_zero, List.set_cons_succ]
          refine takeH12 55 99 (.agg #[.slice aa na.length ac]) rfl rfl (by kernel_rfl) (by kernel_rfl) (by kernel_rfl) (fun _ _ _ h => h) (Or.inl ⟨by kernel_rfl, fun W hW => by have hc := (((hS7 W).1 hW).1.2.1); go_simp⟩) hS ?_
          simp only [Act.put, List.setIfInBounds_toArray, List.set_cons_zero, List.set_cons_succ]
          refine takeH12 56 100 (.int .i64 at_) rfl rfl (by kernel_rfl) (by kernel_rfl) (by kernel_rfl) (fun _ _ _ h => h) (Or.inl ⟨by kernel_rfl, fun W _ => by go_simp⟩) hS ?_
          simp only [Act.put, List.setIfInBounds_toArray, List.set_cons_zero, List.set_cons_succ]
          refine wpAnyH_ready (rs := [57]) (by kernel_rfl) (by simp) ?_
          refine AllReadyH.cons rfl (fun K hK => ?_) AllReadyH.nil
          go_simp
          refine (CN.out _ ((hS7 _).1 hS).1).mono ?_
          rintro e wn ⟨vn, rfl, hO, hY⟩
          obtain ⟨an, cn, rfl⟩ := ReadsTexts13.form hO.reads
          have HRn := hideT hO.reads
          clear hO
          refine hK.out _ _ ((hS7 _).2 ⟨LaAt.below ((hS7 _).1 hS).1 hY, ReadsTexts13.below ((hS7 _).1 hS).2.1 hY, ReadsTexts13.below ((hS7 _).1 hS).2.2.1 hY, ReadsTexts13.below ((hS7 _).1 hS).2.2.2.1 hY, ReadsTexts13.below ((hS7 _).1 hS).2.2.2.2.1 hY, ReadsTexts13.below ((hS7 _).1 hS).2.2.2.2.2.1 hY, ReadsTexts13.below ((hS7 _).1 hS).2.2.2.2.2.2.1 hY, ReadsTexts13.below ((hS7 _).1 hS).2.2.2.2.2.2.2 hY⟩) (fun hS => ?_)
          clear hK K hY
          obtain ⟨S8, hS8⟩ : ∃ S : World → Prop, ∀ W, S W ↔ LaAt w aa na.length ac x y z W ∧ ReadsTexts W (.slice ap ts.length cp) ts ∧ ReadsTexts W (.slice aq ts.length cq) ts ∧ ReadsTexts W (.slice ar us.length cr) us ∧ ReadsTexts W (.slice (some ⟨bf, 0, none⟩) 2 2) [y, z] ∧ ReadsTexts W (.slice (some ⟨bg, 0, none⟩) 2 2) [y, z] ∧ ReadsTexts W (.slice am1 ss.length cm1) ss ∧ ReadsTexts W (.slice am2 ss.length cm2) ss ∧ ReadsTexts W (.slice an 0 cn) [] := ⟨_, fun _ => Iff.rfl⟩
          refine wpAnyH_weaker (S' := S8) (fun W h => (hS7 W).2 (⟨((hS8 W).1 h).1, ((hS8 W).1 h).2.1, ((hS8 W).1 h).2.2.1, ((hS8 W).1 h).2.2.2.1, ((hS8 W).1 h).2.2.2.2.1, ((hS8 W).1 h).2.2.2.2.2.1, ((hS8 W).1 h).2.2.2.2.2.2.1, ((hS8 W).1 h).2.2.2.2.2.2.2.1⟩ : LaAt w aa na.length ac x y z W ∧ ReadsTexts W (.slice ap ts.length cp) ts ∧ ReadsTexts W (.slice aq ts.length cq) ts ∧ ReadsTexts W (.slice ar us.length cr) us ∧ ReadsTexts W (.slice (some ⟨bf, 0, none⟩) 2 2) [y, z] ∧ ReadsTexts W (.slice (some ⟨bg, 0, none⟩) 2 2) [y, z] ∧ ReadsTexts W (.slice am1 ss.length cm1) ss ∧ ReadsTexts W (.slice am2 ss.length cm2) ss)) _ _ _ _ ?_
          replace hS := (hS8 _).2 ⟨((hS7 _).1 hS).1, ((hS7 _).1 hS).2.1, ((hS7 _).1 hS).2.2.1, ((hS7 _).1 hS).2.2.2.1, ((hS7 _).1 hS).2.2.2.2.1, ((hS7 _).1 hS).2.2.2.2.2.1, ((hS7 _).1 hS).2.2.2.2.2.2.1, ((hS7 _).1 hS).2.2.2.2.2.2.2, HRn.out⟩
          refine takeH12 58 102 (.int .i64 0) rfl rfl (by kernel_rfl) (by kernel_rfl) (by kernel_rfl) (fun _ _ _ h => h) (Or.inl ⟨by kernel_rfl, fun W _ => by go_simp⟩) hS ?_
          simp only [Act.put, List.setIfInBounds_toArray, List.set_cons_zero, List.set_cons_succ]
          refine takeH12 59 103 (.bool true) rfl rfl (by kernel_rfl) (by kernel_rfl) (by kernel_rfl) (fun _ _ _ h => h) (Or.inl ⟨by kernel_rfl, fun W _ => by go_simp⟩) hS ?_
          simp only [Act.put, List.setIfInBounds_toArray, List.set_cons_zero, List.set_cons_succ]
          refine takeH12 60 104 (.bool true) rfl rfl (by kernel_rfl) (by kernel_rfl) (by kernel_rfl) (fun _ _ _ h => h) (Or.inl ⟨by kernel_rfl, fun W _ => by go_simp⟩) hS ?_
          simp only [Act.put, List.setIfInBounds_toArray, List.set_cons_zero, List.set_cons_succ]
          refine takeH12 61 105 (.bool true) rfl rfl (by kernel_rfl) (by kernel_rfl) (by kernel_rfl) (fun _ _ _ h => h) (Or.inl ⟨by kernel_rfl, fun W _ => by go_simp⟩) hS ?_
          simp only [Act.put, List.setIfInBounds_toArray, List.set_cons_zero, List.set_cons_succ]
          refine wpAnyH_ready (rs := [62]) (by kernel_rfl) (by simp) ?_
          refine AllReadyH.cons rfl (fun K hK => ?_) AllReadyH.nil
          go_simp
          refine (HAl.out _ ((hS8 _).1 hS).1).mono ?_
          rintro e wl ⟨rfl, hY⟩
          refine hK.out _ _ ((hS8 _).2 ⟨LaAt.below ((hS8 _).1 hS).1 hY, ReadsTexts13.below ((hS8 _).1 hS).2.1 hY, ReadsTexts13.below ((hS8 _).1 hS).2.2.1 hY, ReadsTexts13.below ((hS8 _).1 hS).2.2.2.1 hY, ReadsTexts13.below ((hS8 _).1 hS).2.2.2.2.1 hY, ReadsTexts13.below ((hS8 _).1 hS).2.2.2.2.2.1 hY, ReadsTexts13.below ((hS8 _).1 hS).2.2.2.2.2.2.1 hY, ReadsTexts13.below ((hS8 _).1 hS).2.2.2.2.2.2.2.1 hY, ReadsTexts13.below ((hS8 _).1 hS).2.2.2.2.2.2.2.2 hY⟩) (fun hS => ?_)
          clear hK K hY
          refine takeH12 63 107 (.bool true) rfl rfl (by kernel_rfl) (by kernel_rfl) (by kernel_rfl) (fun _ _ _ h => h) (Or.inl ⟨by kernel_rfl, fun W _ => by go_simp⟩) hS ?_
          simp only [Act.put, List.setIfInBounds_toArray, List.set_cons_zero, List.set_cons_succ]
          refine takeH12 64 6 (.bool true) rfl rfl (by kernel_rfl) (by kernel_rfl) (by kernel_rfl) (fun _ _ _ h => h) (Or.inl ⟨by kernel_rfl, fun W _ => by go_simp⟩) hS ?_
          simp only [Act.put, List.setIfInBounds_toArray, List.set_cons_zero, List.set_cons_succ]
          refine wpAnyH_done (by kernel_rfl) ?_ _
          have hfin := hideT ((hS8 _).1 hS).1.1
          go_wp2
          go_ret
          exact ⟨rfl, hfin.out⟩
      · go_simp
        refine hK.out _ _ ((hS3 _).2 ⟨LaAt.below ((hS3 _).1 hS).1 (Below.alloc (Below.refl _ _) (Nat.le_refl _) _), ReadsTexts13.below ((hS3 _).1 hS).2.1 (Below.alloc (Below.refl _ _) (Nat.le_refl _) _), ReadsTexts13.below ((hS3 _).1 hS).2.2.1 (Below.alloc (Below.refl _ _) (Nat.le_refl _) _), ReadsTexts13.below ((hS3 _).1 hS).2.2.2 (Below.alloc (Below.refl _ _) (Nat.le_refl _) _)⟩) (fun hS => ?_)
        clear hK K
        have HLg := hideT (lit14 wr y z)
        generalize (World.alloc wr (.cells #[.string (str y), .string (str z)] 9)) = wlg at *
        generalize (World.heap wr).size = bg at *
        obtain ⟨S4, hS4⟩ : ∃ S : World → Prop, ∀ W, S W ↔ LaAt w aa na.length ac x y z W ∧ ReadsTexts W (.slice ap ts.length cp) ts ∧ ReadsTexts W (.slice aq ts.length cq) ts ∧ ReadsTexts W (.slice ar us.length cr) us ∧ ReadsTexts W (.slice (some ⟨bg, 0, none⟩) 2 2) [y, z] := ⟨_, fun _ => Iff.rfl⟩
        refine wpAnyH_weaker (S' := S4) (fun W h => (hS3 W).2 (⟨((hS4 W).1 h).1, ((hS4 W).1 h).2.1, ((hS4 W).1 h).2.2.1, ((hS4 W).1 h).2.2.2.1⟩ : LaAt w aa na.length ac x y z W ∧ ReadsTexts W (.slice ap ts.length cp) ts ∧ ReadsTexts W (.slice aq ts.length cq) ts ∧ ReadsTexts W (.slice ar us.length cr) us)) _ _ _ _ ?_
        replace hS := (hS4 _).2 ⟨((hS3 _).1 hS).1, ((hS3 _).1 hS).2.1, ((hS3 _).1 hS).2.2.1, ((hS3 _).1 hS).2.2.2, HLg.out⟩
        refine wpAnyH_ready (rs := [42]) (by kernel_rfl) (by simp) ?_
        refine AllReadyH.cons rfl (fun K hK => ?_) AllReadyH.nil
        go_simp
        refine hK.out _ _ ((hS4 _).2 ⟨LaAt.below ((hS4 _).1 hS).1 (Below.alloc (Below.refl _ _) (Nat.le_refl _) _), ReadsTexts13.below ((hS4 _).1 hS).2.1 (Below.alloc (Below.refl _ _) (Nat.le_refl _) _), ReadsTexts13.below ((hS4 _).1 hS).2.2.1 (Below.alloc (Below.refl _ _) (Nat.le_refl _) _), ReadsTexts13.below ((hS4 _).1 hS).2.2.2.1 (Below.alloc (Below.refl _ _) (Nat.le_refl _) _), ReadsTexts13.below ((hS4 _).1 hS).2.2.2.2 (Below.alloc (Below.refl _ _) (Nat.le_refl _) _)⟩) (fun hS => ?_)
        clear hK K
        have HLf := hideT (lit14 wlg y z)
        generalize (World.alloc wlg (.cells #[.string (str y), .string (str z)] 9)) = wlf at *
        generalize (World.heap wlg).size = bf at *
        obtain ⟨S5, hS5⟩ : ∃ S : World → Prop, ∀ W, S W ↔ LaAt w aa na.length ac x y z W ∧ ReadsTexts W (.slice ap ts.length cp) ts ∧ ReadsTexts W (.slice aq ts.length cq) ts ∧ ReadsTexts W (.slice ar us.length cr) us ∧ ReadsTexts W (.slice (some ⟨bg, 0, none⟩) 2 2) [y, z] ∧ ReadsTexts W (.slice (some ⟨bf, 0, none⟩) 2 2) [y, z] := ⟨_, fun _ => Iff.rfl⟩
        refine wpAnyH_weaker (S' := S5) (fun W h => (hS4 W).2 (⟨((hS5 W).1 h).1, ((hS5 W).1 h).2.1, ((hS5 W).1 h).2.2.1, ((hS5 W).1 h).2.2.2.1, ((hS5 W).1 h).2.2.2.2.1⟩ : LaAt w aa na.length ac x y z W ∧ ReadsTexts W (.slice ap ts.length cp) ts ∧ ReadsTexts W (.slice aq ts.length cq) ts ∧ ReadsTexts W (.slice ar us.length cr) us ∧ ReadsTexts W (.slice (some ⟨bg, 0, none⟩) 2 2) [y, z])) _ _ _ _ ?_
        replace hS := (hS5 _).2 ⟨((hS4 _).1 hS).1, ((hS4 _).1 hS).2.1, ((hS4 _).1 hS).2.2.1, ((hS4 _).1 hS).2.2.2.1, ((hS4 _).1 hS).2.2.2.2, HLf.out⟩
        refine wpAnyH_ready (rs := [43]) (by kernel_rfl) (by simp) ?_
        refine AllReadyH.cons rfl (fun K hK => ?_) AllReadyH.nil
        go_simp
        refine (CS.out _ ((hS5 _).1 hS).1 _ ((hS5 _).1 hS).2.2.2.2.2).mono ?_
        rintro e wm1 ⟨vm1, rfl, hO, hY⟩
        obtain ⟨am1, cm1, rfl⟩ := ReadsTexts13.form hO.reads
        have HRm1 := hideT hO.reads
        clear hO
        refine hK.out _ _ ((hS5 _).2 ⟨LaAt.below ((hS5 _).1 hS).1 hY, ReadsTexts13.below ((hS5 _).1 hS).2.1 hY, ReadsTexts13.below ((hS5 _).1 hS).2.2.1 hY, ReadsTexts13.below ((hS5 _).1 hS).2.2.2.1 hY, ReadsTexts13.below ((hS5 _).1 hS).2.2.2.2.1 hY, ReadsTexts13.below ((hS5 _).1 hS).2.2.2.2.2 hY⟩) (fun hS => ?_)
        clear hK K hY
        obtain ⟨S6, hS6⟩ : ∃ S : World → Prop, ∀ W, S W ↔ LaAt w aa na.length ac x y z W ∧ ReadsTexts W (.slice ap ts.length cp) ts ∧ ReadsTexts W (.slice aq ts.length cq) ts ∧ ReadsTexts W (.slice ar us.length cr) us ∧ ReadsTexts W (.slice (some ⟨bg, 0, none⟩) 2 2) [y, z] ∧ ReadsTexts W (.slice (some ⟨bf, 0, none⟩) 2 2) [y, z] ∧ ReadsTexts W (.slice am1 ss.length cm1) ss := ⟨_, fun _ => Iff.rfl⟩
        refine wpAnyH_weaker (S' := S6) (fun W h => (hS5 W).2 (⟨((hS6 W).1 h).1, ((hS6 W).1 h).2.1, ((hS6 W).1 h).2.2.1, ((hS6 W).1 h).2.2.2.1, ((hS6 W).1 h).2.2.2.2.1, ((hS6 W).1 h).2.2.2.2.2.1⟩ : LaAt w aa na.length ac x y z W ∧ ReadsTexts W (.slice ap ts.length cp) ts ∧ ReadsTexts W (.slice aq ts.length cq) ts ∧ ReadsTexts W (.slice ar us.length cr) us ∧ ReadsTexts W (.slice (some ⟨bg, 0, none⟩) 2 2) [y, z] ∧ ReadsTexts W (.slice (some ⟨bf, 0, none⟩) 2 2) [y, z])) _ _ _ _ ?_
        replace hS := (hS6 _).2 ⟨((hS5 _).1 hS).1, ((hS5 _).1 hS).2.1, ((hS5 _).1 hS).2.2.1, ((hS5 _).1 hS).2.2.2.1, ((hS5 _).1 hS).2.2.2.2.1, ((hS5 _).1 hS).2.2.2.2.2, HRm1.out⟩
        refine wpAnyH_ready (rs := [51]) (by kernel_rfl) (by simp) ?_
        refine AllReadyH.cons rfl (fun K hK => ?_) AllReadyH.nil
        go_simp
        refine (CR.out _ ((hS6 _).1 hS).1 _ ((hS6 _).1 hS).2.2.2.2.1).mono ?_
        rintro e wm2 ⟨vm2, rfl, hO, hY⟩
        obtain ⟨am2, cm2, rfl⟩ := ReadsTexts13.form hO.reads
        have HRm2 := hideT hO.reads
        clear hO
        refine hK.out _ _ ((hS6 _).2 ⟨LaAt.below ((hS6 _).1 hS).1 hY, ReadsTexts13.below ((hS6 _).1 hS).2.1 hY, ReadsTexts13.below ((hS6 _).1 hS).2.2.1 hY, ReadsTexts13.below ((hS6 _).1 hS).2.2.2.1 hY, ReadsTexts13.below ((hS6 _).1 hS).2.2.2.2.1 hY, ReadsTexts13.below ((hS6 _).1 hS).2.2.2.2.2.1 hY, ReadsTexts13.below ((hS6 _).1 hS).2.2.2.2.2.2 hY⟩) (fun hS => ?_)
        clear hK K hY
        obtain ⟨S7, hS7⟩ : ∃ S : World → Prop, ∀ W, S W ↔ LaAt w aa na.length ac x y z W ∧ ReadsTexts W (.slice ap ts.length cp) ts ∧ ReadsTexts W (.slice aq ts.length cq) ts ∧ ReadsTexts W (.slice ar us.length cr) us ∧ ReadsTexts W (.slice (some ⟨bg, 0, none⟩) 2 2) [y, z] ∧ ReadsTexts W (.slice (some ⟨bf, 0, none⟩) 2 2) [y, z] ∧ ReadsTexts W (.slice am1 ss.length cm1) ss ∧ ReadsTexts W (.slice am2 ss.length cm2) ss := ⟨_, fun _ => Iff.rfl⟩
        refine wpAnyH_weaker (S' := S7) (fun W h => (hS6 W).2 (⟨((hS7 W).1 h).1, ((hS7 W).1 h).2.1, ((hS7 W).1 h).2.2.1, ((hS7 W).1 h).2.2.2.1, ((hS7 W).1 h).2.2.2.2.1, ((hS7 W).1 h).2.2.2.2.2.1, ((hS7 W).1 h).2.2.2.2.2.2.1⟩ : LaAt w aa na.length ac x y z W ∧ ReadsTexts W (.slice ap ts.length cp) ts ∧ ReadsTexts W (.slice aq ts.length cq) ts ∧ ReadsTexts W (.slice ar us.length cr) us ∧ ReadsTexts W (.slice (some ⟨bg, 0, none⟩) 2 2) [y, z] ∧ ReadsTexts W (.slice (some ⟨bf, 0, none⟩) 2 2) [y, z] ∧ ReadsTexts W (.slice am1 ss.length cm1) ss)) _ _ _ _ ?_
        replace hS := (hS7 _).2 ⟨((hS6 _).1 hS).1, ((hS6 _).1 hS).2.1, ((hS6 _).1 hS).2.2.1, ((hS6 _).1 hS).2.2.2.1, ((hS6 _).1 hS).2.2.2.2.1, ((hS6 _).1 hS).2.2.2.2.2.1, ((hS6 _).1 hS).2.2.2.2.2.2, HRm2.out⟩
        refine wpAnyH_ready (rs := [52]) (by kernel_rfl) (by simp) ?_
        refine AllReadyH.cons rfl (fun K hK => ?_) AllReadyH.nil
        go_simp
        refine (Texts14_bel _ _ ss _ ((hS7 _).1 hS).2.2.2.2.2.2.1 ((hS7 _).1 hS).2.2.2.2.2.2.2 (by omega)).mono ?_
        rintro e wu ⟨rfl, hY⟩
        refine hK.out _ _ ((hS7 _).2 ⟨LaAt.below ((hS7 _).1 hS).1 hY, ReadsTexts13.below ((hS7 _).1 hS).2.1 hY, ReadsTexts13.below ((hS7 _).1 hS).2.2.1 hY, ReadsTexts13.below ((hS7 _).1 hS).2.2.2.1 hY, ReadsTexts13.below ((hS7 _).1 hS).2.2.2.2.1 hY, ReadsTexts13.below ((hS7 _).1 hS).2.2.2.2.2.1 hY, ReadsTexts13.below ((hS7 _).1 hS).2.2.2.2.2.2.1 hY, ReadsTexts13.below ((hS7 _).1 hS).2.2.2.2.2.2.2 hY⟩) (fun hS => ?_)
        clear hK K hY
        refine takeH12 53 97 (.bool true) rfl rfl (by kernel_rfl) (by kernel_rfl) (by kernel_rfl) (fun _ _ _ h => h) (Or.inl ⟨by kernel_rfl, fun W _ => by go_simp⟩) hS ?_
        simp only [Act.put, List.setIfInBounds_toArray, List.set_cons_zero, List.set_cons_succ]
        refine takeH12 54 98 (.bool true) rfl rfl (by kernel_rfl) (by kernel_rfl) (by kernel_rfl) (fun _ _ _ h => h) (Or.inl ⟨by kernel_rfl, fun W _ => by go_simp⟩) hS ?_
        simp only [Act.put, List.setIfInBounds_toArray, List.set_cons_zero, List.set_cons_succ]
        refine takeH12 55 99 (.agg #[.slice aa na.length ac]) rfl rfl (by kernel_rfl) (by kernel_rfl) (by kernel_rfl) (fun _ _ _ h => h) (Or.inl ⟨by kernel_rfl, fun W hW => by have hc := (((hS7 W).1 hW).1.2.1); go_simp⟩) hS ?_
        simp only [Act.put, List.setIfInBounds_toArray, List.set_cons_zero, List.set_cons_succ]
        refine takeH12 56 100 (.int .i64 at_) rfl rfl (by kernel_rfl) (by kernel_rfl) (by kernel_rfl) (fun _ _ _ h => h) (Or.inl ⟨by kernel_rfl, fun W _ => by go_simp⟩) hS ?_
        simp only [Act.put, List.setIfInBounds_toArray, List.set_cons_zero, List.set_cons_succ]
        refine wpAnyH_ready (rs := [57]) (by kernel_rfl) (by simp) ?_
        refine AllReadyH.cons rfl (fun K hK => ?_) AllReadyH.nil
        go_simp
        refine (CN.out _ ((hS7 _).1 hS).1).mono ?_
        rintro e wn ⟨vn, rfl, hO, hY⟩
        obtain ⟨an, cn, rfl⟩ := ReadsTexts13.form hO.reads
        have HRn := hideT hO.reads
        clear hO
        refine hK.out _ _ ((hS7 _).2 ⟨LaAt.below ((hS7 _).1 hS).1 hY, ReadsTexts13.below ((hS7 _).1 hS).2.1 hY, ReadsTexts13.below ((hS7 _).1 hS).2.2.1 hY, ReadsTexts13.below ((hS7 _).1 hS).2.2.2.1 hY, ReadsTexts13.below ((hS7 _).1 hS).2.2.2.2.1 hY, ReadsTexts13.below ((hS7 _).1 hS).2.2.2.2.2.1 hY, ReadsTexts13.below ((hS7 _).1 hS).2.2.2.2.2.2.1 hY, ReadsTexts13.below ((hS7 _).1 hS).2.2.2.2.2.2.2 hY⟩) (fun hS => ?_)
        clear hK K hY
        obtain ⟨S8, hS8⟩ : ∃ S : World → Prop, ∀ W, S W ↔ LaAt w aa na.length ac x y z W ∧ ReadsTexts W (.slice ap ts.length cp) ts ∧ ReadsTexts W (.slice aq ts.length cq) ts ∧ ReadsTexts W (.slice ar us.length cr) us ∧ ReadsTexts W (.slice (some ⟨bg, 0, none⟩) 2 2) [y, z] ∧ ReadsTexts W (.slice (some ⟨bf, 0, none⟩) 2 2) [y, z] ∧ ReadsTexts W (.slice am1 ss.length cm1) ss ∧ ReadsTexts W (.slice am2 ss.length cm2) ss ∧ ReadsTexts W (.slice an 0 cn) [] := ⟨_, fun _ => Iff.rfl⟩
        refine wpAnyH_weaker (S' := S8) (fun W h => (hS7 W).2 (⟨((hS8 W).1 h).1, ((hS8 W).1 h).2.1, ((hS8 W).1 h).2.2.1, ((hS8 W).1 h).2.2.2.1, ((hS8 W).1 h).2.2.2.2.1, ((hS8 W).1 h).2.2.2.2.2.1, ((hS8 W).1 h).2.2.2.2.2.2.1, ((hS8 W).1 h).2.2.2.2.2.2.2.1⟩ : LaAt w aa na.length ac x y z W ∧ ReadsTexts W (.slice ap ts.length cp) ts ∧ ReadsTexts W (.slice aq ts.length cq) ts ∧ ReadsTexts W (.slice ar us.length cr) us ∧ ReadsTexts W (.slice (some ⟨bg, 0, none⟩) 2 2) [y, z] ∧ ReadsTexts W (.slice (some ⟨bf, 0, none⟩) 2 2) [y, z] ∧ ReadsTexts W (.slice am1 ss.length cm1) ss ∧ ReadsTexts W (.slice am2 ss.length cm2) ss)) _ _ _ _ ?_
        replace hS := (hS8 _).2 ⟨((hS7 _).1 hS).1, ((hS7 _).1 hS).2.1, ((hS7 _).1 hS).2.2.1, ((hS7 _).1 hS).2.2.2.1, ((hS7 _).1 hS).2.2.2.2.1, ((hS7 _).1 hS).2.2.2.2.2.1, ((hS7 _).1 hS).2.2.2.2.2.2.1, ((hS7 _).1 hS).2.2.2.2.2.2.2, HRn.out⟩
        refine takeH12 58 102 (.int .i64 0) rfl rfl (by kernel_rfl) (by kernel_rfl) (by kernel_rfl) (fun _ _ _ h => h) (Or.inl ⟨by kernel_rfl, fun W _ => by go_simp⟩) hS ?_
        simp only [Act.put, List.setIfInBounds_toArray, List.set_cons_zero, List.set_cons_succ]
        refine takeH12 59 103 (.bool true) rfl rfl (by kernel_rfl) (by kernel_rfl) (by kernel_rfl) (fun _ _ _ h => h) (Or.inl ⟨by kernel_rfl, fun W _ => by go_simp⟩) hS ?_
        simp only [Act.put, List.setIfInBounds_toArray, List.set_cons_zero, List.set_cons_succ]
        refine takeH12 60 104 (.bool true) rfl rfl (by kernel_rfl) (by kernel_rfl) (by kernel_rfl) (fun _ _ _ h => h) (Or.inl ⟨by kernel_rfl, fun W _ => by go_simp⟩) hS ?_
        simp only [Act.put, List.setIfInBounds_toArray, List.set_cons_zero, List.set_cons_succ]
        refine takeH12 61 105 (.bool true) rfl rfl (by kernel_rfl) (by kernel_rfl) (by kernel_rfl) (fun _ _ _ h => h) (Or.inl ⟨by kernel_rfl, fun W _ => by go_simp⟩) hS ?_
        simp only [Act.put, List.setIfInBounds_toArray, List.set_cons_zero, List.set_cons_succ]
        refine wpAnyH_ready (rs := [62]) (by kernel_rfl) (by simp) ?_
        refine AllReadyH.cons rfl (fun K hK => ?_) AllReadyH.nil
        go_simp
        refine (HAl.out _ ((hS8 _).1 hS).1).mono ?_
        rintro e wl ⟨rfl, hY⟩
        refine hK.out _ _ ((hS8 _).2 ⟨LaAt.below ((hS8 _).1 hS).1 hY, ReadsTexts13.below ((hS8 _).1 hS).2.1 hY, ReadsTexts13.below ((hS8 _).1 hS).2.2.1 hY, ReadsTexts13.below ((hS8 _).1 hS).2.2.2.1 hY, ReadsTexts13.below ((hS8 _).1 hS).2.2.2.2.1 hY, ReadsTexts13.below ((hS8 _).1 hS).2.2.2.2.2.1 hY, ReadsTexts13.below ((hS8 _).1 hS).2.2.2.2.2.2.1 hY, ReadsTexts13.below ((hS8 _).1 hS).2.2.2.2.2.2.2.1 hY, ReadsTexts13.below ((hS8 _).1 hS).2.2.2.2.2.2.2.2 hY⟩) (fun hS => ?_)
        clear hK K hY
        refine takeH12 63 107 (.bool true) rfl rfl (by kernel_rfl) (by kernel_rfl) (by kernel_rfl) (fun _ _ _ h => h) (Or.inl ⟨by kernel_rfl, fun W _ => by go_simp⟩) hS ?_
        simp only [Act.put, List.setIfInBounds_toArray, List.set_cons_zero, List.set_cons_succ]
        refine takeH12 64 6 (.bool true) rfl rfl (by kernel_rfl) (by kernel_rfl) (by kernel_rfl) (fun _ _ _ h => h) (Or.inl ⟨by kernel_rfl, fun W _ => by go_simp⟩) hS ?_
        simp only [Act.put, List.setIfInBounds_toArray, List.set_cons_zero, List.set_cons_succ]
        refine wpAnyH_done (by kernel_rfl) ?_ _
        have hfin := hideT ((hS8 _).1 hS).1.1
        go_wp2
        go_ret
        exact ⟨rfl, hfin.out⟩
end Go.Proofs.Ytoiedadfpbbdgaa.lookAttrs
