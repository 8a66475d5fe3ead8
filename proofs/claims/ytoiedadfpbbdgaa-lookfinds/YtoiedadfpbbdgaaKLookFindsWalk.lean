/- The walk of the law LookFinds, out of the contracts (written by tools/mklkfd.py). -/
import Derived.Test.YtoiedadfpbbdgaaKLkT
import Derived.Test.YtoiedadfpbbdgaaKLkF
import Derived.Test.YtoiedadfpbbdgaaKLkFp
import Derived.Test.YtoiedadfpbbdgaaKArgDoc
import Derived.Test.YtoiedadfpbbdgaaKArgT14
set_option linter.unusedVariables false
set_option linter.unusedSimpArgs false
namespace Go.Proofs.Ytoiedadfpbbdgaa
open Go.RowKit
theorem wpAnyH_weaker {P : Program} {md : Region.Mode} {ops : Array Oper} {Q : Exit → Act → World → Prop} {S S' : World → Prop} (h : ∀ w, S' w → S w) : ∀ (fuel : Nat) (listed : Array Bool) (a : Act) (w : World), wpAnyH P md ops Q S' fuel listed a w → wpAnyH P md ops Q S fuel listed a w
  | 0, _, _, _, h' => h'
  | fuel + 1, _, _, _, h' => ⟨h'.1, fun i hi => wpOp_mono (fun a' w' h2 => ⟨h _ h2.1, wpAnyH_weaker h fuel _ a' w' h2.2⟩) (h'.2 i hi)⟩
/-- The law's own box: the document's; all below is as it was. -/
def LfAt (w : World) (a : Option Addr) (n c : Nat) (W : World) : Prop := Below w.heap.size w W ∧ W.cell? ⟨w.heap.size, 0, none⟩ = some (.slice a n c)
theorem LfAt.below {w A B : World} {a : Option Addr} {n c : Nat} (h : LfAt w a n c A) (hb : Below A.heap.size A B) : LfAt w a n c B :=
  ⟨bel h.1 hb, (hb.cell (p := ⟨w.heap.size, 0, none⟩) (cell_lt h.2)).trans h.2⟩
theorem belowR14_len {ns : List Nd} (hf : Fair14 ns) (at_ : Int) : (belowR14 ns at_).length ≤ 1000 := by
  unfold belowR14
  split
  · rename_i h
    obtain ⟨i, rfl, hi, hm⟩ := Lk.place_yes h
    exact Nat.le_trans (Lk.belowTo_len ns _ ns.length) (hf.few hm)
  · exact Nat.zero_le _
theorem kidsR14_len {ns : List Nd} (hf : Fair14 ns) (at_ : Int) : (kidsR14 ns at_).length ≤ 1000 := by
  unfold kidsR14
  split
  · rename_i h
    obtain ⟨i, rfl, hi, hm⟩ := Lk.place_yes h
    rw [Int.toNat_natCast]
    exact Nat.le_trans (kidsE_len hm hi) (hf.few hm)
  · exact Nat.zero_le _
end Go.Proofs.Ytoiedadfpbbdgaa
namespace Go.Proofs.Ytoiedadfpbbdgaa.lookFinds
open Go.RowKit
set_option maxHeartbeats 16000000 in
set_option maxRecDepth 100000 in
theorem walk (na : List Nd) (va : Value) (at_ : Int) (xn : Option Addr) (nlen xm : Nat) (nl : List (List UInt8)) (w : World) (h1 : ArgDoc w va na) (h2 : (Lit.int .i64 at_).wf = true) (h3 : ArgTexts w xn nlen xm nl) :
    Calls Try.prog 4 #[va, .int .i64 at_, .slice xn nlen xm] w fun e w' => e = .returned (.bool true) ∧ Below w.heap.size w w' := by
  clear h2
  obtain ⟨aa, ac, rfl, hra, hla, hfa⟩ := h1
  obtain ⟨rfl, hnc, hnm, hrn, _⟩ := h3
  have hb0 : Below w.heap.size w (w.alloc (.cells #[.slice aa na.length ac] 24)) := (Below.refl _ _).alloc (Nat.le_refl _) _
  have cc0 := doc_cell (heap_new w (.cells #[.slice aa na.length ac] 24))
  have hLA := hideT (show LfAt w aa na.length ac (w.alloc (.cells #[.slice aa na.length ac] 24)) from ⟨hb0, cc0⟩)
  have FA := hideT (fun W (h : LfAt w aa na.length ac W) => far14_any na _ W (hra.below h.1) hla)
  have HAl := hideT (fun W (h : LfAt w aa na.length ac W) => alive14_any W)
  generalize hfA : Lk.farL 3000 200 na = fa at *
  clear hb0
  cases fa with
  | true =>
    clear hfA hra hla hfa
    go_enter Try.func4, Try.ntmps4
    go_upto_region 1 with fail
    generalize (w.alloc (.cells #[.slice aa na.length ac] 24)) = w2 at *
    go_wp2_with (first
      | (go_at_call 8; refine (FA.out _ hLA.out).mono ?_; rintro e w3 ⟨rfl, hB3⟩; have HL3 := hideT (hLA.out.below hB3); clear hB3)
      | (go_at_call 9; refine (HAl.out _ HL3.out).mono ?_; rintro e w9 ⟨rfl, hB9⟩; have HB9 := hideT (bel HL3.out.1 hB9); clear hB9))
    go_ret
    exact ⟨rfl, HB9.out⟩
  | false =>
    by_cases hlong : 20 < nl.length
    · have hli : (20 : Int) < (nl.length : Int) := by omega
      clear hfA hra hla hfa
      go_enter Try.func4, Try.ntmps4
      go_upto_region 1 with fail
      generalize (w.alloc (.cells #[.slice aa na.length ac] 24)) = w2 at *
      go_wp2_with (first
        | (go_at_call 8; refine (FA.out _ hLA.out).mono ?_; rintro e w3 ⟨rfl, hB3⟩; have HL3 := hideT (hLA.out.below hB3); clear hB3)
        | (go_at_call 9; refine (HAl.out _ HL3.out).mono ?_; rintro e w9 ⟨rfl, hB9⟩; have HB9 := hideT (bel HL3.out.1 hB9); clear hB9))
      go_ret
      exact ⟨rfl, HB9.out⟩
    · have hli : ¬ (20 : Int) < (nl.length : Int) := by omega
      have hf := fair_of hla (by decide) (by decide) (by decide) hfA
      have hk : na.length ≤ 4096 → ∀ i, i < na.length → (Tre.ndAt na i).kids.length ≤ 140737488351232 := fun _ i hi => (Tre.fit_at hfa hi).kids
      have hn0 : ∀ W, ReadsTexts W (.slice none 0 0) [] := fun W => .inl ⟨_, _, rfl, rfl⟩
      have CB := hideT (fun W (h : LfAt w aa na.length ac W) => Below14_any na _ at_ W (hra.below h.1) hf)
      have CC := hideT (fun W (h : LfAt w aa na.length ac W) => RBelow14_any na _ at_ W (hra.below h.1) hf hk)
      have CK := hideT (fun W (h : LfAt w aa na.length ac W) => Kids14_any na _ at_ W (hra.below h.1) hf)
      have CL := hideT (fun W (h : LfAt w aa na.length ac W) => RKids14_any na _ at_ W (hra.below h.1) hf hk)
      have CF := hideT (fun W (h : LfAt w aa na.length ac W) => Find14_any na _ at_ nl _ W (hra.below h.1) hf (ReadsTexts13.below hrn h.1) (by omega))
      have CG := hideT (fun W (h : LfAt w aa na.length ac W) => RFind14_any na _ at_ nl _ W (hra.below h.1) hf hk (ReadsTexts13.below hrn h.1) (by omega))
      have CO := hideT (fun W (h : LfAt w aa na.length ac W) => Only14_any na _ at_ nl _ W (hra.below h.1) hf (ReadsTexts13.below hrn h.1) (by omega))
      have CP := hideT (fun W (h : LfAt w aa na.length ac W) => ROnly14_any na _ at_ nl _ W (hra.below h.1) hf hk (ReadsTexts13.below hrn h.1) (by omega))
      have CQ := hideT (fun W (h : LfAt w aa na.length ac W) => Only14_any na _ at_ [] _ W (hra.below h.1) hf (hn0 W) (by simp))
      have CR := hideT (fun W (h : LfAt w aa na.length ac W) => ROnly14_any na _ at_ [] _ W (hra.below h.1) hf hk (hn0 W) (by simp))
      have hl1 := belowR14_len hf at_
      have hl2 := kidsR14_len hf at_
      have hl3 : (findR14 na at_ nl).length ≤ 1000 := Nat.le_trans (List.length_filter_le _ _) hl1
      generalize findR14 na at_ nl = fl at *
      generalize belowR14 na at_ = bl at *
      generalize kidsR14 na at_ = kl at *
      generalize onlyR14 na at_ nl = ox at *
      generalize onlyR14 na at_ [] = oz at *
      clear hfA hra hla hfa hf hk hrn hn0
      go_enter Try.func4, Try.ntmps4
      go_upto_region 1 with fail
      generalize (w.alloc (.cells #[.slice aa na.length ac] 24)) = w2 at *
      go_upto_region 3 with (go_at_call 8; refine (FA.out _ hLA.out).mono ?_; rintro e w3 ⟨rfl, hB3⟩; have HL3 := hideT (hLA.out.below hB3); clear hB3)
      clear cc0
      obtain ⟨S0, hS0⟩ : ∃ S : World → Prop, ∀ W, S W ↔ LfAt w aa na.length ac W := ⟨_, fun _ => Iff.rfl⟩
      refine wp_region_held_drew (S := S0) (by kernel_rfl) ((hS0 _).2 (HL3.out.below ((Below.refl _ _).drew))) (fun hS => ?_)
      refine takeH12 0 15 (.agg #[.slice aa na.length ac]) rfl rfl (by kernel_rfl) (by kernel_rfl) (by kernel_rfl) (fun _ _ _ h => h) (Or.inl ⟨by kernel_rfl, fun W hW => by have hc := (((hS0 W).1 hW).2); go_simp⟩) hS ?_
      simp only [Act.put, List.setIfInBounds_toArray, List.set_cons_zero, List.set_cons_succ]
      refine takeH12 1 16 (.int .i64 at_) rfl rfl (by kernel_rfl) (by kernel_rfl) (by kernel_rfl) (fun _ _ _ h => h) (Or.inl ⟨by kernel_rfl, fun W _ => by go_simp⟩) hS ?_
      simp only [Act.put, List.setIfInBounds_toArray, List.set_cons_zero, List.set_cons_succ]
      refine takeH12 3 18 (.agg #[.slice aa na.length ac]) rfl rfl (by kernel_rfl) (by kernel_rfl) (by kernel_rfl) (fun _ _ _ h => h) (Or.inl ⟨by kernel_rfl, fun W hW => by have hc := (((hS0 W).1 hW).2); go_simp⟩) hS ?_
      simp only [Act.put, List.setIfInBounds_toArray, List.set_cons_zero, List.set_cons_succ]
      refine takeH12 4 19 (.int .i64 at_) rfl rfl (by kernel_rfl) (by kernel_rfl) (by kernel_rfl) (fun _ _ _ h => h) (Or.inl ⟨by kernel_rfl, fun W _ => by go_simp⟩) hS ?_
      simp only [Act.put, List.setIfInBounds_toArray, List.set_cons_zero, List.set_cons_succ]
      refine wpAnyH_ready (rs := [2]) (by kernel_rfl) (by simp) ?_
      refine AllReadyH.cons rfl (fun K hK => ?_) AllReadyH.nil
      go_simp
      refine (CB.out _ ((hS0 _).1 hS)).mono ?_
      rintro e wp ⟨vp, rfl, hO, hY⟩
      obtain ⟨ap, cp, rfl⟩ := (OwnsI.reads hO).form
      have HRp := hideT (OwnsI.reads hO)
      clear hO
      refine hK.out _ _ ((hS0 _).2 (LfAt.below ((hS0 _).1 hS) hY)) (fun hS => ?_)
      clear hK K hY
      obtain ⟨S1, hS1⟩ : ∃ S : World → Prop, ∀ W, S W ↔ LfAt w aa na.length ac W ∧ ReadsIs W (.slice ap bl.length cp) bl := ⟨_, fun _ => Iff.rfl⟩
      refine wpAnyH_weaker (S' := S1) (fun W h => (hS0 W).2 ((hS1 W).1 h).1) _ _ _ _ ?_
      replace hS := (hS1 _).2 ⟨((hS0 _).1 hS), HRp.out⟩
      refine wpAnyH_ready (rs := [5]) (by kernel_rfl) (by simp) ?_
      refine AllReadyH.cons rfl (fun K hK => ?_) AllReadyH.nil
      go_simp
      refine (CC.out _ ((hS1 _).1 hS).1).mono ?_
      rintro e wq ⟨vq, rfl, hO, hY⟩
      obtain ⟨aq, cq, rfl⟩ := (OwnsI.reads hO).form
      have HRq := hideT (OwnsI.reads hO)
      clear hO
      refine hK.out _ _ ((hS1 _).2 ⟨LfAt.below ((hS1 _).1 hS).1 hY, ReadsIs.below ((hS1 _).1 hS).2 hY⟩) (fun hS => ?_)
      clear hK K hY
      obtain ⟨S2, hS2⟩ : ∃ S : World → Prop, ∀ W, S W ↔ LfAt w aa na.length ac W ∧ ReadsIs W (.slice ap bl.length cp) bl ∧ ReadsIs W (.slice aq bl.length cq) bl := ⟨_, fun _ => Iff.rfl⟩
      refine wpAnyH_weaker (S' := S2) (fun W h => (hS1 W).2 (⟨((hS2 W).1 h).1, ((hS2 W).1 h).2.1⟩ : LfAt w aa na.length ac W ∧ ReadsIs W (.slice ap bl.length cp) bl)) _ _ _ _ ?_
      replace hS := (hS2 _).2 ⟨((hS1 _).1 hS).1, ((hS1 _).1 hS).2, HRq.out⟩
      refine wpAnyH_ready (rs := [6]) (by kernel_rfl) (by simp) ?_
      refine AllReadyH.cons rfl (fun K hK => ?_) AllReadyH.nil
      go_simp
      refine (RInts14_any bl _ _ _ ((hS2 _).1 hS).2.1 ((hS2 _).1 hS).2.2 (by omega)).mono ?_
      rintro e wz1 ⟨rfl, hY⟩
      refine hK.out _ _ ((hS2 _).2 ⟨LfAt.below ((hS2 _).1 hS).1 hY, ReadsIs.below ((hS2 _).1 hS).2.1 hY, ReadsIs.below ((hS2 _).1 hS).2.2 hY⟩) (fun hS => ?_)
      clear hK K hY
      refine takeH12 7 22 (.bool true) rfl rfl (by kernel_rfl) (by kernel_rfl) (by kernel_rfl) (fun _ _ _ h => h) (Or.inl ⟨by kernel_rfl, fun W _ => by go_simp⟩) hS ?_
      simp only [Act.put, List.setIfInBounds_toArray, List.set_cons_zero, List.set_cons_succ]
      refine takeH12 8 23 (.agg #[.slice aa na.length ac]) rfl rfl (by kernel_rfl) (by kernel_rfl) (by kernel_rfl) (fun _ _ _ h => h) (Or.inl ⟨by kernel_rfl, fun W hW => by have hc := (((hS2 W).1 hW).1.2); go_simp⟩) hS ?_
      simp only [Act.put, List.setIfInBounds_toArray, List.set_cons_zero, List.set_cons_succ]
      refine takeH12 9 24 (.int .i64 at_) rfl rfl (by kernel_rfl) (by kernel_rfl) (by kernel_rfl) (fun _ _ _ h => h) (Or.inl ⟨by kernel_rfl, fun W _ => by go_simp⟩) hS ?_
      simp only [Act.put, List.setIfInBounds_toArray, List.set_cons_zero, List.set_cons_succ]
      refine takeH12 11 26 (.agg #[.slice aa na.length ac]) rfl rfl (by kernel_rfl) (by kernel_rfl) (by kernel_rfl) (fun _ _ _ h => h) (Or.inl ⟨by kernel_rfl, fun W hW => by have hc := (((hS2 W).1 hW).1.2); go_simp⟩) hS ?_
      simp only [Act.put, List.setIfInBounds_toArray, List.set_cons_zero, List.set_cons_succ]
      refine takeH12 12 27 (.int .i64 at_) rfl rfl (by kernel_rfl) (by kernel_rfl) (by kernel_rfl) (fun _ _ _ h => h) (Or.inl ⟨by kernel_rfl, fun W _ => by go_simp⟩) hS ?_
      simp only [Act.put, List.setIfInBounds_toArray, List.set_cons_zero, List.set_cons_succ]
      refine wpAnyH_ready (rs := [10]) (by kernel_rfl) (by simp) ?_
      refine AllReadyH.cons rfl (fun K hK => ?_) AllReadyH.nil
      go_simp
      refine (CK.out _ ((hS2 _).1 hS).1).mono ?_
      rintro e wr ⟨vr, rfl, hO, hY⟩
      obtain ⟨ar, cr, rfl⟩ := (OwnsI.reads hO).form
      have HRr := hideT (OwnsI.reads hO)
      clear hO
      refine hK.out _ _ ((hS2 _).2 ⟨LfAt.below ((hS2 _).1 hS).1 hY, ReadsIs.below ((hS2 _).1 hS).2.1 hY, ReadsIs.below ((hS2 _).1 hS).2.2 hY⟩) (fun hS => ?_)
      clear hK K hY
      obtain ⟨S3, hS3⟩ : ∃ S : World → Prop, ∀ W, S W ↔ LfAt w aa na.length ac W ∧ ReadsIs W (.slice ap bl.length cp) bl ∧ ReadsIs W (.slice aq bl.length cq) bl ∧ ReadsIs W (.slice ar kl.length cr) kl := ⟨_, fun _ => Iff.rfl⟩
      refine wpAnyH_weaker (S' := S3) (fun W h => (hS2 W).2 (⟨((hS3 W).1 h).1, ((hS3 W).1 h).2.1, ((hS3 W).1 h).2.2.1⟩ : LfAt w aa na.length ac W ∧ ReadsIs W (.slice ap bl.length cp) bl ∧ ReadsIs W (.slice aq bl.length cq) bl)) _ _ _ _ ?_
      replace hS := (hS3 _).2 ⟨((hS2 _).1 hS).1, ((hS2 _).1 hS).2.1, ((hS2 _).1 hS).2.2, HRr.out⟩
      refine wpAnyH_ready (rs := [13]) (by kernel_rfl) (by simp) ?_
      refine AllReadyH.cons rfl (fun K hK => ?_) AllReadyH.nil
      go_simp
      refine (CL.out _ ((hS3 _).1 hS).1).mono ?_
      rintro e wu ⟨vu, rfl, hO, hY⟩
      obtain ⟨au, cu, rfl⟩ := (OwnsI.reads hO).form
      have HRu := hideT (OwnsI.reads hO)
      clear hO
      refine hK.out _ _ ((hS3 _).2 ⟨LfAt.below ((hS3 _).1 hS).1 hY, ReadsIs.below ((hS3 _).1 hS).2.1 hY, ReadsIs.below ((hS3 _).1 hS).2.2.1 hY, ReadsIs.below ((hS3 _).1 hS).2.2.2 hY⟩) (fun hS => ?_)
      clear hK K hY
      obtain ⟨S4, hS4⟩ : ∃ S : World → Prop, ∀ W, S W ↔ LfAt w aa na.length ac W ∧ ReadsIs W (.slice ap bl.length cp) bl ∧ ReadsIs W (.slice aq bl.length cq) bl ∧ ReadsIs W (.slice ar kl.length cr) kl ∧ ReadsIs W (.slice au kl.length cu) kl := ⟨_, fun _ => Iff.rfl⟩
      refine wpAnyH_weaker (S' := S4) (fun W h => (hS3 W).2 (⟨((hS4 W).1 h).1, ((hS4 W).1 h).2.1, ((hS4 W).1 h).2.2.1, ((hS4 W).1 h).2.2.2.1⟩ : LfAt w aa na.length ac W ∧ ReadsIs W (.slice ap bl.length cp) bl ∧ ReadsIs W (.slice aq bl.length cq) bl ∧ ReadsIs W (.slice ar kl.length cr) kl)) _ _ _ _ ?_
      replace hS := (hS4 _).2 ⟨((hS3 _).1 hS).1, ((hS3 _).1 hS).2.1, ((hS3 _).1 hS).2.2.1, ((hS3 _).1 hS).2.2.2, HRu.out⟩
      refine wpAnyH_ready (rs := [14]) (by kernel_rfl) (by simp) ?_
      refine AllReadyH.cons rfl (fun K hK => ?_) AllReadyH.nil
      go_simp
      refine (RInts14_any kl _ _ _ ((hS4 _).1 hS).2.2.2.1 ((hS4 _).1 hS).2.2.2.2 (by omega)).mono ?_
      rintro e wz2 ⟨rfl, hY⟩
      refine hK.out _ _ ((hS4 _).2 ⟨LfAt.below ((hS4 _).1 hS).1 hY, ReadsIs.below ((hS4 _).1 hS).2.1 hY, ReadsIs.below ((hS4 _).1 hS).2.2.1 hY, ReadsIs.below ((hS4 _).1 hS).2.2.2.1 hY, ReadsIs.below ((hS4 _).1 hS).2.2.2.2 hY⟩) (fun hS => ?_)
      clear hK K hY
      refine takeH12 15 30 (.bool true) rfl rfl (by kernel_rfl) (by kernel_rfl) (by kernel_rfl) (fun _ _ _ h => h) (Or.inl ⟨by kernel_rfl, fun W _ => by go_simp⟩) hS ?_
      simp only [Act.put, List.setIfInBounds_toArray, List.set_cons_zero, List.set_cons_succ]
      refine takeH12 16 31 (.bool true) rfl rfl (by kernel_rfl) (by kernel_rfl) (by kernel_rfl) (fun _ _ _ h => h) (Or.inl ⟨by kernel_rfl, fun W _ => by go_simp⟩) hS ?_
      simp only [Act.put, List.setIfInBounds_toArray, List.set_cons_zero, List.set_cons_succ]
      refine takeH12 17 32 (.agg #[.slice aa na.length ac]) rfl rfl (by kernel_rfl) (by kernel_rfl) (by kernel_rfl) (fun _ _ _ h => h) (Or.inl ⟨by kernel_rfl, fun W hW => by have hc := (((hS4 W).1 hW).1.2); go_simp⟩) hS ?_
      simp only [Act.put, List.setIfInBounds_toArray, List.set_cons_zero, List.set_cons_succ]
      refine takeH12 18 33 (.int .i64 at_) rfl rfl (by kernel_rfl) (by kernel_rfl) (by kernel_rfl) (fun _ _ _ h => h) (Or.inl ⟨by kernel_rfl, fun W _ => by go_simp⟩) hS ?_
      simp only [Act.put, List.setIfInBounds_toArray, List.set_cons_zero, List.set_cons_succ]
      refine takeH12 19 34 (.slice xn nl.length xm) rfl rfl (by kernel_rfl) (by kernel_rfl) (by kernel_rfl) (fun _ _ _ h => h) (Or.inl ⟨by kernel_rfl, fun W _ => by go_simp⟩) hS ?_
      simp only [Act.put, List.setIfInBounds_toArray, List.set_cons_zero, List.set_cons_succ]
      refine takeH12 21 36 (.agg #[.slice aa na.length ac]) rfl rfl (by kernel_rfl) (by kernel_rfl) (by kernel_rfl) (fun _ _ _ h => h) (Or.inl ⟨by kernel_rfl, fun W hW => by have hc := (((hS4 W).1 hW).1.2); go_simp⟩) hS ?_
      simp only [Act.put, List.setIfInBounds_toArray, List.set_cons_zero, List.set_cons_succ]
      refine takeH12 22 37 (.int .i64 at_) rfl rfl (by kernel_rfl) (by kernel_rfl) (by kernel_rfl) (fun _ _ _ h => h) (Or.inl ⟨by kernel_rfl, fun W _ => by go_simp⟩) hS ?_
      simp only [Act.put, List.setIfInBounds_toArray, List.set_cons_zero, List.set_cons_succ]
      refine takeH12 23 38 (.slice xn nl.length xm) rfl rfl (by kernel_rfl) (by kernel_rfl) (by kernel_rfl) (fun _ _ _ h => h) (Or.inl ⟨by kernel_rfl, fun W _ => by go_simp⟩) hS ?_
      simp only [Act.put, List.setIfInBounds_toArray, List.set_cons_zero, List.set_cons_succ]
      refine wpAnyH_ready (rs := [20]) (by kernel_rfl) (by simp) ?_
      refine AllReadyH.cons rfl (fun K hK => ?_) AllReadyH.nil
      go_simp
      refine (CF.out _ ((hS4 _).1 hS).1).mono ?_
      rintro e wm ⟨vm, rfl, hO, hY⟩
      obtain ⟨am, cm, rfl⟩ := (OwnsI.reads hO).form
      have HRm := hideT (OwnsI.reads hO)
      clear hO
      refine hK.out _ _ ((hS4 _).2 ⟨LfAt.below ((hS4 _).1 hS).1 hY, ReadsIs.below ((hS4 _).1 hS).2.1 hY, ReadsIs.below ((hS4 _).1 hS).2.2.1 hY, ReadsIs.below ((hS4 _).1 hS).2.2.2.1 hY, ReadsIs.below ((hS4 _).1 hS).2.2.2.2 hY⟩) (fun hS => ?_)
      clear hK K hY
      obtain ⟨S5, hS5⟩ : ∃ S : World → Prop, ∀ W, S W ↔ LfAt w aa na.length ac W ∧ ReadsIs W (.slice ap bl.length cp) bl ∧ ReadsIs W (.slice aq bl.length cq) bl ∧ ReadsIs W (.slice ar kl.length cr) kl ∧ ReadsIs W (.slice au kl.length cu) kl ∧ ReadsIs W (.slice am fl.length cm) fl := ⟨_, fun _ => Iff.rfl⟩
      refine wpAnyH_weaker (S' := S5) (fun W h => (hS4 W).2 (⟨((hS5 W).1 h).1, ((hS5 W).1 h).2.1, ((hS5 W).1 h).2.2.1, ((hS5 W).1 h).2.2.2.1, ((hS5 W).1 h).2.2.2.2.1⟩ : LfAt w aa na.length ac W ∧ ReadsIs W (.slice ap bl.length cp) bl ∧ ReadsIs W (.slice aq bl.length cq) bl ∧ ReadsIs W (.slice ar kl.length cr) kl ∧ ReadsIs W (.slice au kl.length cu) kl)) _ _ _ _ ?_
      replace hS := (hS5 _).2 ⟨((hS4 _).1 hS).1, ((hS4 _).1 hS).2.1, ((hS4 _).1 hS).2.2.1, ((hS4 _).1 hS).2.2.2.1, ((hS4 _).1 hS).2.2.2.2, HRm.out⟩
      refine wpAnyH_ready (rs := [24]) (by kernel_rfl) (by simp) ?_
      refine AllReadyH.cons rfl (fun K hK => ?_) AllReadyH.nil
      go_simp
      refine (CG.out _ ((hS5 _).1 hS).1).mono ?_
      rintro e wn ⟨vn, rfl, hO, hY⟩
      obtain ⟨an, cn, rfl⟩ := (OwnsI.reads hO).form
      have HRn := hideT (OwnsI.reads hO)
      clear hO
      refine hK.out _ _ ((hS5 _).2 ⟨LfAt.below ((hS5 _).1 hS).1 hY, ReadsIs.below ((hS5 _).1 hS).2.1 hY, ReadsIs.below ((hS5 _).1 hS).2.2.1 hY, ReadsIs.below ((hS5 _).1 hS).2.2.2.1 hY, ReadsIs.below ((hS5 _).1 hS).2.2.2.2.1 hY, ReadsIs.below ((hS5 _).1 hS).2.2.2.2.2 hY⟩) (fun hS => ?_)
      clear hK K hY
      obtain ⟨S6, hS6⟩ : ∃ S : World → Prop, ∀ W, S W ↔ LfAt w aa na.length ac W ∧ ReadsIs W (.slice ap bl.length cp) bl ∧ ReadsIs W (.slice aq bl.length cq) bl ∧ ReadsIs W (.slice ar kl.length cr) kl ∧ ReadsIs W (.slice au kl.length cu) kl ∧ ReadsIs W (.slice am fl.length cm) fl ∧ ReadsIs W (.slice an fl.length cn) fl := ⟨_, fun _ => Iff.rfl⟩
      refine wpAnyH_weaker (S' := S6) (fun W h => (hS5 W).2 (⟨((hS6 W).1 h).1, ((hS6 W).1 h).2.1, ((hS6 W).1 h).2.2.1, ((hS6 W).1 h).2.2.2.1, ((hS6 W).1 h).2.2.2.2.1, ((hS6 W).1 h).2.2.2.2.2.1⟩ : LfAt w aa na.length ac W ∧ ReadsIs W (.slice ap bl.length cp) bl ∧ ReadsIs W (.slice aq bl.length cq) bl ∧ ReadsIs W (.slice ar kl.length cr) kl ∧ ReadsIs W (.slice au kl.length cu) kl ∧ ReadsIs W (.slice am fl.length cm) fl)) _ _ _ _ ?_
      replace hS := (hS6 _).2 ⟨((hS5 _).1 hS).1, ((hS5 _).1 hS).2.1, ((hS5 _).1 hS).2.2.1, ((hS5 _).1 hS).2.2.2.1, ((hS5 _).1 hS).2.2.2.2.1, ((hS5 _).1 hS).2.2.2.2.2, HRn.out⟩
      refine wpAnyH_ready (rs := [25]) (by kernel_rfl) (by simp) ?_
      refine AllReadyH.cons rfl (fun K hK => ?_) AllReadyH.nil
      go_simp
      refine (RInts14_any fl _ _ _ ((hS6 _).1 hS).2.2.2.2.2.1 ((hS6 _).1 hS).2.2.2.2.2.2 (by omega)).mono ?_
      rintro e wz3 ⟨rfl, hY⟩
      refine hK.out _ _ ((hS6 _).2 ⟨LfAt.below ((hS6 _).1 hS).1 hY, ReadsIs.below ((hS6 _).1 hS).2.1 hY, ReadsIs.below ((hS6 _).1 hS).2.2.1 hY, ReadsIs.below ((hS6 _).1 hS).2.2.2.1 hY, ReadsIs.below ((hS6 _).1 hS).2.2.2.2.1 hY, ReadsIs.below ((hS6 _).1 hS).2.2.2.2.2.1 hY, ReadsIs.below ((hS6 _).1 hS).2.2.2.2.2.2 hY⟩) (fun hS => ?_)
      clear hK K hY
      refine takeH12 26 41 (.bool true) rfl rfl (by kernel_rfl) (by kernel_rfl) (by kernel_rfl) (fun _ _ _ h => h) (Or.inl ⟨by kernel_rfl, fun W _ => by go_simp⟩) hS ?_
      simp only [Act.put, List.setIfInBounds_toArray, List.set_cons_zero, List.set_cons_succ]
      refine takeH12 27 42 (.bool true) rfl rfl (by kernel_rfl) (by kernel_rfl) (by kernel_rfl) (fun _ _ _ h => h) (Or.inl ⟨by kernel_rfl, fun W _ => by go_simp⟩) hS ?_
      simp only [Act.put, List.setIfInBounds_toArray, List.set_cons_zero, List.set_cons_succ]
      refine takeH12 28 43 (.agg #[.slice aa na.length ac]) rfl rfl (by kernel_rfl) (by kernel_rfl) (by kernel_rfl) (fun _ _ _ h => h) (Or.inl ⟨by kernel_rfl, fun W hW => by have hc := (((hS6 W).1 hW).1.2); go_simp⟩) hS ?_
      simp only [Act.put, List.setIfInBounds_toArray, List.set_cons_zero, List.set_cons_succ]
      refine takeH12 29 44 (.int .i64 at_) rfl rfl (by kernel_rfl) (by kernel_rfl) (by kernel_rfl) (fun _ _ _ h => h) (Or.inl ⟨by kernel_rfl, fun W _ => by go_simp⟩) hS ?_
      simp only [Act.put, List.setIfInBounds_toArray, List.set_cons_zero, List.set_cons_succ]
      refine takeH12 30 45 (.slice xn nl.length xm) rfl rfl (by kernel_rfl) (by kernel_rfl) (by kernel_rfl) (fun _ _ _ h => h) (Or.inl ⟨by kernel_rfl, fun W _ => by go_simp⟩) hS ?_
      simp only [Act.put, List.setIfInBounds_toArray, List.set_cons_zero, List.set_cons_succ]
      refine takeH12 32 47 (.agg #[.slice aa na.length ac]) rfl rfl (by kernel_rfl) (by kernel_rfl) (by kernel_rfl) (fun _ _ _ h => h) (Or.inl ⟨by kernel_rfl, fun W hW => by have hc := (((hS6 W).1 hW).1.2); go_simp⟩) hS ?_
      simp only [Act.put, List.setIfInBounds_toArray, List.set_cons_zero, List.set_cons_succ]
      refine takeH12 33 48 (.int .i64 at_) rfl rfl (by kernel_rfl) (by kernel_rfl) (by kernel_rfl) (fun _ _ _ h => h) (Or.inl ⟨by kernel_rfl, fun W _ => by go_simp⟩) hS ?_
      simp only [Act.put, List.setIfInBounds_toArray, List.set_cons_zero, List.set_cons_succ]
      refine takeH12 34 49 (.slice xn nl.length xm) rfl rfl (by kernel_rfl) (by kernel_rfl) (by kernel_rfl) (fun _ _ _ h => h) (Or.inl ⟨by kernel_rfl, fun W _ => by go_simp⟩) hS ?_
      simp only [Act.put, List.setIfInBounds_toArray, List.set_cons_zero, List.set_cons_succ]
      refine wpAnyH_ready (rs := [31]) (by kernel_rfl) (by simp) ?_
      refine AllReadyH.cons rfl (fun K hK => ?_) AllReadyH.nil
      go_simp
      refine (CO.out _ ((hS6 _).1 hS).1).mono ?_
      rintro e wy4 ⟨rfl, hY⟩
      refine hK.out _ _ ((hS6 _).2 ⟨LfAt.below ((hS6 _).1 hS).1 hY, ReadsIs.below ((hS6 _).1 hS).2.1 hY, ReadsIs.below ((hS6 _).1 hS).2.2.1 hY, ReadsIs.below ((hS6 _).1 hS).2.2.2.1 hY, ReadsIs.below ((hS6 _).1 hS).2.2.2.2.1 hY, ReadsIs.below ((hS6 _).1 hS).2.2.2.2.2.1 hY, ReadsIs.below ((hS6 _).1 hS).2.2.2.2.2.2 hY⟩) (fun hS => ?_)
      clear hK K hY
      refine wpAnyH_ready (rs := [35]) (by kernel_rfl) (by simp) ?_
      refine AllReadyH.cons rfl (fun K hK => ?_) AllReadyH.nil
      go_simp
      refine (CP.out _ ((hS6 _).1 hS).1).mono ?_
      rintro e wy5 ⟨rfl, hY⟩
      refine hK.out _ _ ((hS6 _).2 ⟨LfAt.below ((hS6 _).1 hS).1 hY, ReadsIs.below ((hS6 _).1 hS).2.1 hY, ReadsIs.below ((hS6 _).1 hS).2.2.1 hY, ReadsIs.below ((hS6 _).1 hS).2.2.2.1 hY, ReadsIs.below ((hS6 _).1 hS).2.2.2.2.1 hY, ReadsIs.below ((hS6 _).1 hS).2.2.2.2.2.1 hY, ReadsIs.below ((hS6 _).1 hS).2.2.2.2.2.2 hY⟩) (fun hS => ?_)
      clear hK K hY
      refine takeH12 36 51 (.bool true) rfl rfl (by kernel_rfl) (by kernel_rfl) (by kernel_rfl) (fun _ _ _ h => h) (Or.inl ⟨by kernel_rfl, fun W _ => by go_simp⟩) hS ?_
      simp only [Act.put, List.setIfInBounds_toArray, List.set_cons_zero, List.set_cons_succ]
      refine takeH12 37 52 (.bool true) rfl rfl (by kernel_rfl) (by kernel_rfl) (by kernel_rfl) (fun _ _ _ h => h) (Or.inl ⟨by kernel_rfl, fun W _ => by go_simp⟩) hS ?_
      simp only [Act.put, List.setIfInBounds_toArray, List.set_cons_zero, List.set_cons_succ]
      refine takeH12 38 53 (.bool true) rfl rfl (by kernel_rfl) (by kernel_rfl) (by kernel_rfl) (fun _ _ _ h => h) (Or.inl ⟨by kernel_rfl, fun W _ => by go_simp⟩) hS ?_
      simp only [Act.put, List.setIfInBounds_toArray, List.set_cons_zero, List.set_cons_succ]
      refine takeH12 39 54 (.agg #[.slice aa na.length ac]) rfl rfl (by kernel_rfl) (by kernel_rfl) (by kernel_rfl) (fun _ _ _ h => h) (Or.inl ⟨by kernel_rfl, fun W hW => by have hc := (((hS6 W).1 hW).1.2); go_simp⟩) hS ?_
      simp only [Act.put, List.setIfInBounds_toArray, List.set_cons_zero, List.set_cons_succ]
      refine takeH12 40 55 (.int .i64 at_) rfl rfl (by kernel_rfl) (by kernel_rfl) (by kernel_rfl) (fun _ _ _ h => h) (Or.inl ⟨by kernel_rfl, fun W _ => by go_simp⟩) hS ?_
      simp only [Act.put, List.setIfInBounds_toArray, List.set_cons_zero, List.set_cons_succ]
      refine takeH12 42 57 (.agg #[.slice aa na.length ac]) rfl rfl (by kernel_rfl) (by kernel_rfl) (by kernel_rfl) (fun _ _ _ h => h) (Or.inl ⟨by kernel_rfl, fun W hW => by have hc := (((hS6 W).1 hW).1.2); go_simp⟩) hS ?_
      simp only [Act.put, List.setIfInBounds_toArray, List.set_cons_zero, List.set_cons_succ]
      refine takeH12 43 58 (.int .i64 at_) rfl rfl (by kernel_rfl) (by kernel_rfl) (by kernel_rfl) (fun _ _ _ h => h) (Or.inl ⟨by kernel_rfl, fun W _ => by go_simp⟩) hS ?_
      simp only [Act.put, List.setIfInBounds_toArray, List.set_cons_zero, List.set_cons_succ]
      refine wpAnyH_ready (rs := [41]) (by kernel_rfl) (by simp) ?_
      refine AllReadyH.cons rfl (fun K hK => ?_) AllReadyH.nil
      go_simp
      refine (CQ.out _ ((hS6 _).1 hS).1).mono ?_
      rintro e wy6 ⟨rfl, hY⟩
      refine hK.out _ _ ((hS6 _).2 ⟨LfAt.below ((hS6 _).1 hS).1 hY, ReadsIs.below ((hS6 _).1 hS).2.1 hY, ReadsIs.below ((hS6 _).1 hS).2.2.1 hY, ReadsIs.below ((hS6 _).1 hS).2.2.2.1 hY, ReadsIs.below ((hS6 _).1 hS).2.2.2.2.1 hY, ReadsIs.below ((hS6 _).1 hS).2.2.2.2.2.1 hY, ReadsIs.below ((hS6 _).1 hS).2.2.2.2.2.2 hY⟩) (fun hS => ?_)
      clear hK K hY
      refine wpAnyH_ready (rs := [44]) (by kernel_rfl) (by simp) ?_
      refine AllReadyH.cons rfl (fun K hK => ?_) AllReadyH.nil
      go_simp
      refine (CR.out _ ((hS6 _).1 hS).1).mono ?_
      rintro e wy7 ⟨rfl, hY⟩
      refine hK.out _ _ ((hS6 _).2 ⟨LfAt.below ((hS6 _).1 hS).1 hY, ReadsIs.below ((hS6 _).1 hS).2.1 hY, ReadsIs.below ((hS6 _).1 hS).2.2.1 hY, ReadsIs.below ((hS6 _).1 hS).2.2.2.1 hY, ReadsIs.below ((hS6 _).1 hS).2.2.2.2.1 hY, ReadsIs.below ((hS6 _).1 hS).2.2.2.2.2.1 hY, ReadsIs.below ((hS6 _).1 hS).2.2.2.2.2.2 hY⟩) (fun hS => ?_)
      clear hK K hY
      refine takeH12 45 60 (.bool true) rfl rfl (by kernel_rfl) (by kernel_rfl) (by kernel_rfl) (fun _ _ _ h => h) (Or.inl ⟨by kernel_rfl, fun W _ => by go_simp⟩) hS ?_
      simp only [Act.put, List.setIfInBounds_toArray, List.set_cons_zero, List.set_cons_succ]
      refine takeH12 46 61 (.bool true) rfl rfl (by kernel_rfl) (by kernel_rfl) (by kernel_rfl) (fun _ _ _ h => h) (Or.inl ⟨by kernel_rfl, fun W _ => by go_simp⟩) hS ?_
      simp only [Act.put, List.setIfInBounds_toArray, List.set_cons_zero, List.set_cons_succ]
      refine takeH12 47 62 (.bool true) rfl rfl (by kernel_rfl) (by kernel_rfl) (by kernel_rfl) (fun _ _ _ h => h) (Or.inl ⟨by kernel_rfl, fun W _ => by go_simp⟩) hS ?_
      simp only [Act.put, List.setIfInBounds_toArray, List.set_cons_zero, List.set_cons_succ]
      refine wpAnyH_ready (rs := [48]) (by kernel_rfl) (by simp) ?_
      refine AllReadyH.cons rfl (fun K hK => ?_) AllReadyH.nil
      go_simp
      refine (HAl.out _ ((hS6 _).1 hS).1).mono ?_
      rintro e wy8 ⟨rfl, hY⟩
      refine hK.out _ _ ((hS6 _).2 ⟨LfAt.below ((hS6 _).1 hS).1 hY, ReadsIs.below ((hS6 _).1 hS).2.1 hY, ReadsIs.below ((hS6 _).1 hS).2.2.1 hY, ReadsIs.below ((hS6 _).1 hS).2.2.2.1 hY, ReadsIs.below ((hS6 _).1 hS).2.2.2.2.1 hY, ReadsIs.below ((hS6 _).1 hS).2.2.2.2.2.1 hY, ReadsIs.below ((hS6 _).1 hS).2.2.2.2.2.2 hY⟩) (fun hS => ?_)
      clear hK K hY
      refine takeH12 49 64 (.bool true) rfl rfl (by kernel_rfl) (by kernel_rfl) (by kernel_rfl) (fun _ _ _ h => h) (Or.inl ⟨by kernel_rfl, fun W _ => by go_simp⟩) hS ?_
      simp only [Act.put, List.setIfInBounds_toArray, List.set_cons_zero, List.set_cons_succ]
      refine takeH12 50 6 (.bool true) rfl rfl (by kernel_rfl) (by kernel_rfl) (by kernel_rfl) (fun _ _ _ h => h) (Or.inl ⟨by kernel_rfl, fun W _ => by go_simp⟩) hS ?_
      simp only [Act.put, List.setIfInBounds_toArray, List.set_cons_zero, List.set_cons_succ]
      refine wpAnyH_done (by kernel_rfl) ?_ _
      have hfin := hideT ((hS6 _).1 hS).1.1
      go_wp2
      go_ret
      exact ⟨rfl, hfin.out⟩
end Go.Proofs.Ytoiedadfpbbdgaa.lookFinds
