/- The walk of the law TokenAll, out of the contracts. -/
import Derived.Test.YtagceinccibnjaaGreatDoorKTrI
import Derived.Test.YtagceinccibnjaaGreatDoorKTkX
set_option linter.unusedVariables false
set_option linter.unusedSimpArgs false
namespace Go.Proofs.YtagceinccibnjaaGreatDoor
open Go.RowKit
theorem KS.range {w : World} {B : Nat} {a : Option Addr} {n c : Nat} {ks : List Tk.Tok} (h : KS w B (.slice a n c) ks) {j : Nat} {k : Tk.Tok} (hj : ks[j]? = some k) :
    ∃ g ua ul uc, a = some ⟨g, 0, none⟩ ∧ g < w.heap.size ∧ n ≤ c ∧ w.rangeAt g (j * 5) [.int .i64 k.kind, .string (str k.name), .slice ua ul uc, .bool k.self, .string (str k.text)] ∧ OwnsA w B (.slice ua ul uc) k.attrs := by
  obtain ⟨g, u, ha, hB, hg, hc, c0, c1, c2, c3, c4, ho⟩ := h.at hj
  obtain ⟨ua, uc, rfl⟩ := ho.reads.form
  refine ⟨g, ua, _, uc, ha, hg, hc, ?_, ho⟩
  intro i v hi
  rcases i with _ | _ | _ | _ | _ | i
  · cases hi; exact c0
  · cases hi; exact c1
  · cases hi; exact c2
  · cases hi; exact c3
  · cases hi; exact c4
  · simp at hi
theorem range_below {w W : World} {g o : Nat} {cs : List Value} (h : w.rangeAt g o cs) (hg : g < w.heap.size) (hb : Below w.heap.size w W) : W.rangeAt g o cs := fun i v hi => (hb.cell (p := ⟨g, o + i, none⟩) hg).trans (h i v hi)
theorem e_neq (n : Nat) : ((n : Int) != (n : Int)) = false := by simp
end Go.Proofs.YtagceinccibnjaaGreatDoor
namespace Go.Proofs.YtagceinccibnjaaGreatDoor.tokenAll
open Go.RowKit
set_option maxHeartbeats 8000000 in
set_option maxRecDepth 100000 in
theorem walk (a0 : ByteArray) (w : World) (h0 : a0.size ≤ 140737488351232) (hT : EnvT w) :
    Calls Tryz.prog 3 #[.string a0] w fun e w' => e = .returned (.bool true) ∧ Below w.heap.size w w' := by
  have HT : Hid (EnvT w) := hT
  clear hT
  obtain ⟨l, rfl⟩ : ∃ l, a0 = str l := ⟨_, (str_self a0).symm⟩
  have hL := long12_any l
  have hsz := str_size l
  by_cases hl : 1500 < l.length ∧ l.length ≤ 65536
  · rw [longT_yes hl] at hL
    clear hl
    go_enter Tryz.func3, Tryz.ntmps3
    go_wp2_with (first
      | (go_at_call 9; refine (hL _).mono ?_; rintro e w1 ⟨rfl, hw⟩; rw [hw]; clear hw)
      | (go_at_call 10; refine (alive12_any _ HT.out).mono ?_; rintro e w2 ⟨rfl, hb2⟩))
    go_ret
    exact ⟨rfl, hb2⟩
  · rw [longT_no hl] at hL
    have hA := All_any l w HT.out
    have HRA := hideQ (fun W => RAll_any l W)
    by_cases h65 : 65536 < l.length
    · rw [allR_long l h65] at hA HRA
      have hI : ¬ (l.length : Int) ≤ 65536 := by omega
      clear hl h65
      go_enter Tryz.func3, Tryz.ntmps3
      go_wp2_with (first
        | (go_at_call 9; refine (hL _).mono ?_; rintro e w1 ⟨rfl, hw⟩; rw [hw]; clear hw)
        | (go_at_call 11; refine hA.mono ?_; rintro e w1 ⟨ad, ln, cp, rfl, hK, hb1⟩; obtain ⟨a1, c1, e1⟩ := hK.form; cases e1; have HB1 := hideQ hb1; clear hK hb1)
        | (go_at_call 12; refine (HRA.out _).mono ?_; rintro e w2 ⟨ad2, ln2, cp2, rfl, hK2, hb2⟩; obtain ⟨a2, c2, e2⟩ := hK2.form; cases e2; have HB2 := hideQ (bel HB1.out hb2); clear hK2 hb2))
      go_loopw [45] (fun i wr => i = .int .i64 0 ∧ wr = w2) (fun i _ => 0)
      case atStart => exact ⟨rfl, rfl⟩
      case round =>
        obtain ⟨rfl, he⟩ := hrel
        replace he := he.symm
        subst he
        go_wp2_with (go_at_call 10; refine (alive12_any _ (HT.out.below HB2.out)).mono ?_; rintro e w9 ⟨rfl, hb9⟩)
        go_ret
        exact ⟨rfl, bel HB2.out hb9⟩
    · have hs : l.length ≤ 1500 := by omega
      have hI : (l.length : Int) ≤ 65536 := by omega
      obtain ⟨hR, hkl, hcl⟩ := allR_short l hs
      rw [hR] at hA HRA
      have hats := hideQ (fun k (hk : k ∈ Tk.all (Tk.clean l)) => Tk.fine_ats k (Tk.all_fine (Tk.clean l) k hk))
      have HC1 := hideQ (fun W hE => Clean_any l W hE (by omega))
      have HC2 := hideQ (fun W => RClean_any l W (by omega))
      generalize Tk.all (Tk.clean l) = ks at *
      generalize Tk.clean l = cc at *
      have qc := beq_self_eq_true (str cc).toList
      have qn := e_neq ks.length
      clear hl h65 hs hR hcl
      go_enter Tryz.func3, Tryz.ntmps3
      go_wp2_with (first
        | (go_at_call 9; refine (hL _).mono ?_; rintro e w1 ⟨rfl, hw⟩; rw [hw]; clear hw)
        | (go_at_call 11; refine hA.mono ?_; rintro e w1 ⟨ad, ln, cp, rfl, hK, hb1⟩; obtain ⟨a1, c1, e1⟩ := hK.form; cases e1; have HK1 := hideQ hK; have HB1 := hideQ hb1; clear hK hb1)
        | (go_at_call 12; refine (HRA.out _).mono ?_; rintro e w2 ⟨ad2, ln2, cp2, rfl, hK2, hb2⟩; obtain ⟨a2, c2, e2⟩ := hK2.form; cases e2; have HK2 := hideQ hK2; have HK12 := hideQ (HK1.out.below hb2); have HB2 := hideQ (bel HB1.out hb2); clear hK2 hb2)
        | (go_at_call 13; refine (HC1.out _ (HT.out.below HB2.out)).mono ?_; rintro e w3 ⟨rfl, hb3⟩; have HK13 := hideQ (HK12.out.below hb3); have HK23 := hideQ (HK2.out.below hb3); have HB3 := hideQ (bel HB2.out hb3); clear hb3)
        | (go_at_call 14; refine (HC2.out _).mono ?_; rintro e w4 ⟨rfl, hb4⟩; have HK14 := hideQ (HK13.out.below hb4); have HK24 := hideQ (HK23.out.below hb4); have HB4 := hideQ (bel HB3.out hb4); clear hb4))
      clear hL hA HRA HC1 HC2 HK1 HK2 HK12 HK13 HK23 HB1 HB2 HB3
      go_loopw [45] (fun i wr => ∃ j : Nat, i = .int .i64 j ∧ j ≤ ks.length ∧ Below w4.heap.size w4 wr) (fun i _ => ks.length - (intOf i).toNat)
      case atStart => exact ⟨0, rfl, Nat.zero_le _, Below.refl _ _⟩
      case round =>
        obtain ⟨j, rfl, hj, hB⟩ := hrel
        have HB := hideQ hB
        clear hB
        rename World => X
        by_cases hjl : j < ks.length
        · have hat : ks[j]? = some ks[j] := List.getElem?_eq_getElem hjl
          have hal : ks[j].attrs.length ≤ 1000000 := Nat.le_trans (hats.out _ (List.getElem_mem hjl)) (by decide)
          obtain ⟨g1, ua, ul, uc, rfl, hg1, hc1, r1, o1⟩ := (HK14.out.below HB.out).range hat
          obtain ⟨g2, va, vl, vc, rfl, hg2, hc2, r2, o2⟩ := (HK24.out.below HB.out).range hat
          generalize ks[j] = k at *
          obtain ⟨kk, kn, ka, ksf, kx⟩ := k
          simp only at hal r1 r2 o1 o2
          have HR1 := hideQ r1
          have HR2 := hideQ r2
          have HO1 := hideQ o1.reads
          have HO2 := hideQ o2.reads
          have hXd : Below X.heap.size X X.drew := (Below.refl _ _).drew
          obtain ⟨S, hS1⟩ : ∃ S : World → Prop, ∀ W, S W ↔ Below X.heap.size X W := ⟨_, fun _ => Iff.rfl⟩
          clear r1 r2 o1 o2 hat
          go_upto_region 10 with fail
          refine wp_region_held_drew (S := S) (by kernel_rfl) ((hS1 _).2 hXd) (fun hS => ?_)
          refine takeH12 0 48 (.slice (some ⟨g1, 0, none⟩) ks.length cp) rfl rfl (by kernel_rfl) (by kernel_rfl) (by kernel_rfl) (fun _ _ _ h => h) (Or.inl ⟨by kernel_rfl, fun W _ => by go_simp⟩) hS ?_
          simp only [Act.put, List.setIfInBounds_toArray, List.set_cons_zero, List.set_cons_succ]
          refine takeH12 1 49 (.int .i64 (j : Int)) rfl rfl (by kernel_rfl) (by kernel_rfl) (by kernel_rfl) (fun _ _ _ h => h) (Or.inl ⟨by kernel_rfl, fun W _ => by go_simp⟩) hS ?_
          simp only [Act.put, List.setIfInBounds_toArray, List.set_cons_zero, List.set_cons_succ]
          refine takeH12 2 50 (.pointer (some ⟨g1, j * 5, none⟩)) rfl rfl (by kernel_rfl) (by kernel_rfl) (by kernel_rfl) (fun _ _ _ h => h) (Or.inl ⟨by kernel_rfl, fun W _ => by go_simp⟩) hS ?_
          simp only [Act.put, List.setIfInBounds_toArray, List.set_cons_zero, List.set_cons_succ]
          refine takeH12 3 51 (tokI kk kn (.slice ua ul uc) ksf kx) rfl rfl (by kernel_rfl) (by kernel_rfl) (by kernel_rfl) (fun _ _ _ h => h) (yieldsIf_load_mid (by kernel_rfl) 37 (Operand.tmp 50) rfl g1 (j * 5) (by kernel_rfl) [.int .i64 kk, .string (str kn), .slice ua ul uc, .bool ksf, .string (str kx)] _ (fun W h => range_below HR1.out hg1 ((hS1 W).1 h)) Tryz.underlying37 rfl sizeK) hS ?_
          simp only [Act.put, List.setIfInBounds_toArray, List.set_cons_zero, List.set_cons_succ]
          refine takeH12 5 53 (.slice (some ⟨g2, 0, none⟩) ks.length cp2) rfl rfl (by kernel_rfl) (by kernel_rfl) (by kernel_rfl) (fun _ _ _ h => h) (Or.inl ⟨by kernel_rfl, fun W _ => by go_simp⟩) hS ?_
          simp only [Act.put, List.setIfInBounds_toArray, List.set_cons_zero, List.set_cons_succ]
          refine takeH12 6 54 (.int .i64 (j : Int)) rfl rfl (by kernel_rfl) (by kernel_rfl) (by kernel_rfl) (fun _ _ _ h => h) (Or.inl ⟨by kernel_rfl, fun W _ => by go_simp⟩) hS ?_
          simp only [Act.put, List.setIfInBounds_toArray, List.set_cons_zero, List.set_cons_succ]
          refine takeH12 7 55 (.pointer (some ⟨g2, j * 5, none⟩)) rfl rfl (by kernel_rfl) (by kernel_rfl) (by kernel_rfl) (fun _ _ _ h => h) (Or.inl ⟨by kernel_rfl, fun W _ => by go_simp⟩) hS ?_
          simp only [Act.put, List.setIfInBounds_toArray, List.set_cons_zero, List.set_cons_succ]
          refine takeH12 8 56 (tokI kk kn (.slice va vl vc) ksf kx) rfl rfl (by kernel_rfl) (by kernel_rfl) (by kernel_rfl) (fun _ _ _ h => h) (yieldsIf_load_mid (by kernel_rfl) 35 (Operand.tmp 55) rfl g2 (j * 5) (by kernel_rfl) [.int .i64 kk, .string (str kn), .slice va vl vc, .bool ksf, .string (str kx)] _ (fun W h => range_below HR2.out hg2 ((hS1 W).1 h)) Tryz.underlying35 rfl sizeR12) hS ?_
          simp only [Act.put, List.setIfInBounds_toArray, List.set_cons_zero, List.set_cons_succ]
          refine wpAnyH_ready (rs := [4]) (by kernel_rfl) (by simp) ?_
          refine AllReadyH.cons rfl (fun K hK => ?_) AllReadyH.nil
          go_simp
          refine (ours_any kk kn kx ksf ua ul uc _).mono ?_
          rintro e w6 ⟨rfl, hb6⟩
          refine hK.out _ _ ((hS1 _).2 (bel ((hS1 _).1 hS) hb6)) (fun hS => ?_)
          clear hK K
          have hX6 := (hS1 _).1 hS
          refine wpAnyH_ready (rs := [9]) (by kernel_rfl) (by simp) ?_
          refine AllReadyH.cons rfl (fun K hK => ?_) AllReadyH.nil
          go_simp
          refine (RSameT_any kk kk kn kn ka ka ksf ksf kx kx _ _ w6 (HO1.out.below hX6) (HO2.out.below hX6) hal hal).mono ?_
          rintro e w7 ⟨rfl, hb7⟩
          refine hK.out _ _ ((hS1 _).2 (bel ((hS1 _).1 hS) hb7)) (fun hS => ?_)
          clear hK K
          rw [sameK_self]
          have hX7 := (hS1 _).1 hS
          refine takeH12 10 58 (.bool false) rfl rfl (by kernel_rfl) (by kernel_rfl) (by kernel_rfl) (fun _ _ _ h => h) (Or.inl ⟨by kernel_rfl, fun W _ => by go_simp⟩) hS ?_
          simp only [Act.put, List.setIfInBounds_toArray, List.set_cons_zero, List.set_cons_succ]
          refine wpAnyH_done (by kernel_rfl) ?_ _
          go_wp2
          go_roundw
          case rel => exact ⟨j + 1, by go_num, by omega, bel HB.out hX7⟩
          case measure => simp [intOf]; omega
        · go_wp2_with (go_at_call 10; refine (alive12_any _ (HT.out.below (bel HB4.out HB.out))).mono ?_; rintro e w9 ⟨rfl, hb9⟩)
          go_ret
          exact ⟨rfl, bel (bel HB4.out HB.out) hb9⟩
end Go.Proofs.YtagceinccibnjaaGreatDoor.tokenAll
