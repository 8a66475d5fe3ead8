/- The walk of the law TokenTexts (in the second form), out of the contracts. -/
import Derived.Test.YtagceinccibnjaaGreatDoorKArgTk
import Derived.Test.YtagceinccibnjaaGreatDoorKTokenNextWalk
set_option linter.unusedVariables false
set_option linter.unusedSimpArgs false
namespace Go.Proofs.YtagceinccibnjaaGreatDoor
open Go.RowKit
theorem wpList_load_Rg {ops : Array Oper} {rest : List Oper} {o : Oper} {a : Act} {w : World} {Q : Exit → Act → World → Prop} (hw : Region.wanted o (yielded ops a.tmps) = true) (p : Operand) (ho : o.op = .load 35 p) (b : Nat) (x0 x1 x2 x3 x4 : Value) (hx : a.eval p = .pointer (some ⟨b, 0, none⟩)) (h : RAt12 w b #[x0, x1, x2, x3, x4])
    (hn : wpList Tryz.prog ops Q rest (a.put o.dst (.agg #[x0, x1, x2, x3, x4])) w) : wpList Tryz.prog ops Q (o :: rest) a w :=
  wpList_step fun K hK => by
    rw [if_pos hw]
    unfold Oper.wp
    have e : (execOp a.eval o).run Tryz.prog w = .ok (.value (.agg #[x0, x1, x2, x3, x4])) w := by
      unfold execOp
      rw [ho]
      simp only [hx, Sem.run_bind, loadAt_R h, Result.andThen, Sem.run_pure]
    rw [e, Oper.upon_value]
    exact hK _ _ hn
end Go.Proofs.YtagceinccibnjaaGreatDoor
namespace Go.Proofs.YtagceinccibnjaaGreatDoor.tokenTexts
open Go.RowKit
theorem flat7 (N : Nat) : ∀ ats : List Pr, (∀ a ∈ ats, a.1.length ≤ N ∧ a.2.length ≤ N) → (ats.flatMap Tk.attrText).length ≤ ats.length * (7 * N + 4)
  | [], _ => by simp
  | a :: ats, h => by
    have ih := flat7 N ats fun b hb => h b (List.mem_cons_of_mem _ hb)
    have ha := h a List.mem_cons_self
    have he := Rf.enc_len true a.2
    rw [List.flatMap_cons, List.length_append, List.length_cons, Nat.add_mul, Nat.one_mul]
    have : (Tk.attrText a).length = a.1.length + (Rf.enc true a.2).length + 4 := by
      unfold Tk.attrText
      simp only [List.length_cons, List.length_append, List.length_nil]
      omega
    omega
theorem not_far {kn kx : List UInt8} {ka : List Pr} (h : farT kn kx ka = false) : ka.length ≤ 100 := by
  unfold farT at h
  rw [Bool.or_eq_false_iff] at h
  have := of_decide_eq_false h.2
  omega
theorem bears_tok (kn kx : List UInt8) (ka : List Pr) (ks : Bool) (hl : ka.length ≤ 100) (h1 : kn.length ≤ 1048576) (h2 : kx.length ≤ 1048576) (h3 : ∀ p ∈ ka, p.1.length ≤ 1048576 ∧ p.2.length ≤ 1048576) : Bears ⟨0, kn, ka, ks, kx⟩ := by
  have hf := flat7 1048576 ka h3
  have hm : ka.length * (7 * 1048576 + 4) ≤ 100 * (7 * 1048576 + 4) := Nat.mul_le_mul_right _ hl
  refine ⟨by show ka.length ≤ _; omega, ?_, fun a ha => ?_, by show kx.length ≤ _; omega, by show kn.length ≤ _; omega⟩
  · show (60 :: (kn ++ Tk.tailText ka ks)).length ≤ _
    unfold Tk.tailText
    rw [List.length_cons, List.length_append, List.length_append]
    have : (if ks then ([47, 62] : List UInt8) else [62]).length ≤ 2 := by split <;> simp
    omega
  · have := h3 a ha
    omega
set_option maxHeartbeats 8000000 in
set_option maxRecDepth 100000 in
theorem walk (v1 : Value) (kk : Int) (kn : List UInt8) (ka : List Pr) (ks : Bool) (kx : List UInt8) (n1 : Nat) (v2 : Value) (jk : Int) (jn : List UInt8) (ja : List Pr) (js : Bool) (jx : List UInt8) (n2 : Nat) (w : World) (h1 : ArgTk w n1 v1 kk kn ka ks kx) (u1 : n1 ≤ 1048576) (h2 : ArgTk w n2 v2 jk jn ja js jx) (u2 : n2 ≤ 1048576) (hT : EnvT w) :
    Calls Tryz.prog 5 #[v1, v2] w fun e w' => e = .returned (.bool true) ∧ Below w.heap.size w w' := by
  have HT : Hid (EnvT w) := hT
  clear hT
  obtain ⟨a, c, rfl, hr1, hkn, hkx, hka, hke⟩ := h1
  obtain ⟨a', c', rfl, hr2, hjn, hjx, hja, hje⟩ := h2
  have hb0 : Below w.heap.size w ((w.alloc (.cells (kCells kk kn (.slice a ka.length c) ks kx) 35)).alloc (.cells (kCells jk jn (.slice a' ja.length c') js jx) 35)) := ((Below.refl _ w).alloc (Nat.le_refl _) _).alloc (by simp) _
  have t1 : RAt12 ((w.alloc (.cells (kCells kk kn (.slice a ka.length c) ks kx) 35)).alloc (.cells (kCells jk jn (.slice a' ja.length c') js jx) 35)) w.heap.size (kCells kk kn (.slice a ka.length c) ks kx) := RAt12.step (heap_new w _) ((Below.refl _ _).alloc (Nat.le_refl _) _)
  have t2 : RAt12 ((w.alloc (.cells (kCells kk kn (.slice a ka.length c) ks kx) 35)).alloc (.cells (kCells jk jn (.slice a' ja.length c') js jx) 35)) (w.heap.size + 1) (kCells jk jn (.slice a' ja.length c') js jx) := by
    have := heap_new (w.alloc (.cells (kCells kk kn (.slice a ka.length c) ks kx) 35)) (.cells (kCells jk jn (.slice a' ja.length c') js jx) 35)
    rw [alloc_size12] at this
    exact this
  have HR1 := hideQ (hr1.below hb0)
  have HR2 := hideQ (hr2.below hb0)
  have HB0 := hideQ hb0
  have HT1 := hideQ t1
  have HT2 := hideQ t2
  clear hb0 t1 t2 hr1 hr2
  have hfar1 := hideQ (fun W (h : ReadsPairs W (.slice a ka.length c) ka) => far12_any kk kn ka ks kx _ W h (by omega) ⟨by omega, by omega⟩)
  have hfar2 := hideQ (fun W (h : ReadsPairs W (.slice a' ja.length c') ja) => far12_any jk jn ja js jx _ W h (by omega) ⟨by omega, by omega⟩)
  go_enter Tryz.func5, Tryz.ntmps5
  go_upto_region 1 with fail
  generalize ((w.alloc (.cells (kCells kk kn (.slice a ka.length c) ks kx) 35)).alloc (.cells (kCells jk jn (.slice a' ja.length c') js jx) 35)) = W0 at *
  cases hf1 : farT kn kx ka
  · rw [hf1] at hfar1
    cases hf2 : farT jn jx ja
    · rw [hf2] at hfar2
      have hl1 := not_far hf1
      have hl2 := not_far hf2
      have HBe1 := hideQ (bears_tok kn kx ka ks hl1 (by omega) (by omega) (fun p hp => by have := hke p hp; omega))
      have HBe2 := hideQ (bears_tok jn jx ja js hl2 (by omega) (by omega) (fun p hp => by have := hje p hp; omega))
      have hal1 : ka.length ≤ 1000000 := by omega
      have hal2 : ja.length ≤ 1000000 := by omega
      clear hf1 hf2 hl1 hl2 hke hje hkn hkx hka hjn hjx hja
      go_upto_region 3 with (first
        | ((with_reducible show wpList _ _ _ ({ op := Op.load 35 (Operand.tmp 2), .. } :: _) _ _); refine wpList_load_R _ rfl rfl w.heap.size _ _ _ _ _ rfl HT1.out ?_)
        | (go_at_call 19; refine (hfar1.out _ HR1.out).mono ?_; rintro e w1 ⟨rfl, hb1⟩; have HT21 := hideQ (HT2.out.step hb1); have HT11 := hideQ (HT1.out.step hb1); have HR11 := hideQ (HR1.out.below hb1); have HR21 := hideQ (HR2.out.below hb1); have HB1 := hideQ (bel HB0.out hb1); clear hb1 hfar1)
        | ((with_reducible show wpList _ _ _ ({ op := Op.load 35 (Operand.tmp 3), .. } :: _) _ _); refine wpList_load_Rg (by rfl) _ rfl (w.heap.size + 1) _ _ _ _ _ rfl HT21.out ?_)
        | (go_at_call 19; refine (hfar2.out _ HR21.out).mono ?_; rintro e w2 ⟨rfl, hb2⟩; have HTA := hideQ (HT11.out.step hb2); have HTB := hideQ (HT21.out.step hb2); have HRA := hideQ (HR11.out.below hb2); have HRB := hideQ (HR21.out.below hb2); have HB2 := hideQ (bel HB1.out hb2); clear hb2 hfar2))
      rename World => X
      clear HT1 HT2 HR1 HR2 HT11 HT21 HR11 HR21 HB0 HB1
      have hXd : Below X.heap.size X X.drew := (Below.refl _ _).drew
      obtain ⟨S, hS1⟩ : ∃ S : World → Prop, ∀ W, S W ↔ Below X.heap.size X W := ⟨_, fun _ => Iff.rfl⟩
      have qt := beq_self_eq_true (str (tagI kk kn ka ks kx)).toList
      have HTag := hideQ (fun W (h : ReadsPairs W (.slice a ka.length c) ka) => TagI_any kk kn ka ks kx _ W h HBe1.out)
      have HRTag := hideQ (fun W (h : ReadsPairs W (.slice a ka.length c) ka) => RTagI_any kk kn ka ks kx _ W h HBe1.out)
      have HS12 := hideQ (fun W (h : ReadsPairs W (.slice a ka.length c) ka) (h2 : ReadsPairs W (.slice a' ja.length c') ja) => SameT_any kk jk kn jn ka ja ks js kx jx _ _ W h h2 hal1 hal2)
      have HRS12 := hideQ (fun W (h : ReadsPairs W (.slice a ka.length c) ka) (h2 : ReadsPairs W (.slice a' ja.length c') ja) => RSameT_any kk jk kn jn ka ja ks js kx jx _ _ W h h2 hal1 hal2)
      have HS11 := hideQ (fun W (h : ReadsPairs W (.slice a ka.length c) ka) => SameT_any kk kk kn kn ka ka ks ks kx kx _ _ W h h hal1 hal1)
      rw [sameK_self] at HS11
      generalize tagI kk kn ka ks kx = tx at *
      generalize sameK kk jk kn jn ka ja ks js kx jx = sk at *
      have qs : (sk == sk) = true := beq_self_eq_true sk
      refine wp_region_held_drew (S := S) (by kernel_rfl) ((hS1 _).2 hXd) (fun hS => ?_)
      refine takeH12 0 12 (tokI kk kn (.slice a ka.length c) ks kx) rfl rfl (by kernel_rfl) (by kernel_rfl) (by kernel_rfl) (fun _ _ _ h => h) (hy_load_R (Operand.tmp 2) rfl (by kernel_rfl) w.heap.size _ _ _ _ _ (by kernel_rfl) (fun W h => HTA.out.step ((hS1 W).1 h))) hS ?_
      simp only [Act.put, List.setIfInBounds_toArray, List.set_cons_zero, List.set_cons_succ]
      refine takeH12 3 15 (tokI kk kn (.slice a ka.length c) ks kx) rfl rfl (by kernel_rfl) (by kernel_rfl) (by kernel_rfl) (fun _ _ _ h => h) (hy_load_R (Operand.tmp 2) rfl (by kernel_rfl) w.heap.size _ _ _ _ _ (by kernel_rfl) (fun W h => HTA.out.step ((hS1 W).1 h))) hS ?_
      simp only [Act.put, List.setIfInBounds_toArray, List.set_cons_zero, List.set_cons_succ]
      refine wpAnyH_ready (rs := [1]) (by kernel_rfl) (by simp) ?_
      refine AllReadyH.cons rfl (fun K hK => ?_) AllReadyH.nil
      go_simp
      refine (theirs_any kk kn kx ks a ka.length c _).mono ?_
      rintro e w6 ⟨rfl, hb6⟩
      refine hK.out _ _ ((hS1 _).2 (bel ((hS1 _).1 hS) hb6)) (fun hS => ?_)
      clear hK K hb6
      have hX6 := hideQ ((hS1 _).1 hS)
      refine wpAnyH_ready (rs := [2]) (by kernel_rfl) (by simp) ?_
      refine AllReadyH.cons rfl (fun K hK => ?_) AllReadyH.nil
      go_simp
      refine (HTag.out _ (HRA.out.below hX6.out)).mono ?_
      rintro e w7 ⟨rfl, hb7⟩
      refine hK.out _ _ ((hS1 _).2 (bel ((hS1 _).1 hS) hb7)) (fun hS => ?_)
      clear hK K hb7
      have hX7 := hideQ ((hS1 _).1 hS)
      refine wpAnyH_ready (rs := [4]) (by kernel_rfl) (by simp) ?_
      refine AllReadyH.cons rfl (fun K hK => ?_) AllReadyH.nil
      go_simp
      refine (HRTag.out _ (HRA.out.below hX7.out)).mono ?_
      rintro e w8 ⟨rfl, hb8⟩
      refine hK.out _ _ ((hS1 _).2 (bel ((hS1 _).1 hS) hb8)) (fun hS => ?_)
      clear hK K hb8
      have hX8 := hideQ ((hS1 _).1 hS)
      refine takeH12 5 17 (.bool true) rfl rfl (by kernel_rfl) (by kernel_rfl) (by kernel_rfl) (fun _ _ _ h => h) (Or.inl ⟨by kernel_rfl, fun W _ => by go_simp⟩) hS ?_
      simp only [Act.put, List.setIfInBounds_toArray, List.set_cons_zero, List.set_cons_succ]
      refine takeH12 6 18 (.bool true) rfl rfl (by kernel_rfl) (by kernel_rfl) (by kernel_rfl) (fun _ _ _ h => h) (Or.inl ⟨by kernel_rfl, fun W _ => by go_simp⟩) hS ?_
      simp only [Act.put, List.setIfInBounds_toArray, List.set_cons_zero, List.set_cons_succ]
      refine takeH12 7 19 (tokI kk kn (.slice a ka.length c) ks kx) rfl rfl (by kernel_rfl) (by kernel_rfl) (by kernel_rfl) (fun _ _ _ h => h) (hy_load_R (Operand.tmp 2) rfl (by kernel_rfl) w.heap.size _ _ _ _ _ (by kernel_rfl) (fun W h => HTA.out.step ((hS1 W).1 h))) hS ?_
      simp only [Act.put, List.setIfInBounds_toArray, List.set_cons_zero, List.set_cons_succ]
      refine takeH12 9 21 (tokI jk jn (.slice a' ja.length c') js jx) rfl rfl (by kernel_rfl) (by kernel_rfl) (by kernel_rfl) (fun _ _ _ h => h) (hy_load_R (Operand.tmp 3) rfl (by kernel_rfl) (w.heap.size + 1) _ _ _ _ _ (by kernel_rfl) (fun W h => HTB.out.step ((hS1 W).1 h))) hS ?_
      simp only [Act.put, List.setIfInBounds_toArray, List.set_cons_zero, List.set_cons_succ]
      refine takeH12 12 24 (tokI kk kn (.slice a ka.length c) ks kx) rfl rfl (by kernel_rfl) (by kernel_rfl) (by kernel_rfl) (fun _ _ _ h => h) (hy_load_R (Operand.tmp 2) rfl (by kernel_rfl) w.heap.size _ _ _ _ _ (by kernel_rfl) (fun W h => HTA.out.step ((hS1 W).1 h))) hS ?_
      simp only [Act.put, List.setIfInBounds_toArray, List.set_cons_zero, List.set_cons_succ]
      refine takeH12 13 25 (tokI jk jn (.slice a' ja.length c') js jx) rfl rfl (by kernel_rfl) (by kernel_rfl) (by kernel_rfl) (fun _ _ _ h => h) (hy_load_R (Operand.tmp 3) rfl (by kernel_rfl) (w.heap.size + 1) _ _ _ _ _ (by kernel_rfl) (fun W h => HTB.out.step ((hS1 W).1 h))) hS ?_
      simp only [Act.put, List.setIfInBounds_toArray, List.set_cons_zero, List.set_cons_succ]
      refine wpAnyH_ready (rs := [8]) (by kernel_rfl) (by simp) ?_
      refine AllReadyH.cons rfl (fun K hK => ?_) AllReadyH.nil
      go_simp
      refine (theirs_any kk kn kx ks a ka.length c _).mono ?_
      rintro e w9 ⟨rfl, hb9⟩
      refine hK.out _ _ ((hS1 _).2 (bel ((hS1 _).1 hS) hb9)) (fun hS => ?_)
      clear hK K hb9
      have hX9 := hideQ ((hS1 _).1 hS)
      refine wpAnyH_ready (rs := [10]) (by kernel_rfl) (by simp) ?_
      refine AllReadyH.cons rfl (fun K hK => ?_) AllReadyH.nil
      go_simp
      refine (theirs_any jk jn jx js a' ja.length c' _).mono ?_
      rintro e w10 ⟨rfl, hb10⟩
      refine hK.out _ _ ((hS1 _).2 (bel ((hS1 _).1 hS) hb10)) (fun hS => ?_)
      clear hK K hb10
      have hX10 := hideQ ((hS1 _).1 hS)
      refine wpAnyH_ready (rs := [11]) (by kernel_rfl) (by simp) ?_
      refine AllReadyH.cons rfl (fun K hK => ?_) AllReadyH.nil
      go_simp
      refine (HS12.out _ (HRA.out.below hX10.out) (HRB.out.below hX10.out)).mono ?_
      rintro e w11 ⟨rfl, hb11⟩
      refine hK.out _ _ ((hS1 _).2 (bel ((hS1 _).1 hS) hb11)) (fun hS => ?_)
      clear hK K hb11
      have hX11 := hideQ ((hS1 _).1 hS)
      refine wpAnyH_ready (rs := [14]) (by kernel_rfl) (by simp) ?_
      refine AllReadyH.cons rfl (fun K hK => ?_) AllReadyH.nil
      go_simp
      refine (HRS12.out _ (HRA.out.below hX11.out) (HRB.out.below hX11.out)).mono ?_
      rintro e w12 ⟨rfl, hb12⟩
      refine hK.out _ _ ((hS1 _).2 (bel ((hS1 _).1 hS) hb12)) (fun hS => ?_)
      clear hK K hb12
      have hX12 := hideQ ((hS1 _).1 hS)
      refine takeH12 15 27 (.bool true) rfl rfl (by kernel_rfl) (by kernel_rfl) (by kernel_rfl) (fun _ _ _ h => h) (Or.inl ⟨by kernel_rfl, fun W _ => by go_simp⟩) hS ?_
      simp only [Act.put, List.setIfInBounds_toArray, List.set_cons_zero, List.set_cons_succ]
      refine takeH12 16 28 (.bool true) rfl rfl (by kernel_rfl) (by kernel_rfl) (by kernel_rfl) (fun _ _ _ h => h) (Or.inl ⟨by kernel_rfl, fun W _ => by go_simp⟩) hS ?_
      simp only [Act.put, List.setIfInBounds_toArray, List.set_cons_zero, List.set_cons_succ]
      refine takeH12 17 29 (.bool true) rfl rfl (by kernel_rfl) (by kernel_rfl) (by kernel_rfl) (fun _ _ _ h => h) (Or.inl ⟨by kernel_rfl, fun W _ => by go_simp⟩) hS ?_
      simp only [Act.put, List.setIfInBounds_toArray, List.set_cons_zero, List.set_cons_succ]
      refine takeH12 18 30 (tokI kk kn (.slice a ka.length c) ks kx) rfl rfl (by kernel_rfl) (by kernel_rfl) (by kernel_rfl) (fun _ _ _ h => h) (hy_load_R (Operand.tmp 2) rfl (by kernel_rfl) w.heap.size _ _ _ _ _ (by kernel_rfl) (fun W h => HTA.out.step ((hS1 W).1 h))) hS ?_
      simp only [Act.put, List.setIfInBounds_toArray, List.set_cons_zero, List.set_cons_succ]
      refine takeH12 20 32 (tokI kk kn (.slice a ka.length c) ks kx) rfl rfl (by kernel_rfl) (by kernel_rfl) (by kernel_rfl) (fun _ _ _ h => h) (hy_load_R (Operand.tmp 2) rfl (by kernel_rfl) w.heap.size _ _ _ _ _ (by kernel_rfl) (fun W h => HTA.out.step ((hS1 W).1 h))) hS ?_
      simp only [Act.put, List.setIfInBounds_toArray, List.set_cons_zero, List.set_cons_succ]
      refine wpAnyH_ready (rs := [19]) (by kernel_rfl) (by simp) ?_
      refine AllReadyH.cons rfl (fun K hK => ?_) AllReadyH.nil
      go_simp
      refine (theirs_any kk kn kx ks a ka.length c _).mono ?_
      rintro e w13 ⟨rfl, hb13⟩
      refine hK.out _ _ ((hS1 _).2 (bel ((hS1 _).1 hS) hb13)) (fun hS => ?_)
      clear hK K hb13
      have hX13 := hideQ ((hS1 _).1 hS)
      refine wpAnyH_ready (rs := [21]) (by kernel_rfl) (by simp) ?_
      refine AllReadyH.cons rfl (fun K hK => ?_) AllReadyH.nil
      go_simp
      refine (theirs_any kk kn kx ks a ka.length c _).mono ?_
      rintro e w14 ⟨rfl, hb14⟩
      refine hK.out _ _ ((hS1 _).2 (bel ((hS1 _).1 hS) hb14)) (fun hS => ?_)
      clear hK K hb14
      have hX14 := hideQ ((hS1 _).1 hS)
      refine wpAnyH_ready (rs := [22]) (by kernel_rfl) (by simp) ?_
      refine AllReadyH.cons rfl (fun K hK => ?_) AllReadyH.nil
      go_simp
      refine (HS11.out _ (HRA.out.below hX14.out)).mono ?_
      rintro e w15 ⟨rfl, hb15⟩
      refine hK.out _ _ ((hS1 _).2 (bel ((hS1 _).1 hS) hb15)) (fun hS => ?_)
      clear hK K hb15
      have hX15 := hideQ ((hS1 _).1 hS)
      refine takeH12 23 35 (.bool true) rfl rfl (by kernel_rfl) (by kernel_rfl) (by kernel_rfl) (fun _ _ _ h => h) (Or.inl ⟨by kernel_rfl, fun W _ => by go_simp⟩) hS ?_
      simp only [Act.put, List.setIfInBounds_toArray, List.set_cons_zero, List.set_cons_succ]
      refine takeH12 24 36 (.bool true) rfl rfl (by kernel_rfl) (by kernel_rfl) (by kernel_rfl) (fun _ _ _ h => h) (Or.inl ⟨by kernel_rfl, fun W _ => by go_simp⟩) hS ?_
      simp only [Act.put, List.setIfInBounds_toArray, List.set_cons_zero, List.set_cons_succ]
      refine wpAnyH_ready (rs := [25]) (by kernel_rfl) (by simp) ?_
      refine AllReadyH.cons rfl (fun K hK => ?_) AllReadyH.nil
      go_simp
      refine (alive12_any _ (HT.out.below (bel HB2.out hX15.out))).mono ?_
      rintro e w16 ⟨rfl, hb16⟩
      refine hK.out _ _ ((hS1 _).2 (bel ((hS1 _).1 hS) hb16)) (fun hS => ?_)
      clear hK K hb16
      have hX16 := hideQ ((hS1 _).1 hS)
      refine takeH12 26 38 (.bool true) rfl rfl (by kernel_rfl) (by kernel_rfl) (by kernel_rfl) (fun _ _ _ h => h) (Or.inl ⟨by kernel_rfl, fun W _ => by go_simp⟩) hS ?_
      simp only [Act.put, List.setIfInBounds_toArray, List.set_cons_zero, List.set_cons_succ]
      refine takeH12 27 4 (.bool true) rfl rfl (by kernel_rfl) (by kernel_rfl) (by kernel_rfl) (fun _ _ _ h => h) (Or.inl ⟨by kernel_rfl, fun W _ => by go_simp⟩) hS ?_
      simp only [Act.put, List.setIfInBounds_toArray, List.set_cons_zero, List.set_cons_succ]
      refine wpAnyH_done (by kernel_rfl) ?_ _
      go_wp2
      go_ret
      exact ⟨rfl, bel HB2.out hX16.out⟩
    · rw [hf2] at hfar2
      clear hf1 hf2
      go_wp2_with (first
        | ((with_reducible show wpList _ _ _ ({ op := Op.load 35 (Operand.tmp 2), .. } :: _) _ _); refine wpList_load_R _ rfl rfl w.heap.size _ _ _ _ _ rfl HT1.out ?_)
        | (go_at_call 19; refine (hfar1.out _ HR1.out).mono ?_; rintro e w1 ⟨rfl, hb1⟩; have HT21 := hideQ (HT2.out.step hb1); have HR21 := hideQ (HR2.out.below hb1); have HB1 := hideQ (bel HB0.out hb1); clear hb1 hfar1)
        | ((with_reducible show wpList _ _ _ ({ op := Op.load 35 (Operand.tmp 3), .. } :: _) _ _); refine wpList_load_Rg (by rfl) _ rfl (w.heap.size + 1) _ _ _ _ _ rfl HT21.out ?_)
        | (go_at_call 19; refine (hfar2.out _ HR21.out).mono ?_; rintro e w2 ⟨rfl, hb2⟩; have HB2 := hideQ (bel HB1.out hb2); clear hb2 hfar2)
        | (go_at_call 10; refine (alive12_any _ (HT.out.below HB2.out)).mono ?_; rintro e w3 ⟨rfl, hb3⟩))
      go_ret
      exact ⟨rfl, bel HB2.out hb3⟩
  · rw [hf1] at hfar1
    clear hf1
    go_wp2_with (first
      | ((with_reducible show wpList _ _ _ ({ op := Op.load 35 (Operand.tmp 2), .. } :: _) _ _); refine wpList_load_R _ rfl rfl w.heap.size _ _ _ _ _ rfl HT1.out ?_)
      | (go_at_call 19; refine (hfar1.out _ HR1.out).mono ?_; rintro e w1 ⟨rfl, hb1⟩; have HB1 := hideQ (bel HB0.out hb1); clear hb1 hfar1)
      | (go_at_call 10; refine (alive12_any _ (HT.out.below HB1.out)).mono ?_; rintro e w3 ⟨rfl, hb3⟩))
    go_ret
    exact ⟨rfl, bel HB1.out hb3⟩
end Go.Proofs.YtagceinccibnjaaGreatDoor.tokenTexts
