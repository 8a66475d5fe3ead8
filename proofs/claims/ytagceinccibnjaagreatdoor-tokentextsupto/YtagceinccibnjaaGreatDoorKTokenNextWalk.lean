/- The walk of the law TokenNext, out of the contracts. -/
import Derived.Test.YtagceinccibnjaaGreatDoorKTrE
import Derived.Test.YtagceinccibnjaaGreatDoorKTkX
set_option linter.unusedVariables false
set_option linter.unusedSimpArgs false
namespace Go.Proofs.YtagceinccibnjaaGreatDoor
open Go.RowKit
theorem hy_load_R {ops : Array Oper} {S : World → Prop} {o : Oper} {a : Act} (x : Operand) (ho : o.op = .load 35 x) (hw : Region.wanted o (yielded ops a.tmps) = true) (b : Nat) (x0 x1 x2 x3 x4 : Value) (hx : a.eval x = .pointer (some ⟨b, 0, none⟩)) (h : ∀ W, S W → RAt12 W b #[x0, x1, x2, x3, x4]) : YieldsIf Tryz.prog ops S o (.agg #[x0, x1, x2, x3, x4]) a :=
  (.inl ⟨hw, fun w hs => by
    unfold execOp
    rw [ho]
    simp only [hx, Sem.run_bind, loadAt_R (h w hs), Result.andThen, Sem.run_pure]⟩)
theorem tag_one (l : List UInt8) (k : Tk.Tok) (r : List UInt8) (h : Tk.tag l = some (k, r)) : k.kind = 1 := by
  unfold Tk.tag at h
  split at h
  · cases h
  · cases h
    rfl
theorem next_zero (l : List UInt8) (hk : (Tk.next l).1.kind = 0) : (Tk.next l).1.attrs = [] := by
  unfold Tk.next at hk ⊢
  by_cases h : l = []
  · rw [if_pos h]
    rfl
  rw [if_neg h] at hk ⊢
  by_cases ht : Tk.isTag l = false
  · rw [if_pos ht]
    rfl
  rw [if_neg ht] at hk ⊢
  by_cases h1 : Tk.atLetter (l.drop 1) = true
  · rw [if_pos h1] at hk ⊢
    cases he : Tk.tag (l.drop 1) with
    | none => rfl
    | some x =>
      obtain ⟨k, r⟩ := x
      rw [he] at hk
      have := tag_one _ k r he
      have hk2 : k.kind = 0 := hk
      omega
  rw [if_neg h1] at hk ⊢
  split
  · split <;> rfl
  split
  · rfl
  split <;> rfl
end Go.Proofs.YtagceinccibnjaaGreatDoor
namespace Go.Proofs.YtagceinccibnjaaGreatDoor.tokenNext
open Go.RowKit
set_option maxHeartbeats 4000000 in
set_option maxRecDepth 100000 in
theorem walk (a0 : ByteArray) (w : World) (h0 : a0.size ≤ 140737488351232) (hT : EnvT w) :
    Calls Tryz.prog 4 #[.string a0] w fun e w' => e = .returned (.bool true) ∧ Below w.heap.size w w' := by
  have HT : Hid (EnvT w) := hT
  clear hT
  obtain ⟨l, rfl⟩ : ∃ l, a0 = str l := ⟨_, (str_self a0).symm⟩
  have hsz := str_size l
  by_cases hl : 1500 < l.length
  · have hI : (1500 : Int) < (l.length : Int) := by omega
    go_enter Tryz.func4, Tryz.ntmps4
    go_wp2_with (go_at_call 10; refine (alive12_any _ HT.out).mono ?_; rintro e w2 ⟨rfl, hb2⟩)
    go_ret
    exact ⟨rfl, hb2⟩
  · have hI : ¬ (1500 : Int) < (l.length : Int) := by omega
    have hN := NextT_any l w HT.out (by omega)
    have HR := hideQ (fun W => RNextT_any l W (by omega))
    have hwz : Tk.Wz l.length (Tk.next l).1 := Tk.next_size l
    have hat : (Tk.next l).1.attrs.length ≤ 1000000 := by
      by_cases hne : l = []
      · subst hne
        exact Nat.zero_le _
      · by_cases hk : (Tk.next l).1.kind = 0
        · have hz0 : (Tk.next l).1.attrs = [] := next_zero l hk
          rw [hz0]
          exact Nat.zero_le _
        · have := Tk.fine_ats _ (Tk.next_fine l hne hk)
          omega
    generalize (Tk.next l).2 = N at *
    generalize (Tk.next l).1 = t at *
    obtain ⟨kk, kn, ka, ksf, kx⟩ := t
    clear hwz
    go_enter Tryz.func4, Tryz.ntmps4
    go_upto_region 5 with (first
      | (go_at_call 17; refine hN.mono ?_; rintro e w1 ⟨ad, ln, cp, rfl, o1, hb1⟩; have hb2 : Below w1.heap.size w1 (w1.alloc (.cells (kCells kk kn (.slice ad ln cp) ksf kx) 37)) := (Below.refl _ _).alloc (Nat.le_refl _) _; have T2 : Hid (KAt (w1.alloc (.cells (kCells kk kn (.slice ad ln cp) ksf kx) 37)) w1.heap.size (kCells kk kn (.slice ad ln cp) ksf kx)) := heap_new w1 _; have R2 := hideQ ((OwnsPairs.reads o1).below hb2); have B2 := hideQ (bel hb1 hb2); clear o1 hb1 hb2 hN)
      | (go_at_call 18; refine (HR.out _).mono ?_; rintro e w3 ⟨ad3, ln3, cp3, rfl, o3, hb3⟩; have hb4 : Below w3.heap.size w3 (w3.alloc (.cells (kCells kk kn (.slice ad3 ln3 cp3) ksf kx) 35)) := (Below.refl _ _).alloc (Nat.le_refl _) _; have T4 := hideQ (T2.out.step (bel hb3 hb4)); have R4 := hideQ (R2.out.below (bel hb3 hb4)); have U4 : Hid (RAt12 (w3.alloc (.cells (kCells kk kn (.slice ad3 ln3 cp3) ksf kx) 35)) w3.heap.size (kCells kk kn (.slice ad3 ln3 cp3) ksf kx)) := heap_new w3 _; have V4 := hideQ ((OwnsPairs.reads o3).below hb4); have B4 := hideQ (bel B2.out (bel hb3 hb4)); clear o3 hb3 hb4 T2 R2 B2))
    generalize (w3.alloc (.cells (kCells kk kn (.slice ad3 ln3 cp3) ksf kx) 35)) = X at *
    generalize w3.heap.size = b5 at *
    generalize w1.heap.size = b3 at *
    have hXd : Below X.heap.size X X.drew := (Below.refl _ _).drew
    have HB := hideQ (bel B4.out hXd)
    obtain ⟨S, hS1⟩ : ∃ S : World → Prop, ∀ W, S W ↔ Below X.heap.size X W := ⟨_, fun _ => Iff.rfl⟩
    refine wp_region_held_drew (S := S) (by kernel_rfl) ((hS1 _).2 hXd) (fun hS => ?_)
    refine takeH12 0 21 (tokI kk kn (.slice ad ln cp) ksf kx) rfl rfl (by kernel_rfl) (by kernel_rfl) (by kernel_rfl) (fun _ _ _ h => h) (hy_load_K (Operand.tmp 3) rfl (by kernel_rfl) b3 _ _ _ _ _ (by kernel_rfl) (fun W h => T4.out.step ((hS1 W).1 h))) hS ?_
    simp only [Act.put, List.setIfInBounds_toArray, List.set_cons_zero, List.set_cons_succ]
    refine takeH12 2 23 (tokI kk kn (.slice ad3 ln3 cp3) ksf kx) rfl rfl (by kernel_rfl) (by kernel_rfl) (by kernel_rfl) (fun _ _ _ h => h) (hy_load_R (Operand.tmp 5) rfl (by kernel_rfl) b5 _ _ _ _ _ (by kernel_rfl) (fun W h => U4.out.step ((hS1 W).1 h))) hS ?_
    simp only [Act.put, List.setIfInBounds_toArray, List.set_cons_zero, List.set_cons_succ]
    refine wpAnyH_ready (rs := [1]) (by kernel_rfl) (by simp) ?_
    refine AllReadyH.cons rfl (fun K hK => ?_) AllReadyH.nil
    go_simp
    refine (ours_any kk kn kx ksf ad ln cp _).mono ?_
    rintro e w6 ⟨rfl, hb6⟩
    refine hK.out _ _ ((hS1 _).2 (bel ((hS1 _).1 hS) hb6)) (fun hS => ?_)
    clear hK K
    have hX6 := (hS1 _).1 hS
    refine wpAnyH_ready (rs := [3]) (by kernel_rfl) (by simp) ?_
    refine AllReadyH.cons rfl (fun K hK => ?_) AllReadyH.nil
    go_simp
    refine (RSameT_any kk kk kn kn ka ka ksf ksf kx kx _ _ w6 (R4.out.below hX6) (V4.out.below hX6) hat hat).mono ?_
    rintro e w7 ⟨rfl, hb7⟩
    refine hK.out _ _ ((hS1 _).2 (bel ((hS1 _).1 hS) hb7)) (fun hS => ?_)
    clear hK K
    rw [sameK_self]
    have hX7 := (hS1 _).1 hS
    refine takeH12 4 25 (.bool true) rfl rfl (by kernel_rfl) (by kernel_rfl) (by kernel_rfl) (fun _ _ _ h => h) (Or.inl ⟨by kernel_rfl, fun W _ => by go_simp⟩) hS ?_
    simp only [Act.put, List.setIfInBounds_toArray, List.set_cons_zero, List.set_cons_succ]
    refine takeH12 5 26 (.int .i64 (N : Int)) rfl rfl (by kernel_rfl) (by kernel_rfl) (by kernel_rfl) (fun _ _ _ h => h) (Or.inl ⟨by kernel_rfl, fun W _ => by go_simp⟩) hS ?_
    simp only [Act.put, List.setIfInBounds_toArray, List.set_cons_zero, List.set_cons_succ]
    refine takeH12 6 27 (.int .i64 (N : Int)) rfl rfl (by kernel_rfl) (by kernel_rfl) (by kernel_rfl) (fun _ _ _ h => h) (Or.inl ⟨by kernel_rfl, fun W _ => by go_simp⟩) hS ?_
    simp only [Act.put, List.setIfInBounds_toArray, List.set_cons_zero, List.set_cons_succ]
    refine takeH12 7 28 (.bool true) rfl rfl (by kernel_rfl) (by kernel_rfl) (by kernel_rfl) (fun _ _ _ h => h) (Or.inl ⟨by kernel_rfl, fun W _ => by go_simp⟩) hS ?_
    simp only [Act.put, List.setIfInBounds_toArray, List.set_cons_zero, List.set_cons_succ]
    refine takeH12 8 29 (.bool true) rfl rfl (by kernel_rfl) (by kernel_rfl) (by kernel_rfl) (fun _ _ _ h => h) (Or.inl ⟨by kernel_rfl, fun W _ => by go_simp⟩) hS ?_
    simp only [Act.put, List.setIfInBounds_toArray, List.set_cons_zero, List.set_cons_succ]
    refine takeH12 9 30 (.bool true) rfl rfl (by kernel_rfl) (by kernel_rfl) (by kernel_rfl) (fun _ _ _ h => h) (Or.inl ⟨by kernel_rfl, fun W _ => by go_simp⟩) hS ?_
    simp only [Act.put, List.setIfInBounds_toArray, List.set_cons_zero, List.set_cons_succ]
    refine wpAnyH_ready (rs := [10]) (by kernel_rfl) (by simp) ?_
    refine AllReadyH.cons rfl (fun K hK => ?_) AllReadyH.nil
    go_simp
    refine (alive12_any w7 (HT.out.below (bel B4.out hX7))).mono ?_
    rintro e w8 ⟨rfl, hb8⟩
    refine hK.out _ _ ((hS1 _).2 (bel ((hS1 _).1 hS) hb8)) (fun hS => ?_)
    clear hK K
    have hX8 := (hS1 _).1 hS
    refine takeH12 11 32 (.bool true) rfl rfl (by kernel_rfl) (by kernel_rfl) (by kernel_rfl) (fun _ _ _ h => h) (Or.inl ⟨by kernel_rfl, fun W _ => by go_simp⟩) hS ?_
    simp only [Act.put, List.setIfInBounds_toArray, List.set_cons_zero, List.set_cons_succ]
    refine takeH12 12 2 (.bool true) rfl rfl (by kernel_rfl) (by kernel_rfl) (by kernel_rfl) (fun _ _ _ h => h) (Or.inl ⟨by kernel_rfl, fun W _ => by go_simp⟩) hS ?_
    simp only [Act.put, List.setIfInBounds_toArray, List.set_cons_zero, List.set_cons_succ]
    refine wpAnyH_done (by kernel_rfl) ?_ _
    go_wp2
    go_ret
    exact ⟨rfl, bel B4.out hX8⟩
end Go.Proofs.YtagceinccibnjaaGreatDoor.tokenNext
