/- Steps of regions that draw their order, over Sums; the closure of the law SumApart. -/
import Derived.Test.YtfjgmejobldjoabSumE
import Derived.Deep.RegionWith
import Derived.Deep.RegionHeld3
import Derived.Deep.CutBlock
import Derived.WalkMore
set_option linter.unusedVariables false
set_option linter.unusedSimpArgs false
namespace Go.Proofs.Ytfjgmejobldjoab
open Go.RowKit
theorem takeH {md : Region.Mode} {ops : Array Oper} {Q : Exit → Act → World → Prop} {S : World → Prop} {fuel : Nat} {listed : Array Bool} {a : Act} {w : World} (i d : Nat) (v : Value) {oi : Oper} (hi : ops[i]? = some oi) (hd : oi.dst = some d)
    (hs : Region.noSelect ops = true) (hf : Region.free md ops listed i = true) (hr : (Region.ready md ops listed).contains i = true)
    (hQ : ∀ c a w, Q (.panic c) (a.put (some d) v) w → Q (.panic c) a w) (hy : YieldsIf Try.prog ops S oi v a) (hS : S w)
    (h : wpAnyH Try.prog md ops Q S fuel (listed.setIfInBounds i true) (a.put (some d) v) w) : wpAnyH Try.prog md ops Q S (fuel + 1) listed a w :=
  wpAnyH_take hi hs hf hr (by rw [hd]; exact hQ) hy hS (by rw [hd]; exact h)
theorem hy_load_S {ops : Array Oper} {S : World → Prop} {o : Oper} {a : Act} (x : Operand) (ho : o.op = .load 28 x) (hw : Region.wanted o (yielded ops a.tmps) = true) (b : Nat) (x0 x1 : Value) (hx : a.eval x = .pointer (some ⟨b, 0, none⟩)) (h : ∀ W, S W → SAt W b x0 x1) : YieldsIf Try.prog ops S o (s2 x0 x1) a :=
  (.inl ⟨hw, fun w hs => by
    unfold execOp
    rw [ho]
    simp only [hx, Sem.run_bind, loadAt_S (h w hs), Result.andThen, Sem.run_pure]⟩)
theorem step_store_S {ops : Array Oper} {o : Oper} {a : Act} {w : World} {K : Act → World → Prop} {Q : Exit → Act → World → Prop} {E : Prop} (x y : Operand) (ho : o.op = .store 28 x y) (hg : o.guard = none) (b : Nat) (x0 x1 : Value) {y0 y1 : Value} (hx : a.eval x = .pointer (some ⟨b, 0, none⟩)) (hy : a.eval y = s2 x0 x1) (h : SAt w b y0 y1) (h1 : x0.oneCell' = true ∧ x1.oneCell' = true)
    (hK : K (a.put o.dst undef) (w.setRow b #[x0, x1])) : if Region.wanted o (yielded ops a.tmps) = true then Oper.wp Try.prog o a w K Q else E := by
  have hw : Region.wanted o (yielded ops a.tmps) = true := by simp [Region.wanted, hg]
  rw [if_pos hw]
  unfold Oper.wp
  have e : (execOp a.eval o).run Try.prog w = .ok .skip (w.setRow b #[x0, x1]) := by
    unfold execOp
    rw [ho]
    simp only [hx, hy, Sem.run_bind, storeAt_S h h1, Result.andThen, Sem.run_pure]
  rw [e, Oper.upon_skip]
  exact hK
theorem anyH_store_S {md : Region.Mode} {ops : Array Oper} {Q : Exit → Act → World → Prop} {S : World → Prop} {fuel : Nat} {listed : Array Bool} {a : Act} {w : World} (i : Nat) {o : Oper} (hr : Region.ready md ops listed = [i]) (hi : ops[i]? = some o) (hd : o.dst = none) (x y : Operand) (ho : o.op = .store 28 x y) (hg : o.guard = none) (b : Nat) (x0 x1 : Value) {y0 y1 : Value} (hx : a.eval x = .pointer (some ⟨b, 0, none⟩)) (hy : a.eval y = s2 x0 x1) (h : SAt w b y0 y1) (h1 : x0.oneCell' = true ∧ x1.oneCell' = true)
    (hS : S (w.setRow b #[x0, x1])) (hK : S (w.setRow b #[x0, x1]) → wpAnyH Try.prog md ops Q S fuel (listed.setIfInBounds i true) a (w.setRow b #[x0, x1])) : wpAnyH Try.prog md ops Q S (fuel + 1) listed a w :=
  wpAnyH_ready hr (by simp) (AllReadyH.cons hi (fun _ h2 => step_store_S x y ho hg b x0 x1 hx hy h h1 (h2.out _ _ hS (by rw [hd]; exact hK))) AllReadyH.nil)
theorem SAt.other {w : World} {b c : Nat} {x0 x1 : Value} {cs : Array Value} (h : SAt w b x0 x1) (hne : b ≠ c) : SAt (w.setRow c cs) b x0 x1 := by
  refine h.keep ?_
  simp [World.setRow, Array.getElem?_modify, Ne.symm hne]
set_option maxHeartbeats 4000000 in
set_option maxRecDepth 100000 in
theorem same_self (c : BitVec 32) (m : BitVec 64) (w : World) :
    Calls Try.prog 8 #[sv c m, sv c m] w fun e w' => e = .returned (.bool true) ∧ Below w.heap.size w w' := by
  have hS1' : SAt ((w.alloc (.cells #[.int .u32 (c.toNat : Int), .int .u64 (m.toNat : Int)] 28)).alloc (.cells #[.int .u32 (c.toNat : Int), .int .u64 (m.toNat : Int)] 28)) w.heap.size (.int .u32 (c.toNat : Int)) (.int .u64 (m.toNat : Int)) := SAt.below (heap_new w _) ((Below.refl _ _).alloc (Nat.le_refl _) _)
  have hS2' : SAt ((w.alloc (.cells #[.int .u32 (c.toNat : Int), .int .u64 (m.toNat : Int)] 28)).alloc (.cells #[.int .u32 (c.toNat : Int), .int .u64 (m.toNat : Int)] 28)) (w.heap.size + 1) (.int .u32 (c.toNat : Int)) (.int .u64 (m.toNat : Int)) := by
    have := heap_new (w.alloc (.cells #[.int .u32 (c.toNat : Int), .int .u64 (m.toNat : Int)] 28)) (.cells #[.int .u32 (c.toNat : Int), .int .u64 (m.toNat : Int)] 28)
    rw [size_alloc] at this
    exact this
  have hB' : Below w.heap.size w ((w.alloc (.cells #[.int .u32 (c.toNat : Int), .int .u64 (m.toNat : Int)] 28)).alloc (.cells #[.int .u32 (c.toNat : Int), .int .u64 (m.toNat : Int)] 28)) := ((Below.refl _ w).alloc (Nat.le_refl _) _).alloc (by simp) _
  go_enter Try.func8, Try.ntmps8
  go_upto_region 1 with fail
  generalize (w.alloc (.cells #[.int .u32 (c.toNat : Int), .int .u64 (m.toNat : Int)] 28)).alloc (.cells #[.int .u32 (c.toNat : Int), .int .u64 (m.toNat : Int)] 28) = w1 at *
  obtain ⟨S, hS1⟩ : ∃ S : World → Prop, ∀ W, S W ↔ SAt W w.heap.size (.int .u32 (c.toNat : Int)) (.int .u64 (m.toNat : Int)) ∧ SAt W (w.heap.size + 1) (.int .u32 (c.toNat : Int)) (.int .u64 (m.toNat : Int)) ∧ Below w.heap.size w W := ⟨_, fun _ => Iff.rfl⟩
  have step : ∀ W W', S W → Below W.heap.size W W' → S W' := fun W W' h hb => by
    obtain ⟨h1, h2, h3⟩ := (hS1 W).1 h
    exact (hS1 W').2 ⟨h1.below hb, h2.below hb, bel h3 hb⟩
  have c1 := fun W => SCrc_any c m W
  have c2 := fun W => SMark_any c m W
  generalize m ^^^ G = n at *
  refine wp_region_held_drew (S := S) (by kernel_rfl) (step _ _ ((hS1 _).2 ⟨hS1', hS2', hB'⟩) ((Below.refl _ _).drew)) (fun hS => ?_)
  have C1 : Hid _ := c1
  have C2 : Hid _ := c2
  clear c1 c2 hS1' hS2' hB'
  refine takeH 0 5 (sv (c) (m)) rfl rfl (by kernel_rfl) (by kernel_rfl) (by kernel_rfl) (fun _ _ _ h => h) (hy_load_S (Operand.tmp 2) rfl (by kernel_rfl) (w.heap.size) _ _ (by kernel_rfl) (fun W h => ((hS1 W).1 h).1)) hS ?_
  simp only [Act.put, List.setIfInBounds_toArray, List.set_cons_zero, List.set_cons_succ]
  refine takeH 2 7 (sv (c) (m)) rfl rfl (by kernel_rfl) (by kernel_rfl) (by kernel_rfl) (fun _ _ _ h => h) (hy_load_S (Operand.tmp 3) rfl (by kernel_rfl) (w.heap.size + 1) _ _ (by kernel_rfl) (fun W h => ((hS1 W).1 h).2.1)) hS ?_
  simp only [Act.put, List.setIfInBounds_toArray, List.set_cons_zero, List.set_cons_succ]
  refine wpAnyH_ready (rs := [1]) (by kernel_rfl) (by simp) ?_
  refine AllReadyH.cons rfl (fun K hK => ?_) AllReadyH.nil
  go_simp
  refine (C1.out _).mono ?_
  rintro e x1 ⟨rfl, hx1⟩
  refine hK.out _ _ (step _ _ hS hx1) (fun hS => ?_)
  clear hK K
  refine wpAnyH_ready (rs := [3]) (by kernel_rfl) (by simp) ?_
  refine AllReadyH.cons rfl (fun K hK => ?_) AllReadyH.nil
  go_simp
  refine (C1.out _).mono ?_
  rintro e x2 ⟨rfl, hx2⟩
  refine hK.out _ _ (step _ _ hS hx2) (fun hS => ?_)
  clear hK K
  refine takeH 4 9 (.bool true) rfl rfl (by kernel_rfl) (by kernel_rfl) (by kernel_rfl) (fun _ _ _ h => h) (Or.inl ⟨by kernel_rfl, fun W _ => by go_simp⟩) hS ?_
  simp only [Act.put, List.setIfInBounds_toArray, List.set_cons_zero, List.set_cons_succ]
  refine takeH 5 10 (.bool true) rfl rfl (by kernel_rfl) (by kernel_rfl) (by kernel_rfl) (fun _ _ _ h => h) (Or.inl ⟨by kernel_rfl, fun W _ => by go_simp⟩) hS ?_
  simp only [Act.put, List.setIfInBounds_toArray, List.set_cons_zero, List.set_cons_succ]
  refine takeH 6 11 (sv (c) (m)) rfl rfl (by kernel_rfl) (by kernel_rfl) (by kernel_rfl) (fun _ _ _ h => h) (hy_load_S (Operand.tmp 2) rfl (by kernel_rfl) (w.heap.size) _ _ (by kernel_rfl) (fun W h => ((hS1 W).1 h).1)) hS ?_
  simp only [Act.put, List.setIfInBounds_toArray, List.set_cons_zero, List.set_cons_succ]
  refine takeH 8 13 (sv (c) (m)) rfl rfl (by kernel_rfl) (by kernel_rfl) (by kernel_rfl) (fun _ _ _ h => h) (hy_load_S (Operand.tmp 3) rfl (by kernel_rfl) (w.heap.size + 1) _ _ (by kernel_rfl) (fun W h => ((hS1 W).1 h).2.1)) hS ?_
  simp only [Act.put, List.setIfInBounds_toArray, List.set_cons_zero, List.set_cons_succ]
  refine wpAnyH_ready (rs := [7]) (by kernel_rfl) (by simp) ?_
  refine AllReadyH.cons rfl (fun K hK => ?_) AllReadyH.nil
  go_simp
  refine (C2.out _).mono ?_
  rintro e x3 ⟨rfl, hx3⟩
  refine hK.out _ _ (step _ _ hS hx3) (fun hS => ?_)
  clear hK K
  refine wpAnyH_ready (rs := [9]) (by kernel_rfl) (by simp) ?_
  refine AllReadyH.cons rfl (fun K hK => ?_) AllReadyH.nil
  go_simp
  refine (C2.out _).mono ?_
  rintro e x4 ⟨rfl, hx4⟩
  refine hK.out _ _ (step _ _ hS hx4) (fun hS => ?_)
  clear hK K
  refine takeH 10 15 (.bool true) rfl rfl (by kernel_rfl) (by kernel_rfl) (by kernel_rfl) (fun _ _ _ h => h) (Or.inl ⟨by kernel_rfl, fun W _ => by go_simp⟩) hS ?_
  simp only [Act.put, List.setIfInBounds_toArray, List.set_cons_zero, List.set_cons_succ]
  refine takeH 11 16 (.bool true) rfl rfl (by kernel_rfl) (by kernel_rfl) (by kernel_rfl) (fun _ _ _ h => h) (Or.inl ⟨by kernel_rfl, fun W _ => by go_simp⟩) hS ?_
  simp only [Act.put, List.setIfInBounds_toArray, List.set_cons_zero, List.set_cons_succ]
  refine takeH 12 4 (.bool true) rfl rfl (by kernel_rfl) (by kernel_rfl) (by kernel_rfl) (fun _ _ _ h => h) (Or.inl ⟨by kernel_rfl, fun W _ => by go_simp⟩) hS ?_
  simp only [Act.put, List.setIfInBounds_toArray, List.set_cons_zero, List.set_cons_succ]
  refine wpAnyH_done (by kernel_rfl) ?_ _
  have hfin := ((hS1 _).1 hS).2.2
  go_wp2
  go_ret
  exact ⟨rfl, hfin⟩
end Go.Proofs.Ytfjgmejobldjoab
