/- The walk of JoinKeys: whatever URLs come in, the law answers true. -/
import Derived.Test.YtnmkhbelmdokmaaGreatDoorKJF
namespace Go.Proofs.YtnmkhbelmdokmaaGreatDoor.joinKeys
open Go.RowKit
set_option maxHeartbeats 4000000 in
set_option maxRecDepth 100000 in
theorem walk (b u : Url.U) (w : World) (fb : Fits b) (fu : Fits u) (hE : Env w) :
    Calls Tryz.prog 6 #[uVal b, uVal u] w fun e w' => e = .returned (.bool true) ∧ Below w.heap.size w w' := by
  have hB := BU.start w b u
  unfold uCells at hB
  cases h1 : farU b
  case true =>
    unfold uVal uCells
    go_enter Tryz.func6, Tryz.ntmps6
    go_upto_region 1 with fail
    generalize (w.alloc (.cells #[.string (str b.sch), .string (str b.host), .int .i64 b.port, .string (str b.path), .string (str b.query), .string (str b.frag), .bool b.hq, .bool b.hf] 25)).alloc (.cells #[.string (str u.sch), .string (str u.host), .int .i64 u.port, .string (str u.path), .string (str u.query), .string (str u.frag), .bool u.hq, .bool u.hf] 25) = w0 at hB ⊢
    go_wp2_with (first
      | ((with_reducible show wpList _ _ _ ({ dst := _, op := Op.load 25 (Operand.tmp 2), type := _, pos := _, after := _, guard := _ } :: _) _ _); refine wpList_load_Ug _ rfl (by rfl) (w.heap.size) b rfl hB.b_ ?_)
      | ((with_reducible show wpList _ _ _ ({ dst := _, op := Op.load 25 (Operand.tmp 3), type := _, pos := _, after := _, guard := _ } :: _) _ _); refine wpList_load_Ug _ rfl (by rfl) (w.heap.size + 1) u rfl hB.u_ ?_)
      | (go_at_call 18; refine (far_any _ _ (by assumption)).mono ?_; rintro e w1 ⟨rfl, hb1⟩; replace hB := hB.step hb1; clear hb1)
      | (go_at_call 20; refine (alive5_any _ (hE.below hB.bel)).mono ?_; rintro e w1 ⟨rfl, hb1⟩; replace hB := hB.step hb1; clear hb1))
    go_ret
    exact ⟨rfl, hB.bel⟩
  have zb : (Url.str b).length ≤ 1000000 := Nat.le_trans (far_no h1).2 (by decide)
  cases h2 : farU u
  case true =>
    unfold uVal uCells
    go_enter Tryz.func6, Tryz.ntmps6
    go_upto_region 1 with fail
    generalize (w.alloc (.cells #[.string (str b.sch), .string (str b.host), .int .i64 b.port, .string (str b.path), .string (str b.query), .string (str b.frag), .bool b.hq, .bool b.hf] 25)).alloc (.cells #[.string (str u.sch), .string (str u.host), .int .i64 u.port, .string (str u.path), .string (str u.query), .string (str u.frag), .bool u.hq, .bool u.hf] 25) = w0 at hB ⊢
    go_wp2_with (first
      | ((with_reducible show wpList _ _ _ ({ dst := _, op := Op.load 25 (Operand.tmp 2), type := _, pos := _, after := _, guard := _ } :: _) _ _); refine wpList_load_Ug _ rfl (by rfl) (w.heap.size) b rfl hB.b_ ?_)
      | ((with_reducible show wpList _ _ _ ({ dst := _, op := Op.load 25 (Operand.tmp 3), type := _, pos := _, after := _, guard := _ } :: _) _ _); refine wpList_load_Ug _ rfl (by rfl) (w.heap.size + 1) u rfl hB.u_ ?_)
      | (go_at_call 18; refine (far_any _ _ (by assumption)).mono ?_; rintro e w1 ⟨rfl, hb1⟩; replace hB := hB.step hb1; clear hb1)
      | (go_at_call 20; refine (alive5_any _ (hE.below hB.bel)).mono ?_; rintro e w1 ⟨rfl, hb1⟩; replace hB := hB.step hb1; clear hb1))
    go_ret
    exact ⟨rfl, hB.bel⟩
  have zu : (Url.str u).length ≤ 1000000 := Nat.le_trans (far_no h2).2 (by decide)
  have pk : ∀ W : World, Env W → Calls Tryz.prog 23 #[uVal b] W fun e w' => e = .returned (.string (str (Url.key b))) ∧ Below W.heap.size W w' := fun W h => Key_any b W h fb
  have rk : ∀ W : World, Calls Tryz.prog 24 #[uVal b] W fun e w' => e = .returned (.string (str (Url.key b))) ∧ Below W.heap.size W w' := fun W => RKey5_any b W fb
  have rk2 : ∀ W : World, Calls Tryz.prog 24 #[uVal u] W fun e w' => e = .returned (.string (str (Url.key u))) ∧ Below W.heap.size W w' := fun W => RKey5_any u W fu
  have sm : ∀ W : World, Env W → Calls Tryz.prog 25 #[uVal b, uVal u] W fun e w' => e = .returned (.bool (Url.key b == Url.key u)) ∧ Below W.heap.size W w' := fun W h => Same5_any b u W h fb fu
  have pl : ∀ W : World, Env W → Calls Tryz.prog 26 #[uVal b, uVal u] W fun e w' => e = .returned (.string (str (Url.link b u))) ∧ Below W.heap.size W w' := fun W h => Link_any b u W h fb fu (by omega) (by omega)
  have rl : ∀ W : World, Calls Tryz.prog 27 #[uVal b, uVal u] W fun e w' => e = .returned (.string (str (Url.link b u))) ∧ Below W.heap.size W w' := fun W => RLink_any b u W fb fu zb zu
  generalize Url.key b = kb0 at *
  generalize Url.key u = ku0 at *
  generalize Url.link b u = lk at *
  unfold uVal uCells
  go_enter Tryz.func6, Tryz.ntmps6
  go_upto_region 1 with fail
  generalize (w.alloc (.cells #[.string (str b.sch), .string (str b.host), .int .i64 b.port, .string (str b.path), .string (str b.query), .string (str b.frag), .bool b.hq, .bool b.hf] 25)).alloc (.cells #[.string (str u.sch), .string (str u.host), .int .i64 u.port, .string (str u.path), .string (str u.query), .string (str u.frag), .bool u.hq, .bool u.hf] 25) = w0 at hB ⊢
  go_upto_region 3 with (first
    | ((with_reducible show wpList _ _ _ ({ dst := _, op := Op.load 25 (Operand.tmp 2), type := _, pos := _, after := _, guard := _ } :: _) _ _); refine wpList_load_Ug _ rfl (by rfl) (w.heap.size) b rfl hB.b_ ?_)
    | ((with_reducible show wpList _ _ _ ({ dst := _, op := Op.load 25 (Operand.tmp 3), type := _, pos := _, after := _, guard := _ } :: _) _ _); refine wpList_load_Ug _ rfl (by rfl) (w.heap.size + 1) u rfl hB.u_ ?_)
    | (go_at_call 18; refine (far_any _ _ (by assumption)).mono ?_; rintro e w1 ⟨rfl, hb1⟩; replace hB := hB.step hb1; clear hb1))
  obtain ⟨S, hS1⟩ : ∃ S : World → Prop, ∀ W, S W ↔ BU w W b u := ⟨_, fun _ => Iff.rfl⟩
  refine wp_region_held_drew (S := S) (by kernel_rfl) ((hS1 _).2 (hB.step ((Below.refl _ _).drew))) (fun hS => ?_)
  refine takeH 0 12 (uVal (b)) rfl rfl (by kernel_rfl) (by kernel_rfl) (by kernel_rfl) (fun _ _ _ h => h) (hy_load_U (Operand.tmp 2) rfl (by kernel_rfl) (w.heap.size) (b) (by kernel_rfl) (fun W h => ((hS1 W).1 h).b_)) hS ?_
  simp only [Act.put, List.setIfInBounds_toArray, List.set_cons_zero, List.set_cons_succ]
  refine takeH 2 14 (uVal (b)) rfl rfl (by kernel_rfl) (by kernel_rfl) (by kernel_rfl) (fun _ _ _ h => h) (hy_load_U (Operand.tmp 2) rfl (by kernel_rfl) (w.heap.size) (b) (by kernel_rfl) (fun W h => ((hS1 W).1 h).b_)) hS ?_
  simp only [Act.put, List.setIfInBounds_toArray, List.set_cons_zero, List.set_cons_succ]
  refine wpAnyH_ready (rs := [1]) (by kernel_rfl) (by simp) ?_
  refine AllReadyH.cons rfl (fun K hK => ?_) AllReadyH.nil
  go_simp
  refine (pk _ (hE.below ((hS1 _).1 hS).bel)).mono ?_
  rintro e x1 ⟨rfl, hx1⟩
  refine hK.out _ _ ((hS1 _).2 (((hS1 _).1 hS).step hx1)) (fun hS => ?_)
  clear hK K
  refine wpAnyH_ready (rs := [3]) (by kernel_rfl) (by simp) ?_
  refine AllReadyH.cons rfl (fun K hK => ?_) AllReadyH.nil
  go_simp
  refine (rk _).mono ?_
  rintro e x2 ⟨rfl, hx2⟩
  refine hK.out _ _ ((hS1 _).2 (((hS1 _).1 hS).step hx2)) (fun hS => ?_)
  clear hK K
  refine takeH 4 16 (.bool true) rfl rfl (by kernel_rfl) (by kernel_rfl) (by kernel_rfl) (fun _ _ _ h => h) (Or.inl ⟨by kernel_rfl, fun W _ => by go_simp⟩) hS ?_
  simp only [Act.put, List.setIfInBounds_toArray, List.set_cons_zero, List.set_cons_succ]
  refine takeH 5 17 (.bool true) rfl rfl (by kernel_rfl) (by kernel_rfl) (by kernel_rfl) (fun _ _ _ h => h) (Or.inl ⟨by kernel_rfl, fun W _ => by go_simp⟩) hS ?_
  simp only [Act.put, List.setIfInBounds_toArray, List.set_cons_zero, List.set_cons_succ]
  refine takeH 6 18 (uVal (b)) rfl rfl (by kernel_rfl) (by kernel_rfl) (by kernel_rfl) (fun _ _ _ h => h) (hy_load_U (Operand.tmp 2) rfl (by kernel_rfl) (w.heap.size) (b) (by kernel_rfl) (fun W h => ((hS1 W).1 h).b_)) hS ?_
  simp only [Act.put, List.setIfInBounds_toArray, List.set_cons_zero, List.set_cons_succ]
  refine takeH 7 19 (uVal (u)) rfl rfl (by kernel_rfl) (by kernel_rfl) (by kernel_rfl) (fun _ _ _ h => h) (hy_load_U (Operand.tmp 3) rfl (by kernel_rfl) (w.heap.size + 1) (u) (by kernel_rfl) (fun W h => ((hS1 W).1 h).u_)) hS ?_
  simp only [Act.put, List.setIfInBounds_toArray, List.set_cons_zero, List.set_cons_succ]
  refine takeH 9 21 (uVal (b)) rfl rfl (by kernel_rfl) (by kernel_rfl) (by kernel_rfl) (fun _ _ _ h => h) (hy_load_U (Operand.tmp 2) rfl (by kernel_rfl) (w.heap.size) (b) (by kernel_rfl) (fun W h => ((hS1 W).1 h).b_)) hS ?_
  simp only [Act.put, List.setIfInBounds_toArray, List.set_cons_zero, List.set_cons_succ]
  refine takeH 11 23 (uVal (u)) rfl rfl (by kernel_rfl) (by kernel_rfl) (by kernel_rfl) (fun _ _ _ h => h) (hy_load_U (Operand.tmp 3) rfl (by kernel_rfl) (w.heap.size + 1) (u) (by kernel_rfl) (fun W h => ((hS1 W).1 h).u_)) hS ?_
  simp only [Act.put, List.setIfInBounds_toArray, List.set_cons_zero, List.set_cons_succ]
  refine wpAnyH_ready (rs := [8]) (by kernel_rfl) (by simp) ?_
  refine AllReadyH.cons rfl (fun K hK => ?_) AllReadyH.nil
  go_simp
  refine (sm _ (hE.below ((hS1 _).1 hS).bel)).mono ?_
  rintro e x3 ⟨rfl, hx3⟩
  refine hK.out _ _ ((hS1 _).2 (((hS1 _).1 hS).step hx3)) (fun hS => ?_)
  clear hK K
  refine wpAnyH_ready (rs := [10]) (by kernel_rfl) (by simp) ?_
  refine AllReadyH.cons rfl (fun K hK => ?_) AllReadyH.nil
  go_simp
  refine (rk _).mono ?_
  rintro e x4 ⟨rfl, hx4⟩
  refine hK.out _ _ ((hS1 _).2 (((hS1 _).1 hS).step hx4)) (fun hS => ?_)
  clear hK K
  refine wpAnyH_ready (rs := [12]) (by kernel_rfl) (by simp) ?_
  refine AllReadyH.cons rfl (fun K hK => ?_) AllReadyH.nil
  go_simp
  refine (rk2 _).mono ?_
  rintro e x5 ⟨rfl, hx5⟩
  refine hK.out _ _ ((hS1 _).2 (((hS1 _).1 hS).step hx5)) (fun hS => ?_)
  clear hK K
  refine takeH 13 25 (.bool (kb0 == ku0)) rfl rfl (by kernel_rfl) (by kernel_rfl) (by kernel_rfl) (fun _ _ _ h => h) (Or.inl ⟨by kernel_rfl, fun W _ => by go_simp; rw [str_list, str_list]⟩) hS ?_
  simp only [Act.put, List.setIfInBounds_toArray, List.set_cons_zero, List.set_cons_succ]
  refine takeH 14 26 (.bool true) rfl rfl (by kernel_rfl) (by kernel_rfl) (by kernel_rfl) (fun _ _ _ h => h) (Or.inl ⟨by kernel_rfl, fun W _ => by go_simp⟩) hS ?_
  simp only [Act.put, List.setIfInBounds_toArray, List.set_cons_zero, List.set_cons_succ]
  refine takeH 15 27 (.bool true) rfl rfl (by kernel_rfl) (by kernel_rfl) (by kernel_rfl) (fun _ _ _ h => h) (Or.inl ⟨by kernel_rfl, fun W _ => by go_simp⟩) hS ?_
  simp only [Act.put, List.setIfInBounds_toArray, List.set_cons_zero, List.set_cons_succ]
  refine takeH 16 28 (.bool true) rfl rfl (by kernel_rfl) (by kernel_rfl) (by kernel_rfl) (fun _ _ _ h => h) (Or.inl ⟨by kernel_rfl, fun W _ => by go_simp⟩) hS ?_
  simp only [Act.put, List.setIfInBounds_toArray, List.set_cons_zero, List.set_cons_succ]
  refine takeH 17 29 (uVal (b)) rfl rfl (by kernel_rfl) (by kernel_rfl) (by kernel_rfl) (fun _ _ _ h => h) (hy_load_U (Operand.tmp 2) rfl (by kernel_rfl) (w.heap.size) (b) (by kernel_rfl) (fun W h => ((hS1 W).1 h).b_)) hS ?_
  simp only [Act.put, List.setIfInBounds_toArray, List.set_cons_zero, List.set_cons_succ]
  refine takeH 18 30 (uVal (u)) rfl rfl (by kernel_rfl) (by kernel_rfl) (by kernel_rfl) (fun _ _ _ h => h) (hy_load_U (Operand.tmp 3) rfl (by kernel_rfl) (w.heap.size + 1) (u) (by kernel_rfl) (fun W h => ((hS1 W).1 h).u_)) hS ?_
  simp only [Act.put, List.setIfInBounds_toArray, List.set_cons_zero, List.set_cons_succ]
  refine takeH 20 32 (uVal (b)) rfl rfl (by kernel_rfl) (by kernel_rfl) (by kernel_rfl) (fun _ _ _ h => h) (hy_load_U (Operand.tmp 2) rfl (by kernel_rfl) (w.heap.size) (b) (by kernel_rfl) (fun W h => ((hS1 W).1 h).b_)) hS ?_
  simp only [Act.put, List.setIfInBounds_toArray, List.set_cons_zero, List.set_cons_succ]
  refine takeH 21 33 (uVal (u)) rfl rfl (by kernel_rfl) (by kernel_rfl) (by kernel_rfl) (fun _ _ _ h => h) (hy_load_U (Operand.tmp 3) rfl (by kernel_rfl) (w.heap.size + 1) (u) (by kernel_rfl) (fun W h => ((hS1 W).1 h).u_)) hS ?_
  simp only [Act.put, List.setIfInBounds_toArray, List.set_cons_zero, List.set_cons_succ]
  refine wpAnyH_ready (rs := [19]) (by kernel_rfl) (by simp) ?_
  refine AllReadyH.cons rfl (fun K hK => ?_) AllReadyH.nil
  go_simp
  refine (pl _ (hE.below ((hS1 _).1 hS).bel)).mono ?_
  rintro e x6 ⟨rfl, hx6⟩
  refine hK.out _ _ ((hS1 _).2 (((hS1 _).1 hS).step hx6)) (fun hS => ?_)
  clear hK K
  refine wpAnyH_ready (rs := [22]) (by kernel_rfl) (by simp) ?_
  refine AllReadyH.cons rfl (fun K hK => ?_) AllReadyH.nil
  go_simp
  refine (rl _).mono ?_
  rintro e x7 ⟨rfl, hx7⟩
  refine hK.out _ _ ((hS1 _).2 (((hS1 _).1 hS).step hx7)) (fun hS => ?_)
  clear hK K
  refine takeH 23 35 (.bool true) rfl rfl (by kernel_rfl) (by kernel_rfl) (by kernel_rfl) (fun _ _ _ h => h) (Or.inl ⟨by kernel_rfl, fun W _ => by go_simp⟩) hS ?_
  simp only [Act.put, List.setIfInBounds_toArray, List.set_cons_zero, List.set_cons_succ]
  refine takeH 24 36 (.bool true) rfl rfl (by kernel_rfl) (by kernel_rfl) (by kernel_rfl) (fun _ _ _ h => h) (Or.inl ⟨by kernel_rfl, fun W _ => by go_simp⟩) hS ?_
  simp only [Act.put, List.setIfInBounds_toArray, List.set_cons_zero, List.set_cons_succ]
  refine takeH 25 37 (.bool true) rfl rfl (by kernel_rfl) (by kernel_rfl) (by kernel_rfl) (fun _ _ _ h => h) (Or.inl ⟨by kernel_rfl, fun W _ => by go_simp⟩) hS ?_
  simp only [Act.put, List.setIfInBounds_toArray, List.set_cons_zero, List.set_cons_succ]
  refine wpAnyH_ready (rs := [26]) (by kernel_rfl) (by simp) ?_
  refine AllReadyH.cons rfl (fun K hK => ?_) AllReadyH.nil
  go_simp
  refine (alive5_any _ (hE.below ((hS1 _).1 hS).bel)).mono ?_
  rintro e x8 ⟨rfl, hx8⟩
  refine hK.out _ _ ((hS1 _).2 (((hS1 _).1 hS).step hx8)) (fun hS => ?_)
  clear hK K
  refine takeH 27 39 (.bool true) rfl rfl (by kernel_rfl) (by kernel_rfl) (by kernel_rfl) (fun _ _ _ h => h) (Or.inl ⟨by kernel_rfl, fun W _ => by go_simp⟩) hS ?_
  simp only [Act.put, List.setIfInBounds_toArray, List.set_cons_zero, List.set_cons_succ]
  refine takeH 28 4 (.bool true) rfl rfl (by kernel_rfl) (by kernel_rfl) (by kernel_rfl) (fun _ _ _ h => h) (Or.inl ⟨by kernel_rfl, fun W _ => by go_simp⟩) hS ?_
  simp only [Act.put, List.setIfInBounds_toArray, List.set_cons_zero, List.set_cons_succ]
  refine wpAnyH_done (by kernel_rfl) ?_ _
  have hfin := ((hS1 _).1 hS).bel
  go_wp2
  go_ret
  exact ⟨rfl, hfin⟩
end Go.Proofs.YtnmkhbelmdokmaaGreatDoor.joinKeys
