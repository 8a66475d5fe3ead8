/- The walk of JoinSelf: whatever URLs come in, the law answers true. -/
import Derived.Test.YtnmkhbelmdokmaaGreatDoorKJoin
import Derived.Deep.CutBlock
namespace Go.Proofs.YtnmkhbelmdokmaaGreatDoor.joinSelf
open Go.RowKit
set_option maxHeartbeats 4000000 in
set_option maxRecDepth 100000 in
theorem walk (b u : Url.U) (w : World) (fb : Fits b) (fu : Fits u) (hE : Env w) :
    Calls Tryz.prog 8 #[uVal b, uVal u] w fun e w' => e = .returned (.bool true) ∧ Below w.heap.size w w' := by
  have hzu := (zero_of_info zeroURL).1
  have hgd := guardU
  have hB := BU.start w b u
  unfold uVal at hzu
  unfold uCells at hzu hB
  cases h1 : farU b
  case true =>
    unfold uVal uCells
    go_enter Tryz.func8, Tryz.ntmps8
    go_upto_region 1 with fail
    generalize (w.alloc (.cells #[.string (str b.sch), .string (str b.host), .int .i64 b.port, .string (str b.path), .string (str b.query), .string (str b.frag), .bool b.hq, .bool b.hf] 25)).alloc (.cells #[.string (str u.sch), .string (str u.host), .int .i64 u.port, .string (str u.path), .string (str u.query), .string (str u.frag), .bool u.hq, .bool u.hf] 25) = w0 at hB ⊢
    go_wp2_with (first
      | ((with_reducible show wpList _ _ _ ({ dst := _, op := Op.load 25 (Operand.tmp 2), type := _, pos := _, after := _, guard := _ } :: _) _ _); refine wpList_load_Ug _ rfl (by rfl) (w.heap.size) b rfl hB.b_ ?_)
      | ((with_reducible show wpList _ _ _ ({ dst := _, op := Op.load 25 (Operand.tmp 3), type := _, pos := _, after := _, guard := _ } :: _) _ _); refine wpList_load_Ug _ rfl (by rfl) (w.heap.size + 1) u rfl hB.u_ ?_)
      | (go_at_call 18; refine (far_any _ _ (by assumption)).mono ?_; rintro e w1 ⟨rfl, hb1⟩; replace hB := hB.step hb1; clear hb1)
      | (go_at_call 30; refine (RMay5_any _ _ (by assumption) (by assumption)).mono ?_; rintro e w1 ⟨rfl, hb1⟩; replace hB := hB.step hb1; clear hb1)
      | (go_at_call 20; refine (alive5_any _ (hE.below hB.bel)).mono ?_; rintro e w1 ⟨rfl, hb1⟩; replace hB := hB.step hb1; clear hb1))
    go_ret
    exact ⟨rfl, hB.bel⟩
  have zb : (Url.str b).length ≤ 1000000 := Nat.le_trans (far_no h1).2 (by decide)
  cases h2 : farU u
  case true =>
    unfold uVal uCells
    go_enter Tryz.func8, Tryz.ntmps8
    go_upto_region 1 with fail
    generalize (w.alloc (.cells #[.string (str b.sch), .string (str b.host), .int .i64 b.port, .string (str b.path), .string (str b.query), .string (str b.frag), .bool b.hq, .bool b.hf] 25)).alloc (.cells #[.string (str u.sch), .string (str u.host), .int .i64 u.port, .string (str u.path), .string (str u.query), .string (str u.frag), .bool u.hq, .bool u.hf] 25) = w0 at hB ⊢
    go_wp2_with (first
      | ((with_reducible show wpList _ _ _ ({ dst := _, op := Op.load 25 (Operand.tmp 2), type := _, pos := _, after := _, guard := _ } :: _) _ _); refine wpList_load_Ug _ rfl (by rfl) (w.heap.size) b rfl hB.b_ ?_)
      | ((with_reducible show wpList _ _ _ ({ dst := _, op := Op.load 25 (Operand.tmp 3), type := _, pos := _, after := _, guard := _ } :: _) _ _); refine wpList_load_Ug _ rfl (by rfl) (w.heap.size + 1) u rfl hB.u_ ?_)
      | (go_at_call 18; refine (far_any _ _ (by assumption)).mono ?_; rintro e w1 ⟨rfl, hb1⟩; replace hB := hB.step hb1; clear hb1)
      | (go_at_call 30; refine (RMay5_any _ _ (by assumption) (by assumption)).mono ?_; rintro e w1 ⟨rfl, hb1⟩; replace hB := hB.step hb1; clear hb1)
      | (go_at_call 20; refine (alive5_any _ (hE.below hB.bel)).mono ?_; rintro e w1 ⟨rfl, hb1⟩; replace hB := hB.step hb1; clear hb1))
    go_ret
    exact ⟨rfl, hB.bel⟩
  have zu : (Url.str u).length ≤ 1000000 := Nat.le_trans (far_no h2).2 (by decide)
  cases h3 : Url.may b
  case false =>
    unfold uVal uCells
    go_enter Tryz.func8, Tryz.ntmps8
    go_upto_region 1 with fail
    generalize (w.alloc (.cells #[.string (str b.sch), .string (str b.host), .int .i64 b.port, .string (str b.path), .string (str b.query), .string (str b.frag), .bool b.hq, .bool b.hf] 25)).alloc (.cells #[.string (str u.sch), .string (str u.host), .int .i64 u.port, .string (str u.path), .string (str u.query), .string (str u.frag), .bool u.hq, .bool u.hf] 25) = w0 at hB ⊢
    go_wp2_with (first
      | ((with_reducible show wpList _ _ _ ({ dst := _, op := Op.load 25 (Operand.tmp 2), type := _, pos := _, after := _, guard := _ } :: _) _ _); refine wpList_load_Ug _ rfl (by rfl) (w.heap.size) b rfl hB.b_ ?_)
      | ((with_reducible show wpList _ _ _ ({ dst := _, op := Op.load 25 (Operand.tmp 3), type := _, pos := _, after := _, guard := _ } :: _) _ _); refine wpList_load_Ug _ rfl (by rfl) (w.heap.size + 1) u rfl hB.u_ ?_)
      | (go_at_call 18; refine (far_any _ _ (by assumption)).mono ?_; rintro e w1 ⟨rfl, hb1⟩; replace hB := hB.step hb1; clear hb1)
      | (go_at_call 30; refine (RMay5_any _ _ (by assumption) (by assumption)).mono ?_; rintro e w1 ⟨rfl, hb1⟩; replace hB := hB.step hb1; clear hb1)
      | (go_at_call 20; refine (alive5_any _ (hE.below hB.bel)).mono ?_; rintro e w1 ⟨rfl, hb1⟩; replace hB := hB.step hb1; clear hb1))
    go_ret
    exact ⟨rfl, hB.bel⟩
  cases h4 : Url.may u
  case false =>
    unfold uVal uCells
    go_enter Tryz.func8, Tryz.ntmps8
    go_upto_region 1 with fail
    generalize (w.alloc (.cells #[.string (str b.sch), .string (str b.host), .int .i64 b.port, .string (str b.path), .string (str b.query), .string (str b.frag), .bool b.hq, .bool b.hf] 25)).alloc (.cells #[.string (str u.sch), .string (str u.host), .int .i64 u.port, .string (str u.path), .string (str u.query), .string (str u.frag), .bool u.hq, .bool u.hf] 25) = w0 at hB ⊢
    go_wp2_with (first
      | ((with_reducible show wpList _ _ _ ({ dst := _, op := Op.load 25 (Operand.tmp 2), type := _, pos := _, after := _, guard := _ } :: _) _ _); refine wpList_load_Ug _ rfl (by rfl) (w.heap.size) b rfl hB.b_ ?_)
      | ((with_reducible show wpList _ _ _ ({ dst := _, op := Op.load 25 (Operand.tmp 3), type := _, pos := _, after := _, guard := _ } :: _) _ _); refine wpList_load_Ug _ rfl (by rfl) (w.heap.size + 1) u rfl hB.u_ ?_)
      | (go_at_call 18; refine (far_any _ _ (by assumption)).mono ?_; rintro e w1 ⟨rfl, hb1⟩; replace hB := hB.step hb1; clear hb1)
      | (go_at_call 30; refine (RMay5_any _ _ (by assumption) (by assumption)).mono ?_; rintro e w1 ⟨rfl, hb1⟩; replace hB := hB.step hb1; clear hb1)
      | (go_at_call 20; refine (alive5_any _ (hE.below hB.bel)).mono ?_; rintro e w1 ⟨rfl, hb1⟩; replace hB := hB.step hb1; clear hb1))
    go_ret
    exact ⟨rfl, hB.bel⟩
  have gb := Url.may_good h3
  have g := Url.may_good h4
  have rstr : ∀ W : World, Calls Tryz.prog 13 #[uVal u] W fun e w' => e = .returned (.string (str (Url.str u))) ∧ Below W.heap.size W w' := fun W => RString_any u W fu
  have jc : ∀ W : World, Env W → Calls Tryz.prog 21 #[uVal b, .string (str (Url.str u))] W fun e w' => e = .returned (.tuple #[uVal u, .int .i64 0]) ∧ Below W.heap.size W w' := fun W h => by
    have := JJoin_any b fb (by omega) _ (Url.str u) W (Nat.le_refl _) h zu
    rw [Url.join_self gb g] at this
    exact this
  have heq : ∀ W : World, (binOp .eql 25 (.agg (uCells u)) (.agg (uCells u))).run Tryz.prog W = .ok (.bool true) W := fun W => by
    have := eql_U u u W
    rw [Url.same_self] at this
    exact this
  unfold uVal uCells
  go_enter Tryz.func8, Tryz.ntmps8
  go_upto_region 1 with fail
  generalize (w.alloc (.cells #[.string (str b.sch), .string (str b.host), .int .i64 b.port, .string (str b.path), .string (str b.query), .string (str b.frag), .bool b.hq, .bool b.hf] 25)).alloc (.cells #[.string (str u.sch), .string (str u.host), .int .i64 u.port, .string (str u.path), .string (str u.query), .string (str u.frag), .bool u.hq, .bool u.hf] 25) = w0 at hB ⊢
  go_upto_region 3 with (first
    | ((with_reducible show wpList _ _ _ ({ dst := _, op := Op.load 25 (Operand.tmp 2), type := _, pos := _, after := _, guard := _ } :: _) _ _); refine wpList_load_Ug _ rfl (by rfl) (w.heap.size) b rfl hB.b_ ?_)
    | ((with_reducible show wpList _ _ _ ({ dst := _, op := Op.load 25 (Operand.tmp 3), type := _, pos := _, after := _, guard := _ } :: _) _ _); refine wpList_load_Ug _ rfl (by rfl) (w.heap.size + 1) u rfl hB.u_ ?_)
    | (go_at_call 18; refine (far_any _ _ (by assumption)).mono ?_; rintro e w1 ⟨rfl, hb1⟩; replace hB := hB.step hb1; clear hb1)
    | (go_at_call 30; refine (RMay5_any _ _ (by assumption) (by assumption)).mono ?_; rintro e w1 ⟨rfl, hb1⟩; replace hB := hB.step hb1; clear hb1))
  rename World => w3
  go_cut [5, 6] from 24 to 30 (fun s5 s6 w' => ∃ b9, s5 = Value.pointer (some ⟨b9, 0, none⟩) ∧ s6 = Value.int .i64 0 ∧ UAt w' b9 u ∧ BU w w' b u)
  case first =>
    obtain ⟨S, hS1⟩ : ∃ S : World → Prop, ∀ W, S W ↔ BU w W b u := ⟨_, fun _ => Iff.rfl⟩
    refine wp_region_held_drew (S := S) (by kernel_rfl) ((hS1 _).2 (hB.step ((Below.refl _ _).drew))) (fun hS => ?_)
    generalize World.drew w3 = wd at hS ⊢
    refine takeH 0 25 (uVal (b)) rfl rfl (by kernel_rfl) (by kernel_rfl) (by kernel_rfl) (fun _ _ _ h => h) (hy_load_U (Operand.tmp 2) rfl (by kernel_rfl) (w.heap.size) (b) (by kernel_rfl) (fun W h => ((hS1 W).1 h).b_)) hS ?_
    simp only [Act.put, List.setIfInBounds_toArray, List.set_cons_zero, List.set_cons_succ]
    refine takeH 1 26 (uVal (u)) rfl rfl (by kernel_rfl) (by kernel_rfl) (by kernel_rfl) (fun _ _ _ h => h) (hy_load_U (Operand.tmp 3) rfl (by kernel_rfl) (w.heap.size + 1) (u) (by kernel_rfl) (fun W h => ((hS1 W).1 h).u_)) hS ?_
    simp only [Act.put, List.setIfInBounds_toArray, List.set_cons_zero, List.set_cons_succ]
    refine wpAnyH_ready (rs := [2, 7]) (by kernel_rfl) (by simp) ?_
    refine AllReadyH.cons rfl (fun K hK => ?_) (AllReadyH.cons rfl (fun K hK => ?_) AllReadyH.nil)
    · go_simp
      refine (rstr _).mono ?_
      rintro e x1 ⟨rfl, hx1⟩
      refine hK.out _ _ ((hS1 _).2 (((hS1 _).1 hS).step hx1)) (fun hS => ?_)
      clear hK K
      refine wpAnyH_ready (rs := [3, 7]) (by kernel_rfl) (by simp) ?_
      refine AllReadyH.cons rfl (fun K hK => ?_) (AllReadyH.cons rfl (fun K hK => ?_) AllReadyH.nil)
      · go_simp
        refine (jc _ (hE.below ((hS1 _).1 hS).bel)).mono ?_
        rintro e x2 ⟨rfl, hx2⟩
        refine hK.out _ _ ((hS1 _).2 (((hS1 _).1 hS).step hx2)) (fun hS => ?_)
        clear hK K
        refine takeH 4 24 (.tuple #[uVal u, .int .i64 0]) rfl rfl (by kernel_rfl) (by kernel_rfl) (by kernel_rfl) (fun _ _ _ h => h) (Or.inl ⟨by kernel_rfl, fun W _ => by go_simp⟩) hS ?_
        simp only [Act.put, List.setIfInBounds_toArray, List.set_cons_zero, List.set_cons_succ]
        refine takeH 5 29 (uVal u) rfl rfl (by kernel_rfl) (by kernel_rfl) (by kernel_rfl) (fun _ _ _ h => h) (Or.inl ⟨by kernel_rfl, fun W _ => by go_simp⟩) hS ?_
        simp only [Act.put, List.setIfInBounds_toArray, List.set_cons_zero, List.set_cons_succ]
        refine takeH 6 30 (.int .i64 0) rfl rfl (by kernel_rfl) (by kernel_rfl) (by kernel_rfl) (fun _ _ _ h => h) (Or.inl ⟨by kernel_rfl, fun W _ => by go_simp⟩) hS ?_
        simp only [Act.put, List.setIfInBounds_toArray, List.set_cons_zero, List.set_cons_succ]
        refine wpAnyH_ready (rs := [7]) (by kernel_rfl) (by simp) ?_
        refine AllReadyH.cons rfl (fun K hK => ?_) AllReadyH.nil
        go_simp
        have hZ : UAt (x2.alloc (.cells (uCells Url.zero) 25)) x2.heap.size Url.zero := heap_alloc_last _ _
        have hTz := ((hS1 _).1 hS).step (W' := x2.alloc (.cells (uCells Url.zero) 25)) ((Below.refl _ _).alloc (Nat.le_refl _) _)
        have hlt9 := ((hS1 _).1 hS).u_.lt
        unfold uCells at hZ hTz
        refine hK.out _ _ ((hS1 _).2 hTz) (fun hS => ?_)
        clear hK K
        generalize x2.alloc (.cells #[.string (str Url.zero.sch), .string (str Url.zero.host), .int .i64 Url.zero.port, .string (str Url.zero.path), .string (str Url.zero.query), .string (str Url.zero.frag), .bool Url.zero.hq, .bool Url.zero.hf] 25) = x3 at hZ hTz hS ⊢
        generalize x2.heap.size = b9 at hZ hlt9 ⊢
        refine anyH_store_U 8 (by kernel_rfl) rfl rfl (Operand.tmp 5) (Operand.tmp 29) rfl rfl b9 u Url.zero (by kernel_rfl) (by kernel_rfl) (hZ) ((hS1 _).2 (((hS1 _).1 hS).setRow (by omega) u)) (fun hS => ?_)
        refine takeH 9 6 (.int .i64 0) rfl rfl (by kernel_rfl) (by kernel_rfl) (by kernel_rfl) (fun _ _ _ h => h) (Or.inl ⟨by kernel_rfl, fun W _ => by go_simp⟩) hS ?_
        simp only [Act.put, List.setIfInBounds_toArray, List.set_cons_zero, List.set_cons_succ]
        refine wpAnyH_done (by kernel_rfl) ?_ _
        go_wp2
        go_meet
        case rel => exact ⟨b9, rfl, rfl, setRow_U (hZ), (hS1 _).1 hS⟩
      · go_simp
        have hZ : UAt (x1.alloc (.cells (uCells Url.zero) 25)) x1.heap.size Url.zero := heap_alloc_last _ _
        have hTz := ((hS1 _).1 hS).step (W' := x1.alloc (.cells (uCells Url.zero) 25)) ((Below.refl _ _).alloc (Nat.le_refl _) _)
        have hlt9 := ((hS1 _).1 hS).u_.lt
        unfold uCells at hZ hTz
        refine hK.out _ _ ((hS1 _).2 hTz) (fun hS => ?_)
        clear hK K
        generalize x1.alloc (.cells #[.string (str Url.zero.sch), .string (str Url.zero.host), .int .i64 Url.zero.port, .string (str Url.zero.path), .string (str Url.zero.query), .string (str Url.zero.frag), .bool Url.zero.hq, .bool Url.zero.hf] 25) = x3 at hZ hTz hS ⊢
        generalize x1.heap.size = b9 at hZ hlt9 ⊢
        refine wpAnyH_ready (rs := [3]) (by kernel_rfl) (by simp) ?_
        refine AllReadyH.cons rfl (fun K hK => ?_) AllReadyH.nil
        go_simp
        refine (jc _ (hE.below ((hS1 _).1 hS).bel)).mono ?_
        rintro e x4 ⟨rfl, hx4⟩
        refine hK.out _ _ ((hS1 _).2 (((hS1 _).1 hS).step hx4)) (fun hS => ?_)
        clear hK K
        refine takeH 4 24 (.tuple #[uVal u, .int .i64 0]) rfl rfl (by kernel_rfl) (by kernel_rfl) (by kernel_rfl) (fun _ _ _ h => h) (Or.inl ⟨by kernel_rfl, fun W _ => by go_simp⟩) hS ?_
        simp only [Act.put, List.setIfInBounds_toArray, List.set_cons_zero, List.set_cons_succ]
        refine takeH 5 29 (uVal u) rfl rfl (by kernel_rfl) (by kernel_rfl) (by kernel_rfl) (fun _ _ _ h => h) (Or.inl ⟨by kernel_rfl, fun W _ => by go_simp⟩) hS ?_
        simp only [Act.put, List.setIfInBounds_toArray, List.set_cons_zero, List.set_cons_succ]
        refine takeH 6 30 (.int .i64 0) rfl rfl (by kernel_rfl) (by kernel_rfl) (by kernel_rfl) (fun _ _ _ h => h) (Or.inl ⟨by kernel_rfl, fun W _ => by go_simp⟩) hS ?_
        simp only [Act.put, List.setIfInBounds_toArray, List.set_cons_zero, List.set_cons_succ]
        refine anyH_store_U 8 (by kernel_rfl) rfl rfl (Operand.tmp 5) (Operand.tmp 29) rfl rfl b9 u Url.zero (by kernel_rfl) (by kernel_rfl) (hZ.below hx4) ((hS1 _).2 (((hS1 _).1 hS).setRow (by omega) u)) (fun hS => ?_)
        refine takeH 9 6 (.int .i64 0) rfl rfl (by kernel_rfl) (by kernel_rfl) (by kernel_rfl) (fun _ _ _ h => h) (Or.inl ⟨by kernel_rfl, fun W _ => by go_simp⟩) hS ?_
        simp only [Act.put, List.setIfInBounds_toArray, List.set_cons_zero, List.set_cons_succ]
        refine wpAnyH_done (by kernel_rfl) ?_ _
        go_wp2
        go_meet
        case rel => exact ⟨b9, rfl, rfl, setRow_U (hZ.below hx4), (hS1 _).1 hS⟩
    · go_simp
      have hZ : UAt (wd.alloc (.cells (uCells Url.zero) 25)) wd.heap.size Url.zero := heap_alloc_last _ _
      have hTz := ((hS1 _).1 hS).step (W' := wd.alloc (.cells (uCells Url.zero) 25)) ((Below.refl _ _).alloc (Nat.le_refl _) _)
      have hlt9 := ((hS1 _).1 hS).u_.lt
      unfold uCells at hZ hTz
      refine hK.out _ _ ((hS1 _).2 hTz) (fun hS => ?_)
      clear hK K
      generalize wd.alloc (.cells #[.string (str Url.zero.sch), .string (str Url.zero.host), .int .i64 Url.zero.port, .string (str Url.zero.path), .string (str Url.zero.query), .string (str Url.zero.frag), .bool Url.zero.hq, .bool Url.zero.hf] 25) = x5 at hZ hTz hS ⊢
      generalize wd.heap.size = b9 at hZ hlt9 ⊢
      refine wpAnyH_ready (rs := [2]) (by kernel_rfl) (by simp) ?_
      refine AllReadyH.cons rfl (fun K hK => ?_) AllReadyH.nil
      go_simp
      refine (rstr _).mono ?_
      rintro e x6 ⟨rfl, hx6⟩
      refine hK.out _ _ ((hS1 _).2 (((hS1 _).1 hS).step hx6)) (fun hS => ?_)
      clear hK K
      refine wpAnyH_ready (rs := [3]) (by kernel_rfl) (by simp) ?_
      refine AllReadyH.cons rfl (fun K hK => ?_) AllReadyH.nil
      go_simp
      refine (jc _ (hE.below ((hS1 _).1 hS).bel)).mono ?_
      rintro e x7 ⟨rfl, hx7⟩
      refine hK.out _ _ ((hS1 _).2 (((hS1 _).1 hS).step hx7)) (fun hS => ?_)
      clear hK K
      refine takeH 4 24 (.tuple #[uVal u, .int .i64 0]) rfl rfl (by kernel_rfl) (by kernel_rfl) (by kernel_rfl) (fun _ _ _ h => h) (Or.inl ⟨by kernel_rfl, fun W _ => by go_simp⟩) hS ?_
      simp only [Act.put, List.setIfInBounds_toArray, List.set_cons_zero, List.set_cons_succ]
      refine takeH 5 29 (uVal u) rfl rfl (by kernel_rfl) (by kernel_rfl) (by kernel_rfl) (fun _ _ _ h => h) (Or.inl ⟨by kernel_rfl, fun W _ => by go_simp⟩) hS ?_
      simp only [Act.put, List.setIfInBounds_toArray, List.set_cons_zero, List.set_cons_succ]
      refine takeH 6 30 (.int .i64 0) rfl rfl (by kernel_rfl) (by kernel_rfl) (by kernel_rfl) (fun _ _ _ h => h) (Or.inl ⟨by kernel_rfl, fun W _ => by go_simp⟩) hS ?_
      simp only [Act.put, List.setIfInBounds_toArray, List.set_cons_zero, List.set_cons_succ]
      refine anyH_store_U 8 (by kernel_rfl) rfl rfl (Operand.tmp 5) (Operand.tmp 29) rfl rfl b9 u Url.zero (by kernel_rfl) (by kernel_rfl) ((hZ.below hx6).below hx7) ((hS1 _).2 (((hS1 _).1 hS).setRow (by omega) u)) (fun hS => ?_)
      refine takeH 9 6 (.int .i64 0) rfl rfl (by kernel_rfl) (by kernel_rfl) (by kernel_rfl) (fun _ _ _ h => h) (Or.inl ⟨by kernel_rfl, fun W _ => by go_simp⟩) hS ?_
      simp only [Act.put, List.setIfInBounds_toArray, List.set_cons_zero, List.set_cons_succ]
      refine wpAnyH_done (by kernel_rfl) ?_ _
      go_wp2
      go_meet
      case rel => exact ⟨b9, rfl, rfl, setRow_U ((hZ.below hx6).below hx7), (hS1 _).1 hS⟩
  case rest =>
    obtain ⟨b9, rfl, rfl, hV, hB⟩ := hcut
    go_wp2_with (first
      | ((with_reducible show wpList _ _ _ ({ dst := _, op := Op.load 25 (Operand.tmp 5), type := _, pos := _, after := _, guard := _ } :: _) _ _); refine wpList_load_Ug _ rfl (by rfl) (b9) u rfl hV ?_)
      | ((with_reducible show wpList _ _ _ ({ dst := _, op := Op.load 25 (Operand.tmp 3), type := _, pos := _, after := _, guard := _ } :: _) _ _); refine wpList_load_Ug _ rfl (by rfl) (w.heap.size + 1) u rfl hB.u_ ?_)
      | ((with_reducible show wpList _ _ _ ({ dst := _, op := Op.binOp BinOp.eql 25 _ _ _, type := _, pos := _, after := _, guard := _ } :: _) _ _); unfold uVal)
      | (go_at_call 20; refine (alive5_any _ (hE.below hB.bel)).mono ?_; rintro e w1 ⟨rfl, hb1⟩; replace hB := hB.step hb1; clear hb1))
    go_ret
    exact ⟨rfl, hB.bel⟩
end Go.Proofs.YtnmkhbelmdokmaaGreatDoor.joinSelf
