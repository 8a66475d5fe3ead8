/- Contracts of the reference's slash, Key and Link of layer 5. -/
import Derived.Test.YtnmkhbelmdokmaaGreatDoorKJoin
namespace Go.Proofs.YtnmkhbelmdokmaaGreatDoor
open Go.RowKit
set_option maxHeartbeats 1000000 in
theorem RSlash5_any (l : List UInt8) (w : World) :
    Calls Tryz.prog 52 #[.string (str l)] w fun e w' => e = .returned (.bool (Url.slashed l)) ∧ w' = w := by
  cases l with
  | nil =>
    have he := empty_is (l := []) rfl
    go_enter Tryz.func52, Tryz.ntmps52
    go_wp2
    go_ret
    exact ⟨rfl, rfl⟩
  | cons x t =>
    have he := empty_isnt (l := x :: t) (by simp)
    have hat := str_first x t
    have hs1 : (str (x :: t)).size = t.length + 1 := str_size _
    go_enter Tryz.func52, Tryz.ntmps52
    go_wp2_with (go_at_call 38; refine (RIsSlash_any x _).mono ?_; rintro e w4 ⟨rfl, hw4⟩; rw [hw4]; clear hw4)
    go_ret
    exact ⟨rfl, rfl⟩
set_option maxHeartbeats 2000000 in
set_option maxRecDepth 100000 in
theorem RKey5_any (u : Url.U) (w : World) (hu : Fits u) :
    Calls Tryz.prog 24 #[uVal u] w fun e w' => e = .returned (.string (str (Url.key u))) ∧ Below w.heap.size w w' := by
  have hb0 : Below w.heap.size w (w.alloc (.cells (uCells u) 25)) := (Below.refl _ w).alloc (Nat.le_refl _) _
  have hU0 : UAt (w.alloc (.cells (uCells u) 25)) w.heap.size u := heap_alloc_last _ _
  have strc : ∀ W : World, Calls Tryz.prog 13 #[uVal (Url.bare u)] W fun e w' => e = .returned (.string (str (Url.key u))) ∧ Below W.heap.size W w' := fun W => RString_any (Url.bare u) W (bare_fits hu)
  unfold uVal
  unfold uCells at hb0 hU0 ⊢
  go_enter Tryz.func24, Tryz.ntmps24
  go_upto_region 1 with fail
  generalize w.alloc (.cells #[.string (str u.sch), .string (str u.host), .int .i64 u.port, .string (str u.path), .string (str u.query), .string (str u.frag), .bool u.hq, .bool u.hf] 25) = w1 at hb0 hU0 ⊢
  have f7 := hU0.frozen 7
  have f5 := (hU0.hf false).frozen 5
  have x7 := hU0.cell 7
  have x5 := (hU0.hf false).cell 5
  simp only [uCells] at x7 x5
  go_upto_region 2 with fail
  have hU2 : UAt ((w1.setCell ⟨w.heap.size, 7, none⟩ (.bool false)).setCell ⟨w.heap.size, 5, none⟩ (.string ⟨#[]⟩)) w.heap.size (Url.bare u) := (hU0.hf false).frag []
  have hb2 : Below w.heap.size w ((w1.setCell ⟨w.heap.size, 7, none⟩ (.bool false)).setCell ⟨w.heap.size, 5, none⟩ (.string ⟨#[]⟩)) := (hb0.setCell (Nat.le_refl _) _).setCell (Nat.le_refl _) _
  generalize (w1.setCell ⟨w.heap.size, 7, none⟩ (.bool false)).setCell ⟨w.heap.size, 5, none⟩ (.string ⟨#[]⟩) = w2 at hU2 hb2 ⊢
  go_wp2_with (first
    | ((with_reducible show wpList _ _ _ ({ dst := _, op := Op.load 25 (Operand.tmp 1), type := _, pos := _, after := _, guard := _ } :: _) _ _); refine wpList_load_Ug _ rfl (by rfl) (w.heap.size) (Url.bare u) rfl hU2 ?_)
    | (go_at_call 13; refine (strc _).mono ?_; rintro e w3 ⟨rfl, hb3⟩))
  go_ret
  exact ⟨rfl, bel hb2 hb3⟩
set_option maxHeartbeats 4000000 in
set_option maxRecDepth 100000 in
theorem RLink_bad1 (b u : Url.U) (w : World) (fb : Fits b) (fu : Fits u) (zb : (Url.str b).length ≤ 1000000) (_zu : (Url.str u).length ≤ 1000000) (h1 : Url.may b = false) :
    Calls Tryz.prog 27 #[uVal b, uVal u] w fun e w' => e = .returned (.string (str (Url.str u))) ∧ Below w.heap.size w w' := by
  have hzu := (zero_of_info zeroURL).1
  have hB := BU.start w b u
  have strc : ∀ W : World, Calls Tryz.prog 13 #[uVal u] W fun e w' => e = .returned (.string (str (Url.str u))) ∧ Below W.heap.size W w' := fun W => RString_any u W fu
  have rorg : ∀ W : World, Calls Tryz.prog 13 #[uVal (placeU u)] W fun e w' => e = .returned (.string (str (Url.origin u))) ∧ Below W.heap.size W w' := fun W => RString_any (placeU u) W (placeU_fits fu)
  unfold uVal at hzu
  unfold uVal uCells at rorg
  unfold uVal
  unfold uCells at hzu hB ⊢
  go_enter Tryz.func27, Tryz.ntmps27
  go_upto_region 1 with fail
  generalize (w.alloc (.cells #[.string (str b.sch), .string (str b.host), .int .i64 b.port, .string (str b.path), .string (str b.query), .string (str b.frag), .bool b.hq, .bool b.hf] 25)).alloc (.cells #[.string (str u.sch), .string (str u.host), .int .i64 u.port, .string (str u.path), .string (str u.query), .string (str u.frag), .bool u.hq, .bool u.hf] 25) = w0 at hB ⊢
  go_upto_region 2 with (first
    | ((with_reducible show wpList _ _ _ ({ dst := _, op := Op.load 25 (Operand.tmp 3), type := _, pos := _, after := _, guard := _ } :: _) _ _); refine wpList_load_Ug _ rfl (by rfl) (w.heap.size + 1) u rfl hB.u_ ?_)
    | (go_at_call 13; refine (strc _).mono ?_; rintro e w1 ⟨rfl, hb1⟩; replace hB := hB.step hb1; clear hb1; have a0 := hB.b_.cell 0; have a1 := hB.b_.cell 1; have a2 := hB.b_.cell 2; have c0 := hB.u_.cell 0; have c1 := hB.u_.cell 1; have c2 := hB.u_.cell 2; have c3 := hB.u_.cell 3; simp only [uCells] at a0 a1 a2 c0 c1 c2 c3))
  go_upto_region 3 with (go_at_call 13; refine (rorg _).mono ?_; (try clear a0 a1 a2 c0 c1 c2 c3); rintro e w1 ⟨rfl, hb1⟩; replace hB := hB.step hb1; clear hb1; have a0 := hB.b_.cell 0; have a1 := hB.b_.cell 1; have a2 := hB.b_.cell 2; have c0 := hB.u_.cell 0; have c1 := hB.u_.cell 1; have c2 := hB.u_.cell 2; have c3 := hB.u_.cell 3; simp only [uCells] at a0 a1 a2 c0 c1 c2 c3)
  go_wp2_with (first
    | ((with_reducible show wpList _ _ _ ({ dst := _, op := Op.load 25 (Operand.tmp 2), type := _, pos := _, after := _, guard := _ } :: _) _ _); refine wpList_load_Ug _ rfl (by rfl) (w.heap.size) b rfl hB.b_ ?_)
    | ((with_reducible show wpList _ _ _ ({ dst := _, op := Op.load 25 (Operand.tmp 3), type := _, pos := _, after := _, guard := _ } :: _) _ _); refine wpList_load_Ug _ rfl (by rfl) (w.heap.size + 1) u rfl hB.u_ ?_)
    | (go_at_call 30; refine (RMay5_any _ _ (by assumption) (by assumption)).mono ?_; (try clear a0 a1 a2 c0 c1 c2 c3); rintro e w1 ⟨rfl, hb1⟩; replace hB := hB.step hb1; clear hb1; have a0 := hB.b_.cell 0; have a1 := hB.b_.cell 1; have a2 := hB.b_.cell 2; have c0 := hB.u_.cell 0; have c1 := hB.u_.cell 1; have c2 := hB.u_.cell 2; have c3 := hB.u_.cell 3; simp only [uCells] at a0 a1 a2 c0 c1 c2 c3))
  go_ret
  exact ⟨rfl, hB.bel⟩
set_option maxHeartbeats 4000000 in
set_option maxRecDepth 100000 in
theorem RLink_bad2 (b u : Url.U) (w : World) (fb : Fits b) (fu : Fits u) (zb : (Url.str b).length ≤ 1000000) (zu : (Url.str u).length ≤ 1000000) (h1 : Url.may b = true) (h2 : Url.may u = false) :
    Calls Tryz.prog 27 #[uVal b, uVal u] w fun e w' => e = .returned (.string (str (Url.str u))) ∧ Below w.heap.size w w' := by
  have hzu := (zero_of_info zeroURL).1
  have hB := BU.start w b u
  have strc : ∀ W : World, Calls Tryz.prog 13 #[uVal u] W fun e w' => e = .returned (.string (str (Url.str u))) ∧ Below W.heap.size W w' := fun W => RString_any u W fu
  have rorg : ∀ W : World, Calls Tryz.prog 13 #[uVal (placeU u)] W fun e w' => e = .returned (.string (str (Url.origin u))) ∧ Below W.heap.size W w' := fun W => RString_any (placeU u) W (placeU_fits fu)
  unfold uVal at hzu
  unfold uVal uCells at rorg
  unfold uVal
  unfold uCells at hzu hB ⊢
  go_enter Tryz.func27, Tryz.ntmps27
  go_upto_region 1 with fail
  generalize (w.alloc (.cells #[.string (str b.sch), .string (str b.host), .int .i64 b.port, .string (str b.path), .string (str b.query), .string (str b.frag), .bool b.hq, .bool b.hf] 25)).alloc (.cells #[.string (str u.sch), .string (str u.host), .int .i64 u.port, .string (str u.path), .string (str u.query), .string (str u.frag), .bool u.hq, .bool u.hf] 25) = w0 at hB ⊢
  go_upto_region 2 with (first
    | ((with_reducible show wpList _ _ _ ({ dst := _, op := Op.load 25 (Operand.tmp 3), type := _, pos := _, after := _, guard := _ } :: _) _ _); refine wpList_load_Ug _ rfl (by rfl) (w.heap.size + 1) u rfl hB.u_ ?_)
    | (go_at_call 13; refine (strc _).mono ?_; rintro e w1 ⟨rfl, hb1⟩; replace hB := hB.step hb1; clear hb1; have a0 := hB.b_.cell 0; have a1 := hB.b_.cell 1; have a2 := hB.b_.cell 2; have c0 := hB.u_.cell 0; have c1 := hB.u_.cell 1; have c2 := hB.u_.cell 2; have c3 := hB.u_.cell 3; simp only [uCells] at a0 a1 a2 c0 c1 c2 c3))
  go_upto_region 3 with (go_at_call 13; refine (rorg _).mono ?_; (try clear a0 a1 a2 c0 c1 c2 c3); rintro e w1 ⟨rfl, hb1⟩; replace hB := hB.step hb1; clear hb1; have a0 := hB.b_.cell 0; have a1 := hB.b_.cell 1; have a2 := hB.b_.cell 2; have c0 := hB.u_.cell 0; have c1 := hB.u_.cell 1; have c2 := hB.u_.cell 2; have c3 := hB.u_.cell 3; simp only [uCells] at a0 a1 a2 c0 c1 c2 c3)
  go_wp2_with (first
    | ((with_reducible show wpList _ _ _ ({ dst := _, op := Op.load 25 (Operand.tmp 2), type := _, pos := _, after := _, guard := _ } :: _) _ _); refine wpList_load_Ug _ rfl (by rfl) (w.heap.size) b rfl hB.b_ ?_)
    | ((with_reducible show wpList _ _ _ ({ dst := _, op := Op.load 25 (Operand.tmp 3), type := _, pos := _, after := _, guard := _ } :: _) _ _); refine wpList_load_Ug _ rfl (by rfl) (w.heap.size + 1) u rfl hB.u_ ?_)
    | (go_at_call 30; refine (RMay5_any _ _ (by assumption) (by assumption)).mono ?_; (try clear a0 a1 a2 c0 c1 c2 c3); rintro e w1 ⟨rfl, hb1⟩; replace hB := hB.step hb1; clear hb1; have a0 := hB.b_.cell 0; have a1 := hB.b_.cell 1; have a2 := hB.b_.cell 2; have c0 := hB.u_.cell 0; have c1 := hB.u_.cell 1; have c2 := hB.u_.cell 2; have c3 := hB.u_.cell 3; simp only [uCells] at a0 a1 a2 c0 c1 c2 c3))
  go_ret
  exact ⟨rfl, hB.bel⟩
set_option maxHeartbeats 4000000 in
set_option maxRecDepth 100000 in
theorem RLink_else (b u : Url.U) (w : World) (fb : Fits b) (fu : Fits u) (zb : (Url.str b).length ≤ 1000000) (zu : (Url.str u).length ≤ 1000000) (h1 : Url.may b = true) (h2 : Url.may u = true) (h3 : ¬ b.sch = u.sch) :
    Calls Tryz.prog 27 #[uVal b, uVal u] w fun e w' => e = .returned (.string (str (Url.str u))) ∧ Below w.heap.size w w' := by
  have hzu := (zero_of_info zeroURL).1
  have hB := BU.start w b u
  have strc : ∀ W : World, Calls Tryz.prog 13 #[uVal u] W fun e w' => e = .returned (.string (str (Url.str u))) ∧ Below W.heap.size W w' := fun W => RString_any u W fu
  have rorg : ∀ W : World, Calls Tryz.prog 13 #[uVal (placeU u)] W fun e w' => e = .returned (.string (str (Url.origin u))) ∧ Below W.heap.size W w' := fun W => RString_any (placeU u) W (placeU_fits fu)
  have hsq : ((str b.sch).toList == (str u.sch).toList) = false := by rw [str_beq]; exact beq_eq_false_iff_ne.2 h3
  clear h3
  unfold uVal at hzu
  unfold uVal uCells at rorg
  unfold uVal
  unfold uCells at hzu hB ⊢
  go_enter Tryz.func27, Tryz.ntmps27
  go_upto_region 1 with fail
  generalize (w.alloc (.cells #[.string (str b.sch), .string (str b.host), .int .i64 b.port, .string (str b.path), .string (str b.query), .string (str b.frag), .bool b.hq, .bool b.hf] 25)).alloc (.cells #[.string (str u.sch), .string (str u.host), .int .i64 u.port, .string (str u.path), .string (str u.query), .string (str u.frag), .bool u.hq, .bool u.hf] 25) = w0 at hB ⊢
  go_upto_region 2 with (first
    | ((with_reducible show wpList _ _ _ ({ dst := _, op := Op.load 25 (Operand.tmp 3), type := _, pos := _, after := _, guard := _ } :: _) _ _); refine wpList_load_Ug _ rfl (by rfl) (w.heap.size + 1) u rfl hB.u_ ?_)
    | (go_at_call 13; refine (strc _).mono ?_; rintro e w1 ⟨rfl, hb1⟩; replace hB := hB.step hb1; clear hb1; have a0 := hB.b_.cell 0; have a1 := hB.b_.cell 1; have a2 := hB.b_.cell 2; have c0 := hB.u_.cell 0; have c1 := hB.u_.cell 1; have c2 := hB.u_.cell 2; have c3 := hB.u_.cell 3; simp only [uCells] at a0 a1 a2 c0 c1 c2 c3))
  go_upto_region 3 with (go_at_call 13; refine (rorg _).mono ?_; (try clear a0 a1 a2 c0 c1 c2 c3); rintro e w1 ⟨rfl, hb1⟩; replace hB := hB.step hb1; clear hb1; have a0 := hB.b_.cell 0; have a1 := hB.b_.cell 1; have a2 := hB.b_.cell 2; have c0 := hB.u_.cell 0; have c1 := hB.u_.cell 1; have c2 := hB.u_.cell 2; have c3 := hB.u_.cell 3; simp only [uCells] at a0 a1 a2 c0 c1 c2 c3)
  go_wp2_with (first
    | ((with_reducible show wpList _ _ _ ({ dst := _, op := Op.load 25 (Operand.tmp 2), type := _, pos := _, after := _, guard := _ } :: _) _ _); refine wpList_load_Ug _ rfl (by rfl) (w.heap.size) b rfl hB.b_ ?_)
    | ((with_reducible show wpList _ _ _ ({ dst := _, op := Op.load 25 (Operand.tmp 3), type := _, pos := _, after := _, guard := _ } :: _) _ _); refine wpList_load_Ug _ rfl (by rfl) (w.heap.size + 1) u rfl hB.u_ ?_)
    | (go_at_call 30; refine (RMay5_any _ _ (by assumption) (by assumption)).mono ?_; (try clear a0 a1 a2 c0 c1 c2 c3); rintro e w1 ⟨rfl, hb1⟩; replace hB := hB.step hb1; clear hb1; have a0 := hB.b_.cell 0; have a1 := hB.b_.cell 1; have a2 := hB.b_.cell 2; have c0 := hB.u_.cell 0; have c1 := hB.u_.cell 1; have c2 := hB.u_.cell 2; have c3 := hB.u_.cell 3; simp only [uCells] at a0 a1 a2 c0 c1 c2 c3))
  go_ret
  exact ⟨rfl, hB.bel⟩
set_option maxHeartbeats 4000000 in
set_option maxRecDepth 100000 in
theorem RLink_host (b u : Url.U) (w : World) (fb : Fits b) (fu : Fits u) (zb : (Url.str b).length ≤ 1000000) (zu : (Url.str u).length ≤ 1000000) (h1 : Url.may b = true) (h2 : Url.may u = true) (h3 : b.sch = u.sch) (h5 : ¬ b.host = u.host) :
    Calls Tryz.prog 27 #[uVal b, uVal u] w fun e w' => e = .returned (.string (str ((Url.str u).drop (u.sch.length + 1)))) ∧ Below w.heap.size w w' := by
  have hzu := (zero_of_info zeroURL).1
  have hB := BU.start w b u
  have strc : ∀ W : World, Calls Tryz.prog 13 #[uVal u] W fun e w' => e = .returned (.string (str (Url.str u))) ∧ Below W.heap.size W w' := fun W => RString_any u W fu
  have rorg : ∀ W : World, Calls Tryz.prog 13 #[uVal (placeU u)] W fun e w' => e = .returned (.string (str (Url.origin u))) ∧ Below W.heap.size W w' := fun W => RString_any (placeU u) W (placeU_fits fu)
  have hsq : ((str b.sch).toList == (str u.sch).toList) = true := by rw [str_beq]; exact beq_iff_eq.2 h3
  have hhq : ((str b.host).toList == (str u.host).toList) = false := by rw [str_beq]; exact beq_eq_false_iff_ne.2 h5
  have hx2 : (str (Url.str u)).extract (u.sch.length + 1) (Url.str u).length = str ((Url.str u).drop (u.sch.length + 1)) := str_from _ _
  have hss := str_size (Url.str u)
  have hsc := str_size u.sch
  have hle : (u.sch.length : Int) + 1 ≤ ((Url.str u).length : Int) := by
    have := congrArg List.length (Url.sch_drop u)
    rw [List.length_append, List.length_cons] at this
    omega
  have hle2 : u.sch.length + 1 ≤ (Url.str u).length := by omega
  have htn : ((u.sch.length : Int) + 1).toNat = u.sch.length + 1 := by omega
  clear h3 h5
  unfold uVal at hzu
  unfold uVal uCells at rorg
  unfold uVal
  unfold uCells at hzu hB ⊢
  go_enter Tryz.func27, Tryz.ntmps27
  go_upto_region 1 with fail
  generalize (w.alloc (.cells #[.string (str b.sch), .string (str b.host), .int .i64 b.port, .string (str b.path), .string (str b.query), .string (str b.frag), .bool b.hq, .bool b.hf] 25)).alloc (.cells #[.string (str u.sch), .string (str u.host), .int .i64 u.port, .string (str u.path), .string (str u.query), .string (str u.frag), .bool u.hq, .bool u.hf] 25) = w0 at hB ⊢
  go_upto_region 2 with (first
    | ((with_reducible show wpList _ _ _ ({ dst := _, op := Op.load 25 (Operand.tmp 3), type := _, pos := _, after := _, guard := _ } :: _) _ _); refine wpList_load_Ug _ rfl (by rfl) (w.heap.size + 1) u rfl hB.u_ ?_)
    | (go_at_call 13; refine (strc _).mono ?_; rintro e w1 ⟨rfl, hb1⟩; replace hB := hB.step hb1; clear hb1; have a0 := hB.b_.cell 0; have a1 := hB.b_.cell 1; have a2 := hB.b_.cell 2; have c0 := hB.u_.cell 0; have c1 := hB.u_.cell 1; have c2 := hB.u_.cell 2; have c3 := hB.u_.cell 3; simp only [uCells] at a0 a1 a2 c0 c1 c2 c3))
  go_upto_region 3 with (go_at_call 13; refine (rorg _).mono ?_; (try clear a0 a1 a2 c0 c1 c2 c3); rintro e w1 ⟨rfl, hb1⟩; replace hB := hB.step hb1; clear hb1; have a0 := hB.b_.cell 0; have a1 := hB.b_.cell 1; have a2 := hB.b_.cell 2; have c0 := hB.u_.cell 0; have c1 := hB.u_.cell 1; have c2 := hB.u_.cell 2; have c3 := hB.u_.cell 3; simp only [uCells] at a0 a1 a2 c0 c1 c2 c3)
  go_wp2_with (first
    | ((with_reducible show wpList _ _ _ ({ dst := _, op := Op.load 25 (Operand.tmp 2), type := _, pos := _, after := _, guard := _ } :: _) _ _); refine wpList_load_Ug _ rfl (by rfl) (w.heap.size) b rfl hB.b_ ?_)
    | ((with_reducible show wpList _ _ _ ({ dst := _, op := Op.load 25 (Operand.tmp 3), type := _, pos := _, after := _, guard := _ } :: _) _ _); refine wpList_load_Ug _ rfl (by rfl) (w.heap.size + 1) u rfl hB.u_ ?_)
    | (go_at_call 30; refine (RMay5_any _ _ (by assumption) (by assumption)).mono ?_; (try clear a0 a1 a2 c0 c1 c2 c3); rintro e w1 ⟨rfl, hb1⟩; replace hB := hB.step hb1; clear hb1; have a0 := hB.b_.cell 0; have a1 := hB.b_.cell 1; have a2 := hB.b_.cell 2; have c0 := hB.u_.cell 0; have c1 := hB.u_.cell 1; have c2 := hB.u_.cell 2; have c3 := hB.u_.cell 3; simp only [uCells] at a0 a1 a2 c0 c1 c2 c3))
  go_ret
  exact ⟨rfl, hB.bel⟩
set_option maxHeartbeats 4000000 in
set_option maxRecDepth 100000 in
theorem RLink_port (b u : Url.U) (w : World) (fb : Fits b) (fu : Fits u) (zb : (Url.str b).length ≤ 1000000) (zu : (Url.str u).length ≤ 1000000) (h1 : Url.may b = true) (h2 : Url.may u = true) (h3 : b.sch = u.sch) (h5 : b.host = u.host) (h6 : ¬ b.port = u.port) :
    Calls Tryz.prog 27 #[uVal b, uVal u] w fun e w' => e = .returned (.string (str ((Url.str u).drop (u.sch.length + 1)))) ∧ Below w.heap.size w w' := by
  have hzu := (zero_of_info zeroURL).1
  have hB := BU.start w b u
  have strc : ∀ W : World, Calls Tryz.prog 13 #[uVal u] W fun e w' => e = .returned (.string (str (Url.str u))) ∧ Below W.heap.size W w' := fun W => RString_any u W fu
  have rorg : ∀ W : World, Calls Tryz.prog 13 #[uVal (placeU u)] W fun e w' => e = .returned (.string (str (Url.origin u))) ∧ Below W.heap.size W w' := fun W => RString_any (placeU u) W (placeU_fits fu)
  have hsq : ((str b.sch).toList == (str u.sch).toList) = true := by rw [str_beq]; exact beq_iff_eq.2 h3
  have hhq : ((str b.host).toList == (str u.host).toList) = true := by rw [str_beq]; exact beq_iff_eq.2 h5
  have hpq : (b.port == u.port) = false := beq_eq_false_iff_ne.2 h6
  have hx2 : (str (Url.str u)).extract (u.sch.length + 1) (Url.str u).length = str ((Url.str u).drop (u.sch.length + 1)) := str_from _ _
  have hss := str_size (Url.str u)
  have hsc := str_size u.sch
  have hle : (u.sch.length : Int) + 1 ≤ ((Url.str u).length : Int) := by
    have := congrArg List.length (Url.sch_drop u)
    rw [List.length_append, List.length_cons] at this
    omega
  have hle2 : u.sch.length + 1 ≤ (Url.str u).length := by omega
  have htn : ((u.sch.length : Int) + 1).toNat = u.sch.length + 1 := by omega
  clear h3 h5 h6
  unfold uVal at hzu
  unfold uVal uCells at rorg
  unfold uVal
  unfold uCells at hzu hB ⊢
  go_enter Tryz.func27, Tryz.ntmps27
  go_upto_region 1 with fail
  generalize (w.alloc (.cells #[.string (str b.sch), .string (str b.host), .int .i64 b.port, .string (str b.path), .string (str b.query), .string (str b.frag), .bool b.hq, .bool b.hf] 25)).alloc (.cells #[.string (str u.sch), .string (str u.host), .int .i64 u.port, .string (str u.path), .string (str u.query), .string (str u.frag), .bool u.hq, .bool u.hf] 25) = w0 at hB ⊢
  go_upto_region 2 with (first
    | ((with_reducible show wpList _ _ _ ({ dst := _, op := Op.load 25 (Operand.tmp 3), type := _, pos := _, after := _, guard := _ } :: _) _ _); refine wpList_load_Ug _ rfl (by rfl) (w.heap.size + 1) u rfl hB.u_ ?_)
    | (go_at_call 13; refine (strc _).mono ?_; rintro e w1 ⟨rfl, hb1⟩; replace hB := hB.step hb1; clear hb1; have a0 := hB.b_.cell 0; have a1 := hB.b_.cell 1; have a2 := hB.b_.cell 2; have c0 := hB.u_.cell 0; have c1 := hB.u_.cell 1; have c2 := hB.u_.cell 2; have c3 := hB.u_.cell 3; simp only [uCells] at a0 a1 a2 c0 c1 c2 c3))
  go_upto_region 3 with (go_at_call 13; refine (rorg _).mono ?_; (try clear a0 a1 a2 c0 c1 c2 c3); rintro e w1 ⟨rfl, hb1⟩; replace hB := hB.step hb1; clear hb1; have a0 := hB.b_.cell 0; have a1 := hB.b_.cell 1; have a2 := hB.b_.cell 2; have c0 := hB.u_.cell 0; have c1 := hB.u_.cell 1; have c2 := hB.u_.cell 2; have c3 := hB.u_.cell 3; simp only [uCells] at a0 a1 a2 c0 c1 c2 c3)
  go_wp2_with (first
    | ((with_reducible show wpList _ _ _ ({ dst := _, op := Op.load 25 (Operand.tmp 2), type := _, pos := _, after := _, guard := _ } :: _) _ _); refine wpList_load_Ug _ rfl (by rfl) (w.heap.size) b rfl hB.b_ ?_)
    | ((with_reducible show wpList _ _ _ ({ dst := _, op := Op.load 25 (Operand.tmp 3), type := _, pos := _, after := _, guard := _ } :: _) _ _); refine wpList_load_Ug _ rfl (by rfl) (w.heap.size + 1) u rfl hB.u_ ?_)
    | (go_at_call 30; refine (RMay5_any _ _ (by assumption) (by assumption)).mono ?_; (try clear a0 a1 a2 c0 c1 c2 c3); rintro e w1 ⟨rfl, hb1⟩; replace hB := hB.step hb1; clear hb1; have a0 := hB.b_.cell 0; have a1 := hB.b_.cell 1; have a2 := hB.b_.cell 2; have c0 := hB.u_.cell 0; have c1 := hB.u_.cell 1; have c2 := hB.u_.cell 2; have c3 := hB.u_.cell 3; simp only [uCells] at a0 a1 a2 c0 c1 c2 c3))
  go_ret
  exact ⟨rfl, hB.bel⟩
set_option maxHeartbeats 4000000 in
set_option maxRecDepth 100000 in
theorem RLink_two (b u : Url.U) (w : World) (fb : Fits b) (fu : Fits u) (zb : (Url.str b).length ≤ 1000000) (zu : (Url.str u).length ≤ 1000000) (h1 : Url.may b = true) (h2 : Url.may u = true) (h3 : b.sch = u.sch) (h5 : b.host = u.host) (h6 : b.port = u.port) (h4 : Url.slashed2 u.path = true) :
    Calls Tryz.prog 27 #[uVal b, uVal u] w fun e w' => e = .returned (.string (str ((Url.str u).drop (u.sch.length + 1)))) ∧ Below w.heap.size w w' := by
  have hzu := (zero_of_info zeroURL).1
  have hB := BU.start w b u
  have strc : ∀ W : World, Calls Tryz.prog 13 #[uVal u] W fun e w' => e = .returned (.string (str (Url.str u))) ∧ Below W.heap.size W w' := fun W => RString_any u W fu
  have rorg : ∀ W : World, Calls Tryz.prog 13 #[uVal (placeU u)] W fun e w' => e = .returned (.string (str (Url.origin u))) ∧ Below W.heap.size W w' := fun W => RString_any (placeU u) W (placeU_fits fu)
  have hsq : ((str b.sch).toList == (str u.sch).toList) = true := by rw [str_beq]; exact beq_iff_eq.2 h3
  have hhq : ((str b.host).toList == (str u.host).toList) = true := by rw [str_beq]; exact beq_iff_eq.2 h5
  have hpq : (b.port == u.port) = true := beq_iff_eq.2 h6
  have hx2 : (str (Url.str u)).extract (u.sch.length + 1) (Url.str u).length = str ((Url.str u).drop (u.sch.length + 1)) := str_from _ _
  have hss := str_size (Url.str u)
  have hsc := str_size u.sch
  have hle : (u.sch.length : Int) + 1 ≤ ((Url.str u).length : Int) := by
    have := congrArg List.length (Url.sch_drop u)
    rw [List.length_append, List.length_cons] at this
    omega
  have hle2 : u.sch.length + 1 ≤ (Url.str u).length := by omega
  have htn : ((u.sch.length : Int) + 1).toNat = u.sch.length + 1 := by omega
  obtain ⟨p, hp⟩ := Url.path_cons (Url.may_good h2)
  have slc : ∀ W : World, Calls Tryz.prog 52 #[.string (str p)] W fun e w' => e = .returned (.bool (Url.slashed p)) ∧ w' = W := fun W => RSlash5_any p W
  have h7 : Url.slashed p = Url.slashed2 u.path := by rw [hp]; rfl
  rw [h4] at h7
  rw [h7] at slc
  have hpx : (str u.path).extract 1 (p.length + 1) = str p := by
    have := str_from u.path 1
    rw [hp] at this ⊢
    exact this
  have hps : (str u.path).size = p.length + 1 := by rw [str_size, hp]; rfl
  have h1le : (1 : Int) ≤ ((p.length + 1 : Nat) : Int) := by omega
  have h1le2 : (1 : Int) ≤ (p.length : Int) + 1 := by omega
  clear hp h7
  clear h3 h5 h6 h4
  unfold uVal at hzu
  unfold uVal uCells at rorg
  unfold uVal
  unfold uCells at hzu hB ⊢
  go_enter Tryz.func27, Tryz.ntmps27
  go_upto_region 1 with fail
  generalize (w.alloc (.cells #[.string (str b.sch), .string (str b.host), .int .i64 b.port, .string (str b.path), .string (str b.query), .string (str b.frag), .bool b.hq, .bool b.hf] 25)).alloc (.cells #[.string (str u.sch), .string (str u.host), .int .i64 u.port, .string (str u.path), .string (str u.query), .string (str u.frag), .bool u.hq, .bool u.hf] 25) = w0 at hB ⊢
  go_upto_region 2 with (first
    | ((with_reducible show wpList _ _ _ ({ dst := _, op := Op.load 25 (Operand.tmp 3), type := _, pos := _, after := _, guard := _ } :: _) _ _); refine wpList_load_Ug _ rfl (by rfl) (w.heap.size + 1) u rfl hB.u_ ?_)
    | (go_at_call 13; refine (strc _).mono ?_; rintro e w1 ⟨rfl, hb1⟩; replace hB := hB.step hb1; clear hb1; have a0 := hB.b_.cell 0; have a1 := hB.b_.cell 1; have a2 := hB.b_.cell 2; have c0 := hB.u_.cell 0; have c1 := hB.u_.cell 1; have c2 := hB.u_.cell 2; have c3 := hB.u_.cell 3; simp only [uCells] at a0 a1 a2 c0 c1 c2 c3))
  go_upto_region 3 with (go_at_call 13; refine (rorg _).mono ?_; (try clear a0 a1 a2 c0 c1 c2 c3); rintro e w1 ⟨rfl, hb1⟩; replace hB := hB.step hb1; clear hb1; have a0 := hB.b_.cell 0; have a1 := hB.b_.cell 1; have a2 := hB.b_.cell 2; have c0 := hB.u_.cell 0; have c1 := hB.u_.cell 1; have c2 := hB.u_.cell 2; have c3 := hB.u_.cell 3; simp only [uCells] at a0 a1 a2 c0 c1 c2 c3)
  go_wp2_with (first
    | ((with_reducible show wpList _ _ _ ({ dst := _, op := Op.load 25 (Operand.tmp 2), type := _, pos := _, after := _, guard := _ } :: _) _ _); refine wpList_load_Ug _ rfl (by rfl) (w.heap.size) b rfl hB.b_ ?_)
    | ((with_reducible show wpList _ _ _ ({ dst := _, op := Op.load 25 (Operand.tmp 3), type := _, pos := _, after := _, guard := _ } :: _) _ _); refine wpList_load_Ug _ rfl (by rfl) (w.heap.size + 1) u rfl hB.u_ ?_)
    | (go_at_call 30; refine (RMay5_any _ _ (by assumption) (by assumption)).mono ?_; (try clear a0 a1 a2 c0 c1 c2 c3); rintro e w1 ⟨rfl, hb1⟩; replace hB := hB.step hb1; clear hb1; have a0 := hB.b_.cell 0; have a1 := hB.b_.cell 1; have a2 := hB.b_.cell 2; have c0 := hB.u_.cell 0; have c1 := hB.u_.cell 1; have c2 := hB.u_.cell 2; have c3 := hB.u_.cell 3; simp only [uCells] at a0 a1 a2 c0 c1 c2 c3)
    | (go_at_call 52; refine (slc _).mono ?_; rintro e w1 ⟨rfl, hw1⟩; rw [hw1]; clear hw1))
  go_ret
  exact ⟨rfl, hB.bel⟩
set_option maxHeartbeats 4000000 in
set_option maxRecDepth 100000 in
theorem RLink_near (b u : Url.U) (w : World) (fb : Fits b) (fu : Fits u) (zb : (Url.str b).length ≤ 1000000) (zu : (Url.str u).length ≤ 1000000) (h1 : Url.may b = true) (h2 : Url.may u = true) (h3 : b.sch = u.sch) (h5 : b.host = u.host) (h6 : b.port = u.port) (h4 : Url.slashed2 u.path = false) :
    Calls Tryz.prog 27 #[uVal b, uVal u] w fun e w' => e = .returned (.string (str ((Url.str u).drop (Url.origin u).length))) ∧ Below w.heap.size w w' := by
  have hzu := (zero_of_info zeroURL).1
  have hB := BU.start w b u
  have strc : ∀ W : World, Calls Tryz.prog 13 #[uVal u] W fun e w' => e = .returned (.string (str (Url.str u))) ∧ Below W.heap.size W w' := fun W => RString_any u W fu
  have rorg : ∀ W : World, Calls Tryz.prog 13 #[uVal (placeU u)] W fun e w' => e = .returned (.string (str (Url.origin u))) ∧ Below W.heap.size W w' := fun W => RString_any (placeU u) W (placeU_fits fu)
  have hsq : ((str b.sch).toList == (str u.sch).toList) = true := by rw [str_beq]; exact beq_iff_eq.2 h3
  have hhq : ((str b.host).toList == (str u.host).toList) = true := by rw [str_beq]; exact beq_iff_eq.2 h5
  have hpq : (b.port == u.port) = true := beq_iff_eq.2 h6
  have hx2 : (str (Url.str u)).extract (Url.origin u).length (Url.str u).length = str ((Url.str u).drop (Url.origin u).length) := str_from _ _
  have hss := str_size (Url.str u)
  have hso := str_size (Url.origin u)
  have hle : ((Url.origin u).length : Int) ≤ ((Url.str u).length : Int) := by
    have := congrArg List.length (Url.str_origin u)
    rw [List.length_append] at this
    omega
  obtain ⟨p, hp⟩ := Url.path_cons (Url.may_good h2)
  have slc : ∀ W : World, Calls Tryz.prog 52 #[.string (str p)] W fun e w' => e = .returned (.bool (Url.slashed p)) ∧ w' = W := fun W => RSlash5_any p W
  have h7 : Url.slashed p = Url.slashed2 u.path := by rw [hp]; rfl
  rw [h4] at h7
  rw [h7] at slc
  have hpx : (str u.path).extract 1 (p.length + 1) = str p := by
    have := str_from u.path 1
    rw [hp] at this ⊢
    exact this
  have hps : (str u.path).size = p.length + 1 := by rw [str_size, hp]; rfl
  have h1le : (1 : Int) ≤ ((p.length + 1 : Nat) : Int) := by omega
  have h1le2 : (1 : Int) ≤ (p.length : Int) + 1 := by omega
  clear hp h7
  clear h3 h5 h6 h4
  unfold uVal at hzu
  unfold uVal uCells at rorg
  unfold uVal
  unfold uCells at hzu hB ⊢
  go_enter Tryz.func27, Tryz.ntmps27
  go_upto_region 1 with fail
  generalize (w.alloc (.cells #[.string (str b.sch), .string (str b.host), .int .i64 b.port, .string (str b.path), .string (str b.query), .string (str b.frag), .bool b.hq, .bool b.hf] 25)).alloc (.cells #[.string (str u.sch), .string (str u.host), .int .i64 u.port, .string (str u.path), .string (str u.query), .string (str u.frag), .bool u.hq, .bool u.hf] 25) = w0 at hB ⊢
  go_upto_region 2 with (first
    | ((with_reducible show wpList _ _ _ ({ dst := _, op := Op.load 25 (Operand.tmp 3), type := _, pos := _, after := _, guard := _ } :: _) _ _); refine wpList_load_Ug _ rfl (by rfl) (w.heap.size + 1) u rfl hB.u_ ?_)
    | (go_at_call 13; refine (strc _).mono ?_; rintro e w1 ⟨rfl, hb1⟩; replace hB := hB.step hb1; clear hb1; have a0 := hB.b_.cell 0; have a1 := hB.b_.cell 1; have a2 := hB.b_.cell 2; have c0 := hB.u_.cell 0; have c1 := hB.u_.cell 1; have c2 := hB.u_.cell 2; have c3 := hB.u_.cell 3; simp only [uCells] at a0 a1 a2 c0 c1 c2 c3))
  go_upto_region 3 with (go_at_call 13; refine (rorg _).mono ?_; (try clear a0 a1 a2 c0 c1 c2 c3); rintro e w1 ⟨rfl, hb1⟩; replace hB := hB.step hb1; clear hb1; have a0 := hB.b_.cell 0; have a1 := hB.b_.cell 1; have a2 := hB.b_.cell 2; have c0 := hB.u_.cell 0; have c1 := hB.u_.cell 1; have c2 := hB.u_.cell 2; have c3 := hB.u_.cell 3; simp only [uCells] at a0 a1 a2 c0 c1 c2 c3)
  go_wp2_with (first
    | ((with_reducible show wpList _ _ _ ({ dst := _, op := Op.load 25 (Operand.tmp 2), type := _, pos := _, after := _, guard := _ } :: _) _ _); refine wpList_load_Ug _ rfl (by rfl) (w.heap.size) b rfl hB.b_ ?_)
    | ((with_reducible show wpList _ _ _ ({ dst := _, op := Op.load 25 (Operand.tmp 3), type := _, pos := _, after := _, guard := _ } :: _) _ _); refine wpList_load_Ug _ rfl (by rfl) (w.heap.size + 1) u rfl hB.u_ ?_)
    | (go_at_call 30; refine (RMay5_any _ _ (by assumption) (by assumption)).mono ?_; (try clear a0 a1 a2 c0 c1 c2 c3); rintro e w1 ⟨rfl, hb1⟩; replace hB := hB.step hb1; clear hb1; have a0 := hB.b_.cell 0; have a1 := hB.b_.cell 1; have a2 := hB.b_.cell 2; have c0 := hB.u_.cell 0; have c1 := hB.u_.cell 1; have c2 := hB.u_.cell 2; have c3 := hB.u_.cell 3; simp only [uCells] at a0 a1 a2 c0 c1 c2 c3)
    | (go_at_call 52; refine (slc _).mono ?_; rintro e w1 ⟨rfl, hw1⟩; rw [hw1]; clear hw1))
  go_ret
  exact ⟨rfl, hB.bel⟩
theorem RLink_any (b u : Url.U) (w : World) (fb : Fits b) (fu : Fits u) (zb : (Url.str b).length ≤ 1000000) (zu : (Url.str u).length ≤ 1000000) :
    Calls Tryz.prog 27 #[uVal b, uVal u] w fun e w' => e = .returned (.string (str (Url.link b u))) ∧ Below w.heap.size w w' := by
  cases h1 : Url.may b
  · rw [link_no (fun h => by rw [h1] at h; cases h.1)]
    exact RLink_bad1 b u w fb fu zb zu h1
  · cases h2 : Url.may u
    · rw [link_no (fun h => by rw [h2] at h; cases h.2)]
      exact RLink_bad2 b u w fb fu zb zu h1 h2
    · have gb := Url.may_good h1
      have g := Url.may_good h2
      have hi := Url.origin_iff g gb
      rw [link_yes h1 h2]
      by_cases h3 : b.sch = u.sch
      · by_cases h5 : b.host = u.host
        · by_cases h6 : b.port = u.port
          · have ho := hi.2 ⟨h3.symm, h5.symm, h6.symm⟩
            cases h4 : Url.slashed2 u.path
            · rw [if_pos ⟨ho, rfl⟩]
              exact RLink_near b u w fb fu zb zu h1 h2 h3 h5 h6 h4
            · rw [if_neg (fun h => by cases h.2), if_pos h3.symm]
              exact RLink_two b u w fb fu zb zu h1 h2 h3 h5 h6 h4
          · rw [if_neg (fun h => h6 (hi.1 h.1).2.2.symm), if_pos h3.symm]
            exact RLink_port b u w fb fu zb zu h1 h2 h3 h5 h6
        · rw [if_neg (fun h => h5 (hi.1 h.1).2.1.symm), if_pos h3.symm]
          exact RLink_host b u w fb fu zb zu h1 h2 h3 h5
      · rw [if_neg (fun h => h3 (hi.1 h.1).1.symm), if_neg (fun h => h3 h.symm)]
        exact RLink_else b u w fb fu zb zu h1 h2 h3
end Go.Proofs.YtnmkhbelmdokmaaGreatDoor
